/- The program's JoinStrings: it answers what the model's answers. -/
import Derived.Test.YtpbjddiopfkgbaaJoinSpec
import Derived.Test.YtpbjddiopfkgbaaShelf
namespace Go.Proofs.Ytpbjddiopfkgbaa
set_option linter.unusedVariables false
open Go.RowKit

theorem contains_one (s : ByteArray) (c : UInt8) (w : World) (b : Bool) (hb : stands s.data.toList c = b) :
    Calls Try.prog 81 #[.string s, .string ⟨#[c]⟩] w fun e w' => e = .returned (.bool b) ∧ w = w' :=
  (Try.strings_Contains_one s c w).mono fun _ _ ⟨x, y⟩ => ⟨by rw [x, indexByte_stands, hb], y.symm⟩

set_option maxHeartbeats 1000000 in
theorem implJoin_bad (v : Value) (ss : List ByteArray) (sep : ByteArray) (w : World) (h1 : RowOf Value.string w v ss) (hsep : sep.size ≤ maxLen) (hb : sep.size ≠ 1 ∨ ss = []) :
    Calls Try.prog 47 #[v, .string sep] w fun e w' => e = .returned noJoin ∧ Below w.heap.size w w' := by
  have hcap := h1.cap
  obtain ⟨a1, c1, rfl, hl1, hm1, r1⟩ := h1
  clear r1
  unfold maxLen at hsep
  by_cases he : ss.length = 0
  · have hy : ((ss.length : Int) == 0) = true := by rw [he]; rfl
    clear he hb
    go_enter Try.func47, Try.ntmps47
    go_wp2
    go_ret2
    exact ⟨rfl, Below.refl _ _⟩
  · have hx : ((sep.size : Int) != 1) = true := by
      have h : sep.size ≠ 1 := hb.resolve_right (fun e => he (by rw [e]; rfl))
      simp; omega
    have hy : ((ss.length : Int) == 0) = false := by rw [beq_eq_false_iff_ne]; omega
    clear hb he
    go_enter Try.func47, Try.ntmps47
    go_wp2
    go_ret2
    exact ⟨rfl, Below.refl _ _⟩

set_option maxHeartbeats 2000000 in
theorem implJoin_one (v : Value) (ss : List ByteArray) (c : UInt8) (w : World) (h1 : RowOf Value.string w v ss) (hz : ∀ s ∈ ss, s.size ≤ 1099511627776) (h0 : ss ≠ []) (hl : ss.length ≤ 1099511627776) :
    Calls Try.prog 47 #[v, .string ⟨#[c]⟩] w fun e w' => e = .returned (joinAns ss c) ∧ Below w.heap.size w w' := by
  have hcap := h1.cap
  obtain ⟨a1, c1, rfl, hl1, hm1, r1⟩ := h1
  obtain ⟨b1, o1, hb1, rfl, e1⟩ := r1.resolve_left h0
  have hn0 : 0 < ss.length := List.length_pos_iff.2 h0
  have hx : (((ss.length : Nat) : Int) == 0) = false := by rw [beq_eq_false_iff_ne]; omega
  have E1 := Lib.hid e1
  have Z := Lib.hid hz
  have H0 := Lib.hid h0
  clear e1 r1 hz h0
  go_enter Try.func47, Try.ntmps47
  go_wp2
  go_loopw [6, 8, 22] (fun t _ i wr => ∃ k q : Nat, k ≤ ss.length ∧ i = .int .i64 k ∧ t = .int .i64 ((ss.length : Int) - 1 + q) ∧ q ≤ 4000 ∧ Hid (q = sz (ss.take k)) ∧ (0 < k → q + (ss.length - 1) ≤ 4000) ∧
      (∀ j (h : j < ss.length), j < k → ¬ c ∈ ss[j].data.toList) ∧ Below w.heap.size w wr) (fun _ _ i _ => ss.length - (intOf i).toNat)
  case atStart => exact ⟨0, 0, Nat.zero_le _, rfl, by simp, by omega, rfl, fun h => by omega, fun j _ h => by omega, Below.refl _ _⟩
  case round =>
    obtain ⟨k, q, hk, rfl, rfl, hq, HQ, hq1, hn, hb⟩ := hrel
    have HN := Lib.hid hn
    have HQ1 := Lib.hid hq1
    clear hn hq1
    by_cases hlt : k < ss.length
    · obtain ⟨s, hs⟩ : ∃ s, ss[k] = s := ⟨_, rfl⟩
      have f1 := (hb.cell (p := ⟨b1, o1 + k, none⟩) hb1).trans (E1.out k hlt)
      rw [hs] at f1
      have hsz := Z.out s (hs ▸ List.getElem_mem hlt)
      have HS := Lib.hid hs
      clear hs
      have g0 : (0 : Int) ≤ (k : Int) := by omega
      have g1 : (k : Int) < (ss.length : Int) := by omega
      have hnext : q + s.size = sz (ss.take (k + 1)) := by rw [take_succ_snoc ss k hlt, sz_snoc, HS.out, HQ.out]
      have HNX := Lib.hid hnext
      clear hnext
      by_cases hbig : ss.length - 1 + q + s.size ≤ 4000
      · have hbi : (ss.length : Int) - 1 + q + s.size ≤ 4000 := by omega
        have hst : ∃ b, stands s.data.toList c = b := ⟨_, rfl⟩
        obtain ⟨b, hst⟩ := hst
        have HST := Lib.hid hst
        clear hst
        cases b with
        | true =>
          go_wp2_with (go_at_call 81; refine (contains_one _ _ _ _ HST.out).mono ?_; rintro e w' ⟨rfl, rfl⟩)
          go_ret2
          exact ⟨ret_val (Eq.symm (joinAns_no (joinBad_stands k hlt (by rw [HS.out]; exact (stands_iff _ _).1 HST.out)))), hb⟩
        | false =>
          go_wp2_with (go_at_call 81; refine (contains_one _ _ _ _ HST.out).mono ?_; rintro e w' ⟨rfl, rfl⟩)
          go_roundw
          case rel =>
            refine ⟨k + 1, q + s.size, by omega, by go_num, by go_num, by omega, HNX.out, fun _ => by omega, fun j h hj => ?_, hb⟩
            rcases Nat.lt_or_ge j k with h' | h'
            · exact HN.out j h h'
            · obtain rfl : j = k := by omega
              rw [HS.out]; exact (stands_no _ _).1 HST.out
          case measure => simp [intOf]; omega
      · have hbi : 4000 < (ss.length : Int) - 1 + q + s.size := by omega
        go_wp2_with fail
        go_ret2
        exact ⟨ret_val (Eq.symm (joinAns_no (joinBad_long (k + 1) (by omega) (by omega) (by rw [← HNX.out]; omega)))), hb⟩
    · have f2 : ∀ (j : Nat) x, ss[j]? = some x → wr.cell? ⟨b1, o1 + j, none⟩ = some (.string x) := fun j x hx => by
        obtain ⟨hj, rfl⟩ := List.getElem?_eq_some_iff.1 hx
        exact (hb.cell (p := ⟨b1, o1 + j, none⟩) hb1).trans (E1.out j hj)
      have F2 := Lib.hid f2
      obtain rfl : k = ss.length := by omega
      have hgood : joinGood ss c := by
        refine ⟨H0.out, fun s hs => (by obtain ⟨j, hj, rfl⟩ := List.getElem_of_mem hs; exact HN.out j hj hj), ?_⟩
        have h1 := sj_len ss c H0.out
        have h2 := HQ1.out hn0
        have h3 := HQ.out
        rw [List.take_of_length_le (Nat.le_refl _)] at h3
        omega
      have HG := Lib.hid hgood
      have hsz := hb.size
      clear f2 hgood
      go_wp2_with (go_at_call 82; refine (Try.strings_Join b1 o1 c1 ss ⟨#[c]⟩ _ F2.out (by omega) (by omega) hl1 (Nat.le_trans HG.out.2.2 (by omega))).mono ?_; rintro e w' ⟨rfl, hb'⟩)
      go_ret2
      exact ⟨ret_val (Eq.symm (joinAns_yes HG.out)), hb.trans (hb'.mono hsz)⟩
end Go.Proofs.Ytpbjddiopfkgbaa
