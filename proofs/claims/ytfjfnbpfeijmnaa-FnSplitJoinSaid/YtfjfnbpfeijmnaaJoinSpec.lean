/- The model's JoinStrings: what it answers at every list of texts and every separator. -/
import Derived.Test.YtfjfnbpfeijmnaaStands
import Derived.Test.YtfjfnbpfeijmnaaJoinPlain
import Derived.BigQuiet
import Derived.Deep.QuietTactic
import Derived.WalkSmall
import Derived.WalkSpells
import Derived.WalkLawsBesides
import Derived.Outline
namespace Go.Proofs.Ytfjfnbpfeijmnaa
set_option linter.unusedVariables false
open Go.RowKit

def noJoin : Value := .tuple #[.string ⟨#[]⟩, .bool false]

theorem stands_quiet (s : ByteArray) (c : UInt8) (w : World) (hs : s.size ≤ maxLen) (b : Bool) (hb : stands s.data.toList c = b) :
    Calls Try.prog 33 #[.string s, .int .u8 (c.toNat : Int)] w fun e w' => e = .returned (.bool b) ∧ w' = w :=
  (stands_any s c w hs).mono fun _ _ ⟨x, y⟩ => ⟨hb ▸ x, y.symm⟩

set_option maxHeartbeats 1000000 in
theorem specJoin_bad (v : Value) (ss : List ByteArray) (sep : ByteArray) (w : World) (h1 : RowOf Value.string w v ss) (hsep : sep.size ≤ maxLen) (hb : sep.size ≠ 1 ∨ ss = []) :
    Calls Try.prog 13 #[v, .string sep] w fun e w' => e = .returned noJoin ∧ Below w.heap.size w w' := by
  have hcap := h1.cap
  obtain ⟨a1, c1, rfl, hl1, hm1, r1⟩ := h1
  clear r1
  unfold maxLen at hsep
  by_cases h : sep.size = 1
  · have he : ss.length = 0 := by rw [hb.resolve_left (fun x => x h)]; rfl
    have hx : ((sep.size : Int) != 1) = false := by simp [h]
    have hy : ((ss.length : Int) == 0) = true := by rw [he]; rfl
    clear he h hb
    go_enter Try.func13, Try.ntmps13
    go_wp2
    go_ret2
    exact ⟨rfl, Below.refl _ _⟩
  · have hx : ((sep.size : Int) != 1) = true := by simp; omega
    clear h hb
    go_enter Try.func13, Try.ntmps13
    go_wp2
    go_ret2
    exact ⟨rfl, Below.refl _ _⟩

set_option maxHeartbeats 2000000 in
theorem specJoin_one (v : Value) (ss : List ByteArray) (c : UInt8) (w : World) (h1 : RowOf Value.string w v ss) (hz : ∀ s ∈ ss, s.size ≤ 1099511627776) (h0 : ss ≠ []) :
    Calls Try.prog 13 #[v, .string ⟨#[c]⟩] w fun e w' => e = .returned (joinAns ss c) ∧ Below w.heap.size w w' := by
  have hcap := h1.cap
  obtain ⟨a1, c1, rfl, hl1, hm1, r1⟩ := h1
  obtain ⟨b1, o1, hb1, rfl, e1⟩ := r1.resolve_left h0
  have hn0 : 0 < ss.length := List.length_pos_iff.2 h0
  have hx : (((ss.length : Nat) : Int) == 0) = false := by rw [beq_eq_false_iff_ne]; omega
  have E1 := Lib.hid e1
  have Z := Lib.hid hz
  have H0 := Lib.hid h0
  clear e1 r1 hz h0
  have hi : ∀ h, (⟨#[c]⟩ : ByteArray)[0]'h = c := fun _ => rfl
  go_enter Try.func13, Try.ntmps13
  go_wp2
  go_loopw [6, 7] (fun o i wr => ∃ k : Nat, k ≤ ss.length ∧ i = .int .i64 k ∧ o = .string ⟨(sj (ss.take k) c).toArray⟩ ∧ (sj (ss.take k) c).length ≤ 4000 ∧
      (∀ j (h : j < ss.length), j < k → ¬ c ∈ ss[j].data.toList) ∧ Below w.heap.size w wr) (fun _ i _ => ss.length - (intOf i).toNat)
  case atStart => exact ⟨0, Nat.zero_le _, rfl, rfl, by simp [sj_nil], fun j _ h => by omega, Below.refl _ _⟩
  case round =>
    obtain ⟨k, hk, rfl, rfl, hlen, hn, hb⟩ := hrel
    have HN := Lib.hid hn
    clear hn
    by_cases hlt : k < ss.length
    · obtain ⟨s, hs⟩ : ∃ s, ss[k] = s := ⟨_, rfl⟩
      have f1 := (hb.cell (p := ⟨b1, o1 + k, none⟩) hb1).trans (E1.out k hlt)
      rw [hs] at f1
      have hsz := Z.out s (hs ▸ List.getElem_mem hlt)
      have HS := Lib.hid hs
      clear hs
      have hml : s.size ≤ maxLen := by unfold maxLen; omega
      have g0 : (0 : Int) ≤ (k : Int) := by omega
      have g1 : (k : Int) < (ss.length : Int) := by omega
      obtain ⟨o, ho⟩ : ∃ o, sj (ss.take k) c = o := ⟨_, rfl⟩
      rw [ho] at hlen
      simp only [ho]
      have HO := Lib.hid ho
      clear ho
      have hol := Lib.hid hlen
      by_cases hst : stands s.data.toList c = true
      · have HST := Lib.hid hst
        clear hst
        go_wp2
        go_quiet ((go_at_call 33; exact Calls.quiet_of_same (stands_quiet _ _ _ hml _ HST.out)))
        go_wp2
        go_ret2
        exact ⟨ret_val (Eq.symm (joinAns_no (joinBad_stands k hlt (by rw [HS.out]; exact (stands_iff _ _).1 HST.out)))), below_drewN hb _⟩
      · have hst' : stands s.data.toList c = false := by simpa using hst
        have hnew : ∀ j (h : j < ss.length), j < k + 1 → ¬ c ∈ ss[j].data.toList := fun j h hj => by
          rcases Nat.lt_or_ge j k with h' | h'
          · exact HN.out j h h'
          · obtain rfl : j = k := by omega
            rw [HS.out]; exact (stands_no _ _).1 hst'
        have HNEW := Lib.hid hnew
        have HST := Lib.hid hst'
        clear hnew hst' hst
        have htk : ss.take (k + 1) = ss.take k ++ [s] := by rw [take_succ_snoc ss k hlt, HS.out]
        by_cases hk0 : k = 0
        · subst hk0
          rw [Nat.add_zero] at f1
          have hjj : sj (ss.take (0 + 1)) c = s.data.toList := by rw [htk]; simp [sj_one]
          have HJJ := Lib.hid hjj
          have ho0 : o = [] := by rw [← HO.out]; rfl
          subst ho0
          clear hjj htk hlen
          by_cases hbig : s.size ≤ 4000
          · go_wp2
            go_quiet ((go_at_call 33; exact Calls.quiet_of_same (stands_quiet _ _ _ hml _ HST.out)))
            go_wp2
            go_roundw
            case rel => exact ⟨1, by omega, by go_num, by rw [HJJ.out, cat1], by rw [HJJ.out]; simpa using hbig, HNEW.out, below_drewN hb _⟩
            case measure => simp [intOf]; omega
          · go_wp2
            go_quiet ((go_at_call 33; exact Calls.quiet_of_same (stands_quiet _ _ _ hml _ HST.out)))
            go_wp2
            go_ret2
            refine ⟨ret_val (Eq.symm (joinAns_no (fun g => ?_))), below_drewN hb _⟩
            have h1 := sj_len ss c g.1
            have h2 := sz_take_le ss (0 + 1)
            have h3 := sj_len (ss.take (0 + 1)) c (take_ne' _ _ (by omega) (by omega))
            have h4 := g.2.2
            rw [HJJ.out] at h3
            simp only [Array.length_toList, List.length_take] at h3
            have e : s.data.size = s.size := rfl
            omega
        · have hjj : sj (ss.take (k + 1)) c = o ++ c :: s.data.toList := by rw [htk, sj_snoc _ _ _ (take_ne _ _ (by omega) hlt), HO.out]
          have HJJ := Lib.hid hjj
          clear hjj htk
          have hk1 : (0 : Int) < (k : Int) := by omega
          by_cases hbig : o.length + 1 + s.size ≤ 4000
          · go_wp2
            go_quiet ((go_at_call 33; exact Calls.quiet_of_same (stands_quiet _ _ _ hml _ HST.out)))
            go_wp2
            go_roundw
            case rel => exact ⟨k + 1, by omega, by go_num, by rw [HJJ.out, cat3], by rw [HJJ.out]; simp; omega, HNEW.out, below_drewN hb _⟩
            case measure => simp [intOf]; omega
          · go_wp2
            go_quiet ((go_at_call 33; exact Calls.quiet_of_same (stands_quiet _ _ _ hml _ HST.out)))
            go_wp2
            go_ret2
            refine ⟨ret_val (Eq.symm (joinAns_no (fun g => ?_))), below_drewN hb _⟩
            have h1 := sj_len ss c g.1
            have h2 := sz_take_le ss (k + 1)
            have h3 := sj_len (ss.take (k + 1)) c (take_ne' _ _ (by omega) (by omega))
            have h4 := g.2.2
            rw [HJJ.out] at h3
            simp only [Array.length_toList, List.length_take, List.length_append, List.length_cons] at h3
            have e : s.data.size = s.size := rfl
            omega
    · have hend := Lib.hid hlen
      go_wp2
      go_ret2
      obtain rfl : k = ss.length := by omega
      refine ⟨ret_val (Eq.symm ?_), hb⟩
      rw [List.take_of_length_le (Nat.le_refl _)] at hend
      rw [joinAns_yes ⟨H0.out, fun s hs => (by obtain ⟨j, hj, rfl⟩ := List.getElem_of_mem hs; exact HN.out j hj hj), hend.out⟩, List.take_of_length_le (Nat.le_refl _)]
      rfl
end Go.Proofs.Ytfjfnbpfeijmnaa
