/- The laws' own marks of a list of Hold. -/
import Derived.Test.YtkjpehpodlpdhaaEqHo
import Derived.Test.YtkjpehpodlpdhaaMarkInt
import Derived.Deep.RegionHeld3
import Derived.WalkSmall
namespace Go.Proofs.Ytkjpehpodlpdhaa
set_option linter.unusedVariables false
open Go.RowKit

/-- How many marks the rows take. -/
def msHo (xs : List Ho) : Nat := (xs.map (fun x => x.ser.length)).sum
theorem msHo_take_succ (xs : List Ho) (k : Nat) (h : k < xs.length) : msHo (xs.take (k + 1)) = msHo (xs.take k) + xs[k].ser.length := by
  unfold msHo
  rw [List.take_add_one, List.getElem?_eq_getElem h, List.map_append, List.sum_append]
  simp only [Option.toList_some, List.map_cons, List.map_nil, List.sum_cons, List.sum_nil, Nat.add_zero]
theorem msHo_take_le (xs : List Ho) (k : Nat) : msHo (xs.take k) ≤ msHo xs := by
  have h : msHo xs = msHo (xs.take k) + msHo (xs.drop k) := by
    unfold msHo
    rw [← List.sum_append, ← List.map_append, List.take_append_drop]
  omega
theorem msHo_le (xs : List Ho) : msHo xs ≤ szHo xs * 4 := by
  induction xs with
  | nil => simp [msHo]
  | cons x xs ih =>
    have h := sz1Ho_len x
    simp only [msHo, szHo, List.map_cons, List.sum_cons] at ih ⊢
    omega

set_option maxHeartbeats 2000000 in
theorem markHoS_val (v : Value) (rs : List Ho) (lo hi k0 : Nat) (w : World) (hk0 : 1 ≤ k0) (hk1 : k0 + rs.length * 5 + msHo rs ≤ 1099511627776) (h : HosO lo hi w v rs) :
    Calls Try.prog 26 #[v, .int .i64 k0] w fun e w' => ∃ n : Nat, e = .returned (.int .i64 n) ∧ n = k0 + rs.length * 5 + msHo rs ∧ Only lo hi w w' := by
  obtain ⟨css, f, hl, ho, hu, hlo, hm, hhi, he⟩ := h
  rcases ho.form with ⟨rfl, h0⟩ | ⟨g, cap, hv, hg, hgl, hn, hmx⟩
  · have hx : rs = [] := by rw [h0] at hl; exact List.length_eq_zero_iff.1 hl.symm
    subst hx
    clear h0 ho he hl
    go_enter Try.func26, Try.ntmps26
    go_wp2
    refine wp_loop_rounds 1 ?_
    rw [rounds_succ]
    go_wp2
    go_ret
    exact ⟨k0, rfl, by simp [msHo], Only.refl _ _ _⟩
  · rw [hl] at hv hn
    subst hv
    unfold maxLen at hmx
    have hg0 : g < f 0 := hu g rfl
    have HM := Lib.hid hm
    have HL := Lib.hid hl
    have HO0 := Lib.hid ho
    have HE := Lib.hid he
    have HF := Lib.hid (And.intro hlo hhi)
    clear ho he hm hl hlo hhi hu
    go_enter Try.func26, Try.ntmps26
    go_wp2
    go_loopw [1, 5] (fun q i wr => ∃ (k n : Nat) (cs : List (List Value)), k ≤ rs.length ∧ i = .int .i64 k ∧ q = .int .i64 n ∧ Hid (n = k0 + k * 5 + msHo (rs.take k)) ∧ n ≤ 1099511627776 ∧
        Own lo 100 6 wr (.slice (some ⟨g, 0, none⟩) rs.length cap) cs ∧ Hid (cs.length = rs.length ∧ ∀ i (h1 : i < cs.length) (h2 : i < rs.length), k ≤ i → ∃ s, cs[i] = hoC rs[i] s ∧ IntsO (f i) (f (i + 1)) wr s rs[i].ser) ∧ Only lo hi w wr) (fun _ i _ => rs.length - (intOf i).toNat)
    case atStart => exact ⟨0, k0, css, Nat.zero_le _, rfl, rfl, Lib.hid (by simp [msHo]), by omega, HO0.out, Lib.hid ⟨HL.out, fun i h1 h2 _ => by obtain ⟨s, e1, e2, _⟩ := HE.out i h1 h2; exact ⟨s, e1, e2⟩⟩, Only.refl _ _ _⟩
    case round =>
      obtain ⟨k, n, cs, hk, rfl, rfl, HN, hnb, hO, I, hOn⟩ := hrel
      have HO := Lib.hid hO
      by_cases hlt : k < rs.length
      · obtain ⟨r, hx⟩ : ∃ r, rs[k] = r := ⟨_, rfl⟩
        obtain ⟨s, e1, e2⟩ := I.out.2 k (by rw [I.out.1]; exact hlt) hlt (Nat.le_refl _)
        obtain ⟨sa, sn, sc, rfl⟩ := e2.slice
        rw [hx] at e1 e2
        simp only [hoC] at e1
        have hkc : k < cs.length := by rw [I.out.1]; exact hlt
        have HKC := Lib.hid hkc
        have HX := Lib.hid hx
        have E2 := Lib.hid e2
        have HI : Hid (Own lo 100 6 wr (.slice (some ⟨g, 0, none⟩) rs.length cap) cs ∧ ∃ h : k < cs.length, cs[k] = [.int .i64 r.id, .int .i64 r.frm, .int .i64 r.til, .slice sa sn sc, .int .i64 r.fst, .int .i64 r.lst]) := ⟨HO.out, hkc, e1⟩
        have HON : Hid (Only g (g + 1) wr wr) := Lib.hid (Only.refl _ _ _)
        have g0 : (0 : Int) ≤ (k : Int) := by omega
        have g1 : (k : Int) < (rs.length : Int) := by omega
        have hszk := msHo_take_succ rs k hlt
        have hszl := msHo_take_le rs (k + 1)
        rw [hx] at hszk
        have hnn : n + 5 + r.ser.length ≤ 1099511627776 := by have := HN.out; omega
        have HSZ := Lib.hid hszk
        have c0 := HI.out.1.cell k 0 HI.out.2.1 (by omega)
        have c1 := HI.out.1.cell k 1 HI.out.2.1 (by omega)
        have c2 := HI.out.1.cell k 2 HI.out.2.1 (by omega)
        have c3 := HI.out.1.cell k 3 HI.out.2.1 (by omega)
        have c4 := HI.out.1.cell k 4 HI.out.2.1 (by omega)
        have c5 := HI.out.1.cell k 5 HI.out.2.1 (by omega)
        rw [HI.out.2.2] at c0 c1 c2 c3 c4 c5
        simp at c0 c1 c2 c3 c4 c5
        have fr0 := HI.out.1.frozen (k * 6)
        have fr1 := HI.out.1.frozen (k * 6 + 1)
        have fr2 := HI.out.1.frozen (k * 6 + 2)
        have fr3 := HI.out.1.frozen (k * 6 + 3)
        have fr4 := HI.out.1.frozen (k * 6 + 4)
        have fr5 := HI.out.1.frozen (k * 6 + 5)
        clear hO e1 e2 hx hszk hszl hkc HO
        go_wp2_with fail
        obtain ⟨p1, p2⟩ := Own.puts [.int .i64 ((n : Int)), .int .i64 ((n : Int) + 1), .int .i64 ((n : Int) + 1 + 1)] _ _ k 0 HI.out.2.1 (by simp) HI.out.1
        rw [HI.out.2.2] at p1
        simp only [setFrom, List.set_cons_zero, List.set_cons_succ, Nat.zero_add, Nat.add_zero] at p1 p2
        replace HI : Hid (Own lo 100 6 _ (.slice (some ⟨g, 0, none⟩) rs.length cap) (cs.set k [.int .i64 ((n : Int)), .int .i64 ((n : Int) + 1), .int .i64 ((n : Int) + 1 + 1), .slice sa sn sc, .int .i64 r.fst, .int .i64 r.lst]) ∧ ∃ h : k < (cs.set k [.int .i64 ((n : Int)), .int .i64 ((n : Int) + 1), .int .i64 ((n : Int) + 1 + 1), .slice sa sn sc, .int .i64 r.fst, .int .i64 r.lst]).length, (cs.set k [.int .i64 ((n : Int)), .int .i64 ((n : Int) + 1), .int .i64 ((n : Int) + 1 + 1), .slice sa sn sc, .int .i64 r.fst, .int .i64 r.lst])[k] = [.int .i64 ((n : Int)), .int .i64 ((n : Int) + 1), .int .i64 ((n : Int) + 1 + 1), .slice sa sn sc, .int .i64 r.fst, .int .i64 r.lst]) := ⟨p1, by simpa using HKC.out, by rw [List.getElem_set_self]⟩
        replace HON := Lib.hid (HON.out.trans (Only.of_grown (lo := g) (hi := g + 1) (v := .slice (some ⟨g, 0, none⟩) rs.length cap) p2 (fun g' hg' => by simp [Value.ownBlock] at hg'; omega) (fun g' hg' => by simp [Value.ownBlock] at hg'; omega)))
        clear p1 p2
        have hon := HON.out
        have hmk : ∀ i, i ≤ rs.length → g + 1 ≤ f i := fun i hi => Nat.le_trans hg0 (mono_up HM.out 0 i (Nat.zero_le _) hi)
        have hev := E2.out.only hon (hmk k (by omega))
        (first | rw [show (n : Int) + 1 + 1 + 1 = ((n + 3 : Nat) : Int) by omega] | rw [show (n : Int) + 3 = ((n + 3 : Nat) : Int) by omega])
        refine (markIntS_any _ r.ser (f k) (f (k + 1)) (n + 3) _ (by omega) (by omega) hev).mono ?_
        rintro e w2 ⟨rfl, _, hon2⟩
        clear hev
        obtain ⟨m, hm⟩ : ∃ m, n + 3 + r.ser.length = m := ⟨_, rfl⟩
        rw [hm]
        have HMM := Lib.hid hm
        have hmb : m + 2 ≤ 1099511627776 := by omega
        clear hm
        replace HI : Hid (_ ∧ _) := ⟨HI.out.1.only2 hon2 (fun g' hg' => by simp [Value.ownBlock] at hg'; have := hmk k (by omega); omega), HI.out.2⟩
        have HON3 : Hid (Only g (g + 1) w2 w2) := Lib.hid (Only.refl _ _ _)
        have c0 := HI.out.1.cell k 0 HI.out.2.1 (by omega)
        have c1 := HI.out.1.cell k 1 HI.out.2.1 (by omega)
        have c2 := HI.out.1.cell k 2 HI.out.2.1 (by omega)
        have c3 := HI.out.1.cell k 3 HI.out.2.1 (by omega)
        have c4 := HI.out.1.cell k 4 HI.out.2.1 (by omega)
        have c5 := HI.out.1.cell k 5 HI.out.2.1 (by omega)
        rw [HI.out.2.2] at c0 c1 c2 c3 c4 c5
        simp at c0 c1 c2 c3 c4 c5
        have fr0 := HI.out.1.frozen (k * 6)
        have fr1 := HI.out.1.frozen (k * 6 + 1)
        have fr2 := HI.out.1.frozen (k * 6 + 2)
        have fr3 := HI.out.1.frozen (k * 6 + 3)
        have fr4 := HI.out.1.frozen (k * 6 + 4)
        have fr5 := HI.out.1.frozen (k * 6 + 5)
        go_wp2_with fail
        obtain ⟨p1, p2⟩ := Own.puts [.int .i64 ((m : Int)), .int .i64 ((m : Int) + 1)] _ _ k 4 HI.out.2.1 (by simp) HI.out.1
        rw [HI.out.2.2] at p1
        simp only [setFrom, List.set_cons_zero, List.set_cons_succ, List.set_set] at p1 p2
        replace HI : Hid (Own lo 100 6 _ (.slice (some ⟨g, 0, none⟩) rs.length cap) (cs.set k [.int .i64 ((n : Int)), .int .i64 ((n : Int) + 1), .int .i64 ((n : Int) + 1 + 1), .slice sa sn sc, .int .i64 ((m : Int)), .int .i64 ((m : Int) + 1)]) ∧ ∃ h : k < (cs.set k [.int .i64 ((n : Int)), .int .i64 ((n : Int) + 1), .int .i64 ((n : Int) + 1 + 1), .slice sa sn sc, .int .i64 ((m : Int)), .int .i64 ((m : Int) + 1)]).length, (cs.set k [.int .i64 ((n : Int)), .int .i64 ((n : Int) + 1), .int .i64 ((n : Int) + 1 + 1), .slice sa sn sc, .int .i64 ((m : Int)), .int .i64 ((m : Int) + 1)])[k] = [.int .i64 ((n : Int)), .int .i64 ((n : Int) + 1), .int .i64 ((n : Int) + 1 + 1), .slice sa sn sc, .int .i64 ((m : Int)), .int .i64 ((m : Int) + 1)]) := ⟨p1, by simpa using HKC.out, by rw [List.getElem_set_self]⟩
        replace HON3 := Lib.hid (HON3.out.trans (Only.of_grown (lo := g) (hi := g + 1) (v := .slice (some ⟨g, 0, none⟩) rs.length cap) p2 (fun g' hg' => by simp [Value.ownBlock] at hg'; omega) (fun g' hg' => by simp [Value.ownBlock] at hg'; omega)))
        clear p1 p2
        have hon3 := HON3.out
        go_wp2_with fail
        go_roundw
        case rel =>
          have hfl : lo ≤ f k := Nat.le_trans HF.out.1 (mono_up HM.out 0 k (Nat.zero_le _) (by omega))
          have hfh : f (k + 1) ≤ hi := Nat.le_trans (mono_up HM.out (k + 1) rs.length (by omega) (Nat.le_refl _)) HF.out.2
          have hgh : g + 1 ≤ hi := Nat.le_trans (hmk rs.length (Nat.le_refl _)) HF.out.2
          refine ⟨k + 1, n + 5 + r.ser.length, _, by omega, by go_num, by rw [show n + 5 + r.ser.length = m + 2 by have := HMM.out; omega]; go_num, Lib.hid (by have h1 := HN.out; have h2 := HSZ.out; omega), hnn, HI.out.1,
            Lib.hid ⟨by simpa using I.out.1, fun i h1 h2 h3 => ?_⟩, ((hOn.trans (hon.wide hg hgh)).trans (hon2.wide hfl hfh)).trans (hon3.wide hg hgh)⟩
          obtain ⟨s, q1, q2⟩ := I.out.2 i (by rw [I.out.1]; exact h2) h2 (by omega)
          exact ⟨s, by simpa [List.getElem_set_ne (show k ≠ i by omega)] using q1, ((q2.only hon (hmk i (by omega))).only hon2 (mono_up HM.out (k + 1) i h3 (by omega))).only hon3 (hmk i (by omega))⟩
        case measure => simp [intOf]; omega
      · clear hO
        go_wp2_with fail
        go_ret
        exact ⟨n, rfl, by have h1 := HN.out; obtain rfl : k = rs.length := (by omega); rwa [List.take_length] at h1, hOn⟩
end Go.Proofs.Ytkjpehpodlpdhaa
