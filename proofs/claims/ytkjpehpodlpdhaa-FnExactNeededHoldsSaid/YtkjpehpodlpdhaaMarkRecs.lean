/- The laws' own marks of a list of records. -/
import Derived.Test.YtkjpehpodlpdhaaRecs
import Derived.Test.YtkjpehpodlpdhaaMarkRec
namespace Go.Proofs.Ytkjpehpodlpdhaa
set_option linter.unusedVariables false
open Go.RowKit

set_option maxHeartbeats 2000000 in
theorem markRecordS_val (v : Value) (rs : List Rec) (lo hi k0 : Nat) (w : World) (hk0 : 1 ≤ k0) (hk1 : k0 + rs.length * 3 + szR rs * 2 ≤ 1099511627776) (h : RecsO lo hi w v rs) :
    Calls Try.prog 40 #[v, .int .i64 k0] w fun e w' => ∃ n : Nat, e = .returned (.int .i64 n) ∧ n = k0 + rs.length * 3 + szR rs * 2 ∧ Only lo hi w w' := by
  obtain ⟨css, f, hl, ho, hu, hlo, hm, hhi, he⟩ := h
  rcases ho.form with ⟨rfl, h0⟩ | ⟨g, cap, hv, hg, hgl, hn, hmx⟩
  · have hx : rs = [] := by rw [h0] at hl; exact List.length_eq_zero_iff.1 hl.symm
    subst hx
    clear h0 ho he hl
    go_enter Try.func40, Try.ntmps40
    go_wp2
    refine wp_loop_rounds 1 ?_
    rw [rounds_succ]
    go_wp2
    go_ret
    exact ⟨k0, rfl, by simp [szR], Only.refl _ _ _⟩
  · rw [hl] at hv hn
    subst hv
    unfold maxLen at hmx
    have hg0 : g < f 0 := hu g rfl
    have HM := Lib.hid hm
    have HL := Lib.hid hl
    have HO0 := Lib.hid ho
    have HE := Lib.hid he
    have HF := Lib.hid (And.intro hlo hhi)
    clear ho he hm hl hlo hhi hu
    go_enter Try.func40, Try.ntmps40
    go_wp2
    go_loopw [1, 5] (fun q i wr => ∃ (k n : Nat) (cs : List (List Value)), k ≤ rs.length ∧ i = .int .i64 k ∧ q = .int .i64 n ∧ Hid (n = k0 + k * 3 + szR (rs.take k) * 2) ∧ n ≤ 1099511627776 ∧
        Own lo 38 4 wr (.slice (some ⟨g, 0, none⟩) rs.length cap) cs ∧ Hid (cs.length = rs.length ∧ ∀ i (h1 : i < cs.length) (h2 : i < rs.length), k ≤ i → ∃ s, cs[i] = recC rs[i] s ∧ EvsO (f i) (f (i + 1)) wr s rs[i].evs) ∧ Only lo hi w wr) (fun _ i _ => rs.length - (intOf i).toNat)
    case atStart => exact ⟨0, k0, css, Nat.zero_le _, rfl, rfl, Lib.hid (by simp [szR]), by omega, HO0.out, Lib.hid ⟨HL.out, fun i h1 h2 _ => by obtain ⟨s, e1, e2, _⟩ := HE.out i h1 h2; exact ⟨s, e1, e2⟩⟩, Only.refl _ _ _⟩
    case round =>
      obtain ⟨k, n, cs, hk, rfl, rfl, HN, hnb, hO, I, hOn⟩ := hrel
      have HO := Lib.hid hO
      by_cases hlt : k < rs.length
      · obtain ⟨r, hx⟩ : ∃ r, rs[k] = r := ⟨_, rfl⟩
        obtain ⟨s, e1, e2⟩ := I.out.2 k (by rw [I.out.1]; exact hlt) hlt (Nat.le_refl _)
        obtain ⟨sa, sn, sc, rfl⟩ := e2.1.slice
        rw [hx] at e1 e2
        have HX := Lib.hid hx
        have E1 := Lib.hid e1
        have E2 := Lib.hid e2
        have c0 := hO.cell k 0 (by rw [I.out.1]; exact hlt) (by omega)
        have c1 := hO.cell k 1 (by rw [I.out.1]; exact hlt) (by omega)
        have c2 := hO.cell k 2 (by rw [I.out.1]; exact hlt) (by omega)
        have c3 := hO.cell k 3 (by rw [I.out.1]; exact hlt) (by omega)
        rw [e1] at c0 c1 c2 c3
        simp [recC] at c0 c1 c2 c3
        have fr0 := hO.frozen (k * 4)
        have fr1 := hO.frozen (k * 4 + 1)
        have fr2 := hO.frozen (k * 4 + 2)
        have g0 : (0 : Int) ≤ (k : Int) := by omega
        have g1 : (k : Int) < (rs.length : Int) := by omega
        have hszk := szR_take_succ rs k hlt
        have hszl := szR_take_le rs (k + 1)
        rw [getDr_lt hlt, hx] at hszk
        have hnn : n + 3 + r.evs.length * 2 ≤ 1099511627776 := by have := HN.out; omega
        have HSZ := Lib.hid hszk
        clear hO e1 e2 hx hszk hszl
        go_wp2_with fail
        have hkc : k < cs.length := by rw [I.out.1]; exact hlt
        obtain ⟨p1, p2⟩ := Own.puts [.int .i64 n, .int .i64 ((n : Int) + 1), .int .i64 ((n : Int) + 1 + 1)] wr cs k 0 hkc (by simp) HO.out
        rw [E1.out] at p1
        simp only [recC, setFrom, List.set_cons_zero, List.set_cons_succ, Nat.add_zero, Nat.zero_add] at p1 p2
        have hon : Only g (g + 1) wr (wr.setCells g (k * 4) [.int .i64 n, .int .i64 ((n : Int) + 1), .int .i64 ((n : Int) + 1 + 1)]) :=
          Only.of_grown (v := .slice (some ⟨g, 0, none⟩) rs.length cap) p2 (fun g' hg' => by simp [Value.ownBlock] at hg'; omega) (fun g' hg' => by simp [Value.ownBlock] at hg'; omega)
        have hmk : ∀ i, i ≤ rs.length → g + 1 ≤ f i := fun i hi => Nat.le_trans hg0 (mono_up HM.out 0 i (Nat.zero_le _) hi)
        have hev := E2.out.only hon (hmk k (by omega))
        (first | rw [show (n : Int) + 1 + 1 + 1 = ((n + 3 : Nat) : Int) by omega] | rw [show (n : Int) + 3 = ((n + 3 : Nat) : Int) by omega])
        refine (markEventS_any _ r.evs (f k) (f (k + 1)) (n + 3) _ (by omega) (by omega) hev).mono ?_
        rintro e w2 ⟨rfl, _, hon2⟩
        have P1 := Lib.hid p1
        clear p1 p2 hev
        go_wp2_with fail
        go_roundw
        case rel =>
          have hfl : lo ≤ f k := Nat.le_trans HF.out.1 (mono_up HM.out 0 k (Nat.zero_le _) (by omega))
          have hfh : f (k + 1) ≤ hi := Nat.le_trans (mono_up HM.out (k + 1) rs.length (by omega) (Nat.le_refl _)) HF.out.2
          have hgh : g + 1 ≤ hi := Nat.le_trans (hmk rs.length (Nat.le_refl _)) HF.out.2
          refine ⟨k + 1, n + 3 + r.evs.length * 2, _, by omega, by go_num, by go_num, Lib.hid (by have h1 := HN.out; have h2 := HSZ.out; omega), hnn, P1.out.only2 hon2 (fun g' hg' => by simp [Value.ownBlock] at hg'; have := hmk k (by omega); omega),
            Lib.hid ⟨by rw [List.length_set]; exact I.out.1, fun i h1 h2 h3 => ?_⟩, (hOn.trans (hon.wide hg hgh)).trans (hon2.wide hfl hfh)⟩
          obtain ⟨s, q1, q2⟩ := I.out.2 i (by rw [I.out.1]; exact h2) h2 (by omega)
          exact ⟨s, by rw [List.getElem_set_ne (by omega)]; exact q1, (q2.only hon (hmk i (by omega))).only hon2 (mono_up HM.out (k + 1) i h3 (by omega))⟩
        case measure => simp [intOf]; omega
      · clear hO
        go_wp2_with fail
        go_ret
        exact ⟨n, rfl, by have h1 := HN.out; obtain rfl : k = rs.length := (by omega); rwa [List.take_length] at h1, hOn⟩
theorem markRecordS_any (v : Value) (rs : List Rec) (lo hi k0 : Nat) (w : World) (hk0 : 1 ≤ k0) (hk1 : k0 + rs.length * 3 + szR rs * 2 ≤ 1099511627776) (h : RecsO lo hi w v rs) :
    Calls Try.prog 40 #[v, .int .i64 k0] w fun e w' => ∃ n : Nat, e = .returned (.int .i64 n) ∧ Only lo hi w w' :=
  (markRecordS_val v rs lo hi k0 w hk0 hk1 h).mono fun e w' ⟨n, a, _, b⟩ => ⟨n, a, b⟩
end Go.Proofs.Ytkjpehpodlpdhaa
