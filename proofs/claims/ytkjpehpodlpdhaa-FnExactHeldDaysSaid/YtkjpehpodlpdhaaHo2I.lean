/- Holds, the program's: AreHolds, covers and its closure, slices.IndexFunc and ContainsFunc with it, idsOf. -/
import Derived.Test.YtkjpehpodlpdhaaHoI
import Derived.Test.YtkjpehpodlpdhaaIdxM
import Derived.Test.YtkjpehpodlpdhaaHas
import Derived.Lib.QuietBelow
import Derived.BigQuiet
import Derived.Laws.EntriesVeiled
import Derived.WalkSmall
namespace Go.Proofs.Ytkjpehpodlpdhaa
set_option linter.unusedVariables false
open Go.RowKit Go.Sort

set_option maxRecDepth 20000 in
set_option maxHeartbeats 8000000 in
theorem implAreHo_any (v : Value) (t : List Ho) (w : World) (h : RowR 6 rHo w v t) :
    Calls Try.prog 18 #[v] w fun e w' => e = .returned (.bool (areHo t)) ∧ Below w.heap.size w w' := by
  have hcap := h.cap
  obtain ⟨a1, c1, hv, hl1, hm1, r1⟩ := h.hos
  subst hv
  have R1 := Lib.hid r1
  clear h r1
  unfold maxLen at hm1
  by_cases hL : 8 < t.length
  · have gL : (8 : Int) < t.length := by omega
    have HN : Hid (areHo t = false) := Lib.hid (ho_long (by omega))
    clear hL
    go_enter Try.func18, Try.ntmps18
    go_wp2_with fail
    go_ret
    exact ⟨ret_bool HN.out.symm, Below.refl _ _⟩
  · have gL : (t.length : Int) ≤ 8 := by omega
    have HL : Hid (t.length ≤ 8) := Lib.hid (by omega)
    clear hL
    go_enter Try.func18, Try.ntmps18
    go_wp2_with fail
    go_loopw [3, 11] (fun b i wr => ∃ (k : Nat) (pk : Int), k ≤ t.length ∧ i = .int .i64 k ∧ b = .int .i64 pk ∧ Hid (prevHo t k = pk) ∧ Hid (upto (hoAtB t) k = true) ∧ Below w.heap.size w wr) (fun _ i _ => t.length - (intOf i).toNat)
    case atStart => exact ⟨0, 0, Nat.zero_le _, rfl, rfl, Lib.hid rfl, Lib.hid (by simp [upto]), Below.refl _ _⟩
    case round =>
      obtain ⟨k, pk, hk, rfl, rfl, HP, HU, hb⟩ := hrel
      by_cases hlt : k < t.length
      · obtain ⟨b1, o1, hb1, rfl, e1⟩ := R1.out.resolve_left (fun e => by rw [e] at hlt; simp at hlt)
        obtain ⟨⟨x0, x1, x2, x3, x4, x5⟩, hx⟩ : ∃ s, t.getD k hoD = s := ⟨_, rfl⟩
        obtain ⟨s, q0, q1, q2, q3, q4, q5, hr, hok⟩ := e1 k hlt
        rw [hx] at q0 q1 q2 q4 q5 hr hok
        simp only at q0 q1 q2 q4 q5 hr
        have f0 := cell_kept q0 hb
        have f1 := cell_kept q1 hb
        have f2 := cell_kept q2 hb
        have f3 := cell_kept q3 hb
        have f4 := cell_kept q4 hb
        have f5 := cell_kept q5 hb
        have HV : Hid (∀ W, Below wr.heap.size wr W → HoV W (.agg #[.int .i64 x0, .int .i64 x1, .int .i64 x2, s, .int .i64 x4, .int .i64 x5]) ⟨x0, x1, x2, x3, x4, x5⟩) := Lib.hid (fun W hW => ⟨s, rfl, (hr.below hb).below hW, hok⟩)
        have HS : Hid (∀ W, Below wr.heap.size wr W → RowOf vI W s x3) := Lib.hid (fun W hW => (hr.below hb).below hW)
        obtain ⟨sa, sc, rfl, hsl, hsm, _⟩ := hr
        have HX := Lib.hid hx
        have hp0 : 0 ≤ pk := by rw [← HP.out]; exact prevHo_pos hk HU.out
        have HAT := Lib.hid (hoAt_iff hx)
        have g0 : (0 : Int) ≤ (k : Int) := by omega
        have g1 : (k : Int) < (t.length : Int) := by omega
        have hw := hb.size
        obtain ⟨bT, hbT⟩ : ∃ b, tilB ⟨x0, x1, x2, x3, x4, x5⟩ = b := ⟨_, rfl⟩
        obtain ⟨bS, hbS⟩ : ∃ b, serB x3 = b := ⟨_, rfl⟩
        obtain ⟨bF, hbF⟩ : ∃ b, decide ((0 : Int) ≤ x4 ∧ x4 ≤ 20000) = b := ⟨_, rfl⟩
        obtain ⟨bL, hbL⟩ : ∃ b, decide ((0 : Int) ≤ x5 ∧ x5 ≤ 20000) = b := ⟨_, rfl⟩
        have HOne : Hid (hoOne ⟨x0, x1, x2, x3, x4, x5⟩ = (decide (1 ≤ x0 ∧ x0 ≤ 99) && (bT && (bS && (bF && decide (x4 ≤ x5 ∧ x5 ≤ 20000)))))) := Lib.hid (by
          rw [← hbT, ← hbS, ← hbF, Bool.eq_iff_iff]
          simp only [hoOne, Bool.and_eq_true, decide_eq_true_eq])
        have HT := Lib.hid hbT
        have HSB := Lib.hid hbS
        have HF := Lib.hid hbF
        have HLL := Lib.hid hbL
        clear q0 q1 q2 q3 q4 q5 hok e1 hx hbT hbS hbF hbL
        obtain ⟨wE, hWE⟩ : ∃ W, wr.alloc (.cells #[.int .i64 x0, .int .i64 x1, .int .i64 x2, .slice sa x3.length sc, .int .i64 x4, .int .i64 x5] 100 (0, 0)) = W := ⟨_, rfl⟩
        have bE : Below wr.heap.size wr wE := by rw [← hWE]; exact below_al (Below.refl _ _) _
        have HBX := Lib.hid (show ∀ W, Below wr.heap.size wE W → wE.heap.size ≤ W.heap.size → (∀ j, j < 6 → W.cell? ⟨wr.heap.size, j, none⟩ = wE.cell? ⟨wr.heap.size, j, none⟩) → W.cell? ⟨wr.heap.size, 0, none⟩ = some (.int .i64 x0) ∧ W.cell? ⟨wr.heap.size, 1, none⟩ = some (.int .i64 x1) ∧ W.cell? ⟨wr.heap.size, 2, none⟩ = some (.int .i64 x2) ∧ W.cell? ⟨wr.heap.size, 3, none⟩ = some (.slice sa x3.length sc) ∧ W.cell? ⟨wr.heap.size, 4, none⟩ = some (.int .i64 x4) ∧ W.cell? ⟨wr.heap.size, 5, none⟩ = some (.int .i64 x5) from
          fun W _ _ hj => by
            subst hWE
            exact ⟨(hj 0 (by omega)).trans (cell_new wr _ _ 0 rfl), (hj 1 (by omega)).trans (cell_new wr _ _ 1 rfl), (hj 2 (by omega)).trans (cell_new wr _ _ 2 rfl), (hj 3 (by omega)).trans (cell_new wr _ _ 3 rfl), (hj 4 (by omega)).trans (cell_new wr _ _ 4 rfl), (hj 5 (by omega)).trans (cell_new wr _ _ 5 rfl)⟩)
        have BE := Lib.hid bE
        have HEQ := Lib.hid hWE
        have hlE : wr.heap.size < wE.heap.size := by rw [← hWE]; simp
        have HKP := Lib.hid (show ∀ W, Below wE.heap.size wE W → W.cell? ⟨wr.heap.size, 0, none⟩ = some (.int .i64 x0) ∧ W.cell? ⟨wr.heap.size, 1, none⟩ = some (.int .i64 x1) ∧ W.cell? ⟨wr.heap.size, 2, none⟩ = some (.int .i64 x2) ∧ W.cell? ⟨wr.heap.size, 3, none⟩ = some (.slice sa x3.length sc) ∧ W.cell? ⟨wr.heap.size, 4, none⟩ = some (.int .i64 x4) ∧ W.cell? ⟨wr.heap.size, 5, none⟩ = some (.int .i64 x5) from fun W hW => HBX.out W (hW.mono (Nat.le_of_lt hlE)) hW.size (fun j _ => hW.cell (p := ⟨wr.heap.size, j, none⟩) hlE))
        clear hWE bE hlE HBX
        by_cases hP : x0 ≤ pk
        · skip
          have HNT : Hid (areHo t = false) := Lib.hid (notHo hlt (by rw [Bool.eq_false_iff]; intro hc; have hh := HAT.out.1 hc; have h2 := hh.2; rw [HP.out] at h2; simp only at h2; omega))
          go_wp2_with fail
          go_ret
          exact ⟨ret_bool HNT.out.symm, hb.trans ((below_al (Below.refl _ _) _).mono hw)⟩
        · have dP : decide (x0 ≤ pk) = false := decide_eq_false hP
          by_cases h5 : 99 < x0
          · skip
            have HNT : Hid (areHo t = false) := Lib.hid (notHo hlt (by rw [Bool.eq_false_iff]; intro hc; have hh := HAT.out.1 hc; have h2 := (hoOne_iff.1 hh.1).1.2; simp only at h2; omega))
            go_wp2_with fail
            go_ret
            exact ⟨ret_bool HNT.out.symm, hb.trans ((below_al (Below.refl _ _) _).mono hw)⟩
          · have d99 : decide ((99 : Int) < x0) = false := decide_eq_false h5
            cases bT
            · skip
              have HNT : Hid (areHo t = false) := Lib.hid (notHo hlt (by rw [Bool.eq_false_iff]; intro hc; have hh := HAT.out.1 hc; have h2 := hh.1; rw [HOne.out] at h2; simp at h2))
              go_wp2_with (first | (go_at_call 77; refine (untilFits_any _ _ _ (HV.out _ (below_al (Below.refl _ _) _))).mono ?_; rw [HT.out, HEQ.out]; rintro e wT ⟨rfl, bT⟩; obtain ⟨c0, c1, c2, c3, c4, c5⟩ := HKP.out _ bT))
              go_ret
              exact ⟨ret_bool HNT.out.symm, (hb.trans (BE.out.mono hw)).trans (bT.mono (Nat.le_trans hw BE.out.size))⟩
            · cases bS
              · skip
                have HNT : Hid (areHo t = false) := Lib.hid (notHo hlt (by rw [Bool.eq_false_iff]; intro hc; have hh := HAT.out.1 hc; have h2 := hh.1; rw [HOne.out] at h2; simp at h2))
                go_wp2_with (first | (go_at_call 77; refine (untilFits_any _ _ _ (HV.out _ (below_al (Below.refl _ _) _))).mono ?_; rw [HT.out, HEQ.out]; rintro e wT ⟨rfl, bT⟩; obtain ⟨c0, c1, c2, c3, c4, c5⟩ := HKP.out _ bT) | (go_at_call 78; refine (areSer_any _ _ _ (HS.out _ (BE.out.trans (bT.mono BE.out.size)))).mono ?_; rw [HSB.out]; rintro e wS ⟨rfl, bS⟩; replace bT := bT.trans (bS.mono bT.size); clear bS; obtain ⟨c0, c1, c2, c3, c4, c5⟩ := HKP.out _ bT))
                go_ret
                exact ⟨ret_bool HNT.out.symm, (hb.trans (BE.out.mono hw)).trans (bT.mono (Nat.le_trans hw BE.out.size))⟩
              · cases bF
                · skip
                  have HNT : Hid (areHo t = false) := Lib.hid (notHo hlt (by rw [Bool.eq_false_iff]; intro hc; have hh := HAT.out.1 hc; have h2 := hh.1; rw [HOne.out] at h2; simp at h2))
                  go_wp2_with (first | (go_at_call 77; refine (untilFits_any _ _ _ (HV.out _ (below_al (Below.refl _ _) _))).mono ?_; rw [HT.out, HEQ.out]; rintro e wT ⟨rfl, bT⟩; obtain ⟨c0, c1, c2, c3, c4, c5⟩ := HKP.out _ bT) | (go_at_call 78; refine (areSer_any _ _ _ (HS.out _ (BE.out.trans (bT.mono BE.out.size)))).mono ?_; rw [HSB.out]; rintro e wS ⟨rfl, bS⟩; replace bT := bT.trans (bS.mono bT.size); clear bS; obtain ⟨c0, c1, c2, c3, c4, c5⟩ := HKP.out _ bT) | (go_at_call 79; refine (isDay_any _ _).mono ?_; (first | rw [HF.out] | rw [HLL.out]); rintro e w' ⟨rfl, h'⟩; subst h'))
                  go_ret
                  exact ⟨ret_bool HNT.out.symm, (hb.trans (BE.out.mono hw)).trans (bT.mono (Nat.le_trans hw BE.out.size))⟩
                · cases bL
                  · skip
                    have HNT : Hid (areHo t = false) := Lib.hid (notHo hlt (by rw [Bool.eq_false_iff]; intro hc; have hh := HAT.out.1 hc; have h2 := (hoOne_iff.1 hh.1).2.2.2; simp only at h2; have := of_decide_eq_false HLL.out; omega))
                    go_wp2_with (first | (go_at_call 77; refine (untilFits_any _ _ _ (HV.out _ (below_al (Below.refl _ _) _))).mono ?_; rw [HT.out, HEQ.out]; rintro e wT ⟨rfl, bT⟩; obtain ⟨c0, c1, c2, c3, c4, c5⟩ := HKP.out _ bT) | (go_at_call 78; refine (areSer_any _ _ _ (HS.out _ (BE.out.trans (bT.mono BE.out.size)))).mono ?_; rw [HSB.out]; rintro e wS ⟨rfl, bS⟩; replace bT := bT.trans (bS.mono bT.size); clear bS; obtain ⟨c0, c1, c2, c3, c4, c5⟩ := HKP.out _ bT) | (go_at_call 79; refine (isDay_any _ _).mono ?_; (first | rw [HF.out] | rw [HLL.out]); rintro e w' ⟨rfl, h'⟩; subst h'))
                    go_ret
                    exact ⟨ret_bool HNT.out.symm, (hb.trans (BE.out.mono hw)).trans (bT.mono (Nat.le_trans hw BE.out.size))⟩
                  · by_cases hg : x5 < x4
                    · skip
                      have HNT : Hid (areHo t = false) := Lib.hid (notHo hlt (by rw [Bool.eq_false_iff]; intro hc; have hh := HAT.out.1 hc; have h2 := (hoOne_iff.1 hh.1).2.2.2; simp only at h2; omega))
                      go_wp2_with (first | (go_at_call 77; refine (untilFits_any _ _ _ (HV.out _ (below_al (Below.refl _ _) _))).mono ?_; rw [HT.out, HEQ.out]; rintro e wT ⟨rfl, bT⟩; obtain ⟨c0, c1, c2, c3, c4, c5⟩ := HKP.out _ bT) | (go_at_call 78; refine (areSer_any _ _ _ (HS.out _ (BE.out.trans (bT.mono BE.out.size)))).mono ?_; rw [HSB.out]; rintro e wS ⟨rfl, bS⟩; replace bT := bT.trans (bS.mono bT.size); clear bS; obtain ⟨c0, c1, c2, c3, c4, c5⟩ := HKP.out _ bT) | (go_at_call 79; refine (isDay_any _ _).mono ?_; (first | rw [HF.out] | rw [HLL.out]); rintro e w' ⟨rfl, h'⟩; subst h'))
                      go_ret
                      exact ⟨ret_bool HNT.out.symm, (hb.trans (BE.out.mono hw)).trans (bT.mono (Nat.le_trans hw BE.out.size))⟩
                    · have dg : decide (x5 < x4) = false := decide_eq_false hg
                      have HYES : Hid (hoAtB t k = true) := Lib.hid (HAT.out.2 ⟨by have := of_decide_eq_true HLL.out; rw [HOne.out]; simp; omega, by rw [HP.out]; simp only; omega⟩)
                      go_wp2_with (first | (go_at_call 77; refine (untilFits_any _ _ _ (HV.out _ (below_al (Below.refl _ _) _))).mono ?_; rw [HT.out, HEQ.out]; rintro e wT ⟨rfl, bT⟩; obtain ⟨c0, c1, c2, c3, c4, c5⟩ := HKP.out _ bT) | (go_at_call 78; refine (areSer_any _ _ _ (HS.out _ (BE.out.trans (bT.mono BE.out.size)))).mono ?_; rw [HSB.out]; rintro e wS ⟨rfl, bS⟩; replace bT := bT.trans (bS.mono bT.size); clear bS; obtain ⟨c0, c1, c2, c3, c4, c5⟩ := HKP.out _ bT) | (go_at_call 79; refine (isDay_any _ _).mono ?_; (first | rw [HF.out] | rw [HLL.out]); rintro e w' ⟨rfl, h'⟩; subst h'))
                      go_roundw
                      case rel => exact ⟨k + 1, x0, by omega, by go_num, rfl, Lib.hid (by simp only [prevHo]; rw [HX.out]), Lib.hid (upto_succ HU.out HYES.out), (hb.trans (BE.out.mono hw)).trans (bT.mono (Nat.le_trans hw BE.out.size))⟩
                      case measure => simp [intOf]; omega
      · have hkt : k = t.length := by omega
        have HE : Hid (areHo t = true) := Lib.hid (ho_all HL.out (by have := HU.out; rwa [hkt] at this))
        clear hkt
        go_wp2_with fail
        go_ret
        exact ⟨ret_bool HE.out.symm, hb⟩

set_option maxRecDepth 20000 in
set_option maxHeartbeats 2000000 in
theorem covers_any (v : Value) (r : Rec) (d : Int) (w : World) (h : RecV w v r) :
    Calls Try.prog 87 #[v, .int .i64 d] w fun e w' => ∃ B1 B2, e = .returned (.func (.func 147) #[] #[.pointer (some ⟨B1, 0, none⟩), .pointer (some ⟨B2, 0, none⟩)]) ∧ CovB w' B1 B2 r d ∧ Below w.heap.size w w' := by
  obtain ⟨s, rfl, hr, hok⟩ := h
  obtain ⟨y0, y1, y2, y3⟩ := r
  simp only at hr ⊢
  have HV := Lib.hid (show ∀ W, Below w.heap.size w W → RecV W (.agg #[.int .i64 y0, .int .i64 y1, .int .i64 y2, s]) ⟨y0, y1, y2, y3⟩ from fun W hW => ⟨s, rfl, hr.below rEv_stable hW, hok⟩)
  obtain ⟨sa, sc, rfl, _⟩ := hr
  clear hok
  go_enter Try.func87, Try.ntmps87
  go_wp2_with fail
  have bA := below_al (below_al (Below.refl w.heap.size w) (.cells #[.int .i64 y0, .int .i64 y1, .int .i64 y2, .slice sa y3.length sc] 38 (0, 0))) (.cells #[.int .i64 d] 3 (0, 0))
  have cd : ((w.alloc (.cells #[.int .i64 y0, .int .i64 y1, .int .i64 y2, .slice sa y3.length sc] 38 (0, 0))).alloc (.cells #[.int .i64 d] 3 (0, 0))).cell? ⟨w.heap.size + 1, 0, none⟩ = some (.int .i64 d) := by simp
  refine (concerns_any _ _ _ (HV.out _ bA)).mono ?_
  rintro e w1 ⟨B, rfl, hB, b1⟩
  go_wp2_with fail
  go_ret
  refine ⟨w.heap.size + 1, w1.heap.size, rfl, ⟨?_, B, ?_, ?_⟩, ?_⟩
  · exact below_al_cell (cell_kept cd b1) _
  · exact cell_new w1 _ _ 0 rfl
  · exact hB.below (below_al (Below.refl _ _) _)
  · exact below_al (below_chain bA b1) _

set_option maxRecDepth 20000 in
set_option maxHeartbeats 4000000 in
theorem covers1_any (v : Value) (h : Ho) (r : Rec) (d : Int) (B1 B2 : Nat) (w : World) (hv : HoV w v h) (hB : CovB w B1 B2 r d) :
    Calls Try.prog 147 #[v, .pointer (some ⟨B1, 0, none⟩), .pointer (some ⟨B2, 0, none⟩)] w fun e w' => e = .returned (.bool (covB h r d)) ∧ Below w.heap.size w w' := by
  obtain ⟨s, rfl, hr, hok⟩ := hv
  obtain ⟨e1, B, e2, e3⟩ := hB
  obtain ⟨x0, x1, x2, x3, x4, x5⟩ := h
  obtain ⟨E, hE⟩ : ∃ E, endH ⟨x0, x1, x2, x3, x4, x5⟩ = E := ⟨_, rfl⟩
  obtain ⟨bc, hbc⟩ : ∃ b, conB ⟨x0, x1, x2, x3, x4, x5⟩ r = b := ⟨_, rfl⟩
  have hres : covB ⟨x0, x1, x2, x3, x4, x5⟩ r d = ((decide (x1 ≤ d) && decide (d < E)) && bc) := by
    unfold covB
    rw [hE, hbc, Bool.decide_and]
  simp only at hr ⊢
  have HV := Lib.hid (show ∀ W, Below w.heap.size w W → HoV W (.agg #[.int .i64 x0, .int .i64 x1, .int .i64 x2, s, .int .i64 x4, .int .i64 x5]) ⟨x0, x1, x2, x3, x4, x5⟩ from fun W hW => ⟨s, rfl, hr.below hW, hok⟩)
  obtain ⟨sa, sc, rfl, _⟩ := hr
  rw [hres]
  have HE := Lib.hid hE
  have HBC := Lib.hid hbc
  have HR := Lib.hid (show ∀ W, Below w.heap.size w W → RecB W B r from fun W hW => e3.below hW)
  generalize hWE : w.alloc (.cells #[.int .i64 x0, .int .i64 x1, .int .i64 x2, .slice sa x3.length sc, .int .i64 x4, .int .i64 x5] 100 (0, 0)) = wE
  have bE : Below w.heap.size w wE := by rw [← hWE]; exact below_al (Below.refl _ _) _
  have z0 : wE.cell? ⟨w.heap.size, 0, none⟩ = some (.int .i64 x0) := by rw [← hWE]; exact cell_new w _ _ 0 rfl
  have z1 : wE.cell? ⟨w.heap.size, 1, none⟩ = some (.int .i64 x1) := by rw [← hWE]; exact cell_new w _ _ 1 rfl
  have z2 : wE.cell? ⟨w.heap.size, 2, none⟩ = some (.int .i64 x2) := by rw [← hWE]; exact cell_new w _ _ 2 rfl
  have z3 : wE.cell? ⟨w.heap.size, 3, none⟩ = some (.slice sa x3.length sc) := by rw [← hWE]; exact cell_new w _ _ 3 rfl
  have z4 : wE.cell? ⟨w.heap.size, 4, none⟩ = some (.int .i64 x4) := by rw [← hWE]; exact cell_new w _ _ 4 rfl
  have z5 : wE.cell? ⟨w.heap.size, 5, none⟩ = some (.int .i64 x5) := by rw [← hWE]; exact cell_new w _ _ 5 rfl
  have z6 := cell_kept e1 bE
  have z7 := cell_kept e2 bE
  have m0 := cell_regrown z0
  have m1 := cell_regrown z1
  have m2 := cell_regrown z2
  have m3 := cell_regrown z3
  have m4 := cell_regrown z4
  have m5 := cell_regrown z5
  have m6 := cell_regrown z6
  have m7 := cell_regrown z7
  have HWE := Lib.hid hWE
  have HCE : Hid _ := Lib.hid (show ∀ d os, Calls Try.prog 92 #[.agg #[.int .i64 x0, .int .i64 x1, .int .i64 x2, .slice sa x3.length sc, .int .i64 x4, .int .i64 x5]] (grow (redrawn wE d) os) fun e w'' => e = .returned (.int .i64 E) ∧ ∃ p : Regrown, w'' = grow (redrawn wE p.d) p.os from fun d os => Calls.regrown_of (by have := endOf_any _ _ (grow (redrawn wE d) os) (HV.out _ (bE.trans ((below_regrown wE d os).mono bE.size))); rwa [HE.out] at this))
  have HCC : Hid _ := Lib.hid (show ∀ d os, Calls Try.prog 159 #[.agg #[.int .i64 x0, .int .i64 x1, .int .i64 x2, .slice sa x3.length sc, .int .i64 x4, .int .i64 x5], .pointer (some ⟨B, 0, none⟩)] (grow (redrawn wE d) os) fun e w'' => e = .returned (.bool bc) ∧ ∃ p : Regrown, w'' = grow (redrawn wE p.d) p.os from fun d os => Calls.regrown_of (by have := concerns1_any _ _ r B (grow (redrawn wE d) os) (HV.out _ (bE.trans ((below_regrown wE d os).mono bE.size))) (HR.out _ (bE.trans ((below_regrown wE d os).mono bE.size))); rwa [HBC.out] at this))
  clear hE hbc hres hok hWE e1 e2 e3
  by_cases f1 : x1 ≤ d
  · by_cases f2 : d < E
    · skip
      go_enter Try.func147, Try.ntmps147
      go_wp2_with fail
      rw [HWE.out]
      have hcE := HCE.out
      have hcC := HCC.out
      refine wp_region_quiet_below (by kernel_rfl) (by kernel_rfl) ?_
      repeat (go_big_quiet_step (first | exact hcE _ _ | exact hcC _ _))
      refine wpQuiet_nil ?_
      intro _ hw'
      obtain ⟨⟨dq, osq⟩, hw''⟩ := hw'
      subst hw''
      have bq := below_regrown wE dq osq
      generalize grow (redrawn wE dq) osq = w2 at bq  ⊢
      go_wp2
      go_ret
      exact ⟨ret_bool (by simp [f1, f2]), bE.trans (bq.mono bE.size)⟩
    · have dE : decide (d < E) = false := decide_eq_false f2
      go_enter Try.func147, Try.ntmps147
      go_wp2_with fail
      rw [HWE.out]
      have hcE := HCE.out
      have hcC := HCC.out
      refine wp_region_quiet_below (by kernel_rfl) (by kernel_rfl) ?_
      repeat (go_big_quiet_step (first | exact hcE _ _ | exact hcC _ _))
      refine wpQuiet_nil ?_
      intro _ hw'
      obtain ⟨⟨dq, osq⟩, hw''⟩ := hw'
      subst hw''
      have bq := below_regrown wE dq osq
      generalize grow (redrawn wE dq) osq = w2 at bq  ⊢
      go_wp2
      go_ret
      exact ⟨ret_bool (by simp [dE]), bE.trans (bq.mono bE.size)⟩
  · have dX : decide (x1 ≤ d) = false := decide_eq_false f1
    go_enter Try.func147, Try.ntmps147
    go_wp2_with fail
    rw [HWE.out]
    have hcE := HCE.out
    have hcC := HCC.out
    refine wp_region_quiet_below (by kernel_rfl) (by kernel_rfl) ?_
    repeat (go_big_quiet_step (first | exact hcE _ _ | exact hcC _ _))
    refine wpQuiet_nil ?_
    intro _ hw'
    obtain ⟨⟨dq, osq⟩, hw''⟩ := hw'
    subst hw''
    have bq := below_regrown wE dq osq
    generalize grow (redrawn wE dq) osq = w2 at bq  ⊢
    go_wp2
    go_ret
    exact ⟨ret_bool (by simp [dX]), bE.trans (bq.mono bE.size)⟩

set_option maxHeartbeats 2000000 in
theorem covIdx_any (v : Value) (t : List Ho) (r : Rec) (d : Int) (B1 B2 : Nat) (w : World) (h : RowR 6 rHo w v t) (hB : CovB w B1 B2 r d) :
    Calls Try.prog 91 #[v, .func (.func 147) #[] #[.pointer (some ⟨B1, 0, none⟩), .pointer (some ⟨B2, 0, none⟩)]] w fun e w' => e = .returned (.int .i64 (gIdx (fun g : Ho => covB g r d) t)) ∧ Below w.heap.size w w' := by
  have hcap := h.cap
  obtain ⟨a1, c1, rfl, hl1, hm1, r1⟩ := h.hos
  have R1 := Lib.hid r1
  clear h r1
  unfold maxLen at hm1
  obtain ⟨p, hp⟩ : ∃ p : Ho → Bool, (fun g : Ho => covB g r d) = p := ⟨_, rfl⟩
  rw [hp]
  have HP := Lib.hid hp
  have HB := Lib.hid hB
  clear hp hB
  go_enter Try.func91, Try.ntmps91
  go_wp2
  go_loopw [8] (fun i wr => ∃ k : Nat, k ≤ t.length ∧ i = .int .i64 k ∧ Hid (∀ j, j < k → p (t.getD j hoD) = false) ∧ Below w.heap.size w wr) (fun i _ => t.length - (intOf i).toNat)
  case atStart => exact ⟨0, Nat.zero_le _, rfl, Lib.hid (fun j h => absurd h (Nat.not_lt_zero _)), Below.refl _ _⟩
  case round =>
    obtain ⟨k, hk, rfl, HN, hb⟩ := hrel
    by_cases hlt : k < t.length
    · obtain ⟨b1, o1, hb1, rfl, e1⟩ := R1.out.resolve_left (fun e => by rw [e] at hlt; simp at hlt)
      obtain ⟨⟨x0, x1, x2, x3, x4, x5⟩, hx⟩ : ∃ s, t.getD k hoD = s := ⟨_, rfl⟩
      obtain ⟨s, q0, q1, q2, q3, q4, q5, hr, hok⟩ := e1 k hlt
      rw [hx] at q0 q1 q2 q4 q5 hr hok
      simp only at q0 q1 q2 q4 q5 hr
      have f0 := cell_kept q0 hb
      have f1 := cell_kept q1 hb
      have f2 := cell_kept q2 hb
      have f3 := cell_kept q3 hb
      have f4 := cell_kept q4 hb
      have f5 := cell_kept q5 hb
      have HX := Lib.hid hx
      have g0 : (0 : Int) ≤ (k : Int) := by omega
      have g1 : (k : Int) < (t.length : Int) := by omega
      have hsz := hb.size
      have hcall := covers1_any _ ⟨x0, x1, x2, x3, x4, x5⟩ r d B1 B2 wr ⟨s, rfl, hr.below hb, hok⟩ (HB.out.below hb)
      clear q0 q1 q2 q3 q4 q5 e1 hx hr hok
      simp only at hcall
      obtain ⟨bq, hbq⟩ : ∃ b, p ⟨x0, x1, x2, x3, x4, x5⟩ = b := ⟨_, rfl⟩
      have hbq2 : covB ⟨x0, x1, x2, x3, x4, x5⟩ r d = bq := by rw [← hbq, ← HP.out]
      rw [hbq2] at hcall
      have HBQ := Lib.hid hbq
      have HCALL := Lib.hid hcall
      clear hbq hbq2 hcall
      cases bq
      · go_wp2_with (first | (go_at_call 147; refine HCALL.out.mono ?_; rintro e w2 ⟨rfl, b2⟩))
        go_roundw
        case rel =>
          refine ⟨k + 1, by omega, by go_num, Lib.hid (fun j hj => ?_), hb.trans (b2.mono hsz)⟩
          rcases Nat.lt_or_ge j k with h' | h'
          · exact HN.out j h'
          · obtain rfl : j = k := by omega
            rw [HX.out]
            exact HBQ.out
        case measure => simp [intOf]; omega
      · go_wp2_with (first | (go_at_call 147; refine HCALL.out.mono ?_; rintro e w2 ⟨rfl, b2⟩))
        go_ret
        exact ⟨ret_int (gIdx_is (d := hoD) hlt HN.out (by rw [HX.out]; exact HBQ.out)).symm, hb.trans (b2.mono hsz)⟩
    · have hkt : k = t.length := by omega
      have HF : Hid (gIdx p t = -1) := Lib.hid (gIdx_none (d := hoD) (fun j hj => HN.out j (by omega)))
      clear hkt
      go_wp2
      go_ret
      exact ⟨ret_int HF.out.symm, hb⟩

theorem covHas_any (v : Value) (t : List Ho) (r : Rec) (d : Int) (B1 B2 : Nat) (w : World) (h : RowR 6 rHo w v t) (hB : CovB w B1 B2 r d) :
    Calls Try.prog 101 #[v, .func (.func 147) #[] #[.pointer (some ⟨B1, 0, none⟩), .pointer (some ⟨B2, 0, none⟩)]] w fun e w' => e = .returned (.bool (heldB t r d)) ∧ Below w.heap.size w w' := by
  obtain ⟨c, hc⟩ : ∃ c, gIdx (fun g : Ho => covB g r d) t = c := ⟨_, rfl⟩
  have ht : heldB t r d = decide (0 ≤ c) := by rw [← hc, gIdx_any]; rfl
  have hcall := covIdx_any v t r d B1 B2 w h hB
  rw [hc] at hcall
  rw [ht]
  have HC := Lib.hid hcall
  clear hcall hc ht h hB
  go_enter Try.func101, Try.ntmps101
  go_wp2_with fail
  refine HC.out.mono ?_
  rintro e w2 ⟨rfl, b2⟩
  go_wp2_with fail
  go_ret
  exact ⟨rfl, b2⟩
end Go.Proofs.Ytkjpehpodlpdhaa
