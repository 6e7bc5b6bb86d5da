/- Formats, the model's: copies, the last day on which a format is readable. -/
import Derived.Test.YtcfghigmijibeaaFoS
import Derived.Test.YtcfghigmijibeaaTyCo
import Derived.Test.YtcfghigmijibeaaInts
namespace Go.Proofs.Ytcfghigmijibeaa
set_option linter.unusedVariables false
open Go.RowKit Go.Sort


set_option maxRecDepth 20000 in
set_option maxHeartbeats 8000000 in
theorem l7Copies_any (v vc : Value) (t : List Fo) (cs : List Co) (w : World) (h : RowR 4 rFo w v t) (hc : RowR 4 rCo w vc cs) :
    Calls Try.prog 52 #[v, vc] w fun e w' => e = .returned (.bool (areCo t cs)) ∧ Below w.heap.size w w' := by
  have hcap := hc.cap
  have HR := Lib.hid h
  obtain ⟨a1, c1, rfl, hl1, hm1, r1⟩ := hc.cos
  have R1 := Lib.hid r1
  clear h hc r1
  unfold maxLen at hm1
  go_enter Try.func52, Try.ntmps52
  go_wp2
  go_loopw [5] (fun i wr => ∃ k : Nat, k ≤ cs.length ∧ i = .int .i64 k ∧ Hid (upto (coAtB t cs) k = true) ∧ Below w.heap.size w wr) (fun i _ => cs.length - (intOf i).toNat)
  case atStart => exact ⟨0, Nat.zero_le _, rfl, Lib.hid (by simp [upto]), Below.refl _ _⟩
  case round =>
    obtain ⟨k, hk, rfl, HU, hb⟩ := hrel
    have hw := hb.size
    by_cases hlt : k < cs.length
    · obtain ⟨b1, o1, hb1, rfl, e1⟩ := R1.out.resolve_left (fun e => by rw [e] at hlt; simp at hlt)
      obtain ⟨⟨x0, x1, x2, x3⟩, hx⟩ : ∃ s, cs.getD k coD = s := ⟨_, rfl⟩
      obtain ⟨q0, q1, q2, q3, hok⟩ := e1 k hlt
      rw [hx] at q0 q1 q2 q3
      simp only at q0 q1 q2 q3
      have f0 := cell_kept q0 hb
      have f1 := cell_kept q1 hb
      have f2 := cell_kept q2 hb
      have f3 := cell_kept q3 hb
      have E1 := Lib.hid e1
      have HX := Lib.hid hx
      have HAT := Lib.hid (coAt_iff (t := t) hx)
      have g0 : (0 : Int) ≤ (k : Int) := by omega
      have g1 : (k : Int) < (cs.length : Int) := by omega
      obtain ⟨bA, hbA⟩ : ∃ b, decide ((1 : Int) ≤ x0 ∧ x0 ≤ 999) = b := ⟨_, rfl⟩
      obtain ⟨bh, hbh⟩ : ∃ b, hasId t x1 = b := ⟨_, rfl⟩
      obtain ⟨bC, hbC⟩ : ∃ b, decide ((1 : Int) ≤ x2 ∧ x2 ≤ 1000000) = b := ⟨_, rfl⟩
      obtain ⟨bD, hbD⟩ : ∃ b, decide ((0 : Int) ≤ x3 ∧ x3 ≤ 20000) = b := ⟨_, rfl⟩
      have HA := Lib.hid hbA
      have HB := Lib.hid hbh
      have HC := Lib.hid hbC
      have HD := Lib.hid hbD
      obtain ⟨c, hcc⟩ : ∃ c, foI t x1 = c := ⟨_, rfl⟩
      have hcn : decide (c < 0) = !bh := by rw [← hcc, foI_neg, hbh]
      have HF := Lib.hid hcc
      clear q0 q1 q2 q3 hok e1 hx hbA hbh hbC hbD hcc
      cases bA
      · have HNT : Hid (areCo t cs = false) := Lib.hid (notCo hlt (by rw [Bool.eq_false_iff]; intro hc; have hh := HAT.out.1 hc; exact of_decide_eq_false HA.out (coOne_iff.1 hh.1).1))
        go_wp2_with fail
        generalize hWE : wr.alloc (.cells #[.int .i64 x0, .int .i64 x1, .int .i64 x2, .int .i64 x3] 68 (0, 0)) = wE
        have bE : Below wr.heap.size wr wE := by rw [← hWE]; exact below_al (Below.refl _ _) _
        have z0 : wE.cell? ⟨wr.heap.size, 0, none⟩ = some (.int .i64 x0) := by rw [← hWE]; exact cell_new wr _ _ 0 rfl
        have z1 : wE.cell? ⟨wr.heap.size, 1, none⟩ = some (.int .i64 x1) := by rw [← hWE]; exact cell_new wr _ _ 1 rfl
        have z2 : wE.cell? ⟨wr.heap.size, 2, none⟩ = some (.int .i64 x2) := by rw [← hWE]; exact cell_new wr _ _ 2 rfl
        have z3 : wE.cell? ⟨wr.heap.size, 3, none⟩ = some (.int .i64 x3) := by rw [← hWE]; exact cell_new wr _ _ 3 rfl
        clear hWE
        refine (l1In_any _ _ _ _).mono ?_
        rw [HA.out]
        rintro e w' ⟨rfl, rfl⟩
        go_wp2_with fail
        go_ret
        exact ⟨ret_bool HNT.out.symm, hb.trans (bE.mono hw)⟩
      · cases bh
        · have HNT : Hid (areCo t cs = false) := Lib.hid (notCo hlt (by rw [Bool.eq_false_iff]; intro hc; have hh := HAT.out.1 hc; have := (coOne_iff.1 hh.1).2.1; simp only at this; rw [HB.out] at this; cases this))
          have hcn' : c < 0 := by simpa using hcn
          clear hcn
          go_wp2_with fail
          generalize hWE : wr.alloc (.cells #[.int .i64 x0, .int .i64 x1, .int .i64 x2, .int .i64 x3] 68 (0, 0)) = wE
          have bE : Below wr.heap.size wr wE := by rw [← hWE]; exact below_al (Below.refl _ _) _
          have z0 : wE.cell? ⟨wr.heap.size, 0, none⟩ = some (.int .i64 x0) := by rw [← hWE]; exact cell_new wr _ _ 0 rfl
          have z1 : wE.cell? ⟨wr.heap.size, 1, none⟩ = some (.int .i64 x1) := by rw [← hWE]; exact cell_new wr _ _ 1 rfl
          have z2 : wE.cell? ⟨wr.heap.size, 2, none⟩ = some (.int .i64 x2) := by rw [← hWE]; exact cell_new wr _ _ 2 rfl
          have z3 : wE.cell? ⟨wr.heap.size, 3, none⟩ = some (.int .i64 x3) := by rw [← hWE]; exact cell_new wr _ _ 3 rfl
          clear hWE
          refine (l1In_any _ _ _ _).mono ?_
          rw [HA.out]
          rintro e w' ⟨rfl, rfl⟩
          go_wp2_with fail
          refine (l7Find_any _ t _ _ (HR.out.below rFo_stable (hb.trans (bE.mono hw)))).mono ?_
          rw [HF.out]
          rintro e w' ⟨rfl, rfl⟩
          go_wp2_with fail
          go_ret
          exact ⟨ret_bool HNT.out.symm, hb.trans (bE.mono hw)⟩
        · have hcn' : 0 ≤ c := by simpa using hcn
          have dcn : decide (c < 0) = false := decide_eq_false (by omega)
          clear hcn
          cases bC
          · have HNT : Hid (areCo t cs = false) := Lib.hid (notCo hlt (by rw [Bool.eq_false_iff]; intro hc; have hh := HAT.out.1 hc; exact of_decide_eq_false HC.out (coOne_iff.1 hh.1).2.2.1))
            go_wp2_with fail
            generalize hWE : wr.alloc (.cells #[.int .i64 x0, .int .i64 x1, .int .i64 x2, .int .i64 x3] 68 (0, 0)) = wE
            have bE : Below wr.heap.size wr wE := by rw [← hWE]; exact below_al (Below.refl _ _) _
            have z0 : wE.cell? ⟨wr.heap.size, 0, none⟩ = some (.int .i64 x0) := by rw [← hWE]; exact cell_new wr _ _ 0 rfl
            have z1 : wE.cell? ⟨wr.heap.size, 1, none⟩ = some (.int .i64 x1) := by rw [← hWE]; exact cell_new wr _ _ 1 rfl
            have z2 : wE.cell? ⟨wr.heap.size, 2, none⟩ = some (.int .i64 x2) := by rw [← hWE]; exact cell_new wr _ _ 2 rfl
            have z3 : wE.cell? ⟨wr.heap.size, 3, none⟩ = some (.int .i64 x3) := by rw [← hWE]; exact cell_new wr _ _ 3 rfl
            clear hWE
            refine (l1In_any _ _ _ _).mono ?_
            rw [HA.out]
            rintro e w' ⟨rfl, rfl⟩
            go_wp2_with fail
            refine (l7Find_any _ t _ _ (HR.out.below rFo_stable (hb.trans (bE.mono hw)))).mono ?_
            rw [HF.out]
            rintro e w' ⟨rfl, rfl⟩
            go_wp2_with fail
            refine (l1In_any _ _ _ _).mono ?_
            rw [HC.out]
            rintro e w' ⟨rfl, rfl⟩
            go_wp2_with fail
            go_ret
            exact ⟨ret_bool HNT.out.symm, hb.trans (bE.mono hw)⟩
          · cases bD
            · have HNT : Hid (areCo t cs = false) := Lib.hid (notCo hlt (by rw [Bool.eq_false_iff]; intro hc; have hh := HAT.out.1 hc; exact of_decide_eq_false HD.out (coOne_iff.1 hh.1).2.2.2))
              go_wp2_with fail
              generalize hWE : wr.alloc (.cells #[.int .i64 x0, .int .i64 x1, .int .i64 x2, .int .i64 x3] 68 (0, 0)) = wE
              have bE : Below wr.heap.size wr wE := by rw [← hWE]; exact below_al (Below.refl _ _) _
              have z0 : wE.cell? ⟨wr.heap.size, 0, none⟩ = some (.int .i64 x0) := by rw [← hWE]; exact cell_new wr _ _ 0 rfl
              have z1 : wE.cell? ⟨wr.heap.size, 1, none⟩ = some (.int .i64 x1) := by rw [← hWE]; exact cell_new wr _ _ 1 rfl
              have z2 : wE.cell? ⟨wr.heap.size, 2, none⟩ = some (.int .i64 x2) := by rw [← hWE]; exact cell_new wr _ _ 2 rfl
              have z3 : wE.cell? ⟨wr.heap.size, 3, none⟩ = some (.int .i64 x3) := by rw [← hWE]; exact cell_new wr _ _ 3 rfl
              clear hWE
              refine (l1In_any _ _ _ _).mono ?_
              rw [HA.out]
              rintro e w' ⟨rfl, rfl⟩
              go_wp2_with fail
              refine (l7Find_any _ t _ _ (HR.out.below rFo_stable (hb.trans (bE.mono hw)))).mono ?_
              rw [HF.out]
              rintro e w' ⟨rfl, rfl⟩
              go_wp2_with fail
              refine (l1In_any _ _ _ _).mono ?_
              rw [HC.out]
              rintro e w' ⟨rfl, rfl⟩
              go_wp2_with fail
              refine (l2Day_any _ _).mono ?_
              rw [HD.out]
              rintro e w' ⟨rfl, rfl⟩
              go_wp2_with fail
              go_ret
              exact ⟨ret_bool HNT.out.symm, hb.trans (bE.mono hw)⟩
            · have H1X : Hid (coOne t ⟨x0, x1, x2, x3⟩ = true) := Lib.hid (coOne_iff.2 ⟨of_decide_eq_true HA.out, HB.out, of_decide_eq_true HC.out, of_decide_eq_true HD.out⟩)
              rcases Nat.eq_zero_or_pos k with hk0 | hk0
              · have dk : decide ((0 : Int) < (k : Int)) = false := decide_eq_false (by omega)
                have dk2 : decide (0 < k) = false := decide_eq_false (by omega)
                have HAL : Hid (coAtB t cs k = true) := Lib.hid (HAT.out.2 ⟨H1X.out, by rw [hk0]; exact coBef_first (coOne_iff.1 H1X.out).1.1⟩)
                clear hk0
                go_wp2_with fail
                generalize hWE : wr.alloc (.cells #[.int .i64 x0, .int .i64 x1, .int .i64 x2, .int .i64 x3] 68 (0, 0)) = wE
                have bE : Below wr.heap.size wr wE := by rw [← hWE]; exact below_al (Below.refl _ _) _
                have z0 : wE.cell? ⟨wr.heap.size, 0, none⟩ = some (.int .i64 x0) := by rw [← hWE]; exact cell_new wr _ _ 0 rfl
                have z1 : wE.cell? ⟨wr.heap.size, 1, none⟩ = some (.int .i64 x1) := by rw [← hWE]; exact cell_new wr _ _ 1 rfl
                have z2 : wE.cell? ⟨wr.heap.size, 2, none⟩ = some (.int .i64 x2) := by rw [← hWE]; exact cell_new wr _ _ 2 rfl
                have z3 : wE.cell? ⟨wr.heap.size, 3, none⟩ = some (.int .i64 x3) := by rw [← hWE]; exact cell_new wr _ _ 3 rfl
                clear hWE
                refine (l1In_any _ _ _ _).mono ?_
                rw [HA.out]
                rintro e w' ⟨rfl, rfl⟩
                go_wp2_with fail
                refine (l7Find_any _ t _ _ (HR.out.below rFo_stable (hb.trans (bE.mono hw)))).mono ?_
                rw [HF.out]
                rintro e w' ⟨rfl, rfl⟩
                go_wp2_with fail
                refine (l1In_any _ _ _ _).mono ?_
                rw [HC.out]
                rintro e w' ⟨rfl, rfl⟩
                go_wp2_with fail
                refine (l2Day_any _ _).mono ?_
                rw [HD.out]
                rintro e w' ⟨rfl, rfl⟩
                go_wp2_with fail
                go_quiet (fail)
                go_wp2_with fail
                go_roundw
                case rel => exact ⟨k + 1, by omega, by go_num, Lib.hid (upto_succ HU.out HAL.out), below_drewN (hb.trans (bE.mono hw)) _⟩
                case measure => simp [intOf]; omega
              · obtain ⟨j, rfl⟩ : ∃ j, k = j + 1 := ⟨k - 1, by omega⟩
                obtain ⟨⟨p0, p1, p2, p3⟩, hp⟩ : ∃ s, cs.getD j coD = s := ⟨_, rfl⟩
                obtain ⟨r0, r1, r2, r3, _⟩ := E1.out j (by omega)
                rw [hp] at r0 r1
                simp only at r0 r1
                have HPC : Hid (prevCo cs (j + 1) = ⟨p0, p1, p2, p3⟩) := Lib.hid (by rw [prevCo, hp])
                have g2 : (j : Int) < (cs.length : Int) := by omega
                have g3 : (0 : Int) ≤ (j : Int) := by omega
                have g4 : (0 : Int) < (j : Int) + 1 := by omega
                have e0 := cell_kept r0 hb
                have e1 := cell_kept r1 hb
                clear r0 r1 r2 r3 hk0 hp
                by_cases hA : x0 < p0
                · have HNT : Hid (areCo t cs = false) := Lib.hid (notCo hlt (by rw [Bool.eq_false_iff]; intro hc; have hh := HAT.out.1 hc; have := coBef_iff.1 hh.2; rw [HPC.out] at this; simp only at this; omega))
                  go_wp2_with fail
                  generalize hWE : wr.alloc (.cells #[.int .i64 x0, .int .i64 x1, .int .i64 x2, .int .i64 x3] 68 (0, 0)) = wE
                  have bE : Below wr.heap.size wr wE := by rw [← hWE]; exact below_al (Below.refl _ _) _
                  have z0 : wE.cell? ⟨wr.heap.size, 0, none⟩ = some (.int .i64 x0) := by rw [← hWE]; exact cell_new wr _ _ 0 rfl
                  have z1 : wE.cell? ⟨wr.heap.size, 1, none⟩ = some (.int .i64 x1) := by rw [← hWE]; exact cell_new wr _ _ 1 rfl
                  have z2 : wE.cell? ⟨wr.heap.size, 2, none⟩ = some (.int .i64 x2) := by rw [← hWE]; exact cell_new wr _ _ 2 rfl
                  have z3 : wE.cell? ⟨wr.heap.size, 3, none⟩ = some (.int .i64 x3) := by rw [← hWE]; exact cell_new wr _ _ 3 rfl
                  clear hWE
                  have z4 := cell_kept e0 bE
                  have z5 := cell_kept e1 bE
                  refine (l1In_any _ _ _ _).mono ?_
                  rw [HA.out]
                  rintro e w' ⟨rfl, rfl⟩
                  go_wp2_with fail
                  refine (l7Find_any _ t _ _ (HR.out.below rFo_stable (hb.trans (bE.mono hw)))).mono ?_
                  rw [HF.out]
                  rintro e w' ⟨rfl, rfl⟩
                  go_wp2_with fail
                  refine (l1In_any _ _ _ _).mono ?_
                  rw [HC.out]
                  rintro e w' ⟨rfl, rfl⟩
                  go_wp2_with fail
                  refine (l2Day_any _ _).mono ?_
                  rw [HD.out]
                  rintro e w' ⟨rfl, rfl⟩
                  go_wp2_with fail
                  go_quiet (fail)
                  go_wp2_with fail
                  go_ret
                  exact ⟨ret_bool HNT.out.symm, below_drewN (hb.trans (bE.mono hw)) _⟩
                · have dA : decide (x0 < p0) = false := decide_eq_false hA
                  by_cases hE : p0 = x0
                  · have dE : (p0 == x0) = true := by simp [hE]
                    have HE := Lib.hid hE
                    clear hE
                    by_cases hF : x1 ≤ p1
                    · have HNT : Hid (areCo t cs = false) := Lib.hid (notCo hlt (by rw [Bool.eq_false_iff]; intro hc; have hh := HAT.out.1 hc; have := coBef_iff.1 hh.2; rw [HPC.out] at this; simp only at this; have := HE.out; omega))
                      go_wp2_with fail
                      generalize hWE : wr.alloc (.cells #[.int .i64 x0, .int .i64 x1, .int .i64 x2, .int .i64 x3] 68 (0, 0)) = wE
                      have bE : Below wr.heap.size wr wE := by rw [← hWE]; exact below_al (Below.refl _ _) _
                      have z0 : wE.cell? ⟨wr.heap.size, 0, none⟩ = some (.int .i64 x0) := by rw [← hWE]; exact cell_new wr _ _ 0 rfl
                      have z1 : wE.cell? ⟨wr.heap.size, 1, none⟩ = some (.int .i64 x1) := by rw [← hWE]; exact cell_new wr _ _ 1 rfl
                      have z2 : wE.cell? ⟨wr.heap.size, 2, none⟩ = some (.int .i64 x2) := by rw [← hWE]; exact cell_new wr _ _ 2 rfl
                      have z3 : wE.cell? ⟨wr.heap.size, 3, none⟩ = some (.int .i64 x3) := by rw [← hWE]; exact cell_new wr _ _ 3 rfl
                      clear hWE
                      have z4 := cell_kept e0 bE
                      have z5 := cell_kept e1 bE
                      refine (l1In_any _ _ _ _).mono ?_
                      rw [HA.out]
                      rintro e w' ⟨rfl, rfl⟩
                      go_wp2_with fail
                      refine (l7Find_any _ t _ _ (HR.out.below rFo_stable (hb.trans (bE.mono hw)))).mono ?_
                      rw [HF.out]
                      rintro e w' ⟨rfl, rfl⟩
                      go_wp2_with fail
                      refine (l1In_any _ _ _ _).mono ?_
                      rw [HC.out]
                      rintro e w' ⟨rfl, rfl⟩
                      go_wp2_with fail
                      refine (l2Day_any _ _).mono ?_
                      rw [HD.out]
                      rintro e w' ⟨rfl, rfl⟩
                      go_wp2_with fail
                      go_quiet (fail)
                      go_wp2_with fail
                      go_ret
                      exact ⟨ret_bool HNT.out.symm, below_drewN (hb.trans (bE.mono hw)) _⟩
                    · have dF : decide (x1 ≤ p1) = false := decide_eq_false hF
                      have HAL : Hid (coAtB t cs (j + 1) = true) := Lib.hid (HAT.out.2 ⟨H1X.out, coBef_iff.2 (by rw [HPC.out]; simp only; have := HE.out; omega)⟩)
                      go_wp2_with fail
                      generalize hWE : wr.alloc (.cells #[.int .i64 x0, .int .i64 x1, .int .i64 x2, .int .i64 x3] 68 (0, 0)) = wE
                      have bE : Below wr.heap.size wr wE := by rw [← hWE]; exact below_al (Below.refl _ _) _
                      have z0 : wE.cell? ⟨wr.heap.size, 0, none⟩ = some (.int .i64 x0) := by rw [← hWE]; exact cell_new wr _ _ 0 rfl
                      have z1 : wE.cell? ⟨wr.heap.size, 1, none⟩ = some (.int .i64 x1) := by rw [← hWE]; exact cell_new wr _ _ 1 rfl
                      have z2 : wE.cell? ⟨wr.heap.size, 2, none⟩ = some (.int .i64 x2) := by rw [← hWE]; exact cell_new wr _ _ 2 rfl
                      have z3 : wE.cell? ⟨wr.heap.size, 3, none⟩ = some (.int .i64 x3) := by rw [← hWE]; exact cell_new wr _ _ 3 rfl
                      clear hWE
                      have z4 := cell_kept e0 bE
                      have z5 := cell_kept e1 bE
                      refine (l1In_any _ _ _ _).mono ?_
                      rw [HA.out]
                      rintro e w' ⟨rfl, rfl⟩
                      go_wp2_with fail
                      refine (l7Find_any _ t _ _ (HR.out.below rFo_stable (hb.trans (bE.mono hw)))).mono ?_
                      rw [HF.out]
                      rintro e w' ⟨rfl, rfl⟩
                      go_wp2_with fail
                      refine (l1In_any _ _ _ _).mono ?_
                      rw [HC.out]
                      rintro e w' ⟨rfl, rfl⟩
                      go_wp2_with fail
                      refine (l2Day_any _ _).mono ?_
                      rw [HD.out]
                      rintro e w' ⟨rfl, rfl⟩
                      go_wp2_with fail
                      go_quiet (fail)
                      go_wp2_with fail
                      go_roundw
                      case rel => exact ⟨j + 1 + 1, by omega, by go_num, Lib.hid (upto_succ HU.out HAL.out), below_drewN (hb.trans (bE.mono hw)) _⟩
                      case measure => simp [intOf]; omega
                  · have dE : (p0 == x0) = false := by simp [hE]
                    have HAL : Hid (coAtB t cs (j + 1) = true) := Lib.hid (HAT.out.2 ⟨H1X.out, coBef_iff.2 (by rw [HPC.out]; simp only; omega)⟩)
                    clear hE
                    go_wp2_with fail
                    generalize hWE : wr.alloc (.cells #[.int .i64 x0, .int .i64 x1, .int .i64 x2, .int .i64 x3] 68 (0, 0)) = wE
                    have bE : Below wr.heap.size wr wE := by rw [← hWE]; exact below_al (Below.refl _ _) _
                    have z0 : wE.cell? ⟨wr.heap.size, 0, none⟩ = some (.int .i64 x0) := by rw [← hWE]; exact cell_new wr _ _ 0 rfl
                    have z1 : wE.cell? ⟨wr.heap.size, 1, none⟩ = some (.int .i64 x1) := by rw [← hWE]; exact cell_new wr _ _ 1 rfl
                    have z2 : wE.cell? ⟨wr.heap.size, 2, none⟩ = some (.int .i64 x2) := by rw [← hWE]; exact cell_new wr _ _ 2 rfl
                    have z3 : wE.cell? ⟨wr.heap.size, 3, none⟩ = some (.int .i64 x3) := by rw [← hWE]; exact cell_new wr _ _ 3 rfl
                    clear hWE
                    have z4 := cell_kept e0 bE
                    have z5 := cell_kept e1 bE
                    refine (l1In_any _ _ _ _).mono ?_
                    rw [HA.out]
                    rintro e w' ⟨rfl, rfl⟩
                    go_wp2_with fail
                    refine (l7Find_any _ t _ _ (HR.out.below rFo_stable (hb.trans (bE.mono hw)))).mono ?_
                    rw [HF.out]
                    rintro e w' ⟨rfl, rfl⟩
                    go_wp2_with fail
                    refine (l1In_any _ _ _ _).mono ?_
                    rw [HC.out]
                    rintro e w' ⟨rfl, rfl⟩
                    go_wp2_with fail
                    refine (l2Day_any _ _).mono ?_
                    rw [HD.out]
                    rintro e w' ⟨rfl, rfl⟩
                    go_wp2_with fail
                    go_quiet (fail)
                    go_wp2_with fail
                    go_roundw
                    case rel => exact ⟨j + 1 + 1, by omega, by go_num, Lib.hid (upto_succ HU.out HAL.out), below_drewN (hb.trans (bE.mono hw)) _⟩
                    case measure => simp [intOf]; omega
    · have hkt : k = cs.length := by omega
      have HF : Hid (areCo t cs = (areFo t && decide (cs.length ≤ 15))) := Lib.hid (co_upto (by have := HU.out; rw [hkt] at this; exact this))
      have gL : (cs.length : Int) ≤ (k : Int) := by omega
      clear hkt
      obtain ⟨bG, hbG⟩ : ∃ b, areFo t = b := ⟨_, rfl⟩
      have HG := Lib.hid hbG
      clear hbG
      cases bG
      · go_wp2_with (first | (go_at_call 45; refine (l7Good_any _ t _ (HR.out.below rFo_stable hb)).mono ?_; rw [HG.out]; rintro e w2 ⟨rfl, b2⟩))
        go_ret
        exact ⟨ret_bool (by rw [HF.out, HG.out]; rfl), hb.trans (b2.mono hw)⟩
      · by_cases hL : cs.length ≤ 15
        · have dL : decide ((cs.length : Int) ≤ 15) = true := decide_eq_true (by omega)
          go_wp2_with (first | (go_at_call 45; refine (l7Good_any _ t _ (HR.out.below rFo_stable hb)).mono ?_; rw [HG.out]; rintro e w2 ⟨rfl, b2⟩))
          go_ret
          exact ⟨ret_bool (by rw [HF.out, HG.out]; simp [hL] <;> omega), hb.trans (b2.mono hw)⟩
        · have dL : decide ((cs.length : Int) ≤ 15) = false := decide_eq_false (by omega)
          go_wp2_with (first | (go_at_call 45; refine (l7Good_any _ t _ (HR.out.below rFo_stable hb)).mono ?_; rw [HG.out]; rintro e w2 ⟨rfl, b2⟩))
          go_ret
          exact ⟨ret_bool (by rw [HF.out, HG.out]; simp [hL] <;> omega), hb.trans (b2.mono hw)⟩

theorem specAreCo_any (v vc : Value) (t : List Fo) (cs : List Co) (w : World) (h : RowR 4 rFo w v t) (hc : RowR 4 rCo w vc cs) : Calls Try.prog 19 #[v, vc] w fun e w' => e = .returned (.bool (areCo t cs)) ∧ Below w.heap.size w w' := by
  have H := Lib.hid h
  have HC := Lib.hid hc
  clear h hc
  go_enter Try.func19, Try.ntmps19
  go_wp2_with fail
  refine (l7Copies_any _ _ t cs _ H.out HC.out).mono ?_
  rintro e w' ⟨rfl, hb⟩
  go_wp2_with fail
  go_ret
  exact ⟨rfl, hb⟩


theorem l1MostF_any (a b : Int) (w : World) : Calls Try.prog 79 #[.int .i64 a, .int .i64 b] w fun e w' => e = .returned (.int .i64 (max a b)) ∧ w' = w := by
  by_cases h : b < a
  · go_enter Try.func79, Try.ntmps79
    go_wp2
    go_ret
    exact ⟨ret_int (by omega), rfl⟩
  · go_enter Try.func79, Try.ntmps79
    go_wp2
    go_ret
    exact ⟨ret_int (by omega), rfl⟩

set_option maxRecDepth 20000 in
set_option maxHeartbeats 4000000 in
theorem l7Last_any (v : Value) (t : List Fo) (x : Int) (w : World) (h : RowR 4 rFo w v t) (hid : hasId t x = true) :
    Calls Try.prog 59 #[v, .int .i64 x] w fun e w' => e = .returned (.int .i64 (lastF t x)) ∧ Below w.heap.size w w' := by
  have hcap := h.cap
  have H := Lib.hid h
  obtain ⟨a1, c1, rfl, hl1, hm1, r1⟩ := h.fos
  have R1 := Lib.hid r1
  clear h r1
  unfold maxLen at hm1
  obtain ⟨p, hp, hpl, _⟩ := foI_at hid
  have HP := Lib.hid hp
  obtain ⟨b1, o1, hb1, rfl, e1⟩ := R1.out.resolve_left (fun e => by rw [e] at hpl; simp at hpl)
  obtain ⟨s0, _, _, q2, _⟩ := e1 p hpl
  obtain ⟨m0, hm0⟩ : ∃ y, (t.getD p foD).til = y := ⟨_, rfl⟩
  rw [hm0] at q2
  have HL : Hid (lastF t x = t.foldl (lastStep x) m0) := Lib.hid (by unfold lastF; rw [hp, Int.toNat_natCast, hm0])
  have g0 : (0 : Int) ≤ (p : Int) := by omega
  have g1 : (p : Int) < (t.length : Int) := by omega
  have E1 := Lib.hid e1
  clear hp hid hm0 e1
  go_enter Try.func59, Try.ntmps59
  go_wp2_with (first | (go_at_call 57; refine (l7Find_any _ t _ _ H.out).mono ?_; rw [HP.out]; rintro e w1 ⟨rfl, rfl⟩))
  go_loopw [5, 6] (fun m i wr => ∃ (k : Nat) (mv : Int), k ≤ t.length ∧ i = .int .i64 k ∧ m = .int .i64 mv ∧ Hid ((t.take k).foldl (lastStep x) m0 = mv) ∧ Below w1.heap.size w1 wr) (fun _ i _ => t.length - (intOf i).toNat)
  case atStart => exact ⟨0, m0, Nat.zero_le _, rfl, rfl, Lib.hid rfl, Below.refl _ _⟩
  case round =>
    obtain ⟨k, mv, hk, rfl, rfl, HM, hb⟩ := hrel
    have hw := hb.size
    by_cases hlt : k < t.length
    · obtain ⟨⟨x0, x1, x2, x3⟩, hx⟩ : ∃ s, t.getD k foD = s := ⟨_, rfl⟩
      obtain ⟨s, r0, r1, r2, r3, hr, _⟩ := E1.out k hlt
      rw [hx] at r2 hr
      simp only at r2 hr
      have f2 := cell_kept r2 hb
      have f3 := cell_kept r3 hb
      have HS := Lib.hid (hr.below hb)
      obtain ⟨sa, sc, rfl, _⟩ := hr
      have hsu := last_succ hlt x m0
      rw [HM.out, hx] at hsu
      have HSU := Lib.hid hsu
      have k0 : (0 : Int) ≤ (k : Int) := by omega
      have k1 : (k : Int) < (t.length : Int) := by omega
      obtain ⟨bi, hbi⟩ : ∃ b, decide (x ∈ x3) = b := ⟨_, rfl⟩
      have HBI := Lib.hid hbi
      clear r0 r1 r2 r3 hx hsu hbi
      cases bi
      · have hst : lastStep x mv ⟨x0, x1, x2, x3⟩ = mv := by unfold lastStep; rw [if_neg (of_decide_eq_false HBI.out)]
        have HST := Lib.hid hst
        clear hst
        go_wp2_with (first | (go_at_call 60; refine (l1Has_any _ x3 x _ HS.out).mono ?_; rw [HBI.out]; rintro e w2 ⟨rfl, b2⟩))
        go_roundw
        case rel => exact ⟨k + 1, mv, by omega, by go_num, rfl, Lib.hid (HSU.out.trans HST.out), hb.trans (b2.mono hw)⟩
        case measure => simp [intOf]; omega
      · have hst : lastStep x mv ⟨x0, x1, x2, x3⟩ = max mv x2 := by unfold lastStep; rw [if_pos (of_decide_eq_true HBI.out)]
        have HST := Lib.hid hst
        clear hst
        go_wp2_with (first | (go_at_call 60; refine (l1Has_any _ x3 x _ HS.out).mono ?_; rw [HBI.out]; rintro e w2 ⟨rfl, b2⟩; replace f2 := cell_kept f2 b2; replace f3 := cell_kept f3 b2) | (go_at_call 79; refine (l1MostF_any _ _ _).mono ?_; rintro e w3 ⟨rfl, rfl⟩))
        go_roundw
        case rel => exact ⟨k + 1, max mv x2, by omega, by go_num, rfl, Lib.hid (HSU.out.trans HST.out), hb.trans (b2.mono hw)⟩
        case measure => simp [intOf]; omega
    · have hkt : k = t.length := by omega
      have HE : Hid (lastF t x = mv) := Lib.hid (by rw [HL.out]; have := HM.out; rwa [hkt, List.take_length] at this)
      clear hkt
      go_wp2
      go_ret
      exact ⟨ret_int HE.out.symm, hb⟩

theorem specLastReadable_any (v : Value) (t : List Fo) (x : Int) (w : World) (h : RowR 4 rFo w v t) (n : Int) (b : Bool) (hres : lastFoRes t x = (n, b)) :
    Calls Try.prog 42 #[v, .int .i64 x] w fun e w' => e = .returned (.tuple #[.int .i64 n, .bool b]) ∧ Below w.heap.size w w' := by
  have H := Lib.hid h
  obtain ⟨bg, hg⟩ : ∃ b, areFo t = b := ⟨_, rfl⟩
  obtain ⟨bh, hh⟩ : ∃ b, hasId t x = b := ⟨_, rfl⟩
  obtain ⟨c, hc⟩ : ∃ c, foI t x = c := ⟨_, rfl⟩
  have hcn : decide (c < 0) = !bh := by rw [← hc, foI_neg, hh]
  have HG := Lib.hid hg
  have HH := Lib.hid hh
  have HC := Lib.hid hc
  have NO := Lib.hid (fun hn => lastFoRes_no hres hn)
  have YES := Lib.hid (fun hn => lastFoRes_yes hres hn)
  clear h hg hh hc hres
  cases bg
  · obtain ⟨rfl, rfl⟩ := NO.out (fun h => by rw [HG.out] at h; exact absurd h.1 (by simp))
    go_enter Try.func42, Try.ntmps42
    go_wp2_with (first | (go_at_call 45; refine (l7Good_any _ t _ H.out).mono ?_; rw [HG.out]; rintro e w1 ⟨rfl, b1⟩))
    go_ret2
    exact ⟨rfl, b1⟩
  · cases bh
    · obtain ⟨rfl, rfl⟩ := NO.out (fun h => by rw [HH.out] at h; exact absurd h.2 (by simp))
      have hcn' : c < 0 := by simpa using hcn
      clear hcn
      go_enter Try.func42, Try.ntmps42
      go_wp2_with (first | (go_at_call 45; refine (l7Good_any _ t _ H.out).mono ?_; rw [HG.out]; rintro e w1 ⟨rfl, b1⟩) | (go_at_call 57; refine (l7Find_any _ t _ _ (H.out.below rFo_stable b1)).mono ?_; rw [HC.out]; rintro e w2 ⟨rfl, rfl⟩))
      go_ret2
      exact ⟨rfl, b1⟩
    · obtain ⟨rfl, rfl⟩ := YES.out ⟨HG.out, HH.out⟩
      have hcn' : 0 ≤ c := by simpa using hcn
      have dcn : decide (c < 0) = false := decide_eq_false (by omega)
      clear hcn
      go_enter Try.func42, Try.ntmps42
      go_wp2_with (first | (go_at_call 45; refine (l7Good_any _ t _ H.out).mono ?_; rw [HG.out]; rintro e w1 ⟨rfl, b1⟩) | (go_at_call 57; refine (l7Find_any _ t _ _ (H.out.below rFo_stable b1)).mono ?_; rw [HC.out]; rintro e w2 ⟨rfl, h2⟩; subst w2) | (go_at_call 59; refine (l7Last_any _ t _ _ (H.out.below rFo_stable b1) HH.out).mono ?_; rintro e w3 ⟨rfl, b3⟩))
      go_ret2
      exact ⟨rfl, below_chain b1 b3⟩

theorem specIsReadable_any (v : Value) (t : List Fo) (x d : Int) (w : World) (h : RowR 4 rFo w v t) (n b : Bool) (hres : readFoRes t x d = (n, b)) :
    Calls Try.prog 23 #[v, .int .i64 x, .int .i64 d] w fun e w' => e = .returned (.tuple #[.bool n, .bool b]) ∧ Below w.heap.size w w' := by
  have H := Lib.hid h
  obtain ⟨bg, hg⟩ : ∃ b, areFo t = b := ⟨_, rfl⟩
  obtain ⟨bh, hh⟩ : ∃ b, hasId t x = b := ⟨_, rfl⟩
  obtain ⟨bd, hd⟩ : ∃ b, decide (0 ≤ d ∧ d ≤ 20000) = b := ⟨_, rfl⟩
  obtain ⟨c, hc⟩ : ∃ c, foI t x = c := ⟨_, rfl⟩
  have hcn : decide (c < 0) = !bh := by rw [← hc, foI_neg, hh]
  have HG := Lib.hid hg
  have HH := Lib.hid hh
  have HD := Lib.hid hd
  have HC := Lib.hid hc
  have NO := Lib.hid (fun hn => readFoRes_no hres hn)
  have YES := Lib.hid (fun hn => readFoRes_yes hres hn)
  clear h hg hh hc hd hres
  cases bg
  · obtain ⟨rfl, rfl⟩ := NO.out (fun h => by rw [HG.out] at h; exact absurd h.1 (by simp))
    go_enter Try.func23, Try.ntmps23
    go_wp2_with (first | (go_at_call 45; refine (l7Good_any _ t _ H.out).mono ?_; rw [HG.out]; rintro e w1 ⟨rfl, b1⟩))
    go_ret2
    exact ⟨rfl, b1⟩
  · cases bh
    · obtain ⟨rfl, rfl⟩ := NO.out (fun h => by rw [HH.out] at h; exact absurd h.2.1 (by simp))
      have hcn' : c < 0 := by simpa using hcn
      clear hcn
      go_enter Try.func23, Try.ntmps23
      go_wp2_with (first | (go_at_call 45; refine (l7Good_any _ t _ H.out).mono ?_; rw [HG.out]; rintro e w1 ⟨rfl, b1⟩) | (go_at_call 57; refine (l7Find_any _ t _ _ (H.out.below rFo_stable b1)).mono ?_; rw [HC.out]; rintro e w2 ⟨rfl, rfl⟩))
      go_ret2
      exact ⟨rfl, b1⟩
    · have hcn' : 0 ≤ c := by simpa using hcn
      have dcn : decide (c < 0) = false := decide_eq_false (by omega)
      clear hcn
      cases bd
      · obtain ⟨rfl, rfl⟩ := NO.out (fun h => by have := h.2.2; unfold dayB at this; rw [HD.out] at this; cases this)
        go_enter Try.func23, Try.ntmps23
        go_wp2_with (first | (go_at_call 45; refine (l7Good_any _ t _ H.out).mono ?_; rw [HG.out]; rintro e w1 ⟨rfl, b1⟩) | (go_at_call 57; refine (l7Find_any _ t _ _ (H.out.below rFo_stable b1)).mono ?_; rw [HC.out]; rintro e w2 ⟨rfl, h2⟩; subst w2) | (go_at_call 58; refine (l2Day_any _ _).mono ?_; rw [HD.out]; rintro e w3 ⟨rfl, h3⟩; subst w3))
        go_ret2
        exact ⟨rfl, b1⟩
      · obtain ⟨rfl, rfl⟩ := YES.out ⟨HG.out, HH.out, HD.out⟩
        go_enter Try.func23, Try.ntmps23
        go_wp2_with (first | (go_at_call 45; refine (l7Good_any _ t _ H.out).mono ?_; rw [HG.out]; rintro e w1 ⟨rfl, b1⟩) | (go_at_call 57; refine (l7Find_any _ t _ _ (H.out.below rFo_stable b1)).mono ?_; rw [HC.out]; rintro e w2 ⟨rfl, h2⟩; subst w2) | (go_at_call 58; refine (l2Day_any _ _).mono ?_; rw [HD.out]; rintro e w3 ⟨rfl, h3⟩; subst w3) | (go_at_call 59; refine (l7Last_any _ t _ _ (H.out.below rFo_stable b1) HH.out).mono ?_; rintro e w4 ⟨rfl, b4⟩))
        go_ret2
        exact ⟨rfl, below_chain b1 b4⟩
end Go.Proofs.Ytcfghigmijibeaa
