/- Triggers, the model's: l10Good, AreTriggers. -/
import Derived.Test.YtedckfbjhhabgaaTyTg
import Derived.Test.YtedckfbjhhabgaaRuS
import Derived.Test.YtedckfbjhhabgaaL1In
import Derived.Test.YtedckfbjhhabgaaInts
import Derived.Test.YtedckfbjhhabgaaBx
namespace Go.Proofs.Ytedckfbjhhabgaa
set_option linter.unusedVariables false
open Go.RowKit Go.Sort

theorem below_drewT {n : Nat} {a b : World} (h : Below n a b) (k : Nat) : Below n a (b.drewN k) := ⟨h.os, h.tape, h.output, h.size, h.block⟩
set_option maxRecDepth 20000 in
set_option maxHeartbeats 8000000 in
theorem l10Good_any (v : Value) (t : List Tg) (w : World) (h : RowR 3 rTg w v t) :
    Calls Try.prog 49 #[v] w fun e w' => e = .returned (.bool (areTg t)) ∧ Below w.heap.size w w' := by
  have hcap := h.cap
  obtain ⟨a1, c1, rfl, hl1, hm1, r1⟩ := h.tgs
  have R1 := Lib.hid r1
  clear h r1
  unfold maxLen at hm1
  go_enter Try.func49, Try.ntmps49
  go_wp2
  go_loopw [3] (fun i wr => ∃ k : Nat, k ≤ t.length ∧ i = .int .i64 k ∧ Hid (upto (tgAtB t) k = true) ∧ Below w.heap.size w wr) (fun i _ => t.length - (intOf i).toNat)
  case atStart => exact ⟨0, Nat.zero_le _, rfl, Lib.hid (by simp [upto]), Below.refl _ _⟩
  case round =>
    obtain ⟨k, hk, rfl, HU, hb⟩ := hrel
    have hw := hb.size
    by_cases hlt : k < t.length
    · obtain ⟨b1, o1, hb1, rfl, e1⟩ := R1.out.resolve_left (fun e => by rw [e] at hlt; simp at hlt)
      obtain ⟨⟨x0, x1, x2⟩, hx⟩ : ∃ s, t.getD k tgD = s := ⟨_, rfl⟩
      obtain ⟨q0, q1, q2, hok⟩ := e1 k hlt
      rw [hx] at q0 q1 q2
      simp only at q0 q1 q2
      have f0 := cell_kept q0 hb
      have f1 := cell_kept q1 hb
      have f2 := cell_kept q2 hb
      have E1 := Lib.hid e1
      have HX := Lib.hid hx
      have HAT := Lib.hid (tgAt_iff (t := t) hx)
      have g0 : (0 : Int) ≤ (k : Int) := by omega
      have g1 : (k : Int) < (t.length : Int) := by omega
      obtain ⟨bA, hbA⟩ : ∃ b, decide ((1 : Int) ≤ x0 ∧ x0 ≤ 9) = b := ⟨_, rfl⟩
      obtain ⟨bC, hbC⟩ : ∃ b, decide ((0 : Int) ≤ x1 ∧ x1 ≤ 9) = b := ⟨_, rfl⟩
      obtain ⟨bD, hbD⟩ : ∃ b, decide ((0 : Int) ≤ x2 ∧ x2 ≤ 10000) = b := ⟨_, rfl⟩
      have HA := Lib.hid hbA
      have HC := Lib.hid hbC
      have HD := Lib.hid hbD
      clear q0 q1 q2 hok e1 hx hbA hbC hbD
      cases bA
      · have HNT : Hid (areTg t = false) := Lib.hid (notTg hlt (by rw [Bool.eq_false_iff]; intro hc; have hh := HAT.out.1 hc; exact of_decide_eq_false HA.out (tgOne_iff.1 hh.1).1))
        go_wp2_with fail
        generalize hWE : wr.alloc (.cells #[.int .i64 x0, .int .i64 x1, .int .i64 x2] 63 (0, 0)) = wE
        have bE : Below wr.heap.size wr wE := by rw [← hWE]; exact below_al (Below.refl _ _) _
        have z0 : wE.cell? ⟨wr.heap.size, 0, none⟩ = some (.int .i64 x0) := by rw [← hWE]; exact cell_new wr _ _ 0 rfl
        have z1 : wE.cell? ⟨wr.heap.size, 1, none⟩ = some (.int .i64 x1) := by rw [← hWE]; exact cell_new wr _ _ 1 rfl
        have z2 : wE.cell? ⟨wr.heap.size, 2, none⟩ = some (.int .i64 x2) := by rw [← hWE]; exact cell_new wr _ _ 2 rfl
        clear hWE
        refine (l1In_any _ _ _ _).mono ?_
        rw [HA.out]
        rintro e w' ⟨rfl, rfl⟩
        go_wp2_with fail
        go_ret
        exact ⟨ret_bool HNT.out.symm, hb.trans (bE.mono hw)⟩
      · cases bC
        · have HNT : Hid (areTg t = false) := Lib.hid (notTg hlt (by rw [Bool.eq_false_iff]; intro hc; have hh := HAT.out.1 hc; exact of_decide_eq_false HC.out (tgOne_iff.1 hh.1).2.1))
          go_wp2_with fail
          generalize hWE : wr.alloc (.cells #[.int .i64 x0, .int .i64 x1, .int .i64 x2] 63 (0, 0)) = wE
          have bE : Below wr.heap.size wr wE := by rw [← hWE]; exact below_al (Below.refl _ _) _
          have z0 : wE.cell? ⟨wr.heap.size, 0, none⟩ = some (.int .i64 x0) := by rw [← hWE]; exact cell_new wr _ _ 0 rfl
          have z1 : wE.cell? ⟨wr.heap.size, 1, none⟩ = some (.int .i64 x1) := by rw [← hWE]; exact cell_new wr _ _ 1 rfl
          have z2 : wE.cell? ⟨wr.heap.size, 2, none⟩ = some (.int .i64 x2) := by rw [← hWE]; exact cell_new wr _ _ 2 rfl
          clear hWE
          refine (l1In_any _ _ _ _).mono ?_
          rw [HA.out]
          rintro e w' ⟨rfl, rfl⟩
          go_wp2_with fail
          refine (l1In_any _ _ _ _).mono ?_
          rw [HC.out]
          rintro e w' ⟨rfl, rfl⟩
          go_wp2_with fail
          go_ret
          exact ⟨ret_bool HNT.out.symm, hb.trans (bE.mono hw)⟩
        · by_cases hE0 : x1 = x0
          · have dE0 : (x1 == x0) = true := by simp [hE0]
            have HNT : Hid (areTg t = false) := Lib.hid (notTg hlt (by rw [Bool.eq_false_iff]; intro hc; have hh := HAT.out.1 hc; exact (tgOne_iff.1 hh.1).2.2.1 hE0))
            clear hE0
            go_wp2_with fail
            generalize hWE : wr.alloc (.cells #[.int .i64 x0, .int .i64 x1, .int .i64 x2] 63 (0, 0)) = wE
            have bE : Below wr.heap.size wr wE := by rw [← hWE]; exact below_al (Below.refl _ _) _
            have z0 : wE.cell? ⟨wr.heap.size, 0, none⟩ = some (.int .i64 x0) := by rw [← hWE]; exact cell_new wr _ _ 0 rfl
            have z1 : wE.cell? ⟨wr.heap.size, 1, none⟩ = some (.int .i64 x1) := by rw [← hWE]; exact cell_new wr _ _ 1 rfl
            have z2 : wE.cell? ⟨wr.heap.size, 2, none⟩ = some (.int .i64 x2) := by rw [← hWE]; exact cell_new wr _ _ 2 rfl
            clear hWE
            refine (l1In_any _ _ _ _).mono ?_
            rw [HA.out]
            rintro e w' ⟨rfl, rfl⟩
            go_wp2_with fail
            refine (l1In_any _ _ _ _).mono ?_
            rw [HC.out]
            rintro e w' ⟨rfl, rfl⟩
            go_wp2_with fail
            go_ret
            exact ⟨ret_bool HNT.out.symm, hb.trans (bE.mono hw)⟩
          · have dE0 : (x1 == x0) = false := by simp [hE0]
            have HE0 := Lib.hid hE0
            clear hE0
            cases bD
            · have HNT : Hid (areTg t = false) := Lib.hid (notTg hlt (by rw [Bool.eq_false_iff]; intro hc; have hh := HAT.out.1 hc; exact of_decide_eq_false HD.out (tgOne_iff.1 hh.1).2.2.2))
              go_wp2_with fail
              generalize hWE : wr.alloc (.cells #[.int .i64 x0, .int .i64 x1, .int .i64 x2] 63 (0, 0)) = wE
              have bE : Below wr.heap.size wr wE := by rw [← hWE]; exact below_al (Below.refl _ _) _
              have z0 : wE.cell? ⟨wr.heap.size, 0, none⟩ = some (.int .i64 x0) := by rw [← hWE]; exact cell_new wr _ _ 0 rfl
              have z1 : wE.cell? ⟨wr.heap.size, 1, none⟩ = some (.int .i64 x1) := by rw [← hWE]; exact cell_new wr _ _ 1 rfl
              have z2 : wE.cell? ⟨wr.heap.size, 2, none⟩ = some (.int .i64 x2) := by rw [← hWE]; exact cell_new wr _ _ 2 rfl
              clear hWE
              refine (l1In_any _ _ _ _).mono ?_
              rw [HA.out]
              rintro e w' ⟨rfl, rfl⟩
              go_wp2_with fail
              refine (l1In_any _ _ _ _).mono ?_
              rw [HC.out]
              rintro e w' ⟨rfl, rfl⟩
              go_wp2_with fail
              refine (l1In_any _ _ _ _).mono ?_
              rw [HD.out]
              rintro e w' ⟨rfl, rfl⟩
              go_wp2_with fail
              go_ret
              exact ⟨ret_bool HNT.out.symm, hb.trans (bE.mono hw)⟩
            · have H1X : Hid (tgOne ⟨x0, x1, x2⟩ = true) := Lib.hid (tgOne_iff.2 ⟨of_decide_eq_true HA.out, of_decide_eq_true HC.out, HE0.out, of_decide_eq_true HD.out⟩)
              rcases Nat.eq_zero_or_pos k with hk0 | hk0
              · have dk : decide ((0 : Int) < (k : Int)) = false := decide_eq_false (by omega)
                have dk2 : decide (0 < k) = false := decide_eq_false (by omega)
                have HAL : Hid (tgAtB t k = true) := Lib.hid (HAT.out.2 ⟨H1X.out, by rw [hk0]; exact tg_first H1X.out⟩)
                clear hk0
                go_wp2_with fail
                generalize hWE : wr.alloc (.cells #[.int .i64 x0, .int .i64 x1, .int .i64 x2] 63 (0, 0)) = wE
                have bE : Below wr.heap.size wr wE := by rw [← hWE]; exact below_al (Below.refl _ _) _
                have z0 : wE.cell? ⟨wr.heap.size, 0, none⟩ = some (.int .i64 x0) := by rw [← hWE]; exact cell_new wr _ _ 0 rfl
                have z1 : wE.cell? ⟨wr.heap.size, 1, none⟩ = some (.int .i64 x1) := by rw [← hWE]; exact cell_new wr _ _ 1 rfl
                have z2 : wE.cell? ⟨wr.heap.size, 2, none⟩ = some (.int .i64 x2) := by rw [← hWE]; exact cell_new wr _ _ 2 rfl
                clear hWE
                refine (l1In_any _ _ _ _).mono ?_
                rw [HA.out]
                rintro e w' ⟨rfl, rfl⟩
                go_wp2_with fail
                refine (l1In_any _ _ _ _).mono ?_
                rw [HC.out]
                rintro e w' ⟨rfl, rfl⟩
                go_wp2_with fail
                refine (l1In_any _ _ _ _).mono ?_
                rw [HD.out]
                rintro e w' ⟨rfl, rfl⟩
                go_wp2_with fail
                go_quiet (fail)
                go_wp2_with fail
                go_roundw
                case rel => exact ⟨k + 1, by omega, by go_num, Lib.hid (upto_succ HU.out HAL.out), below_drewT (hb.trans (bE.mono hw)) _⟩
                case measure => simp [intOf]; omega
              · obtain ⟨j, rfl⟩ : ∃ j, k = j + 1 := ⟨k - 1, by omega⟩
                obtain ⟨⟨p0, p1, p2⟩, hp⟩ : ∃ s, t.getD j tgD = s := ⟨_, rfl⟩
                obtain ⟨r0, r1, r2, _⟩ := E1.out j (by omega)
                rw [hp] at r0 r1
                simp only at r0 r1
                have HPC : Hid (prevTg t (j + 1) = ⟨p0, p1, p2⟩) := Lib.hid (by rw [prevTg, hp])
                have g2 : (j : Int) < (t.length : Int) := by omega
                have g3 : (0 : Int) ≤ (j : Int) := by omega
                have g4 : (0 : Int) < (j : Int) + 1 := by omega
                have e0 := cell_kept r0 hb
                have e1 := cell_kept r1 hb
                clear r0 r1 r2 hk0 hp
                by_cases hA : x0 < p0
                · have HNT : Hid (areTg t = false) := Lib.hid (notTg hlt (by rw [Bool.eq_false_iff]; intro hc; have hh := HAT.out.1 hc; have := tgBef_iff.1 hh.2; rw [HPC.out] at this; simp only at this; omega))
                  go_wp2_with fail
                  generalize hWE : wr.alloc (.cells #[.int .i64 x0, .int .i64 x1, .int .i64 x2] 63 (0, 0)) = wE
                  have bE : Below wr.heap.size wr wE := by rw [← hWE]; exact below_al (Below.refl _ _) _
                  have z0 : wE.cell? ⟨wr.heap.size, 0, none⟩ = some (.int .i64 x0) := by rw [← hWE]; exact cell_new wr _ _ 0 rfl
                  have z1 : wE.cell? ⟨wr.heap.size, 1, none⟩ = some (.int .i64 x1) := by rw [← hWE]; exact cell_new wr _ _ 1 rfl
                  have z2 : wE.cell? ⟨wr.heap.size, 2, none⟩ = some (.int .i64 x2) := by rw [← hWE]; exact cell_new wr _ _ 2 rfl
                  clear hWE
                  have z4 := cell_kept e0 bE
                  have z5 := cell_kept e1 bE
                  refine (l1In_any _ _ _ _).mono ?_
                  rw [HA.out]
                  rintro e w' ⟨rfl, rfl⟩
                  go_wp2_with fail
                  refine (l1In_any _ _ _ _).mono ?_
                  rw [HC.out]
                  rintro e w' ⟨rfl, rfl⟩
                  go_wp2_with fail
                  refine (l1In_any _ _ _ _).mono ?_
                  rw [HD.out]
                  rintro e w' ⟨rfl, rfl⟩
                  go_wp2_with fail
                  go_quiet (fail)
                  go_wp2_with fail
                  go_ret
                  exact ⟨ret_bool HNT.out.symm, below_drewT (hb.trans (bE.mono hw)) _⟩
                · have dA : decide (x0 < p0) = false := decide_eq_false hA
                  by_cases hE : p0 = x0
                  · have dE : (p0 == x0) = true := by simp [hE]
                    have HE := Lib.hid hE
                    clear hE
                    by_cases hF : x1 ≤ p1
                    · have HNT : Hid (areTg t = false) := Lib.hid (notTg hlt (by rw [Bool.eq_false_iff]; intro hc; have hh := HAT.out.1 hc; have := tgBef_iff.1 hh.2; rw [HPC.out] at this; simp only at this; have := HE.out; omega))
                      go_wp2_with fail
                      generalize hWE : wr.alloc (.cells #[.int .i64 x0, .int .i64 x1, .int .i64 x2] 63 (0, 0)) = wE
                      have bE : Below wr.heap.size wr wE := by rw [← hWE]; exact below_al (Below.refl _ _) _
                      have z0 : wE.cell? ⟨wr.heap.size, 0, none⟩ = some (.int .i64 x0) := by rw [← hWE]; exact cell_new wr _ _ 0 rfl
                      have z1 : wE.cell? ⟨wr.heap.size, 1, none⟩ = some (.int .i64 x1) := by rw [← hWE]; exact cell_new wr _ _ 1 rfl
                      have z2 : wE.cell? ⟨wr.heap.size, 2, none⟩ = some (.int .i64 x2) := by rw [← hWE]; exact cell_new wr _ _ 2 rfl
                      clear hWE
                      have z4 := cell_kept e0 bE
                      have z5 := cell_kept e1 bE
                      refine (l1In_any _ _ _ _).mono ?_
                      rw [HA.out]
                      rintro e w' ⟨rfl, rfl⟩
                      go_wp2_with fail
                      refine (l1In_any _ _ _ _).mono ?_
                      rw [HC.out]
                      rintro e w' ⟨rfl, rfl⟩
                      go_wp2_with fail
                      refine (l1In_any _ _ _ _).mono ?_
                      rw [HD.out]
                      rintro e w' ⟨rfl, rfl⟩
                      go_wp2_with fail
                      go_quiet (fail)
                      go_wp2_with fail
                      go_ret
                      exact ⟨ret_bool HNT.out.symm, below_drewT (hb.trans (bE.mono hw)) _⟩
                    · have dF : decide (x1 ≤ p1) = false := decide_eq_false hF
                      have HAL : Hid (tgAtB t (j + 1) = true) := Lib.hid (HAT.out.2 ⟨H1X.out, by rw [HPC.out, tgBef_iff]; simp only; have := HE.out; omega⟩)
                      go_wp2_with fail
                      generalize hWE : wr.alloc (.cells #[.int .i64 x0, .int .i64 x1, .int .i64 x2] 63 (0, 0)) = wE
                      have bE : Below wr.heap.size wr wE := by rw [← hWE]; exact below_al (Below.refl _ _) _
                      have z0 : wE.cell? ⟨wr.heap.size, 0, none⟩ = some (.int .i64 x0) := by rw [← hWE]; exact cell_new wr _ _ 0 rfl
                      have z1 : wE.cell? ⟨wr.heap.size, 1, none⟩ = some (.int .i64 x1) := by rw [← hWE]; exact cell_new wr _ _ 1 rfl
                      have z2 : wE.cell? ⟨wr.heap.size, 2, none⟩ = some (.int .i64 x2) := by rw [← hWE]; exact cell_new wr _ _ 2 rfl
                      clear hWE
                      have z4 := cell_kept e0 bE
                      have z5 := cell_kept e1 bE
                      refine (l1In_any _ _ _ _).mono ?_
                      rw [HA.out]
                      rintro e w' ⟨rfl, rfl⟩
                      go_wp2_with fail
                      refine (l1In_any _ _ _ _).mono ?_
                      rw [HC.out]
                      rintro e w' ⟨rfl, rfl⟩
                      go_wp2_with fail
                      refine (l1In_any _ _ _ _).mono ?_
                      rw [HD.out]
                      rintro e w' ⟨rfl, rfl⟩
                      go_wp2_with fail
                      go_quiet (fail)
                      go_wp2_with fail
                      go_roundw
                      case rel => exact ⟨j + 1 + 1, by omega, by go_num, Lib.hid (upto_succ HU.out HAL.out), below_drewT (hb.trans (bE.mono hw)) _⟩
                      case measure => simp [intOf]; omega
                  · have dE : (p0 == x0) = false := by simp [hE]
                    have HAL : Hid (tgAtB t (j + 1) = true) := Lib.hid (HAT.out.2 ⟨H1X.out, by rw [HPC.out, tgBef_iff]; simp only; omega⟩)
                    clear hE
                    go_wp2_with fail
                    generalize hWE : wr.alloc (.cells #[.int .i64 x0, .int .i64 x1, .int .i64 x2] 63 (0, 0)) = wE
                    have bE : Below wr.heap.size wr wE := by rw [← hWE]; exact below_al (Below.refl _ _) _
                    have z0 : wE.cell? ⟨wr.heap.size, 0, none⟩ = some (.int .i64 x0) := by rw [← hWE]; exact cell_new wr _ _ 0 rfl
                    have z1 : wE.cell? ⟨wr.heap.size, 1, none⟩ = some (.int .i64 x1) := by rw [← hWE]; exact cell_new wr _ _ 1 rfl
                    have z2 : wE.cell? ⟨wr.heap.size, 2, none⟩ = some (.int .i64 x2) := by rw [← hWE]; exact cell_new wr _ _ 2 rfl
                    clear hWE
                    have z4 := cell_kept e0 bE
                    have z5 := cell_kept e1 bE
                    refine (l1In_any _ _ _ _).mono ?_
                    rw [HA.out]
                    rintro e w' ⟨rfl, rfl⟩
                    go_wp2_with fail
                    refine (l1In_any _ _ _ _).mono ?_
                    rw [HC.out]
                    rintro e w' ⟨rfl, rfl⟩
                    go_wp2_with fail
                    refine (l1In_any _ _ _ _).mono ?_
                    rw [HD.out]
                    rintro e w' ⟨rfl, rfl⟩
                    go_wp2_with fail
                    go_quiet (fail)
                    go_wp2_with fail
                    go_roundw
                    case rel => exact ⟨j + 1 + 1, by omega, by go_num, Lib.hid (upto_succ HU.out HAL.out), below_drewT (hb.trans (bE.mono hw)) _⟩
                    case measure => simp [intOf]; omega
    · obtain rfl : k = t.length := by omega
      have HE : Hid (areTg t = decide (t.length ≤ 10)) := Lib.hid (tg_upto HU.out)
      by_cases h10 : t.length ≤ 10
      · have g5 : (t.length : Int) ≤ 10 := by omega
        have HR : Hid (areTg t = true) := Lib.hid (by rw [HE.out]; exact decide_eq_true h10)
        go_wp2_with fail
        go_ret
        exact ⟨ret_bool HR.out.symm, hb⟩
      · have g5 : ¬ (t.length : Int) ≤ 10 := by omega
        have HR : Hid (areTg t = false) := Lib.hid (by rw [HE.out]; exact decide_eq_false h10)
        go_wp2_with fail
        go_ret
        exact ⟨ret_bool HR.out.symm, hb⟩
theorem specAreTriggers_any (v : Value) (t : List Tg) (w : World) (h : RowR 3 rTg w v t) :
    Calls Try.prog 14 #[v] w fun e w' => e = .returned (.bool (areTg t)) ∧ Below w.heap.size w w' := by
  have H := Lib.hid h
  clear h
  go_enter Try.func14, Try.ntmps14
  go_wp2_with (first | (go_at_call 49; refine (l10Good_any _ t _ H.out).mono ?_; rintro e w1 ⟨rfl, b1⟩))
  go_ret
  exact ⟨rfl, b1⟩
end Go.Proofs.Ytedckfbjhhabgaa
