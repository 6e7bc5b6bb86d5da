/- Triggers, the program's: isEventOrMaking, isTrigger, compareTriggers, AreTriggers. -/
import Derived.Test.YtedckfbjhhabgaaTyTg
import Derived.Test.YtedckfbjhhabgaaCmp
import Derived.Test.YtedckfbjhhabgaaBx
import Derived.Lib.QuietBelow
import Derived.BigQuiet
import Derived.WalkSmall
import Derived.WalkSpells
import Derived.StillTailTactics
namespace Go.Proofs.Ytedckfbjhhabgaa
set_option linter.unusedVariables false
open Go.RowKit Go.Sort

theorem isEom_any (x : Int) (w : World) :
    Calls Try.prog 79 #[.int .i64 x] w fun e w' => e = .returned (.bool (decide (0 ≤ x ∧ x ≤ 9))) ∧ w' = w := by
  by_cases h0 : 0 ≤ x
  · by_cases h9 : x ≤ 9
    · go_enter Try.func79, Try.ntmps79
      go_wp2_with fail
      go_ret
      exact ⟨ret_bool (by first | (simp; done) | (simp; omega)), rfl⟩
    · go_enter Try.func79, Try.ntmps79
      go_wp2_with fail
      go_ret
      exact ⟨ret_bool (by first | (simp; done) | (simp; omega)), rfl⟩
  · go_enter Try.func79, Try.ntmps79
    go_wp2_with fail
    go_ret
    exact ⟨ret_bool (by first | (simp; done) | (simp; omega)), rfl⟩
theorem orT_bef (a b : Tg) : decide (0 ≤ orC (cmpC a.ev b.ev) (cmpC a.aft b.aft)) = !tgBef a b := by
  have h : tgBef a b = decide (a.ev < b.ev ∨ (a.ev = b.ev ∧ a.aft < b.aft)) := rfl
  rw [h, Bool.eq_iff_iff]
  simp only [decide_eq_true_eq, Bool.not_eq_true', decide_eq_false_iff_not]
  unfold orC cmpC
  split <;> (repeat' split) <;> omega
theorem lit2aT (w : World) (a b : Int) (t : TypeId) : (w.alloc (.cells #[.int .i64 a, .int .i64 b] t (0, 0))).cell? ⟨w.heap.size, 0, none⟩ = some (.int .i64 a) := cell_new w _ _ 0 rfl
theorem lit2bT (w : World) (a b : Int) (t : TypeId) : (w.alloc (.cells #[.int .i64 a, .int .i64 b] t (0, 0))).cell? ⟨w.heap.size, 1, none⟩ = some (.int .i64 b) := cell_new w _ _ 1 rfl

set_option maxRecDepth 20000 in
set_option maxHeartbeats 4000000 in
theorem compareTg_any (a b : Tg) (w : World) :
    Calls Try.prog 52 #[.agg #[.int .i64 a.ev, .int .i64 a.aft, .int .i64 a.days], .agg #[.int .i64 b.ev, .int .i64 b.aft, .int .i64 b.days]] w fun e w' => ∃ n : Int, e = .returned (.int .i64 n) ∧ decide (0 ≤ n) = !tgBef a b ∧ Below w.heap.size w w' := by
  have hob := orT_bef a b
  obtain ⟨a0, a1, a2⟩ := a
  obtain ⟨b0, b1, b2⟩ := b
  simp only at hob ⊢
  obtain ⟨n0, hn0⟩ : ∃ n, cmpC a0 b0 = n := ⟨_, rfl⟩
  obtain ⟨n1, hn1⟩ : ∃ n, cmpC a1 b1 = n := ⟨_, rfl⟩
  rw [hn0, hn1] at hob
  have HOB := Lib.hid hob
  have H0 := Lib.hid hn0
  have H1 := Lib.hid hn1
  clear hob hn0 hn1
  go_enter Try.func52, Try.ntmps52
  go_wp2_with fail
  generalize hWE : (w.alloc (.cells #[.int .i64 a0, .int .i64 a1, .int .i64 a2] 63 (0, 0))).alloc (.cells #[.int .i64 b0, .int .i64 b1, .int .i64 b2] 63 (0, 0)) = wE
  have bE : Below w.heap.size w wE := by rw [← hWE]; exact below_al (below_al (Below.refl _ _) _) _
  have z0 : wE.cell? ⟨w.heap.size, 0, none⟩ = some (.int .i64 a0) := by rw [← hWE]; exact below_al_cell (cell_new w _ _ 0 rfl) _
  have z1 : wE.cell? ⟨w.heap.size, 1, none⟩ = some (.int .i64 a1) := by rw [← hWE]; exact below_al_cell (cell_new w _ _ 1 rfl) _
  have y0 : wE.cell? ⟨w.heap.size + 1, 0, none⟩ = some (.int .i64 b0) := by rw [← hWE]; simp
  have y1 : wE.cell? ⟨w.heap.size + 1, 1, none⟩ = some (.int .i64 b1) := by rw [← hWE]; simp
  have hwE := bE.size
  clear hWE
  have hc0 : Calls Try.prog 81 #[.int .i64 a0, .int .i64 b0] wE.drew fun e w' => e = .returned (.int .i64 n0) ∧ w' = wE.drew := (compareC_any a0 b0 wE.drew).mono (by rw [H0.out]; exact fun _ _ h => h)
  have hc1 : Calls Try.prog 81 #[.int .i64 a1, .int .i64 b1] wE.drew fun e w' => e = .returned (.int .i64 n1) ∧ w' = wE.drew := (compareC_any a1 b1 wE.drew).mono (by rw [H1.out]; exact fun _ _ h => h)
  go_still_tail 10, (by kernel_rfl)
  still_call hc0
  repeat still_step
  still_call hc1
  repeat still_step
  try refine wpStill_nil ?_
  change wpList _ _ _ _ _ wE.drew
  generalize hW2 : wE.drew = w2
  have b2 : Below w.heap.size w w2 := by rw [← hW2]; exact bE.drew
  clear hc0 hc1 hW2
  go_wp2_with (first | (go_at_call 80; refine (orC_any w2.heap.size n0 n1 _ (lit2aT w2 n0 n1 _) (lit2bT w2 n0 n1 _)).mono ?_; rintro e w' ⟨rfl, rfl⟩))
  go_ret
  exact ⟨_, rfl, HOB.out, (below_al b2 _)⟩

set_option maxHeartbeats 4000000 in
theorem isTrigger_any (x0 x1 x2 : Int) (w : World) :
    Calls Try.prog 51 #[.agg #[.int .i64 x0, .int .i64 x1, .int .i64 x2]] w fun e w' => e = .returned (.bool (tgOne ⟨x0, x1, x2⟩)) ∧ Below w.heap.size w w' := by
  have b0 := below_al (Below.refl w.heap.size w) (.cells #[.int .i64 x0, .int .i64 x1, .int .i64 x2] 63 (0, 0))
  have hone : tgOne ⟨x0, x1, x2⟩ = (decide (1 ≤ x0 ∧ x0 ≤ 9) && (decide (0 ≤ x1 ∧ x1 ≤ 9) && (decide (¬ x1 = x0) && decide (0 ≤ x2 ∧ x2 ≤ 10000)))) := rfl
  rw [hone]
  clear hone
  obtain ⟨bA, hbA⟩ : ∃ b, decide ((0 : Int) ≤ x0 ∧ x0 ≤ 9) = b := ⟨_, rfl⟩
  obtain ⟨bC, hbC⟩ : ∃ b, decide ((0 : Int) ≤ x1 ∧ x1 ≤ 9) = b := ⟨_, rfl⟩
  have HA := Lib.hid hbA
  have HC := Lib.hid hbC
  clear hbA hbC
  by_cases h0 : x0 = 0
  · have d0 : (x0 != 0) = false := by simp [h0]
    have H0 := Lib.hid h0
    clear h0
    go_enter Try.func51, Try.ntmps51
    go_wp2_with (first | (go_at_call 79; with_reducible refine (isEom_any x0 _).mono ?_; rw [HA.out]; rintro e w2 ⟨rfl, h2⟩; subst w2) | (go_at_call 79; with_reducible refine (isEom_any x1 _).mono ?_; rw [HC.out]; rintro e w3 ⟨rfl, h3⟩; subst w3))
    go_ret
    have hz := H0.out
    exact ⟨ret_bool (by rw [Bool.eq_iff_iff]; simp; omega), b0⟩
  · have d0 : (x0 != 0) = true := by simp [h0]
    cases bA
    · go_enter Try.func51, Try.ntmps51
      go_wp2_with (first | (go_at_call 79; with_reducible refine (isEom_any x0 _).mono ?_; rw [HA.out]; rintro e w2 ⟨rfl, h2⟩; subst w2) | (go_at_call 79; with_reducible refine (isEom_any x1 _).mono ?_; rw [HC.out]; rintro e w3 ⟨rfl, h3⟩; subst w3))
      go_ret
      have hA := HA.out
      have hC := HC.out
      simp at hA hC
      exact ⟨ret_bool (by rw [Bool.eq_iff_iff]; simp; omega), b0⟩
    · cases bC
      · go_enter Try.func51, Try.ntmps51
        go_wp2_with (first | (go_at_call 79; with_reducible refine (isEom_any x0 _).mono ?_; rw [HA.out]; rintro e w2 ⟨rfl, h2⟩; subst w2) | (go_at_call 79; with_reducible refine (isEom_any x1 _).mono ?_; rw [HC.out]; rintro e w3 ⟨rfl, h3⟩; subst w3))
        go_ret
        have hA := HA.out
        have hC := HC.out
        simp at hA hC
        exact ⟨ret_bool (by rw [Bool.eq_iff_iff]; simp; omega), b0⟩
      · by_cases h1 : x1 = x0
        · have d1 : (x1 != x0) = false := by simp [h1]
          have H1 := Lib.hid h1
          clear h1
          go_enter Try.func51, Try.ntmps51
          go_wp2_with (first | (go_at_call 79; with_reducible refine (isEom_any x0 _).mono ?_; rw [HA.out]; rintro e w2 ⟨rfl, h2⟩; subst w2) | (go_at_call 79; with_reducible refine (isEom_any x1 _).mono ?_; rw [HC.out]; rintro e w3 ⟨rfl, h3⟩; subst w3))
          go_ret
          have hz := H1.out
          have hA := HA.out
          have hC := HC.out
          simp at hA hC
          exact ⟨ret_bool (by rw [Bool.eq_iff_iff]; simp; omega), b0⟩
        · have d1 : (x1 != x0) = true := by simp [h1]
          by_cases h2 : 0 ≤ x2
          · by_cases h3 : x2 ≤ 10000
            · go_enter Try.func51, Try.ntmps51
              go_wp2_with (first | (go_at_call 79; with_reducible refine (isEom_any x0 _).mono ?_; rw [HA.out]; rintro e w2 ⟨rfl, h2⟩; subst w2) | (go_at_call 79; with_reducible refine (isEom_any x1 _).mono ?_; rw [HC.out]; rintro e w3 ⟨rfl, h3⟩; subst w3))
              go_ret
              have hA := HA.out
              have hC := HC.out
              simp at hA hC
              exact ⟨ret_bool (by rw [Bool.eq_iff_iff]; simp; omega), b0⟩
            · go_enter Try.func51, Try.ntmps51
              go_wp2_with (first | (go_at_call 79; with_reducible refine (isEom_any x0 _).mono ?_; rw [HA.out]; rintro e w2 ⟨rfl, h2⟩; subst w2) | (go_at_call 79; with_reducible refine (isEom_any x1 _).mono ?_; rw [HC.out]; rintro e w3 ⟨rfl, h3⟩; subst w3))
              go_ret
              have hA := HA.out
              have hC := HC.out
              simp at hA hC
              exact ⟨ret_bool (by rw [Bool.eq_iff_iff]; simp; omega), b0⟩
          · go_enter Try.func51, Try.ntmps51
            go_wp2_with (first | (go_at_call 79; with_reducible refine (isEom_any x0 _).mono ?_; rw [HA.out]; rintro e w2 ⟨rfl, h2⟩; subst w2) | (go_at_call 79; with_reducible refine (isEom_any x1 _).mono ?_; rw [HC.out]; rintro e w3 ⟨rfl, h3⟩; subst w3))
            go_ret
            have hA := HA.out
            have hC := HC.out
            simp at hA hC
            exact ⟨ret_bool (by rw [Bool.eq_iff_iff]; simp; omega), b0⟩

set_option maxRecDepth 20000 in
set_option maxHeartbeats 8000000 in
theorem implAreTg_any (v : Value) (cs : List Tg) (w : World) (hc : RowR 3 rTg w v cs) :
    Calls Try.prog 16 #[v] w fun e w' => e = .returned (.bool (areTg cs)) ∧ Below w.heap.size w w' := by
  have hcap := hc.cap
  obtain ⟨a1, c1, rfl, hl1, hm1, r1⟩ := hc.tgs
  have R1 := Lib.hid r1
  clear hc r1
  unfold maxLen at hm1
  by_cases hL : 10 < cs.length
  · have gL : (10 : Int) < (cs.length : Int) := by omega
    have HNT : Hid (areTg cs = false) := Lib.hid (tg_long (by omega))
    go_enter Try.func16, Try.ntmps16
    go_wp2_with fail
    go_ret
    exact ⟨ret_bool HNT.out.symm, Below.refl _ _⟩
  · have gL : (cs.length : Int) ≤ 10 := by omega
    have HL := Lib.hid hL
    clear hL
    go_enter Try.func16, Try.ntmps16
    go_wp2_with fail
    have hX0 := BxV.new w [.int .i64 0, .int .i64 0, .int .i64 0] 63
    have HB0 := Lib.hid (below_al (Below.refl w.heap.size w) (.cells #[.int .i64 0, .int .i64 0, .int .i64 0] 63 (0, 0)))
    obtain ⟨G, hG⟩ : ∃ G, w.heap.size = G := ⟨_, rfl⟩
    rw [hG] at hX0
    have hGw : w.heap.size ≤ G := by omega
    have HX0 := Lib.hid hX0
    have HGE := Lib.hid hG
    clear hG hX0
    go_loopw [12] (fun i wr => ∃ (k : Nat) (q0 q1 q2 : Int), k ≤ cs.length ∧ i = .int .i64 k ∧ Hid (prevTg cs k = ⟨q0, q1, q2⟩) ∧ Hid (BxV wr G [.int .i64 q0, .int .i64 q1, .int .i64 q2]) ∧ Hid (upto (tgAtB cs) k = true) ∧ Below w.heap.size w wr) (fun i _ => cs.length - (intOf i).toNat)
    case atStart => exact ⟨0, 0, 0, 0, Nat.zero_le _, rfl, Lib.hid rfl, HX0, Lib.hid (by simp [upto]), HB0.out⟩
    case round =>
      obtain ⟨k, q0, q1, q2, hk, rfl, HP, HX, HU, hb⟩ := hrel
      have hw := hb.size
      try rw [HGE.out]
      by_cases hlt : k < cs.length
      · obtain ⟨b1, o1, hb1, rfl, e1⟩ := R1.out.resolve_left (fun e => by rw [e] at hlt; simp at hlt)
        obtain ⟨⟨x0, x1, x2⟩, hx⟩ : ∃ s, cs.getD k tgD = s := ⟨_, rfl⟩
        obtain ⟨r0, r1, r2, hok⟩ := e1 k hlt
        rw [hx] at r0 r1 r2
        simp only at r0 r1 r2
        have f0 := cell_kept r0 hb
        have f1 := cell_kept r1 hb
        have f2 := cell_kept r2 hb
        have HXX := Lib.hid hx
        have HAT := Lib.hid (tgAt_iff (t := cs) hx)
        have g0 : (0 : Int) ≤ (k : Int) := by omega
        have g1 : (k : Int) < (cs.length : Int) := by omega
        have s0 := HX.out.cell 0
        have s1 := HX.out.cell 1
        have s2 := HX.out.cell 2
        simp at s0 s1 s2
        have hgl := HX.out.lt
        obtain ⟨bC, hbC⟩ : ∃ b, tgOne ⟨x0, x1, x2⟩ = b := ⟨_, rfl⟩
        have HC := Lib.hid hbC
        clear r0 r1 r2 hok e1 hx hbC
        cases bC
        · have HNT : Hid (areTg cs = false) := Lib.hid (notTg hlt (by rw [Bool.eq_false_iff]; intro hc; have hh := HAT.out.1 hc; have := hh.1; rw [HC.out] at this; cases this))
          go_wp2_with fail
          generalize hWE : wr.alloc (.cells #[.int .i64 x0, .int .i64 x1, .int .i64 x2] 63 (0, 0)) = wE
          have bE : Below wr.heap.size wr wE := by rw [← hWE]; exact below_al (Below.refl _ _) _
          have HY : Hid (BxV wE wr.heap.size [.int .i64 x0, .int .i64 x1, .int .i64 x2]) := Lib.hid (by rw [← hWE]; exact BxV.new wr _ _)
          clear hWE
          have hwE := bE.size
          replace HX := Lib.hid (HX.out.below bE)
          replace bE := hb.trans (bE.mono hw)
          refine (isTrigger_any x0 x1 x2 _).mono ?_
          rw [HC.out]
          rintro e w2 ⟨rfl, b2⟩
          have hw2 := b2.size
          replace HX := Lib.hid (HX.out.below b2)
          replace HY := Lib.hid (HY.out.below b2)
          replace b2 := bE.trans (b2.mono bE.size)
          have t0 := HX.out.cell 0
          have t1 := HX.out.cell 1
          have t2 := HX.out.cell 2
          have y0 := HY.out.cell 0
          have y1 := HY.out.cell 1
          have y2 := HY.out.cell 2
          simp at t0 t1 t2 y0 y1 y2
          clear s0 s1 s2 f0 f1 f2
          go_wp2_with fail
          go_ret
          exact ⟨ret_bool HNT.out.symm, b2⟩
        · obtain ⟨bF, hbF⟩ : ∃ b, tgBef ⟨q0, q1, q2⟩ ⟨x0, x1, x2⟩ = b := ⟨_, rfl⟩
          have HBF := Lib.hid hbF
          clear hbF
          cases bF
          · have HNT : Hid (areTg cs = false) := Lib.hid (notTg hlt (by rw [Bool.eq_false_iff]; intro hc; have hh := HAT.out.1 hc; have := hh.2; rw [HP.out, HBF.out] at this; cases this))
            go_wp2_with fail
            generalize hWE : wr.alloc (.cells #[.int .i64 x0, .int .i64 x1, .int .i64 x2] 63 (0, 0)) = wE
            have bE : Below wr.heap.size wr wE := by rw [← hWE]; exact below_al (Below.refl _ _) _
            have HY : Hid (BxV wE wr.heap.size [.int .i64 x0, .int .i64 x1, .int .i64 x2]) := Lib.hid (by rw [← hWE]; exact BxV.new wr _ _)
            clear hWE
            have hwE := bE.size
            replace HX := Lib.hid (HX.out.below bE)
            replace bE := hb.trans (bE.mono hw)
            refine (isTrigger_any x0 x1 x2 _).mono ?_
            rw [HC.out]
            rintro e w2 ⟨rfl, b2⟩
            have hw2 := b2.size
            replace HX := Lib.hid (HX.out.below b2)
            replace HY := Lib.hid (HY.out.below b2)
            replace b2 := bE.trans (b2.mono bE.size)
            have t0 := HX.out.cell 0
            have t1 := HX.out.cell 1
            have t2 := HX.out.cell 2
            have y0 := HY.out.cell 0
            have y1 := HY.out.cell 1
            have y2 := HY.out.cell 2
            simp at t0 t1 t2 y0 y1 y2
            clear s0 s1 s2 f0 f1 f2
            go_wp2_with fail
            refine (compareTg_any ⟨q0, q1, q2⟩ ⟨x0, x1, x2⟩ _).mono ?_
            rintro e w3 ⟨n, rfl, hn, b3⟩
            rw [HBF.out] at hn
            have hw3 := b3.size
            replace HX := Lib.hid (HX.out.below b3)
            replace HY := Lib.hid (HY.out.below b3)
            have t0 := HX.out.cell 0
            have t1 := HX.out.cell 1
            have t2 := HX.out.cell 2
            have u0 := HX.out.frozen 0
            have u1 := HX.out.frozen 1
            have u2 := HX.out.frozen 2
            have y0 := HY.out.cell 0
            have y1 := HY.out.cell 1
            have y2 := HY.out.cell 2
            simp at t0 t1 t2 y0 y1 y2
            replace b3 := b2.trans (b3.mono b2.size)
            have hn' : 0 ≤ n := by simpa using hn
            clear hn
            go_wp2_with fail
            go_ret
            exact ⟨ret_bool HNT.out.symm, b3⟩
          · have HAL : Hid (tgAtB cs k = true) := Lib.hid (HAT.out.2 ⟨HC.out, by rw [HP.out]; exact HBF.out⟩)
            go_wp2_with fail
            generalize hWE : wr.alloc (.cells #[.int .i64 x0, .int .i64 x1, .int .i64 x2] 63 (0, 0)) = wE
            have bE : Below wr.heap.size wr wE := by rw [← hWE]; exact below_al (Below.refl _ _) _
            have HY : Hid (BxV wE wr.heap.size [.int .i64 x0, .int .i64 x1, .int .i64 x2]) := Lib.hid (by rw [← hWE]; exact BxV.new wr _ _)
            clear hWE
            have hwE := bE.size
            replace HX := Lib.hid (HX.out.below bE)
            replace bE := hb.trans (bE.mono hw)
            refine (isTrigger_any x0 x1 x2 _).mono ?_
            rw [HC.out]
            rintro e w2 ⟨rfl, b2⟩
            have hw2 := b2.size
            replace HX := Lib.hid (HX.out.below b2)
            replace HY := Lib.hid (HY.out.below b2)
            replace b2 := bE.trans (b2.mono bE.size)
            have t0 := HX.out.cell 0
            have t1 := HX.out.cell 1
            have t2 := HX.out.cell 2
            have y0 := HY.out.cell 0
            have y1 := HY.out.cell 1
            have y2 := HY.out.cell 2
            simp at t0 t1 t2 y0 y1 y2
            clear s0 s1 s2 f0 f1 f2
            go_wp2_with fail
            refine (compareTg_any ⟨q0, q1, q2⟩ ⟨x0, x1, x2⟩ _).mono ?_
            rintro e w3 ⟨n, rfl, hn, b3⟩
            rw [HBF.out] at hn
            have hw3 := b3.size
            replace HX := Lib.hid (HX.out.below b3)
            replace HY := Lib.hid (HY.out.below b3)
            have t0 := HX.out.cell 0
            have t1 := HX.out.cell 1
            have t2 := HX.out.cell 2
            have u0 := HX.out.frozen 0
            have u1 := HX.out.frozen 1
            have u2 := HX.out.frozen 2
            have y0 := HY.out.cell 0
            have y1 := HY.out.cell 1
            have y2 := HY.out.cell 2
            simp at t0 t1 t2 y0 y1 y2
            replace b3 := b2.trans (b3.mono b2.size)
            have hn' : n < 0 := by simpa using hn
            have dn : decide (0 ≤ n) = false := decide_eq_false (by omega)
            clear hn
            go_wp2_with fail
            go_roundw
            case rel =>
              have h1 := ((HX.out.set (cs' := [.int .i64 x0, .int .i64 q1, .int .i64 q2]) 0 (.int .i64 x0) rfl).set (cs' := [.int .i64 x0, .int .i64 x1, .int .i64 q2]) 1 (.int .i64 x1) rfl).set (cs' := [.int .i64 x0, .int .i64 x1, .int .i64 x2]) 2 (.int .i64 x2) rfl
              exact ⟨k + 1, x0, x1, x2, by omega, by go_num, Lib.hid (by rw [prevTg, HXX.out]), Lib.hid h1, Lib.hid (upto_succ HU.out HAL.out), (by have hh := ((b3.setCell (p := ⟨G, 0, none⟩) hGw (.int .i64 x0)).setCell (p := ⟨G, 1, none⟩) hGw (.int .i64 x1)).setCell (p := ⟨G, 2, none⟩) hGw (.int .i64 x2); rw [HGE.out] at hh; exact hh)⟩
            case measure => simp [intOf]; omega
      · have hkt : k = cs.length := by omega
        have HE : Hid (areTg cs = true) := Lib.hid (by have := HU.out; rw [hkt] at this; rw [tg_upto this]; have := HL.out; simp; omega)
        clear hkt
        go_wp2_with fail
        go_ret
        exact ⟨ret_bool HE.out.symm, hb⟩
end Go.Proofs.Ytedckfbjhhabgaa
