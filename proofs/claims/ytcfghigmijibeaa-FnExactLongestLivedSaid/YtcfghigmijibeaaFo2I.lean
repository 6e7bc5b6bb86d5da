/- Formats, the program's: copies, the last day on which a format is readable. -/
import Derived.Test.YtcfghigmijibeaaFoI
import Derived.Test.YtcfghigmijibeaaTyCo
import Derived.Test.YtcfghigmijibeaaCmp
import Derived.Test.YtcfghigmijibeaaBx
import Derived.Test.YtcfghigmijibeaaContains
import Derived.WalkSpells
import Derived.StillTailTactics
namespace Go.Proofs.Ytcfghigmijibeaa
set_option linter.unusedVariables false
open Go.RowKit Go.Sort

theorem orC_bef (a b : Co) : decide (0 ≤ orC (cmpC a.rcd b.rcd) (cmpC a.fmt b.fmt)) = !coBef a b := by
  have h : coBef a b = decide (a.rcd < b.rcd ∨ (a.rcd = b.rcd ∧ a.fmt < b.fmt)) := rfl
  rw [h, Bool.eq_iff_iff]
  simp only [decide_eq_true_eq, Bool.not_eq_true', decide_eq_false_iff_not]
  unfold orC cmpC
  split <;> (repeat' split) <;> omega
theorem lit2a (w : World) (a b : Int) (t : TypeId) : (w.alloc (.cells #[.int .i64 a, .int .i64 b] t (0, 0))).cell? ⟨w.heap.size, 0, none⟩ = some (.int .i64 a) := cell_new w _ _ 0 rfl
theorem lit2b (w : World) (a b : Int) (t : TypeId) : (w.alloc (.cells #[.int .i64 a, .int .i64 b] t (0, 0))).cell? ⟨w.heap.size, 1, none⟩ = some (.int .i64 b) := cell_new w _ _ 1 rfl

set_option maxRecDepth 20000 in
set_option maxHeartbeats 4000000 in
theorem compareCopies_any (a b : Co) (w : World) :
    Calls Try.prog 55 #[.agg #[.int .i64 a.rcd, .int .i64 a.fmt, .int .i64 a.size, .int .i64 a.seen], .agg #[.int .i64 b.rcd, .int .i64 b.fmt, .int .i64 b.size, .int .i64 b.seen]] w fun e w' => ∃ n : Int, e = .returned (.int .i64 n) ∧ decide (0 ≤ n) = !coBef a b ∧ Below w.heap.size w w' := by
  have hob := orC_bef a b
  obtain ⟨a0, a1, a2, a3⟩ := a
  obtain ⟨b0, b1, b2, b3⟩ := b
  simp only at hob ⊢
  obtain ⟨n0, hn0⟩ : ∃ n, cmpC a0 b0 = n := ⟨_, rfl⟩
  obtain ⟨n1, hn1⟩ : ∃ n, cmpC a1 b1 = n := ⟨_, rfl⟩
  rw [hn0, hn1] at hob
  have HOB := Lib.hid hob
  have H0 := Lib.hid hn0
  have H1 := Lib.hid hn1
  clear hob hn0 hn1
  go_enter Try.func55, Try.ntmps55
  go_wp2_with fail
  generalize hWE : (w.alloc (.cells #[.int .i64 a0, .int .i64 a1, .int .i64 a2, .int .i64 a3] 68 (0, 0))).alloc (.cells #[.int .i64 b0, .int .i64 b1, .int .i64 b2, .int .i64 b3] 68 (0, 0)) = wE
  have bE : Below w.heap.size w wE := by rw [← hWE]; exact below_al (below_al (Below.refl _ _) _) _
  have z0 : wE.cell? ⟨w.heap.size, 0, none⟩ = some (.int .i64 a0) := by rw [← hWE]; exact below_al_cell (cell_new w _ _ 0 rfl) _
  have z1 : wE.cell? ⟨w.heap.size, 1, none⟩ = some (.int .i64 a1) := by rw [← hWE]; exact below_al_cell (cell_new w _ _ 1 rfl) _
  have y0 : wE.cell? ⟨w.heap.size + 1, 0, none⟩ = some (.int .i64 b0) := by rw [← hWE]; simp
  have y1 : wE.cell? ⟨w.heap.size + 1, 1, none⟩ = some (.int .i64 b1) := by rw [← hWE]; simp
  have hwE := bE.size
  clear hWE
  have hc0 : Calls Try.prog 78 #[.int .i64 a0, .int .i64 b0] wE.drew fun e w' => e = .returned (.int .i64 n0) ∧ w' = wE.drew := (compareC_any a0 b0 wE.drew).mono (by rw [H0.out]; exact fun _ _ h => h)
  have hc1 : Calls Try.prog 78 #[.int .i64 a1, .int .i64 b1] wE.drew fun e w' => e = .returned (.int .i64 n1) ∧ w' = wE.drew := (compareC_any a1 b1 wE.drew).mono (by rw [H1.out]; exact fun _ _ h => h)
  go_still_tail 10, (by kernel_rfl)
  still_call hc0
  repeat still_step
  still_call hc1
  repeat still_step
  try refine wpStill_nil ?_
  change wpList _ _ _ _ _ wE.drew
  generalize hW2 : wE.drew = w2
  have b2 : Below w.heap.size w w2 := by rw [← hW2]; exact bE.drew
  clear hc0 hc1 hW2
  go_wp2_with (first | (go_at_call 77; refine (orC_any w2.heap.size n0 n1 _ (lit2a w2 n0 n1 _) (lit2b w2 n0 n1 _)).mono ?_; rintro e w' ⟨rfl, rfl⟩))
  go_ret
  exact ⟨_, rfl, HOB.out, (below_al b2 _)⟩


set_option maxHeartbeats 4000000 in
theorem isCopy_any (v : Value) (t : List Fo) (x0 x1 x2 x3 : Int) (w : World) (h : RowR 4 rFo w v t) :
    Calls Try.prog 54 #[v, .agg #[.int .i64 x0, .int .i64 x1, .int .i64 x2, .int .i64 x3]] w fun e w' => e = .returned (.bool (coOne t ⟨x0, x1, x2, x3⟩)) ∧ Below w.heap.size w w' := by
  have H := Lib.hid h
  obtain ⟨bh, hbh⟩ : ∃ b, hasId t x1 = b := ⟨_, rfl⟩
  obtain ⟨bD, hbD⟩ : ∃ b, decide ((0 : Int) ≤ x3 ∧ x3 ≤ 20000) = b := ⟨_, rfl⟩
  obtain ⟨c, hcc⟩ : ∃ c, foI t x1 = c := ⟨_, rfl⟩
  have hcn : decide (c < 0) = !bh := by rw [← hcc, foI_neg, hbh]
  have hone : coOne t ⟨x0, x1, x2, x3⟩ = (decide (1 ≤ x0 ∧ x0 ≤ 999) && (bh && (decide (1 ≤ x2 ∧ x2 ≤ 1000000) && bD))) := by rw [← hbh, ← hbD]; rfl
  rw [hone]
  have HF := Lib.hid hcc
  have HD := Lib.hid hbD
  clear h hbh hbD hcc hone
  have b0 := below_al (Below.refl w.heap.size w) (.cells #[.int .i64 x0, .int .i64 x1, .int .i64 x2, .int .i64 x3] 68 (0, 0))
  by_cases p0 : 1 ≤ x0
  · by_cases p1 : x0 ≤ 999
    · cases bh
      · have hcn' : c < 0 := by simpa using hcn
        have dcn : decide (0 ≤ c) = false := decide_eq_false (by omega)
        clear hcn
        go_enter Try.func54, Try.ntmps54
        go_wp2_with (first | (go_at_call 68; refine (placeOfFormat_any _ t _ _ (H.out.below rFo_stable b0)).mono ?_; rw [HF.out]; rintro e w2 ⟨rfl, b2⟩; have z2 := cell_kept (cell_new w _ _ 2 rfl) b2; have z3 := cell_kept (cell_new w _ _ 3 rfl) b2; replace b2 := below_chain b0 b2))
        go_ret
        exact ⟨ret_bool (by first | (simp; done) | (simp; omega) | (rw [Bool.eq_iff_iff]; simp; omega)), b2⟩
      · have hcn' : 0 ≤ c := by simpa using hcn
        clear hcn
        by_cases p2 : 1 ≤ x2
        · by_cases p3 : x2 ≤ 1000000
          · cases bD
            · go_enter Try.func54, Try.ntmps54
              go_wp2_with (first | (go_at_call 68; refine (placeOfFormat_any _ t _ _ (H.out.below rFo_stable b0)).mono ?_; rw [HF.out]; rintro e w2 ⟨rfl, b2⟩; have z2 := cell_kept (cell_new w _ _ 2 rfl) b2; have z3 := cell_kept (cell_new w _ _ 3 rfl) b2; replace b2 := below_chain b0 b2) | (go_at_call 48; refine (isDay_any _ _).mono ?_; rw [HD.out]; rintro e w3 ⟨rfl, h3⟩; subst w3))
              go_ret
              exact ⟨ret_bool (by first | (simp; done) | (simp; omega) | (rw [Bool.eq_iff_iff]; simp; omega)), b2⟩
            · go_enter Try.func54, Try.ntmps54
              go_wp2_with (first | (go_at_call 68; refine (placeOfFormat_any _ t _ _ (H.out.below rFo_stable b0)).mono ?_; rw [HF.out]; rintro e w2 ⟨rfl, b2⟩; have z2 := cell_kept (cell_new w _ _ 2 rfl) b2; have z3 := cell_kept (cell_new w _ _ 3 rfl) b2; replace b2 := below_chain b0 b2) | (go_at_call 48; refine (isDay_any _ _).mono ?_; rw [HD.out]; rintro e w3 ⟨rfl, h3⟩; subst w3))
              go_ret
              exact ⟨ret_bool (by first | (simp; done) | (simp; omega) | (rw [Bool.eq_iff_iff]; simp; omega)), b2⟩
          · go_enter Try.func54, Try.ntmps54
            go_wp2_with (first | (go_at_call 68; refine (placeOfFormat_any _ t _ _ (H.out.below rFo_stable b0)).mono ?_; rw [HF.out]; rintro e w2 ⟨rfl, b2⟩; have z2 := cell_kept (cell_new w _ _ 2 rfl) b2; have z3 := cell_kept (cell_new w _ _ 3 rfl) b2; replace b2 := below_chain b0 b2))
            go_ret
            exact ⟨ret_bool (by first | (simp; done) | (simp; omega) | (rw [Bool.eq_iff_iff]; simp; omega)), b2⟩
        · go_enter Try.func54, Try.ntmps54
          go_wp2_with (first | (go_at_call 68; refine (placeOfFormat_any _ t _ _ (H.out.below rFo_stable b0)).mono ?_; rw [HF.out]; rintro e w2 ⟨rfl, b2⟩; have z2 := cell_kept (cell_new w _ _ 2 rfl) b2; have z3 := cell_kept (cell_new w _ _ 3 rfl) b2; replace b2 := below_chain b0 b2))
          go_ret
          exact ⟨ret_bool (by first | (simp; done) | (simp; omega) | (rw [Bool.eq_iff_iff]; simp; omega)), b2⟩
    · clear hcn
      go_enter Try.func54, Try.ntmps54
      go_wp2_with fail
      go_ret
      exact ⟨ret_bool (by first | (simp; done) | (simp; omega) | (rw [Bool.eq_iff_iff]; simp; omega)), b0⟩
  · clear hcn
    go_enter Try.func54, Try.ntmps54
    go_wp2_with fail
    go_ret
    exact ⟨ret_bool (by first | (simp; done) | (simp; omega) | (rw [Bool.eq_iff_iff]; simp; omega)), b0⟩

set_option maxRecDepth 20000 in
set_option maxHeartbeats 8000000 in
theorem implAreCo_any (v vc : Value) (t : List Fo) (cs : List Co) (w : World) (h : RowR 4 rFo w v t) (hc : RowR 4 rCo w vc cs) :
    Calls Try.prog 21 #[v, vc] w fun e w' => e = .returned (.bool (areCo t cs)) ∧ Below w.heap.size w w' := by
  have hcap := hc.cap
  have H := Lib.hid h
  obtain ⟨a1, c1, rfl, hl1, hm1, r1⟩ := hc.cos
  have R1 := Lib.hid r1
  clear h hc r1
  unfold maxLen at hm1
  obtain ⟨bG, hbG⟩ : ∃ b, areFo t = b := ⟨_, rfl⟩
  have HG := Lib.hid hbG
  clear hbG
  cases bG
  · have HNT : Hid (areCo t cs = false) := Lib.hid (by unfold areCo; rw [HG.out]; rfl)
    go_enter Try.func21, Try.ntmps21
    go_wp2_with (first | (go_at_call 16; refine (implAreFo_any _ t _ H.out).mono ?_; rw [HG.out]; rintro e w1 ⟨rfl, b1⟩))
    go_ret
    exact ⟨ret_bool HNT.out.symm, b1⟩
  · by_cases hL : 15 < cs.length
    · have gL : (15 : Int) < (cs.length : Int) := by omega
      have HNT : Hid (areCo t cs = false) := Lib.hid (by unfold areCo; rw [decide_eq_false (by omega : ¬ cs.length ≤ 15)]; simp)
      go_enter Try.func21, Try.ntmps21
      go_wp2_with (first | (go_at_call 16; refine (implAreFo_any _ t _ H.out).mono ?_; rw [HG.out]; rintro e w1 ⟨rfl, b1⟩))
      go_ret
      exact ⟨ret_bool HNT.out.symm, b1⟩
    · have gL : (cs.length : Int) ≤ 15 := by omega
      have HL := Lib.hid hL
      clear hL
      go_enter Try.func21, Try.ntmps21
      go_wp2_with (first | (go_at_call 16; refine (implAreFo_any _ t _ H.out).mono ?_; rw [HG.out]; rintro e w1 ⟨rfl, b1⟩))
      have hX0 := BxV.new w1 [.int .i64 0, .int .i64 0, .int .i64 0, .int .i64 0] 68
      have HB0 := Lib.hid (below_al b1 (.cells #[.int .i64 0, .int .i64 0, .int .i64 0, .int .i64 0] 68 (0, 0)))
      obtain ⟨G, hG⟩ : ∃ G, w1.heap.size = G := ⟨_, rfl⟩
      rw [hG] at hX0
      have hGw : w.heap.size ≤ G := by rw [← hG]; exact b1.size
      have HX0 := Lib.hid hX0
      have HGE := Lib.hid hG
      clear hG hX0
      go_loopw [19] (fun i wr => ∃ (k : Nat) (q0 q1 q2 q3 : Int), k ≤ cs.length ∧ i = .int .i64 k ∧ Hid (prevCo cs k = ⟨q0, q1, q2, q3⟩) ∧ Hid (BxV wr G [.int .i64 q0, .int .i64 q1, .int .i64 q2, .int .i64 q3]) ∧ Hid (upto (coAtB t cs) k = true) ∧ Below w.heap.size w wr) (fun i _ => cs.length - (intOf i).toNat)
      case atStart => exact ⟨0, 0, 0, 0, 0, Nat.zero_le _, rfl, Lib.hid rfl, HX0, Lib.hid (by simp [upto]), HB0.out⟩
      case round =>
        obtain ⟨k, q0, q1, q2, q3, hk, rfl, HP, HX, HU, hb⟩ := hrel
        have hw := hb.size
        try rw [HGE.out]
        by_cases hlt : k < cs.length
        · obtain ⟨b1, o1, hb1, rfl, e1⟩ := R1.out.resolve_left (fun e => by rw [e] at hlt; simp at hlt)
          obtain ⟨⟨x0, x1, x2, x3⟩, hx⟩ : ∃ s, cs.getD k coD = s := ⟨_, rfl⟩
          obtain ⟨r0, r1, r2, r3, hok⟩ := e1 k hlt
          rw [hx] at r0 r1 r2 r3
          simp only at r0 r1 r2 r3
          have f0 := cell_kept r0 hb
          have f1 := cell_kept r1 hb
          have f2 := cell_kept r2 hb
          have f3 := cell_kept r3 hb
          have HXX := Lib.hid hx
          have HAT := Lib.hid (coAt_iff (t := t) hx)
          have g0 : (0 : Int) ≤ (k : Int) := by omega
          have g1 : (k : Int) < (cs.length : Int) := by omega
          have s0 := HX.out.cell 0
          have s1 := HX.out.cell 1
          have s2 := HX.out.cell 2
          have s3 := HX.out.cell 3
          simp at s0 s1 s2 s3
          have hgl := HX.out.lt
          obtain ⟨bC, hbC⟩ : ∃ b, coOne t ⟨x0, x1, x2, x3⟩ = b := ⟨_, rfl⟩
          have HC := Lib.hid hbC
          clear r0 r1 r2 r3 hok e1 hx hbC
          cases bC
          · have HNT : Hid (areCo t cs = false) := Lib.hid (notCo hlt (by rw [Bool.eq_false_iff]; intro hc; have hh := HAT.out.1 hc; have := hh.1; rw [HC.out] at this; cases this))
            go_wp2_with fail
            generalize hWE : wr.alloc (.cells #[.int .i64 x0, .int .i64 x1, .int .i64 x2, .int .i64 x3] 68 (0, 0)) = wE
            have bE : Below wr.heap.size wr wE := by rw [← hWE]; exact below_al (Below.refl _ _) _
            have HY : Hid (BxV wE wr.heap.size [.int .i64 x0, .int .i64 x1, .int .i64 x2, .int .i64 x3]) := Lib.hid (by rw [← hWE]; exact BxV.new wr _ _)
            clear hWE
            have hwE := bE.size
            replace HX := Lib.hid (HX.out.below bE)
            replace bE := hb.trans (bE.mono hw)
            refine (isCopy_any _ t x0 x1 x2 x3 _ (H.out.below rFo_stable bE)).mono ?_
            rw [HC.out]
            rintro e w2 ⟨rfl, b2⟩
            have hw2 := b2.size
            replace HX := Lib.hid (HX.out.below b2)
            replace HY := Lib.hid (HY.out.below b2)
            replace b2 := bE.trans (b2.mono bE.size)
            have t0 := HX.out.cell 0
            have t1 := HX.out.cell 1
            have t2 := HX.out.cell 2
            have t3 := HX.out.cell 3
            have y0 := HY.out.cell 0
            have y1 := HY.out.cell 1
            have y2 := HY.out.cell 2
            have y3 := HY.out.cell 3
            simp at t0 t1 t2 t3 y0 y1 y2 y3
            clear s0 s1 s2 s3 f0 f1 f2 f3
            go_wp2_with fail
            go_ret
            exact ⟨ret_bool HNT.out.symm, b2⟩
          · obtain ⟨bF, hbF⟩ : ∃ b, coBef ⟨q0, q1, q2, q3⟩ ⟨x0, x1, x2, x3⟩ = b := ⟨_, rfl⟩
            have HBF := Lib.hid hbF
            clear hbF
            cases bF
            · have HNT : Hid (areCo t cs = false) := Lib.hid (notCo hlt (by rw [Bool.eq_false_iff]; intro hc; have hh := HAT.out.1 hc; have := hh.2; rw [HP.out, HBF.out] at this; cases this))
              go_wp2_with fail
              generalize hWE : wr.alloc (.cells #[.int .i64 x0, .int .i64 x1, .int .i64 x2, .int .i64 x3] 68 (0, 0)) = wE
              have bE : Below wr.heap.size wr wE := by rw [← hWE]; exact below_al (Below.refl _ _) _
              have HY : Hid (BxV wE wr.heap.size [.int .i64 x0, .int .i64 x1, .int .i64 x2, .int .i64 x3]) := Lib.hid (by rw [← hWE]; exact BxV.new wr _ _)
              clear hWE
              have hwE := bE.size
              replace HX := Lib.hid (HX.out.below bE)
              replace bE := hb.trans (bE.mono hw)
              refine (isCopy_any _ t x0 x1 x2 x3 _ (H.out.below rFo_stable bE)).mono ?_
              rw [HC.out]
              rintro e w2 ⟨rfl, b2⟩
              have hw2 := b2.size
              replace HX := Lib.hid (HX.out.below b2)
              replace HY := Lib.hid (HY.out.below b2)
              replace b2 := bE.trans (b2.mono bE.size)
              have t0 := HX.out.cell 0
              have t1 := HX.out.cell 1
              have t2 := HX.out.cell 2
              have t3 := HX.out.cell 3
              have y0 := HY.out.cell 0
              have y1 := HY.out.cell 1
              have y2 := HY.out.cell 2
              have y3 := HY.out.cell 3
              simp at t0 t1 t2 t3 y0 y1 y2 y3
              clear s0 s1 s2 s3 f0 f1 f2 f3
              go_wp2_with fail
              refine (compareCopies_any ⟨q0, q1, q2, q3⟩ ⟨x0, x1, x2, x3⟩ _).mono ?_
              rintro e w3 ⟨n, rfl, hn, b3⟩
              rw [HBF.out] at hn
              have hw3 := b3.size
              replace HX := Lib.hid (HX.out.below b3)
              replace HY := Lib.hid (HY.out.below b3)
              have t0 := HX.out.cell 0
              have t1 := HX.out.cell 1
              have t2 := HX.out.cell 2
              have t3 := HX.out.cell 3
              have u0 := HX.out.frozen 0
              have u1 := HX.out.frozen 1
              have u2 := HX.out.frozen 2
              have u3 := HX.out.frozen 3
              have y0 := HY.out.cell 0
              have y1 := HY.out.cell 1
              have y2 := HY.out.cell 2
              have y3 := HY.out.cell 3
              simp at t0 t1 t2 t3 y0 y1 y2 y3
              replace b3 := b2.trans (b3.mono b2.size)
              have hn' : 0 ≤ n := by simpa using hn
              clear hn
              go_wp2_with fail
              go_ret
              exact ⟨ret_bool HNT.out.symm, b3⟩
            · have HAL : Hid (coAtB t cs k = true) := Lib.hid (HAT.out.2 ⟨HC.out, by rw [HP.out]; exact HBF.out⟩)
              go_wp2_with fail
              generalize hWE : wr.alloc (.cells #[.int .i64 x0, .int .i64 x1, .int .i64 x2, .int .i64 x3] 68 (0, 0)) = wE
              have bE : Below wr.heap.size wr wE := by rw [← hWE]; exact below_al (Below.refl _ _) _
              have HY : Hid (BxV wE wr.heap.size [.int .i64 x0, .int .i64 x1, .int .i64 x2, .int .i64 x3]) := Lib.hid (by rw [← hWE]; exact BxV.new wr _ _)
              clear hWE
              have hwE := bE.size
              replace HX := Lib.hid (HX.out.below bE)
              replace bE := hb.trans (bE.mono hw)
              refine (isCopy_any _ t x0 x1 x2 x3 _ (H.out.below rFo_stable bE)).mono ?_
              rw [HC.out]
              rintro e w2 ⟨rfl, b2⟩
              have hw2 := b2.size
              replace HX := Lib.hid (HX.out.below b2)
              replace HY := Lib.hid (HY.out.below b2)
              replace b2 := bE.trans (b2.mono bE.size)
              have t0 := HX.out.cell 0
              have t1 := HX.out.cell 1
              have t2 := HX.out.cell 2
              have t3 := HX.out.cell 3
              have y0 := HY.out.cell 0
              have y1 := HY.out.cell 1
              have y2 := HY.out.cell 2
              have y3 := HY.out.cell 3
              simp at t0 t1 t2 t3 y0 y1 y2 y3
              clear s0 s1 s2 s3 f0 f1 f2 f3
              go_wp2_with fail
              refine (compareCopies_any ⟨q0, q1, q2, q3⟩ ⟨x0, x1, x2, x3⟩ _).mono ?_
              rintro e w3 ⟨n, rfl, hn, b3⟩
              rw [HBF.out] at hn
              have hw3 := b3.size
              replace HX := Lib.hid (HX.out.below b3)
              replace HY := Lib.hid (HY.out.below b3)
              have t0 := HX.out.cell 0
              have t1 := HX.out.cell 1
              have t2 := HX.out.cell 2
              have t3 := HX.out.cell 3
              have u0 := HX.out.frozen 0
              have u1 := HX.out.frozen 1
              have u2 := HX.out.frozen 2
              have u3 := HX.out.frozen 3
              have y0 := HY.out.cell 0
              have y1 := HY.out.cell 1
              have y2 := HY.out.cell 2
              have y3 := HY.out.cell 3
              simp at t0 t1 t2 t3 y0 y1 y2 y3
              replace b3 := b2.trans (b3.mono b2.size)
              have hn' : n < 0 := by simpa using hn
              have dn : decide (0 ≤ n) = false := decide_eq_false (by omega)
              clear hn
              go_wp2_with fail
              go_roundw
              case rel =>
                have h1 := (((HX.out.set (cs' := [.int .i64 x0, .int .i64 q1, .int .i64 q2, .int .i64 q3]) 0 (.int .i64 x0) rfl).set (cs' := [.int .i64 x0, .int .i64 x1, .int .i64 q2, .int .i64 q3]) 1 (.int .i64 x1) rfl).set (cs' := [.int .i64 x0, .int .i64 x1, .int .i64 x2, .int .i64 q3]) 2 (.int .i64 x2) rfl).set (cs' := [.int .i64 x0, .int .i64 x1, .int .i64 x2, .int .i64 x3]) 3 (.int .i64 x3) rfl
                exact ⟨k + 1, x0, x1, x2, x3, by omega, by go_num, Lib.hid (by rw [prevCo, HXX.out]), Lib.hid h1, Lib.hid (upto_succ HU.out HAL.out), (((b3.setCell (p := ⟨G, 0, none⟩) hGw _).setCell (p := ⟨G, 1, none⟩) hGw _).setCell (p := ⟨G, 2, none⟩) hGw _).setCell (p := ⟨G, 3, none⟩) hGw _⟩
              case measure => simp [intOf]; omega
        · have hkt : k = cs.length := by omega
          have HE : Hid (areCo t cs = true) := Lib.hid (by have := HU.out; rw [hkt] at this; rw [co_upto this, HG.out]; have := HL.out; simp; omega)
          clear hkt
          go_wp2_with fail
          go_ret
          exact ⟨ret_bool HE.out.symm, hb⟩

set_option maxRecDepth 20000 in
set_option maxHeartbeats 4000000 in
theorem implLastReadable_any (v : Value) (t : List Fo) (x : Int) (w : World) (h : RowR 4 rFo w v t) (n : Int) (b : Bool) (hres : lastFoRes t x = (n, b)) :
    Calls Try.prog 43 #[v, .int .i64 x] w fun e w' => e = .returned (.tuple #[.int .i64 n, .bool b]) ∧ Below w.heap.size w w' := by
  have hcap := h.cap
  have H := Lib.hid h
  obtain ⟨a1, c1, rfl, hl1, hm1, r1⟩ := h.fos
  have R1 := Lib.hid r1
  unfold maxLen at hm1
  obtain ⟨bg, hg⟩ : ∃ b, areFo t = b := ⟨_, rfl⟩
  obtain ⟨bh, hh⟩ : ∃ b, hasId t x = b := ⟨_, rfl⟩
  obtain ⟨c, hc⟩ : ∃ c, foI t x = c := ⟨_, rfl⟩
  have hcn : decide (c < 0) = !bh := by rw [← hc, foI_neg, hh]
  have HG := Lib.hid hg
  have HH := Lib.hid hh
  have HC := Lib.hid hc
  have NO := Lib.hid (fun hn => lastFoRes_no hres hn)
  have YES := Lib.hid (fun hn => lastFoRes_yes hres hn)
  clear h hg hh hc hres r1
  cases bg
  · obtain ⟨rfl, rfl⟩ := NO.out (fun h => by rw [HG.out] at h; exact absurd h.1 (by simp))
    go_enter Try.func43, Try.ntmps43
    go_wp2_with (first | (go_at_call 16; refine (implAreFo_any _ t _ H.out).mono ?_; rw [HG.out]; rintro e w1 ⟨rfl, b1⟩))
    go_ret2
    exact ⟨rfl, b1⟩
  · cases bh
    · obtain ⟨rfl, rfl⟩ := NO.out (fun h => by rw [HH.out] at h; exact absurd h.2 (by simp))
      have hcn' : c < 0 := by simpa using hcn
      clear hcn
      go_enter Try.func43, Try.ntmps43
      go_wp2_with (first | (go_at_call 16; refine (implAreFo_any _ t _ H.out).mono ?_; rw [HG.out]; rintro e w1 ⟨rfl, b1⟩) | (go_at_call 68; refine (placeOfFormat_any _ t _ _ (H.out.below rFo_stable b1)).mono ?_; rw [HC.out]; rintro e w2 ⟨rfl, b2⟩; replace b2 := below_chain b1 b2))
      go_ret2
      exact ⟨rfl, b2⟩
    · obtain ⟨rfl, rfl⟩ := YES.out ⟨HG.out, HH.out⟩
      have hcn' : 0 ≤ c := by simpa using hcn
      have dcn : decide (c < 0) = false := decide_eq_false (by omega)
      clear hcn dcn hcn'
      obtain ⟨p, hp, hpl, _⟩ := foI_at HH.out
      rw [HC.out] at hp
      subst hp
      obtain ⟨b1, o1, hb1, rfl, e1⟩ := R1.out.resolve_left (fun e => by rw [e] at hpl; simp at hpl)
      obtain ⟨s0, _, _, q2, _⟩ := e1 p hpl
      obtain ⟨m0, hm0⟩ : ∃ y, (t.getD p foD).til = y := ⟨_, rfl⟩
      rw [hm0] at q2
      have HL : Hid (lastF t x = t.foldl (lastStep x) m0) := Lib.hid (by unfold lastF; rw [HC.out, Int.toNat_natCast, hm0])
      have g0 : (0 : Int) ≤ (p : Int) := by omega
      have g1 : (p : Int) < (t.length : Int) := by omega
      have E1 := Lib.hid e1
      have Q2 := Lib.hid q2
      rw [HL.out]
      clear hm0 e1 q2
      go_enter Try.func43, Try.ntmps43
      go_wp2_with (first | (go_at_call 16; refine (implAreFo_any _ t _ H.out).mono ?_; rw [HG.out]; rintro e w1 ⟨rfl, b1⟩) | (go_at_call 68; refine (placeOfFormat_any _ t _ _ (H.out.below rFo_stable b1)).mono ?_; rw [HC.out]; rintro e w2 ⟨rfl, b2⟩; replace b2 := below_chain b1 b2; have q2 := cell_kept Q2.out b2))
      go_loopw [7, 25] (fun m i wr => ∃ (k : Nat) (mv : Int), k ≤ t.length ∧ i = .int .i64 k ∧ m = .int .i64 mv ∧ Hid ((t.take k).foldl (lastStep x) m0 = mv) ∧ Below w.heap.size w wr) (fun _ i _ => t.length - (intOf i).toNat)
      case atStart => exact ⟨0, m0, Nat.zero_le _, rfl, rfl, Lib.hid rfl, b2⟩
      case round =>
        obtain ⟨k, mv, hk, rfl, rfl, HM, hb⟩ := hrel
        have hw := hb.size
        by_cases hlt : k < t.length
        · obtain ⟨⟨x0, x1, x2, x3⟩, hx⟩ : ∃ s, t.getD k foD = s := ⟨_, rfl⟩
          obtain ⟨s, r0, r1, r2, r3, hr, _⟩ := E1.out k hlt
          rw [hx] at r0 r1 r2 hr
          simp only at r0 r1 r2 hr
          have f0 := cell_kept r0 hb
          have f1 := cell_kept r1 hb
          have f2 := cell_kept r2 hb
          have f3 := cell_kept r3 hb
          have HS := Lib.hid (hr.below hb)
          obtain ⟨sa, sc, rfl, _⟩ := hr
          have hsu := last_succ hlt x m0
          rw [HM.out, hx] at hsu
          have HSU := Lib.hid hsu
          have k0 : (0 : Int) ≤ (k : Int) := by omega
          have k1 : (k : Int) < (t.length : Int) := by omega
          obtain ⟨bi, hbi⟩ : ∃ b, decide (x ∈ x3) = b := ⟨_, rfl⟩
          have HBI := Lib.hid hbi
          clear r0 r1 r2 r3 hx hsu hbi q2 b2
          cases bi
          · have hst : lastStep x mv ⟨x0, x1, x2, x3⟩ = mv := by unfold lastStep; rw [if_neg (of_decide_eq_false HBI.out)]
            have HST := Lib.hid hst
            clear hst
            go_wp2_with (first | (go_at_call 69; refine (contains_any _ x3 x _ (HS.out.below (below_al (Below.refl _ _) _))).mono ?_; rw [HBI.out]; rintro e w4 ⟨rfl, b4⟩; replace b4 := below_chain (below_al (Below.refl wr.heap.size wr) _) b4))
            go_roundw
            case rel => exact ⟨k + 1, mv, by omega, by go_num, rfl, Lib.hid (HSU.out.trans HST.out), hb.trans (b4.mono hw)⟩
            case measure => simp [intOf]; omega
          · have hst : lastStep x mv ⟨x0, x1, x2, x3⟩ = max mv x2 := by unfold lastStep; rw [if_pos (of_decide_eq_true HBI.out)]
            have HST := Lib.hid hst
            clear hst
            go_wp2_with (first | (go_at_call 69; refine (contains_any _ x3 x _ (HS.out.below (below_al (Below.refl _ _) _))).mono ?_; rw [HBI.out]; rintro e w4 ⟨rfl, b4⟩; have z2 := cell_kept (cell_new wr _ _ 2 rfl) b4; replace b4 := below_chain (below_al (Below.refl wr.heap.size wr) _) b4))
            go_roundw
            case rel => exact ⟨k + 1, max mv x2, by omega, by go_num, by first | rfl | (congr 1; omega), Lib.hid (HSU.out.trans HST.out), hb.trans (b4.mono hw)⟩
            case measure => simp [intOf]; omega
        · have hkt : k = t.length := by omega
          have HE : Hid (t.foldl (lastStep x) m0 = mv) := Lib.hid (by have := HM.out; rwa [hkt, List.take_length] at this)
          clear hkt q2 b2
          go_wp2_with fail
          go_ret2
          exact ⟨ret_int2 HE.out.symm, hb⟩

theorem implIsReadable_any (v : Value) (t : List Fo) (x d : Int) (w : World) (h : RowR 4 rFo w v t) (n b : Bool) (hres : readFoRes t x d = (n, b)) :
    Calls Try.prog 24 #[v, .int .i64 x, .int .i64 d] w fun e w' => e = .returned (.tuple #[.bool n, .bool b]) ∧ Below w.heap.size w w' := by
  have H := Lib.hid h
  obtain ⟨m, bm, hm⟩ : ∃ m b, lastFoRes t x = (m, b) := ⟨_, _, rfl⟩
  obtain ⟨bd, hd⟩ : ∃ b, decide (0 ≤ d ∧ d ≤ 20000) = b := ⟨_, rfl⟩
  have HM := Lib.hid hm
  have HD := Lib.hid hd
  have NO := Lib.hid (fun hn => readFoRes_no hres hn)
  have YES := Lib.hid (fun hn => readFoRes_yes hres hn)
  have hbm : bm = (areFo t && hasId t x) := by
    unfold lastFoRes at hm
    split at hm
    · rename_i hc; rw [hc]; exact (Prod.mk.inj hm).2.symm
    · rename_i hc; rw [Bool.not_eq_true] at hc; rw [hc]; exact (Prod.mk.inj hm).2.symm
  have HBM := Lib.hid hbm
  clear h hm hd hres hbm
  cases bm
  · obtain ⟨rfl, rfl⟩ := NO.out (fun h => by have := HBM.out; rw [h.1, h.2.1] at this; cases this)
    go_enter Try.func24, Try.ntmps24
    go_wp2_with (first | (go_at_call 43; refine (implLastReadable_any _ t x _ H.out m false HM.out).mono ?_; rintro e w1 ⟨rfl, b1⟩))
    go_ret2
    exact ⟨rfl, b1⟩
  · have hab : areFo t = true ∧ hasId t x = true := by have := HBM.out; simpa using this.symm
    have HAB := Lib.hid hab
    clear hab
    cases bd
    · obtain ⟨rfl, rfl⟩ := NO.out (fun h => by have := h.2.2; unfold dayB at this; rw [HD.out] at this; cases this)
      go_enter Try.func24, Try.ntmps24
      go_wp2_with (first | (go_at_call 43; refine (implLastReadable_any _ t x _ H.out m true HM.out).mono ?_; rintro e w1 ⟨rfl, b1⟩) | (go_at_call 48; refine (isDay_any _ _).mono ?_; rw [HD.out]; rintro e w2 ⟨rfl, h2⟩; subst w2))
      go_ret2
      exact ⟨rfl, b1⟩
    · obtain ⟨rfl, rfl⟩ := YES.out ⟨HAB.out.1, HAB.out.2, HD.out⟩
      obtain ⟨hmm, _⟩ := lastFoRes_yes HM.out HAB.out
      have HMM := Lib.hid hmm
      clear hmm
      rw [← HMM.out]
      go_enter Try.func24, Try.ntmps24
      go_wp2_with (first | (go_at_call 43; refine (implLastReadable_any _ t x _ H.out m true HM.out).mono ?_; rintro e w1 ⟨rfl, b1⟩) | (go_at_call 48; refine (isDay_any _ _).mono ?_; rw [HD.out]; rintro e w2 ⟨rfl, h2⟩; subst w2))
      go_ret2
      exact ⟨rfl, b1⟩
end Go.Proofs.Ytcfghigmijibeaa
