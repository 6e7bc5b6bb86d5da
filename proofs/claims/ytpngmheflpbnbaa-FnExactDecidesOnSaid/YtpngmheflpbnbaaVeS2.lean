/- Versions, the model's: DecidesOn, DueOn, DueDays, FirstDueDay, WhyOn. -/
import Derived.Test.YtpngmheflpbnbaaVeS
import Derived.Test.YtpngmheflpbnbaaPerS2
import Derived.StillTailTactics
namespace Go.Proofs.Ytpngmheflpbnbaa
set_option linter.unusedVariables false
open Go.RowKit Go.Sort

set_option maxRecDepth 20000 in
set_option maxHeartbeats 4000000 in
theorem specDecidesOn_any (v v1 : Value) (t : List Ve) (r : Rec) (d : Int) (w : World) (h : RowR 2 rVe w v t) (h1 : RecV w v1 r) (q : Ru) (b : Bool) (hres : decoRes t r d = (q, b)) :
    Calls Try.prog 20 #[v, v1, .int .i64 d] w fun e w' => e = .returned (.tuple #[.agg #[.int .i64 q.series, .int .i64 q.event, .int .i64 q.days, .int .i64 q.act], .bool b]) ∧ Below w.heap.size w w' := by
  obtain ⟨s, rfl, h0, hok⟩ := h1
  have HV := Lib.hid (show ∀ W, Below w.heap.size w W → RecV W (.agg #[.int .i64 r.id, .int .i64 r.series, .int .i64 r.made, s]) r from fun W hb => ⟨s, rfl, h0.below rEv_stable hb, hok⟩)
  have H := Lib.hid (show ∀ W, Below w.heap.size w W → RowR 2 rVe W v t from fun W hb => h.below rVe_stable hb)
  obtain ⟨a1, c1, rfl, hl1, hm1, r1⟩ := h.ves
  have R1 := Lib.hid r1
  unfold maxLen at hm1
  have b0 := below_al (below_al (Below.refl w.heap.size w) (RBOX r s 42)) (.cells #[.int .i64 0, .int .i64 0, .int .i64 0, .int .i64 0] 37 (0, 0))
  have HC0 : Hid (Box4 ((w.alloc (RBOX r s 42)).alloc (.cells #[.int .i64 0, .int .i64 0, .int .i64 0, .int .i64 0] 37 (0, 0))) w.heap.size r s) := Lib.hid ((Box4.new w r s 42).kept (below_al (Below.refl _ _) _))
  have HX0 : Hid (UBox ((w.alloc (RBOX r s 42)).alloc (.cells #[.int .i64 0, .int .i64 0, .int .i64 0, .int .i64 0] 37 (0, 0))) (w.heap.size + 1) ruD) := Lib.hid (by rw [← (show (w.alloc (RBOX r s 42)).heap.size = w.heap.size + 1 by simp)]; exact UBox.new (w.alloc (RBOX r s 42)) ruD 37)
  obtain ⟨ba, ha⟩ : ∃ b, askV t r d = b := ⟨_, rfl⟩
  have HA := Lib.hid ha
  obtain ⟨N, hN⟩ : ∃ N, onV t d = N := ⟨_, rfl⟩
  have HN := Lib.hid hN
  unfold decoRes at hres
  cases ba
  · rw [if_neg (by rw [ha]; simp)] at hres
    cases hres
    clear h0 hok h ha hN r1
    go_enter Try.func20, Try.ntmps20
    go_wp2_with (first | (go_at_call 54; refine (l8Asked_any _ _ t r d _ (H.out _ b0) (HV.out _ b0)).mono ?_; rw [HA.out]; rintro e w1 ⟨rfl, b1⟩; have HX1 := Lib.hid (HX0.out.kept b1); obtain ⟨z0, z1, z2, z3, y0, y1, y2, y3⟩ := HX1.out; simp only [ruD] at z0 z1 z2 z3; replace b1 := below_chain b0 b1))
    refine bodyPost_ret (v := .tuple #[.agg #[.int .i64 0, .int .i64 0, .int .i64 0, .int .i64 0], .bool false]) (by simp [results, Try.results20 , go_sem, z0, z1, z2, z3]) rfl ⟨rfl, ?_⟩
    exact below_putU b1 (by omega) ruD
  · by_cases hneg : N < 0
    · rw [if_neg (fun e => by have := e.2; rw [hN] at this; omega)] at hres
      cases hres
      clear h0 hok h ha hN r1
      go_enter Try.func20, Try.ntmps20
      go_wp2_with (first | (go_at_call 54; refine (l8Asked_any _ _ t r d _ (H.out _ b0) (HV.out _ b0)).mono ?_; rw [HA.out]; rintro e w1 ⟨rfl, b1⟩; have HX1 := Lib.hid (HX0.out.kept b1); replace b1 := below_chain b0 b1) | (go_at_call 51; refine (l8On_any _ t d _ (H.out _ b1)).mono ?_; rw [HN.out]; rintro e w2 ⟨rfl, b2⟩; have HX2 := Lib.hid (HX1.out.kept b2); obtain ⟨z0, z1, z2, z3, y0, y1, y2, y3⟩ := HX2.out; simp only [ruD] at z0 z1 z2 z3; replace b2 := below_chain b1 b2))
      refine bodyPost_ret (v := .tuple #[.agg #[.int .i64 0, .int .i64 0, .int .i64 0, .int .i64 0], .bool false]) (by simp [results, Try.results20 , go_sem, z0, z1, z2, z3]) rfl ⟨rfl, ?_⟩
      exact below_putU b2 (by omega) ruD
    · rw [if_pos ⟨ha, by rw [hN]; omega⟩] at hres
      obtain ⟨k, hk0, hk, _, _⟩ := onV_at (t := t) (d := d) (by rw [hN]; omega)
      have hNk : N = (k : Int) := by rw [← hN]; exact hk0
      subst hNk
      have hsc := askV_sch ha hk
      obtain ⟨x, hx⟩ : ∃ x, (t.getD k veD).rules = x := ⟨_, rfl⟩
      obtain ⟨bL, oL, hbL, rfl, e1⟩ := r1.resolve_left (fun e => by rw [e] at hk; simp at hk)
      obtain ⟨sr, _, f1, hr, _⟩ := e1 k hk
      rw [hx] at hr hsc
      have HR := Lib.hid (show ∀ W, Below w.heap.size w W → RowR 4 rRu W sr x from fun W hb => hr.below rRu_stable hb)
      have HSC := Lib.hid hsc
      obtain ⟨⟨x0, x1, x2, x3⟩, D, hdec⟩ : ∃ q d, decR r (forRu x r.series) = (q, d) := ⟨_, _, rfl⟩
      have HDEC := Lib.hid hdec
      have g0 : (0 : Int) ≤ (k : Int) := by omega
      have g1 : (k : Int) < (t.length : Int) := by omega
      rw [hN, rulesAt_nat, hx, decRes_of hsc hdec] at hres
      cases hres
      clear h0 hok h ha hN r1 e1 hr hsc hdec hx hk0 hneg
      go_enter Try.func20, Try.ntmps20
      go_wp2_with (first | (go_at_call 54; refine (l8Asked_any _ _ t r d _ (H.out _ b0) (HV.out _ b0)).mono ?_; rw [HA.out]; rintro e w1 ⟨rfl, b1⟩; have HX1 := Lib.hid (HX0.out.kept b1); have HC1 := Lib.hid (HC0.out.kept b1); replace b1 := below_chain b0 b1) | (go_at_call 51; refine (l8On_any _ t d _ (H.out _ b1)).mono ?_; rw [HN.out]; rintro e w2 ⟨rfl, b2⟩; have HX2 := Lib.hid (HX1.out.kept b2); obtain ⟨c0, c1, c2, c3⟩ := HC1.out.kept b2; replace b2 := below_chain b1 b2))
      replace f1 := cell_kept f1 b2
      have hl0 : w.heap.size < w2.heap.size := World.block_lt_of_cell? _ _ c0
      have hlL : bL < w2.heap.size := World.block_lt_of_cell? _ _ f1
      have HB2 := Lib.hid b2
      clear b2
      go_region_held3 (fun w' => w'.cell? ⟨w.heap.size, 0, none⟩ = some (.int .i64 r.id) ∧ w'.cell? ⟨w.heap.size, 1, none⟩ = some (.int .i64 r.series) ∧ w'.cell? ⟨w.heap.size, 2, none⟩ = some (.int .i64 r.made) ∧ w'.cell? ⟨w.heap.size, 3, none⟩ = some (s) ∧ w'.cell? ⟨bL, oL + k * 2 + 1, none⟩ = some sr)
        (first | with_reducible exact ⟨c0, c1, c2, c3, f1⟩ | with_reducible exact ⟨cell_drew c0, cell_drew c1, cell_drew c2, cell_drew c3, cell_drew f1⟩ | with_reducible exact ⟨below_al_cell c0 _, below_al_cell c1 _, below_al_cell c2 _, below_al_cell c3 _, below_al_cell f1 _⟩ | with_reducible exact ⟨cell_drew (below_al_cell c0 _), cell_drew (below_al_cell c1 _), cell_drew (below_al_cell c2 _), cell_drew (below_al_cell c3 _), cell_drew (below_al_cell f1 _)⟩ | (refine ⟨?_, ?_, ?_, ?_, ?_⟩ <;> (repeat rw [World.cell?_setCell_far _ _ _ _ (by simp; omega)]) <;> first | assumption | go_keep))
        (first | (go_at_call 51; (with_reducible refine (l8On_any _ t d _ (H.out _ (below_chain HB2.out ((Below.refl w2.heap.size w2).drew)))).mono ?_); rw [HN.out]; rintro e w4 ⟨rfl, b4⟩; have b4a : Below w2.heap.size w2 w4 := below_chain ((Below.refl w2.heap.size w2).drew) b4; replace c0 := cell_kept c0 b4a; replace c1 := cell_kept c1 b4a; replace c2 := cell_kept c2 b4a; replace c3 := cell_kept c3 b4a; replace f1 := cell_kept f1 b4a; have HX4 := Lib.hid (HX2.out.kept b4a); have hs4 := b4a.size) | (go_at_call 51; (with_reducible refine (l8On_any _ t d _ (H.out _ (below_chain HB2.out ((below_al (Below.refl w2.heap.size w2) (.cells #[.int .i64 0, .int .i64 0, .int .i64 0, .int .i64 0] 37 (0, 0))).drew)))).mono ?_); rw [HN.out]; rintro e w4 ⟨rfl, b4⟩; have b4b : Below w2.heap.size w2 w4 := below_chain ((below_al (Below.refl w2.heap.size w2) (.cells #[.int .i64 0, .int .i64 0, .int .i64 0, .int .i64 0] 37 (0, 0))).drew) b4; replace c0 := cell_kept c0 b4b; replace c1 := cell_kept c1 b4b; replace c2 := cell_kept c2 b4b; replace c3 := cell_kept c3 b4b; replace f1 := cell_kept f1 b4b; have HX4 := Lib.hid (HX2.out.kept b4b); have HY4 := Lib.hid ((UBox.new w2 ruD 37).drew.kept b4); have hs4 := b4b.size) | (go_at_call 55; have bq := b4b; (with_reducible refine (l6Deciding_any _ _ r x _ (HV.out _ (below_chain HB2.out bq)) (HR.out _ (below_chain HB2.out bq)) (ask_iff.1 HSC.out).1 (ask_iff.1 HSC.out).2 _ _ HDEC.out).mono ?_); rintro e w5 ⟨rfl, b5⟩; have b5b : Below w2.heap.size w2 w5 := below_chain bq b5; replace c0 := cell_kept c0 b5; replace c1 := cell_kept c1 b5; replace c2 := cell_kept c2 b5; replace c3 := cell_kept c3 b5; replace f1 := cell_kept f1 b5; have HX5 := Lib.hid (HX2.out.kept b5b); have HY5 := Lib.hid (HY4.out.kept b5); obtain ⟨k0, k1, k2, k3, l0, l1, l2, l3⟩ := HY5.out; simp only [ruD] at k0 k1 k2 k3; have hs5 := b5b.size; simp only) | (go_at_call 55; have bq := b4a; (with_reducible refine (l6Deciding_any _ _ r x _ (HV.out _ (below_chain HB2.out bq)) (HR.out _ (below_chain HB2.out bq)) (ask_iff.1 HSC.out).1 (ask_iff.1 HSC.out).2 _ _ HDEC.out).mono ?_); rintro e w5 ⟨rfl, b5⟩; have b5a : Below w2.heap.size w2 w5 := below_chain bq b5; replace c0 := cell_kept c0 b5; replace c1 := cell_kept c1 b5; replace c2 := cell_kept c2 b5; replace c3 := cell_kept c3 b5; replace f1 := cell_kept f1 b5; have HX5 := Lib.hid (HX2.out.kept b5a); have hs5 := b5a.size; simp only) | (go_at_call 55; have bq := below_al b4a (.cells #[.int .i64 0, .int .i64 0, .int .i64 0, .int .i64 0] 37 (0, 0)); (with_reducible refine (l6Deciding_any _ _ r x _ (HV.out _ (below_chain HB2.out bq)) (HR.out _ (below_chain HB2.out bq)) (ask_iff.1 HSC.out).1 (ask_iff.1 HSC.out).2 _ _ HDEC.out).mono ?_); rintro e w5 ⟨rfl, b5⟩; have b5c : Below w2.heap.size w2 w5 := below_chain bq b5; replace c0 := cell_kept (below_al_cell c0 _) b5; replace c1 := cell_kept (below_al_cell c1 _) b5; replace c2 := cell_kept (below_al_cell c2 _) b5; replace c3 := cell_kept (below_al_cell c3 _) b5; replace f1 := cell_kept (below_al_cell f1 _) b5; have HX5 := Lib.hid (HX2.out.kept b5c); have HY5 := Lib.hid ((UBox.new w4 ruD 37).kept b5); obtain ⟨k0, k1, k2, k3, l0, l1, l2, l3⟩ := HY5.out; simp only [ruD] at k0 k1 k2 k3; have hs5 := b5c.size; simp only))
      all_goals first
        | (have hBV := Lib.hid (below_putU (below_chain HB2.out b5b) (show w.heap.size ≤ w2.heap.size by have := HB2.out.size; have := HX2.out.lt; omega) ⟨x0, x1, x2, x3⟩); have HXV := Lib.hid (HY5.out.put ⟨x0, x1, x2, x3⟩); simp only [putU] at hBV HXV; have hne : w2.heap.size ≠ w.heap.size + 1 := (by have := HX2.out.lt; omega); have HRV := Lib.hid ((((HX5.out.far (g' := w2.heap.size) (j := 0) hne (.int .i64 x0)).far (g' := w2.heap.size) (j := 1) hne (.int .i64 x1)).far (g' := w2.heap.size) (j := 2) hne (.int .i64 x2)).far (g' := w2.heap.size) (j := 3) hne (.int .i64 x3)); generalize ((((w5.setCell ⟨w2.heap.size, 0, none⟩ (.int .i64 x0)).setCell ⟨w2.heap.size, 1, none⟩ (.int .i64 x1)).setCell ⟨w2.heap.size, 2, none⟩ (.int .i64 x2)).setCell ⟨w2.heap.size, 3, none⟩ (.int .i64 x3)) = V at hBV HXV HRV ⊢; clear k0 k1 k2 k3 l0 l1 l2 l3 hne)
        | (have hBV := Lib.hid (below_putU (below_chain HB2.out b5c) (show w.heap.size ≤ w4.heap.size by have := HB2.out.size; have := HX2.out.lt; omega) ⟨x0, x1, x2, x3⟩); have HXV := Lib.hid (HY5.out.put ⟨x0, x1, x2, x3⟩); simp only [putU] at hBV HXV; have hne : w4.heap.size ≠ w.heap.size + 1 := (by have := HX2.out.lt; omega); have HRV := Lib.hid ((((HX5.out.far (g' := w4.heap.size) (j := 0) hne (.int .i64 x0)).far (g' := w4.heap.size) (j := 1) hne (.int .i64 x1)).far (g' := w4.heap.size) (j := 2) hne (.int .i64 x2)).far (g' := w4.heap.size) (j := 3) hne (.int .i64 x3)); generalize ((((w5.setCell ⟨w4.heap.size, 0, none⟩ (.int .i64 x0)).setCell ⟨w4.heap.size, 1, none⟩ (.int .i64 x1)).setCell ⟨w4.heap.size, 2, none⟩ (.int .i64 x2)).setCell ⟨w4.heap.size, 3, none⟩ (.int .i64 x3)) = V at hBV HXV HRV ⊢; clear k0 k1 k2 k3 l0 l1 l2 l3 hne)
        | (have hBV := Lib.hid (below_al (below_chain HB2.out b5a) (.cells #[.int .i64 x0, .int .i64 x1, .int .i64 x2, .int .i64 x3] 37 (0, 0))); have HXV := Lib.hid (UBox.new w5 ⟨x0, x1, x2, x3⟩ 37); have HRV := Lib.hid (HX5.out.al (.cells #[.int .i64 x0, .int .i64 x1, .int .i64 x2, .int .i64 x3] 37 (0, 0))); simp only at HXV; generalize w5.alloc (.cells #[.int .i64 x0, .int .i64 x1, .int .i64 x2, .int .i64 x3] 37 (0, 0)) = V at hBV HXV HRV ⊢)
      all_goals
        clear c0 c1 c2 c3 f1
        obtain ⟨z0, z1, z2, z3, y0, y1, y2, y3⟩ := HRV.out
        simp only [ruD] at z0 z1 z2 z3
        obtain ⟨d0, d1, d2, d3, _, _, _, _⟩ := HXV.out
        simp only at d0 d1 d2 d3
        go_wp2_with fail
        refine bodyPost_ret (v := .tuple #[.agg #[.int .i64 x0, .int .i64 x1, .int .i64 x2, .int .i64 x3], .bool (decide (0 ≤ D))]) (by simp [results, Try.results20 , go_sem, z0, z1, z2, z3]) rfl ⟨rfl, ?_⟩
        exact below_putU hBV.out (by omega) ⟨x0, x1, x2, x3⟩

set_option maxRecDepth 20000 in
set_option maxHeartbeats 4000000 in
theorem l8Due_any (v v1 : Value) (t : List Ve) (r : Rec) (d : Int) (w : World) (h : RowR 2 rVe w v t) (h1 : RecV w v1 r) (ha : askV t r d = true) :
    Calls Try.prog 59 #[v, v1, .int .i64 d] w fun e w' => e = .returned (.bool (dueV t r d)) ∧ Below w.heap.size w w' := by
  obtain ⟨s, rfl, h0, hok⟩ := h1
  have HV := Lib.hid (show ∀ W, Below w.heap.size w W → RecV W (.agg #[.int .i64 r.id, .int .i64 r.series, .int .i64 r.made, s]) r from fun W hb => ⟨s, rfl, h0.below rEv_stable hb, hok⟩)
  have H := Lib.hid (show ∀ W, Below w.heap.size w W → RowR 2 rVe W v t from fun W hb => h.below rVe_stable hb)
  obtain ⟨a1, c1, rfl, hl1, hm1, r1⟩ := h.ves
  have R1 := Lib.hid r1
  unfold maxLen at hm1
  have b0 := below_al (Below.refl w.heap.size w) (RBOX r s 42)
  have HC0 := Lib.hid (Box4.new w r s 42)
  obtain ⟨N, hN⟩ : ∃ N, onV t d = N := ⟨_, rfl⟩
  have HN := Lib.hid hN
  by_cases hneg : N < 0
  · have hd : dueV t r d = false := by unfold dueV; rw [hN]; exact decide_eq_false (fun e => by have := e.1; omega)
    rw [hd]
    have hg : decide ((0 : Int) ≤ N) = false := decide_eq_false (by omega)
    clear h0 hok h ha hN r1 hd
    go_enter Try.func59, Try.ntmps59
    go_wp2_with (first | (go_at_call 51; refine (l8On_any _ t d _ (H.out _ b0)).mono ?_; rw [HN.out]; rintro e w2 ⟨rfl, b2⟩; replace b2 := below_chain b0 b2))
    refine wp_region_quiet_below (by kernel_rfl) (by kernel_rfl) ?_
    repeat (go_big_quiet_step (first | fail))
    refine wpQuiet_nil ?_
    intro _ hw'
    obtain ⟨⟨dq, osq⟩, hw''⟩ := hw'
    subst hw''
    have bq := b2.trans ((below_regrown w2 dq osq).mono b2.size)
    generalize grow (redrawn w2 dq) osq = w3 at bq ⊢
    go_wp2
    go_ret
    exact ⟨rfl, bq⟩
  obtain ⟨k, hk0, hk, _, _⟩ := onV_at (t := t) (d := d) (by rw [hN]; omega)
  have hNk : N = (k : Int) := by rw [← hN]; exact hk0
  subst hNk
  have hsc := askV_sch ha hk
  obtain ⟨x, hx⟩ : ∃ x, (t.getD k veD).rules = x := ⟨_, rfl⟩
  obtain ⟨bL, oL, hbL, rfl, e1⟩ := r1.resolve_left (fun e => by rw [e] at hk; simp at hk)
  obtain ⟨sr, _, f1, hr, _⟩ := e1 k hk
  rw [hx] at hr hsc
  have HR := Lib.hid (show ∀ W, Below w.heap.size w W → RowR 4 rRu W sr x from fun W hb => hr.below rRu_stable hb)
  have HSC := Lib.hid hsc
  obtain ⟨⟨x0, x1, x2, x3⟩, D, hdec⟩ : ∃ q d, decR r (forRu x r.series) = (q, d) := ⟨_, _, rfl⟩
  have HDEC := Lib.hid hdec
  have g0 : (0 : Int) ≤ (k : Int) := by omega
  have g1 : (k : Int) < (t.length : Int) := by omega
  have hdF : dueF r x = D := by unfold dueF; rw [hdec]
  have hd : dueV t r d = decide (0 ≤ D ∧ D ≤ d) := by unfold dueV; rw [hN, rulesAt_nat, hx, hdF]; exact decide_eq_decide.2 (by omega)
  rw [hd]
  have HDF := Lib.hid hdF
  clear h0 hok h ha hN r1 e1 hr hsc hdec hx hk0 hneg hd hdF
  go_enter Try.func59, Try.ntmps59
  go_wp2_with (first | (go_at_call 51; refine (l8On_any _ t d _ (H.out _ b0)).mono ?_; rw [HN.out]; rintro e w2 ⟨rfl, b2⟩; obtain ⟨c0, c1, c2, c3⟩ := HC0.out.kept b2; replace b2 := below_chain b0 b2))
  have f2 := cell_kept f1 b2
  have m0 := cell_regrown c0
  have m1 := cell_regrown c1
  have m2 := cell_regrown c2
  have m3 := cell_regrown c3
  have m4 := cell_regrown f2
  have hc : ∀ dd os, Calls Try.prog 91 #[.agg #[.int .i64 r.id, .int .i64 r.series, .int .i64 r.made, s], sr, .int .i64 d] (grow (redrawn w2 dd) os) fun e w'' => e = .returned (.bool (decide (0 ≤ D ∧ D ≤ d))) ∧ ∃ p : Regrown, w'' = grow (redrawn w2 p.d) p.os := fun dd os => Calls.regrown_of (by have := l6Due_any _ _ r x d (grow (redrawn w2 dd) os) (HV.out _ (b2.trans ((below_regrown w2 dd os).mono b2.size))) (HR.out _ (b2.trans ((below_regrown w2 dd os).mono b2.size))) HSC.out; rwa [HDF.out] at this)
  refine wp_region_quiet_below (by kernel_rfl) (by kernel_rfl) ?_
  repeat (go_big_quiet_step (first | exact hc _ _))
  refine wpQuiet_nil ?_
  intro _ hw'
  obtain ⟨⟨dq, osq⟩, hw''⟩ := hw'
  subst hw''
  have bq := b2.trans ((below_regrown w2 dq osq).mono b2.size)
  generalize grow (redrawn w2 dq) osq = w3 at bq ⊢
  go_wp2
  go_ret
  exact ⟨ret_bool (by first | rfl | simp), bq⟩

set_option maxRecDepth 20000 in
set_option maxHeartbeats 4000000 in
theorem specDueOn_any (v v1 : Value) (t : List Ve) (r : Rec) (d : Int) (w : World) (h : RowR 2 rVe w v t) (h1 : RecV w v1 r) (a b : Bool) (hres : doRes t r d = (a, b)) :
    Calls Try.prog 25 #[v, v1, .int .i64 d] w fun e w' => e = .returned (.tuple #[.bool a, .bool b]) ∧ Below w.heap.size w w' := by
  obtain ⟨s, rfl, h0, hok⟩ := h1
  have HV := Lib.hid (show ∀ W, Below w.heap.size w W → RecV W (.agg #[.int .i64 r.id, .int .i64 r.series, .int .i64 r.made, s]) r from fun W hb => ⟨s, rfl, h0.below rEv_stable hb, hok⟩)
  have H := Lib.hid (show ∀ W, Below w.heap.size w W → RowR 2 rVe W v t from fun W hb => h.below rVe_stable hb)
  obtain ⟨a1, c1, rfl, hl1, hm1, r1⟩ := h.ves
  have R1 := Lib.hid r1
  unfold maxLen at hm1
  have b0 := below_al (Below.refl w.heap.size w) (RBOX r s 42)
  have HC0 := Lib.hid (Box4.new w r s 42)
  obtain ⟨ba, ha⟩ : ∃ b, askV t r d = b := ⟨_, rfl⟩
  have HA := Lib.hid ha
  unfold doRes at hres
  cases ba
  · rw [if_neg (by rw [ha]; simp)] at hres
    cases hres
    clear h0 hok h ha r1
    go_enter Try.func25, Try.ntmps25
    go_wp2_with (first | (go_at_call 54; refine (l8Asked_any _ _ t r d _ (H.out _ b0) (HV.out _ b0)).mono ?_; rw [HA.out]; rintro e w1 ⟨rfl, b1⟩; replace b1 := below_chain b0 b1))
    go_ret2
    exact ⟨rfl, b1⟩
  · rw [if_pos ha] at hres
    obtain ⟨hA, rfl⟩ := Prod.mk.inj hres
    have HAA := Lib.hid hA
    clear h0 hok h ha r1 hres hA
    go_enter Try.func25, Try.ntmps25
    go_wp2_with (first | (go_at_call 54; refine (l8Asked_any _ _ t r d _ (H.out _ b0) (HV.out _ b0)).mono ?_; rw [HA.out]; rintro e w1 ⟨rfl, b1⟩; obtain ⟨c0, c1, c2, c3⟩ := HC0.out.kept b1; replace b1 := below_chain b0 b1) | (go_at_call 59; refine (l8Due_any _ _ t r d _ (H.out _ b1) (HV.out _ b1) HA.out).mono ?_; rw [HAA.out]; rintro e w4 ⟨rfl, b4⟩; replace b4 := below_chain b1 b4))
    go_ret2
    exact ⟨rfl, b4⟩

set_option maxRecDepth 20000 in
set_option maxHeartbeats 4000000 in
theorem specDueDays_any (v v1 : Value) (t : List Ve) (r : Rec) (w : World) (h : RowR 2 rVe w v t) (h1 : RecV w v1 r) (xs : List Int) (b : Bool) (hres : ddRes t r = (xs, b)) :
    Calls Try.prog 27 #[v, v1] w fun e w' => ∃ v', e = .returned (.tuple #[v', .bool b]) ∧ IntsO w.heap.size w'.heap.size w' v' xs ∧ Below w.heap.size w w' := by
  obtain ⟨i0, hi, hz0, hz1, hz2⟩ := info_parts Try.info_intI
  obtain ⟨s, rfl, h0, hok⟩ := h1
  have HV := Lib.hid (show ∀ W, Below w.heap.size w W → RecV W (.agg #[.int .i64 r.id, .int .i64 r.series, .int .i64 r.made, s]) r from fun W hb => ⟨s, rfl, h0.below rEv_stable hb, hok⟩)
  have H := Lib.hid (show ∀ W, Below w.heap.size w W → RowR 2 rVe W v t from fun W hb => h.below rVe_stable hb)
  obtain ⟨a1, c1, rfl, hl1, hm1, r1⟩ := h.ves
  have R1 := Lib.hid r1
  unfold maxLen at hm1
  have HC0 : Hid (Box4 ((w.alloc (RBOX r s 42)).alloc (.cells #[] 3 (0, 0))) w.heap.size r s) := Lib.hid ((Box4.new w r s 42).kept (below_al (Below.refl _ _) _))
  have he0 : (w.alloc (RBOX r s 42)).heap.size = w.heap.size + 1 := by simp
  have HI0 : Hid (IntsO (w.heap.size + 1) ((w.alloc (RBOX r s 42)).alloc (.cells #[] 3 (0, 0))).heap.size ((w.alloc (RBOX r s 42)).alloc (.cells #[] 3 (0, 0))) (.slice (some ⟨w.heap.size + 1, 0, none⟩) 0 0) []) := Lib.hid (by have := ints_new (w.alloc (RBOX r s 42)); rwa [he0] at this)
  clear he0
  have b0 := below_al (below_al (Below.refl w.heap.size w) (RBOX r s 42)) (.cells #[] 3 (0, 0))
  have hask0 : askV t r 0 = (areVe t && isRec r) := by unfold askV; simp
  obtain ⟨ba, ha⟩ : ∃ b, askV t r 0 = b := ⟨_, rfl⟩
  have HA := Lib.hid ha
  unfold ddRes at hres
  cases ba
  · rw [if_neg (by rw [hask0] at ha; simpa using ha)] at hres
    cases hres
    clear h0 hok h ha r1 hask0
    go_enter Try.func27, Try.ntmps27
    go_wp2_with (first | (go_at_call 54; refine (l8Asked_any _ _ t r 0 _ (H.out _ b0) (HV.out _ b0)).mono ?_; rw [HA.out]; rintro e w1 ⟨rfl, b1⟩; have HI1 := Lib.hid ((HI0.out.below b1).wide (Nat.le_refl _) b1.size); replace b1 := below_chain b0 b1))
    go_ret2
    exact ⟨_, rfl, HI1.out.wide (Nat.le_succ _) (Nat.le_refl _), b1⟩
  · rw [if_pos (by rw [hask0] at ha; simpa using ha)] at hres
    cases hres
    have h5 := ve_len (askV_iff.1 ha).1
    clear h0 hok h ha r1 hask0
    go_enter Try.func27, Try.ntmps27
    go_wp2_with (first | (go_at_call 54; refine (l8Asked_any _ _ t r 0 _ (H.out _ b0) (HV.out _ b0)).mono ?_; rw [HA.out]; rintro e w1 ⟨rfl, b1⟩; have HC1 := Lib.hid (HC0.out.kept b1); have HI1 := Lib.hid ((HI0.out.below b1).wide (Nat.le_refl _) b1.size); have hw1 : w.heap.size + 2 ≤ w1.heap.size := (by have := b1.size; simp at this; omega); replace b1 := below_chain b0 b1))
    have HS0 := Lib.hid (OutS.start HI1.out.1 (by have := HI1.out; omega))
    have s1 := b1.size
    go_loopw [6, 7] (fun o i wr => ∃ k : Nat, k ≤ t.length ∧ i = .int .i64 k ∧ Hid (OutS (w.heap.size + 1) w1 wr o (daysV (t.take k) r))) (fun _ i _ => t.length - (intOf i).toNat)
    case atStart => exact ⟨0, Nat.zero_le _, rfl, HS0⟩
    case round =>
      clear HS0
      obtain ⟨k, hk, rfl, HS⟩ := hrel
      have hbw := b1.trans (HS.out.bel (Nat.le_succ _))
      by_cases hlt : k < t.length
      · obtain ⟨bL, oL, hbL, rfl, e1⟩ := R1.out.resolve_left (fun e => by rw [e] at hlt; simp at hlt)
        obtain ⟨sr, _, q1, hr, _⟩ := e1 k hlt
        obtain ⟨x, hx⟩ : ∃ x, (t.getD k veD).rules = x := ⟨_, rfl⟩
        have hsc := askV_sch HA.out hlt
        rw [hx] at hr hsc
        obtain ⟨⟨x0, x1, x2, x3⟩, D, hdec⟩ : ∃ q d, decR r (forRu x r.series) = (q, d) := ⟨_, _, rfl⟩
        have hdF : dueF r x = D := by unfold dueF; rw [hdec]
        have htake := daysV_succ (r := r) hlt
        rw [hx, hdF] at htake
        obtain ⟨Pp, hP⟩ : ∃ P, daysV (t.take k) r = P := ⟨_, rfl⟩
        have hPl : Pp.length ≤ 8 := by rw [← hP, daysV_len, List.length_take]; omega
        rw [hP] at htake HS
        have HTK := Lib.hid htake
        have f1 := cell_kept q1 hbw
        have C0 := Lib.hid HC1.out.1
        have C1 := Lib.hid HC1.out.2.1
        have C2 := Lib.hid HC1.out.2.2.1
        have C3 := Lib.hid HC1.out.2.2.2
        have c0 := HS.out.cell C0.out (by omega)
        have c1 := HS.out.cell C1.out (by omega)
        have c2 := HS.out.cell C2.out (by omega)
        have c3 := HS.out.cell C3.out (by omega)
        have g0 : (0 : Int) ≤ (k : Int) := by omega
        have g1 : (k : Int) < (t.length : Int) := by omega
        have hcall : Hid (∀ W, Below wr.heap.size wr W → Calls Try.prog 55 #[.agg #[.int .i64 r.id, .int .i64 r.series, .int .i64 r.made, s], sr] W fun e w' => e = .returned (.tuple #[.agg #[.int .i64 x0, .int .i64 x1, .int .i64 x2, .int .i64 x3], .int .i64 D]) ∧ Below W.heap.size W w') := Lib.hid (fun W hW => l6Deciding_any _ _ r x W (HV.out _ (hbw.trans (hW.mono hbw.size))) (hr.below rRu_stable (hbw.trans (hW.mono hbw.size))) (ask_iff.1 hsc).1 (ask_iff.1 hsc).2 _ _ hdec)
        clear q1 hr hsc hdec hdF htake hP e1 hx
        go_wp2_with fail
        have hl0 : w.heap.size < wr.heap.size := World.block_lt_of_cell? _ _ c0
        have hlL : bL < wr.heap.size := World.block_lt_of_cell? _ _ f1
        go_region_held3 (fun w' => w'.cell? ⟨w.heap.size, 0, none⟩ = some (.int .i64 r.id) ∧ w'.cell? ⟨w.heap.size, 1, none⟩ = some (.int .i64 r.series) ∧ w'.cell? ⟨w.heap.size, 2, none⟩ = some (.int .i64 r.made) ∧ w'.cell? ⟨w.heap.size, 3, none⟩ = some (s) ∧ w'.cell? ⟨bL, oL + k * 2 + 1, none⟩ = some sr)
          (first | with_reducible exact ⟨c0, c1, c2, c3, f1⟩ | with_reducible exact ⟨cell_drew c0, cell_drew c1, cell_drew c2, cell_drew c3, cell_drew f1⟩ | with_reducible exact ⟨below_al_cell c0 _, below_al_cell c1 _, below_al_cell c2 _, below_al_cell c3 _, below_al_cell f1 _⟩ | with_reducible exact ⟨cell_drew (below_al_cell c0 _), cell_drew (below_al_cell c1 _), cell_drew (below_al_cell c2 _), cell_drew (below_al_cell c3 _), cell_drew (below_al_cell f1 _)⟩ | (refine ⟨?_, ?_, ?_, ?_, ?_⟩ <;> (repeat rw [World.cell?_setCell_far _ _ _ _ (by simp; omega)]) <;> first | assumption | go_keep))
          (first | (go_at_call 55; (with_reducible refine (hcall.out _ ((Below.refl wr.heap.size wr).drew)).mono ?_); rintro e w5 ⟨rfl, b5⟩; have bA : Below wr.heap.size wr w5 := below_chain ((Below.refl wr.heap.size wr).drew) b5; replace c0 := cell_kept c0 bA; replace c1 := cell_kept c1 bA; replace c2 := cell_kept c2 bA; replace c3 := cell_kept c3 bA; replace f1 := cell_kept f1 bA; have hs5 := bA.size; simp only) | (go_at_call 55; (with_reducible refine (hcall.out _ ((below_al (Below.refl wr.heap.size wr) (.cells #[.int .i64 0, .int .i64 0, .int .i64 0, .int .i64 0] 37 (0, 0))).drew)).mono ?_); rintro e w5 ⟨rfl, b5⟩; have bB : Below wr.heap.size wr w5 := below_chain ((below_al (Below.refl wr.heap.size wr) (.cells #[.int .i64 0, .int .i64 0, .int .i64 0, .int .i64 0] 37 (0, 0))).drew) b5; replace c0 := cell_kept c0 bB; replace c1 := cell_kept c1 bB; replace c2 := cell_kept c2 bB; replace c3 := cell_kept c3 bB; replace f1 := cell_kept f1 bB; have hs5 := bB.size; obtain ⟨k0, k1, k2, k3, l0, l1, l2, l3⟩ := ((UBox.new wr ruD 37).drew.kept b5); simp only [ruD] at k0 k1 k2 k3; simp only))
        all_goals first
          | (have hBV := Lib.hid (below_al bA (.cells #[.int .i64 x0, .int .i64 x1, .int .i64 x2, .int .i64 x3] 37 (0, 0))); generalize w5.alloc (.cells #[.int .i64 x0, .int .i64 x1, .int .i64 x2, .int .i64 x3] 37 (0, 0)) = V at hBV ⊢; clear bA b5 c0 c1 c2 c3 f1)
          | (have hBV := Lib.hid (below_putU bB (Nat.le_refl _) ⟨x0, x1, x2, x3⟩); simp only [putU] at hBV; generalize ((((w5.setCell ⟨wr.heap.size, 0, none⟩ (.int .i64 x0)).setCell ⟨wr.heap.size, 1, none⟩ (.int .i64 x1)).setCell ⟨wr.heap.size, 2, none⟩ (.int .i64 x2)).setCell ⟨wr.heap.size, 3, none⟩ (.int .i64 x3)) = V at hBV ⊢; clear bB b5 c0 c1 c2 c3 f1 k0 k1 k2 k3 l0 l1 l2 l3)
        all_goals
          have HS5 := Lib.hid (HS.out.below hBV.out)
          have hs9 := hBV.out.size
          clear hBV
          go_wp2_with (first | (at_builtin; refine wpList_append_own_at _ rfl _ _ 49 rfl (w.heap.size + 1) 3 i0 (.int .i64 0) 1 8 Try.underlying49 hi hz0 hz1 hz2 rfl (by decide) _ Pp.length (Pp.map vI) rfl (HS5.out.below (below_al (Below.refl _ _) _)).own ⟨V.heap.size, 0, none⟩ 1 1 [.int .i64 D] rfl rfl (cell_oneI _ _ _ (by simp)) (by simp [Value.oneCell']) (by unfold maxLen; omega) (by omega) (by have := HS5.out.lt; have := HS5.out.only.size; simp at *; omega) ?_; intro v' w7 hown' hgrow _ hat; have HS7 := Lib.hid ((HS5.out.below (below_al (Below.refl _ _) _)).app hown' hgrow hat); clear hown' hgrow hat))
          go_roundw
          case rel => exact ⟨k + 1, by omega, by go_num, (by rw [HTK.out]; exact HS7)⟩
          case measure => simp [intOf]; omega
      · obtain rfl : k = t.length := by omega
        rw [List.take_length] at HS
        have HO := Lib.hid HS.out.own
        go_wp2_with fail
        go_ret2
        exact ⟨_, rfl, (ints_rowS HO.out rfl).wide (Nat.le_succ _) (Nat.le_refl _), hbw⟩
end Go.Proofs.Ytpngmheflpbnbaa
