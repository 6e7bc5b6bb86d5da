/- Rules and schedules, the program's: isSeries, keyOf, isBefore, IsRule, IsSchedule. -/
import Derived.Test.YtedckfbjhhabgaaSlRu
import Derived.Lib.QuietBelow
import Derived.BigQuiet
import Derived.WalkSmall
namespace Go.Proofs.Ytedckfbjhhabgaa
set_option linter.unusedVariables false
open Go.RowKit Go.Sort

theorem implIsSeries_any (n : Int) (w : World) : Calls Try.prog 84 #[.int .i64 n] w fun e w' => e = .returned (.bool (decide (1 ≤ n ∧ n ≤ 99))) ∧ w' = w := by
  by_cases h1 : 1 ≤ n
  · go_enter Try.func84, Try.ntmps84
    go_wp2
    go_ret
    exact ⟨ret_bool (by first | (simp; done) | (simp; omega) | (rw [Bool.eq_iff_iff]; simp; omega)), rfl⟩
  · go_enter Try.func84, Try.ntmps84
    go_wp2
    go_ret
    exact ⟨ret_bool (by first | (simp; done) | (simp; omega) | (rw [Bool.eq_iff_iff]; simp; omega)), rfl⟩

theorem keyOf_any (x : Ru) (w : World) : Calls Try.prog 88 #[.agg #[.int .i64 x.series, .int .i64 x.event, .int .i64 x.days, .int .i64 x.act]] w fun e w' => e = .returned (.agg #[.int .i64 x.series, .int .i64 x.event]) ∧ Below w.heap.size w w' := by
  obtain ⟨x0, x1, x2, x3⟩ := x
  simp only
  go_enter Try.func88, Try.ntmps88
  go_wp2_with fail
  refine bodyPost_ret (v := .agg #[.int .i64 x0, .int .i64 x1]) (by simp [results, Try.results88, go_sem]) rfl ⟨rfl, ?_⟩
  exact below_al (below_al (Below.refl _ _) _) _

theorem isBefore_any (a b : Ru) (w : World) : Calls Try.prog 87 #[.agg #[.int .i64 a.series, .int .i64 a.event], .agg #[.int .i64 b.series, .int .i64 b.event]] w fun e w' => e = .returned (.bool (bef a b)) ∧ Below w.heap.size w w' := by
  obtain ⟨x0, x1, x2, x3⟩ := a
  obtain ⟨y0, y1, y2, y3⟩ := b
  simp only [bef]
  by_cases h2 : x0 = y0
  · have e2 : (x0 != y0) = false := by simp [h2]
    have H2 := Lib.hid h2
    clear h2
    go_enter Try.func87, Try.ntmps87
    go_wp2_with fail
    go_ret
    exact ⟨ret_bool (by have := H2.out; apply decide_eq_decide.2; omega), below_al (below_al (Below.refl _ _) _) _⟩
  · have e2 : (x0 != y0) = true := by simp [h2]
    have H2 := Lib.hid h2
    clear h2
    go_enter Try.func87, Try.ntmps87
    go_wp2_with fail
    go_ret
    exact ⟨ret_bool (by have := H2.out; apply decide_eq_decide.2; omega), below_al (below_al (Below.refl _ _) _) _⟩

theorem implIsAct_any (n : Int) (w : World) : Calls Try.prog 94 #[.int .i64 n] w fun e w' => e = .returned (.bool (decide (1 ≤ n ∧ n ≤ 3))) ∧ w' = w := by
  by_cases h1 : 1 ≤ n
  · by_cases h2 : n ≤ 3
    · go_enter Try.func94, Try.ntmps94
      go_wp2
      go_ret
      exact ⟨ret_bool (by simp; omega), rfl⟩
    · go_enter Try.func94, Try.ntmps94
      go_wp2
      go_ret
      exact ⟨ret_bool (by simp; omega), rfl⟩
  · go_enter Try.func94, Try.ntmps94
    go_wp2
    go_ret
    exact ⟨ret_bool (by simp; omega), rfl⟩

set_option maxHeartbeats 2000000 in
theorem implIsRule_any (x : Ru) (w : World) : Calls Try.prog 86 #[.agg #[.int .i64 x.series, .int .i64 x.event, .int .i64 x.days, .int .i64 x.act]] w fun e w' => e = .returned (.bool (isRu x)) ∧ Below w.heap.size w w' := by
  obtain ⟨x0, x1, x2, x3⟩ := x
  simp only
  obtain ⟨b0, h0⟩ : ∃ b, decide (1 ≤ x0 ∧ x0 ≤ 99) = b := ⟨_, rfl⟩
  obtain ⟨b5, h5⟩ : ∃ b, decide (1 ≤ x3 ∧ x3 ≤ 3) = b := ⟨_, rfl⟩
  have hr : isRu ⟨x0, x1, x2, x3⟩ = (b0 && (decide ((0 ≤ x1 ∧ x1 ≤ 9) ∧ (0 ≤ x2 ∧ x2 ≤ 20000)) && b5)) := by simp only [isRu]; rw [h0, h5]; cases b0 <;> cases b5 <;> simp
  rw [hr]
  have H0 := Lib.hid h0
  have H5 := Lib.hid h5
  clear h0 h5 hr
  cases b0
  · go_enter Try.func86, Try.ntmps86
    go_wp2_with (first | (go_at_call 84; refine (implIsSeries_any _ _).mono ?_; rw [H0.out]; rintro e w' ⟨rfl, rfl⟩) | (go_at_call 94; refine (implIsAct_any _ _).mono ?_; rw [H5.out]; rintro e w' ⟨rfl, rfl⟩))
    go_ret
    exact ⟨ret_bool (by first | (simp; done) | (simp; omega) | (rw [Bool.eq_iff_iff]; simp; omega)), below_al (Below.refl _ _) _⟩
  · by_cases h1 : 0 ≤ x1
    · by_cases h2 : x1 ≤ 9
      · by_cases h3 : 0 ≤ x2
        · by_cases h4 : x2 ≤ 20000
          · go_enter Try.func86, Try.ntmps86
            go_wp2_with (first | (go_at_call 84; refine (implIsSeries_any _ _).mono ?_; rw [H0.out]; rintro e w' ⟨rfl, rfl⟩) | (go_at_call 94; refine (implIsAct_any _ _).mono ?_; rw [H5.out]; rintro e w' ⟨rfl, rfl⟩))
            go_ret
            exact ⟨ret_bool (by first | (simp; done) | (simp; omega) | (rw [Bool.eq_iff_iff]; simp; omega)), below_al (Below.refl _ _) _⟩
          · go_enter Try.func86, Try.ntmps86
            go_wp2_with (first | (go_at_call 84; refine (implIsSeries_any _ _).mono ?_; rw [H0.out]; rintro e w' ⟨rfl, rfl⟩) | (go_at_call 94; refine (implIsAct_any _ _).mono ?_; rw [H5.out]; rintro e w' ⟨rfl, rfl⟩))
            go_ret
            exact ⟨ret_bool (by first | (simp; done) | (simp; omega) | (rw [Bool.eq_iff_iff]; simp; omega)), below_al (Below.refl _ _) _⟩
        · go_enter Try.func86, Try.ntmps86
          go_wp2_with (first | (go_at_call 84; refine (implIsSeries_any _ _).mono ?_; rw [H0.out]; rintro e w' ⟨rfl, rfl⟩) | (go_at_call 94; refine (implIsAct_any _ _).mono ?_; rw [H5.out]; rintro e w' ⟨rfl, rfl⟩))
          go_ret
          exact ⟨ret_bool (by first | (simp; done) | (simp; omega) | (rw [Bool.eq_iff_iff]; simp; omega)), below_al (Below.refl _ _) _⟩
      · go_enter Try.func86, Try.ntmps86
        go_wp2_with (first | (go_at_call 84; refine (implIsSeries_any _ _).mono ?_; rw [H0.out]; rintro e w' ⟨rfl, rfl⟩) | (go_at_call 94; refine (implIsAct_any _ _).mono ?_; rw [H5.out]; rintro e w' ⟨rfl, rfl⟩))
        go_ret
        exact ⟨ret_bool (by first | (simp; done) | (simp; omega) | (rw [Bool.eq_iff_iff]; simp; omega)), below_al (Below.refl _ _) _⟩
    · go_enter Try.func86, Try.ntmps86
      go_wp2_with (first | (go_at_call 84; refine (implIsSeries_any _ _).mono ?_; rw [H0.out]; rintro e w' ⟨rfl, rfl⟩) | (go_at_call 94; refine (implIsAct_any _ _).mono ?_; rw [H5.out]; rintro e w' ⟨rfl, rfl⟩))
      go_ret
      exact ⟨ret_bool (by first | (simp; done) | (simp; omega) | (rw [Bool.eq_iff_iff]; simp; omega)), below_al (Below.refl _ _) _⟩

set_option maxRecDepth 20000 in
set_option maxHeartbeats 4000000 in
theorem implIsSchedule_any (v : Value) (t : List Ru) (w : World) (h : RowR 4 rRu w v t) :
    Calls Try.prog 63 #[v] w fun e w' => e = .returned (.bool (isSch t)) ∧ Below w.heap.size w w' := by
  have hcap := h.cap
  obtain ⟨a1, c1, hv, hl1, hm1, r1⟩ := h.rus
  subst hv
  have R1 := Lib.hid r1
  clear h r1
  unfold maxLen at hm1
  by_cases h8 : t.length ≤ 8
  · go_enter Try.func63, Try.ntmps63
    go_wp2_with fail
    go_loopw [12] (fun i wr => ∃ k : Nat, k ≤ t.length ∧ i = .int .i64 k ∧ Hid (upto (ruAtB t) k = true) ∧ wr.cell? ⟨w.heap.size, 0, none⟩ = some (.int .i64 (prevRu t k).series) ∧ wr.cell? ⟨w.heap.size, 1, none⟩ = some (.int .i64 (prevRu t k).event) ∧ wr.frozen? ⟨w.heap.size, 0, none⟩ = false ∧ wr.frozen? ⟨w.heap.size, 1, none⟩ = false ∧ w.heap.size < wr.heap.size ∧ Below w.heap.size w wr) (fun i _ => t.length - (intOf i).toNat)
    case atStart =>
      refine ⟨0, Nat.zero_le _, rfl, Lib.hid (by simp [upto]), ?_, ?_, ?_, ?_, ?_, ?_⟩
      · exact cell_new w _ _ 0 rfl
      · exact cell_new w _ _ 1 rfl
      · simp
      · simp
      · simp
      · exact below_al (Below.refl _ _) _
    case round =>
      obtain ⟨k, hk, rfl, HU, z0, z1, y0, y1, hwl, hb⟩ := hrel
      by_cases hlt : k < t.length
      · obtain ⟨b1, o1, hb1, rfl, e1⟩ := R1.out.resolve_left (fun e => by rw [e] at hlt; simp at hlt)
        obtain ⟨f, hx⟩ : ∃ s, t.getD k ruD = s := ⟨_, rfl⟩
        obtain ⟨q0, q1, q2, q3, hok⟩ := e1 k hlt
        rw [hx] at q0 q1 q2 q3 hok
        obtain ⟨x0, x1, x2, x3⟩ := f
        simp only at q0 q1 q2 q3
        have f0 := cell_kept q0 hb
        have f1 := cell_kept q1 hb
        have f2 := cell_kept q2 hb
        have f3 := cell_kept q3 hb
        have HX := Lib.hid hx
        have g0 : (0 : Int) ≤ (k : Int) := by omega
        have g1 : (k : Int) < (t.length : Int) := by omega
        obtain ⟨⟨p0, p1, p2, p3⟩, hp⟩ : ∃ s, prevRu t k = s := ⟨_, rfl⟩
        rw [hp] at z0 z1
        simp only at z0 z1
        obtain ⟨bF, hbF⟩ : ∃ b, isRu ⟨x0, x1, x2, x3⟩ = b := ⟨_, rfl⟩
        obtain ⟨bB, hbB⟩ : ∃ b, bef ⟨p0, p1, p2, p3⟩ ⟨x0, x1, x2, x3⟩ = b := ⟨_, rfl⟩
        have HF := Lib.hid hbF
        have HBB := Lib.hid hbB
        have HP := Lib.hid hp
        clear q0 q1 q2 q3 hok hx hp e1
        go_wp2_with fail
        generalize hWE : wr.alloc (.cells #[.int .i64 x0, .int .i64 x1, .int .i64 x2, .int .i64 x3] 73 (0, 0)) = wE
        have bE : Below wr.heap.size wr wE := by rw [← hWE]; exact below_al (Below.refl _ _) _
        have u0 : wE.cell? ⟨wr.heap.size, 0, none⟩ = some (.int .i64 x0) := by rw [← hWE]; exact cell_new wr _ _ 0 rfl
        have u1 : wE.cell? ⟨wr.heap.size, 1, none⟩ = some (.int .i64 x1) := by rw [← hWE]; exact cell_new wr _ _ 1 rfl
        have u2 : wE.cell? ⟨wr.heap.size, 2, none⟩ = some (.int .i64 x2) := by rw [← hWE]; exact cell_new wr _ _ 2 rfl
        have u3 : wE.cell? ⟨wr.heap.size, 3, none⟩ = some (.int .i64 x3) := by rw [← hWE]; exact cell_new wr _ _ 3 rfl
        have s0 : wE.cell? ⟨w.heap.size, 0, none⟩ = some (.int .i64 p0) := by rw [← hWE]; exact below_al_cell z0 _
        have s1 : wE.cell? ⟨w.heap.size, 1, none⟩ = some (.int .i64 p1) := by rw [← hWE]; exact below_al_cell z1 _
        have m0 := cell_regrown u0
        have m1 := cell_regrown u1
        have m2 := cell_regrown u2
        have m3 := cell_regrown u3
        have n0 := cell_regrown s0
        have n1 := cell_regrown s1
        have t0 : wE.frozen? ⟨w.heap.size, 0, none⟩ = false := by rw [← hWE]; exact frozen_kept y0 hwl (below_al (Below.refl _ _) _)
        have t1 : wE.frozen? ⟨w.heap.size, 1, none⟩ = false := by rw [← hWE]; exact frozen_kept y1 hwl (below_al (Below.refl _ _) _)
        have bwE : Below w.heap.size w wE := hb.trans (bE.mono hb.size)
        have hlE : wr.heap.size < wE.heap.size := by rw [← hWE]; simp
        have hc : ∀ d os, Calls Try.prog 86 #[.agg #[.int .i64 x0, .int .i64 x1, .int .i64 x2, .int .i64 x3]] (grow (redrawn wE d) os) fun e w'' => e = .returned (.bool bF) ∧ ∃ p : Regrown, w'' = grow (redrawn wE p.d) p.os := fun d os => Calls.regrown_of (by have := implIsRule_any ⟨x0, x1, x2, x3⟩ (grow (redrawn wE d) os); rwa [HF.out] at this)
        have hd : ∀ d os, Calls Try.prog 88 #[.agg #[.int .i64 x0, .int .i64 x1, .int .i64 x2, .int .i64 x3]] (grow (redrawn wE d) os) fun e w'' => e = .returned (.agg #[.int .i64 x0, .int .i64 x1]) ∧ ∃ p : Regrown, w'' = grow (redrawn wE p.d) p.os := fun d os => Calls.regrown_of (keyOf_any ⟨x0, x1, x2, x3⟩ (grow (redrawn wE d) os))
        have he : ∀ d os, Calls Try.prog 87 #[.agg #[.int .i64 p0, .int .i64 p1], .agg #[.int .i64 x0, .int .i64 x1]] (grow (redrawn wE d) os) fun e w'' => e = .returned (.bool bB) ∧ ∃ p : Regrown, w'' = grow (redrawn wE p.d) p.os := fun d os => Calls.regrown_of (by have := isBefore_any ⟨p0, p1, p2, p3⟩ ⟨x0, x1, x2, x3⟩ (grow (redrawn wE d) os); rwa [HBB.out] at this)
        clear hbF hbB
        cases bF
        · have hnt := notSch hlt (ruAt_no1 HX.out HF.out)
          have HNT := Lib.hid hnt
          clear hnt
          refine wp_region_quiet_below (by kernel_rfl) (by kernel_rfl) ?_
          repeat (go_big_quiet_step (first | exact hc _ _ | exact hd _ _ | exact he _ _))
          refine wpQuiet_nil ?_
          intro _ hw'
          obtain ⟨⟨dq, osq⟩, hw''⟩ := hw'
          subst hw''
          have bq := below_regrown wE dq osq
          generalize grow (redrawn wE dq) osq = w2 at bq ⊢
          go_wp2
          go_ret
          exact ⟨ret_bool HNT.out.symm, bwE.trans (bq.mono bwE.size)⟩
        · cases bB
          · have hnt := notSch hlt (ruAt_no2 HX.out (by rw [HP.out]; exact HBB.out))
            have HNT := Lib.hid hnt
            clear hnt
            refine wp_region_quiet_below (by kernel_rfl) (by kernel_rfl) ?_
            repeat (go_big_quiet_step (first | exact hc _ _ | exact hd _ _ | exact he _ _))
            refine wpQuiet_nil ?_
            intro _ hw'
            obtain ⟨⟨dq, osq⟩, hw''⟩ := hw'
            subst hw''
            have bq := below_regrown wE dq osq
            generalize grow (redrawn wE dq) osq = w2 at bq ⊢
            go_wp2
            go_ret
            exact ⟨ret_bool HNT.out.symm, bwE.trans (bq.mono bwE.size)⟩
          · have HU2 := Lib.hid (upto_succ HU.out (ruAt_yes HX.out HF.out (by rw [HP.out]; exact HBB.out)))
            refine wp_region_quiet_below (by kernel_rfl) (by kernel_rfl) ?_
            repeat (go_big_quiet_step (first | exact hc _ _ | exact hd _ _ | exact he _ _))
            refine wpQuiet_nil ?_
            intro _ hw'
            obtain ⟨⟨dq, osq⟩, hw''⟩ := hw'
            subst hw''
            have bq := below_regrown wE dq osq
            have b2 := bwE.trans (bq.mono bwE.size)
            have l2 : w.heap.size < (grow (redrawn wE dq) osq).heap.size := Nat.lt_of_lt_of_le (Nat.lt_of_le_of_lt hb.size hlE) bq.size
            have i0 := cell_kept u0 bq
            have i1 := cell_kept u1 bq
            have i2 := cell_kept u2 bq
            have i3 := cell_kept u3 bq
            have j0 := cell_kept s0 bq
            have j1 := cell_kept s1 bq
            have k0 := frozen_kept t0 (Nat.lt_of_le_of_lt hb.size hlE) bq
            have k1 := frozen_kept t1 (Nat.lt_of_le_of_lt hb.size hlE) bq
            generalize grow (redrawn wE dq) osq = w2 at *
            clear m0 m1 m2 m3 n0 n1 hc hd he u0 u1 u2 u3 s0 s1 t0 t1 bq bE bwE f0 f1 f2 f3 z0 z1 y0 y1 hWE
            go_wp2_with (first | (go_at_call 88; refine (keyOf_any ⟨x0, x1, x2, x3⟩ _).mono ?_; rintro e w3 ⟨rfl, b3⟩; have r0 := cell_kept j0 b3; have r1 := cell_kept j1 b3; have t0 := frozen_kept k0 l2 b3; have t1 := frozen_kept k1 l2 b3; have b23 := below_chain b2 b3; have l3 := Nat.lt_of_lt_of_le l2 b3.size))
            go_roundw
            case rel =>
              have e0 : prevRu t (k + 1) = ⟨x0, x1, x2, x3⟩ := HX.out
              refine ⟨k + 1, by omega, by go_num, HU2, ?_, ?_, ?_, ?_, ?_, ?_⟩
              · rw [e0, cellset_other _ (by simp), cellset_same _ r0]
              · rw [e0, cellset_same (u := .int .i64 p1) _ (by rw [cellset_other _ (by simp)]; exact r1)]
              · rw [World.frozen?_setCell, World.frozen?_setCell]; exact t0
              · rw [World.frozen?_setCell, World.frozen?_setCell]; exact t1
              · simpa [World.setCell] using l3
              · exact (b23.setCell (Nat.le_refl _) _).setCell (Nat.le_refl _) _
            case measure => simp [intOf]; omega
      · obtain rfl : k = t.length := by omega
        have HS := Lib.hid (sch_all h8 HU.out)
        go_wp2
        go_ret
        exact ⟨ret_bool HS.out.symm, hb⟩
  · have HN := Lib.hid (sch_long h8)
    go_enter Try.func63, Try.ntmps63
    go_wp2
    go_ret
    exact ⟨ret_bool HN.out.symm, Below.refl _ _⟩
end Go.Proofs.Ytedckfbjhhabgaa
