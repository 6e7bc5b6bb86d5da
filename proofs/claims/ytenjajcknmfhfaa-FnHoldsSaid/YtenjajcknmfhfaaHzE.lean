/- RuI, RuForI, PerD, PerP, SerIn, PerI, Ho6I, in one text. -/
import Derived.Test.YtenjajcknmfhfaaHzB
import Derived.Lib.QuietBelow
import Derived.BigQuiet
import Derived.WalkSmall
import Derived.Test.YtenjajcknmfhfaaHzC
import Derived.Test.YtenjajcknmfhfaaPerM
import Derived.Test.YtenjajcknmfhfaaIsRecI
import Derived.Test.YtenjajcknmfhfaaInSer1
import Derived.Maps.Own
import Derived.Maps.OwnSet
import Derived.Test.YtenjajcknmfhfaaHzD
import Derived.ScopeJumps
import Derived.BigRegion
import Derived.Test.YtenjajcknmfhfaaShelf
import Derived.Lib.OwnBridge
import Derived.Test.YtenjajcknmfhfaaDayI
import Derived.Test.YtenjajcknmfhfaaAdd
namespace Go.Proofs.Ytenjajcknmfhfaa
set_option linter.unusedVariables false
open Go.RowKit Go.Sort

theorem implIsSeries_any (n : Int) (w : World) : Calls Try.prog 90 #[.int .i64 n] w fun e w' => e = .returned (.bool (decide (1 ≤ n ∧ n ≤ 99))) ∧ w' = w := by
  by_cases h1 : 1 ≤ n
  · go_enter Try.func90, Try.ntmps90
    go_wp2
    go_ret
    exact ⟨ret_bool (by first | (simp; done) | (simp; omega) | (rw [Bool.eq_iff_iff]; simp; omega)), rfl⟩
  · go_enter Try.func90, Try.ntmps90
    go_wp2
    go_ret
    exact ⟨ret_bool (by first | (simp; done) | (simp; omega) | (rw [Bool.eq_iff_iff]; simp; omega)), rfl⟩

theorem keyOf_any (x : Ru) (w : World) : Calls Try.prog 145 #[.agg #[.int .i64 x.series, .int .i64 x.event, .int .i64 x.days, .int .i64 x.act]] w fun e w' => e = .returned (.agg #[.int .i64 x.series, .int .i64 x.event]) ∧ Below w.heap.size w w' := by
  obtain ⟨x0, x1, x2, x3⟩ := x
  simp only
  go_enter Try.func145, Try.ntmps145
  go_wp2_with fail
  refine bodyPost_ret (v := .agg #[.int .i64 x0, .int .i64 x1]) (by simp [results, Try.results145, go_sem]) rfl ⟨rfl, ?_⟩
  exact below_al (below_al (Below.refl _ _) _) _

theorem isBefore_any (a b : Ru) (w : World) : Calls Try.prog 144 #[.agg #[.int .i64 a.series, .int .i64 a.event], .agg #[.int .i64 b.series, .int .i64 b.event]] w fun e w' => e = .returned (.bool (bef a b)) ∧ Below w.heap.size w w' := by
  obtain ⟨x0, x1, x2, x3⟩ := a
  obtain ⟨y0, y1, y2, y3⟩ := b
  simp only [bef]
  by_cases h2 : x0 = y0
  · have e2 : (x0 != y0) = false := by simp [h2]
    have H2 := Lib.hid h2
    clear h2
    go_enter Try.func144, Try.ntmps144
    go_wp2_with fail
    go_ret
    exact ⟨ret_bool (by have := H2.out; apply decide_eq_decide.2; omega), below_al (below_al (Below.refl _ _) _) _⟩
  · have e2 : (x0 != y0) = true := by simp [h2]
    have H2 := Lib.hid h2
    clear h2
    go_enter Try.func144, Try.ntmps144
    go_wp2_with fail
    go_ret
    exact ⟨ret_bool (by have := H2.out; apply decide_eq_decide.2; omega), below_al (below_al (Below.refl _ _) _) _⟩

theorem implIsAct_any (n : Int) (w : World) : Calls Try.prog 166 #[.int .i64 n] w fun e w' => e = .returned (.bool (decide (1 ≤ n ∧ n ≤ 3))) ∧ w' = w := by
  by_cases h1 : 1 ≤ n
  · by_cases h2 : n ≤ 3
    · go_enter Try.func166, Try.ntmps166
      go_wp2
      go_ret
      exact ⟨ret_bool (by simp; omega), rfl⟩
    · go_enter Try.func166, Try.ntmps166
      go_wp2
      go_ret
      exact ⟨ret_bool (by simp; omega), rfl⟩
  · go_enter Try.func166, Try.ntmps166
    go_wp2
    go_ret
    exact ⟨ret_bool (by simp; omega), rfl⟩

set_option maxHeartbeats 2000000 in
theorem implIsRule_any (x : Ru) (w : World) : Calls Try.prog 143 #[.agg #[.int .i64 x.series, .int .i64 x.event, .int .i64 x.days, .int .i64 x.act]] w fun e w' => e = .returned (.bool (isRu x)) ∧ Below w.heap.size w w' := by
  obtain ⟨x0, x1, x2, x3⟩ := x
  simp only
  obtain ⟨b0, h0⟩ : ∃ b, decide (1 ≤ x0 ∧ x0 ≤ 99) = b := ⟨_, rfl⟩
  obtain ⟨b5, h5⟩ : ∃ b, decide (1 ≤ x3 ∧ x3 ≤ 3) = b := ⟨_, rfl⟩
  have hr : isRu ⟨x0, x1, x2, x3⟩ = (b0 && (decide ((0 ≤ x1 ∧ x1 ≤ 9) ∧ (0 ≤ x2 ∧ x2 ≤ 20000)) && b5)) := by simp only [isRu]; rw [h0, h5]; cases b0 <;> cases b5 <;> simp
  rw [hr]
  have H0 := Lib.hid h0
  have H5 := Lib.hid h5
  clear h0 h5 hr
  cases b0
  · go_enter Try.func143, Try.ntmps143
    go_wp2_with (first | (go_at_call 90; refine (implIsSeries_any _ _).mono ?_; rw [H0.out]; rintro e w' ⟨rfl, rfl⟩) | (go_at_call 166; refine (implIsAct_any _ _).mono ?_; rw [H5.out]; rintro e w' ⟨rfl, rfl⟩))
    go_ret
    exact ⟨ret_bool (by first | (simp; done) | (simp; omega) | (rw [Bool.eq_iff_iff]; simp; omega)), below_al (Below.refl _ _) _⟩
  · by_cases h1 : 0 ≤ x1
    · by_cases h2 : x1 ≤ 9
      · by_cases h3 : 0 ≤ x2
        · by_cases h4 : x2 ≤ 20000
          · go_enter Try.func143, Try.ntmps143
            go_wp2_with (first | (go_at_call 90; refine (implIsSeries_any _ _).mono ?_; rw [H0.out]; rintro e w' ⟨rfl, rfl⟩) | (go_at_call 166; refine (implIsAct_any _ _).mono ?_; rw [H5.out]; rintro e w' ⟨rfl, rfl⟩))
            go_ret
            exact ⟨ret_bool (by first | (simp; done) | (simp; omega) | (rw [Bool.eq_iff_iff]; simp; omega)), below_al (Below.refl _ _) _⟩
          · go_enter Try.func143, Try.ntmps143
            go_wp2_with (first | (go_at_call 90; refine (implIsSeries_any _ _).mono ?_; rw [H0.out]; rintro e w' ⟨rfl, rfl⟩) | (go_at_call 166; refine (implIsAct_any _ _).mono ?_; rw [H5.out]; rintro e w' ⟨rfl, rfl⟩))
            go_ret
            exact ⟨ret_bool (by first | (simp; done) | (simp; omega) | (rw [Bool.eq_iff_iff]; simp; omega)), below_al (Below.refl _ _) _⟩
        · go_enter Try.func143, Try.ntmps143
          go_wp2_with (first | (go_at_call 90; refine (implIsSeries_any _ _).mono ?_; rw [H0.out]; rintro e w' ⟨rfl, rfl⟩) | (go_at_call 166; refine (implIsAct_any _ _).mono ?_; rw [H5.out]; rintro e w' ⟨rfl, rfl⟩))
          go_ret
          exact ⟨ret_bool (by first | (simp; done) | (simp; omega) | (rw [Bool.eq_iff_iff]; simp; omega)), below_al (Below.refl _ _) _⟩
      · go_enter Try.func143, Try.ntmps143
        go_wp2_with (first | (go_at_call 90; refine (implIsSeries_any _ _).mono ?_; rw [H0.out]; rintro e w' ⟨rfl, rfl⟩) | (go_at_call 166; refine (implIsAct_any _ _).mono ?_; rw [H5.out]; rintro e w' ⟨rfl, rfl⟩))
        go_ret
        exact ⟨ret_bool (by first | (simp; done) | (simp; omega) | (rw [Bool.eq_iff_iff]; simp; omega)), below_al (Below.refl _ _) _⟩
    · go_enter Try.func143, Try.ntmps143
      go_wp2_with (first | (go_at_call 90; refine (implIsSeries_any _ _).mono ?_; rw [H0.out]; rintro e w' ⟨rfl, rfl⟩) | (go_at_call 166; refine (implIsAct_any _ _).mono ?_; rw [H5.out]; rintro e w' ⟨rfl, rfl⟩))
      go_ret
      exact ⟨ret_bool (by first | (simp; done) | (simp; omega) | (rw [Bool.eq_iff_iff]; simp; omega)), below_al (Below.refl _ _) _⟩

set_option maxRecDepth 20000 in
set_option maxHeartbeats 4000000 in
theorem implIsSchedule_any (v : Value) (t : List Ru) (w : World) (h : RowR 4 rRu w v t) :
    Calls Try.prog 89 #[v] w fun e w' => e = .returned (.bool (isSch t)) ∧ Below w.heap.size w w' := by
  have hcap := h.cap
  obtain ⟨a1, c1, hv, hl1, hm1, r1⟩ := h.rus
  subst hv
  have R1 := Lib.hid r1
  clear h r1
  unfold maxLen at hm1
  by_cases h8 : t.length ≤ 8
  · go_enter Try.func89, Try.ntmps89
    go_wp2_with fail
    go_loopw [12] (fun i wr => ∃ k : Nat, k ≤ t.length ∧ i = .int .i64 k ∧ Hid (upto (ruAtB t) k = true) ∧ wr.cell? ⟨w.heap.size, 0, none⟩ = some (.int .i64 (prevRu t k).series) ∧ wr.cell? ⟨w.heap.size, 1, none⟩ = some (.int .i64 (prevRu t k).event) ∧ wr.frozen? ⟨w.heap.size, 0, none⟩ = false ∧ wr.frozen? ⟨w.heap.size, 1, none⟩ = false ∧ w.heap.size < wr.heap.size ∧ Below w.heap.size w wr) (fun i _ => t.length - (intOf i).toNat)
    case atStart =>
      refine ⟨0, Nat.zero_le _, rfl, Lib.hid (by simp [upto]), ?_, ?_, ?_, ?_, ?_, ?_⟩
      · exact cell_new w _ _ 0 rfl
      · exact cell_new w _ _ 1 rfl
      · simp
      · simp
      · simp
      · exact below_al (Below.refl _ _) _
    case round =>
      obtain ⟨k, hk, rfl, HU, z0, z1, y0, y1, hwl, hb⟩ := hrel
      by_cases hlt : k < t.length
      · obtain ⟨b1, o1, hb1, rfl, e1⟩ := R1.out.resolve_left (fun e => by rw [e] at hlt; simp at hlt)
        obtain ⟨f, hx⟩ : ∃ s, t.getD k ruD = s := ⟨_, rfl⟩
        obtain ⟨q0, q1, q2, q3, hok⟩ := e1 k hlt
        rw [hx] at q0 q1 q2 q3 hok
        obtain ⟨x0, x1, x2, x3⟩ := f
        simp only at q0 q1 q2 q3
        have f0 := cell_kept q0 hb
        have f1 := cell_kept q1 hb
        have f2 := cell_kept q2 hb
        have f3 := cell_kept q3 hb
        have HX := Lib.hid hx
        have g0 : (0 : Int) ≤ (k : Int) := by omega
        have g1 : (k : Int) < (t.length : Int) := by omega
        obtain ⟨⟨p0, p1, p2, p3⟩, hp⟩ : ∃ s, prevRu t k = s := ⟨_, rfl⟩
        rw [hp] at z0 z1
        simp only at z0 z1
        obtain ⟨bF, hbF⟩ : ∃ b, isRu ⟨x0, x1, x2, x3⟩ = b := ⟨_, rfl⟩
        obtain ⟨bB, hbB⟩ : ∃ b, bef ⟨p0, p1, p2, p3⟩ ⟨x0, x1, x2, x3⟩ = b := ⟨_, rfl⟩
        have HF := Lib.hid hbF
        have HBB := Lib.hid hbB
        have HP := Lib.hid hp
        clear q0 q1 q2 q3 hok hx hp e1
        go_wp2_with fail
        generalize hWE : wr.alloc (.cells #[.int .i64 x0, .int .i64 x1, .int .i64 x2, .int .i64 x3] 56 (0, 0)) = wE
        have bE : Below wr.heap.size wr wE := by rw [← hWE]; exact below_al (Below.refl _ _) _
        have u0 : wE.cell? ⟨wr.heap.size, 0, none⟩ = some (.int .i64 x0) := by rw [← hWE]; exact cell_new wr _ _ 0 rfl
        have u1 : wE.cell? ⟨wr.heap.size, 1, none⟩ = some (.int .i64 x1) := by rw [← hWE]; exact cell_new wr _ _ 1 rfl
        have u2 : wE.cell? ⟨wr.heap.size, 2, none⟩ = some (.int .i64 x2) := by rw [← hWE]; exact cell_new wr _ _ 2 rfl
        have u3 : wE.cell? ⟨wr.heap.size, 3, none⟩ = some (.int .i64 x3) := by rw [← hWE]; exact cell_new wr _ _ 3 rfl
        have s0 : wE.cell? ⟨w.heap.size, 0, none⟩ = some (.int .i64 p0) := by rw [← hWE]; exact below_al_cell z0 _
        have s1 : wE.cell? ⟨w.heap.size, 1, none⟩ = some (.int .i64 p1) := by rw [← hWE]; exact below_al_cell z1 _
        have m0 := cell_regrown u0
        have m1 := cell_regrown u1
        have m2 := cell_regrown u2
        have m3 := cell_regrown u3
        have n0 := cell_regrown s0
        have n1 := cell_regrown s1
        have t0 : wE.frozen? ⟨w.heap.size, 0, none⟩ = false := by rw [← hWE]; exact frozen_kept y0 hwl (below_al (Below.refl _ _) _)
        have t1 : wE.frozen? ⟨w.heap.size, 1, none⟩ = false := by rw [← hWE]; exact frozen_kept y1 hwl (below_al (Below.refl _ _) _)
        have bwE : Below w.heap.size w wE := hb.trans (bE.mono hb.size)
        have hlE : wr.heap.size < wE.heap.size := by rw [← hWE]; simp
        have hc : ∀ d os, Calls Try.prog 143 #[.agg #[.int .i64 x0, .int .i64 x1, .int .i64 x2, .int .i64 x3]] (grow (redrawn wE d) os) fun e w'' => e = .returned (.bool bF) ∧ ∃ p : Regrown, w'' = grow (redrawn wE p.d) p.os := fun d os => Calls.regrown_of (by have := implIsRule_any ⟨x0, x1, x2, x3⟩ (grow (redrawn wE d) os); rwa [HF.out] at this)
        have hd : ∀ d os, Calls Try.prog 145 #[.agg #[.int .i64 x0, .int .i64 x1, .int .i64 x2, .int .i64 x3]] (grow (redrawn wE d) os) fun e w'' => e = .returned (.agg #[.int .i64 x0, .int .i64 x1]) ∧ ∃ p : Regrown, w'' = grow (redrawn wE p.d) p.os := fun d os => Calls.regrown_of (keyOf_any ⟨x0, x1, x2, x3⟩ (grow (redrawn wE d) os))
        have he : ∀ d os, Calls Try.prog 144 #[.agg #[.int .i64 p0, .int .i64 p1], .agg #[.int .i64 x0, .int .i64 x1]] (grow (redrawn wE d) os) fun e w'' => e = .returned (.bool bB) ∧ ∃ p : Regrown, w'' = grow (redrawn wE p.d) p.os := fun d os => Calls.regrown_of (by have := isBefore_any ⟨p0, p1, p2, p3⟩ ⟨x0, x1, x2, x3⟩ (grow (redrawn wE d) os); rwa [HBB.out] at this)
        clear hbF hbB
        cases bF
        · have hnt := notSch hlt (ruAt_no1 HX.out HF.out)
          have HNT := Lib.hid hnt
          clear hnt
          refine wp_region_quiet_below (by kernel_rfl) (by kernel_rfl) ?_
          repeat (go_big_quiet_step (first | exact hc _ _ | exact hd _ _ | exact he _ _))
          refine wpQuiet_nil ?_
          intro _ hw'
          obtain ⟨⟨dq, osq⟩, hw''⟩ := hw'
          subst hw''
          have bq := below_regrown wE dq osq
          generalize grow (redrawn wE dq) osq = w2 at bq ⊢
          go_wp2
          go_ret
          exact ⟨ret_bool HNT.out.symm, bwE.trans (bq.mono bwE.size)⟩
        · cases bB
          · have hnt := notSch hlt (ruAt_no2 HX.out (by rw [HP.out]; exact HBB.out))
            have HNT := Lib.hid hnt
            clear hnt
            refine wp_region_quiet_below (by kernel_rfl) (by kernel_rfl) ?_
            repeat (go_big_quiet_step (first | exact hc _ _ | exact hd _ _ | exact he _ _))
            refine wpQuiet_nil ?_
            intro _ hw'
            obtain ⟨⟨dq, osq⟩, hw''⟩ := hw'
            subst hw''
            have bq := below_regrown wE dq osq
            generalize grow (redrawn wE dq) osq = w2 at bq ⊢
            go_wp2
            go_ret
            exact ⟨ret_bool HNT.out.symm, bwE.trans (bq.mono bwE.size)⟩
          · have HU2 := Lib.hid (upto_succ HU.out (ruAt_yes HX.out HF.out (by rw [HP.out]; exact HBB.out)))
            refine wp_region_quiet_below (by kernel_rfl) (by kernel_rfl) ?_
            repeat (go_big_quiet_step (first | exact hc _ _ | exact hd _ _ | exact he _ _))
            refine wpQuiet_nil ?_
            intro _ hw'
            obtain ⟨⟨dq, osq⟩, hw''⟩ := hw'
            subst hw''
            have bq := below_regrown wE dq osq
            have b2 := bwE.trans (bq.mono bwE.size)
            have l2 : w.heap.size < (grow (redrawn wE dq) osq).heap.size := Nat.lt_of_lt_of_le (Nat.lt_of_le_of_lt hb.size hlE) bq.size
            have i0 := cell_kept u0 bq
            have i1 := cell_kept u1 bq
            have i2 := cell_kept u2 bq
            have i3 := cell_kept u3 bq
            have j0 := cell_kept s0 bq
            have j1 := cell_kept s1 bq
            have k0 := frozen_kept t0 (Nat.lt_of_le_of_lt hb.size hlE) bq
            have k1 := frozen_kept t1 (Nat.lt_of_le_of_lt hb.size hlE) bq
            generalize grow (redrawn wE dq) osq = w2 at *
            clear m0 m1 m2 m3 n0 n1 hc hd he u0 u1 u2 u3 s0 s1 t0 t1 bq bE bwE f0 f1 f2 f3 z0 z1 y0 y1 hWE
            go_wp2_with (first | (go_at_call 145; refine (keyOf_any ⟨x0, x1, x2, x3⟩ _).mono ?_; rintro e w3 ⟨rfl, b3⟩; have r0 := cell_kept j0 b3; have r1 := cell_kept j1 b3; have t0 := frozen_kept k0 l2 b3; have t1 := frozen_kept k1 l2 b3; have b23 := below_chain b2 b3; have l3 := Nat.lt_of_lt_of_le l2 b3.size))
            go_roundw
            case rel =>
              have e0 : prevRu t (k + 1) = ⟨x0, x1, x2, x3⟩ := HX.out
              refine ⟨k + 1, by omega, by go_num, HU2, ?_, ?_, ?_, ?_, ?_, ?_⟩
              · rw [e0, cellset_other _ (by simp), cellset_same _ r0]
              · rw [e0, cellset_same (u := .int .i64 p1) _ (by rw [cellset_other _ (by simp)]; exact r1)]
              · rw [World.frozen?_setCell, World.frozen?_setCell]; exact t0
              · rw [World.frozen?_setCell, World.frozen?_setCell]; exact t1
              · simpa [World.setCell] using l3
              · exact (b23.setCell (Nat.le_refl _) _).setCell (Nat.le_refl _) _
            case measure => simp [intOf]; omega
      · obtain rfl : k = t.length := by omega
        have HS := Lib.hid (sch_all h8 HU.out)
        go_wp2
        go_ret
        exact ⟨ret_bool HS.out.symm, hb⟩
  · have HN := Lib.hid (sch_long h8)
    go_enter Try.func89, Try.ntmps89
    go_wp2
    go_ret
    exact ⟨ret_bool HN.out.symm, Below.refl _ _⟩
end Go.Proofs.Ytenjajcknmfhfaa

namespace Go.Proofs.Ytenjajcknmfhfaa
set_option linter.unusedVariables false
open Go.RowKit Go.Sort

set_option maxRecDepth 20000 in
set_option maxHeartbeats 2000000 in
theorem implRulesFor_any (v : Value) (t : List Ru) (x : Int) (w : World) (h : RowR 4 rRu w v t) (hn : t.length ≤ 1048576) (xs : List Ru) (b : Bool) (hres : rufRes t x = (xs, b)) :
    Calls Try.prog 23 #[v, .int .i64 x] w fun e w' => ∃ v', e = .returned (.tuple #[v', .bool b]) ∧ RusO w.heap.size w'.heap.size w' v' xs ∧ Below w.heap.size w w' := by
  obtain ⟨i0, hi, hz0, hz1, hz2⟩ := info_parts Try.info_ru
  have H := Lib.hid h
  have hok := h.rus_ok
  have HOK := Lib.hid hok
  obtain ⟨a1, c1, hv, hl1, hm1, r1⟩ := h.rus
  subst hv
  have R1 := Lib.hid r1
  unfold maxLen at hm1
  obtain ⟨bs, hs⟩ : ∃ b, isSch t = b := ⟨_, rfl⟩
  obtain ⟨bx, hx⟩ : ∃ b, decide (1 ≤ x ∧ x ≤ 99) = b := ⟨_, rfl⟩
  unfold rufRes at hres
  rw [hs, hx] at hres
  have HS := Lib.hid hs
  have HX := Lib.hid hx
  clear h hs hx r1 hok
  cases bs
  · rw [if_neg (by simp)] at hres
    obtain ⟨rfl, rfl⟩ := Prod.mk.inj hres
    clear hres
    go_enter Try.func23, Try.ntmps23
    go_wp2_with (first | (go_at_call 89; refine (implIsSchedule_any _ t _ H.out).mono ?_; rw [HS.out]; rintro e w1 ⟨rfl, b1⟩))
    go_ret2
    exact ⟨_, rfl, RusO.nil _ _ _, b1⟩
  · cases bx
    · rw [if_neg (by simp)] at hres
      obtain ⟨rfl, rfl⟩ := Prod.mk.inj hres
      clear hres
      go_enter Try.func23, Try.ntmps23
      go_wp2_with (first | (go_at_call 89; refine (implIsSchedule_any _ t _ H.out).mono ?_; rw [HS.out]; rintro e w1 ⟨rfl, b1⟩) | (go_at_call 90; refine (implIsSeries_any _ _).mono ?_; rw [HX.out]; rintro e w' ⟨rfl, rfl⟩))
      go_ret2
      exact ⟨_, rfl, RusO.nil _ _ _, b1⟩
    · rw [if_pos (by simp)] at hres
      obtain ⟨rfl, rfl⟩ := Prod.mk.inj hres
      clear hres
      go_enter Try.func23, Try.ntmps23
      go_wp2_with (first | (go_at_call 89; refine (implIsSchedule_any _ t _ H.out).mono ?_; rw [HS.out]; rintro e w1 ⟨rfl, b1⟩) | (go_at_call 90; refine (implIsSeries_any _ _).mono ?_; rw [HX.out]; rintro e w' ⟨rfl, rfl⟩))
      go_loopw [6, 19] (fun o i wr => ∃ k : Nat, k ≤ t.length ∧ i = .int .i64 k ∧ wr.ownsRow w.heap.size 56 4 o (forRu (t.take k) x).length (((forRu (t.take k) x).map ruC).flatten) ∧ Below w.heap.size w wr) (fun _ i _ => t.length - (intOf i).toNat)
      case atStart => exact ⟨0, Nat.zero_le _, rfl, by simpa [forRu] using (RusO.nil w.heap.size w.heap.size _).1.1, b1⟩
      case round =>
        clear b1
        obtain ⟨k, hk, rfl, hO, hb⟩ := hrel
        by_cases hlt : k < t.length
        · obtain ⟨b1, o1, hb1, rfl, e1⟩ := R1.out.resolve_left (fun e => by rw [e] at hlt; simp at hlt)
          obtain ⟨q0, q1, q2, q3, hok⟩ := e1 k hlt
          have hsucc := forRu_succ (s := x) hlt
          obtain ⟨P, hP⟩ : ∃ P, forRu (t.take k) x = P := ⟨_, rfl⟩
          have hPl : P.length ≤ k := by
            rw [← hP]
            have := forRu_len (t.take k) x
            rw [List.length_take] at this
            omega
          rw [hP] at hO hsucc
          obtain ⟨⟨x0, x1, x2, x3⟩, hx⟩ : ∃ s, t.getD k ruD = s := ⟨_, rfl⟩
          rw [hx] at q0 q1 q2 q3 hsucc
          simp only at q0 q1 q2 q3 hsucc
          have f0 := cell_kept q0 hb
          have f1 := cell_kept q1 hb
          have f2 := cell_kept q2 hb
          have f3 := cell_kept q3 hb
          have HSU := Lib.hid hsucc
          have g0 : (0 : Int) ≤ (k : Int) := by omega
          have g1 : (k : Int) < (t.length : Int) := by omega
          have hsz := hb.size
          clear q0 q1 q2 q3 hok e1 hx hsucc hP
          by_cases he : x0 = x
          · have hq : (x0 == x) = true := by simp [he]
            have HSU2 := Lib.hid (HSU.out.trans (if_pos he))
            have hb2 := below_al hb (.cells #[.int .i64 x0, .int .i64 x1, .int .i64 x2, .int .i64 x3] 56 (0, 0))
            have hO2 := hO.alloc (.cells #[.int .i64 x0, .int .i64 x1, .int .i64 x2, .int .i64 x3] 56 (0, 0))
            clear he hO
            go_wp2_with (first | (at_builtin; refine wpList_append_own _ rfl _ _ 40 rfl w.heap.size 56 i0 (.agg #[.int .i64 0, .int .i64 0, .int .i64 0, .int .i64 0]) 4 32 Try.underlying40 hi hz0 hz1 hz2 rfl (by decide) _ _ _ rfl (hO2.alloc _) ⟨wr.heap.size + 1, 0, none⟩ 1 1 [.int .i64 x0, .int .i64 x1, .int .i64 x2, .int .i64 x3] rfl rfl (cells4_new' _ _ _ _ _ _ (by simp)) (by simp [Value.oneCell']) (by unfold maxLen; omega) (by omega) (by simp; omega) ?_; intro v' w4 hown' hgrow _))
            have HOWN := Lib.hid hown'
            have HB := Lib.hid (below_app hb2 (Nat.le_refl _) hO2 hgrow)
            clear hown' hgrow hO2
            go_wp2_with fail
            go_roundw
            case rel => exact ⟨k + 1, by omega, by go_num, (by rw [HSU2.out]; simpa [ruC] using HOWN.out), HB.out⟩
            case measure => simp [intOf]; omega
          · have hq : (x0 == x) = false := by simp [he]
            have HSU2 := Lib.hid (HSU.out.trans (if_neg he))
            have HO := Lib.hid (hO.alloc (.cells #[.int .i64 x0, .int .i64 x1, .int .i64 x2, .int .i64 x3] 56 (0, 0)))
            clear he hO
            go_wp2_with fail
            go_roundw
            case rel => exact ⟨k + 1, by omega, by go_num, (by rw [HSU2.out]; exact HO.out), below_al hb _⟩
            case measure => simp [intOf]; omega
        · obtain rfl : k = t.length := by omega
          rw [List.take_length] at hO
          have HF := Lib.hid (RusO.of_row hO rfl (fun f hf => HOK.out f (forRu_mem hf).1))
          clear hO
          go_wp2_with fail
          go_ret2
          exact ⟨_, rfl, HF.out, hb⟩
end Go.Proofs.Ytenjajcknmfhfaa

namespace Go.Proofs.Ytenjajcknmfhfaa
set_option linter.unusedVariables false
open Go.RowKit Go.Sort Go.Maps

structure LOK (D : DataW Unit) (made : Int) (es : List Ev) : Prop where
  tidy : Tidy D
  has_ : ∀ s : Int, has D (.int .i64 s) = (lookE made es s).isSome
  at_ : ∀ (s d : Int), lookE made es s = some d → D.atKey (.int .i64 s) (.lit (.int .i64 0)) = .lit (.int .i64 d)
theorem LOK.start (made : Int) : LOK (DataW.put (.map []) (.int .i64 0) (.lit (.int .i64 made))) made [] := by
  have hk : WideAt.IsKeyLit (.int .i64 0) := trivial
  have ht : Tidy (.map [] : DataW Unit) := tidy_empty
  refine ⟨ht.put hk _, fun s => ?_, fun s d h => ?_⟩
  · by_cases e : s = 0
    · subst e; rw [has_put_same ht.isMap hk]; rfl
    · rw [has_put_other (by simp; exact fun q => e q), has_eq]; simp [lookE, e]
  · by_cases e : s = 0
    · subst e
      simp [lookE] at h
      subst h
      exact atKey_put_same ht.isMap hk _ _
    · simp [lookE, e] at h
theorem LOK.put {D : DataW Unit} {made : Int} {es : List Ev} (h : LOK D made es) (e : Ev) : LOK (D.put (.int .i64 e.kind) (.lit (.int .i64 e.day))) made (es ++ [e]) := by
  have hk : WideAt.IsKeyLit (.int .i64 e.kind) := trivial
  refine ⟨h.tidy.put hk _, fun s => ?_, fun s d hd => ?_⟩
  · rw [lookE_snoc]
    by_cases q : e.kind = s
    · subst q; rw [has_put_same h.tidy.isMap hk, if_pos rfl]; rfl
    · rw [has_put_other (by simp; exact fun z => q z.symm), h.has_, if_neg q]
  · rw [lookE_snoc] at hd
    by_cases q : e.kind = s
    · subst q
      rw [if_pos rfl] at hd
      cases hd
      exact atKey_put_same h.tidy.isMap hk _ _
    · rw [if_neg q] at hd
      rw [atKey_put_other (by simp; exact fun z => q z.symm)]
      exact h.at_ s d hd
theorem LOK.day {D : DataW Unit} {r : Rec} (h : LOK D r.made r.evs) (hr : isRec r = true) (k : Int) : has D (.int .i64 k) = decide (0 ≤ dayOf r k) ∧ (0 ≤ dayOf r k → D.atKey (.int .i64 k) (.lit (.int .i64 0)) = .lit (.int .i64 (dayOf r k))) := by
  have h1 := lookE_dayOf hr k
  refine ⟨?_, fun h0 => ?_⟩
  · rw [h.has_, h1]
    by_cases q : dayOf r k < 0
    · rw [if_pos q, decide_eq_false (by omega)]; rfl
    · rw [if_neg q, decide_eq_true (by omega)]; rfl
  · exact h.at_ k _ (by rw [h1, if_neg (by omega)])

theorem wf_of_inI {n : Int} (h : inI n) : (Lit.int .i64 n).wf = true := by unfold inI at h; simp [Lit.wf, IntKind.min, IntKind.max, IntKind.signed, IntKind.bits]; omega
theorem key_day (s : Int) (h : inI s) : keyOf Try.prog 3 (.int .i64 s) = some (.int .i64 s) := keyOf_int_mk Try.underlying3 (wf_of_inI h)
abbrev DayS (w : World) (b n : Nat) (D : DataW Unit) : Prop := w.ownsMap Try.prog 3 (plainElem Try.prog 3) b n D
theorem zero_int (w : World) : (zeroValue 3).run Try.prog w = .ok (.int .i64 0) w := by kernel_rfl
theorem wpList_insert_own {H : Type} {P : Program} (w : World) {ops : Array Oper} {rest : List Oper} {o : Oper} {a : Act} {Q : Exit → Act → World → Prop}
    (hg : o.guard = none) (m x v : Operand) (t : TypeId) (hop : o.op = Op.insert t m x v)
    (k e : TypeId) (K : Keyed P k) (ht : P.underlying t = some (.map k e)) (R : Value → Option (DataW H × List MemPlace)) (b n : Nat) (D : DataW H)
    (hm : a.eval m = .map (some b)) (hown : w.ownsMap P k R b n D) (hn : n < maxLen) (key val : Value) (kl : Go.Lit) (hx : a.eval x = key) (hv : a.eval v = val) (hkey : keyOf P k key = some kl)
    (d : DataW H) (ps : List MemPlace) (hval : R val = some (d, ps))
    (hK : ∀ w', w'.ownsMap P k R b (n + 1) (D.put kl d) → w.grownBy w' (some b) → wpList P ops Q rest (a.put o.dst undef) w') :
    wpList P ops Q (o :: rest) a w := by
  refine wpList_plain hg fun K' hK' => ?_
  obtain ⟨w', hrun, r1, r2⟩ := hown.update K ht hn hkey hval
  unfold Oper.wp
  simp [execOp, hop, hm, hx, hv, hrun, Result.andThen]
  exact hK' _ _ (hK w' r1 r2)

def StartD (w : World) (r : Rec) (e : Ending) (w' : World) : Prop := ∃ b D, e = .returned (.map (some b)) ∧ w.heap.size ≤ b ∧ b < w'.heap.size ∧ DayS w' b (r.evs.length + 1) D ∧ LOK D r.made r.evs ∧ Below w.heap.size w w'
set_option maxRecDepth 20000 in
set_option maxHeartbeats 4000000 in
theorem startDays_any (v : Value) (r : Rec) (w : World) (h : RecV w v r) (hn : r.evs.length ≤ 1048576) :
    Calls Try.prog 178 #[v] w (StartD w r) := by
  obtain ⟨s, rfl, h1, hok⟩ := h
  obtain ⟨a1, c1, rfl, hl1, hm1, r1⟩ := h1.evs
  have R1 := Lib.hid r1
  clear h1 r1
  unfold maxLen at hm1
  have hmm := @run_makeMap Try.prog
  have him : inI r.made := hok.2.2
  have HK0 := Lib.hid (key_day 0 (by simp [inI]))
  have HVM := Lib.hid (plainElem_int (H := Unit) Try.underlying3 (wf_of_inI him))
  have M0 : Hid (DayS ((w.alloc (.cells #[.int .i64 r.id, .int .i64 r.series, .int .i64 r.made, .slice a1 r.evs.length c1] 63 (0, 0))).alloc (.map #[] 0)) (w.heap.size + 1) 0 (.map [])) :=
    Lib.hid (by simpa using World.ownsMap_made (w.alloc (.cells #[.int .i64 r.id, .int .i64 r.series, .int .i64 r.made, .slice a1 r.evs.length c1] 63 (0, 0))) Try.prog 3 (plainElem (H := Unit) Try.prog 3))
  have c3 := cell_new w #[.int .i64 r.id, .int .i64 r.series, .int .i64 r.made, .slice a1 r.evs.length c1] 63 3 (v := .slice a1 r.evs.length c1) rfl
  have c2 := cell_new w #[.int .i64 r.id, .int .i64 r.series, .int .i64 r.made, .slice a1 r.evs.length c1] 63 2 (v := .int .i64 r.made) rfl
  clear him hok
  go_enter Try.func178, Try.ntmps178
  go_wp2_with (first | (refine wpList_insert_own _ rfl _ _ _ 115 rfl 3 3 (int_keyed Try.underlying3) Try.underlying115 (plainElem (H := Unit) Try.prog 3) (w.heap.size + 1) 0 (.map []) rfl M0.out (by unfold maxLen; omega) (.int .i64 0) (.int .i64 r.made) (.int .i64 0) rfl rfl HK0.out (.lit (.int .i64 r.made)) [] HVM.out ?_; intro w2 hown2 hg2; have HM2 := Lib.hid hown2; have HG2 := Lib.hid hg2; have s2 := hg2.size; have p3 := hg2.cell (below_al_cell c3 (.map #[] 0)) (by simp); have bw2 := (below_al (below_al (Below.refl w.heap.size w) (.cells #[.int .i64 r.id, .int .i64 r.series, .int .i64 r.made, .slice a1 r.evs.length c1] 63 (0, 0))) (.map #[] 0)).grown hg2 (by simp; omega) (fun g e => by cases e; omega); simp at s2; clear hown2 hg2 M0 c3 c2))
  go_loopw [13] (fun i wr => ∃ (k : Nat) (D : DataW Unit), k ≤ r.evs.length ∧ i = .int .i64 k ∧ Hid (LOK D r.made (r.evs.take k)) ∧ Hid (DayS wr (w.heap.size + 1) (k + 1) D) ∧ Below w.heap.size w wr ∧ w.heap.size + 1 < wr.heap.size) (fun i _ => r.evs.length - (intOf i).toNat)
  case atStart => exact ⟨0, _, Nat.zero_le _, rfl, Lib.hid (by simpa using LOK.start r.made), HM2, bw2, by omega⟩
  case round =>
    clear HM2 HG2 bw2 s2
    obtain ⟨k, D, hk, rfl, HD, HM, hb, hmb⟩ := hrel
    by_cases hlt : k < r.evs.length
    · obtain ⟨b1, o1, hb1, rfl, e1⟩ := R1.out.resolve_left (fun e => by rw [e] at hlt; simp at hlt)
      obtain ⟨⟨x, y⟩, hx⟩ : ∃ s, r.evs.getD k evD = s := ⟨_, rfl⟩
      obtain ⟨q1, q2, hok⟩ := e1 k hlt
      rw [hx] at q1 q2 hok
      have f1 := cell_kept q1 hb
      have f2 := cell_kept q2 hb
      simp only at f1 f2
      have hix : inI x := hok.1
      have hiy : inI y := hok.2
      have htk : r.evs.take (k + 1) = r.evs.take k ++ [⟨x, y⟩] := by rw [List.take_succ_eq_append_getElem hlt, ← getD_lt hlt, hx]
      have HPUT := Lib.hid (HD.out.put ⟨x, y⟩)
      rw [← htk] at HPUT
      have HIN := Lib.hid (key_day x hix)
      have HVY := Lib.hid (plainElem_int (H := Unit) Try.underlying3 (wf_of_inI hiy))
      have g0 : (0 : Int) ≤ (k : Int) := by omega
      have g1 : (k : Int) < (r.evs.length : Int) := by omega
      clear q1 q2 hok e1 hx htk hix hiy
      go_wp2_with (first | (at_mapUpdate; refine wpList_mapUpdate_own _ rfl _ _ _ 115 rfl 3 3 (int_keyed Try.underlying3) Try.underlying115 (plainElem (H := Unit) Try.prog 3) (w.heap.size + 1) (k + 1) D rfl (HM.out.alloc _) (by unfold maxLen; omega) (.int .i64 x) (.int .i64 y) (.int .i64 x) rfl rfl HIN.out (.lit (.int .i64 y)) [] HVY.out ?_; intro w3 hown3 hg3; have HM3 := Lib.hid hown3; have HG3 := Lib.hid hg3; clear hown3 hg3))
      go_roundw
      case rel =>
        have s3 := HG3.out.size
        simp at s3
        exact ⟨k + 1, _, by omega, by go_num, HPUT, HM3, (hb.alloc hb.size _).grown HG3.out (by have := hb.size; simp; omega) (fun g e => by cases e; omega), by omega⟩
      case measure => simp [intOf]; omega
    · obtain rfl : k = r.evs.length := by omega
      have HD2 := Lib.hid (by have := HD.out; rw [List.take_length] at this; exact this : LOK D r.made r.evs)
      clear HD
      go_wp2_with fail
      go_ret
      exact ⟨_, D, rfl, by omega, hmb, HM.out, HD2.out, hb⟩

def perRules (r : Rec) (t : List Ru) : List Ru := if askB r t = true then forRu t r.series else []
def perEnds (r : Rec) (t : List Ru) : List Int := if askB r t = true then endsF r t else []
theorem ruf_ask {r : Rec} {t : List Ru} (hr : isRec r = true) : rufRes t r.series = if isSch t = true then (forRu t r.series, true) else ([], false) := by
  have := (isRec_iff.1 hr).2.1
  unfold rufRes
  simp [this.1, this.2]
def PeriodsD (w : World) (r : Rec) (t : List Ru) (e : Ending) (w' : World) : Prop :=
  ∃ u1 u2, e = .returned (.tuple #[u1, u2, .bool (askB r t)]) ∧ RusO w.heap.size w'.heap.size w' u1 (perRules r t) ∧ IntsO w.heap.size w'.heap.size w' u2 (perEnds r t) ∧ Below w.heap.size w w'
theorem ints_nil (lo hi : Nat) (w : World) : IntsO lo hi w (.slice none 0 0) [] := ⟨World.ownsRow_nil _ _ _ _, Under.nil _ _ _⟩
theorem ints_ofRow {lo n : Nat} {w : World} {v : Value} {xs : List Int} (h : w.ownsRow lo 3 1 v n (xs.map vI)) (hn : n = xs.length) : IntsO lo w.heap.size w v xs := ⟨by rw [← hn]; exact h, fun g hg => (h.lt g hg).2⟩
set_option maxRecDepth 20000 in
set_option maxHeartbeats 8000000 in
theorem periodsOf_any (v v1 : Value) (r : Rec) (t : List Ru) (w : World) (h : RecV w v r) (h1 : RowR 4 rRu w v1 t) (hn : t.length ≤ 1048576) :
    Calls Try.prog 149 #[v, v1] w (PeriodsD w r t) := by
  obtain ⟨i0, hi, hz0, hz1, hz2⟩ := info_parts Try.info_intI
  obtain ⟨s, rfl, h0, hok⟩ := h
  have HV := Lib.hid (show ∀ W, Below w.heap.size w W → RecV W (.agg #[.int .i64 r.id, .int .i64 r.series, .int .i64 r.made, s]) r from fun W hb => ⟨s, rfl, h0.below rEv_stable hb, hok⟩)
  have H1 := Lib.hid h1
  obtain ⟨br, hr⟩ : ∃ b, isRec r = b := ⟨_, rfl⟩
  obtain ⟨R, bR, hR⟩ : ∃ R b, rufRes t r.series = (R, b) := ⟨_, _, rfl⟩
  have HR := Lib.hid hr
  have HRR := Lib.hid hR
  clear h0 hok h1 hr hR
  have b0 := below_al (Below.refl w.heap.size w) (.cells #[.int .i64 r.id, .int .i64 r.series, .int .i64 r.made, s] 63 (0, 0))
  have HC0 := Lib.hid (Box4.new w r s 63)
  cases bR
  · have HA : Hid (askB r t = false) := Lib.hid (by
      rcases ha : askB r t with _ | _
      · rfl
      · have := ask_iff.1 ha
        have hq := HRR.out
        rw [ruf_ask this.1, if_pos this.2] at hq
        cases hq)
    go_enter Try.func149, Try.ntmps149
    go_wp2_with (first | (go_at_call 23; refine (implRulesFor_any _ t r.series _ (H1.out.below rRu_stable b0) hn R false HRR.out).mono ?_; rintro e w1 ⟨u1, rfl, ho1, b1⟩; replace b1 := below_chain b0 b1; clear ho1))
    go_ret3
    exact ⟨_, _, by rw [HA.out]; rfl, by unfold perRules; rw [HA.out]; exact RusO.nil _ _ _, by unfold perEnds; rw [HA.out]; exact ints_nil _ _ _, b1⟩
  · cases br
    · have HA : Hid (askB r t = false) := Lib.hid (by unfold askB; rw [HR.out]; rfl)
      go_enter Try.func149, Try.ntmps149
      go_wp2_with (first | (go_at_call 23; refine (implRulesFor_any _ t r.series _ (H1.out.below rRu_stable b0) hn R true HRR.out).mono ?_; rintro e w1 ⟨u1, rfl, ho1, b1⟩; obtain ⟨c0, c1, c2, c3⟩ := HC0.out.kept b1; obtain ⟨ga, gn, gc, rfl⟩ := ho1.1.slice; replace b1 := below_chain b0 b1; clear ho1) | (go_at_call 128; refine (implIsRecord_any _ r _ (HV.out _ b1)).mono ?_; rw [HR.out]; rintro e w2 ⟨rfl, b2⟩))
      go_ret3
      exact ⟨_, _, by rw [HA.out]; rfl, by unfold perRules; rw [HA.out]; exact RusO.nil _ _ _, by unfold perEnds; rw [HA.out]; exact ints_nil _ _ _, below_chain b1 b2⟩
    · have hq := HRR.out
      rw [ruf_ask HR.out] at hq
      have hs : isSch t = true := by
        rcases hs : isSch t with _ | _
        · rw [hs] at hq; simp at hq
        · rfl
      rw [if_pos hs] at hq
      obtain ⟨hRf, _⟩ := Prod.mk.inj hq
      have ha : askB r t = true := ask_iff.2 ⟨HR.out, hs⟩
      have HA := Lib.hid ha
      have HPR := Lib.hid (show perRules r t = R by unfold perRules; rw [if_pos ha, hRf])
      have HPE := Lib.hid (show perEnds r t = R.map (endR r) by unfold perEnds; rw [if_pos ha]; unfold endsF; rw [hRf])
      have HRU := Lib.hid (show ∀ u ∈ R, isRu u = true by rw [← hRf]; exact forRu_ok hs r.series)
      have hRl : R.length ≤ 8 := by rw [← hRf]; exact Nat.le_trans (forRu_len t r.series) (sch_len hs)
      have hev : r.evs.length ≤ 6 := (isRec_iff.1 HR.out).2.2.2.1
      clear hq hs hRf ha
      go_enter Try.func149, Try.ntmps149
      go_wp2_with (first | (go_at_call 23; refine (implRulesFor_any _ t r.series _ (H1.out.below rRu_stable b0) hn R true HRR.out).mono ?_; rintro e w1 ⟨u1, rfl, ho1, b1⟩; have HC1 := Lib.hid (HC0.out.kept b1); obtain ⟨c0, c1, c2, c3⟩ := HC1.out; obtain ⟨ga, gc, hgv, gl, gm, gr⟩ := ho1.row.rus; subst hgv; have HO1 := Lib.hid ho1; replace b1 := below_chain b0 b1; unfold maxLen at gm; clear ho1 gr b0 HC0) | (go_at_call 128; refine (implIsRecord_any _ r _ (HV.out _ b1)).mono ?_; rw [HR.out]; rintro e w2 ⟨rfl, b2⟩; have HO2 := Lib.hid ((HO1.out.below b2).wide (Nat.le_refl _) b2.size); replace c0 := cell_kept c0 b2; replace c1 := cell_kept c1 b2; replace c2 := cell_kept c2 b2; replace c3 := cell_kept c3 b2; replace b2 := below_chain b1 b2; clear HO1 HC1 b1) | (go_at_call 178; refine (startDays_any _ r _ (HV.out _ b2) (by omega)).mono ?_; rintro e w3 ⟨mb, D, rfl, hm1, hm2, hown3, hlok, b3⟩; have HO3 := Lib.hid ((HO2.out.below b3).wide (Nat.le_refl _) b3.size); have HM3 := Lib.hid hown3; have HL := Lib.hid hlok; replace b3 := below_chain b2 b3; clear hown3 hlok c0 c1 c2 c3 b2 HO2))
      have R3 := Lib.hid (by obtain ⟨a, c, e, _, _, r⟩ := HO3.out.row.rus; cases e; exact r : R = [] ∨ ∃ b off, b < w3.heap.size ∧ ga = some ⟨b, off, none⟩ ∧ ∀ i, i < R.length → w3.cell? ⟨b, off + i * 4, none⟩ = some (.int .i64 (R.getD i ruD).series) ∧ w3.cell? ⟨b, off + i * 4 + 1, none⟩ = some (.int .i64 (R.getD i ruD).event) ∧ w3.cell? ⟨b, off + i * 4 + 2, none⟩ = some (.int .i64 (R.getD i ruD).days) ∧ w3.cell? ⟨b, off + i * 4 + 3, none⟩ = some (.int .i64 (R.getD i ruD).act) ∧ (R.getD i ruD).ok)
      go_loopw [10, 34] (fun o i wr => ∃ k : Nat, k ≤ R.length ∧ i = .int .i64 k ∧ wr.ownsRow w3.heap.size 3 1 o ((R.take k).map (endR r)).length (((R.take k).map (endR r)).map vI) ∧ Below w3.heap.size w3 wr) (fun _ i _ => R.length - (intOf i).toNat)
      case atStart => exact ⟨0, Nat.zero_le _, rfl, by simpa using World.ownsRow_nil _ _ _ _, Below.refl _ _⟩
      case round =>
        obtain ⟨k, hk, rfl, hO, hb⟩ := hrel
        have hsz := hb.size
        by_cases hlt : k < R.length
        · obtain ⟨bb, o1, hb1, rfl, e1⟩ := R3.out.resolve_left (fun e => by rw [e] at hlt; simp at hlt)
          obtain ⟨q0, q1, q2, q3, hok⟩ := e1 k hlt
          obtain ⟨⟨x0, x1, x2, x3⟩, hx⟩ : ∃ s, R.getD k ruD = s := ⟨_, rfl⟩
          rw [hx] at q0 q1 q2 q3
          simp only at q0 q1 q2 q3
          have f0 := cell_kept q0 hb
          have f1 := cell_kept q1 hb
          have f2 := cell_kept q2 hb
          have f3 := cell_kept q3 hb
          have hxu : isRu ⟨x0, x1, x2, x3⟩ = true := by rw [← hx, getRu_lt hlt]; exact HRU.out _ (List.getElem_mem hlt)
          have hxb := isRu_iff.1 hxu
          simp only at hxb
          have htake := ends_take (r := r) hlt
          rw [hx] at htake
          obtain ⟨P, hP⟩ : ∃ P, (R.take k).map (endR r) = P := ⟨_, rfl⟩
          have hPl : P.length ≤ 8 := by rw [← hP, List.length_map, List.length_take]; omega
          rw [hP] at hO htake
          have HT := Lib.hid htake
          have HMr := Lib.hid (HM3.out.kept (grownBy_of_below hb none) (by simp))
          have hin : inI x1 := by unfold inI; omega
          have HKY := Lib.hid (key_day x1 hin)
          obtain ⟨hh, hat0⟩ := HL.out.day HR.out x1
          have hd1 := dayOf_top HR.out x1
          obtain ⟨d, hd⟩ : ∃ d, dayOf r x1 = d := ⟨_, rfl⟩
          rw [hd] at hh hat0 hd1
          have he : endR r ⟨x0, x1, x2, x3⟩ = if d < 0 then -1 else d + x2 := by unfold endR; simp only; rw [hd]
          have HE := Lib.hid he
          have HAT := Lib.hid hat0
          have g0 : (0 : Int) ≤ (k : Int) := by omega
          have g1 : (k : Int) < (R.length : Int) := by omega
          have hx2 := hxb.2.2.1
          clear q0 q1 q2 q3 hok e1 hx htake hP hxu hin hd he hat0 hxb
          by_cases hn : 0 ≤ d
          · have hh2 : Maps.has D (.int .i64 x1) = true := by rw [hh]; exact decide_eq_true hn
            have hw : IntKind.i64.wrap (d + x2) = d + x2 := Go.IntWalk.i64_in _ (by omega)
            have HV2 := Lib.hid (HAT.out hn)
            have HT2 : Hid ((R.take (k + 1)).map (endR r) = P ++ [d + x2]) := Lib.hid (by rw [HT.out, HE.out, if_neg (by omega)])
            clear hh
            go_wp2_with (first | (at_lookup; refine wpList_lookup_own_ok_int _ rfl _ _ 115 rfl 3 3 .i64 (int_keyed Try.underlying3) Try.underlying115 Try.underlying3 (zero_int _) mb (r.evs.length + 1) D rfl (HMr.out.alloc _) _ _ rfl HKY.out ?_; intro c hat hwc; rw [HV2.out] at hat; obtain rfl : d = c := (by simpa using hat); clear hat hwc; rw [hh2]) | (at_builtin; refine wpList_append_own _ rfl _ _ 26 rfl w3.heap.size 3 i0 (.int .i64 0) 1 8 Try.underlying26 hi hz0 hz1 hz2 rfl (by decide) _ _ _ rfl ((hO.alloc _).alloc _) ⟨wr.heap.size + 1, 0, none⟩ 1 1 [.int .i64 (d + x2)] rfl rfl (cell_oneI _ _ _ (by simp)) (by simp [Value.oneCell']) (by unfold maxLen; omega) (by omega) (by simp; omega) ?_; intro v' w4 hown' hgrow _))
            have HOWN := Lib.hid hown'
            have HB := Lib.hid (below_app (below_al hb _) (Nat.le_refl _) (hO.alloc _) hgrow)
            clear hown' hgrow hO
            go_wp2_with fail
            go_roundw
            case rel => exact ⟨k + 1, by omega, by go_num, (by rw [HT2.out]; simpa [vI] using HOWN.out), HB.out⟩
            case measure => simp [intOf]; omega
          · have hh2 : Maps.has D (.int .i64 x1) = false := by rw [hh]; exact decide_eq_false hn
            have HT2 : Hid ((R.take (k + 1)).map (endR r) = P ++ [-1]) := Lib.hid (by rw [HT.out, HE.out, if_pos (by omega)])
            clear hh
            go_wp2_with (first | (at_lookup; refine wpList_lookup_own_ok_int _ rfl _ _ 115 rfl 3 3 .i64 (int_keyed Try.underlying3) Try.underlying115 Try.underlying3 (zero_int _) mb (r.evs.length + 1) D rfl (HMr.out.alloc _) _ _ rfl HKY.out ?_; intro c hat hwc; clear hat hwc; rw [hh2]) | (at_builtin; refine wpList_append_own _ rfl _ _ 26 rfl w3.heap.size 3 i0 (.int .i64 0) 1 8 Try.underlying26 hi hz0 hz1 hz2 rfl (by decide) _ _ _ rfl ((hO.alloc _).alloc _) ⟨wr.heap.size + 1, 0, none⟩ 1 1 [.int .i64 (-1)] rfl rfl (cell_oneI _ _ _ (by simp)) (by simp [Value.oneCell']) (by unfold maxLen; omega) (by omega) (by simp; omega) ?_; intro v' w4 hown' hgrow _))
            have HOWN := Lib.hid hown'
            have HB := Lib.hid (below_app (below_al hb _) (Nat.le_refl _) (hO.alloc _) hgrow)
            clear hown' hgrow hO
            go_wp2_with fail
            go_roundw
            case rel => exact ⟨k + 1, by omega, by go_num, (by rw [HT2.out]; simpa [vI] using HOWN.out), HB.out⟩
            case measure => simp [intOf]; omega
        · obtain rfl : k = R.length := by omega
          rw [List.take_length] at hO
          have HO := Lib.hid hO
          clear hO
          have s3 := b3.size
          go_wp2_with fail
          go_ret3
          refine ⟨_, _, by rw [HA.out]; rfl, ?_, ?_, b3.trans (hb.mono s3)⟩
          · rw [HPR.out]; exact (HO3.out.below hb).wide (by simp) hsz
          · rw [HPE.out]; exact (ints_ofRow HO.out rfl).wide s3 (Nat.le_refl _)
end Go.Proofs.Ytenjajcknmfhfaa

namespace Go.Proofs.Ytenjajcknmfhfaa
set_option linter.unusedVariables false
open Go.RowKit Go.Sort

theorem wp_scope_forward {P : Program} {Q : Exit → Act → World → Prop} {a : Act} {w : World} {c : Code} (l : Nat) (rest : Code) (hf : findLabel c l = some rest)
    (first : c.wp P (Exit.jump l (fun a w => rest.wp P (Exit.noGoto Q) a w) Q) a w) : (Code.scope c).wp P Q a w :=
  wp_scope_jumps l (fun a w => rest.wp P (Exit.noGoto Q) a w) (fun _ _ => 0) hf first (fun a w hJ => wp_mono hJ (by
    intro e a w h
    cases e <;> first | exact h | exact h.elim))
theorem per_nil {r : Rec} {t : List Ru} (h : (perRules r t).length = 0) : setF r t = (ruD, 0, false) := by
  rcases ha : askB r t with _ | _
  · exact setF_no (.inl ha)
  · refine setF_no (.inr ?_)
    unfold perRules at h
    rw [if_pos ha] at h
    have hq := ask_iff.1 ha
    rcases Int.lt_or_le (dueF r t) 0 with h1 | h1
    · exact h1
    · exact absurd (List.length_eq_zero_iff.1 h) ((set_told hq.1 hq.2).1 h1).1
theorem per_open {r : Rec} {t : List Ru} (h : (-1 : Int) ∈ perEnds r t) : setF r t = (ruD, 0, false) := by
  rcases ha : askB r t with _ | _
  · exact setF_no (.inl ha)
  · refine setF_no (.inr ?_)
    unfold perEnds at h
    rw [if_pos ha] at h
    have hq := ask_iff.1 ha
    rcases Int.lt_or_le (dueF r t) 0 with h1 | h1
    · exact h1
    · exact absurd h ((set_told hq.1 hq.2).1 h1).2
theorem per_told {r : Rec} {t : List Ru} (h : (perRules r t).length ≠ 0) (h2 : ¬ (-1 : Int) ∈ perEnds r t) : askB r t = true ∧ perRules r t = forRu t r.series ∧ perEnds r t = endsF r t ∧ setF r t = (ruleF r t, dueF r t, true) := by
  rcases ha : askB r t with _ | _
  · unfold perRules at h; rw [if_neg (by rw [ha]; simp)] at h; simp at h
  · have hq := ask_iff.1 ha
    have e1 : perRules r t = forRu t r.series := by unfold perRules; rw [if_pos ha]
    have e2 : perEnds r t = endsF r t := by unfold perEnds; rw [if_pos ha]
    refine ⟨rfl, e1, e2, setF_yes ha ((set_told hq.1 hq.2).2 ⟨fun e => h (by rw [e1, e]; rfl), by rw [← e2]; exact h2⟩)⟩
theorem per_len (r : Rec) (t : List Ru) : (perEnds r t).length = (perRules r t).length := by
  unfold perEnds perRules
  split
  · unfold endsF; rw [List.length_map]
  · rfl
theorem per_le (r : Rec) (t : List Ru) : (perRules r t).length ≤ t.length := by
  unfold perRules
  split
  · exact forRu_len _ _
  · exact Nat.zero_le _
set_option maxRecDepth 20000 in
set_option maxHeartbeats 8000000 in
theorem settle_any (v v1 : Value) (r : Rec) (t : List Ru) (w : World) (h : RecV w v r) (h1 : RowR 4 rRu w v1 t) (hn : t.length ≤ 1048576) (q : Ru) (d : Int) (b : Bool) (hres : setF r t = (q, d, b)) :
    Calls Try.prog 102 #[v, v1] w fun e w' => e = .returned (.tuple #[.agg #[.int .i64 q.series, .int .i64 q.event, .int .i64 q.days, .int .i64 q.act], .int .i64 d, .bool b]) ∧ Below w.heap.size w w' := by
  obtain ⟨s, rfl, h0, hok⟩ := h
  have HV := Lib.hid (show ∀ W, Below w.heap.size w W → RecV W (.agg #[.int .i64 r.id, .int .i64 r.series, .int .i64 r.made, s]) r from fun W hb => ⟨s, rfl, h0.below rEv_stable hb, hok⟩)
  have H1 := Lib.hid h1
  have HRES := Lib.hid hres
  have hpl := per_len r t
  have hpe := per_le r t
  obtain ⟨R, hR⟩ : ∃ R, perRules r t = R := ⟨_, rfl⟩
  obtain ⟨E, hE⟩ : ∃ E, perEnds r t = E := ⟨_, rfl⟩
  rw [hR] at hpl hpe
  rw [hE] at hpl
  have HPL := Lib.hid hpl
  have HR := Lib.hid hR
  have HE := Lib.hid hE
  clear h0 hok h1 hres hR hE hpl
  have b0 := below_al (below_al (Below.refl w.heap.size w) (RBOX r s 63)) (.cells #[.int .i64 0, .int .i64 0, .int .i64 0, .int .i64 0] 56 (0, 0))
  have HX0 : Hid (UBox ((w.alloc (RBOX r s 63)).alloc (.cells #[.int .i64 0, .int .i64 0, .int .i64 0, .int .i64 0] 56 (0, 0))) (w.heap.size + 1) ruD) := Lib.hid (by rw [← (show (w.alloc (RBOX r s 63)).heap.size = w.heap.size + 1 by simp)]; exact UBox.new (w.alloc (RBOX r s 63)) ruD 56)
  by_cases hz : R.length = 0
  · have hz1 : ((R.length : Int) == 0) = true := by simp [hz]
    have hz2 : decide ((R.length : Int) = 0) = true := decide_eq_true (by omega)
    have hz3 : decide (R.length = 0) = true := decide_eq_true hz
    have hq := HRES.out
    rw [per_nil (by rw [HR.out]; exact hz)] at hq
    cases hq
    have HZ := Lib.hid hz
    clear hz
    go_enter Try.func102, Try.ntmps102
    go_wp2_with (first | (go_at_call 149; refine (periodsOf_any _ _ r t _ (HV.out _ b0) (H1.out.below rRu_stable b0) hn).mono ?_; rintro e w1 ⟨u1, u2, rfl, ho1, ho2, b1⟩; rw [HR.out] at ho1; rw [HE.out] at ho2; have HX1 := Lib.hid (HX0.out.kept b1); obtain ⟨z0, z1, z2, z3, y0, y1, y2, y3⟩ := HX1.out; simp only [ruD] at z0 z1 z2 z3; replace b1 := below_chain b0 b1; obtain ⟨a1, n1, c1, hu1⟩ := ho1.1.slice; obtain ⟨a1', c1', hv, hl1, hm1, r1⟩ := ho1.row.rus; subst hv; unfold maxLen at hm1; clear hu1 r1 ho1 ho2))
    refine bodyPost_ret (v := .tuple #[.agg #[.int .i64 0, .int .i64 0, .int .i64 0, .int .i64 0], .int .i64 0, .bool false]) (by simp [results, Try.results102, go_sem, z0, z1, z2, z3]) rfl ⟨rfl, ?_⟩
    exact below_putU b1 (by omega) ruD
  · have hz1 : ((R.length : Int) == 0) = false := by simp [hz]
    have hz2 : decide ((R.length : Int) = 0) = false := decide_eq_false (by omega)
    have hz3 : decide (R.length = 0) = false := decide_eq_false hz
    have HZ := Lib.hid hz
    have hpos : (0 : Int) < (R.length : Int) := by omega
    clear hz
    by_cases ho : (-1 : Int) ∈ E
    · have hq := HRES.out
      rw [per_open (by rw [HE.out]; exact ho)] at hq
      cases hq
      have HO := Lib.hid (decide_eq_true ho)
      clear ho
      go_enter Try.func102, Try.ntmps102
      go_wp2_with (first | (go_at_call 149; refine (periodsOf_any _ _ r t _ (HV.out _ b0) (H1.out.below rRu_stable b0) hn).mono ?_; rintro e w1 ⟨u1, u2, rfl, ho1, ho2, b1⟩; rw [HR.out] at ho1; rw [HE.out] at ho2; have HX1 := Lib.hid (HX0.out.kept b1); replace b1 := below_chain b0 b1; obtain ⟨a1', c1', hv, hl1, hm1, r1⟩ := ho1.row.rus; subst hv; unfold maxLen at hm1; have HO2 := Lib.hid ho2; clear r1 ho1 ho2) | (go_at_call 85; refine (contains_any _ E _ _ HO2.out.row).mono ?_; rw [HO.out]; rintro e w2 ⟨rfl, b2⟩; have HX2 := Lib.hid (HX1.out.kept b2); obtain ⟨z0, z1, z2, z3, y0, y1, y2, y3⟩ := HX2.out; simp only [ruD] at z0 z1 z2 z3; replace b2 := below_chain b1 b2))
      refine bodyPost_ret (v := .tuple #[.agg #[.int .i64 0, .int .i64 0, .int .i64 0, .int .i64 0], .int .i64 0, .bool false]) (by simp [results, Try.results102, go_sem, z0, z1, z2, z3]) rfl ⟨rfl, ?_⟩
      exact below_putU b2 (by omega) ruD
    · obtain ⟨ha, hRf, hEf, hset⟩ := per_told (by rw [HR.out]; exact HZ.out) (by rw [HE.out]; exact ho)
      rw [HR.out] at hRf
      rw [HE.out] at hEf
      have hq := HRES.out
      rw [hset] at hq
      cases hq
      have HO := Lib.hid (decide_eq_false ho)
      have hask := ask_iff.1 ha
      have hshut : ∀ u ∈ R, 0 ≤ endR r u := fun u hu => by
        rcases Int.lt_or_le (endR r u) 0 with hlt | hlt
        · exact absurd (by rw [hEf]; exact (open_mem hask.1 hask.2).2 ⟨u, by rw [← hRf]; exact hu, hlt⟩) ho
        · exact hlt
      have HSH := Lib.hid hshut
      have HEM := Lib.hid (show E = R.map (endR r) by rw [hEf, hRf]; rfl)
      have hdec : decR r R = (ruleF r t, dueF r t) := by rw [hRf]; rfl
      have HRU := Lib.hid (show ∀ u ∈ R, isRu u = true by rw [hRf]; exact forRu_ok hask.2 r.series)
      have HDEC := Lib.hid hdec
      obtain ⟨Q1, hQ1⟩ : ∃ x, ruleF r t = x := ⟨_, rfl⟩
      obtain ⟨D1, hD1⟩ : ∃ x, dueF r t = x := ⟨_, rfl⟩
      rw [hQ1, hD1] at HDEC ⊢
      clear ho hRf hEf hset ha hask hshut hdec hQ1 hD1
      go_enter Try.func102, Try.ntmps102
      go_wp2_with (first | (go_at_call 149; refine (periodsOf_any _ _ r t _ (HV.out _ b0) (H1.out.below rRu_stable b0) hn).mono ?_; rintro e w1 ⟨u1, u2, rfl, ho1, ho2, b1⟩; rw [HR.out] at ho1; rw [HE.out] at ho2; have HX1 := Lib.hid (HX0.out.kept b1); replace b1 := below_chain b0 b1; obtain ⟨a1', c1', hv, hl1, hm1, r1⟩ := ho1.row.rus; subst hv; unfold maxLen at hm1; have HO1 := Lib.hid ho1; have HO2 := Lib.hid ho2; obtain ⟨a2, c2, hv2, hl2, hm2, r2⟩ := ho2.row; subst hv2; rw [HPL.out] at hl2; unfold maxLen at hm2; clear r1 r2 ho1 ho2) | (go_at_call 85; refine (contains_any _ E _ _ HO2.out.row).mono ?_; rw [HO.out]; rintro e w2 ⟨rfl, b2⟩; have HX2 := Lib.hid (HX1.out.kept b2); have hx2 := HO1.out.row.below rRu_stable b2; have hy2 := (HO2.out.below b2).row; replace b2 := below_chain b1 b2))
      have hEl : E.length = R.length := HPL.out
      have hR0 : 0 < R.length := by omega
      have hE0 : 0 < E.length := by omega
      obtain ⟨_, _, hva, _, _, rA⟩ := hx2.rus
      cases hva
      obtain ⟨bR, oR, hbR, rfl, eR⟩ := rA.resolve_left (fun e => by rw [e] at hR0; simp at hR0)
      obtain ⟨_, _, hvb, _, _, rB⟩ := hy2
      cases hvb
      obtain ⟨bE, oE, hbE, rfl, eE⟩ := rB.resolve_left (fun e => by rw [e] at hE0; simp at hE0)
      have ER := Lib.hid eR
      have EE := Lib.hid eE
      obtain ⟨q0, q1, q2, q3, hok0⟩ := eR 0 hR0
      obtain ⟨⟨x0, x1, x2, x3⟩, hx⟩ : ∃ s, R.getD 0 ruD = s := ⟨_, rfl⟩
      rw [hx] at q0 q1 q2 q3
      have p0 := eE 0 hE0
      obtain ⟨d0, hd0⟩ : ∃ x, E[0] = x := ⟨_, rfl⟩
      rw [hd0] at p0
      simp only [vI, Nat.zero_mul, Nat.add_zero] at q0 q1 q2 q3 p0
      have HXX := Lib.hid hx
      have HD0 := Lib.hid hd0
      have ge : (0 : Int) < (E.length : Int) := by omega
      clear hEl eR eE rA rB hx2 hok0 hx hd0 HO1 HO2 HX1 b1 b0 HX0
      have hd00 : d0 = endR r ⟨x0, x1, x2, x3⟩ := by
        have e1 : E[0]? = some d0 := by rw [List.getElem?_eq_getElem hE0, HD0.out]
        rw [HEM.out, List.getElem?_map, List.getElem?_eq_getElem hR0, ← getRu_lt hR0, HXX.out] at e1
        simpa using e1.symm
      have HF0 : Hid (decF r (R.drop 0) ⟨x0, x1, x2, x3⟩ d0 = (Q1, D1)) := Lib.hid (by
        have e2 := drop_ru hR0
        rw [HXX.out] at e2
        have e3 : R = ⟨x0, x1, x2, x3⟩ :: R.drop 1 := by simpa using e2
        rw [hd00, ← HDEC.out]
        conv => rhs; rw [e3]
        rw [dec_head (by rw [← e3]; intro u hu; have := HSH.out u hu; omega), ← e3, List.drop_zero])
      clear hd00
      go_region
      go_wp2_with fail
      go_loopw [11, 37] (fun due i wr => ∃ (k : Nat) (b : Ru) (dd : Int), k ≤ R.length ∧ i = .int .i64 k ∧ due = .int .i64 dd ∧ Hid (decF r (R.drop k) b dd = (Q1, D1)) ∧ Hid (UBox wr w2.heap.size b) ∧ Below w2.heap.size w2 wr) (fun _ i _ => R.length - (intOf i).toNat)
      case atStart => exact ⟨0, ⟨x0, x1, x2, x3⟩, d0, Nat.zero_le _, rfl, rfl, HF0, Lib.hid ((UBox.new w2 ⟨x0, x1, x2, x3⟩ _).drew), (below_al (Below.refl _ _) _).drew⟩
      case round =>
        clear HF0 q0 q1 q2 q3 p0
        obtain ⟨k, b, dd, hk, rfl, rfl, HF, HB, hb⟩ := hrel
        have bw := b2.trans (hb.mono b2.size)
        have HX := Lib.hid (HX2.out.kept hb)
        have hgl := HB.out.lt
        by_cases hlt : k < R.length
        · have hlE : k < E.length := by have := HPL.out; omega
          obtain ⟨q0, q1, q2, q3, hok⟩ := ER.out k hlt
          obtain ⟨⟨z0, z1, z2, z3⟩, hx⟩ : ∃ s, R.getD k ruD = s := ⟨_, rfl⟩
          rw [hx] at q0 q1 q2 q3
          have p0 := EE.out k hlE
          obtain ⟨e, he⟩ : ∃ x, E[k] = x := ⟨_, rfl⟩
          rw [he] at p0
          simp only [vI] at q0 q1 q2 q3 p0
          have hee : e = endR r ⟨z0, z1, z2, z3⟩ := by
            have e1 : E[k]? = some e := by rw [List.getElem?_eq_getElem hlE, he]
            rw [HEM.out, List.getElem?_map, List.getElem?_eq_getElem hlt, ← getRu_lt hlt, hx] at e1
            simpa using e1.symm
          have hns : ¬ endR r ⟨z0, z1, z2, z3⟩ < 0 := by rw [← hx, getRu_lt hlt]; have := HSH.out _ (List.getElem_mem hlt); omega
          have hdrop := drop_ru hlt
          rw [hx] at hdrop
          have hcons : (if dd < e ∨ (e = dd ∧ z3 < b.act) then decF r (R.drop (k + 1)) ⟨z0, z1, z2, z3⟩ e else decF r (R.drop (k + 1)) b dd) = (Q1, D1) := by
            rw [hee, ← decF_cons hns, ← hdrop]; exact HF.out
          have HCO := Lib.hid hcons
          have f0 := cell_kept q0 hb
          have f1 := cell_kept q1 hb
          have f2 := cell_kept q2 hb
          have f3 := cell_kept q3 hb
          have e0 := cell_kept p0 hb
          have g0 : (0 : Int) ≤ (k : Int) := by omega
          have g1 : (k : Int) < (R.length : Int) := by omega
          have g2 : (k : Int) < (E.length : Int) := by omega
          obtain ⟨b0, b1', b2', b3⟩ := b
          clear q0 q1 q2 q3 p0 hok hx he hee hns hdrop hcons HF
          go_wp2_with fail
          generalize hWE : wr.alloc (.cells #[.int .i64 z0, .int .i64 z1, .int .i64 z2, .int .i64 z3] 56 (0, 0)) = wE
          have bE : Below wr.heap.size wr wE := by rw [← hWE]; exact below_al (Below.refl _ _) _
          have HU : Hid (UBox wE wr.heap.size ⟨z0, z1, z2, z3⟩) := Lib.hid (by rw [← hWE]; exact UBox.new wr ⟨z0, z1, z2, z3⟩ _)
          have e0' := cell_kept e0 bE
          have HB' := Lib.hid (HB.out.kept bE)
          have bg := hb.trans (bE.mono hb.size)
          have hne : wr.heap.size ≠ w2.heap.size := by omega
          clear hWE e0 f0 f1 f2 f3 HX HB
          obtain ⟨c0, c1, c2', c3, y0, y1, y2, y3⟩ := HB'.out
          obtain ⟨u0, u1, u2, u3, t0, t1, t2, t3⟩ := HU.out
          simp only at c0 c1 c2' c3 u0 u1 u2 u3
          clear t0 t1 t2 t3
          by_cases h1 : dd < e
          · have HZ := Lib.hid HCO.out
            rw [if_pos (.inl h1)] at HZ
            refine wp_scope_forward 0 _ rfl ?_
            go_wp2_with fail
            apply wp_goto
            refine And.intro (a := 0 = 0) rfl ?_
            show Code.wp _ _ _ _ _
            go_wp2_with fail
            go_region
            rw [Exit.noGoto_normal]
            go_wp2_with fail
            go_roundw
            case rel => exact ⟨k + 1, ⟨z0, z1, z2, z3⟩, e, by omega, by go_num, rfl, HZ, Lib.hid ((HB'.out.put ⟨z0, z1, z2, z3⟩).drew), (below_putU bg (Nat.le_refl _) ⟨z0, z1, z2, z3⟩).drew⟩
            case measure => simp [intOf]; omega
          · by_cases h2 : e < dd
            · have h2d : decide (e < dd) = true := decide_eq_true h2
              have HZ := Lib.hid HCO.out
              rw [if_neg (by rintro (q | ⟨q, _⟩) <;> omega)] at HZ
              go_step3
              go_wp2_with fail
              try rw [Exit.noGoto_exit]
              go_wp2_with fail
              go_roundw
              case rel => exact ⟨k + 1, ⟨b0, b1', b2', b3⟩, dd, by omega, by go_num, rfl, HZ, HB', bg⟩
              case measure => simp [intOf]; omega
            · have h2d : decide (e < dd) = false := decide_eq_false h2
              by_cases h3 : z3 < b3
              · have h3d : decide (b3 ≤ z3) = false := decide_eq_false (by omega)
                have HZ := Lib.hid HCO.out
                rw [if_pos (.inr ⟨by omega, h3⟩)] at HZ
                go_step3
                go_wp2_with fail
                go_step3
                go_wp2_with fail
                go_region
                rw [Exit.noGoto_normal]
                go_wp2_with fail
                go_roundw
                case rel => exact ⟨k + 1, ⟨z0, z1, z2, z3⟩, e, by omega, by go_num, rfl, HZ, Lib.hid ((HB'.out.put ⟨z0, z1, z2, z3⟩).drew), (below_putU bg (Nat.le_refl _) ⟨z0, z1, z2, z3⟩).drew⟩
                case measure => simp [intOf]; omega
              · have h3d : decide (b3 ≤ z3) = true := decide_eq_true (by omega)
                have HZ := Lib.hid HCO.out
                rw [if_neg (by rintro (q | ⟨_, q⟩); · omega
                               · exact h3 q)] at HZ
                go_step3
                go_wp2_with fail
                try rw [Exit.noGoto_exit]
                go_wp2_with fail
                go_roundw
                case rel => exact ⟨k + 1, ⟨b0, b1', b2', b3⟩, dd, by omega, by go_num, rfl, HZ, HB', bg⟩
                case measure => simp [intOf]; omega
        · obtain rfl : k = R.length := by omega
          have hfin := HF.out
          rw [List.drop_length] at hfin
          obtain ⟨rfl, rfl⟩ := Prod.mk.inj (show (b, dd) = (Q1, D1) from hfin)
          obtain ⟨b0, b1', b2', b3⟩ := b
          obtain ⟨p0, p1, p2, p3, y0, y1, y2, y3⟩ := HB.out
          obtain ⟨z0, z1, z2, z3, u0, u1, u2, u3⟩ := HX.out
          simp only [ruD] at z0 z1 z2 z3 p0 p1 p2 p3 ⊢
          have hXl := HX2.out.lt
          have hne : w2.heap.size ≠ w.heap.size + 1 := by omega
          clear hfin
          go_wp2_with fail
          refine bodyPost_ret (v := .tuple #[.agg #[.int .i64 b0, .int .i64 b1', .int .i64 b2', .int .i64 b3], .int .i64 dd, .bool true]) (by simp [results, Try.results102, go_sem, z0, z1, z2, z3]) rfl ⟨rfl, ?_⟩
          exact below_putU bw (by omega) ⟨b0, b1', b2', b3⟩
end Go.Proofs.Ytenjajcknmfhfaa

namespace Go.Proofs.Ytenjajcknmfhfaa
set_option linter.unusedVariables false
open Go.RowKit Go.Sort

theorem cell1_new (w : World) (v : Value) (t : TypeId) {k : Nat} (hk : k = w.heap.size) : ∀ j u, [v][j]? = some u → (w.alloc (.cells #[v] t (0, 0))).cell? ((⟨k, 0, none⟩ : Addr).add j) = some u := by
  subst hk
  intro j u hj
  rw [Addr.add_lit]
  match j, hj with
  | 0, h => cases h; exact cell_new w _ _ 0 rfl
theorem serF_iff {t : List Ru} {x : Int} : x ∈ serF t ↔ ∃ r ∈ t, r.series = x := by
  refine ⟨serF_mem, ?_⟩
  have key : ∀ (t : List Ru) (o : List Int), (x ∈ o ∨ ∃ r ∈ t, r.series = x) → x ∈ (t.foldl (fun o r => if r.series ∈ o then o else o ++ [r.series]) o) := by
    intro t
    induction t with
    | nil => intro o h; simpa using h
    | cons r l ih =>
      intro o h
      rw [List.foldl_cons]
      refine ih _ ?_
      rcases h with h | ⟨q, hq, e⟩
      · left; split
        · exact h
        · exact List.mem_append_left _ h
      · rcases List.mem_cons.1 hq with h1 | h1
        · subst h1; left; split
          · rename_i hm; rw [← e]; exact hm
          · rw [← e]; simp
        · exact .inr ⟨q, h1, e⟩
  intro h
  exact key t [] (.inr h)
theorem ser_le {t : List Ru} (h : isSch t = true) {i j : Nat} (hij : i ≤ j) (hj : j < t.length) : (t.getD i ruD).series ≤ (t.getD j ruD).series := by
  rcases Nat.lt_or_eq_of_le hij with h' | h'
  · have := sch_bef h h' hj
    rw [bef_iff] at this
    omega
  · subst h'; exact Int.le_refl _
theorem ser_compact {t : List Ru} (h : isSch t = true) : Lib.compact (t.map (·.series)) = serF t := by
  have hk : ∀ k, k ≤ t.length → Lib.compactUpTo (t.map (·.series)).toArray k = serF (t.take k) := by
    intro k
    induction k with
    | zero => intro _; simp [Lib.compactUpTo, serF]
    | succ k ih =>
      intro hk
      have hlt : k < t.length := by omega
      have g : ∀ j, j < t.length → (t.map (·.series)).toArray[j]! = (t.getD j ruD).series := fun j hj => by
        rw [getElem!_pos _ j (by simpa using hj), getRu_lt hj]; simp
      rw [Lib.compactUpTo_succ, ih (by omega), serF_succ hlt, g k hlt]
      by_cases hm : (t.getD k ruD).series ∈ serF (t.take k)
      · rw [if_pos hm]
        obtain ⟨r, hr, e⟩ := serF_iff.1 hm
        rw [List.mem_take_iff_getElem] at hr
        obtain ⟨i, hi, rfl⟩ := hr
        have h1 := ser_le h (i := i) (j := k - 1) (by omega) (by omega)
        have h2 := ser_le h (i := k - 1) (j := k) (by omega) hlt
        rw [getRu_lt (show i < t.length by omega)] at h1
        have hkn : Lib.keeps (t.map (·.series)).toArray k = false := Lib.keeps_neg (by omega) (by rw [g k hlt, g (k - 1) (by omega)]; omega)
        rw [hkn]; simp
      · rw [if_neg hm]
        have hkn : Lib.keeps (t.map (·.series)).toArray k = true := by
          rcases Nat.eq_zero_or_pos k with h0 | h0
          · subst h0; exact Lib.keeps_lt_one _ 0 (by omega)
          · refine Lib.keeps_pos ?_
            rw [g k hlt, g (k - 1) (by omega)]
            intro e
            refine hm (serF_iff.2 ⟨t.getD (k - 1) ruD, ?_, e.symm⟩)
            rw [getRu_lt (by omega), List.mem_take_iff_getElem]
            exact ⟨k - 1, by omega, rfl⟩
        rw [hkn]; simp
  have := hk t.length (Nat.le_refl _)
  rw [List.take_length] at this
  unfold Lib.compact
  rw [← this]; simp
theorem sinRes_no {t : List Ru} {xs : List Int} {b : Bool} (h : sinRes t = (xs, b)) (hn : isSch t = false) : xs = [] ∧ b = false := by
  unfold sinRes at h
  rw [if_neg (by rw [hn]; simp)] at h
  obtain ⟨h1, h2⟩ := Prod.mk.inj h
  exact ⟨h1.symm, h2.symm⟩
theorem sinRes_yes {t : List Ru} {xs : List Int} {b : Bool} (h : sinRes t = (xs, b)) (hn : isSch t = true) : xs = serF t ∧ b = true := by
  unfold sinRes at h
  rw [if_pos hn] at h
  obtain ⟨h1, h2⟩ := Prod.mk.inj h
  exact ⟨h1.symm, h2.symm⟩
theorem IntsO.of_row {lo n : Nat} {w : World} {v : Value} {xs : List Int} (h : w.ownsRow lo 3 1 v n (xs.map vI)) (hn : n = xs.length) : IntsO lo w.heap.size w v xs := ⟨by rw [← hn]; exact h, fun g hg => (h.lt g hg).2⟩


set_option maxRecDepth 20000 in
set_option maxHeartbeats 2000000 in
theorem implSeriesIn_any (v : Value) (t : List Ru) (w : World) (h : RowR 4 rRu w v t) (hn : t.length ≤ 1048576) (xs : List Int) (b : Bool) (hres : sinRes t = (xs, b)) :
    Calls Try.prog 83 #[v] w fun e w' => ∃ v', e = .returned (.tuple #[v', .bool b]) ∧ IntsO w.heap.size w'.heap.size w' v' xs ∧ Below w.heap.size w w' := by
  obtain ⟨i0, hi, hz0, hz1, hz2⟩ := info_parts Try.info_int
  have H := Lib.hid h
  have HRES := Lib.hid hres
  obtain ⟨bs, hs⟩ : ∃ b, isSch t = b := ⟨_, rfl⟩
  have HS := Lib.hid hs
  obtain ⟨a1, c1, hv, hl1, hm1, r1⟩ := h.rus
  subst hv
  have R1 := Lib.hid r1
  unfold maxLen at hm1
  clear h hres hs r1
  cases bs
  · obtain ⟨rfl, rfl⟩ := sinRes_no HRES.out HS.out
    go_enter Try.func83, Try.ntmps83
    go_wp2_with (first | (go_at_call 89; refine (implIsSchedule_any _ t _ H.out).mono ?_; rw [HS.out]; rintro e w1 ⟨rfl, b1⟩))
    go_ret2
    exact ⟨_, rfl, ⟨(Own.nil w.heap.size 3 1 w1).1, Under.nil _ _ _⟩, b1⟩
  · obtain ⟨rfl, rfl⟩ := sinRes_yes HRES.out HS.out
    have HC := Lib.hid (ser_compact HS.out)
    go_enter Try.func83, Try.ntmps83
    go_wp2_with (first | (go_at_call 89; refine (implIsSchedule_any _ t _ H.out).mono ?_; rw [HS.out]; rintro e w1 ⟨rfl, b1⟩))
    go_loopw [4, 12] (fun o i wr => ∃ k : Nat, k ≤ t.length ∧ i = .int .i64 k ∧ wr.ownsRow w.heap.size 3 1 o k (((t.take k).map (·.series)).map vI) ∧ Below w.heap.size w wr) (fun _ i _ => t.length - (intOf i).toNat)
    case atStart => exact ⟨0, Nat.zero_le _, rfl, (Own.nil w.heap.size 3 1 _).1, b1⟩
    case round =>
      clear b1
      obtain ⟨k, hk, rfl, hO, hb⟩ := hrel
      by_cases hlt : k < t.length
      · obtain ⟨b1, o1, hb1, rfl, e1⟩ := R1.out.resolve_left (fun e => by rw [e] at hlt; simp at hlt)
        obtain ⟨q0, q1, q2, q3, hok⟩ := e1 k hlt
        have hsucc : t.take (k + 1) = t.take k ++ [t.getD k ruD] := by rw [List.take_add_one, List.getElem?_eq_getElem hlt, getRu_lt hlt]; rfl
        obtain ⟨⟨x0, x1, x2, x3⟩, hx⟩ : ∃ s, t.getD k ruD = s := ⟨_, rfl⟩
        rw [hx] at q0 q1 q2 q3 hsucc
        simp only at q0 q1 q2 q3
        have f0 := cell_kept q0 hb
        have f1 := cell_kept q1 hb
        have f2 := cell_kept q2 hb
        have f3 := cell_kept q3 hb
        have HSU := Lib.hid hsucc
        have g0 : (0 : Int) ≤ (k : Int) := by omega
        have g1 : (k : Int) < (t.length : Int) := by omega
        have hsz := hb.size
        have hb2 := below_al hb (.cells #[.int .i64 x0, .int .i64 x1, .int .i64 x2, .int .i64 x3] 56 (0, 0))
        have hO2 := hO.alloc (.cells #[.int .i64 x0, .int .i64 x1, .int .i64 x2, .int .i64 x3] 56 (0, 0))
        clear q0 q1 q2 q3 hok e1 hx hsucc hO
        go_wp2_with (first | (at_builtin; refine wpList_append_own _ rfl _ _ 26 rfl w.heap.size 3 i0 (.int .i64 0) 1 8 Try.underlying26 hi hz0 hz1 hz2 rfl (by decide) _ _ _ rfl (hO2.alloc _) ⟨wr.heap.size + 1, 0, none⟩ 1 1 [.int .i64 x0] rfl rfl (cell1_new _ _ _ (by simp)) (by simp [Value.oneCell']) (by unfold maxLen; omega) (by omega) (by simp; omega) ?_; intro v' w4 hown' hgrow _))
        have HOWN := Lib.hid hown'
        have HB := Lib.hid (below_app hb2 (Nat.le_refl _) hO2 hgrow)
        clear hown' hgrow hO2
        go_wp2_with fail
        go_roundw
        case rel => exact ⟨k + 1, by omega, by go_num, (by rw [HSU.out]; simpa [vI] using HOWN.out), HB.out⟩
        case measure => simp [intOf]; omega
      · obtain rfl : k = t.length := by omega
        rw [List.take_length] at hO
        rcases Nat.eq_zero_or_pos t.length with h0 | h0
        · obtain rfl := List.length_eq_zero_iff.1 h0
          have hO2 := hO
          rcases hO.2 with ⟨e, _⟩ | ⟨g, cap, cur, e, hg, hh, hnc, hm, hs, ht⟩
          · subst e
            clear hO
            have HO := Lib.hid hO2
            clear hO2
            go_wp2_with (first | (go_at_call 92; refine (Try.slices_Compact_int_empty none 0 _).mono ?_; rintro e w5 ⟨rfl, rfl⟩))
            go_ret2
            exact ⟨_, rfl, IntsO.of_row (xs := []) (by simpa using HO.out) rfl, hb⟩
          · subst e
            clear hO hg hh hnc hm hs ht
            have HO := Lib.hid hO2
            clear hO2
            go_wp2_with (first | (go_at_call 92; refine (Try.slices_Compact_int_empty _ cap _).mono ?_; rintro e w5 ⟨rfl, rfl⟩))
            go_ret2
            exact ⟨_, rfl, IntsO.of_row (xs := []) (by simpa using HO.out) rfl, hb⟩
        · obtain ⟨g, cap, rfl, hbg, hgl, hnc, hcm, hlen, hH⟩ := Lib.holds_of_ownsRow hO (by rintro rfl; rcases hO.2 with ⟨_, e⟩ | ⟨_, _, _, e, _⟩; (· omega); cases e)
          have hcp := Try.slices_Compact_int g 0 cap (t.map (fun r : Ru => r.series)) wr hH (by rw [hlen]; unfold maxLen at hcm; omega) (by rw [hlen]; exact hnc)
          rw [HC.out, hlen] at hcp
          have HO := Lib.hid hO
          have HG := Lib.hid hbg
          have hsl := serF_len t
          have HL := Lib.hid hlen
          have HCP := Lib.hid hcp
          clear hO hH hcp hbg hlen h0
          go_wp2_with (first | (go_at_call 92; refine HCP.out.mono ?_; rintro e w5 ⟨rfl, q, rfl⟩))
          go_ret2
          have h1 := Lib.ownsRow_putRow (q := q) (k := (serF t).length) (ys := serF t ++ List.replicate (t.length - (serF t).length) 0) HO.out (by simp; omega) hsl
          rw [List.take_left' rfl] at h1
          exact ⟨_, rfl, IntsO.of_row h1 rfl, Lib.below_putRow hb HG.out⟩
end Go.Proofs.Ytenjajcknmfhfaa

namespace Go.Proofs.Ytenjajcknmfhfaa
set_option linter.unusedVariables false
open Go.RowKit Go.Sort


theorem implDueDay_any (v v1 : Value) (r : Rec) (t : List Ru) (w : World) (h : RecV w v r) (h1 : RowR 4 rRu w v1 t) (hn : t.length ≤ 1048576) (d : Int) (b : Bool) (hres : dueRes r t = (d, b)) :
    Calls Try.prog 130 #[v, v1] w fun e w' => e = .returned (.tuple #[.int .i64 d, .bool b]) ∧ Below w.heap.size w w' := by
  obtain ⟨s, rfl, h0, hok⟩ := h
  have HV := Lib.hid (show ∀ W, Below w.heap.size w W → RecV W (.agg #[.int .i64 r.id, .int .i64 r.series, .int .i64 r.made, s]) r from fun W hb => ⟨s, rfl, h0.below rEv_stable hb, hok⟩)
  have H1 := Lib.hid h1
  have b0 := below_al (Below.refl w.heap.size w) (RBOX r s 63)
  obtain ⟨q, d', b', hs⟩ : ∃ q d' b', setF r t = (q, d', b') := ⟨_, _, _, rfl⟩
  unfold dueRes at hres
  rw [hs] at hres
  obtain ⟨rfl, rfl⟩ := Prod.mk.inj hres
  have HS := Lib.hid hs
  clear h0 hok h1 hres hs
  go_enter Try.func130, Try.ntmps130
  go_wp2_with (first | (go_at_call 102; refine (settle_any _ _ r t _ (HV.out _ b0) (H1.out.below rRu_stable b0) hn q d' b' HS.out).mono ?_; rintro e w1 ⟨rfl, b1⟩; replace b1 := below_chain b0 b1))
  go_ret2
  exact ⟨rfl, below_al b1 _⟩

theorem implDecidingRule_any (v v1 : Value) (r : Rec) (t : List Ru) (w : World) (h : RecV w v r) (h1 : RowR 4 rRu w v1 t) (hn : t.length ≤ 1048576) (q : Ru) (b : Bool) (hres : decRes r t = (q, b)) :
    Calls Try.prog 41 #[v, v1] w fun e w' => e = .returned (.tuple #[.agg #[.int .i64 q.series, .int .i64 q.event, .int .i64 q.days, .int .i64 q.act], .bool b]) ∧ Below w.heap.size w w' := by
  obtain ⟨s, rfl, h0, hok⟩ := h
  have HV := Lib.hid (show ∀ W, Below w.heap.size w W → RecV W (.agg #[.int .i64 r.id, .int .i64 r.series, .int .i64 r.made, s]) r from fun W hb => ⟨s, rfl, h0.below rEv_stable hb, hok⟩)
  have H1 := Lib.hid h1
  have b0 := below_al (Below.refl w.heap.size w) (RBOX r s 63)
  obtain ⟨q', d', b', hs⟩ : ∃ q d' b', setF r t = (q, d', b') := ⟨_, _, _, rfl⟩
  unfold decRes at hres
  rw [hs] at hres
  obtain ⟨rfl, rfl⟩ := Prod.mk.inj hres
  have HS := Lib.hid hs
  replace b0 := below_al b0 (.cells #[.int .i64 0, .int .i64 0, .int .i64 0, .int .i64 0] 56 (0, 0))
  have HX0 : Hid (UBox ((w.alloc (RBOX r s 63)).alloc (.cells #[.int .i64 0, .int .i64 0, .int .i64 0, .int .i64 0] 56 (0, 0))) (w.heap.size + 1) ruD) := Lib.hid (by rw [← (show (w.alloc (RBOX r s 63)).heap.size = w.heap.size + 1 by simp)]; exact UBox.new (w.alloc (RBOX r s 63)) ruD 56)
  clear h0 hok h1 hres hs
  obtain ⟨x0, x1, x2, x3⟩ := q'
  go_enter Try.func41, Try.ntmps41
  go_wp2_with (first | (go_at_call 102; refine (settle_any _ _ r t _ (HV.out _ b0) (H1.out.below rRu_stable b0) hn _ d' b' HS.out).mono ?_; rintro e w1 ⟨rfl, b1⟩; have HX1 := Lib.hid ((HX0.out.kept b1).al (.cells #[.int .i64 x0, .int .i64 x1, .int .i64 x2, .int .i64 x3] 56 (0, 0))); obtain ⟨z0, z1, z2, z3, y0, y1, y2, y3⟩ := HX1.out; simp only [ruD] at z0 z1 z2 z3; replace b1 := below_chain b0 b1; simp only))
  refine bodyPost_ret (v := .tuple #[.agg #[.int .i64 x0, .int .i64 x1, .int .i64 x2, .int .i64 x3], .bool b']) (by simp [results, Try.results41 , go_sem, z0, z1, z2, z3]) rfl ⟨rfl, ?_⟩
  exact below_putU (below_al b1 _) (by omega) ⟨x0, x1, x2, x3⟩

set_option maxRecDepth 20000 in
set_option maxHeartbeats 2000000 in
theorem implIsDue_any (v v1 : Value) (r : Rec) (t : List Ru) (dy : Int) (w : World) (h : RecV w v r) (h1 : RowR 4 rRu w v1 t) (hn : t.length ≤ 1048576) (a b : Bool) (hres : isdRes r t dy = (a, b)) :
    Calls Try.prog 60 #[v, v1, .int .i64 dy] w fun e w' => e = .returned (.tuple #[.bool a, .bool b]) ∧ Below w.heap.size w w' := by
  obtain ⟨s, rfl, h0, hok⟩ := h
  have HV := Lib.hid (show ∀ W, Below w.heap.size w W → RecV W (.agg #[.int .i64 r.id, .int .i64 r.series, .int .i64 r.made, s]) r from fun W hb => ⟨s, rfl, h0.below rEv_stable hb, hok⟩)
  have H1 := Lib.hid h1
  have b0 := below_al (Below.refl w.heap.size w) (RBOX r s 63)
  have HC0 := Lib.hid (Box4.new w r s 63)
  obtain ⟨br, hr⟩ : ∃ b, isRec r = b := ⟨_, rfl⟩
  obtain ⟨bs, hs⟩ : ∃ b, isSch t = b := ⟨_, rfl⟩
  obtain ⟨bd, hd⟩ : ∃ b, decide (0 ≤ dy ∧ dy ≤ 20000) = b := ⟨_, rfl⟩
  have HR := Lib.hid hr
  have HS := Lib.hid hs
  have HD := Lib.hid hd
  have HRES := Lib.hid hres
  clear h0 hok h1 hres hr hs hd
  have NO : ¬ (askB r t = true ∧ (0 ≤ dy ∧ dy ≤ 20000)) → a = false ∧ b = false := fun hn => by
    have := HRES.out
    unfold isdRes at this
    rw [if_neg hn] at this
    obtain ⟨h1, h2⟩ := Prod.mk.inj this
    exact ⟨h1.symm, h2.symm⟩
  have NO := Lib.hid NO
  cases br
  · obtain ⟨rfl, rfl⟩ := NO.out (fun h => by have := ask_iff.1 h.1; rw [HR.out] at this; exact absurd this.1 (by simp))
    go_enter Try.func60, Try.ntmps60
    go_wp2_with (first | (go_at_call 128; refine (implIsRecord_any _ r _ (HV.out _ b0)).mono ?_; rw [HR.out]; rintro e w1 ⟨rfl, b1⟩; replace b1 := below_chain b0 b1))
    go_ret2
    exact ⟨rfl, b1⟩
  · cases bs
    · obtain ⟨rfl, rfl⟩ := NO.out (fun h => by have := ask_iff.1 h.1; rw [HS.out] at this; exact absurd this.2 (by simp))
      go_enter Try.func60, Try.ntmps60
      go_wp2_with (first | (go_at_call 128; refine (implIsRecord_any _ r _ (HV.out _ b0)).mono ?_; rw [HR.out]; rintro e w1 ⟨rfl, b1⟩; replace b1 := below_chain b0 b1) | (go_at_call 89; refine (implIsSchedule_any _ t _ (H1.out.below rRu_stable b1)).mono ?_; rw [HS.out]; rintro e w2 ⟨rfl, b2⟩; replace b2 := below_chain b1 b2))
      go_ret2
      exact ⟨rfl, b2⟩
    · cases bd
      · obtain ⟨rfl, rfl⟩ := NO.out (fun h => of_decide_eq_false HD.out h.2)
        go_enter Try.func60, Try.ntmps60
        go_wp2_with (first | (go_at_call 128; refine (implIsRecord_any _ r _ (HV.out _ b0)).mono ?_; rw [HR.out]; rintro e w1 ⟨rfl, b1⟩; replace b1 := below_chain b0 b1) | (go_at_call 89; refine (implIsSchedule_any _ t _ (H1.out.below rRu_stable b1)).mono ?_; rw [HS.out]; rintro e w2 ⟨rfl, b2⟩; replace b2 := below_chain b1 b2) | (go_at_call 111; refine (isDay_any _ _).mono ?_; rw [HD.out]; rintro e w3 ⟨rfl, rfl⟩))
        go_ret2
        exact ⟨rfl, b2⟩
      · have hask : askB r t = true := ask_iff.2 ⟨HR.out, HS.out⟩
        have hq := HRES.out
        unfold isdRes at hq
        rw [if_pos ⟨hask, of_decide_eq_true HD.out⟩] at hq
        obtain ⟨hqa, rfl⟩ := Prod.mk.inj hq
        obtain ⟨n, k, hdr⟩ : ∃ n k, dueRes r t = (n, k) := ⟨_, _, rfl⟩
        have hA : a = (k && decide (n ≤ dy)) := by
          rw [← hqa]
          unfold dueRes at hdr
          rcases Int.lt_or_le (dueF r t) 0 with hl | hl
          · rw [setF_no (.inr hl)] at hdr
            obtain ⟨rfl, rfl⟩ := Prod.mk.inj hdr
            simp; omega
          · rw [setF_yes hask hl] at hdr
            obtain ⟨rfl, rfl⟩ := Prod.mk.inj hdr
            simp [hl]
        subst hA
        have HDR := Lib.hid hdr
        clear hq hqa hask hdr NO HRES
        have hc := HC0.out
        cases k
        · go_enter Try.func60, Try.ntmps60
          go_wp2_with (first | (go_at_call 128; refine (implIsRecord_any _ r _ (HV.out _ b0)).mono ?_; rw [HR.out]; rintro e w1 ⟨rfl, b1⟩; have HC1 := Lib.hid (HC0.out.kept b1); replace b1 := below_chain b0 b1) | (go_at_call 89; refine (implIsSchedule_any _ t _ (H1.out.below rRu_stable b1)).mono ?_; rw [HS.out]; rintro e w2 ⟨rfl, b2⟩; obtain ⟨c0, c1, c2, c3⟩ := HC1.out.kept b2; replace b2 := below_chain b1 b2) | (go_at_call 111; refine (isDay_any _ _).mono ?_; rw [HD.out]; rintro e w3 ⟨rfl, rfl⟩) | (go_at_call 130; refine (implDueDay_any _ _ r t _ (HV.out _ b2) (H1.out.below rRu_stable b2) hn n false HDR.out).mono ?_; rintro e w4 ⟨rfl, b4⟩; replace b4 := below_chain b2 b4))
          go_ret2
          exact ⟨rfl, b4⟩
        · go_enter Try.func60, Try.ntmps60
          go_wp2_with (first | (go_at_call 128; refine (implIsRecord_any _ r _ (HV.out _ b0)).mono ?_; rw [HR.out]; rintro e w1 ⟨rfl, b1⟩; have HC1 := Lib.hid (HC0.out.kept b1); replace b1 := below_chain b0 b1) | (go_at_call 89; refine (implIsSchedule_any _ t _ (H1.out.below rRu_stable b1)).mono ?_; rw [HS.out]; rintro e w2 ⟨rfl, b2⟩; obtain ⟨c0, c1, c2, c3⟩ := HC1.out.kept b2; replace b2 := below_chain b1 b2) | (go_at_call 111; refine (isDay_any _ _).mono ?_; rw [HD.out]; rintro e w3 ⟨rfl, rfl⟩) | (go_at_call 130; refine (implDueDay_any _ _ r t _ (HV.out _ b2) (H1.out.below rRu_stable b2) hn n true HDR.out).mono ?_; rintro e w4 ⟨rfl, b4⟩; replace b4 := below_chain b2 b4))
          go_ret2
          exact ⟨by simp, b4⟩


theorem perEnds_map (r : Rec) (t : List Ru) : perEnds r t = (perRules r t).map (endR r) := by
  unfold perEnds perRules
  split
  · rfl
  · rfl
theorem per_sign {r : Rec} {t : List Ru} : ∀ u ∈ perRules r t, (endR r u = -1 ↔ endR r u < 0) := by
  intro u hu
  rcases ha : askB r t with _ | _
  · unfold perRules at hu; rw [if_neg (by rw [ha]; simp)] at hu; cases hu
  · have hq := ask_iff.1 ha
    unfold perRules at hu
    rw [if_pos ha] at hu
    exact endR_eq hq.1 (forRu_ok hq.2 _ u hu)

theorem hit_set {r : Rec} {t : List Ru} {d a : Int} {q : Ru} {n : Int} {b : Bool} (ha : askB r t = true) (h : setF r t = (q, n, b)) : hitB t d a r = (b && (decide (n ≤ d) && decide (q.act = a))) := by
  unfold hitB
  rcases Int.lt_or_le (dueF r t) 0 with h1 | h1
  · rw [setF_no (.inr h1)] at h
    cases h
    simp; omega
  · rw [setF_yes ha h1] at h
    cases h
    rw [Bool.eq_iff_iff]
    simp [h1]
    constructor
    · rintro ⟨x, y⟩; exact ⟨y, x⟩
    · rintro ⟨x, y⟩; exact ⟨y, x⟩

theorem none_iff {t : List Ru} {r : Rec} : noneB t r = decide (¬ r.series ∈ serF t) := by
  unfold noneB
  apply decide_eq_decide.2
  rw [serF_iff, List.length_eq_zero_iff]
  unfold forRu
  rw [List.filter_eq_nil_iff]
  constructor
  · rintro h ⟨u, hu, e⟩; exact h u hu (by simp [e])
  · intro h u hu e; exact h ⟨u, hu, by simpa using e⟩

end Go.Proofs.Ytenjajcknmfhfaa

namespace Go.Proofs.Ytenjajcknmfhfaa
set_option linter.unusedVariables false
open Go.RowKit Go.Sort

set_option maxRecDepth 20000 in
set_option maxHeartbeats 4000000 in
theorem implMayDestroy_any (v v1 v2 : Value) (t : List Ho) (r : Rec) (u : List Ru) (d : Int) (w : World) (h : RowR 6 rHo w v t) (h1 : RecV w v1 r) (h2 : RowR 4 rRu w v2 u) (hn : u.length ≤ 1048576) (a b : Bool) (hres : mayRes t r u d = (a, b)) :
    Calls Try.prog 55 #[v, v1, v2, .int .i64 d] w fun e w' => e = .returned (.tuple #[.bool a, .bool b]) ∧ Below w.heap.size w w' := by
  obtain ⟨s, rfl, hr, hok⟩ := h1
  obtain ⟨y0, y1, y2, y3⟩ := r
  simp only at hr ⊢
  have HV := Lib.hid (show ∀ W, Below w.heap.size w W → RecV W (.agg #[.int .i64 y0, .int .i64 y1, .int .i64 y2, s]) ⟨y0, y1, y2, y3⟩ from fun W hW => ⟨s, rfl, hr.below rEv_stable hW, hok⟩)
  obtain ⟨sb, sd, rfl, _⟩ := hr
  have HBX := Lib.hid (show ∀ W, Below (w.alloc (.cells #[.int .i64 y0, .int .i64 y1, .int .i64 y2, .slice sb y3.length sd] 63 (0, 0))).heap.size (w.alloc (.cells #[.int .i64 y0, .int .i64 y1, .int .i64 y2, .slice sb y3.length sd] 63 (0, 0))) W → W.cell? ⟨w.heap.size, 0, none⟩ = some (.int .i64 y0) ∧ W.cell? ⟨w.heap.size, 1, none⟩ = some (.int .i64 y1) ∧ W.cell? ⟨w.heap.size, 2, none⟩ = some (.int .i64 y2) ∧ W.cell? ⟨w.heap.size, 3, none⟩ = some (.slice sb y3.length sd) from
    fun W hW => ⟨cell_kept (cell_new w _ _ 0 rfl) hW, cell_kept (cell_new w _ _ 1 rfl) hW, cell_kept (cell_new w _ _ 2 rfl) hW, cell_kept (cell_new w _ _ 3 rfl) hW⟩)
  have H := Lib.hid h
  have HU := Lib.hid h2
  have NO := Lib.hid (fun hn => mayRes_no hres hn)
  have YES := Lib.hid (fun hn => mayRes_yes hres hn)
  obtain ⟨bg, hg⟩ : ∃ b, areHo t = b := ⟨_, rfl⟩
  have HG := Lib.hid hg
  obtain ⟨ad, bd, hisd⟩ : ∃ a b, isdRes ⟨y0, y1, y2, y3⟩ u d = (a, b) := ⟨_, _, rfl⟩
  have HISD := Lib.hid hisd
  clear h h2 hres hok hg
  by_cases hask : askB ⟨y0, y1, y2, y3⟩ u = true ∧ (0 ≤ d ∧ d ≤ 20000)
  · have hi := hisd
    unfold isdRes at hi
    rw [if_pos hask] at hi
    obtain ⟨ha1, ha2⟩ := Prod.mk.inj hi
    subst ha2
    have HB := Lib.hid ha1
    have HASK := Lib.hid hask
    clear hi ha1 hask hisd
    cases bg
    · obtain ⟨rfl, rfl⟩ := NO.out (fun hc => by have := (askH_iff.1 hc.1).1; rw [HG.out] at this; cases this)
      go_enter Try.func55, Try.ntmps55
      go_wp2_with (first | (go_at_call 60; refine (implIsDue_any _ _ ⟨y0, y1, y2, y3⟩ u d _ (HV.out _ (below_al (Below.refl _ _) _)) (HU.out.below rRu_stable (below_al (Below.refl _ _) _)) hn _ _ HISD.out).mono ?_; rintro e w1 ⟨rfl, b1⟩; obtain ⟨c0, c1, c2, c3⟩ := HBX.out _ b1; have b1w := below_chain (below_al (Below.refl w.heap.size w) _) b1) | (go_at_call 57; refine (implAreHo_any _ t _ (H.out.below rHo_stable b1w)).mono ?_; rw [HG.out]; rintro e w2 ⟨rfl, b2⟩; replace b1 := b1.trans (b2.mono b1.size); obtain ⟨c0, c1, c2, c3⟩ := HBX.out _ b1; replace b1w := b1w.trans (b2.mono b1w.size); clear b2))
      go_ret2
      exact ⟨rfl, b1w⟩
    · obtain ⟨ea, rfl⟩ := YES.out ⟨askH_iff.2 ⟨HG.out, (ask_iff.1 HASK.out.1).1, HASK.out.2⟩, (ask_iff.1 HASK.out.1).2⟩
      obtain ⟨⟨q0, q1, q2, q3⟩, bdr, hdr⟩ : ∃ q b, decRes ⟨y0, y1, y2, y3⟩ u = (q, b) := ⟨_, _, rfl⟩
      have HDR := Lib.hid hdr
      obtain ⟨bh, hbh⟩ : ∃ b, heldB t ⟨y0, y1, y2, y3⟩ d = b := ⟨_, rfl⟩
      have HHD := Lib.hid hbh
      cases ad
      · obtain rfl : a = false := by rw [ea]; rw [may_eq (d := d) HB.out rfl hbh]; rfl
        clear ea hdr hbh NO YES
        go_enter Try.func55, Try.ntmps55
        go_wp2_with (first | (go_at_call 60; refine (implIsDue_any _ _ ⟨y0, y1, y2, y3⟩ u d _ (HV.out _ (below_al (Below.refl _ _) _)) (HU.out.below rRu_stable (below_al (Below.refl _ _) _)) hn _ _ HISD.out).mono ?_; rintro e w1 ⟨rfl, b1⟩; obtain ⟨c0, c1, c2, c3⟩ := HBX.out _ b1; have b1w := below_chain (below_al (Below.refl w.heap.size w) _) b1) | (go_at_call 57; refine (implAreHo_any _ t _ (H.out.below rHo_stable b1w)).mono ?_; rw [HG.out]; rintro e w2 ⟨rfl, b2⟩; replace b1 := b1.trans (b2.mono b1.size); obtain ⟨c0, c1, c2, c3⟩ := HBX.out _ b1; replace b1w := b1w.trans (b2.mono b1w.size); clear b2) | (go_at_call 41; refine (implDecidingRule_any _ _ ⟨y0, y1, y2, y3⟩ u _ (HV.out _ b1w) (HU.out.below rRu_stable b1w) hn _ _ HDR.out).mono ?_; rintro e w3 ⟨rfl, b3⟩; replace b1 := below_al (b1.trans (b3.mono b1.size)) (.cells #[.int .i64 q0, .int .i64 q1, .int .i64 q2, .int .i64 q3] 56 (0, 0)); obtain ⟨c0, c1, c2, c3⟩ := HBX.out _ b1; replace b1w := below_al (b1w.trans (b3.mono b1w.size)) (.cells #[.int .i64 q0, .int .i64 q1, .int .i64 q2, .int .i64 q3] 56 (0, 0)); clear b3; simp only))
        go_ret2
        exact ⟨rfl, b1w⟩
      · have hd0 := of_decide_eq_true HB.out
        have hrul : ruleF ⟨y0, y1, y2, y3⟩ u = ⟨q0, q1, q2, q3⟩ := by
          have := setF_yes HASK.out.1 hd0.1
          unfold decRes at hdr
          rw [this] at hdr
          exact (Prod.mk.inj hdr).1
        obtain ⟨bt, hbt⟩ : ∃ b, decide (q3 = 3) = b := ⟨_, rfl⟩
        have EA := Lib.hid (ea.trans (may_eq (d := d) HB.out (show decide ((ruleF ⟨y0, y1, y2, y3⟩ u).act = 3) = bt by rw [hrul]; exact hbt) hbh))
        have HBT := Lib.hid hbt
        clear ea hdr hbh hd0 hrul hbt NO YES
        by_cases h3 : q3 = 3
        · have hq : (q3 == 3) = true := by simp [h3]
          obtain rfl : bt = true := HBT.out.symm.trans (decide_eq_true h3)
          have H3 := Lib.hid h3
          clear h3
          cases bh
          · obtain rfl : a = true := by rw [EA.out]; rfl
            go_enter Try.func55, Try.ntmps55
            go_wp2_with (first | (go_at_call 60; refine (implIsDue_any _ _ ⟨y0, y1, y2, y3⟩ u d _ (HV.out _ (below_al (Below.refl _ _) _)) (HU.out.below rRu_stable (below_al (Below.refl _ _) _)) hn _ _ HISD.out).mono ?_; rintro e w1 ⟨rfl, b1⟩; obtain ⟨c0, c1, c2, c3⟩ := HBX.out _ b1; have b1w := below_chain (below_al (Below.refl w.heap.size w) _) b1) | (go_at_call 57; refine (implAreHo_any _ t _ (H.out.below rHo_stable b1w)).mono ?_; rw [HG.out]; rintro e w2 ⟨rfl, b2⟩; replace b1 := b1.trans (b2.mono b1.size); obtain ⟨c0, c1, c2, c3⟩ := HBX.out _ b1; replace b1w := b1w.trans (b2.mono b1w.size); clear b2) | (go_at_call 41; refine (implDecidingRule_any _ _ ⟨y0, y1, y2, y3⟩ u _ (HV.out _ b1w) (HU.out.below rRu_stable b1w) hn _ _ HDR.out).mono ?_; rintro e w3 ⟨rfl, b3⟩; replace b1 := below_al (b1.trans (b3.mono b1.size)) (.cells #[.int .i64 q0, .int .i64 q1, .int .i64 q2, .int .i64 q3] 56 (0, 0)); obtain ⟨c0, c1, c2, c3⟩ := HBX.out _ b1; replace b1w := below_al (b1w.trans (b3.mono b1w.size)) (.cells #[.int .i64 q0, .int .i64 q1, .int .i64 q2, .int .i64 q3] 56 (0, 0)); clear b3; simp only) | (go_at_call 121; refine (covers_any _ ⟨y0, y1, y2, y3⟩ d _ (HV.out _ b1w)).mono ?_; rintro e w4 ⟨B1, B2, rfl, hcov, b4⟩; replace b1w := b1w.trans (b4.mono b1w.size); clear b4) | (go_at_call 120; refine (covHas_any _ t ⟨y0, y1, y2, y3⟩ d B1 B2 _ (H.out.below rHo_stable b1w) hcov).mono ?_; rw [HHD.out]; rintro e w5 ⟨rfl, b5⟩; replace b1w := b1w.trans (b5.mono b1w.size); clear b5))
            go_ret2
            exact ⟨rfl, b1w⟩
          · obtain rfl : a = false := by rw [EA.out]; rfl
            go_enter Try.func55, Try.ntmps55
            go_wp2_with (first | (go_at_call 60; refine (implIsDue_any _ _ ⟨y0, y1, y2, y3⟩ u d _ (HV.out _ (below_al (Below.refl _ _) _)) (HU.out.below rRu_stable (below_al (Below.refl _ _) _)) hn _ _ HISD.out).mono ?_; rintro e w1 ⟨rfl, b1⟩; obtain ⟨c0, c1, c2, c3⟩ := HBX.out _ b1; have b1w := below_chain (below_al (Below.refl w.heap.size w) _) b1) | (go_at_call 57; refine (implAreHo_any _ t _ (H.out.below rHo_stable b1w)).mono ?_; rw [HG.out]; rintro e w2 ⟨rfl, b2⟩; replace b1 := b1.trans (b2.mono b1.size); obtain ⟨c0, c1, c2, c3⟩ := HBX.out _ b1; replace b1w := b1w.trans (b2.mono b1w.size); clear b2) | (go_at_call 41; refine (implDecidingRule_any _ _ ⟨y0, y1, y2, y3⟩ u _ (HV.out _ b1w) (HU.out.below rRu_stable b1w) hn _ _ HDR.out).mono ?_; rintro e w3 ⟨rfl, b3⟩; replace b1 := below_al (b1.trans (b3.mono b1.size)) (.cells #[.int .i64 q0, .int .i64 q1, .int .i64 q2, .int .i64 q3] 56 (0, 0)); obtain ⟨c0, c1, c2, c3⟩ := HBX.out _ b1; replace b1w := below_al (b1w.trans (b3.mono b1w.size)) (.cells #[.int .i64 q0, .int .i64 q1, .int .i64 q2, .int .i64 q3] 56 (0, 0)); clear b3; simp only) | (go_at_call 121; refine (covers_any _ ⟨y0, y1, y2, y3⟩ d _ (HV.out _ b1w)).mono ?_; rintro e w4 ⟨B1, B2, rfl, hcov, b4⟩; replace b1w := b1w.trans (b4.mono b1w.size); clear b4) | (go_at_call 120; refine (covHas_any _ t ⟨y0, y1, y2, y3⟩ d B1 B2 _ (H.out.below rHo_stable b1w) hcov).mono ?_; rw [HHD.out]; rintro e w5 ⟨rfl, b5⟩; replace b1w := b1w.trans (b5.mono b1w.size); clear b5))
            go_ret2
            exact ⟨rfl, b1w⟩
        · have hq : (q3 == 3) = false := by simp [h3]
          obtain rfl : bt = false := HBT.out.symm.trans (decide_eq_false h3)
          obtain rfl : a = false := by rw [EA.out]; rfl
          clear h3
          go_enter Try.func55, Try.ntmps55
          go_wp2_with (first | (go_at_call 60; refine (implIsDue_any _ _ ⟨y0, y1, y2, y3⟩ u d _ (HV.out _ (below_al (Below.refl _ _) _)) (HU.out.below rRu_stable (below_al (Below.refl _ _) _)) hn _ _ HISD.out).mono ?_; rintro e w1 ⟨rfl, b1⟩; obtain ⟨c0, c1, c2, c3⟩ := HBX.out _ b1; have b1w := below_chain (below_al (Below.refl w.heap.size w) _) b1) | (go_at_call 57; refine (implAreHo_any _ t _ (H.out.below rHo_stable b1w)).mono ?_; rw [HG.out]; rintro e w2 ⟨rfl, b2⟩; replace b1 := b1.trans (b2.mono b1.size); obtain ⟨c0, c1, c2, c3⟩ := HBX.out _ b1; replace b1w := b1w.trans (b2.mono b1w.size); clear b2) | (go_at_call 41; refine (implDecidingRule_any _ _ ⟨y0, y1, y2, y3⟩ u _ (HV.out _ b1w) (HU.out.below rRu_stable b1w) hn _ _ HDR.out).mono ?_; rintro e w3 ⟨rfl, b3⟩; replace b1 := below_al (b1.trans (b3.mono b1.size)) (.cells #[.int .i64 q0, .int .i64 q1, .int .i64 q2, .int .i64 q3] 56 (0, 0)); obtain ⟨c0, c1, c2, c3⟩ := HBX.out _ b1; replace b1w := below_al (b1w.trans (b3.mono b1w.size)) (.cells #[.int .i64 q0, .int .i64 q1, .int .i64 q2, .int .i64 q3] 56 (0, 0)); clear b3; simp only))
          go_ret2
          exact ⟨rfl, b1w⟩
  · have hi := hisd
    unfold isdRes at hi
    rw [if_neg hask] at hi
    obtain ⟨ha1, ha2⟩ := Prod.mk.inj hi
    subst ha1
    subst ha2
    obtain ⟨rfl, rfl⟩ := NO.out (fun hc => hask ⟨ask_iff.2 ⟨(askH_iff.1 hc.1).2.1, hc.2⟩, (askH_iff.1 hc.1).2.2⟩)
    clear hi hask hisd
    go_enter Try.func55, Try.ntmps55
    go_wp2_with (first | (go_at_call 60; refine (implIsDue_any _ _ ⟨y0, y1, y2, y3⟩ u d _ (HV.out _ (below_al (Below.refl _ _) _)) (HU.out.below rRu_stable (below_al (Below.refl _ _) _)) hn _ _ HISD.out).mono ?_; rintro e w1 ⟨rfl, b1⟩; obtain ⟨c0, c1, c2, c3⟩ := HBX.out _ b1; have b1w := below_chain (below_al (Below.refl w.heap.size w) _) b1))
    go_ret2
    exact ⟨rfl, b1w⟩

set_option maxRecDepth 20000 in
set_option maxHeartbeats 4000000 in
theorem implFirstDestruction_any (v v1 v2 : Value) (t : List Ho) (r : Rec) (u : List Ru) (w : World) (h : RowR 6 rHo w v t) (h1 : RecV w v1 r) (h2 : RowR 4 rRu w v2 u) (hn : u.length ≤ 1048576) (n : Int) (b : Bool) (hres : fdRes t r u = (n, b)) :
    Calls Try.prog 62 #[v, v1, v2] w fun e w' => e = .returned (.tuple #[.int .i64 n, .bool b]) ∧ Below w.heap.size w w' := by
  obtain ⟨s, rfl, hr, hok⟩ := h1
  obtain ⟨y0, y1, y2, y3⟩ := r
  simp only at hr ⊢
  have HV := Lib.hid (show ∀ W, Below w.heap.size w W → RecV W (.agg #[.int .i64 y0, .int .i64 y1, .int .i64 y2, s]) ⟨y0, y1, y2, y3⟩ from fun W hW => ⟨s, rfl, hr.below rEv_stable hW, hok⟩)
  obtain ⟨sb, sd, rfl, _⟩ := hr
  have HBX := Lib.hid (show ∀ W, Below (w.alloc (.cells #[.int .i64 y0, .int .i64 y1, .int .i64 y2, .slice sb y3.length sd] 63 (0, 0))).heap.size (w.alloc (.cells #[.int .i64 y0, .int .i64 y1, .int .i64 y2, .slice sb y3.length sd] 63 (0, 0))) W → W.cell? ⟨w.heap.size, 0, none⟩ = some (.int .i64 y0) ∧ W.cell? ⟨w.heap.size, 1, none⟩ = some (.int .i64 y1) ∧ W.cell? ⟨w.heap.size, 2, none⟩ = some (.int .i64 y2) ∧ W.cell? ⟨w.heap.size, 3, none⟩ = some (.slice sb y3.length sd) from
    fun W hW => ⟨cell_kept (cell_new w _ _ 0 rfl) hW, cell_kept (cell_new w _ _ 1 rfl) hW, cell_kept (cell_new w _ _ 2 rfl) hW, cell_kept (cell_new w _ _ 3 rfl) hW⟩)
  have H := Lib.hid h
  have HU := Lib.hid h2
  obtain ⟨⟨q0, q1, q2, q3⟩, n0, bs, hset⟩ : ∃ q n b, setF ⟨y0, y1, y2, y3⟩ u = (q, n, b) := ⟨_, _, _, rfl⟩
  have HSET := Lib.hid hset
  clear h h2 hok
  by_cases hask : askB ⟨y0, y1, y2, y3⟩ u = true ∧ 0 ≤ dueF ⟨y0, y1, y2, y3⟩ u
  · have hi := hset
    rw [setF_yes hask.1 hask.2] at hi
    injection hi with e1 e2
    injection e2 with e2 e3
    subst e2
    subst e3
    by_cases h3 : q3 = 3
    · have hq : (q3 != 3) = false := by simp [h3]
      have HFRE := Lib.hid ((fd_free (t := t) hask.1 hask.2 (by rw [e1]; exact h3)).symm.trans hres)
      have H3 := Lib.hid h3
      obtain ⟨n0, hn0⟩ : ∃ n0, dueF ⟨y0, y1, y2, y3⟩ u = n0 := ⟨_, rfl⟩
      rw [hn0] at HSET HFRE
      clear h3 hask hset hres e1 hn0
      go_enter Try.func62, Try.ntmps62
      go_wp2_with (first | (go_at_call 102; refine (settle_any _ _ ⟨y0, y1, y2, y3⟩ u _ (HV.out _ (below_al (Below.refl _ _) _)) (HU.out.below rRu_stable (below_al (Below.refl _ _) _)) hn _ _ _ HSET.out).mono ?_; rintro e w1 ⟨rfl, b1⟩; replace b1 := below_al b1 (.cells #[.int .i64 q0, .int .i64 q1, .int .i64 q2, .int .i64 q3] 56 (0, 0)); obtain ⟨c0, c1, c2, c3⟩ := HBX.out _ b1; have b1w := below_chain (below_al (Below.refl w.heap.size w) _) b1; simp only) | (go_at_call 65; refine (implFreeDay_any _ _ t ⟨y0, y1, y2, y3⟩ n0 _ (H.out.below rHo_stable b1w) (HV.out _ b1w) n b HFRE.out).mono ?_; rintro e w2 ⟨rfl, b2⟩; replace b1w := b1w.trans (b2.mono b1w.size); clear b2))
      go_ret2
      exact ⟨rfl, b1w⟩
    · have hq : (q3 != 3) = true := by simp [h3]
      have hno := (fd_none (t := t) (r := ⟨y0, y1, y2, y3⟩) (u := u) (.inr (.inr (by rw [e1]; exact h3)))).symm.trans hres
      obtain ⟨rfl, rfl⟩ := Prod.mk.inj hno
      clear h3 hask hset hres e1 hno
      go_enter Try.func62, Try.ntmps62
      go_wp2_with (first | (go_at_call 102; refine (settle_any _ _ ⟨y0, y1, y2, y3⟩ u _ (HV.out _ (below_al (Below.refl _ _) _)) (HU.out.below rRu_stable (below_al (Below.refl _ _) _)) hn _ _ _ HSET.out).mono ?_; rintro e w1 ⟨rfl, b1⟩; replace b1 := below_al b1 (.cells #[.int .i64 q0, .int .i64 q1, .int .i64 q2, .int .i64 q3] 56 (0, 0)); obtain ⟨c0, c1, c2, c3⟩ := HBX.out _ b1; have b1w := below_chain (below_al (Below.refl w.heap.size w) _) b1; simp only))
      go_ret2
      exact ⟨rfl, b1w⟩
  · have hor : askB ⟨y0, y1, y2, y3⟩ u = false ∨ dueF ⟨y0, y1, y2, y3⟩ u < 0 := by
      rcases hb : askB ⟨y0, y1, y2, y3⟩ u with _ | _
      · exact .inl rfl
      · exact .inr (Int.not_le.1 (fun h => hask ⟨hb, h⟩))
    have hi := hset
    rw [setF_no hor] at hi
    injection hi with e1 e2
    injection e2 with e2 e3
    subst e2
    subst e3
    have hno := (fd_none (t := t) (r := ⟨y0, y1, y2, y3⟩) (u := u) (hor.imp id .inl)).symm.trans hres
    obtain ⟨rfl, rfl⟩ := Prod.mk.inj hno
    clear hask hset hres e1 hno hor
    go_enter Try.func62, Try.ntmps62
    go_wp2_with (first | (go_at_call 102; refine (settle_any _ _ ⟨y0, y1, y2, y3⟩ u _ (HV.out _ (below_al (Below.refl _ _) _)) (HU.out.below rRu_stable (below_al (Below.refl _ _) _)) hn _ _ _ HSET.out).mono ?_; rintro e w1 ⟨rfl, b1⟩; replace b1 := below_al b1 (.cells #[.int .i64 q0, .int .i64 q1, .int .i64 q2, .int .i64 q3] 56 (0, 0)); obtain ⟨c0, c1, c2, c3⟩ := HBX.out _ b1; have b1w := below_chain (below_al (Below.refl w.heap.size w) _) b1; simp only))
    go_ret2
    exact ⟨rfl, b1w⟩
end Go.Proofs.Ytenjajcknmfhfaa
