/- Holds, the model's: HeldDays. -/
import Derived.Test.YtkjpehpodlpdhaaHo4S
import Derived.Test.YtkjpehpodlpdhaaHo7M
import Derived.Lib.QuietBelow
import Derived.BigQuiet
import Derived.WalkSmall
namespace Go.Proofs.Ytkjpehpodlpdhaa
set_option linter.unusedVariables false
open Go.RowKit Go.Sort

theorem l1LeastH_any (a b : Int) (w : World) : Calls Try.prog 113 #[.int .i64 a, .int .i64 b] w fun e w' => e = .returned (.int .i64 (min a b)) ∧ w' = w := by
  by_cases h : a < b
  · have hm : min a b = a := by omega
    rw [hm]
    clear hm
    go_enter Try.func113, Try.ntmps113
    go_wp2
    go_ret
    exact ⟨rfl, rfl⟩
  · have hm : min a b = b := by omega
    rw [hm]
    clear hm
    go_enter Try.func113, Try.ntmps113
    go_wp2
    go_ret
    exact ⟨rfl, rfl⟩

set_option maxRecDepth 20000 in
set_option maxHeartbeats 8000000 in
theorem specHeldDays_any (v v1 : Value) (t : List Ho) (r : Rec) (w : World) (h : RowR 6 rHo w v t) (h1 : RecV w v1 r) (n : Int) (b : Bool) (hres : hdRes t r = (n, b)) :
    Calls Try.prog 52 #[v, v1] w fun e w' => e = .returned (.tuple #[.int .i64 n, .bool b]) ∧ Below w.heap.size w w' := by
  obtain ⟨s, rfl, hr, hok⟩ := h1
  obtain ⟨y0, y1, y2, y3⟩ := r
  simp only at hr ⊢
  have HV := Lib.hid (show ∀ W, Below w.heap.size w W → RecV W (.agg #[.int .i64 y0, .int .i64 y1, .int .i64 y2, s]) ⟨y0, y1, y2, y3⟩ from fun W hW => ⟨s, rfl, hr.below rEv_stable hW, hok⟩)
  obtain ⟨sb, sd, rfl, _⟩ := hr
  have HBX := Lib.hid (show ∀ W, Below (w.alloc (.cells #[.int .i64 y0, .int .i64 y1, .int .i64 y2, .slice sb y3.length sd] 38 (0, 0))).heap.size (w.alloc (.cells #[.int .i64 y0, .int .i64 y1, .int .i64 y2, .slice sb y3.length sd] 38 (0, 0))) W → W.cell? ⟨w.heap.size, 0, none⟩ = some (.int .i64 y0) ∧ W.cell? ⟨w.heap.size, 1, none⟩ = some (.int .i64 y1) ∧ W.cell? ⟨w.heap.size, 2, none⟩ = some (.int .i64 y2) ∧ W.cell? ⟨w.heap.size, 3, none⟩ = some (.slice sb y3.length sd) from
    fun W hW => ⟨cell_kept (cell_new w _ _ 0 rfl) hW, cell_kept (cell_new w _ _ 1 rfl) hW, cell_kept (cell_new w _ _ 2 rfl) hW, cell_kept (cell_new w _ _ 3 rfl) hW⟩)
  have H := Lib.hid h
  obtain ⟨a1, c1, rfl, hl1, hm1, r1⟩ := h.hos
  have R1 := Lib.hid r1
  unfold maxLen at hm1
  obtain ⟨ba, ha⟩ : ∃ b, askH t ⟨y0, y1, y2, y3⟩ 0 = b := ⟨_, rfl⟩
  have HA := Lib.hid ha
  have NO := Lib.hid (fun hn => hdRes_no hres hn)
  have YES := Lib.hid (fun hn => hdRes_yes hres hn)
  clear h ha hres hok r1
  cases ba
  · obtain ⟨rfl, rfl⟩ := NO.out (fun hc => by have := askH_iff.2 ⟨hc.1, hc.2, (by omega : (0 : Int) ≤ 0 ∧ (0 : Int) ≤ 20000)⟩; rw [HA.out] at this; cases this)
    go_enter Try.func52, Try.ntmps52
    go_wp2_with (first | (go_at_call 82; refine (l9Asked_any _ _ t _ 0 _ (H.out.below rHo_stable (below_al (Below.refl _ _) _)) (HV.out _ (below_al (Below.refl _ _) _))).mono ?_; rw [HA.out]; rintro e w1 ⟨rfl, b1⟩; obtain ⟨c0, c1, c2, c3⟩ := HBX.out _ b1; have b1w := below_chain (below_al (Below.refl w.heap.size w) _) b1))
    go_ret2
    exact ⟨rfl, b1w⟩
  · have HAH := Lib.hid (askH_iff.1 HA.out).1
    have hn8 := ho_len HAH.out
    obtain ⟨e0, rfl⟩ := YES.out ⟨(askH_iff.1 HA.out).1, (askH_iff.1 HA.out).2.1⟩
    have E0 := Lib.hid e0
    clear e0 NO YES
    go_enter Try.func52, Try.ntmps52
    go_wp2_with (first | (go_at_call 82; refine (l9Asked_any _ _ t _ 0 _ (H.out.below rHo_stable (below_al (Below.refl _ _) _)) (HV.out _ (below_al (Below.refl _ _) _))).mono ?_; rw [HA.out]; rintro e w1 ⟨rfl, b1⟩; obtain ⟨c0, c1, c2, c3⟩ := HBX.out _ b1; have b1w := below_chain (below_al (Below.refl w.heap.size w) _) b1))
    have s1 := b1w.size
    go_loopw [6, 7] (fun n dy wr => ∃ (N D : Int), n = .int .i64 N ∧ dy = .int .i64 D ∧ Hid (HdM t ⟨y0, y1, y2, y3⟩ N D) ∧ Below w1.heap.size w1 wr) (fun _ dy _ => (20001 - intOf dy).toNat)
    case atStart => exact ⟨0, 0, rfl, rfl, Lib.hid (HdM.start t _), Below.refl _ _⟩
    case round =>
      obtain ⟨N, D, rfl, rfl, HM, hb⟩ := hrel
      obtain ⟨wo, hwo⟩ : ∃ x, x = wr := ⟨_, rfl⟩
      subst hwo
      have hbw := b1w.trans (hb.mono s1)
      obtain ⟨hN0, hN1⟩ := HM.out.bound
      have hD0 := HM.out.lo
      have hD1 := HM.out.hi
      by_cases hle : D ≤ 20000
      · have HDD : Hid (0 ≤ D ∧ D ≤ 20000) := Lib.hid ⟨hD0, hle⟩
        obtain ⟨F, hF⟩ : ∃ F, freeF t ⟨y0, y1, y2, y3⟩ D = F := ⟨_, rfl⟩
        obtain ⟨hF0, hF1⟩ := free_ge (t := t) (r := ⟨y0, y1, y2, y3⟩) hD0 hD1
        rw [hF] at hF0 hF1
        have HFF := Lib.hid hF
        clear hF
        obtain ⟨c0, c1, c2, c3⟩ := HBX.out _ (b1.trans (hb.mono b1.size))
        go_wp2_with (first | (go_at_call 90; refine (l9Free_any _ _ t ⟨y0, y1, y2, y3⟩ D _ (H.out.below rHo_stable hbw) (HV.out _ hbw) HAH.out HDD.out).mono ?_; rw [HFF.out]; rintro e w2 ⟨rfl, b2⟩; have hb2 := hb.trans (b2.mono hb.size); clear b2))
        go_loopw [9, 10] (fun x i wr => ∃ (j : Nat) (X : Int), j ≤ t.length ∧ i = .int .i64 j ∧ x = .int .i64 X ∧ Hid (NxM t ⟨y0, y1, y2, y3⟩ F j X) ∧ Below w1.heap.size w1 wr) (fun _ i _ => t.length - (intOf i).toNat)
        case atStart => exact ⟨0, 20001, Nat.zero_le _, rfl, rfl, Lib.hid (NxM.start t _ F), hb2⟩
        case round =>
          obtain ⟨j, X, hj, rfl, rfl, HX1, hb3⟩ := hrel
          have hb3w := b1w.trans (hb3.mono s1)
          have hsz := hb3.size
          by_cases hjt : j < t.length
          · obtain ⟨bR, oR, hbR, rfl, e1⟩ := R1.out.resolve_left (fun e => by rw [e] at hjt; simp at hjt)
            obtain ⟨⟨x0, x1, x2, x3, x4, x5⟩, hx⟩ : ∃ s, t.getD j hoD = s := ⟨_, rfl⟩
            obtain ⟨s, q0, q1, q2, q3, q4, q5, hr, hok⟩ := e1 j hjt
            have hone := endH_bd (ho_at HAH.out hjt)
            rw [hx] at q0 q1 q2 q4 q5 hr hok hone
            simp only at q0 q1 q2 q4 q5 hr hone
            have f1 := cell_kept q1 hb3w
            have m0 := cell_regrown (cell_kept q0 hb3w)
            have m1 := cell_regrown f1
            have m2 := cell_regrown (cell_kept q2 hb3w)
            have m3 := cell_regrown (cell_kept q3 hb3w)
            have m4 := cell_regrown (cell_kept q4 hb3w)
            have m5 := cell_regrown (cell_kept q5 hb3w)
            obtain ⟨d0, d1, d2, d3⟩ := HBX.out _ (b1.trans (hb3.mono b1.size))
            have n0 := cell_regrown d0
            have n1 := cell_regrown d1
            have n2 := cell_regrown d2
            have n3 := cell_regrown d3
            have hV : HoV wr (.agg #[.int .i64 x0, .int .i64 x1, .int .i64 x2, s, .int .i64 x4, .int .i64 x5]) ⟨x0, x1, x2, x3, x4, x5⟩ := ⟨s, rfl, hr.below hb3w, hok⟩
            obtain ⟨sa, sc, rfl, _⟩ := hr
            have g2 : (0 : Int) ≤ (j : Int) := by omega
            have g3 : (j : Int) < (t.length : Int) := by omega
            have HX := Lib.hid hx
            have hx20 := hone.2.2.2
            obtain ⟨bC, hbC⟩ : ∃ b, covB ⟨x0, x1, x2, x3, x4, x5⟩ ⟨y0, y1, y2, y3⟩ x1 = b := ⟨_, rfl⟩
            have hc : ∀ D os, Calls Try.prog 112 #[.agg #[.int .i64 x0, .int .i64 x1, .int .i64 x2, .slice sa x3.length sc, .int .i64 x4, .int .i64 x5], .agg #[.int .i64 y0, .int .i64 y1, .int .i64 y2, .slice sb y3.length sd], .int .i64 x1] (grow (redrawn wr D) os) fun e w'' => e = .returned (.bool bC) ∧ ∃ p : Regrown, w'' = grow (redrawn wr p.d) p.os := fun D os => Calls.regrown_of (by have := l9Covers_any _ _ _ _ x1 (grow (redrawn wr D) os) (hV.below (below_regrown wr D os)) (HV.out _ (hb3w.trans ((below_regrown wr D os).mono hb3w.size))) hx20; rwa [hbC] at this)
            have HBC := Lib.hid hbC
            clear q0 q1 q2 q3 q4 q5 hok hx e1 hbC hV hone d0 d1 d2 d3
            by_cases hgt : F < x1
            · cases bC
              · have HN2 := Lib.hid (HX1.out.skip (fun h => by rw [HX.out] at h; simp only at h; rw [HBC.out] at h; exact absurd h.2 (by simp)))
                go_wp2_with fail
                refine wp_region_quiet_below (by kernel_rfl) (by kernel_rfl) ?_
                repeat (go_big_quiet_step (first | exact hc _ _))
                refine wpQuiet_nil ?_
                intro _ hw'
                obtain ⟨⟨dq, osq⟩, hw''⟩ := hw'
                subst hw''
                have bq := below_regrown wr dq osq
                have y1f := cell_kept f1 bq
                have hb4 := hb3.trans (bq.mono hsz)
                generalize grow (redrawn wr dq) osq = w2 at *
                go_wp2
                go_roundw
                case rel => exact ⟨j + 1, X, by omega, by go_num, rfl, HN2, hb4⟩
                case measure => simp [intOf]; omega
              · have HN2 := Lib.hid (HX1.out.take (y := min X x1) (by rw [HX.out]; exact hgt) (by rw [HX.out]; exact hx20) (by rw [HX.out]; simp only; split <;> omega))
                go_wp2_with fail
                refine wp_region_quiet_below (by kernel_rfl) (by kernel_rfl) ?_
                repeat (go_big_quiet_step (first | exact hc _ _))
                refine wpQuiet_nil ?_
                intro _ hw'
                obtain ⟨⟨dq, osq⟩, hw''⟩ := hw'
                subst hw''
                have bq := below_regrown wr dq osq
                have y1f := cell_kept f1 bq
                have hb4 := hb3.trans (bq.mono hsz)
                generalize grow (redrawn wr dq) osq = w2 at *
                go_wp2_with (first | (go_at_call 113; refine (l1LeastH_any _ _ _).mono ?_; rintro e w' ⟨rfl, h'⟩; subst w'))
                go_roundw
                case rel => exact ⟨j + 1, min X x1, by omega, by go_num, rfl, HN2, hb4⟩
                case measure => simp [intOf]; omega
            · have dP : decide (F < x1) = false := decide_eq_false hgt
              have HN2 := Lib.hid (HX1.out.skip (fun h => by rw [HX.out] at h; exact hgt h.1))
              go_wp2_with fail
              refine wp_region_quiet_below (by kernel_rfl) (by kernel_rfl) ?_
              repeat (go_big_quiet_step (first | exact hc _ _))
              refine wpQuiet_nil ?_
              intro _ hw'
              obtain ⟨⟨dq, osq⟩, hw''⟩ := hw'
              subst hw''
              have bq := below_regrown wr dq osq
              have y1f := cell_kept f1 bq
              have hb4 := hb3.trans (bq.mono hsz)
              generalize grow (redrawn wr dq) osq = w2 at *
              go_wp2
              go_roundw
              case rel => exact ⟨j + 1, X, by omega, by go_num, rfl, HN2, hb4⟩
              case measure => simp [intOf]; omega
          · have hjl : j = t.length := by omega
            obtain ⟨hs1, hs2⟩ := HM.out.step hle HFF.out (by have := HX1.out; rwa [hjl] at this) HAH.out
            have HS1 := Lib.hid hs1
            have hX1 := HX1.out.hi
            clear hjl hs1
            go_wp2_with fail
            go_roundw
            case rel => exact ⟨N + F - D, X, rfl, rfl, HS1, hb3⟩
            case measure => simp [intOf]; omega
      · have hD : D = 20001 := by omega
        have EE : Hid (n = N) := Lib.hid (by have h1 := E0.out; have h2 := HM.out; rw [hD] at h2; rw [h1, h2.done])
        clear hD
        go_wp2_with fail
        go_ret2
        rw [EE.out]
        exact ⟨rfl, hbw⟩
end Go.Proofs.Ytkjpehpodlpdhaa
