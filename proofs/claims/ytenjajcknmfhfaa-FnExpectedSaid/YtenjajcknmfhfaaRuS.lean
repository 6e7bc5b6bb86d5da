/- Rules and schedules, the model's: l4One, l4Before, l4Good, l4For, RulesFor. -/
import Derived.Test.YtenjajcknmfhfaaSlRu
import Derived.Test.YtenjajcknmfhfaaL1In
import Derived.Lib.QuietBelow
import Derived.BigQuiet
import Derived.WalkSmall
namespace Go.Proofs.Ytenjajcknmfhfaa
set_option linter.unusedVariables false
open Go.RowKit Go.Sort

theorem specRu_any (x : Ru) (w : World) : Calls Try.prog 141 #[.agg #[.int .i64 x.series, .int .i64 x.event, .int .i64 x.days, .int .i64 x.act]] w fun e w' => e = .returned (.bool (isRu x)) ∧ Below w.heap.size w w' := by
  obtain ⟨x0, x1, x2, x3⟩ := x
  simp only
  obtain ⟨b0, h0⟩ : ∃ b, decide (1 ≤ x0 ∧ x0 ≤ 99) = b := ⟨_, rfl⟩
  obtain ⟨b1, h1⟩ : ∃ b, decide (0 ≤ x1 ∧ x1 ≤ 9) = b := ⟨_, rfl⟩
  obtain ⟨b2, h2⟩ : ∃ b, decide (0 ≤ x2 ∧ x2 ≤ 20000) = b := ⟨_, rfl⟩
  obtain ⟨b3, h3⟩ : ∃ b, decide (1 ≤ x3 ∧ x3 ≤ 3) = b := ⟨_, rfl⟩
  have hr : isRu ⟨x0, x1, x2, x3⟩ = (b0 && (b1 && (b2 && b3))) := by simp only [isRu]; rw [h0, h1, h2, h3]
  rw [hr]
  have H0 := Lib.hid h0
  have H1 := Lib.hid h1
  have H2 := Lib.hid h2
  have H3 := Lib.hid h3
  clear h0 h1 h2 h3 hr
  cases b0
  · go_enter Try.func141, Try.ntmps141
    go_wp2_with (first | (go_at_call 79; refine (l1In_any _ _ _ _).mono ?_; (first | rw [H0.out] | rw [H1.out] | rw [H2.out] | rw [H3.out]); rintro e w' ⟨rfl, rfl⟩))
    go_ret
    exact ⟨rfl, below_al (Below.refl _ _) _⟩
  · cases b1
    · go_enter Try.func141, Try.ntmps141
      go_wp2_with (first | (go_at_call 79; refine (l1In_any _ _ _ _).mono ?_; (first | rw [H0.out] | rw [H1.out] | rw [H2.out] | rw [H3.out]); rintro e w' ⟨rfl, rfl⟩))
      go_ret
      exact ⟨rfl, below_al (Below.refl _ _) _⟩
    · cases b2
      · go_enter Try.func141, Try.ntmps141
        go_wp2_with (first | (go_at_call 79; refine (l1In_any _ _ _ _).mono ?_; (first | rw [H0.out] | rw [H1.out] | rw [H2.out] | rw [H3.out]); rintro e w' ⟨rfl, rfl⟩))
        go_ret
        exact ⟨rfl, below_al (Below.refl _ _) _⟩
      · go_enter Try.func141, Try.ntmps141
        go_wp2_with (first | (go_at_call 79; refine (l1In_any _ _ _ _).mono ?_; (first | rw [H0.out] | rw [H1.out] | rw [H2.out] | rw [H3.out]); rintro e w' ⟨rfl, rfl⟩))
        go_ret
        exact ⟨rfl, below_al (Below.refl _ _) _⟩

theorem specBef_any (a b : Ru) (w : World) : Calls Try.prog 142 #[.agg #[.int .i64 a.series, .int .i64 a.event, .int .i64 a.days, .int .i64 a.act], .agg #[.int .i64 b.series, .int .i64 b.event, .int .i64 b.days, .int .i64 b.act]] w fun e w' => e = .returned (.bool (bef a b)) ∧ Below w.heap.size w w' := by
  obtain ⟨x0, x1, x2, x3⟩ := a
  obtain ⟨y0, y1, y2, y3⟩ := b
  simp only [bef]
  by_cases h1 : x0 < y0
  · go_enter Try.func142, Try.ntmps142
    go_wp2_with fail
    go_ret
    exact ⟨ret_bool (by simp [h1]), below_al (below_al (Below.refl _ _) _) _⟩
  · by_cases h2 : x0 = y0
    · have e2 : (x0 == y0) = true := by simp [h2]
      by_cases h3 : x1 < y1
      · have H2 := Lib.hid h2
        clear h2
        go_enter Try.func142, Try.ntmps142
        go_wp2_with fail
        go_ret
        exact ⟨ret_bool (by simp [H2.out]), below_al (below_al (Below.refl _ _) _) _⟩
      · have H2 := Lib.hid h2
        clear h2
        go_enter Try.func142, Try.ntmps142
        go_wp2_with fail
        go_ret
        exact ⟨ret_bool (by simp [h3, H2.out]), below_al (below_al (Below.refl _ _) _) _⟩
    · have e2 : (x0 == y0) = false := by simp [h2]
      have H2 := Lib.hid h2
      clear h2
      go_enter Try.func142, Try.ntmps142
      go_wp2_with fail
      go_ret
      exact ⟨ret_bool (by have := H2.out; simp [h1, this]), below_al (below_al (Below.refl _ _) _) _⟩


set_option maxRecDepth 20000 in
set_option maxHeartbeats 2000000 in
theorem l4Good_any (v : Value) (t : List Ru) (w : World) (h : RowR 4 rRu w v t) :
    Calls Try.prog 86 #[v] w fun e w' => e = .returned (.bool (isSch t)) ∧ Below w.heap.size w w' := by
  have hcap := h.cap
  obtain ⟨a1, c1, hv, hl1, hm1, r1⟩ := h.rus
  subst hv
  have R1 := Lib.hid r1
  clear h r1
  unfold maxLen at hm1
  go_enter Try.func86, Try.ntmps86
  go_wp2
  go_loopw [3] (fun i wr => ∃ k : Nat, k ≤ t.length ∧ i = .int .i64 k ∧ Hid (upto (ruAtB t) k = true) ∧ Below w.heap.size w wr) (fun i _ => t.length - (intOf i).toNat)
  case atStart => exact ⟨0, Nat.zero_le _, rfl, Lib.hid (by simp [upto]), Below.refl _ _⟩
  case round =>
    obtain ⟨k, hk, rfl, HU, hb⟩ := hrel
    by_cases hlt : k < t.length
    · obtain ⟨b1, o1, hb1, rfl, e1⟩ := R1.out.resolve_left (fun e => by rw [e] at hlt; simp at hlt)
      obtain ⟨f, hx⟩ : ∃ s, t.getD k ruD = s := ⟨_, rfl⟩
      obtain ⟨q0, q1, q2, q3, hok⟩ := e1 k hlt
      rw [hx] at q0 q1 q2 q3 hok
      obtain ⟨x0, x1, x2, x3⟩ := f
      simp only at q0 q1 q2 q3
      have f0 := cell_kept q0 hb
      have f1 := cell_kept q1 hb
      have f2 := cell_kept q2 hb
      have f3 := cell_kept q3 hb
      have HX := Lib.hid hx
      have g0 : (0 : Int) ≤ (k : Int) := by omega
      have g1 : (k : Int) < (t.length : Int) := by omega
      have hw := hb.size
      obtain ⟨bF, hbF⟩ : ∃ b, isRu ⟨x0, x1, x2, x3⟩ = b := ⟨_, rfl⟩
      have HF := Lib.hid hbF
      have m0 := cell_regrown f0
      have m1 := cell_regrown f1
      have m2 := cell_regrown f2
      have m3 := cell_regrown f3
      have hc : ∀ d os, Calls Try.prog 141 #[.agg #[.int .i64 x0, .int .i64 x1, .int .i64 x2, .int .i64 x3]] (grow (redrawn wr d) os) fun e w'' => e = .returned (.bool bF) ∧ ∃ p : Regrown, w'' = grow (redrawn wr p.d) p.os := fun d os => Calls.regrown_of (by have := specRu_any ⟨x0, x1, x2, x3⟩ (grow (redrawn wr d) os); rwa [hbF] at this)
      clear q0 q1 q2 q3 hok hx hbF
      cases bF
      · have hnt := notSch hlt (ruAt_no1 HX.out HF.out)
        have HNT := Lib.hid hnt
        clear hnt
        go_wp2_with fail
        refine wp_region_quiet_below (by kernel_rfl) (by kernel_rfl) ?_
        repeat (go_big_quiet_step (first | exact hc _ _))
        refine wpQuiet_nil ?_
        intro _ hw'
        obtain ⟨⟨dq, osq⟩, hw''⟩ := hw'
        subst hw''
        have bq := below_regrown wr dq osq
        generalize grow (redrawn wr dq) osq = w2 at bq ⊢
        go_wp2
        go_ret
        exact ⟨ret_bool HNT.out.symm, hb.trans (bq.mono hw)⟩
      · by_cases hk0 : k = 0
        · have dk : decide ((0 : Int) < (k : Int)) = false := decide_eq_false (by omega)
          have dk2 : decide (0 < k) = false := decide_eq_false (by omega)
          have hat := ruAt_yes HX.out HF.out (by rw [hk0]; exact bef_first HF.out)
          have HU2 := Lib.hid (upto_succ HU.out hat)
          clear hat hk0
          go_wp2_with fail
          refine wp_region_quiet_below (by kernel_rfl) (by kernel_rfl) ?_
          repeat (go_big_quiet_step (first | exact hc _ _))
          refine wpQuiet_nil ?_
          intro _ hw'
          obtain ⟨⟨dq, osq⟩, hw''⟩ := hw'
          subst hw''
          have bq := below_regrown wr dq osq
          generalize grow (redrawn wr dq) osq = w2 at bq ⊢
          go_wp2
          go_roundw
          case rel => exact ⟨k + 1, by omega, by go_num, HU2, hb.trans (bq.mono hw)⟩
          case measure => simp [intOf]; omega
        · obtain ⟨L, hL⟩ : ∃ L, k = L + 1 := ⟨k - 1, by omega⟩
          have dk : decide ((0 : Int) < (k : Int)) = true := decide_eq_true (by omega)
          have dk2 : decide (0 < k) = true := decide_eq_true (by omega)
          have gl : (k : Int) - 1 = (L : Int) := by omega
          have gL0 : (0 : Int) ≤ (L : Int) := by omega
          have gL1 : (L : Int) < (t.length : Int) := by omega
          obtain ⟨⟨y0, y1, y2, y3⟩, hy⟩ : ∃ s, t.getD L ruD = s := ⟨_, rfl⟩
          obtain ⟨p0, p1, p2, p3, _⟩ := e1 L (by omega)
          rw [hy] at p0 p1 p2 p3
          simp only at p0 p1 p2 p3
          have n0 := cell_regrown (cell_kept p0 hb)
          have n1 := cell_regrown (cell_kept p1 hb)
          have n2 := cell_regrown (cell_kept p2 hb)
          have n3 := cell_regrown (cell_kept p3 hb)
          obtain ⟨bB, hbB⟩ : ∃ b, bef ⟨y0, y1, y2, y3⟩ ⟨x0, x1, x2, x3⟩ = b := ⟨_, rfl⟩
          have hd : ∀ d os, Calls Try.prog 142 #[.agg #[.int .i64 y0, .int .i64 y1, .int .i64 y2, .int .i64 y3], .agg #[.int .i64 x0, .int .i64 x1, .int .i64 x2, .int .i64 x3]] (grow (redrawn wr d) os) fun e w'' => e = .returned (.bool bB) ∧ ∃ p : Regrown, w'' = grow (redrawn wr p.d) p.os := fun d os => Calls.regrown_of (by have := specBef_any ⟨y0, y1, y2, y3⟩ ⟨x0, x1, x2, x3⟩ (grow (redrawn wr d) os); rwa [hbB] at this)
          have hpv : prevRu t k = ⟨y0, y1, y2, y3⟩ := by rw [hL]; exact hy
          have hYES : Hid (bB = true → upto (ruAtB t) (k + 1) = true) := Lib.hid (fun e => upto_succ HU.out (ruAt_yes HX.out HF.out (by rw [hpv, hbB, e])))
          have hNO : Hid (bB = false → isSch t = false) := Lib.hid (fun e => notSch hlt (ruAt_no2 HX.out (by rw [hpv, hbB, e])))
          clear p0 p1 p2 p3 hy hbB hpv e1 hL hk0
          cases bB
          · have HNT := Lib.hid (hNO.out rfl)
            go_wp2_with fail
            refine wp_region_quiet_below (by kernel_rfl) (by kernel_rfl) ?_
            repeat (go_big_quiet_step (first | exact hc _ _ | exact hd _ _))
            refine wpQuiet_nil ?_
            intro _ hw'
            obtain ⟨⟨dq, osq⟩, hw''⟩ := hw'
            subst hw''
            have bq := below_regrown wr dq osq
            generalize grow (redrawn wr dq) osq = w2 at bq ⊢
            go_wp2
            go_ret
            exact ⟨ret_bool HNT.out.symm, hb.trans (bq.mono hw)⟩
          · have HU2 := Lib.hid (hYES.out rfl)
            go_wp2_with fail
            refine wp_region_quiet_below (by kernel_rfl) (by kernel_rfl) ?_
            repeat (go_big_quiet_step (first | exact hc _ _ | exact hd _ _))
            refine wpQuiet_nil ?_
            intro _ hw'
            obtain ⟨⟨dq, osq⟩, hw''⟩ := hw'
            subst hw''
            have bq := below_regrown wr dq osq
            generalize grow (redrawn wr dq) osq = w2 at bq ⊢
            go_wp2
            go_roundw
            case rel => exact ⟨k + 1, by omega, by go_num, HU2, hb.trans (bq.mono hw)⟩
            case measure => simp [intOf]; omega
    · obtain rfl : k = t.length := by omega
      have hs := sch_upto HU.out
      have HS := Lib.hid hs
      clear hs
      go_wp2
      go_ret
      exact ⟨ret_bool (by rw [HS.out]; exact decide_eq_decide.2 (by omega)), hb⟩
end Go.Proofs.Ytenjajcknmfhfaa
