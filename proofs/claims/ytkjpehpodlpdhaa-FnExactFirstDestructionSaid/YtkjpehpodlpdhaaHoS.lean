/- Holds, the model's: what a hold and a list of them are, which cover a record. -/
import Derived.Test.YtkjpehpodlpdhaaTyHo
import Derived.Test.YtkjpehpodlpdhaaRis
import Derived.Test.YtkjpehpodlpdhaaHas
import Derived.Test.YtkjpehpodlpdhaaDayI
import Derived.Test.YtkjpehpodlpdhaaIsRec
import Derived.Lib.QuietBelow
import Derived.BigQuiet
import Derived.WalkSmall
namespace Go.Proofs.Ytkjpehpodlpdhaa
set_option linter.unusedVariables false
open Go.RowKit Go.Sort

set_option maxRecDepth 20000 in
set_option maxHeartbeats 4000000 in
theorem l9One_any (v : Value) (h : Ho) (w : World) (hv : HoV w v h) :
    Calls Try.prog 142 #[v] w fun e w' => e = .returned (.bool (hoOne h)) ∧ Below w.heap.size w w' := by
  obtain ⟨s, rfl, hr, hok⟩ := hv
  obtain ⟨x0, x1, x2, x3, x4, x5⟩ := h
  simp only at hr ⊢
  have hcap := hr.cap
  have HS := Lib.hid (show ∀ W, Below w.heap.size w W → RowOf vI W s x3 from fun W hW => hr.below hW)
  obtain ⟨sa, sc, rfl, _⟩ := hr
  obtain ⟨b0, h0⟩ : ∃ b, decide (1 ≤ x0 ∧ x0 ≤ 99) = b := ⟨_, rfl⟩
  obtain ⟨b1, h1⟩ : ∃ b, decide (0 ≤ x1 ∧ x1 ≤ 20000) = b := ⟨_, rfl⟩
  obtain ⟨b2, h2⟩ : ∃ b, decide (x1 + 1 ≤ x2 ∧ x2 ≤ 20000) = b := ⟨_, rfl⟩
  obtain ⟨b3, h3⟩ : ∃ b, risB 1 99 x3 = b := ⟨_, rfl⟩
  obtain ⟨b4, h4⟩ : ∃ b, decide (0 ≤ x4 ∧ x4 ≤ 20000) = b := ⟨_, rfl⟩
  obtain ⟨b5, h5⟩ : ∃ b, decide (x4 ≤ x5 ∧ x5 ≤ 20000) = b := ⟨_, rfl⟩
  have hr : hoOne ⟨x0, x1, x2, x3, x4, x5⟩ = (b0 && ((b1 && (decide (x2 = -1) || b2)) && ((decide (x3.length ≤ 5) && b3) && (b4 && b5)))) := by
    rw [← h0, ← h1, ← h2, ← h3, ← h4, ← h5, Bool.eq_iff_iff]
    simp only [hoOne_iff, Bool.and_eq_true, Bool.or_eq_true, decide_eq_true_eq]
  rw [hr]
  have HBX := Lib.hid (show ∀ W, Below (w.alloc (.cells #[.int .i64 x0, .int .i64 x1, .int .i64 x2, .slice sa x3.length sc, .int .i64 x4, .int .i64 x5] 100 (0, 0))).heap.size (w.alloc (.cells #[.int .i64 x0, .int .i64 x1, .int .i64 x2, .slice sa x3.length sc, .int .i64 x4, .int .i64 x5] 100 (0, 0))) W → W.cell? ⟨w.heap.size, 0, none⟩ = some (.int .i64 x0) ∧ W.cell? ⟨w.heap.size, 1, none⟩ = some (.int .i64 x1) ∧ W.cell? ⟨w.heap.size, 2, none⟩ = some (.int .i64 x2) ∧ W.cell? ⟨w.heap.size, 3, none⟩ = some (.slice sa x3.length sc) ∧ W.cell? ⟨w.heap.size, 4, none⟩ = some (.int .i64 x4) ∧ W.cell? ⟨w.heap.size, 5, none⟩ = some (.int .i64 x5) from
    fun W hW => ⟨cell_kept (cell_new w _ _ 0 rfl) hW, cell_kept (cell_new w _ _ 1 rfl) hW, cell_kept (cell_new w _ _ 2 rfl) hW, cell_kept (cell_new w _ _ 3 rfl) hW, cell_kept (cell_new w _ _ 4 rfl) hW, cell_kept (cell_new w _ _ 5 rfl) hW⟩)
  have H0 := Lib.hid h0
  have H1 := Lib.hid h1
  have H2 := Lib.hid h2
  have H3 := Lib.hid h3
  have H4 := Lib.hid h4
  have H5 := Lib.hid h5
  have hB : b1 = true → 0 ≤ x1 ∧ x1 ≤ 20000 := fun e => of_decide_eq_true (h1.trans e)
  clear h0 h1 h2 h3 h4 h5 hr hok
  cases b0
  · clear hB
    go_enter Try.func142, Try.ntmps142
    go_wp2_with (first | (go_at_call 94; refine (l1In_any _ _ _ _).mono ?_; (first | rw [H0.out] | rw [H2.out] | rw [H5.out]); rintro e w' ⟨rfl, rfl⟩))
    go_ret
    exact ⟨ret_bool (by rfl), below_al (Below.refl _ _) _⟩
  · cases b1
    · clear hB
      go_enter Try.func142, Try.ntmps142
      go_wp2_with (first | (go_at_call 94; refine (l1In_any _ _ _ _).mono ?_; (first | rw [H0.out] | rw [H2.out] | rw [H5.out]); rintro e w' ⟨rfl, rfl⟩) | (go_at_call 99; refine (l2Day_any _ _).mono ?_; (first | rw [H1.out] | rw [H4.out]); rintro e w' ⟨rfl, h'⟩; subst h'))
      go_ret
      exact ⟨ret_bool (by rfl), below_al (Below.refl _ _) _⟩
    · have hB2 := hB rfl
      have hB3 := hB2.1
      have hB4 := hB2.2
      have hw1 : IntKind.i64.wrap (x1 + 1) = x1 + 1 := Go.IntWalk.i64_in _ (by omega)
      clear hB hB2
      by_cases hu : x2 = -1
      · have hq : (x2 != -1) = false := by simp [hu]
        have HU := Lib.hid hu
        clear hu
        by_cases hl : x3.length ≤ 5
        · have hl2 : (x3.length : Int) ≤ 5 := by omega
          have HLE := Lib.hid hl
          clear hl
          cases b3
          · skip
            go_enter Try.func142, Try.ntmps142
            go_wp2_with (first | (go_at_call 94; refine (l1In_any _ _ _ _).mono ?_; (first | rw [H0.out] | rw [H2.out] | rw [H5.out]); rintro e w' ⟨rfl, rfl⟩) | (go_at_call 99; refine (l2Day_any _ _).mono ?_; (first | rw [H1.out] | rw [H4.out]); rintro e w' ⟨rfl, h'⟩; subst h') | (go_at_call 173; refine (l1Rising_any _ x3 1 99 _ (HS.out _ (below_al (Below.refl _ _) _))).mono ?_; rw [H3.out]; rintro e w3 ⟨rfl, b3⟩; obtain ⟨c0, c1, c2, c3, c4, c5⟩ := HBX.out _ b3))
            go_ret
            exact ⟨ret_bool (by simp [HLE.out]), below_chain (below_al (Below.refl _ _) _) b3⟩
          · cases b4
            · skip
              go_enter Try.func142, Try.ntmps142
              go_wp2_with (first | (go_at_call 94; refine (l1In_any _ _ _ _).mono ?_; (first | rw [H0.out] | rw [H2.out] | rw [H5.out]); rintro e w' ⟨rfl, rfl⟩) | (go_at_call 99; refine (l2Day_any _ _).mono ?_; (first | rw [H1.out] | rw [H4.out]); rintro e w' ⟨rfl, h'⟩; subst h') | (go_at_call 173; refine (l1Rising_any _ x3 1 99 _ (HS.out _ (below_al (Below.refl _ _) _))).mono ?_; rw [H3.out]; rintro e w3 ⟨rfl, b3⟩; obtain ⟨c0, c1, c2, c3, c4, c5⟩ := HBX.out _ b3))
              go_ret
              exact ⟨ret_bool (by simp [HLE.out]), below_chain (below_al (Below.refl _ _) _) b3⟩
            · skip
              go_enter Try.func142, Try.ntmps142
              go_wp2_with (first | (go_at_call 94; refine (l1In_any _ _ _ _).mono ?_; (first | rw [H0.out] | rw [H2.out] | rw [H5.out]); rintro e w' ⟨rfl, rfl⟩) | (go_at_call 99; refine (l2Day_any _ _).mono ?_; (first | rw [H1.out] | rw [H4.out]); rintro e w' ⟨rfl, h'⟩; subst h') | (go_at_call 173; refine (l1Rising_any _ x3 1 99 _ (HS.out _ (below_al (Below.refl _ _) _))).mono ?_; rw [H3.out]; rintro e w3 ⟨rfl, b3⟩; obtain ⟨c0, c1, c2, c3, c4, c5⟩ := HBX.out _ b3))
              go_ret
              exact ⟨ret_bool (by simp [HLE.out, HU.out]), below_chain (below_al (Below.refl _ _) _) b3⟩
        · have hl2 : ¬ (x3.length : Int) ≤ 5 := by omega
          have HLE := Lib.hid hl
          clear hl
          go_enter Try.func142, Try.ntmps142
          go_wp2_with (first | (go_at_call 94; refine (l1In_any _ _ _ _).mono ?_; (first | rw [H0.out] | rw [H2.out] | rw [H5.out]); rintro e w' ⟨rfl, rfl⟩) | (go_at_call 99; refine (l2Day_any _ _).mono ?_; (first | rw [H1.out] | rw [H4.out]); rintro e w' ⟨rfl, h'⟩; subst h'))
          go_ret
          exact ⟨ret_bool (by simp [HLE.out]), below_al (Below.refl _ _) _⟩
      · have hq : (x2 != -1) = true := by simp [hu]
        have HU := Lib.hid hu
        clear hu
        cases b2
        · skip
          go_enter Try.func142, Try.ntmps142
          go_wp2_with (first | (go_at_call 94; refine (l1In_any _ _ _ _).mono ?_; (first | rw [H0.out] | rw [H2.out] | rw [H5.out]); rintro e w' ⟨rfl, rfl⟩) | (go_at_call 99; refine (l2Day_any _ _).mono ?_; (first | rw [H1.out] | rw [H4.out]); rintro e w' ⟨rfl, h'⟩; subst h'))
          go_ret
          exact ⟨ret_bool (by simp [HU.out]), below_al (Below.refl _ _) _⟩
        · skip
          by_cases hl : x3.length ≤ 5
          · have hl2 : (x3.length : Int) ≤ 5 := by omega
            have HLE := Lib.hid hl
            clear hl
            cases b3
            · skip
              go_enter Try.func142, Try.ntmps142
              go_wp2_with (first | (go_at_call 94; refine (l1In_any _ _ _ _).mono ?_; (first | rw [H0.out] | rw [H2.out] | rw [H5.out]); rintro e w' ⟨rfl, rfl⟩) | (go_at_call 99; refine (l2Day_any _ _).mono ?_; (first | rw [H1.out] | rw [H4.out]); rintro e w' ⟨rfl, h'⟩; subst h') | (go_at_call 173; refine (l1Rising_any _ x3 1 99 _ (HS.out _ (below_al (Below.refl _ _) _))).mono ?_; rw [H3.out]; rintro e w3 ⟨rfl, b3⟩; obtain ⟨c0, c1, c2, c3, c4, c5⟩ := HBX.out _ b3))
              go_ret
              exact ⟨ret_bool (by simp [HLE.out]), below_chain (below_al (Below.refl _ _) _) b3⟩
            · cases b4
              · skip
                go_enter Try.func142, Try.ntmps142
                go_wp2_with (first | (go_at_call 94; refine (l1In_any _ _ _ _).mono ?_; (first | rw [H0.out] | rw [H2.out] | rw [H5.out]); rintro e w' ⟨rfl, rfl⟩) | (go_at_call 99; refine (l2Day_any _ _).mono ?_; (first | rw [H1.out] | rw [H4.out]); rintro e w' ⟨rfl, h'⟩; subst h') | (go_at_call 173; refine (l1Rising_any _ x3 1 99 _ (HS.out _ (below_al (Below.refl _ _) _))).mono ?_; rw [H3.out]; rintro e w3 ⟨rfl, b3⟩; obtain ⟨c0, c1, c2, c3, c4, c5⟩ := HBX.out _ b3))
                go_ret
                exact ⟨ret_bool (by simp [HLE.out]), below_chain (below_al (Below.refl _ _) _) b3⟩
              · skip
                go_enter Try.func142, Try.ntmps142
                go_wp2_with (first | (go_at_call 94; refine (l1In_any _ _ _ _).mono ?_; (first | rw [H0.out] | rw [H2.out] | rw [H5.out]); rintro e w' ⟨rfl, rfl⟩) | (go_at_call 99; refine (l2Day_any _ _).mono ?_; (first | rw [H1.out] | rw [H4.out]); rintro e w' ⟨rfl, h'⟩; subst h') | (go_at_call 173; refine (l1Rising_any _ x3 1 99 _ (HS.out _ (below_al (Below.refl _ _) _))).mono ?_; rw [H3.out]; rintro e w3 ⟨rfl, b3⟩; obtain ⟨c0, c1, c2, c3, c4, c5⟩ := HBX.out _ b3))
                go_ret
                exact ⟨ret_bool (by simp [HLE.out]), below_chain (below_al (Below.refl _ _) _) b3⟩
          · have hl2 : ¬ (x3.length : Int) ≤ 5 := by omega
            have HLE := Lib.hid hl
            clear hl
            go_enter Try.func142, Try.ntmps142
            go_wp2_with (first | (go_at_call 94; refine (l1In_any _ _ _ _).mono ?_; (first | rw [H0.out] | rw [H2.out] | rw [H5.out]); rintro e w' ⟨rfl, rfl⟩) | (go_at_call 99; refine (l2Day_any _ _).mono ?_; (first | rw [H1.out] | rw [H4.out]); rintro e w' ⟨rfl, h'⟩; subst h'))
            go_ret
            exact ⟨ret_bool (by simp [HLE.out]), below_al (Below.refl _ _) _⟩

set_option maxRecDepth 20000 in
set_option maxHeartbeats 4000000 in
theorem l9Good_any (v : Value) (t : List Ho) (w : World) (h : RowR 6 rHo w v t) :
    Calls Try.prog 75 #[v] w fun e w' => e = .returned (.bool (areHo t)) ∧ Below w.heap.size w w' := by
  have hcap := h.cap
  obtain ⟨a1, c1, hv, hl1, hm1, r1⟩ := h.hos
  subst hv
  have R1 := Lib.hid r1
  clear h r1
  unfold maxLen at hm1
  go_enter Try.func75, Try.ntmps75
  go_wp2
  go_loopw [3] (fun i wr => ∃ k : Nat, k ≤ t.length ∧ i = .int .i64 k ∧ Hid (upto (hoAtB t) k = true) ∧ Below w.heap.size w wr) (fun i _ => t.length - (intOf i).toNat)
  case atStart => exact ⟨0, Nat.zero_le _, rfl, Lib.hid (by simp [upto]), Below.refl _ _⟩
  case round =>
    obtain ⟨k, hk, rfl, HU, hb⟩ := hrel
    by_cases hlt : k < t.length
    · obtain ⟨b1, o1, hb1, rfl, e1⟩ := R1.out.resolve_left (fun e => by rw [e] at hlt; simp at hlt)
      obtain ⟨⟨x0, x1, x2, x3, x4, x5⟩, hx⟩ : ∃ s, t.getD k hoD = s := ⟨_, rfl⟩
      obtain ⟨s, q0, q1, q2, q3, q4, q5, hr, hok⟩ := e1 k hlt
      rw [hx] at q0 q1 q2 q4 q5 hr hok
      simp only at q0 q1 q2 q4 q5 hr
      have hV : HoV wr (.agg #[.int .i64 x0, .int .i64 x1, .int .i64 x2, s, .int .i64 x4, .int .i64 x5]) ⟨x0, x1, x2, x3, x4, x5⟩ := ⟨s, rfl, hr.below hb, hok⟩
      have m0 := cell_regrown (cell_kept q0 hb)
      have m1 := cell_regrown (cell_kept q1 hb)
      have m2 := cell_regrown (cell_kept q2 hb)
      have m3 := cell_regrown (cell_kept q3 hb)
      have m4 := cell_regrown (cell_kept q4 hb)
      have m5 := cell_regrown (cell_kept q5 hb)
      have hAT := hoAt_iff hx
      have HX := Lib.hid hx
      have g0 : (0 : Int) ≤ (k : Int) := by omega
      have g1 : (k : Int) < (t.length : Int) := by omega
      have hw := hb.size
      obtain ⟨bF, hbF⟩ : ∃ b, hoOne ⟨x0, x1, x2, x3, x4, x5⟩ = b := ⟨_, rfl⟩
      have HID : Hid (bF = true → (0 : Int) < x0) := Lib.hid (fun e => by rw [← hbF] at e; have := (hoOne_iff.1 e).1.1; simp only at this; omega)
      rw [hbF] at hAT
      have hc : ∀ d os, Calls Try.prog 142 #[.agg #[.int .i64 x0, .int .i64 x1, .int .i64 x2, s, .int .i64 x4, .int .i64 x5]] (grow (redrawn wr d) os) fun e w'' => e = .returned (.bool bF) ∧ ∃ p : Regrown, w'' = grow (redrawn wr p.d) p.os := fun d os => Calls.regrown_of (by have := l9One_any _ _ (grow (redrawn wr d) os) (hV.below (below_regrown wr d os)); rwa [hbF] at this)
      have HAT := Lib.hid hAT
      obtain ⟨sa, sc, rfl, _⟩ := hr
      clear q0 q1 q2 q3 q4 q5 hok hx hbF hV hAT
      cases bF
      · have HNT : Hid (areHo t = false) := Lib.hid (notHo hlt (by rw [Bool.eq_false_iff]; intro hc; have := (HAT.out.1 hc).1; cases this))
        go_wp2_with fail
        refine wp_region_quiet_below (by kernel_rfl) (by kernel_rfl) ?_
        repeat (go_big_quiet_step (first | exact hc _ _))
        refine wpQuiet_nil ?_
        intro _ hw'
        obtain ⟨⟨dq, osq⟩, hw''⟩ := hw'
        subst hw''
        have bq := below_regrown wr dq osq
        generalize grow (redrawn wr dq) osq = w2 at bq ⊢
        go_wp2
        go_ret
        exact ⟨ret_bool HNT.out.symm, hb.trans (bq.mono hw)⟩
      · rcases Nat.eq_zero_or_pos k with hk0 | hk0
        · have dk : decide ((0 : Int) < (k : Int)) = false := decide_eq_false (by omega)
          have dk2 : decide (0 < k) = false := decide_eq_false (by omega)
          have HU2 : Hid (upto (hoAtB t) (k + 1) = true) := Lib.hid (upto_succ HU.out (HAT.out.2 ⟨rfl, by rw [hk0]; exact HID.out rfl⟩))
          clear hk0
          go_wp2_with fail
          refine wp_region_quiet_below (by kernel_rfl) (by kernel_rfl) ?_
          repeat (go_big_quiet_step (first | exact hc _ _))
          refine wpQuiet_nil ?_
          intro _ hw'
          obtain ⟨⟨dq, osq⟩, hw''⟩ := hw'
          subst hw''
          have bq := below_regrown wr dq osq
          generalize grow (redrawn wr dq) osq = w2 at bq ⊢
          go_wp2
          go_roundw
          case rel => exact ⟨k + 1, by omega, by go_num, HU2, hb.trans (bq.mono hw)⟩
          case measure => simp [intOf]; omega
        · obtain ⟨L, rfl⟩ : ∃ L, k = L + 1 := ⟨k - 1, by omega⟩
          obtain ⟨y0, hy⟩ : ∃ y, (t.getD L hoD).id = y := ⟨_, rfl⟩
          obtain ⟨_, p0, _⟩ := e1 L (by omega)
          rw [hy] at p0
          have n0 := cell_regrown (cell_kept p0 hb)
          have gl : ((L + 1 : Nat) : Int) - 1 = (L : Int) := by omega
          have gL0 : (0 : Int) ≤ (L : Int) := by omega
          have gL1 : (L : Int) < (t.length : Int) := by omega
          have dk : (0 : Int) < (L : Int) + 1 := by omega
          have hpv : prevHo t (L + 1) = y0 := hy
          by_cases hP : x0 ≤ y0
          · have HNT : Hid (areHo t = false) := Lib.hid (notHo hlt (by rw [Bool.eq_false_iff]; intro hc; have h2 := (HAT.out.1 hc).2; rw [hpv] at h2; simp only at h2; omega))
            clear hpv hy hk0 p0 e1
            go_wp2_with fail
            refine wp_region_quiet_below (by kernel_rfl) (by kernel_rfl) ?_
            repeat (go_big_quiet_step (first | exact hc _ _))
            refine wpQuiet_nil ?_
            intro _ hw'
            obtain ⟨⟨dq, osq⟩, hw''⟩ := hw'
            subst hw''
            have bq := below_regrown wr dq osq
            generalize grow (redrawn wr dq) osq = w2 at bq ⊢
            go_wp2
            go_ret
            exact ⟨ret_bool HNT.out.symm, hb.trans (bq.mono hw)⟩
          · have HU2 : Hid (upto (hoAtB t) (L + 1 + 1) = true) := Lib.hid (upto_succ HU.out (HAT.out.2 ⟨rfl, by rw [hpv]; simp only; omega⟩))
            have dP : decide (x0 ≤ y0) = false := decide_eq_false hP
            clear hpv hy hk0 p0 e1
            go_wp2_with fail
            refine wp_region_quiet_below (by kernel_rfl) (by kernel_rfl) ?_
            repeat (go_big_quiet_step (first | exact hc _ _))
            refine wpQuiet_nil ?_
            intro _ hw'
            obtain ⟨⟨dq, osq⟩, hw''⟩ := hw'
            subst hw''
            have bq := below_regrown wr dq osq
            generalize grow (redrawn wr dq) osq = w2 at bq ⊢
            go_wp2
            go_roundw
            case rel => exact ⟨L + 1 + 1, by omega, by go_num, HU2, hb.trans (bq.mono hw)⟩
            case measure => simp [intOf]; omega
    · have hkl : k = t.length := by omega
      have HE : Hid (areHo t = decide (t.length ≤ 8)) := Lib.hid (ho_upto (by have := HU.out; rwa [hkl] at this))
      clear hkl
      by_cases h8 : t.length ≤ 8
      · have g8 : (t.length : Int) ≤ 8 := by omega
        have HE2 := Lib.hid (HE.out.trans (decide_eq_true h8))
        clear h8
        go_wp2
        go_ret
        exact ⟨ret_bool HE2.out.symm, hb⟩
      · have g8 : ¬ (t.length : Int) ≤ 8 := by omega
        have HE2 := Lib.hid (HE.out.trans (decide_eq_false h8))
        clear h8
        go_wp2
        go_ret
        exact ⟨ret_bool HE2.out.symm, hb⟩

set_option maxRecDepth 20000 in
set_option maxHeartbeats 4000000 in
theorem l9Covers_any (v v1 : Value) (h : Ho) (r : Rec) (d : Int) (w : World) (hv : HoV w v h) (h1 : RecV w v1 r) (hd : d ≤ 20000) :
    Calls Try.prog 112 #[v, v1, .int .i64 d] w fun e w' => e = .returned (.bool (covB h r d)) ∧ Below w.heap.size w w' := by
  obtain ⟨s, rfl, hr, hok⟩ := hv
  obtain ⟨s2, rfl, hr2, hok2⟩ := h1
  obtain ⟨x0, x1, x2, x3, x4, x5⟩ := h
  obtain ⟨y0, y1, y2, y3⟩ := r
  simp only at hr hr2 ⊢
  have hcap := hr.cap
  have HS := Lib.hid (show ∀ W, Below w.heap.size w W → RowOf vI W s x3 from fun W hW => hr.below hW)
  obtain ⟨sa, sc, rfl, _⟩ := hr
  obtain ⟨sb, sd, rfl, _⟩ := hr2
  obtain ⟨b3, h3⟩ : ∃ b, decide (y1 ∈ x3) = b := ⟨_, rfl⟩
  obtain ⟨b5, h5⟩ : ∃ b, decide (x4 ≤ y2 ∧ y2 ≤ x5) = b := ⟨_, rfl⟩
  obtain ⟨bf, hf⟩ : ∃ b, decide (x1 ≤ d ∧ (x2 = -1 ∨ d < x2)) = b := ⟨_, rfl⟩
  have hres : covB ⟨x0, x1, x2, x3, x4, x5⟩ ⟨y0, y1, y2, y3⟩ d = (bf && ((decide (x3.length = 0) || b3) && b5)) := by
    unfold covB conB
    rw [← force_eq (h := ⟨x0, x1, x2, x3, x4, x5⟩) hd]
    simp only
    rw [hf, h3, h5]
  rw [hres]
  have H3 := Lib.hid h3
  have H5 := Lib.hid h5
  have HF := Lib.hid hf
  generalize hW0 : (w.alloc (.cells #[.int .i64 x0, .int .i64 x1, .int .i64 x2, .slice sa x3.length sc, .int .i64 x4, .int .i64 x5] 100 (0, 0))).alloc (.cells #[.int .i64 y0, .int .i64 y1, .int .i64 y2, .slice sb y3.length sd] 38 (0, 0)) = W0
  have bW : Below w.heap.size w W0 := by rw [← hW0]; exact below_al (below_al (Below.refl _ _) _) _
  have HBX := Lib.hid (show ∀ W, Below W0.heap.size W0 W → W.cell? ⟨w.heap.size, 0, none⟩ = some (.int .i64 x0) ∧ W.cell? ⟨w.heap.size, 4, none⟩ = some (.int .i64 x4) ∧ W.cell? ⟨w.heap.size, 5, none⟩ = some (.int .i64 x5) ∧ W.cell? ⟨w.heap.size + 1, 2, none⟩ = some (.int .i64 y2) from
    fun W hW => by
      subst hW0
      exact ⟨cell_kept (below_al_cell (cell_new w _ _ 0 rfl) _) hW, cell_kept (below_al_cell (cell_new w _ _ 4 rfl) _) hW, cell_kept (below_al_cell (cell_new w _ _ 5 rfl) _) hW, cell_kept (by simp) hW⟩)
  have BW := Lib.hid bW
  have HEQ := Lib.hid hW0
  clear h3 h5 hf hres hok hok2 hW0 bW
  by_cases f1 : x1 ≤ d
  · by_cases f2 : x2 = -1
    · have hq : (x2 == -1) = true := by simp [f2]
      have HBF : Hid (bf = true) := Lib.hid (by rw [← HF.out]; exact decide_eq_true ⟨f1, .inl f2⟩)
      clear f2
      obtain rfl : bf = true := HBF.out
      by_cases hl : x3.length = 0
      · have hl2 : (x3.length : Int) = 0 := by omega
        have hq2 : ((x3.length : Int) == 0) = true := by simp [hl2]
        have HL := Lib.hid hl
        clear hl hl2
        go_enter Try.func112, Try.ntmps112
        go_wp2_with (first | (go_at_call 109; refine (l1Has_any _ x3 y1 _ (HS.out _ (below_al (below_al (Below.refl _ _) _) _))).mono ?_; rw [H3.out, HEQ.out]; rintro e w3 ⟨rfl, b3⟩; obtain ⟨c0, c4, c5, c6⟩ := HBX.out _ b3) | (go_at_call 94; refine (l1In_any _ _ _ _).mono ?_; rw [H5.out]; rintro e w' ⟨rfl, rfl⟩))
        go_ret
        exact ⟨ret_bool (by simp [HL.out]), below_al (below_al (Below.refl _ _) _) _⟩
      · have hq2 : ((x3.length : Int) == 0) = false := beq_false_of_ne (by omega)
        have HL := Lib.hid hl
        clear hl
        cases b3
        · skip
          go_enter Try.func112, Try.ntmps112
          go_wp2_with (first | (go_at_call 109; refine (l1Has_any _ x3 y1 _ (HS.out _ (below_al (below_al (Below.refl _ _) _) _))).mono ?_; rw [H3.out, HEQ.out]; rintro e w3 ⟨rfl, b3⟩; obtain ⟨c0, c4, c5, c6⟩ := HBX.out _ b3) | (go_at_call 94; refine (l1In_any _ _ _ _).mono ?_; rw [H5.out]; rintro e w' ⟨rfl, rfl⟩))
          go_ret
          exact ⟨ret_bool (by simp [HL.out]), BW.out.trans (b3.mono BW.out.size)⟩
        · skip
          go_enter Try.func112, Try.ntmps112
          go_wp2_with (first | (go_at_call 109; refine (l1Has_any _ x3 y1 _ (HS.out _ (below_al (below_al (Below.refl _ _) _) _))).mono ?_; rw [H3.out, HEQ.out]; rintro e w3 ⟨rfl, b3⟩; obtain ⟨c0, c4, c5, c6⟩ := HBX.out _ b3) | (go_at_call 94; refine (l1In_any _ _ _ _).mono ?_; rw [H5.out]; rintro e w' ⟨rfl, rfl⟩))
          go_ret
          exact ⟨ret_bool (by simp), BW.out.trans (b3.mono BW.out.size)⟩
    · have hq : (x2 == -1) = false := by simp [f2]
      by_cases f3 : d < x2
      · have HBF : Hid (bf = true) := Lib.hid (by rw [← HF.out]; exact decide_eq_true ⟨f1, .inr f3⟩)
        clear f2
        obtain rfl : bf = true := HBF.out
        by_cases hl : x3.length = 0
        · have hl2 : (x3.length : Int) = 0 := by omega
          have hq2 : ((x3.length : Int) == 0) = true := by simp [hl2]
          have HL := Lib.hid hl
          clear hl hl2
          go_enter Try.func112, Try.ntmps112
          go_wp2_with (first | (go_at_call 109; refine (l1Has_any _ x3 y1 _ (HS.out _ (below_al (below_al (Below.refl _ _) _) _))).mono ?_; rw [H3.out, HEQ.out]; rintro e w3 ⟨rfl, b3⟩; obtain ⟨c0, c4, c5, c6⟩ := HBX.out _ b3) | (go_at_call 94; refine (l1In_any _ _ _ _).mono ?_; rw [H5.out]; rintro e w' ⟨rfl, rfl⟩))
          go_ret
          exact ⟨ret_bool (by simp [HL.out]), below_al (below_al (Below.refl _ _) _) _⟩
        · have hq2 : ((x3.length : Int) == 0) = false := beq_false_of_ne (by omega)
          have HL := Lib.hid hl
          clear hl
          cases b3
          · skip
            go_enter Try.func112, Try.ntmps112
            go_wp2_with (first | (go_at_call 109; refine (l1Has_any _ x3 y1 _ (HS.out _ (below_al (below_al (Below.refl _ _) _) _))).mono ?_; rw [H3.out, HEQ.out]; rintro e w3 ⟨rfl, b3⟩; obtain ⟨c0, c4, c5, c6⟩ := HBX.out _ b3) | (go_at_call 94; refine (l1In_any _ _ _ _).mono ?_; rw [H5.out]; rintro e w' ⟨rfl, rfl⟩))
            go_ret
            exact ⟨ret_bool (by simp [HL.out]), BW.out.trans (b3.mono BW.out.size)⟩
          · skip
            go_enter Try.func112, Try.ntmps112
            go_wp2_with (first | (go_at_call 109; refine (l1Has_any _ x3 y1 _ (HS.out _ (below_al (below_al (Below.refl _ _) _) _))).mono ?_; rw [H3.out, HEQ.out]; rintro e w3 ⟨rfl, b3⟩; obtain ⟨c0, c4, c5, c6⟩ := HBX.out _ b3) | (go_at_call 94; refine (l1In_any _ _ _ _).mono ?_; rw [H5.out]; rintro e w' ⟨rfl, rfl⟩))
            go_ret
            exact ⟨ret_bool (by simp), BW.out.trans (b3.mono BW.out.size)⟩
      · have HBF : Hid (bf = false) := Lib.hid (by rw [← HF.out]; exact decide_eq_false (fun h => by rcases h.2 with h | h <;> contradiction))
        clear f2
        obtain rfl : bf = false := HBF.out
        go_enter Try.func112, Try.ntmps112
        go_wp2_with (first | (go_at_call 109; refine (l1Has_any _ x3 y1 _ (HS.out _ (below_al (below_al (Below.refl _ _) _) _))).mono ?_; rw [H3.out, HEQ.out]; rintro e w3 ⟨rfl, b3⟩; obtain ⟨c0, c4, c5, c6⟩ := HBX.out _ b3) | (go_at_call 94; refine (l1In_any _ _ _ _).mono ?_; rw [H5.out]; rintro e w' ⟨rfl, rfl⟩))
        go_ret
        exact ⟨ret_bool (by rfl), below_al (below_al (Below.refl _ _) _) _⟩
  · have HBF : Hid (bf = false) := Lib.hid (by rw [← HF.out]; exact decide_eq_false (fun h => f1 h.1))
    obtain rfl : bf = false := HBF.out
    go_enter Try.func112, Try.ntmps112
    go_wp2_with (first | (go_at_call 109; refine (l1Has_any _ x3 y1 _ (HS.out _ (below_al (below_al (Below.refl _ _) _) _))).mono ?_; rw [H3.out, HEQ.out]; rintro e w3 ⟨rfl, b3⟩; obtain ⟨c0, c4, c5, c6⟩ := HBX.out _ b3) | (go_at_call 94; refine (l1In_any _ _ _ _).mono ?_; rw [H5.out]; rintro e w' ⟨rfl, rfl⟩))
    go_ret
    exact ⟨ret_bool (by rfl), below_al (below_al (Below.refl _ _) _) _⟩
end Go.Proofs.Ytkjpehpodlpdhaa
