/- Holds, the model's: the first day without a hold, FreeDay, MostHolds. -/
import Derived.Test.YtkjpehpodlpdhaaHo3S
import Derived.Lib.QuietBelow
import Derived.BigQuiet
import Derived.WalkSmall
namespace Go.Proofs.Ytkjpehpodlpdhaa
set_option linter.unusedVariables false
open Go.RowKit Go.Sort

set_option maxRecDepth 20000 in
set_option maxHeartbeats 4000000 in
theorem l9Free_any (v v1 : Value) (t : List Ho) (r : Rec) (d : Int) (w : World) (h : RowR 6 rHo w v t) (h1 : RecV w v1 r) (ht : areHo t = true) (hd : 0 ≤ d ∧ d ≤ 20000) :
    Calls Try.prog 90 #[v, v1, .int .i64 d] w fun e w' => e = .returned (.int .i64 (freeF t r d)) ∧ Below w.heap.size w w' := by
  obtain ⟨s, rfl, hr, hok⟩ := h1
  obtain ⟨y0, y1, y2, y3⟩ := r
  simp only at hr ⊢
  have HV := Lib.hid (show ∀ W, Below w.heap.size w W → RecV W (.agg #[.int .i64 y0, .int .i64 y1, .int .i64 y2, s]) ⟨y0, y1, y2, y3⟩ from fun W hW => ⟨s, rfl, hr.below rEv_stable hW, hok⟩)
  obtain ⟨sb, sd, rfl, _⟩ := hr
  obtain ⟨a1, c1, rfl, hl1, hm1, r1⟩ := h.hos
  have R1 := Lib.hid r1
  have HTT := Lib.hid ht
  have HDD := Lib.hid hd
  have hn8 := ho_len ht
  clear h r1 hok hd ht
  unfold maxLen at hm1
  go_enter Try.func90, Try.ntmps90
  go_wp2_with fail
  generalize hW1 : w.alloc (.cells #[.int .i64 y0, .int .i64 y1, .int .i64 y2, .slice sb y3.length sd] 38 (0, 0)) = W1
  have bW : Below w.heap.size w W1 := by rw [← hW1]; exact below_al (Below.refl _ _) _
  have z0 : W1.cell? ⟨w.heap.size, 0, none⟩ = some (.int .i64 y0) := by rw [← hW1]; exact cell_new w _ _ 0 rfl
  have z1 : W1.cell? ⟨w.heap.size, 1, none⟩ = some (.int .i64 y1) := by rw [← hW1]; exact cell_new w _ _ 1 rfl
  have z2 : W1.cell? ⟨w.heap.size, 2, none⟩ = some (.int .i64 y2) := by rw [← hW1]; exact cell_new w _ _ 2 rfl
  have z3 : W1.cell? ⟨w.heap.size, 3, none⟩ = some (.slice sb y3.length sd) := by rw [← hW1]; exact cell_new w _ _ 3 rfl
  have hsW := bW.size
  clear hW1
  go_loopw [2, 7] (fun dy n wr => ∃ (k : Nat) (D : Int), k ≤ t.length + 1 ∧ n = .int .i64 k ∧ dy = .int .i64 D ∧ Hid (d ≤ D ∧ D ≤ 20000 ∧ (∀ x, d ≤ x → x < D → heldB t ⟨y0, y1, y2, y3⟩ x = true) ∧ (heldB t ⟨y0, y1, y2, y3⟩ D = false ∨ k ≤ gone t D)) ∧ Below W1.heap.size W1 wr) (fun _ n _ => t.length + 1 - (intOf n).toNat)
  case atStart => exact ⟨0, d, Nat.zero_le _, rfl, rfl, Lib.hid ⟨Int.le_refl _, HDD.out.2, fun x a b => absurd a (by omega), .inr (Nat.zero_le _)⟩, Below.refl _ _⟩
  case round =>
    obtain ⟨k, D, hk, rfl, rfl, HQ, hb⟩ := hrel
    obtain ⟨wo, hwo⟩ : ∃ x, x = wr := ⟨_, rfl⟩
    subst hwo
    have hso := hb.size
    by_cases hlt : k ≤ t.length
    · have g1 : (k : Int) ≤ (t.length : Int) := by omega
      go_wp2_with fail
      go_loopw [2, 8] (fun dy i wr => ∃ (j : Nat) (E : Int), j ≤ t.length ∧ i = .int .i64 j ∧ dy = .int .i64 E ∧ Hid (d ≤ E ∧ E ≤ 20000 ∧ (∀ x, d ≤ x → x < E → heldB t ⟨y0, y1, y2, y3⟩ x = true) ∧ (heldB t ⟨y0, y1, y2, y3⟩ E = false ∨ k + 1 ≤ gone t E ∨ (k ≤ gone t E ∧ ∀ q, q < j → covB (t.getD q hoD) ⟨y0, y1, y2, y3⟩ E = false))) ∧ Below W1.heap.size W1 wr) (fun _ i _ => t.length - (intOf i).toNat)
      case atStart =>
        refine ⟨0, D, Nat.zero_le _, rfl, rfl, Lib.hid ⟨HQ.out.1, HQ.out.2.1, HQ.out.2.2.1, ?_⟩, hb⟩
        rcases HQ.out.2.2.2 with h | h
        · exact .inl h
        · exact .inr (.inr ⟨h, fun q hq => absurd hq (Nat.not_lt_zero _)⟩)
      case round =>
        obtain ⟨j, E, hj, rfl, rfl, HE, hb2⟩ := hrel
        have hbw := bW.trans (hb2.mono hsW)
        have hsz := hb2.size
        by_cases hjt : j < t.length
        · obtain ⟨bR, oR, hbR, rfl, e1⟩ := R1.out.resolve_left (fun e => by rw [e] at hjt; simp at hjt)
          obtain ⟨⟨x0, x1, x2, x3, x4, x5⟩, hx⟩ : ∃ s, t.getD j hoD = s := ⟨_, rfl⟩
          obtain ⟨s, q0, q1, q2, q3, q4, q5, hr, hok⟩ := e1 j hjt
          rw [hx] at q0 q1 q2 q4 q5 hr hok
          simp only at q0 q1 q2 q4 q5 hr
          have f2 := cell_kept q2 hbw
          have m0 := cell_regrown (cell_kept q0 hbw)
          have m1 := cell_regrown (cell_kept q1 hbw)
          have m2 := cell_regrown f2
          have m3 := cell_regrown (cell_kept q3 hbw)
          have m4 := cell_regrown (cell_kept q4 hbw)
          have m5 := cell_regrown (cell_kept q5 hbw)
          have n0 := cell_regrown (cell_kept z0 hb2)
          have n1 := cell_regrown (cell_kept z1 hb2)
          have n2 := cell_regrown (cell_kept z2 hb2)
          have n3 := cell_regrown (cell_kept z3 hb2)
          have hV : HoV wr (.agg #[.int .i64 x0, .int .i64 x1, .int .i64 x2, s, .int .i64 x4, .int .i64 x5]) ⟨x0, x1, x2, x3, x4, x5⟩ := ⟨s, rfl, hr.below hbw, hok⟩
          obtain ⟨sa, sc, rfl, _⟩ := hr
          obtain ⟨bC, hbC⟩ : ∃ b, covB ⟨x0, x1, x2, x3, x4, x5⟩ ⟨y0, y1, y2, y3⟩ E = b := ⟨_, rfl⟩
          have g2 : (0 : Int) ≤ (j : Int) := by omega
          have g3 : (j : Int) < (t.length : Int) := by omega
          have hc : ∀ D os, Calls Try.prog 112 #[.agg #[.int .i64 x0, .int .i64 x1, .int .i64 x2, .slice sa x3.length sc, .int .i64 x4, .int .i64 x5], .agg #[.int .i64 y0, .int .i64 y1, .int .i64 y2, .slice sb y3.length sd], .int .i64 E] (grow (redrawn wr D) os) fun e w'' => e = .returned (.bool bC) ∧ ∃ p : Regrown, w'' = grow (redrawn wr p.d) p.os := fun D os => Calls.regrown_of (by have := l9Covers_any _ _ _ _ E (grow (redrawn wr D) os) (hV.below (below_regrown wr D os)) (HV.out _ (hbw.trans ((below_regrown wr D os).mono hbw.size))) HE.out.2.1; rwa [hbC] at this)
          have HX := Lib.hid hx
          have HBC := Lib.hid hbC
          clear q0 q1 q2 q3 q4 q5 hok hx e1 hbC hV
          cases bC
          · go_wp2_with fail
            refine wp_region_quiet_below (by kernel_rfl) (by kernel_rfl) ?_
            repeat (go_big_quiet_step (first | exact hc _ _))
            refine wpQuiet_nil ?_
            intro _ hw'
            obtain ⟨⟨dq, osq⟩, hw''⟩ := hw'
            subst hw''
            have bq := below_regrown wr dq osq
            have y2f := cell_kept f2 bq
            have hb3 := hb2.trans (bq.mono hsz)
            generalize grow (redrawn wr dq) osq = w2 at *
            go_wp2
            go_roundw
            case rel =>
              refine ⟨j + 1, E, by omega, by go_num, rfl, Lib.hid ⟨HE.out.1, HE.out.2.1, HE.out.2.2.1, ?_⟩, hb3⟩
              rcases HE.out.2.2.2 with h | h | ⟨h, h'⟩
              · exact .inl h
              · exact .inr (.inl h)
              · refine .inr (.inr ⟨h, fun q hq => ?_⟩)
                rcases Nat.lt_or_ge q j with h2 | h2
                · exact h' q h2
                · obtain rfl : q = j := by omega
                  rw [HX.out]; exact HBC.out
            case measure => simp [intOf]; omega
          · have hcv : covB (t.getD j hoD) ⟨y0, y1, y2, y3⟩ E = true := by rw [HX.out]; exact HBC.out
            have hone := ho_at HTT.out hjt
            have hend := endH_bd hone
            have hcE := (covB_iff.1 hcv).1.2
            have hspan : ∀ x, d ≤ x → x < endH (t.getD j hoD) → heldB t ⟨y0, y1, y2, y3⟩ x = true := fun x a b => by
              rcases Int.lt_or_le x E with h | h
              · exact HE.out.2.2.1 x a h
              · exact held_at hjt (cov_span hcv h b)
            have hgo : k + 1 ≤ gone t (endH (t.getD j hoD)) := by
              rcases HE.out.2.2.2 with h | h | ⟨h, _⟩
              · rw [held_at hjt hcv] at h; cases h
              · exact Nat.le_trans h (gone_mono (Int.le_of_lt hcE))
              · have := gone_step hjt hcE; omega
            have hEd := HE.out.1
            by_cases hu : x2 = -1
            · have hq : (x2 == -1) = true := by simp [hu]
              have hend2 : endH (t.getD j hoD) = 20001 := by rw [HX.out]; unfold endH; rw [if_pos hu]
              have HFR : Hid (freeF t ⟨y0, y1, y2, y3⟩ d = 20001) := Lib.hid (free_top (fun x a b => hspan x a (by omega)))
              have HU := Lib.hid hu
              clear hu hcv hone hend hcE hspan hgo hend2 hEd
              go_wp2_with fail
              refine wp_region_quiet_below (by kernel_rfl) (by kernel_rfl) ?_
              repeat (go_big_quiet_step (first | exact hc _ _))
              refine wpQuiet_nil ?_
              intro _ hw'
              obtain ⟨⟨dq, osq⟩, hw''⟩ := hw'
              subst hw''
              have bq := below_regrown wr dq osq
              have y2f := cell_kept f2 bq
              have hb3 := hb2.trans (bq.mono hsz)
              generalize grow (redrawn wr dq) osq = w2 at *
              go_wp2
              go_ret
              exact ⟨ret_int HFR.out.symm, bW.trans (hb3.mono hsW)⟩
            · have hq : (x2 == -1) = false := by simp [hu]
              have hend2 : endH (t.getD j hoD) = x2 := by rw [HX.out]; unfold endH; rw [if_neg hu]
              have hx2 : x2 ≤ 20000 := by
                have := (hoOne_iff.1 hone).2.1.2
                rw [HX.out] at this
                simp only at this
                rcases this with h | h
                · exact absurd h hu
                · exact h.2
              rw [hend2] at hspan hgo hcE
              have HFR : Hid (d ≤ x2 ∧ x2 ≤ 20000 ∧ (∀ x, d ≤ x → x < x2 → heldB t ⟨y0, y1, y2, y3⟩ x = true) ∧ k + 1 ≤ gone t x2) := Lib.hid ⟨by omega, hx2, hspan, hgo⟩
              have HU := Lib.hid hu
              clear hu hcv hone hend hcE hspan hgo hend2 hEd hx2
              go_wp2_with fail
              refine wp_region_quiet_below (by kernel_rfl) (by kernel_rfl) ?_
              repeat (go_big_quiet_step (first | exact hc _ _))
              refine wpQuiet_nil ?_
              intro _ hw'
              obtain ⟨⟨dq, osq⟩, hw''⟩ := hw'
              subst hw''
              have bq := below_regrown wr dq osq
              have y2f := cell_kept f2 bq
              have hb3 := hb2.trans (bq.mono hsz)
              generalize grow (redrawn wr dq) osq = w2 at *
              go_wp2
              go_roundw
              case rel => exact ⟨j + 1, x2, by omega, by go_num, rfl, Lib.hid ⟨HFR.out.1, HFR.out.2.1, HFR.out.2.2.1, .inr (.inl HFR.out.2.2.2)⟩, hb3⟩
              case measure => simp [intOf]; omega
        · have hjl : j = t.length := by omega
          have HK : Hid (heldB t ⟨y0, y1, y2, y3⟩ E = false ∨ k + 1 ≤ gone t E) := Lib.hid (by
            rcases HE.out.2.2.2 with h | h | ⟨_, h'⟩
            · exact .inl h
            · exact .inr h
            · exact .inl (held_no (fun q hq => h' q (by omega))))
          clear hjl
          go_wp2_with fail
          go_roundw
          case rel => exact ⟨k + 1, E, by omega, by go_num, rfl, Lib.hid ⟨HE.out.1, HE.out.2.1, HE.out.2.2.1, HK.out⟩, hb2⟩
          case measure => simp [intOf]; omega
    · have HFR : Hid (freeF t ⟨y0, y1, y2, y3⟩ d = D) := Lib.hid (by
        have hg := gone_le t D
        obtain ⟨q1, q2, q3, q4⟩ := HQ.out
        rcases q4 with h | h
        · exact free_is HDD.out.1 q1 q2 h q3
        · omega)
      have g1 : ¬ (k : Int) ≤ (t.length : Int) := by omega
      go_wp2_with fail
      go_ret
      exact ⟨ret_int HFR.out.symm, bW.trans (hb.mono hsW)⟩

set_option maxRecDepth 20000 in
set_option maxHeartbeats 4000000 in
theorem specFreeDay_any (v v1 : Value) (t : List Ho) (r : Rec) (d : Int) (w : World) (h : RowR 6 rHo w v t) (h1 : RecV w v1 r) (n : Int) (b : Bool) (hres : freRes t r d = (n, b)) :
    Calls Try.prog 30 #[v, v1, .int .i64 d] w fun e w' => e = .returned (.tuple #[.int .i64 n, .bool b]) ∧ Below w.heap.size w w' := by
  obtain ⟨s, rfl, hr, hok⟩ := h1
  obtain ⟨y0, y1, y2, y3⟩ := r
  simp only at hr ⊢
  have HV := Lib.hid (show ∀ W, Below w.heap.size w W → RecV W (.agg #[.int .i64 y0, .int .i64 y1, .int .i64 y2, s]) ⟨y0, y1, y2, y3⟩ from fun W hW => ⟨s, rfl, hr.below rEv_stable hW, hok⟩)
  obtain ⟨sb, sd, rfl, _⟩ := hr
  have HBX := Lib.hid (show ∀ W, Below (w.alloc (.cells #[.int .i64 y0, .int .i64 y1, .int .i64 y2, .slice sb y3.length sd] 38 (0, 0))).heap.size (w.alloc (.cells #[.int .i64 y0, .int .i64 y1, .int .i64 y2, .slice sb y3.length sd] 38 (0, 0))) W → W.cell? ⟨w.heap.size, 0, none⟩ = some (.int .i64 y0) ∧ W.cell? ⟨w.heap.size, 1, none⟩ = some (.int .i64 y1) ∧ W.cell? ⟨w.heap.size, 2, none⟩ = some (.int .i64 y2) ∧ W.cell? ⟨w.heap.size, 3, none⟩ = some (.slice sb y3.length sd) from
    fun W hW => ⟨cell_kept (cell_new w _ _ 0 rfl) hW, cell_kept (cell_new w _ _ 1 rfl) hW, cell_kept (cell_new w _ _ 2 rfl) hW, cell_kept (cell_new w _ _ 3 rfl) hW⟩)
  have H := Lib.hid h
  obtain ⟨ba, ha⟩ : ∃ b, askH t ⟨y0, y1, y2, y3⟩ d = b := ⟨_, rfl⟩
  obtain ⟨F, hF⟩ : ∃ F, freeF t ⟨y0, y1, y2, y3⟩ d = F := ⟨_, rfl⟩
  have HA := Lib.hid ha
  have HFF := Lib.hid hF
  have NO := Lib.hid (fun hn => freRes_no hres hn)
  have YES := Lib.hid (fun hn => freRes_yes hres hn)
  clear h ha hres hok hF
  cases ba
  · obtain ⟨rfl, rfl⟩ := NO.out (by rw [HA.out]; simp)
    go_enter Try.func30, Try.ntmps30
    go_wp2_with (first | (go_at_call 82; refine (l9Asked_any _ _ t _ d _ (H.out.below rHo_stable (below_al (Below.refl _ _) _)) (HV.out _ (below_al (Below.refl _ _) _))).mono ?_; rw [HA.out]; rintro e w1 ⟨rfl, b1⟩; obtain ⟨c0, c1, c2, c3⟩ := HBX.out _ b1; have b1w := below_chain (below_al (Below.refl w.heap.size w) _) b1))
    go_ret2
    exact ⟨rfl, b1w⟩
  · have HAH := Lib.hid (askH_iff.1 HA.out).1
    have HDD := Lib.hid (askH_iff.1 HA.out).2.2
    by_cases hg : 20000 < F
    · obtain ⟨rfl, rfl⟩ := NO.out (by rw [HFF.out]; omega)
      go_enter Try.func30, Try.ntmps30
      go_wp2_with (first | (go_at_call 82; refine (l9Asked_any _ _ t _ d _ (H.out.below rHo_stable (below_al (Below.refl _ _) _)) (HV.out _ (below_al (Below.refl _ _) _))).mono ?_; rw [HA.out]; rintro e w1 ⟨rfl, b1⟩; obtain ⟨c0, c1, c2, c3⟩ := HBX.out _ b1; have b1w := below_chain (below_al (Below.refl w.heap.size w) _) b1) | (go_at_call 90; refine (l9Free_any _ _ t ⟨y0, y1, y2, y3⟩ d _ (H.out.below rHo_stable b1w) (HV.out _ b1w) HAH.out HDD.out).mono ?_; rw [HFF.out]; rintro e w2 ⟨rfl, b2⟩; replace b1 := b1.trans (b2.mono b1.size); obtain ⟨c0, c1, c2, c3⟩ := HBX.out _ b1; replace b1w := b1w.trans (b2.mono b1w.size); clear b2))
      go_ret2
      exact ⟨rfl, b1w⟩
    · obtain ⟨e0, rfl⟩ := YES.out ⟨HA.out, by rw [HFF.out]; omega⟩
      rw [HFF.out] at e0
      subst e0
      have dg : decide (20000 < n) = false := decide_eq_false hg
      go_enter Try.func30, Try.ntmps30
      go_wp2_with (first | (go_at_call 82; refine (l9Asked_any _ _ t _ d _ (H.out.below rHo_stable (below_al (Below.refl _ _) _)) (HV.out _ (below_al (Below.refl _ _) _))).mono ?_; rw [HA.out]; rintro e w1 ⟨rfl, b1⟩; obtain ⟨c0, c1, c2, c3⟩ := HBX.out _ b1; have b1w := below_chain (below_al (Below.refl w.heap.size w) _) b1) | (go_at_call 90; refine (l9Free_any _ _ t ⟨y0, y1, y2, y3⟩ d _ (H.out.below rHo_stable b1w) (HV.out _ b1w) HAH.out HDD.out).mono ?_; rw [HFF.out]; rintro e w2 ⟨rfl, b2⟩; replace b1 := b1.trans (b2.mono b1.size); obtain ⟨c0, c1, c2, c3⟩ := HBX.out _ b1; replace b1w := b1w.trans (b2.mono b1w.size); clear b2))
      go_ret2
      exact ⟨rfl, b1w⟩

set_option maxRecDepth 20000 in
set_option maxHeartbeats 4000000 in
theorem specMostHolds_any (v v1 : Value) (t : List Ho) (r : Rec) (w : World) (h : RowR 6 rHo w v t) (h1 : RecV w v1 r) (x y : Int) (b : Bool) (hres : moRes t r = (x, y, b)) :
    Calls Try.prog 48 #[v, v1] w fun e w' => e = .returned (.tuple #[.int .i64 x, .int .i64 y, .bool b]) ∧ Below w.heap.size w w' := by
  obtain ⟨s, rfl, hr, hok⟩ := h1
  obtain ⟨y0, y1, y2, y3⟩ := r
  simp only at hr ⊢
  have HV := Lib.hid (show ∀ W, Below w.heap.size w W → RecV W (.agg #[.int .i64 y0, .int .i64 y1, .int .i64 y2, s]) ⟨y0, y1, y2, y3⟩ from fun W hW => ⟨s, rfl, hr.below rEv_stable hW, hok⟩)
  obtain ⟨sb, sd, rfl, _⟩ := hr
  have HBX := Lib.hid (show ∀ W, Below (w.alloc (.cells #[.int .i64 y0, .int .i64 y1, .int .i64 y2, .slice sb y3.length sd] 38 (0, 0))).heap.size (w.alloc (.cells #[.int .i64 y0, .int .i64 y1, .int .i64 y2, .slice sb y3.length sd] 38 (0, 0))) W → W.cell? ⟨w.heap.size, 0, none⟩ = some (.int .i64 y0) ∧ W.cell? ⟨w.heap.size, 1, none⟩ = some (.int .i64 y1) ∧ W.cell? ⟨w.heap.size, 2, none⟩ = some (.int .i64 y2) ∧ W.cell? ⟨w.heap.size, 3, none⟩ = some (.slice sb y3.length sd) from
    fun W hW => ⟨cell_kept (cell_new w _ _ 0 rfl) hW, cell_kept (cell_new w _ _ 1 rfl) hW, cell_kept (cell_new w _ _ 2 rfl) hW, cell_kept (cell_new w _ _ 3 rfl) hW⟩)
  have H := Lib.hid h
  obtain ⟨a1, c1, rfl, hl1, hm1, r1⟩ := h.hos
  have R1 := Lib.hid r1
  unfold maxLen at hm1
  obtain ⟨ba, ha⟩ : ∃ b, askH t ⟨y0, y1, y2, y3⟩ 0 = b := ⟨_, rfl⟩
  have HA := Lib.hid ha
  have NO := Lib.hid (fun hn => moRes_no hres hn)
  have YES := Lib.hid (fun hn => moRes_yes hres hn)
  clear h ha hres hok r1
  cases ba
  · obtain ⟨rfl, rfl, rfl⟩ := NO.out (fun hc => by have := askH_iff.2 ⟨hc.1, hc.2, (by omega : (0 : Int) ≤ 0 ∧ (0 : Int) ≤ 20000)⟩; rw [HA.out] at this; cases this)
    go_enter Try.func48, Try.ntmps48
    go_wp2_with (first | (go_at_call 82; refine (l9Asked_any _ _ t _ 0 _ (H.out.below rHo_stable (below_al (Below.refl _ _) _)) (HV.out _ (below_al (Below.refl _ _) _))).mono ?_; rw [HA.out]; rintro e w1 ⟨rfl, b1⟩; obtain ⟨c0, c1, c2, c3⟩ := HBX.out _ b1; have b1w := below_chain (below_al (Below.refl w.heap.size w) _) b1))
    go_ret3
    exact ⟨rfl, b1w⟩
  · have HAH := Lib.hid (askH_iff.1 HA.out).1
    have hn8 := ho_len HAH.out
    obtain ⟨e1, e2, e3⟩ := YES.out ⟨(askH_iff.1 HA.out).1, (askH_iff.1 HA.out).2.1⟩
    have E1 := Lib.hid e1
    have E2 := Lib.hid e2
    have E3 := Lib.hid e3
    clear e1 e2 e3 NO YES
    go_enter Try.func48, Try.ntmps48
    go_wp2_with (first | (go_at_call 82; refine (l9Asked_any _ _ t _ 0 _ (H.out.below rHo_stable (below_al (Below.refl _ _) _)) (HV.out _ (below_al (Below.refl _ _) _))).mono ?_; rw [HA.out]; rintro e w1 ⟨rfl, b1⟩; obtain ⟨c0, c1, c2, c3⟩ := HBX.out _ b1; have b1w := below_chain (below_al (Below.refl w.heap.size w) _) b1))
    have s1 := b1w.size
    go_loopw [7, 8, 9] (fun m f i wr => ∃ (k : Nat) (M F : Int), k ≤ t.length ∧ i = .int .i64 k ∧ m = .int .i64 M ∧ f = .int .i64 F ∧ Hid (mostN t ⟨y0, y1, y2, y3⟩ k = (M, F)) ∧ Below w1.heap.size w1 wr) (fun _ _ i _ => t.length - (intOf i).toNat)
    case atStart => exact ⟨0, 0, 0, Nat.zero_le _, rfl, rfl, rfl, Lib.hid rfl, Below.refl _ _⟩
    case round =>
      obtain ⟨k, M, F, hk, rfl, rfl, rfl, HM, hb⟩ := hrel
      have hbw := b1w.trans (hb.mono s1)
      have hsz := hb.size
      by_cases hlt : k < t.length
      · obtain ⟨bR, oR, hbR, rfl, e1⟩ := R1.out.resolve_left (fun e => by rw [e] at hlt; simp at hlt)
        obtain ⟨x1, hx⟩ : ∃ s, (t.getD k hoD).frm = s := ⟨_, rfl⟩
        obtain ⟨s, q0, q1, q2, q3, q4, q5, hr, hok⟩ := e1 k hlt
        rw [hx] at q1
        have f1 := cell_kept q1 hbw
        have HX1 := Lib.hid (show x1 ≤ 20000 by rw [← hx]; exact (endH_bd (ho_at HAH.out hlt)).2.2.2)
        obtain ⟨N, hN⟩ : ∃ N : Nat, (onHo t ⟨y0, y1, y2, y3⟩ x1).length = N := ⟨_, rfl⟩
        have hstep := HM.out
        have HST : Hid (mostN t ⟨y0, y1, y2, y3⟩ (k + 1) = if M < (N : Int) ∨ ((N : Int) = M ∧ 0 < (N : Int) ∧ x1 < F) then ((N : Int), x1) else (M, F)) := Lib.hid (by
          conv => lhs; unfold mostN
          rw [hx, hN, hstep])
        have HON := Lib.hid hN
        have g0 : (0 : Int) ≤ (k : Int) := by omega
        have g1 : (k : Int) < (t.length : Int) := by omega
        obtain ⟨c0, c1, c2, c3⟩ := HBX.out _ (b1.trans (hb.mono b1.size))
        clear q0 q1 q2 q3 q4 q5 hr hok hx e1 hN hstep
        by_cases hA : M < (N : Int)
        · have HS2 := Lib.hid (HST.out.trans (if_pos (.inl hA)))
          go_wp2_with (first | (go_at_call 83; refine (l9On_any _ _ t ⟨y0, y1, y2, y3⟩ x1 _ (H.out.below rHo_stable hbw) (HV.out _ hbw) (by omega) HX1.out).mono ?_; rintro e w5 ⟨v', rfl, hi, b5⟩; obtain ⟨ao, co, rfl, _⟩ := hi.row; rw [HON.out]; replace b5 := hb.trans (b5.mono hb.size); clear hi))
          go_roundw
          case rel => exact ⟨k + 1, N, x1, by omega, by go_num, rfl, rfl, HS2, b5⟩
          case measure => simp [intOf]; omega
        · have dA : decide (M < (N : Int)) = false := decide_eq_false hA
          by_cases hB : (N : Int) = M
          · have dB : ((N : Int) == M) = true := by simp [hB]
            by_cases hC : 0 < (N : Int)
            · by_cases hD : x1 < F
              · have HS2 := Lib.hid (HST.out.trans (if_pos (.inr ⟨hB, hC, hD⟩)))
                have HBB := Lib.hid hB
                clear hB
                go_wp2_with (first | (go_at_call 83; refine (l9On_any _ _ t ⟨y0, y1, y2, y3⟩ x1 _ (H.out.below rHo_stable hbw) (HV.out _ hbw) (by omega) HX1.out).mono ?_; rintro e w5 ⟨v', rfl, hi, b5⟩; obtain ⟨ao, co, rfl, _⟩ := hi.row; rw [HON.out]; replace b5 := hb.trans (b5.mono hb.size); clear hi))
                go_roundw
                case rel => exact ⟨k + 1, N, x1, by omega, by go_num, rfl, rfl, HS2, b5⟩
                case measure => simp [intOf]; omega
              · have dD : decide (x1 < F) = false := decide_eq_false hD
                have HS2 := Lib.hid (HST.out.trans (if_neg (fun h => by rcases h with h | ⟨_, _, h⟩ <;> contradiction)))
                have HBB := Lib.hid hB
                clear hB
                go_wp2_with (first | (go_at_call 83; refine (l9On_any _ _ t ⟨y0, y1, y2, y3⟩ x1 _ (H.out.below rHo_stable hbw) (HV.out _ hbw) (by omega) HX1.out).mono ?_; rintro e w5 ⟨v', rfl, hi, b5⟩; obtain ⟨ao, co, rfl, _⟩ := hi.row; rw [HON.out]; replace b5 := hb.trans (b5.mono hb.size); clear hi))
                go_roundw
                case rel => exact ⟨k + 1, M, F, by omega, by go_num, rfl, rfl, HS2, b5⟩
                case measure => simp [intOf]; omega
            · have dC : decide ((0 : Int) < (N : Int)) = false := decide_eq_false hC
              have dC2 : decide (0 < N) = false := decide_eq_false (by omega)
              have HS2 := Lib.hid (HST.out.trans (if_neg (fun h => by rcases h with h | ⟨_, h, _⟩ <;> contradiction)))
              have HBB := Lib.hid hB
              clear hB
              go_wp2_with (first | (go_at_call 83; refine (l9On_any _ _ t ⟨y0, y1, y2, y3⟩ x1 _ (H.out.below rHo_stable hbw) (HV.out _ hbw) (by omega) HX1.out).mono ?_; rintro e w5 ⟨v', rfl, hi, b5⟩; obtain ⟨ao, co, rfl, _⟩ := hi.row; rw [HON.out]; replace b5 := hb.trans (b5.mono hb.size); clear hi))
              go_roundw
              case rel => exact ⟨k + 1, M, F, by omega, by go_num, rfl, rfl, HS2, b5⟩
              case measure => simp [intOf]; omega
          · have dB : ((N : Int) == M) = false := beq_false_of_ne hB
            have HS2 := Lib.hid (HST.out.trans (if_neg (fun h => by rcases h with h | ⟨h, _, _⟩ <;> contradiction)))
            have HBB := Lib.hid hB
            clear hB
            go_wp2_with (first | (go_at_call 83; refine (l9On_any _ _ t ⟨y0, y1, y2, y3⟩ x1 _ (H.out.below rHo_stable hbw) (HV.out _ hbw) (by omega) HX1.out).mono ?_; rintro e w5 ⟨v', rfl, hi, b5⟩; obtain ⟨ao, co, rfl, _⟩ := hi.row; rw [HON.out]; replace b5 := hb.trans (b5.mono hb.size); clear hi))
            go_roundw
            case rel => exact ⟨k + 1, M, F, by omega, by go_num, rfl, rfl, HS2, b5⟩
            case measure => simp [intOf]; omega
      · have hkl : k = t.length := by omega
        have hM := HM.out
        rw [hkl] at hM
        have EE1 : Hid (x = M) := Lib.hid (by rw [E1.out, hM])
        have EE2 : Hid (y = F) := Lib.hid (by rw [E2.out, hM])
        have EE3 : Hid (b = decide (0 < M)) := Lib.hid (by rw [E3.out, hM])
        clear hkl hM
        go_wp2_with fail
        go_ret3
        rw [EE1.out, EE2.out, EE3.out]
        exact ⟨rfl, hbw⟩
end Go.Proofs.Ytkjpehpodlpdhaa
