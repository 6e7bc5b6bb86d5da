/- Holds, the model's: what is asked, the ids of the holds that cover a record, AreHolds, HoldsOn. -/
import Derived.Test.YtkjpehpodlpdhaaHoS
import Derived.Test.YtkjpehpodlpdhaaIntsK
import Derived.Lib.QuietBelow
import Derived.BigQuiet
import Derived.WalkSmall
namespace Go.Proofs.Ytkjpehpodlpdhaa
set_option linter.unusedVariables false
open Go.RowKit Go.Sort

set_option maxRecDepth 20000 in
set_option maxHeartbeats 4000000 in
theorem l9Asked_any (v v1 : Value) (t : List Ho) (r : Rec) (d : Int) (w : World) (h : RowR 6 rHo w v t) (h1 : RecV w v1 r) :
    Calls Try.prog 82 #[v, v1, .int .i64 d] w fun e w' => e = .returned (.bool (askH t r d)) ∧ Below w.heap.size w w' := by
  obtain ⟨s, rfl, hr, hok⟩ := h1
  obtain ⟨y0, y1, y2, y3⟩ := r
  simp only at hr ⊢
  have HV := Lib.hid (show ∀ W, Below w.heap.size w W → RecV W (.agg #[.int .i64 y0, .int .i64 y1, .int .i64 y2, s]) ⟨y0, y1, y2, y3⟩ from fun W hW => ⟨s, rfl, hr.below rEv_stable hW, hok⟩)
  obtain ⟨sb, sd, rfl, _⟩ := hr
  have HBX := Lib.hid (show ∀ W, Below (w.alloc (.cells #[.int .i64 y0, .int .i64 y1, .int .i64 y2, .slice sb y3.length sd] 38 (0, 0))).heap.size (w.alloc (.cells #[.int .i64 y0, .int .i64 y1, .int .i64 y2, .slice sb y3.length sd] 38 (0, 0))) W → W.cell? ⟨w.heap.size, 0, none⟩ = some (.int .i64 y0) ∧ W.cell? ⟨w.heap.size, 1, none⟩ = some (.int .i64 y1) ∧ W.cell? ⟨w.heap.size, 2, none⟩ = some (.int .i64 y2) ∧ W.cell? ⟨w.heap.size, 3, none⟩ = some (.slice sb y3.length sd) from
    fun W hW => ⟨cell_kept (cell_new w _ _ 0 rfl) hW, cell_kept (cell_new w _ _ 1 rfl) hW, cell_kept (cell_new w _ _ 2 rfl) hW, cell_kept (cell_new w _ _ 3 rfl) hW⟩)
  have H := Lib.hid h
  obtain ⟨bg, hg⟩ : ∃ b, areHo t = b := ⟨_, rfl⟩
  obtain ⟨br, hrr⟩ : ∃ b, isRec ⟨y0, y1, y2, y3⟩ = b := ⟨_, rfl⟩
  obtain ⟨bd, hd⟩ : ∃ b, decide (0 ≤ d ∧ d ≤ 20000) = b := ⟨_, rfl⟩
  have hres : askH t ⟨y0, y1, y2, y3⟩ d = (bg && (br && bd)) := by unfold askH; rw [hg, hrr, hd]
  rw [hres]
  have HG := Lib.hid hg
  have HR := Lib.hid hrr
  have HD := Lib.hid hd
  clear h hg hrr hd hres hok
  cases bg
  · skip
    go_enter Try.func82, Try.ntmps82
    go_wp2_with (first | (go_at_call 75; refine (l9Good_any _ t _ (H.out.below rHo_stable (below_al (Below.refl _ _) _))).mono ?_; rw [HG.out]; rintro e w1 ⟨rfl, b1⟩; obtain ⟨c0, c1, c2, c3⟩ := HBX.out _ b1))
    go_ret
    exact ⟨rfl, below_chain (below_al (Below.refl _ _) _) b1⟩
  · cases br
    · skip
      go_enter Try.func82, Try.ntmps82
      go_wp2_with (first | (go_at_call 75; refine (l9Good_any _ t _ (H.out.below rHo_stable (below_al (Below.refl _ _) _))).mono ?_; rw [HG.out]; rintro e w1 ⟨rfl, b1⟩; obtain ⟨c0, c1, c2, c3⟩ := HBX.out _ b1) | (go_at_call 144; refine (l2Record_any _ ⟨y0, y1, y2, y3⟩ _ (HV.out _ (below_chain (below_al (Below.refl _ _) _) b1))).mono ?_; rw [HR.out]; rintro e w2 ⟨rfl, b2⟩; replace b1 := b1.trans (b2.mono b1.size)))
      go_ret
      exact ⟨rfl, below_chain (below_al (Below.refl _ _) _) b1⟩
    · skip
      go_enter Try.func82, Try.ntmps82
      go_wp2_with (first | (go_at_call 75; refine (l9Good_any _ t _ (H.out.below rHo_stable (below_al (Below.refl _ _) _))).mono ?_; rw [HG.out]; rintro e w1 ⟨rfl, b1⟩; obtain ⟨c0, c1, c2, c3⟩ := HBX.out _ b1) | (go_at_call 144; refine (l2Record_any _ ⟨y0, y1, y2, y3⟩ _ (HV.out _ (below_chain (below_al (Below.refl _ _) _) b1))).mono ?_; rw [HR.out]; rintro e w2 ⟨rfl, b2⟩; replace b1 := b1.trans (b2.mono b1.size)) | (go_at_call 99; refine (l2Day_any _ _).mono ?_; rw [HD.out]; rintro e w3 ⟨rfl, h3⟩; subst w3))
      go_ret
      exact ⟨rfl, below_chain (below_al (Below.refl _ _) _) b1⟩

set_option maxRecDepth 20000 in
set_option maxHeartbeats 4000000 in
theorem l9On_any (v v1 : Value) (t : List Ho) (r : Rec) (d : Int) (w : World) (h : RowR 6 rHo w v t) (h1 : RecV w v1 r) (hn : t.length ≤ 1048576) (hd : d ≤ 20000) :
    Calls Try.prog 83 #[v, v1, .int .i64 d] w fun e w' => ∃ v', e = .returned v' ∧ IntsO w.heap.size w'.heap.size w' v' (onHo t r d) ∧ Below w.heap.size w w' := by
  obtain ⟨i0, hi, hz0, hz1, hz2⟩ := info_parts Try.info_intI
  obtain ⟨s, rfl, hr, hok⟩ := h1
  obtain ⟨y0, y1, y2, y3⟩ := r
  simp only at hr ⊢
  have HV := Lib.hid (show ∀ W, Below w.heap.size w W → RecV W (.agg #[.int .i64 y0, .int .i64 y1, .int .i64 y2, s]) ⟨y0, y1, y2, y3⟩ from fun W hW => ⟨s, rfl, hr.below rEv_stable hW, hok⟩)
  obtain ⟨sb, sd, rfl, _⟩ := hr
  obtain ⟨a1, c1, rfl, hl1, hm1, r1⟩ := h.hos
  have R1 := Lib.hid r1
  have HDD := Lib.hid hd
  clear h r1 hok hd
  unfold maxLen at hm1
  go_enter Try.func83, Try.ntmps83
  go_wp2_with fail
  generalize hW1 : w.alloc (.cells #[.int .i64 y0, .int .i64 y1, .int .i64 y2, .slice sb y3.length sd] 38 (0, 0)) = W1
  have bW : Below w.heap.size w W1 := by rw [← hW1]; exact below_al (Below.refl _ _) _
  have z0 : W1.cell? ⟨w.heap.size, 0, none⟩ = some (.int .i64 y0) := by rw [← hW1]; exact cell_new w _ _ 0 rfl
  have z1 : W1.cell? ⟨w.heap.size, 1, none⟩ = some (.int .i64 y1) := by rw [← hW1]; exact cell_new w _ _ 1 rfl
  have z2 : W1.cell? ⟨w.heap.size, 2, none⟩ = some (.int .i64 y2) := by rw [← hW1]; exact cell_new w _ _ 2 rfl
  have z3 : W1.cell? ⟨w.heap.size, 3, none⟩ = some (.slice sb y3.length sd) := by rw [← hW1]; exact cell_new w _ _ 3 rfl
  have hsW := bW.size
  have HSW := Lib.hid (show W1.heap.size = w.heap.size + 1 by rw [← hW1]; simp)
  clear hW1
  have HI0 := Lib.hid (ints_newK W1).1
  go_loopw [7, 8] (fun o i wr => ∃ k : Nat, k ≤ t.length ∧ i = .int .i64 k ∧ wr.ownsRow W1.heap.size 3 1 o (onHo (t.take k) ⟨y0, y1, y2, y3⟩ d).length ((onHo (t.take k) ⟨y0, y1, y2, y3⟩ d).map vI) ∧ Below W1.heap.size W1 wr) (fun _ i _ => t.length - (intOf i).toNat)
  case atStart => exact ⟨0, Nat.zero_le _, rfl, by have h0 := HI0.out; rw [← HSW.out]; simpa [onHo] using h0, below_al (Below.refl _ _) _⟩
  case round =>
    obtain ⟨k, hk, rfl, hO, hb⟩ := hrel
    have hbw := bW.trans (hb.mono hsW)
    have hsz := hb.size
    by_cases hlt : k < t.length
    · obtain ⟨bR, oR, hbR, rfl, e1⟩ := R1.out.resolve_left (fun e => by rw [e] at hlt; simp at hlt)
      obtain ⟨⟨x0, x1, x2, x3, x4, x5⟩, hx⟩ : ∃ s, t.getD k hoD = s := ⟨_, rfl⟩
      obtain ⟨s, q0, q1, q2, q3, q4, q5, hr, hok⟩ := e1 k hlt
      rw [hx] at q0 q1 q2 q4 q5 hr hok
      simp only at q0 q1 q2 q4 q5 hr
      have f0 := cell_kept q0 hbw
      have m0 := cell_regrown f0
      have m1 := cell_regrown (cell_kept q1 hbw)
      have m2 := cell_regrown (cell_kept q2 hbw)
      have m3 := cell_regrown (cell_kept q3 hbw)
      have m4 := cell_regrown (cell_kept q4 hbw)
      have m5 := cell_regrown (cell_kept q5 hbw)
      have n0 := cell_regrown (cell_kept z0 hb)
      have n1 := cell_regrown (cell_kept z1 hb)
      have n2 := cell_regrown (cell_kept z2 hb)
      have n3 := cell_regrown (cell_kept z3 hb)
      have hV : HoV wr (.agg #[.int .i64 x0, .int .i64 x1, .int .i64 x2, s, .int .i64 x4, .int .i64 x5]) ⟨x0, x1, x2, x3, x4, x5⟩ := ⟨s, rfl, hr.below hbw, hok⟩
      obtain ⟨sa, sc, rfl, _⟩ := hr
      have hsucc := onHo_succ (r := ⟨y0, y1, y2, y3⟩) (d := d) hlt
      have hlen := onHo_len (t.take k) ⟨y0, y1, y2, y3⟩ d
      rw [List.length_take] at hlen
      rw [hx] at hsucc
      obtain ⟨bC, hbC⟩ : ∃ b, covB ⟨x0, x1, x2, x3, x4, x5⟩ ⟨y0, y1, y2, y3⟩ d = b := ⟨_, rfl⟩
      rw [hbC] at hsucc
      obtain ⟨Pp, hP⟩ : ∃ P, onHo (t.take k) ⟨y0, y1, y2, y3⟩ d = P := ⟨_, rfl⟩
      rw [hP] at hO hlen hsucc
      have HSU := Lib.hid hsucc
      have HO := Lib.hid hO
      have g0 : (0 : Int) ≤ (k : Int) := by omega
      have g1 : (k : Int) < (t.length : Int) := by omega
      have hc : ∀ D os, Calls Try.prog 112 #[.agg #[.int .i64 x0, .int .i64 x1, .int .i64 x2, .slice sa x3.length sc, .int .i64 x4, .int .i64 x5], .agg #[.int .i64 y0, .int .i64 y1, .int .i64 y2, .slice sb y3.length sd], .int .i64 d] (grow (redrawn wr D) os) fun e w'' => e = .returned (.bool bC) ∧ ∃ p : Regrown, w'' = grow (redrawn wr p.d) p.os := fun D os => Calls.regrown_of (by have := l9Covers_any _ _ _ _ d (grow (redrawn wr D) os) (hV.below (below_regrown wr D os)) (HV.out _ (hbw.trans ((below_regrown wr D os).mono hbw.size))) HDD.out; rwa [hbC] at this)
      clear q0 q1 q2 q3 q4 q5 hok hx e1 hsucc hP hbC hV hO
      cases bC
      · have HSU2 := Lib.hid (HSU.out.trans (if_neg (by simp)))
        go_wp2_with fail
        refine wp_region_quiet_below (by kernel_rfl) (by kernel_rfl) ?_
        repeat (go_big_quiet_step (first | exact hc _ _))
        refine wpQuiet_nil ?_
        intro _ hw'
        obtain ⟨⟨dq, osq⟩, hw''⟩ := hw'
        subst hw''
        have bq := below_regrown wr dq osq
        have y0f := cell_kept f0 bq
        have HO2 := Lib.hid (ownsRow_below HO.out bq)
        have hb2 := hb.trans (bq.mono hsz)
        have hs2 := hb2.size
        generalize grow (redrawn wr dq) osq = w2 at *
        go_wp2
        go_roundw
        case rel => exact ⟨k + 1, by omega, by go_num, (by rw [HSU2.out]; exact HO2.out), hb2⟩
        case measure => simp [intOf]; omega
      · have HSU2 := Lib.hid (HSU.out.trans (if_pos rfl))
        go_wp2_with fail
        refine wp_region_quiet_below (by kernel_rfl) (by kernel_rfl) ?_
        repeat (go_big_quiet_step (first | exact hc _ _))
        refine wpQuiet_nil ?_
        intro _ hw'
        obtain ⟨⟨dq, osq⟩, hw''⟩ := hw'
        subst hw''
        have bq := below_regrown wr dq osq
        have y0f := cell_kept f0 bq
        have HO2 := Lib.hid (ownsRow_below HO.out bq)
        have hb2 := hb.trans (bq.mono hsz)
        have hs2 := hb2.size
        generalize grow (redrawn wr dq) osq = w2 at *
        go_wp2_with (first | (at_builtin; refine wpList_append_own _ rfl _ _ 33 rfl W1.heap.size 3 i0 (.int .i64 0) 1 8 Try.underlying33 hi hz0 hz1 hz2 rfl (by decide) _ _ _ rfl (HO2.out.alloc _) ⟨w2.heap.size, 0, none⟩ 1 1 [.int .i64 x0] rfl rfl (cell_oneI _ _ _ (by simp)) (by simp [Value.oneCell']) (by unfold maxLen; omega) (by omega) (by simp; omega) ?_; intro v' w7 hown' hgrow _))
        have HOWN := Lib.hid hown'
        have HB := Lib.hid (below_app hb2 (Nat.le_refl _) HO2.out hgrow)
        clear hown' hgrow
        go_wp2_with fail
        go_roundw
        case rel => exact ⟨k + 1, by omega, by go_num, (by rw [HSU2.out]; simpa [vI] using HOWN.out), HB.out⟩
        case measure => simp [intOf]; omega
    · obtain rfl : k = t.length := by omega
      rw [List.take_length] at hO
      have HO := Lib.hid hO
      clear hO
      go_wp2_with fail
      go_ret
      exact ⟨_, rfl, (ints_rowK HO.out rfl).wide hsW (Nat.le_refl _), hbw⟩

theorem specAreHolds_any (v : Value) (t : List Ho) (w : World) (h : RowR 6 rHo w v t) :
    Calls Try.prog 16 #[v] w fun e w' => e = .returned (.bool (areHo t)) ∧ Below w.heap.size w w' := by
  have H := Lib.hid h
  clear h
  go_enter Try.func16, Try.ntmps16
  go_wp2_with (first | (go_at_call 75; refine (l9Good_any _ t _ H.out).mono ?_; rintro e w' ⟨rfl, b1⟩))
  go_ret
  exact ⟨rfl, b1⟩

set_option maxRecDepth 20000 in
set_option maxHeartbeats 4000000 in
theorem specHoldsOn_any (v v1 : Value) (t : List Ho) (r : Rec) (d : Int) (w : World) (h : RowR 6 rHo w v t) (h1 : RecV w v1 r) (xs : List Int) (b : Bool) (hres : hoRes t r d = (xs, b)) :
    Calls Try.prog 21 #[v, v1, .int .i64 d] w fun e w' => ∃ v', e = .returned (.tuple #[v', .bool b]) ∧ IntsO w.heap.size w'.heap.size w' v' xs ∧ Below w.heap.size w w' := by
  obtain ⟨s, rfl, hr, hok⟩ := h1
  obtain ⟨y0, y1, y2, y3⟩ := r
  simp only at hr ⊢
  have HV := Lib.hid (show ∀ W, Below w.heap.size w W → RecV W (.agg #[.int .i64 y0, .int .i64 y1, .int .i64 y2, s]) ⟨y0, y1, y2, y3⟩ from fun W hW => ⟨s, rfl, hr.below rEv_stable hW, hok⟩)
  obtain ⟨sb, sd, rfl, _⟩ := hr
  have HBX := Lib.hid (show ∀ W, Below (w.alloc (.cells #[.int .i64 y0, .int .i64 y1, .int .i64 y2, .slice sb y3.length sd] 38 (0, 0))).heap.size (w.alloc (.cells #[.int .i64 y0, .int .i64 y1, .int .i64 y2, .slice sb y3.length sd] 38 (0, 0))) W → W.cell? ⟨w.heap.size, 0, none⟩ = some (.int .i64 y0) ∧ W.cell? ⟨w.heap.size, 1, none⟩ = some (.int .i64 y1) ∧ W.cell? ⟨w.heap.size, 2, none⟩ = some (.int .i64 y2) ∧ W.cell? ⟨w.heap.size, 3, none⟩ = some (.slice sb y3.length sd) from
    fun W hW => ⟨cell_kept (cell_new w _ _ 0 rfl) hW, cell_kept (cell_new w _ _ 1 rfl) hW, cell_kept (cell_new w _ _ 2 rfl) hW, cell_kept (cell_new w _ _ 3 rfl) hW⟩)
  have H := Lib.hid h
  obtain ⟨ba, ha⟩ : ∃ b, askH t ⟨y0, y1, y2, y3⟩ d = b := ⟨_, rfl⟩
  have HA := Lib.hid ha
  have NO := Lib.hid (fun hn => hoRes_no hres hn)
  have YES := Lib.hid (fun hn => hoRes_yes hres hn)
  clear h ha hres hok
  cases ba
  · obtain ⟨rfl, rfl⟩ := NO.out (by rw [HA.out]; simp)
    go_enter Try.func21, Try.ntmps21
    go_wp2_with (first | (go_at_call 82; refine (l9Asked_any _ _ t _ d _ (H.out.below rHo_stable (below_al (Below.refl _ _) _)) (HV.out _ (below_al (Below.refl _ _) _))).mono ?_; rw [HA.out]; rintro e w1 ⟨rfl, b1⟩; have HI1 := Lib.hid (ints_newK w1)))
    go_ret2
    exact ⟨_, rfl, HI1.out.wide (below_chain (below_al (Below.refl _ _) _) b1).size (Nat.le_refl _), below_al (below_chain (below_al (Below.refl _ _) _) b1) _⟩
  · obtain ⟨rfl, rfl⟩ := YES.out HA.out
    go_enter Try.func21, Try.ntmps21
    go_wp2_with (first | (go_at_call 82; refine (l9Asked_any _ _ t _ d _ (H.out.below rHo_stable (below_al (Below.refl _ _) _)) (HV.out _ (below_al (Below.refl _ _) _))).mono ?_; rw [HA.out]; rintro e w1 ⟨rfl, b1⟩; obtain ⟨c0, c1, c2, c3⟩ := HBX.out _ b1; replace b1 := below_chain (below_al (Below.refl w.heap.size w) _) b1) | (go_at_call 83; refine (l9On_any _ _ t _ d _ (H.out.below rHo_stable b1) (HV.out _ b1) (by have := ho_len (askH_iff.1 HA.out).1; omega) (askH_iff.1 HA.out).2.2.2).mono ?_; rintro e w2 ⟨v', rfl, hi, b2⟩))
    go_ret2
    exact ⟨_, rfl, hi.wide b1.size (Nat.le_refl _), below_chain b1 b2⟩
end Go.Proofs.Ytkjpehpodlpdhaa
