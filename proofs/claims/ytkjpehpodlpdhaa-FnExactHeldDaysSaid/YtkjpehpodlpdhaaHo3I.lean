/- Holds, the program's: idsOf, HoldsOn. -/
import Derived.Test.YtkjpehpodlpdhaaHo2I
import Derived.Test.YtkjpehpodlpdhaaIsRecI
import Derived.Test.YtkjpehpodlpdhaaIntsK
import Derived.Lib.QuietBelow
import Derived.BigQuiet
import Derived.WalkSmall
namespace Go.Proofs.Ytkjpehpodlpdhaa
set_option linter.unusedVariables false
open Go.RowKit Go.Sort

set_option maxRecDepth 20000 in
set_option maxHeartbeats 4000000 in
theorem idsOf_any (v : Value) (t : List Ho) (r : Rec) (d : Int) (B1 B2 : Nat) (w : World) (h : RowR 6 rHo w v t) (hB : CovB w B1 B2 r d) (hn : t.length ≤ 1048576) :
    Calls Try.prog 86 #[v, .func (.func 147) #[] #[.pointer (some ⟨B1, 0, none⟩), .pointer (some ⟨B2, 0, none⟩)]] w fun e w' => ∃ v', e = .returned v' ∧ IntsO w.heap.size w'.heap.size w' v' (onHo t r d) ∧ Below w.heap.size w w' := by
  obtain ⟨i0, hi, hz0, hz1, hz2⟩ := info_parts Try.info_intI
  obtain ⟨a1, c1, rfl, hl1, hm1, r1⟩ := h.hos
  have R1 := Lib.hid r1
  have HB := Lib.hid hB
  clear h r1 hB
  unfold maxLen at hm1
  go_enter Try.func86, Try.ntmps86
  go_wp2_with fail
  go_loopw [5, 10] (fun o i wr => ∃ k : Nat, k ≤ t.length ∧ i = .int .i64 k ∧ wr.ownsRow w.heap.size 3 1 o (onHo (t.take k) r d).length ((onHo (t.take k) r d).map vI) ∧ Below w.heap.size w wr) (fun _ i _ => t.length - (intOf i).toNat)
  case atStart => exact ⟨0, Nat.zero_le _, rfl, by simpa [onHo] using World.ownsRow_nil _ _ _ _, Below.refl _ _⟩
  case round =>
    obtain ⟨k, hk, rfl, hO, hb⟩ := hrel
    have hsz := hb.size
    by_cases hlt : k < t.length
    · obtain ⟨bR, oR, hbR, rfl, e1⟩ := R1.out.resolve_left (fun e => by rw [e] at hlt; simp at hlt)
      obtain ⟨⟨x0, x1, x2, x3, x4, x5⟩, hx⟩ : ∃ s, t.getD k hoD = s := ⟨_, rfl⟩
      obtain ⟨s, q0, q1, q2, q3, q4, q5, hr, hok⟩ := e1 k hlt
      rw [hx] at q0 q1 q2 q4 q5 hr hok
      simp only at q0 q1 q2 q4 q5 hr
      have f0 := cell_kept q0 hb
      have f1 := cell_kept q1 hb
      have f2 := cell_kept q2 hb
      have f3 := cell_kept q3 hb
      have f4 := cell_kept q4 hb
      have f5 := cell_kept q5 hb
      have hV : HoV wr (.agg #[.int .i64 x0, .int .i64 x1, .int .i64 x2, s, .int .i64 x4, .int .i64 x5]) ⟨x0, x1, x2, x3, x4, x5⟩ := ⟨s, rfl, hr.below hb, hok⟩
      obtain ⟨sa, sc, rfl, _⟩ := hr
      have hsucc := onHo_succ (r := r) (d := d) hlt
      have hlen := onHo_len (t.take k) r d
      rw [List.length_take] at hlen
      rw [hx] at hsucc
      obtain ⟨bC, hbC⟩ : ∃ b, covB ⟨x0, x1, x2, x3, x4, x5⟩ r d = b := ⟨_, rfl⟩
      rw [hbC] at hsucc
      obtain ⟨Pp, hP⟩ : ∃ P, onHo (t.take k) r d = P := ⟨_, rfl⟩
      rw [hP] at hO hlen hsucc
      have HSU := Lib.hid hsucc
      have HO := Lib.hid hO
      have g0 : (0 : Int) ≤ (k : Int) := by omega
      have g1 : (k : Int) < (t.length : Int) := by omega
      have b0 := below_al (Below.refl wr.heap.size wr) (.cells #[.int .i64 x0, .int .i64 x1, .int .i64 x2, .slice sa x3.length sc, .int .i64 x4, .int .i64 x5] 100 (0, 0))
      have hcall := covers1_any _ ⟨x0, x1, x2, x3, x4, x5⟩ r d B1 B2 (wr.alloc (.cells #[.int .i64 x0, .int .i64 x1, .int .i64 x2, .slice sa x3.length sc, .int .i64 x4, .int .i64 x5] 100 (0, 0))) (hV.below b0) ((HB.out.below hb).below b0)
      rw [hbC] at hcall
      have HCALL := Lib.hid hcall
      have HBXX := Lib.hid (fun W (hW : Below (wr.alloc (.cells #[.int .i64 x0, .int .i64 x1, .int .i64 x2, .slice sa x3.length sc, .int .i64 x4, .int .i64 x5] 100 (0, 0))).heap.size (wr.alloc (.cells #[.int .i64 x0, .int .i64 x1, .int .i64 x2, .slice sa x3.length sc, .int .i64 x4, .int .i64 x5] 100 (0, 0))) W) => cell_kept (cell_new wr #[.int .i64 x0, .int .i64 x1, .int .i64 x2, .slice sa x3.length sc, .int .i64 x4, .int .i64 x5] 100 0 rfl) hW)
      clear q0 q1 q2 q3 q4 q5 hok hx e1 hsucc hP hbC hV hO hcall b0
      cases bC
      · have HSU2 := Lib.hid (HSU.out.trans (if_neg (by simp)))
        go_wp2_with (first | (go_at_call 147; refine HCALL.out.mono ?_; rintro e w6 ⟨rfl, b6⟩; have c0 := HBXX.out _ b6; have c0' : ∀ o, (w6.alloc o).cell? ⟨wr.heap.size, 0, none⟩ = some (.int .i64 x0) := (fun o => below_al_cell c0 o); have HO6 := Lib.hid (ownsRow_below (HO.out.alloc _) b6); replace b6 := below_chain (below_al (Below.refl wr.heap.size wr) _) b6; have hb6 := hb.trans (b6.mono hsz); have hs6 := hb6.size))
        go_roundw
        case rel => exact ⟨k + 1, by omega, by go_num, (by rw [HSU2.out]; exact HO6.out), hb6⟩
        case measure => simp [intOf]; omega
      · have HSU2 := Lib.hid (HSU.out.trans (if_pos rfl))
        go_wp2_with (first | (go_at_call 147; refine HCALL.out.mono ?_; rintro e w6 ⟨rfl, b6⟩; have c0 := HBXX.out _ b6; have c0' : ∀ o, (w6.alloc o).cell? ⟨wr.heap.size, 0, none⟩ = some (.int .i64 x0) := (fun o => below_al_cell c0 o); have HO6 := Lib.hid (ownsRow_below (HO.out.alloc _) b6); replace b6 := below_chain (below_al (Below.refl wr.heap.size wr) _) b6; have hb6 := hb.trans (b6.mono hsz); have hs6 := hb6.size) | (at_builtin; refine wpList_append_own _ rfl _ _ 33 rfl w.heap.size 3 i0 (.int .i64 0) 1 8 Try.underlying33 hi hz0 hz1 hz2 rfl (by decide) _ _ _ rfl (HO6.out.alloc _) ⟨w6.heap.size, 0, none⟩ 1 1 [.int .i64 x0] rfl rfl (cell_oneI _ _ _ (by simp)) (by simp [Value.oneCell']) (by unfold maxLen; omega) (by omega) (by simp; omega) ?_; intro v' w7 hown' hgrow _))
        have HOWN := Lib.hid hown'
        have HB7 := Lib.hid (below_app hb6 (Nat.le_refl _) HO6.out hgrow)
        clear hown' hgrow
        go_wp2_with fail
        go_roundw
        case rel => exact ⟨k + 1, by omega, by go_num, (by rw [HSU2.out]; simpa [vI] using HOWN.out), HB7.out⟩
        case measure => simp [intOf]; omega
    · obtain rfl : k = t.length := by omega
      rw [List.take_length] at hO
      have HO := Lib.hid hO
      clear hO
      go_wp2_with fail
      go_ret
      exact ⟨_, rfl, ints_rowK HO.out rfl, hb⟩

set_option maxRecDepth 20000 in
set_option maxHeartbeats 4000000 in
theorem implHoldsOn_any (v v1 : Value) (t : List Ho) (r : Rec) (d : Int) (w : World) (h : RowR 6 rHo w v t) (h1 : RecV w v1 r) (xs : List Int) (b : Bool) (hres : hoRes t r d = (xs, b)) :
    Calls Try.prog 23 #[v, v1, .int .i64 d] w fun e w' => ∃ v', e = .returned (.tuple #[v', .bool b]) ∧ IntsO w.heap.size w'.heap.size w' v' xs ∧ Below w.heap.size w w' := by
  obtain ⟨s, rfl, hr, hok⟩ := h1
  obtain ⟨y0, y1, y2, y3⟩ := r
  simp only at hr ⊢
  have HV := Lib.hid (show ∀ W, Below w.heap.size w W → RecV W (.agg #[.int .i64 y0, .int .i64 y1, .int .i64 y2, s]) ⟨y0, y1, y2, y3⟩ from fun W hW => ⟨s, rfl, hr.below rEv_stable hW, hok⟩)
  obtain ⟨sb, sd, rfl, _⟩ := hr
  have HBX := Lib.hid (show ∀ W, Below (w.alloc (.cells #[.int .i64 y0, .int .i64 y1, .int .i64 y2, .slice sb y3.length sd] 38 (0, 0))).heap.size (w.alloc (.cells #[.int .i64 y0, .int .i64 y1, .int .i64 y2, .slice sb y3.length sd] 38 (0, 0))) W → W.cell? ⟨w.heap.size, 0, none⟩ = some (.int .i64 y0) ∧ W.cell? ⟨w.heap.size, 1, none⟩ = some (.int .i64 y1) ∧ W.cell? ⟨w.heap.size, 2, none⟩ = some (.int .i64 y2) ∧ W.cell? ⟨w.heap.size, 3, none⟩ = some (.slice sb y3.length sd) from
    fun W hW => ⟨cell_kept (cell_new w _ _ 0 rfl) hW, cell_kept (cell_new w _ _ 1 rfl) hW, cell_kept (cell_new w _ _ 2 rfl) hW, cell_kept (cell_new w _ _ 3 rfl) hW⟩)
  have H := Lib.hid h
  obtain ⟨bg, hg⟩ : ∃ b, areHo t = b := ⟨_, rfl⟩
  obtain ⟨br, hrr⟩ : ∃ b, isRec ⟨y0, y1, y2, y3⟩ = b := ⟨_, rfl⟩
  obtain ⟨bd, hd⟩ : ∃ b, decide (0 ≤ d ∧ d ≤ 20000) = b := ⟨_, rfl⟩
  have HG := Lib.hid hg
  have HR := Lib.hid hrr
  have HD := Lib.hid hd
  have NO := Lib.hid (fun hn => hoRes_no hres hn)
  have YES := Lib.hid (fun hn => hoRes_yes hres hn)
  clear h hg hrr hd hres hok
  cases bg
  · skip
    obtain ⟨rfl, rfl⟩ := NO.out (fun hc => by have := askH_iff.1 hc; rw [HG.out] at this; exact absurd this.1 (by simp))
    go_enter Try.func23, Try.ntmps23
    go_wp2_with (first | (go_at_call 18; refine (implAreHo_any _ t _ (H.out.below rHo_stable (below_al (Below.refl _ _) _))).mono ?_; rw [HG.out]; rintro e w1 ⟨rfl, b1⟩; obtain ⟨c0, c1, c2, c3⟩ := HBX.out _ b1; have b1w := below_chain (below_al (Below.refl w.heap.size w) _) b1))
    go_ret2
    exact ⟨_, rfl, ints_nilK _ _ _, b1w⟩
  · cases br
    · skip
      obtain ⟨rfl, rfl⟩ := NO.out (fun hc => by have := askH_iff.1 hc; rw [HR.out] at this; exact absurd this.2.1 (by simp))
      go_enter Try.func23, Try.ntmps23
      go_wp2_with (first | (go_at_call 18; refine (implAreHo_any _ t _ (H.out.below rHo_stable (below_al (Below.refl _ _) _))).mono ?_; rw [HG.out]; rintro e w1 ⟨rfl, b1⟩; obtain ⟨c0, c1, c2, c3⟩ := HBX.out _ b1; have b1w := below_chain (below_al (Below.refl w.heap.size w) _) b1) | (go_at_call 85; refine (implIsRecord_any _ ⟨y0, y1, y2, y3⟩ _ (HV.out _ b1w)).mono ?_; rw [HR.out]; rintro e w2 ⟨rfl, b2⟩; replace b1 := b1.trans (b2.mono b1.size); obtain ⟨c0, c1, c2, c3⟩ := HBX.out _ b1; replace b1w := b1w.trans (b2.mono b1w.size)))
      go_ret2
      exact ⟨_, rfl, ints_nilK _ _ _, b1w⟩
    · cases bd
      · skip
        obtain ⟨rfl, rfl⟩ := NO.out (fun hc => by have := askH_iff.1 hc; exact of_decide_eq_false HD.out this.2.2)
        go_enter Try.func23, Try.ntmps23
        go_wp2_with (first | (go_at_call 18; refine (implAreHo_any _ t _ (H.out.below rHo_stable (below_al (Below.refl _ _) _))).mono ?_; rw [HG.out]; rintro e w1 ⟨rfl, b1⟩; obtain ⟨c0, c1, c2, c3⟩ := HBX.out _ b1; have b1w := below_chain (below_al (Below.refl w.heap.size w) _) b1) | (go_at_call 85; refine (implIsRecord_any _ ⟨y0, y1, y2, y3⟩ _ (HV.out _ b1w)).mono ?_; rw [HR.out]; rintro e w2 ⟨rfl, b2⟩; replace b1 := b1.trans (b2.mono b1.size); obtain ⟨c0, c1, c2, c3⟩ := HBX.out _ b1; replace b1w := b1w.trans (b2.mono b1w.size)) | (go_at_call 79; refine (isDay_any _ _).mono ?_; rw [HD.out]; rintro e w3 ⟨rfl, h3⟩; subst w3))
        go_ret2
        exact ⟨_, rfl, ints_nilK _ _ _, b1w⟩
      · obtain ⟨rfl, rfl⟩ := YES.out (askH_iff.2 ⟨HG.out, HR.out, of_decide_eq_true HD.out⟩)
        go_enter Try.func23, Try.ntmps23
        go_wp2_with (first | (go_at_call 18; refine (implAreHo_any _ t _ (H.out.below rHo_stable (below_al (Below.refl _ _) _))).mono ?_; rw [HG.out]; rintro e w1 ⟨rfl, b1⟩; obtain ⟨c0, c1, c2, c3⟩ := HBX.out _ b1; have b1w := below_chain (below_al (Below.refl w.heap.size w) _) b1) | (go_at_call 85; refine (implIsRecord_any _ ⟨y0, y1, y2, y3⟩ _ (HV.out _ b1w)).mono ?_; rw [HR.out]; rintro e w2 ⟨rfl, b2⟩; replace b1 := b1.trans (b2.mono b1.size); obtain ⟨c0, c1, c2, c3⟩ := HBX.out _ b1; replace b1w := b1w.trans (b2.mono b1w.size)) | (go_at_call 79; refine (isDay_any _ _).mono ?_; rw [HD.out]; rintro e w3 ⟨rfl, h3⟩; subst w3) | (go_at_call 87; refine (covers_any _ ⟨y0, y1, y2, y3⟩ d _ (HV.out _ b1w)).mono ?_; rintro e w4 ⟨B1, B2, rfl, hcov, b4⟩; replace b1w := b1w.trans (b4.mono b1w.size)) | (go_at_call 86; refine (idsOf_any _ t ⟨y0, y1, y2, y3⟩ d B1 B2 _ (H.out.below rHo_stable b1w) hcov (by have := ho_len HG.out; omega)).mono ?_; rintro e w5 ⟨v', rfl, hi, b5⟩))
        go_ret2
        exact ⟨_, rfl, hi.wide b1w.size (Nat.le_refl _), below_chain b1w b5⟩
end Go.Proofs.Ytkjpehpodlpdhaa
