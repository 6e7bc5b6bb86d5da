/- Holds, the program's: HeldOn, slices.Equal of numbers, NeededHolds. -/
import Derived.Test.YtkjpehpodlpdhaaHo3I
import Derived.Test.YtkjpehpodlpdhaaAreRec
import Derived.Test.YtkjpehpodlpdhaaRecs
import Derived.Test.YtkjpehpodlpdhaaBox4
import Derived.Lib.QuietBelow
import Derived.BigQuiet
import Derived.WalkSmall
namespace Go.Proofs.Ytkjpehpodlpdhaa
set_option linter.unusedVariables false
open Go.RowKit Go.Sort

set_option maxRecDepth 20000 in
set_option maxHeartbeats 8000000 in
theorem implHeldOn_any (v v1 : Value) (t : List Ho) (rs : List Rec) (d : Int) (w : World) (h : RowR 6 rHo w v t) (h1 : RowR 4 rRec w v1 rs) (xs : List Int) (b : Bool) (hres : heRes t rs d = (xs, b)) :
    Calls Try.prog 38 #[v, v1, .int .i64 d] w fun e w' => ∃ v', e = .returned (.tuple #[v', .bool b]) ∧ IntsO w.heap.size w'.heap.size w' v' xs ∧ Below w.heap.size w w' := by
  obtain ⟨i0, hi, hz0, hz1, hz2⟩ := info_parts Try.info_intI
  have H := Lib.hid h
  have H1 := Lib.hid h1
  obtain ⟨a1, c1, rfl, hl1, hm1, r1⟩ := h1.recs
  have R1 := Lib.hid r1
  unfold maxLen at hm1
  obtain ⟨bg, hg⟩ : ∃ b, areHo t = b := ⟨_, rfl⟩
  obtain ⟨br, hrr⟩ : ∃ b, areRecs rs = b := ⟨_, rfl⟩
  obtain ⟨bd, hd⟩ : ∃ b, decide (0 ≤ d ∧ d ≤ 20000) = b := ⟨_, rfl⟩
  have HG := Lib.hid hg
  have HR := Lib.hid hrr
  have HD := Lib.hid hd
  have NO := Lib.hid (fun hn => heRes_no hres hn)
  have YES := Lib.hid (fun hn => heRes_yes hres hn)
  clear h h1 r1 hg hrr hd hres
  cases bg
  · skip
    obtain ⟨rfl, rfl⟩ := NO.out (fun hc => by have := askS_iff.1 hc; rw [HG.out] at this; exact absurd this.1 (by simp))
    go_enter Try.func38, Try.ntmps38
    go_wp2_with (first | (go_at_call 18; refine (implAreHo_any _ t _ H.out).mono ?_; rw [HG.out]; rintro e w1 ⟨rfl, b1⟩))
    go_ret2
    exact ⟨_, rfl, ints_nilK _ _ _, b1⟩
  · cases br
    · skip
      obtain ⟨rfl, rfl⟩ := NO.out (fun hc => by have := askS_iff.1 hc; rw [HR.out] at this; exact absurd this.2.1 (by simp))
      go_enter Try.func38, Try.ntmps38
      go_wp2_with (first | (go_at_call 18; refine (implAreHo_any _ t _ H.out).mono ?_; rw [HG.out]; rintro e w1 ⟨rfl, b1⟩) | (go_at_call 100; refine (implAreRecords_any _ rs _ (H1.out.below rRec_stable b1)).mono ?_; rw [HR.out]; rintro e w2 ⟨rfl, b2⟩; replace b2 := b1.trans (b2.mono b1.size)))
      go_ret2
      exact ⟨_, rfl, ints_nilK _ _ _, b2⟩
    · cases bd
      · skip
        obtain ⟨rfl, rfl⟩ := NO.out (fun hc => by have := askS_iff.1 hc; exact of_decide_eq_false HD.out this.2.2)
        go_enter Try.func38, Try.ntmps38
        go_wp2_with (first | (go_at_call 18; refine (implAreHo_any _ t _ H.out).mono ?_; rw [HG.out]; rintro e w1 ⟨rfl, b1⟩) | (go_at_call 100; refine (implAreRecords_any _ rs _ (H1.out.below rRec_stable b1)).mono ?_; rw [HR.out]; rintro e w2 ⟨rfl, b2⟩; replace b2 := b1.trans (b2.mono b1.size)) | (go_at_call 79; refine (isDay_any _ _).mono ?_; rw [HD.out]; rintro e w3 ⟨rfl, h3⟩; subst w3))
        go_ret2
        exact ⟨_, rfl, ints_nilK _ _ _, b2⟩
      · obtain ⟨rfl, rfl⟩ := YES.out (askS_iff.2 ⟨HG.out, HR.out, of_decide_eq_true HD.out⟩)
        have hten := recs_ten HR.out
        have hn8 := ho_len HG.out
        clear NO YES
        go_enter Try.func38, Try.ntmps38
        go_wp2_with (first | (go_at_call 18; refine (implAreHo_any _ t _ H.out).mono ?_; rw [HG.out]; rintro e w1 ⟨rfl, b1⟩) | (go_at_call 100; refine (implAreRecords_any _ rs _ (H1.out.below rRec_stable b1)).mono ?_; rw [HR.out]; rintro e w2 ⟨rfl, b2⟩; replace b2 := b1.trans (b2.mono b1.size)) | (go_at_call 79; refine (isDay_any _ _).mono ?_; rw [HD.out]; rintro e w3 ⟨rfl, h3⟩; subst w3))
        have s2 := b2.size
        obtain ⟨ws, hws⟩ : ∃ ws, ws = w2 := ⟨_, rfl⟩
        subst hws
        go_loopw [8, 26] (fun o i wr => ∃ k : Nat, k ≤ rs.length ∧ i = .int .i64 k ∧ wr.ownsRow ws.heap.size 3 1 o (heF t d (rs.take k)).length ((heF t d (rs.take k)).map vI) ∧ Below ws.heap.size ws wr) (fun _ i _ => rs.length - (intOf i).toNat)
        case atStart => exact ⟨0, Nat.zero_le _, rfl, by simpa [heF] using World.ownsRow_nil _ _ _ _, Below.refl _ _⟩
        case round =>
          obtain ⟨k, hk, rfl, hO, hb⟩ := hrel
          have hbw := b2.trans (hb.mono s2)
          have hsz := hb.size
          by_cases hlt : k < rs.length
          · skip
            obtain ⟨bR, oR, hbR, rfl, e1⟩ := R1.out.resolve_left (fun e => by rw [e] at hlt; simp at hlt)
            obtain ⟨sv, q0, q1, q2, q3, hrow, hok⟩ := e1 k hlt
            obtain ⟨r, hx⟩ : ∃ s, rs.getD k recD = s := ⟨_, rfl⟩
            rw [hx] at q0 q1 q2 hrow hok
            have f0 := cell_kept q0 hbw
            have f1 := cell_kept q1 hbw
            have f2 := cell_kept q2 hbw
            have f3 := cell_kept q3 hbw
            have HV := Lib.hid (show ∀ W, Below w.heap.size w W → RecV W (.agg #[.int .i64 r.id, .int .i64 r.series, .int .i64 r.made, sv]) r from fun W hb => ⟨_, rfl, hrow.below rEv_stable hb, hok⟩)
            have hr0 := hrow
            obtain ⟨sa, sc, rfl, _⟩ := hr0
            have g0 : (0 : Int) ≤ (k : Int) := by omega
            have g1 : (k : Int) < (rs.length : Int) := by omega
            have hsucc := heF_succ (t := t) (d := d) hlt
            have hlen := heF_len t d (rs.take k)
            rw [List.length_take] at hlen
            obtain ⟨bh, hbh⟩ : ∃ b, heldB t r d = b := ⟨_, rfl⟩
            rw [hx, hbh] at hsucc
            obtain ⟨Pp, hP⟩ : ∃ P, heF t d (rs.take k) = P := ⟨_, rfl⟩
            rw [hP] at hO hlen hsucc
            have HSU := Lib.hid hsucc
            have HHD := Lib.hid hbh
            have HO := Lib.hid (hO.alloc (.cells #[.int .i64 r.id, .int .i64 r.series, .int .i64 r.made, .slice sa r.evs.length sc] 38 (0, 0)))
            have bx := below_al hb (.cells #[.int .i64 r.id, .int .i64 r.series, .int .i64 r.made, .slice sa r.evs.length sc] 38 (0, 0))
            have bxw := below_al hbw (.cells #[.int .i64 r.id, .int .i64 r.series, .int .i64 r.made, .slice sa r.evs.length sc] 38 (0, 0))
            have HC := Lib.hid (Box4.new wr r (.slice sa r.evs.length sc) 38)
            clear q0 q1 q2 q3 hrow hx e1 hsucc hP hok hbh hO
            cases bh
            · have HSU2 := Lib.hid (HSU.out.trans (if_neg (by simp)))
              go_wp2_with (first | (go_at_call 87; refine (covers_any _ r d _ (HV.out _ bxw)).mono ?_; rintro e w4 ⟨B1, B2, rfl, hcov, b4⟩; have b4w := bxw.trans (b4.mono bxw.size)) | (go_at_call 101; refine (covHas_any _ t r d B1 B2 _ (H.out.below rHo_stable b4w) hcov).mono ?_; rw [HHD.out]; rintro e w6 ⟨rfl, b6⟩; replace b6 := b4.trans (b6.mono b4.size); have HO6 := Lib.hid (ownsRow_below HO.out b6); obtain ⟨c0, c1, c2, c3⟩ := HC.out.kept b6; have c0' : ∀ o, (w6.alloc o).cell? ⟨wr.heap.size, 0, none⟩ = some (.int .i64 r.id) := (fun o => below_al_cell c0 o); replace b6 := below_chain bx b6; have hs6 := b6.size; clear HO HC))
              go_roundw
              case rel => exact ⟨k + 1, by omega, by go_num, (by rw [HSU2.out]; exact HO6.out), b6⟩
              case measure => simp [intOf]; omega
            · have HSU2 := Lib.hid (HSU.out.trans (if_pos rfl))
              go_wp2_with (first | (go_at_call 87; refine (covers_any _ r d _ (HV.out _ bxw)).mono ?_; rintro e w4 ⟨B1, B2, rfl, hcov, b4⟩; have b4w := bxw.trans (b4.mono bxw.size)) | (go_at_call 101; refine (covHas_any _ t r d B1 B2 _ (H.out.below rHo_stable b4w) hcov).mono ?_; rw [HHD.out]; rintro e w6 ⟨rfl, b6⟩; replace b6 := b4.trans (b6.mono b4.size); have HO6 := Lib.hid (ownsRow_below HO.out b6); obtain ⟨c0, c1, c2, c3⟩ := HC.out.kept b6; have c0' : ∀ o, (w6.alloc o).cell? ⟨wr.heap.size, 0, none⟩ = some (.int .i64 r.id) := (fun o => below_al_cell c0 o); replace b6 := below_chain bx b6; have hs6 := b6.size; clear HO HC) | (at_builtin; refine wpList_append_own _ rfl _ _ 33 rfl ws.heap.size 3 i0 (.int .i64 0) 1 8 Try.underlying33 hi hz0 hz1 hz2 rfl (by decide) _ _ _ rfl (HO6.out.alloc _) ⟨w6.heap.size, 0, none⟩ 1 1 [.int .i64 r.id] rfl rfl (cell_oneI _ _ _ (by simp)) (by simp [Value.oneCell']) (by unfold maxLen; omega) (by omega) (by simp; omega) ?_; intro v' w7 hown' hgrow _))
              have HOWN := Lib.hid hown'
              have HB7 := Lib.hid (below_app b6 (Nat.le_refl _) HO6.out hgrow)
              clear hown' hgrow
              go_wp2_with fail
              go_roundw
              case rel => exact ⟨k + 1, by omega, by go_num, (by rw [HSU2.out]; simpa [vI] using HOWN.out), HB7.out⟩
              case measure => simp [intOf]; omega
          · obtain rfl : k = rs.length := by omega
            rw [List.take_length] at hO
            have HO := Lib.hid hO
            clear hO
            go_wp2_with fail
            go_ret2
            exact ⟨_, rfl, (ints_rowK HO.out rfl).wide s2 (Nat.le_refl _), b2.trans (hb.mono s2)⟩

set_option maxRecDepth 20000 in
set_option maxHeartbeats 4000000 in
theorem equalI_any (v1 v2 : Value) (xs ys : List Int) (w : World) (h1 : RowOf vI w v1 xs) (h2 : RowOf vI w v2 ys) :
    Calls Try.prog 111 #[v1, v2] w fun e w' => e = .returned (.bool (decide (xs = ys))) ∧ Below w.heap.size w w' := by
  have hx := h1.cap
  have hy := h2.cap
  obtain ⟨a1, c1, rfl, hl1, hm1, r1⟩ := h1
  obtain ⟨a2, c2, rfl, hl2, hm2, r2⟩ := h2
  unfold maxLen at hm1 hm2
  by_cases hlen : xs.length = ys.length
  · have hLen := Lib.hid hlen
    have hne : (((xs.length : Nat) : Int) != (xs.length : Int)) = false := by simp
    rw [← hlen]
    clear hlen
    have R1 := Lib.hid r1
    have R2 := Lib.hid r2
    clear r1 r2
    go_enter Try.func111, Try.ntmps111
    go_wp2
    go_loopw [13] (fun i wr => ∃ k : Nat, k ≤ xs.length ∧ i = .int .i64 k ∧ Hid (∀ j, j < k → xs.getD j 0 = ys.getD j 0) ∧ Below w.heap.size w wr) (fun i _ => xs.length - (intOf i).toNat)
    case atStart => exact ⟨0, Nat.zero_le _, rfl, Lib.hid (fun j h => by omega), Below.refl _ _⟩
    case round =>
      obtain ⟨k, hk, rfl, HJ, hb⟩ := hrel
      by_cases hlt : k < xs.length
      · obtain ⟨b1, o1, hb1, rfl, e1⟩ := R1.out.resolve_left (fun e => by rw [e] at hlt; simp at hlt)
        obtain ⟨b2, o2, hb2, rfl, e2⟩ := R2.out.resolve_left (fun e => by have := hLen.out; rw [e] at this; simp at this; rw [this] at hlt; simp at hlt)
        have hlt2 : k < ys.length := by have := hLen.out; omega
        obtain ⟨x, hxx⟩ : ∃ s, xs.getD k 0 = s := ⟨_, rfl⟩
        obtain ⟨y, hyy⟩ : ∃ s, ys.getD k 0 = s := ⟨_, rfl⟩
        have f1 := e1 k hlt
        have f2 := e2 k hlt2
        rw [← getI_lt hlt, hxx] at f1
        rw [← getI_lt hlt2, hyy] at f2
        simp only [vI] at f1 f2
        have m1 := cell_regrown (cell_kept f1 hb)
        have m2 := cell_regrown (cell_kept f2 hb)
        have HX := Lib.hid hxx
        have HY := Lib.hid hyy
        have hsz := hb.size
        have g0 : (0 : Int) ≤ (k : Int) := by omega
        have g1 : (k : Int) < (xs.length : Int) := by omega
        clear e1 e2 hxx hyy hlt2
        by_cases he : x = y
        · have hq : (x != y) = false := by simp [he]
          have HE := Lib.hid he
          clear he
          go_wp2_with fail
          refine wp_region_quiet_below (by kernel_rfl) (by kernel_rfl) ?_
          repeat (go_big_quiet_step (fail))
          refine wpQuiet_nil ?_
          intro _ hw'
          obtain ⟨⟨dq, osq⟩, hw''⟩ := hw'
          subst hw''
          have bq := below_regrown wr dq osq
          generalize grow (redrawn wr dq) osq = w2 at *
          go_wp2
          go_roundw
          case rel =>
            refine ⟨k + 1, by omega, by go_num, Lib.hid (fun j h => ?_), hb.trans (bq.mono hsz)⟩
            rcases Nat.lt_or_ge j k with h' | h'
            · exact HJ.out j h'
            · obtain rfl : j = k := by omega
              rw [HX.out, HY.out]
              exact HE.out
          case measure => simp [intOf]; omega
        · have hq : (x != y) = true := by simp [he]
          have HE := Lib.hid he
          clear he
          go_wp2_with fail
          refine wp_region_quiet_below (by kernel_rfl) (by kernel_rfl) ?_
          repeat (go_big_quiet_step (fail))
          refine wpQuiet_nil ?_
          intro _ hw'
          obtain ⟨⟨dq, osq⟩, hw''⟩ := hw'
          subst hw''
          have bq := below_regrown wr dq osq
          generalize grow (redrawn wr dq) osq = w2 at *
          go_wp2
          go_ret
          refine ⟨ret_bool (Eq.symm (decide_eq_false fun e => ?_)), hb.trans (bq.mono hsz)⟩
          subst e
          exact HE.out (HX.out.symm.trans HY.out)
      · go_wp2_with fail
        go_ret
        refine ⟨ret_bool (Eq.symm (decide_eq_true ?_)), hb⟩
        refine List.ext_getElem hLen.out fun i a b => ?_
        have := HJ.out i (by omega)
        rwa [getI_lt a, getI_lt b] at this
  · have hne : (((xs.length : Nat) : Int) != (ys.length : Int)) = true := by simp; omega
    rw [decide_eq_false (fun e => hlen (by rw [e]))]
    go_enter Try.func111, Try.ntmps111
    go_wp2
    go_ret
    exact ⟨rfl, Below.refl _ _⟩
theorem lit_row (W : World) (x : Int) : RowOf vI (W.alloc (.cells #[.int .i64 x] 3 (0, 0))) (.slice (some ⟨W.heap.size, 0, none⟩) 1 1) [x] :=
  ⟨some ⟨W.heap.size, 0, none⟩, 1, rfl, Nat.le_refl _, by unfold maxLen; omega, .inr ⟨W.heap.size, 0, by simp, rfl, fun i hi => by
    obtain rfl : i = 0 := by simpa using hi
    exact cell_new W _ _ 0 rfl⟩⟩

set_option maxRecDepth 20000 in
set_option maxHeartbeats 8000000 in
theorem implNeededHolds_any (v v1 : Value) (t : List Ho) (rs : List Rec) (d : Int) (w : World) (h : RowR 6 rHo w v t) (h1 : RowR 4 rRec w v1 rs) (xs : List Int) (b : Bool) (hres : neRes t rs d = (xs, b)) :
    Calls Try.prog 51 #[v, v1, .int .i64 d] w fun e w' => ∃ v', e = .returned (.tuple #[v', .bool b]) ∧ IntsO w.heap.size w'.heap.size w' v' xs ∧ Below w.heap.size w w' := by
  obtain ⟨i0, hi, hz0, hz1, hz2⟩ := info_parts Try.info_intI
  have H := Lib.hid h
  have H1 := Lib.hid h1
  obtain ⟨a1, c1, rfl, hl1, hm1, r1⟩ := h1.recs
  have R1 := Lib.hid r1
  unfold maxLen at hm1
  obtain ⟨bg, hg⟩ : ∃ b, areHo t = b := ⟨_, rfl⟩
  obtain ⟨br, hrr⟩ : ∃ b, areRecs rs = b := ⟨_, rfl⟩
  obtain ⟨bd, hd⟩ : ∃ b, decide (0 ≤ d ∧ d ≤ 20000) = b := ⟨_, rfl⟩
  have HG := Lib.hid hg
  have HR := Lib.hid hrr
  have HD := Lib.hid hd
  have NO := Lib.hid (fun hn => neRes_no hres hn)
  have YES := Lib.hid (fun hn => neRes_yes hres hn)
  obtain ⟨aH, cH, rfl, hlH, hmH, rH⟩ := h.hos
  have RH := Lib.hid rH
  unfold maxLen at hmH
  clear rH
  clear h h1 r1 hg hrr hd hres
  cases bg
  · skip
    obtain ⟨rfl, rfl⟩ := NO.out (fun hc => by have := askS_iff.1 hc; rw [HG.out] at this; exact absurd this.1 (by simp))
    go_enter Try.func51, Try.ntmps51
    go_wp2_with fail
    go_step3
    go_wp2_with (first | (go_at_call 18; refine (implAreHo_any _ t _ H.out).mono ?_; rw [HG.out]; rintro e w1 ⟨rfl, b1⟩))
    rw [Exit.noGoto_ret]
    go_ret2
    exact ⟨_, rfl, ints_nilK _ _ _, b1⟩
  · cases br
    · skip
      obtain ⟨rfl, rfl⟩ := NO.out (fun hc => by have := askS_iff.1 hc; rw [HR.out] at this; exact absurd this.2.1 (by simp))
      go_enter Try.func51, Try.ntmps51
      go_wp2_with fail
      go_step3
      go_wp2_with (first | (go_at_call 18; refine (implAreHo_any _ t _ H.out).mono ?_; rw [HG.out]; rintro e w1 ⟨rfl, b1⟩) | (go_at_call 100; refine (implAreRecords_any _ rs _ (H1.out.below rRec_stable b1)).mono ?_; rw [HR.out]; rintro e w2 ⟨rfl, b2⟩; replace b2 := b1.trans (b2.mono b1.size)))
      rw [Exit.noGoto_ret]
      go_ret2
      exact ⟨_, rfl, ints_nilK _ _ _, b2⟩
    · cases bd
      · skip
        obtain ⟨rfl, rfl⟩ := NO.out (fun hc => by have := askS_iff.1 hc; exact of_decide_eq_false HD.out this.2.2)
        go_enter Try.func51, Try.ntmps51
        go_wp2_with fail
        go_step3
        go_wp2_with (first | (go_at_call 18; refine (implAreHo_any _ t _ H.out).mono ?_; rw [HG.out]; rintro e w1 ⟨rfl, b1⟩) | (go_at_call 100; refine (implAreRecords_any _ rs _ (H1.out.below rRec_stable b1)).mono ?_; rw [HR.out]; rintro e w2 ⟨rfl, b2⟩; replace b2 := b1.trans (b2.mono b1.size)) | (go_at_call 79; refine (isDay_any _ _).mono ?_; rw [HD.out]; rintro e w3 ⟨rfl, h3⟩; subst w3))
        rw [Exit.noGoto_ret]
        go_ret2
        exact ⟨_, rfl, ints_nilK _ _ _, b2⟩
      · obtain ⟨rfl, rfl⟩ := YES.out (askS_iff.2 ⟨HG.out, HR.out, of_decide_eq_true HD.out⟩)
        have hten := recs_ten HR.out
        have hn8 := ho_len HG.out
        clear NO YES
        go_enter Try.func51, Try.ntmps51
        go_wp2_with fail
        go_step3
        go_wp2_with (first | (go_at_call 18; refine (implAreHo_any _ t _ H.out).mono ?_; rw [HG.out]; rintro e w1 ⟨rfl, b1⟩) | (go_at_call 100; refine (implAreRecords_any _ rs _ (H1.out.below rRec_stable b1)).mono ?_; rw [HR.out]; rintro e w2 ⟨rfl, b2⟩; replace b2 := b1.trans (b2.mono b1.size)) | (go_at_call 79; refine (isDay_any _ _).mono ?_; rw [HD.out]; rintro e w3 ⟨rfl, h3⟩; subst w3))
        have s2 := b2.size
        obtain ⟨ws, hws⟩ : ∃ ws, ws = w2 := ⟨_, rfl⟩
        subst hws
        go_step3
        go_wp2_with fail
        go_loopw [8, 28] (fun o i wr => ∃ (k : Nat) (oV : Value), k ≤ t.length ∧ i = .int .i64 k ∧ oV = o ∧ wr.ownsRow ws.heap.size 3 1 o (needN t rs d k).length ((needN t rs d k).map vI) ∧ Below ws.heap.size ws wr) (fun _ i _ => t.length - (intOf i).toNat)
        case atStart => exact ⟨0, _, Nat.zero_le _, rfl, rfl, by simpa [needN] using World.ownsRow_nil _ _ _ _, Below.refl _ _⟩
        case round =>
          obtain ⟨k, oV, hk, rfl, rfl, hO, hb⟩ := hrel
          obtain ⟨wo, hwo⟩ : ∃ x, x = wr := ⟨_, rfl⟩
          subst hwo
          have hbw := b2.trans (hb.mono s2)
          have hsz := hb.size
          by_cases hlt : k < t.length
          · obtain ⟨bH, oH, hbH, rfl, e1⟩ := RH.out.resolve_left (fun e => by rw [e] at hlt; simp at hlt)
            obtain ⟨⟨x0, x1, x2, x3, x4, x5⟩, hx⟩ : ∃ s, t.getD k hoD = s := ⟨_, rfl⟩
            obtain ⟨s, q0, q1, q2, q3, q4, q5, hr, hok⟩ := e1 k hlt
            rw [hx] at q0 q1 q2 q4 q5 hr hok
            simp only at q0 q1 q2 q4 q5 hr
            have f0 := cell_kept q0 hbw
            have f1 := cell_kept q1 hbw
            have f2 := cell_kept q2 hbw
            have f3 := cell_kept q3 hbw
            have f4 := cell_kept q4 hbw
            have f5 := cell_kept q5 hbw
            obtain ⟨sH, scH, rfl, _⟩ := hr
            have hsucc := needN_succ (rs := rs) (d := d) hlt
            have hlen := needN_len t rs d k
            rw [hx] at hsucc
            obtain ⟨Pp, hP⟩ : ∃ P, needN t rs d k = P := ⟨_, rfl⟩
            rw [hP] at hO hlen hsucc
            have HSU := Lib.hid hsucc
            have g0 : (0 : Int) ≤ (k : Int) := by omega
            have g1 : (k : Int) < (t.length : Int) := by omega
            have HO := Lib.hid hO
            clear q0 q1 q2 q3 q4 q5 hok hx e1 hsucc hP hO
            go_wp2_with fail
            generalize hWB : wo.alloc (.cells #[.int .i64 x0, .int .i64 x1, .int .i64 x2, .slice sH x3.length scH, .int .i64 x4, .int .i64 x5] 100 (0, 0)) = wB
            have bB : Below wo.heap.size wo wB := by rw [← hWB]; exact below_al (Below.refl _ _) _
            have uB : wB.cell? ⟨wo.heap.size, 0, none⟩ = some (.int .i64 x0) := by rw [← hWB]; exact cell_new wo _ _ 0 rfl
            have HOB : Hid (wB.ownsRow ws.heap.size 3 1 oV Pp.length (Pp.map vI)) := Lib.hid (ownsRow_below HO.out bB)
            have sB := bB.size
            clear hWB
            have bBs := hb.trans (bB.mono hsz)
            have bBw := hbw.trans (bB.mono hbw.size)
            go_loopw [8, 34] (fun o i wr => ∃ j : Nat, j ≤ rs.length ∧ i = .int .i64 j ∧ oV = o ∧ Hid (∀ q, q < j → ¬ onHo t (rs.getD q recD) d = [x0]) ∧ Below wB.heap.size wB wr) (fun _ i _ => rs.length - (intOf i).toNat)
            case atStart => exact ⟨0, Nat.zero_le _, rfl, rfl, Lib.hid (fun q hq => absurd hq (Nat.not_lt_zero _)), Below.refl _ _⟩
            case round =>
              obtain ⟨j, hj, rfl, rfl, HNQ, hb3⟩ := hrel
              have hb3w := bBw.trans (hb3.mono bBw.size)
              have s3 := hb3.size
              by_cases hjt : j < rs.length
              · obtain ⟨bR, oR, hbR, rfl, e1⟩ := R1.out.resolve_left (fun e => by rw [e] at hjt; simp at hjt)
                obtain ⟨sv, p0, p1, p2, p3, hrow, hok⟩ := e1 j hjt
                obtain ⟨r, hx⟩ : ∃ s, rs.getD j recD = s := ⟨_, rfl⟩
                rw [hx] at p0 p1 p2 hrow hok
                have r0 := cell_kept p0 hb3w
                have r1 := cell_kept p1 hb3w
                have r2 := cell_kept p2 hb3w
                have r3 := cell_kept p3 hb3w
                have HV := Lib.hid (show ∀ W, Below w.heap.size w W → RecV W (.agg #[.int .i64 r.id, .int .i64 r.series, .int .i64 r.made, sv]) r from fun W hb => ⟨_, rfl, hrow.below rEv_stable hb, hok⟩)
                have hr0 := hrow
                obtain ⟨sa, sc, rfl, _⟩ := hr0
                have g2 : (0 : Int) ≤ (j : Int) := by omega
                have g3 : (j : Int) < (rs.length : Int) := by omega
                obtain ⟨bE, hbE⟩ : ∃ b, decide (onHo t r d = [x0]) = b := ⟨_, rfl⟩
                have HEQQ := Lib.hid hbE
                have HX := Lib.hid hx
                have uR := cell_kept uB hb3
                clear p0 p1 p2 p3 hrow hok hx e1 hbE
                cases bE
                · go_wp2_with fail
                  generalize hWY : wr.alloc (.cells #[.int .i64 r.id, .int .i64 r.series, .int .i64 r.made, .slice sa r.evs.length sc] 38 (0, 0)) = wy
                  have bY : Below wr.heap.size wr wy := by rw [← hWY]; exact below_al (Below.refl _ _) _
                  have u0 := cell_kept uR bY
                  have z0 : wy.cell? ⟨wr.heap.size, 0, none⟩ = some (.int .i64 r.id) := by rw [← hWY]; exact cell_new wr _ _ 0 rfl
                  have z1 : wy.cell? ⟨wr.heap.size, 1, none⟩ = some (.int .i64 r.series) := by rw [← hWY]; exact cell_new wr _ _ 1 rfl
                  have z2 : wy.cell? ⟨wr.heap.size, 2, none⟩ = some (.int .i64 r.made) := by rw [← hWY]; exact cell_new wr _ _ 2 rfl
                  have z3 : wy.cell? ⟨wr.heap.size, 3, none⟩ = some (.slice sa r.evs.length sc) := by rw [← hWY]; exact cell_new wr _ _ 3 rfl
                  have BY := Lib.hid (hb3w.trans (bY.mono hb3w.size))
                  have HZ := Lib.hid (show ∀ W, Below wy.heap.size wy W → W.cell? ⟨wo.heap.size, 0, none⟩ = some (.int .i64 x0) ∧ W.cell? ⟨wr.heap.size, 0, none⟩ = some (.int .i64 r.id) ∧ W.cell? ⟨wr.heap.size, 1, none⟩ = some (.int .i64 r.series) ∧ W.cell? ⟨wr.heap.size, 2, none⟩ = some (.int .i64 r.made) ∧ W.cell? ⟨wr.heap.size, 3, none⟩ = some (.slice sa r.evs.length sc) from fun W hW => ⟨cell_kept u0 hW, cell_kept z0 hW, cell_kept z1 hW, cell_kept z2 hW, cell_kept z3 hW⟩)
                  clear hWY
                  go_region_held3 (fun w' => w'.cell? ⟨wo.heap.size, 0, none⟩ = some (.int .i64 x0) ∧ w'.cell? ⟨wr.heap.size, 0, none⟩ = some (.int .i64 r.id) ∧ w'.cell? ⟨wr.heap.size, 1, none⟩ = some (.int .i64 r.series) ∧ w'.cell? ⟨wr.heap.size, 2, none⟩ = some (.int .i64 r.made) ∧ w'.cell? ⟨wr.heap.size, 3, none⟩ = some (.slice sa r.evs.length sc)) (first | exact ⟨u0, z0, z1, z2, z3⟩ | go_keep) (first | (go_at_call 87; refine (covers_any _ r d _ (HV.out _ (by first | exact BY.out.drew | exact below_al BY.out.drew _))).mono ?_; rintro e w4 ⟨B1, B2, rfl, hcov, b4⟩; (first | have HLIT := Lib.hid ((lit_row wy.drew x0).below b4) | skip); have BY4 := Lib.hid (show Below w.heap.size w w4 from (by first | exact below_chain BY.out.drew b4 | exact below_chain (below_al BY.out.drew _) b4)); have BO4 := Lib.hid (show Below wy.heap.size wy w4 from (by first | exact below_chain (Below.refl _ _).drew b4 | exact below_chain (below_al (Below.refl _ _).drew _) b4)); obtain ⟨u0, z0, z1, z2, z3⟩ := HZ.out _ BO4.out; clear b4) | (go_at_call 86; refine (idsOf_any _ t r d B1 B2 _ (H.out.below rHo_stable (by first | exact BY4.out | exact below_al BY4.out _)) (by first | exact hcov | exact hcov.below (below_al (Below.refl _ _) _)) (by omega)).mono ?_; rintro e w5 ⟨v5, rfl, hi5, b5⟩; (first | have HLIT5 := Lib.hid (HLIT.out.below b5) | have HLIT5 := Lib.hid ((lit_row w4 x0).below b5) | skip); have BO5 := Lib.hid (show Below wy.heap.size wy w5 from (by first | exact below_chain BO4.out b5 | exact below_chain (below_al BO4.out _) b5)); obtain ⟨u0, z0, z1, z2, z3⟩ := HZ.out _ BO5.out; have HROW := Lib.hid hi5.row; clear b5 hi5) | (go_at_call 111; refine (equalI_any _ _ (onHo t r d) [x0] _ (by first | exact HROW.out | exact HROW.out.below (below_al (Below.refl _ _) _)) (by first | exact HLIT5.out | exact lit_row w5 x0)).mono ?_; rw [HEQQ.out]; rintro e w6 ⟨rfl, b6⟩; have BO6 := Lib.hid (show Below wy.heap.size wy w6 from (by first | exact below_chain BO5.out b6 | exact below_chain (below_al BO5.out _) b6)); obtain ⟨u0, z0, z1, z2, z3⟩ := HZ.out _ BO6.out; clear b6))
                  all_goals
                    go_wp2_with fail
                    go_roundw
                    case rel =>
                      refine ⟨j + 1, by omega, by go_num, rfl, Lib.hid (fun q hq => ?_), hb3.trans ((below_chain bY BO6.out).mono s3)⟩
                      rcases Nat.lt_or_ge q j with h' | h'
                      · exact HNQ.out q h'
                      · obtain rfl : q = j := by omega
                        rw [HX.out]; exact of_decide_eq_false HEQQ.out
                    case measure => simp [intOf]; omega
                · have HSU2 := Lib.hid (HSU.out.trans (if_pos (nd_yes hjt (by rw [HX.out]; exact of_decide_eq_true HEQQ.out))))
                  go_wp2_with fail
                  generalize hWY : wr.alloc (.cells #[.int .i64 r.id, .int .i64 r.series, .int .i64 r.made, .slice sa r.evs.length sc] 38 (0, 0)) = wy
                  have bY : Below wr.heap.size wr wy := by rw [← hWY]; exact below_al (Below.refl _ _) _
                  have u0 := cell_kept uR bY
                  have z0 : wy.cell? ⟨wr.heap.size, 0, none⟩ = some (.int .i64 r.id) := by rw [← hWY]; exact cell_new wr _ _ 0 rfl
                  have z1 : wy.cell? ⟨wr.heap.size, 1, none⟩ = some (.int .i64 r.series) := by rw [← hWY]; exact cell_new wr _ _ 1 rfl
                  have z2 : wy.cell? ⟨wr.heap.size, 2, none⟩ = some (.int .i64 r.made) := by rw [← hWY]; exact cell_new wr _ _ 2 rfl
                  have z3 : wy.cell? ⟨wr.heap.size, 3, none⟩ = some (.slice sa r.evs.length sc) := by rw [← hWY]; exact cell_new wr _ _ 3 rfl
                  have BY := Lib.hid (hb3w.trans (bY.mono hb3w.size))
                  have HZ := Lib.hid (show ∀ W, Below wy.heap.size wy W → W.cell? ⟨wo.heap.size, 0, none⟩ = some (.int .i64 x0) ∧ W.cell? ⟨wr.heap.size, 0, none⟩ = some (.int .i64 r.id) ∧ W.cell? ⟨wr.heap.size, 1, none⟩ = some (.int .i64 r.series) ∧ W.cell? ⟨wr.heap.size, 2, none⟩ = some (.int .i64 r.made) ∧ W.cell? ⟨wr.heap.size, 3, none⟩ = some (.slice sa r.evs.length sc) from fun W hW => ⟨cell_kept u0 hW, cell_kept z0 hW, cell_kept z1 hW, cell_kept z2 hW, cell_kept z3 hW⟩)
                  clear hWY
                  go_region_held3 (fun w' => w'.cell? ⟨wo.heap.size, 0, none⟩ = some (.int .i64 x0) ∧ w'.cell? ⟨wr.heap.size, 0, none⟩ = some (.int .i64 r.id) ∧ w'.cell? ⟨wr.heap.size, 1, none⟩ = some (.int .i64 r.series) ∧ w'.cell? ⟨wr.heap.size, 2, none⟩ = some (.int .i64 r.made) ∧ w'.cell? ⟨wr.heap.size, 3, none⟩ = some (.slice sa r.evs.length sc)) (first | exact ⟨u0, z0, z1, z2, z3⟩ | go_keep) (first | (go_at_call 87; refine (covers_any _ r d _ (HV.out _ (by first | exact BY.out.drew | exact below_al BY.out.drew _))).mono ?_; rintro e w4 ⟨B1, B2, rfl, hcov, b4⟩; (first | have HLIT := Lib.hid ((lit_row wy.drew x0).below b4) | skip); have BY4 := Lib.hid (show Below w.heap.size w w4 from (by first | exact below_chain BY.out.drew b4 | exact below_chain (below_al BY.out.drew _) b4)); have BO4 := Lib.hid (show Below wy.heap.size wy w4 from (by first | exact below_chain (Below.refl _ _).drew b4 | exact below_chain (below_al (Below.refl _ _).drew _) b4)); obtain ⟨u0, z0, z1, z2, z3⟩ := HZ.out _ BO4.out; clear b4) | (go_at_call 86; refine (idsOf_any _ t r d B1 B2 _ (H.out.below rHo_stable (by first | exact BY4.out | exact below_al BY4.out _)) (by first | exact hcov | exact hcov.below (below_al (Below.refl _ _) _)) (by omega)).mono ?_; rintro e w5 ⟨v5, rfl, hi5, b5⟩; (first | have HLIT5 := Lib.hid (HLIT.out.below b5) | have HLIT5 := Lib.hid ((lit_row w4 x0).below b5) | skip); have BO5 := Lib.hid (show Below wy.heap.size wy w5 from (by first | exact below_chain BO4.out b5 | exact below_chain (below_al BO4.out _) b5)); obtain ⟨u0, z0, z1, z2, z3⟩ := HZ.out _ BO5.out; have HROW := Lib.hid hi5.row; clear b5 hi5) | (go_at_call 111; refine (equalI_any _ _ (onHo t r d) [x0] _ (by first | exact HROW.out | exact HROW.out.below (below_al (Below.refl _ _) _)) (by first | exact HLIT5.out | exact lit_row w5 x0)).mono ?_; rw [HEQQ.out]; rintro e w6 ⟨rfl, b6⟩; have BO6 := Lib.hid (show Below wy.heap.size wy w6 from (by first | exact below_chain BO5.out b6 | exact below_chain (below_al BO5.out _) b6)); obtain ⟨u0, z0, z1, z2, z3⟩ := HZ.out _ BO6.out; clear b6))
                  all_goals
                    have b6B := hb3.trans ((below_chain bY BO6.out).mono s3)
                    have HO6 := Lib.hid (ownsRow_below HOB.out b6B)
                    have b6s := bBs.trans (b6B.mono bBs.size)
                    have hs6 := b6s.size
                    go_wp2_with (first | (at_builtin; refine wpList_append_own _ rfl _ _ 33 rfl ws.heap.size 3 i0 (.int .i64 0) 1 8 Try.underlying33 hi hz0 hz1 hz2 rfl (by decide) _ _ _ rfl (HO6.out.alloc _) ⟨w6.heap.size, 0, none⟩ 1 1 [.int .i64 x0] rfl rfl (cell_oneI _ _ _ (by simp)) (by simp [Value.oneCell']) (by unfold maxLen; omega) (by omega) (by simp; omega) ?_; intro v' w7 hown' hgrow _))
                    have HOWN := Lib.hid hown'
                    have HB7 := Lib.hid (below_app b6s (Nat.le_refl _) HO6.out hgrow)
                    clear hown' hgrow
                    go_wp2_with fail
                    go_roundw
                    case rel => exact ⟨k + 1, _, by omega, by go_num, rfl, (by rw [HSU2.out]; simpa [vI] using HOWN.out), HB7.out⟩
                    case measure => simp [intOf]; omega
              · have hjl : j = rs.length := by omega
                have HSU2 := Lib.hid (HSU.out.trans (if_neg (by rw [nd_no (fun q hq => HNQ.out q (by omega))]; simp)))
                clear hjl
                go_wp2_with fail
                go_roundw
                case rel => exact ⟨k + 1, _, by omega, by go_num, rfl, (by rw [HSU2.out]; exact ownsRow_below HOB.out hb3), bBs.trans (hb3.mono bBs.size)⟩
                case measure => simp [intOf]; omega
          · obtain rfl : k = t.length := by omega
            have HO := Lib.hid hO
            clear hO
            go_wp2_with fail
            rw [Exit.noGoto_ret]
            go_ret2
            exact ⟨_, rfl, (ints_rowK HO.out rfl).wide s2 (Nat.le_refl _), hbw⟩
end Go.Proofs.Ytkjpehpodlpdhaa
