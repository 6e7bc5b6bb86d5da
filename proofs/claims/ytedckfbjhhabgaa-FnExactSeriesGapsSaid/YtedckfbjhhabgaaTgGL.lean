/- The law FnExactSeriesGaps: at every argument the call answers true. No condition. -/
import Derived.Test.YtedckfbjhhabgaaTgG
import Derived.Test.YtedckfbjhhabgaaEqRu
import Derived.Test.YtedckfbjhhabgaaMarkRu
import Derived.Test.YtedckfbjhhabgaaInts
import Derived.Test.YtedckfbjhhabgaaIntsN
import Derived.Test.YtedckfbjhhabgaaArgInts
import Derived.Test.YtedckfbjhhabgaaFrame
import Derived.Test.YtedckfbjhhabgaaCellOnly
import Derived.Deep.RegionHeld3
namespace Go.Proofs.Ytedckfbjhhabgaa
set_option linter.unusedVariables false
open Go.ChangeShapes Go.WideShapes Go.ChangeAt Go.RowKit

set_option maxRecDepth 20000 in
set_option maxHeartbeats 8000000 in
theorem walkSeriesGaps (v0 : Value) (s : List Ru) (v1 : Value) (l : List Int) (W : World) (h0 : RowR 4 rRu W v0 s) (h1 : RowOf vI W v1 l) :
    Calls Try.prog 4 #[v0, v1] W fun e w' => e = .returned (.bool true) ∧ Below W.heap.size W w' := by
  have HA0 := Lib.hid (show ∀ W', Below W.heap.size W W' → RowR 4 rRu W' v0 s from fun W' hb => h0.below rRu_stable hb)
  clear h0
  have HA1 := Lib.hid (show ∀ W', Below W.heap.size W W' → RowOf vI W' v1 l from fun W' hb => h1.below hb)
  obtain ⟨la1, lc1, hv1, hl1_, hm1_, hr1_⟩ := h1
  subst hv1
  unfold maxLen at hm1_
  clear hr1_
  obtain ⟨xs, b, hb⟩ : ∃ xs b, gapsRes s l = (xs, b) := ⟨_, _, rfl⟩
  have HB := Lib.hid hb
  have hxl : xs.length ≤ l.length := gapsRes_len hb
  have HXL := Lib.hid hxl
  clear hb hxl
  have eb_b : (b != b) = false := by simp
  by_cases hs1 : (1048576 : Int) < l.length
  · go_enter Try.func4, Try.ntmps4
    go_wp2_with fail
    go_ret
    exact ⟨rfl, Below.refl _ _⟩
  have hl1 : l.length ≤ 1048576 := by omega
  go_enter Try.func4, Try.ntmps4
  go_wp2_with fail
  have HBW : Hid (Below W.heap.size W W) := Lib.hid (Below.refl _ _)
  go_wp2_with fail
  refine (szRuS_any _ s 1048576 _ (HA0.out _ HBW.out) (by omega) (by omega)).mono ?_
  rintro e w1 ⟨n0, rfl, hf0, hp0, hq0, b1⟩
  have sz1 := b1.size
  replace HBW := Lib.hid (HBW.out.trans (b1.mono HBW.out.size))
  clear b1 
  have HF0 := Lib.hid hf0
  have HP0 := Lib.hid hp0
  clear hf0 hp0
  by_cases hs0 : n0 < 0
  · go_wp2_with fail
    go_ret
    exact ⟨rfl, HBW.out⟩
  · have hl0 : s.length ≤ 1048576 := by have := HF0.out; omega
    have hn00 : 0 ≤ n0 := by omega
    go_wp2_with fail
    refine (toRuS_any _ s _ (HA0.out _ HBW.out) (by omega)).mono ?_
    rintro e w2 ⟨s0, rfl, hos0, b2⟩
    have HOs0 := Lib.hid hos0
    clear hos0
    have sz2 := b2.size
    replace HBW := Lib.hid (HBW.out.trans (b2.mono HBW.out.size))
    clear b2 
    go_wp2_with fail
    refine (toIntS_any _ l _ (HA1.out _ HBW.out) (by omega)).mono ?_
    rintro e w3 ⟨s1, rfl, hos1, b3⟩
    have HOs1 := Lib.hid hos1
    clear hos1
    have sz3 := b3.size
    replace HOs0 := Lib.hid (HOs0.out.below b3)
    replace HBW := Lib.hid (HBW.out.trans (b3.mono HBW.out.size))
    clear b3 
    go_wp2_with fail
    refine (specGaps_any _ _ s l _ HOs0.out.row (by omega) HOs1.out.row (by omega) xs b HB.out).mono ?_
    rintro e w4 ⟨vsp, rfl, hsp, b4⟩
    have Hsp := Lib.hid hsp
    clear hsp
    have sz4 := b4.size
    replace HOs0 := Lib.hid (HOs0.out.below b4)
    replace HOs1 := Lib.hid (HOs1.out.below b4)
    replace HBW := Lib.hid (HBW.out.trans (b4.mono HBW.out.size))
    clear b4 
    clear HOs0
    clear HOs1
    go_wp2_with fail
    refine (toRuS_any _ s _ (HA0.out _ HBW.out) (by omega)).mono ?_
    rintro e w5 ⟨x0, rfl, hox0, b5⟩
    have HOx0 := Lib.hid hox0
    clear hox0
    have sz5 := b5.size
    replace Hsp := Lib.hid (Hsp.out.below b5)
    replace HBW := Lib.hid (HBW.out.trans (b5.mono HBW.out.size))
    clear b5 
    go_wp2_with fail
    refine (toIntS_any _ l _ (HA1.out _ HBW.out) (by omega)).mono ?_
    rintro e w6 ⟨x1, rfl, hox1, b6⟩
    have HOx1 := Lib.hid hox1
    clear hox1
    have sz6 := b6.size
    replace Hsp := Lib.hid (Hsp.out.below b6)
    replace HOx0 := Lib.hid (HOx0.out.below b6)
    replace HBW := Lib.hid (HBW.out.trans (b6.mono HBW.out.size))
    clear b6 
    go_wp2_with fail
    refine (implGaps_any _ _ s l _ HOx0.out.row (by omega) HOx1.out.row (by omega) xs b HB.out).mono ?_
    rintro e w7 ⟨vg, rfl, hg, b7⟩
    have Hg := Lib.hid hg
    clear hg
    have sz7 := b7.size
    replace Hsp := Lib.hid (Hsp.out.below b7)
    replace HOx0 := Lib.hid (HOx0.out.below b7)
    replace HOx1 := Lib.hid (HOx1.out.below b7)
    replace HBW := Lib.hid (HBW.out.trans (b7.mono HBW.out.size))
    clear b7 
    go_wp2_with fail
    refine (eqIntS_any _ _ xs xs _ Hg.out.row Hsp.out.row).mono ?_
    rw [decide_eq_true rfl]
    rintro e w8 ⟨rfl, b8⟩
    have sz8 := b8.size
    replace Hsp := Lib.hid (Hsp.out.below b8)
    replace HOx0 := Lib.hid (HOx0.out.below b8)
    replace HOx1 := Lib.hid (HOx1.out.below b8)
    replace Hg := Lib.hid (Hg.out.below b8)
    replace HBW := Lib.hid (HBW.out.trans (b8.mono HBW.out.size))
    clear b8 
    go_wp2_with fail
    refine (toRuS_any _ s _ (HA0.out _ HBW.out) (by omega)).mono ?_
    rintro e w9 ⟨vq0, rfl, hq0_, b9⟩
    have HQ0 := Lib.hid hq0_
    clear hq0_
    have sz9 := b9.size
    replace Hsp := Lib.hid (Hsp.out.below b9)
    replace HOx0 := Lib.hid (HOx0.out.below b9)
    replace HOx1 := Lib.hid (HOx1.out.below b9)
    replace Hg := Lib.hid (Hg.out.below b9)
    replace HBW := Lib.hid (HBW.out.trans (b9.mono HBW.out.size))
    clear b9 
    go_wp2_with fail
    refine (eqRuS_any _ _ s s _ HOx0.out.row HQ0.out.row).mono ?_
    rw [decide_eq_true rfl]
    rintro e w10 ⟨rfl, b10⟩
    have sz10 := b10.size
    replace Hsp := Lib.hid (Hsp.out.below b10)
    replace HOx0 := Lib.hid (HOx0.out.below b10)
    replace HOx1 := Lib.hid (HOx1.out.below b10)
    replace Hg := Lib.hid (Hg.out.below b10)
    replace HQ0 := Lib.hid (HQ0.out.below b10)
    replace HBW := Lib.hid (HBW.out.trans (b10.mono HBW.out.size))
    clear b10 
    clear HQ0
    go_wp2_with fail
    refine (toIntS_any _ l _ (HA1.out _ HBW.out) (by omega)).mono ?_
    rintro e w11 ⟨vq1, rfl, hq1_, b11⟩
    have HQ1 := Lib.hid hq1_
    clear hq1_
    have sz11 := b11.size
    replace Hsp := Lib.hid (Hsp.out.below b11)
    replace HOx0 := Lib.hid (HOx0.out.below b11)
    replace HOx1 := Lib.hid (HOx1.out.below b11)
    replace Hg := Lib.hid (Hg.out.below b11)
    replace HBW := Lib.hid (HBW.out.trans (b11.mono HBW.out.size))
    clear b11 
    go_wp2_with fail
    refine (eqIntS_any _ _ l l _ HOx1.out.row HQ1.out.row).mono ?_
    rw [decide_eq_true rfl]
    rintro e w12 ⟨rfl, b12⟩
    have sz12 := b12.size
    replace Hsp := Lib.hid (Hsp.out.below b12)
    replace HOx0 := Lib.hid (HOx0.out.below b12)
    replace HOx1 := Lib.hid (HOx1.out.below b12)
    replace Hg := Lib.hid (Hg.out.below b12)
    replace HQ1 := Lib.hid (HQ1.out.below b12)
    replace HBW := Lib.hid (HBW.out.trans (b12.mono HBW.out.size))
    clear b12 
    clear HQ1
    have szW := HBW.out.size
    go_wp2_with fail
    refine (markRuS_any _ s _ _ (1) _ (by omega) (by omega) HOx0.out).mono ?_
    rintro e w13 ⟨rfl, _, on13⟩
    have sz13 := on13.size
    replace Hsp := Lib.hid (Hsp.out.only2 on13 (by omega))
    replace HOx1 := Lib.hid (HOx1.out.only on13 (by omega))
    replace Hg := Lib.hid (Hg.out.only on13 (by omega))
    replace HBW := Lib.hid (HBW.out.trans ((on13.below (by omega)).mono (by omega)))
    clear on13 
    go_wp2_with fail
    refine (markIntS_any _ l _ _ (1 + s.length * 4) _ (by omega) (by omega) HOx1.out).mono ?_
    rintro e w14 ⟨rfl, _, on14⟩
    have sz14 := on14.size
    replace Hsp := Lib.hid (Hsp.out.only2 on14 (by omega))
    replace Hg := Lib.hid (Hg.out.only on14 (by omega))
    replace HBW := Lib.hid (HBW.out.trans ((on14.below (by omega)).mono (by omega)))
    clear on14 
    have kn0 : (0 : Int) ≤ ((1 + s.length * 4 + l.length : Nat) : Int) := by omega
    go_wp2_with fail
    refine (eqIntS_any _ _ xs xs _ Hg.out.row Hsp.out.row).mono ?_
    rw [decide_eq_true rfl]
    rintro e w15 ⟨rfl, b15⟩
    have sz15 := b15.size
    replace Hsp := Lib.hid (Hsp.out.below b15)
    replace Hg := Lib.hid (Hg.out.below b15)
    replace HBW := Lib.hid (HBW.out.trans (b15.mono HBW.out.size))
    clear b15 
    have hxl := HXL.out
    go_wp2_with fail
    refine (markIntS_any _ xs _ _ 1 _ (Nat.le_refl _) (by omega) Hg.out).mono ?_
    rintro e w16 ⟨rfl, hg2, on16⟩
    have sz16 := on16.size
    replace Hsp := Lib.hid (Hsp.out.only2 on16 (by omega))
    have HG2 := Lib.hid hg2
    clear hg2 Hg
    replace HBW := Lib.hid (HBW.out.trans ((on16.below (by omega)).mono (by omega)))
    clear on16 
    have en : (((1 + xs.length : Nat) : Int) != ((1 + xs.length : Nat) : Int)) = false := by simp
    go_wp2_with fail
    refine (heldIntS_any _ 1 xs.length _ (Nat.le_refl _) (by omega) HG2.out.row).mono ?_
    rintro e w17 ⟨rfl, b17⟩
    have sz17 := b17.size
    replace Hsp := Lib.hid (Hsp.out.below b17)
    replace HG2 := Lib.hid (HG2.out.below b17)
    replace HBW := Lib.hid (HBW.out.trans (b17.mono HBW.out.size))
    clear b17 
    go_wp2_with fail
    refine (toRuS_any _ s _ (HA0.out _ HBW.out) (by omega)).mono ?_
    rintro e w18 ⟨y0, rfl, hoy0, b18⟩
    have HOy0 := Lib.hid hoy0
    clear hoy0
    have sz18 := b18.size
    replace Hsp := Lib.hid (Hsp.out.below b18)
    replace HG2 := Lib.hid (HG2.out.below b18)
    replace HBW := Lib.hid (HBW.out.trans (b18.mono HBW.out.size))
    clear b18 
    go_wp2_with fail
    refine (toIntS_any _ l _ (HA1.out _ HBW.out) (by omega)).mono ?_
    rintro e w19 ⟨y1, rfl, hoy1, b19⟩
    have HOy1 := Lib.hid hoy1
    clear hoy1
    have sz19 := b19.size
    replace Hsp := Lib.hid (Hsp.out.below b19)
    replace HG2 := Lib.hid (HG2.out.below b19)
    replace HOy0 := Lib.hid (HOy0.out.below b19)
    replace HBW := Lib.hid (HBW.out.trans (b19.mono HBW.out.size))
    clear b19 
    go_wp2_with fail
    refine (implGaps_any _ _ s l _ HOy0.out.row (by omega) HOy1.out.row (by omega) xs b HB.out).mono ?_
    rintro e w20 ⟨vh, rfl, hh, b20⟩
    have Hh := Lib.hid hh
    clear hh
    have sz20 := b20.size
    replace Hsp := Lib.hid (Hsp.out.below b20)
    replace HG2 := Lib.hid (HG2.out.below b20)
    replace HOy0 := Lib.hid (HOy0.out.below b20)
    replace HOy1 := Lib.hid (HOy1.out.below b20)
    replace HBW := Lib.hid (HBW.out.trans (b20.mono HBW.out.size))
    clear b20 
    go_wp2_with fail
    refine (eqIntS_any _ _ xs xs _ Hh.out.row Hsp.out.row).mono ?_
    rw [decide_eq_true rfl]
    rintro e w21 ⟨rfl, b21⟩
    have sz21 := b21.size
    replace Hsp := Lib.hid (Hsp.out.below b21)
    replace HG2 := Lib.hid (HG2.out.below b21)
    replace HOy0 := Lib.hid (HOy0.out.below b21)
    replace HOy1 := Lib.hid (HOy1.out.below b21)
    replace Hh := Lib.hid (Hh.out.below b21)
    replace HBW := Lib.hid (HBW.out.trans (b21.mono HBW.out.size))
    clear b21 
    go_wp2_with fail
    refine (heldIntS_any _ 1 xs.length _ (Nat.le_refl _) (by omega) HG2.out.row).mono ?_
    rintro e w22 ⟨rfl, b22⟩
    have sz22 := b22.size
    replace Hsp := Lib.hid (Hsp.out.below b22)
    replace HG2 := Lib.hid (HG2.out.below b22)
    replace HOy0 := Lib.hid (HOy0.out.below b22)
    replace HOy1 := Lib.hid (HOy1.out.below b22)
    replace Hh := Lib.hid (Hh.out.below b22)
    replace HBW := Lib.hid (HBW.out.trans (b22.mono HBW.out.size))
    clear b22 
    go_wp2_with fail
    go_ret
    exact ⟨rfl, HBW.out⟩

set_option maxRecDepth 100000 in
theorem fnExactSeriesGaps_lifted (os : Os) (started : os.Started) (H : Type) (enc : TypeId × Value → H) :
    ReturnsInHanded {} Try.checked os 4 .any (Rows.fnExactSeriesGapsSpec.pre6 enc Try.prog Try.f4 Rows.fnExactSeriesGapsRow.domain false) (Rows.fnExactSeriesGapsSpec.post enc Try.prog Try.f4 false true false false) := by
  refine returnsInHanded_of_change (C := Try.checked) Try.own started (by kernel_rfl) Try.func4
    (ChangeSpec.witness6 (enc := enc) (C := Try.checked) false ⟨#[], #[.slice none 0 0, .slice none 0 0], []⟩ 8 (by kernel_rfl) (by kernel_rfl) (by kernel_rfl) (by kernel_rfl)) ?_
  intro W base args ds gs before hval0 hW hcnd _
  have hval : ∀ (j : Nat) t v, Try.f4.params[j]? = some t → args[j]? = some v → Value.okWide Try.prog W .any base t v := hval0
  have hW' := hW
  obtain ⟨p, q, hA0, hV, rfl, hfz, hnd⟩ := hW
  have hA : DataW.TrodAll enc Try.prog W 0 (fun _ => true) true Try.f4.params.toList args.toList ds p := hA0
  rw [Try.params4] at hA hval
  obtain ⟨v0, vs0, d0, ds0, p0, q0, hargs, rfl, rfl, h0, r0⟩ := trodAll_cons hA
  obtain ⟨v1, vs1, d1, ds1, p1, q1, rfl, rfl, rfl, h1, r1⟩ := trodAll_cons r0
  obtain ⟨rfl, rfl, rfl⟩ := trodAll_nil r1
  obtain rfl : args = #[v0, v1] := by cases args; simp_all
  obtain ⟨rfl, rfl⟩ := trodVars_none hV
  obtain ⟨x0, w0⟩ := arg_rus (hval 0 29 v0 rfl rfl) h0
  have lt0 : ∀ x ∈ p0, x.block < W.heap.size := by obtain ⟨m, hm⟩ := h0; exact DataW.trod_lt m _ _ _ hm
  obtain ⟨x1, w1⟩ := arg_ints (hval 1 30 v1 rfl rfl) h1
  have lt1 : ∀ x ∈ p1, x.block < W.heap.size := by obtain ⟨m, hm⟩ := h1; exact DataW.trod_lt m _ _ _ hm
  clear hA0 hval0
  refine (walkSeriesGaps v0 x0 v1 x1 W w0 w1).mono fun e W' ⟨he, bel⟩ => ?_
  subst he
  exact ⟨_, rfl, _, _, _, [], _, [], hW', trodAll_mk1 (shut_bool Try.underlying4 _), (trodAll_cons_mk (Below.trod Try.laidOut (by kernel_rfl) (of_decide_eq_true (by kernel_rfl)) h0 bel lt0) (trodAll_cons_mk (Below.trod Try.laidOut (by kernel_rfl) (of_decide_eq_true (by kernel_rfl)) h1 bel lt1) trodAll_mk0)), rfl, bel.frame _, fun h => by cases h⟩

/-- THE STATEMENT. -/
theorem fnExactSeriesGaps_proved : Rows.FnExactSeriesGapsSaid :=
  OpenClaim.holds_of_wide 4 Try.f4 rfl rfl rfl rfl rfl rfl rfl ⟨rfl, rfl, rfl, rfl, rfl⟩ rfl rfl rfl rfl rfl (by kernel_rfl) Try.func4 (by kernel_rfl)
    (of_decide_eq_true (by kernel_rfl)) (by unfold Func.isWrapper; first | (rw [if_pos (by decide +kernel)]; kernel_rfl) | (rw [if_neg (by decide +kernel)]; exact ⟨rfl, rfl⟩))
    (fun os started H enc _ => fnExactSeriesGaps_lifted os started H enc)
end Go.Proofs.Ytedckfbjhhabgaa
