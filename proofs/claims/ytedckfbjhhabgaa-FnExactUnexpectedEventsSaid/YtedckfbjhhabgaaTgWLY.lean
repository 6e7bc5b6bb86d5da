/- The law FnExactUnexpectedEvents: at every argument the call answers true. No condition. -/
import Derived.Test.YtedckfbjhhabgaaTgWLZ
import Derived.Test.YtedckfbjhhabgaaInts
import Derived.Test.YtedckfbjhhabgaaFrame
import Derived.Deep.RegionHeld3
namespace Go.Proofs.Ytedckfbjhhabgaa
set_option linter.unusedVariables false
open Go.ChangeShapes Go.WideShapes Go.ChangeAt Go.RowKit

set_option maxRecDepth 20000 in
set_option maxHeartbeats 8000000 in
theorem walkUnexpectedEvents (v0 : Value) (l : List Tg) (v1 : Value) (s : List Ru) (W : World) (h0 : RowR 3 rTg W v0 l) (h1 : RowR 4 rRu W v1 s) :
    Calls Try.prog 11 #[v0, v1] W fun e w' => e = .returned (.bool true) ∧ Below W.heap.size W w' := by
  have HA0 := Lib.hid (show ∀ W', Below W.heap.size W W' → RowR 3 rTg W' v0 l from fun W' hb => h0.below rTg_stable hb)
  clear h0
  have HA1 := Lib.hid (show ∀ W', Below W.heap.size W W' → RowR 4 rRu W' v1 s from fun W' hb => h1.below rRu_stable hb)
  clear h1
  obtain ⟨xs, b, hb⟩ : ∃ xs b, unxRes l s = (xs, b) := ⟨_, _, rfl⟩
  have HB := Lib.hid hb
  have hxl : xs.length ≤ 9 := unxRes_len hb
  have HXL := Lib.hid hxl
  clear hb hxl
  have eb_b : (b != b) = false := by simp
  go_enter Try.func11, Try.ntmps11
  go_wp2_with fail
  have HBW : Hid (Below W.heap.size W W) := Lib.hid (Below.refl _ _)
  go_wp2_with fail
  refine (szTgS_any _ l 1048576 _ (HA0.out _ HBW.out) (by omega) (by omega)).mono ?_
  rintro e w1 ⟨n0, rfl, hf0, hp0, hq0, b1⟩
  have sz1 := b1.size
  replace HBW := Lib.hid (HBW.out.trans (b1.mono HBW.out.size))
  clear b1 
  have HF0 := Lib.hid hf0
  have HP0 := Lib.hid hp0
  clear hf0 hp0
  by_cases hs0 : n0 < 0
  · go_wp2_with fail
    go_ret
    exact ⟨rfl, HBW.out⟩
  · have hl0 : l.length ≤ 1048576 := by have := HF0.out; omega
    have hn00 : 0 ≤ n0 := by omega
    go_wp2_with fail
    refine (szRuS_any _ s n0 _ (HA1.out _ HBW.out) (by omega) (by omega)).mono ?_
    rintro e w2 ⟨n1, rfl, hf1, hp1, hq1, b2⟩
    have sz2 := b2.size
    replace HBW := Lib.hid (HBW.out.trans (b2.mono HBW.out.size))
    clear b2 
    have HF1 := Lib.hid hf1
    have HP1 := Lib.hid hp1
    clear hf1 hp1
    by_cases hs1 : n1 < 0
    · go_wp2_with fail
      go_ret
      exact ⟨rfl, HBW.out⟩
    · have hl1 : s.length ≤ 1048576 := by have := HF1.out; omega
      have hn10 : 0 ≤ n1 := by omega
      go_wp2_with fail
      refine (toTgS_any _ l _ (HA0.out _ HBW.out) (by omega)).mono ?_
      rintro e w3 ⟨s0, rfl, hos0, b3⟩
      have HOs0 := Lib.hid hos0
      clear hos0
      have sz3 := b3.size
      replace HBW := Lib.hid (HBW.out.trans (b3.mono HBW.out.size))
      clear b3 
      go_wp2_with fail
      refine (toRuS_any _ s _ (HA1.out _ HBW.out) (by omega)).mono ?_
      rintro e w4 ⟨s1, rfl, hos1, b4⟩
      have HOs1 := Lib.hid hos1
      clear hos1
      have sz4 := b4.size
      replace HOs0 := Lib.hid (HOs0.out.below b4)
      replace HBW := Lib.hid (HBW.out.trans (b4.mono HBW.out.size))
      clear b4 
      go_wp2_with fail
      refine (specUnx_any _ _ l s _ HOs0.out.row HOs1.out.row (by omega) xs b HB.out).mono ?_
      rintro e w5 ⟨vsp, rfl, hsp, b5⟩
      have Hsp := Lib.hid hsp
      clear hsp
      have sz5 := b5.size
      replace HOs0 := Lib.hid (HOs0.out.below b5)
      replace HOs1 := Lib.hid (HOs1.out.below b5)
      replace HBW := Lib.hid (HBW.out.trans (b5.mono HBW.out.size))
      clear b5 
      clear HOs0
      clear HOs1
      go_wp2_with fail
      refine (toTgS_any _ l _ (HA0.out _ HBW.out) (by omega)).mono ?_
      rintro e w6 ⟨x0, rfl, hox0, b6⟩
      have HOx0 := Lib.hid hox0
      clear hox0
      have sz6 := b6.size
      replace Hsp := Lib.hid (Hsp.out.below b6)
      replace HBW := Lib.hid (HBW.out.trans (b6.mono HBW.out.size))
      clear b6 
      go_wp2_with fail
      refine (toRuS_any _ s _ (HA1.out _ HBW.out) (by omega)).mono ?_
      rintro e w7 ⟨x1, rfl, hox1, b7⟩
      have HOx1 := Lib.hid hox1
      clear hox1
      have sz7 := b7.size
      replace Hsp := Lib.hid (Hsp.out.below b7)
      replace HOx0 := Lib.hid (HOx0.out.below b7)
      replace HBW := Lib.hid (HBW.out.trans (b7.mono HBW.out.size))
      clear b7 
      go_wp2_with fail
      refine (implUnx_any _ _ l s _ HOx0.out.row HOx1.out.row (by omega) xs b HB.out).mono ?_
      rintro e w8 ⟨vg, rfl, hg, b8⟩
      have Hg := Lib.hid hg
      clear hg
      have sz8 := b8.size
      replace Hsp := Lib.hid (Hsp.out.below b8)
      replace HOx0 := Lib.hid (HOx0.out.below b8)
      replace HOx1 := Lib.hid (HOx1.out.below b8)
      replace HBW := Lib.hid (HBW.out.trans (b8.mono HBW.out.size))
      clear b8 
      go_wp2_with fail
      refine (eqIntS_any _ _ xs xs _ Hg.out.row Hsp.out.row).mono ?_
      rw [decide_eq_true rfl]
      rintro e w9 ⟨rfl, b9⟩
      have sz9 := b9.size
      replace Hsp := Lib.hid (Hsp.out.below b9)
      replace HOx0 := Lib.hid (HOx0.out.below b9)
      replace HOx1 := Lib.hid (HOx1.out.below b9)
      replace Hg := Lib.hid (Hg.out.below b9)
      replace HBW := Lib.hid (HBW.out.trans (b9.mono HBW.out.size))
      clear b9 
      go_wp2_with fail
      refine (toTgS_any _ l _ (HA0.out _ HBW.out) (by omega)).mono ?_
      rintro e w10 ⟨vq0, rfl, hq0_, b10⟩
      have HQ0 := Lib.hid hq0_
      clear hq0_
      have sz10 := b10.size
      replace Hsp := Lib.hid (Hsp.out.below b10)
      replace HOx0 := Lib.hid (HOx0.out.below b10)
      replace HOx1 := Lib.hid (HOx1.out.below b10)
      replace Hg := Lib.hid (Hg.out.below b10)
      replace HBW := Lib.hid (HBW.out.trans (b10.mono HBW.out.size))
      clear b10 
      go_wp2_with fail
      refine (eqTgS_any _ _ l l _ HOx0.out.row HQ0.out.row).mono ?_
      rw [decide_eq_true rfl]
      rintro e w11 ⟨rfl, b11⟩
      have sz11 := b11.size
      replace Hsp := Lib.hid (Hsp.out.below b11)
      replace HOx0 := Lib.hid (HOx0.out.below b11)
      replace HOx1 := Lib.hid (HOx1.out.below b11)
      replace Hg := Lib.hid (Hg.out.below b11)
      replace HQ0 := Lib.hid (HQ0.out.below b11)
      replace HBW := Lib.hid (HBW.out.trans (b11.mono HBW.out.size))
      clear b11 
      clear HQ0
      go_wp2_with fail
      refine (toRuS_any _ s _ (HA1.out _ HBW.out) (by omega)).mono ?_
      rintro e w12 ⟨vq1, rfl, hq1_, b12⟩
      have HQ1 := Lib.hid hq1_
      clear hq1_
      have sz12 := b12.size
      replace Hsp := Lib.hid (Hsp.out.below b12)
      replace HOx0 := Lib.hid (HOx0.out.below b12)
      replace HOx1 := Lib.hid (HOx1.out.below b12)
      replace Hg := Lib.hid (Hg.out.below b12)
      replace HBW := Lib.hid (HBW.out.trans (b12.mono HBW.out.size))
      clear b12 
      go_wp2_with fail
      refine (eqRuS_any _ _ s s _ HOx1.out.row HQ1.out.row).mono ?_
      rw [decide_eq_true rfl]
      rintro e w13 ⟨rfl, b13⟩
      have sz13 := b13.size
      replace Hsp := Lib.hid (Hsp.out.below b13)
      replace HOx0 := Lib.hid (HOx0.out.below b13)
      replace HOx1 := Lib.hid (HOx1.out.below b13)
      replace Hg := Lib.hid (Hg.out.below b13)
      replace HQ1 := Lib.hid (HQ1.out.below b13)
      replace HBW := Lib.hid (HBW.out.trans (b13.mono HBW.out.size))
      clear b13 
      clear HQ1
      have szW := HBW.out.size
      go_wp2_with fail
      refine (markTgS_any _ l _ _ (1) _ (by omega) (by omega) HOx0.out).mono ?_
      rintro e w14 ⟨rfl, _, on14⟩
      have sz14 := on14.size
      replace Hsp := Lib.hid (Hsp.out.only2 on14 (by omega))
      replace HOx1 := Lib.hid (HOx1.out.only on14 (by omega))
      replace Hg := Lib.hid (Hg.out.only on14 (by omega))
      replace HBW := Lib.hid (HBW.out.trans ((on14.below (by omega)).mono (by omega)))
      clear on14 
      go_wp2_with fail
      refine (markRuS_any _ s _ _ (1 + l.length * 3) _ (by omega) (by omega) HOx1.out).mono ?_
      rintro e w15 ⟨rfl, _, on15⟩
      have sz15 := on15.size
      replace Hsp := Lib.hid (Hsp.out.only2 on15 (by omega))
      replace Hg := Lib.hid (Hg.out.only on15 (by omega))
      replace HBW := Lib.hid (HBW.out.trans ((on15.below (by omega)).mono (by omega)))
      clear on15 
      have kn0 : (0 : Int) ≤ ((1 + l.length * 3 + s.length * 4 : Nat) : Int) := by omega
      go_wp2_with fail
      refine (eqIntS_any _ _ xs xs _ Hg.out.row Hsp.out.row).mono ?_
      rw [decide_eq_true rfl]
      rintro e w16 ⟨rfl, b16⟩
      have sz16 := b16.size
      replace Hsp := Lib.hid (Hsp.out.below b16)
      replace Hg := Lib.hid (Hg.out.below b16)
      replace HBW := Lib.hid (HBW.out.trans (b16.mono HBW.out.size))
      clear b16 
      have hxl := HXL.out
      go_wp2_with fail
      refine (markIntS_any _ xs _ _ 1 _ (Nat.le_refl _) (by omega) Hg.out).mono ?_
      rintro e w17 ⟨rfl, hg2, on17⟩
      have sz17 := on17.size
      replace Hsp := Lib.hid (Hsp.out.only2 on17 (by omega))
      have HG2 := Lib.hid hg2
      clear hg2 Hg
      replace HBW := Lib.hid (HBW.out.trans ((on17.below (by omega)).mono (by omega)))
      clear on17 
      have en : (((1 + xs.length : Nat) : Int) != ((1 + xs.length : Nat) : Int)) = false := by simp
      go_wp2_with fail
      refine (heldIntS_any _ 1 xs.length _ (Nat.le_refl _) (by omega) HG2.out.row).mono ?_
      rintro e w18 ⟨rfl, b18⟩
      have sz18 := b18.size
      replace Hsp := Lib.hid (Hsp.out.below b18)
      replace HG2 := Lib.hid (HG2.out.below b18)
      replace HBW := Lib.hid (HBW.out.trans (b18.mono HBW.out.size))
      clear b18 
      go_wp2_with fail
      refine (toTgS_any _ l _ (HA0.out _ HBW.out) (by omega)).mono ?_
      rintro e w19 ⟨y0, rfl, hoy0, b19⟩
      have HOy0 := Lib.hid hoy0
      clear hoy0
      have sz19 := b19.size
      replace Hsp := Lib.hid (Hsp.out.below b19)
      replace HG2 := Lib.hid (HG2.out.below b19)
      replace HBW := Lib.hid (HBW.out.trans (b19.mono HBW.out.size))
      clear b19 
      go_wp2_with fail
      refine (toRuS_any _ s _ (HA1.out _ HBW.out) (by omega)).mono ?_
      rintro e w20 ⟨y1, rfl, hoy1, b20⟩
      have HOy1 := Lib.hid hoy1
      clear hoy1
      have sz20 := b20.size
      replace Hsp := Lib.hid (Hsp.out.below b20)
      replace HG2 := Lib.hid (HG2.out.below b20)
      replace HOy0 := Lib.hid (HOy0.out.below b20)
      replace HBW := Lib.hid (HBW.out.trans (b20.mono HBW.out.size))
      clear b20 
      go_wp2_with fail
      refine (implUnx_any _ _ l s _ HOy0.out.row HOy1.out.row (by omega) xs b HB.out).mono ?_
      rintro e w21 ⟨vh, rfl, hh, b21⟩
      have Hh := Lib.hid hh
      clear hh
      have sz21 := b21.size
      replace Hsp := Lib.hid (Hsp.out.below b21)
      replace HG2 := Lib.hid (HG2.out.below b21)
      replace HOy0 := Lib.hid (HOy0.out.below b21)
      replace HOy1 := Lib.hid (HOy1.out.below b21)
      replace HBW := Lib.hid (HBW.out.trans (b21.mono HBW.out.size))
      clear b21 
      go_wp2_with fail
      refine (eqIntS_any _ _ xs xs _ Hh.out.row Hsp.out.row).mono ?_
      rw [decide_eq_true rfl]
      rintro e w22 ⟨rfl, b22⟩
      have sz22 := b22.size
      replace Hsp := Lib.hid (Hsp.out.below b22)
      replace HG2 := Lib.hid (HG2.out.below b22)
      replace HOy0 := Lib.hid (HOy0.out.below b22)
      replace HOy1 := Lib.hid (HOy1.out.below b22)
      replace Hh := Lib.hid (Hh.out.below b22)
      replace HBW := Lib.hid (HBW.out.trans (b22.mono HBW.out.size))
      clear b22 
      go_wp2_with fail
      refine (heldIntS_any _ 1 xs.length _ (Nat.le_refl _) (by omega) HG2.out.row).mono ?_
      rintro e w23 ⟨rfl, b23⟩
      have sz23 := b23.size
      replace Hsp := Lib.hid (Hsp.out.below b23)
      replace HG2 := Lib.hid (HG2.out.below b23)
      replace HOy0 := Lib.hid (HOy0.out.below b23)
      replace HOy1 := Lib.hid (HOy1.out.below b23)
      replace Hh := Lib.hid (Hh.out.below b23)
      replace HBW := Lib.hid (HBW.out.trans (b23.mono HBW.out.size))
      clear b23 
      go_wp2_with fail
      go_ret
      exact ⟨rfl, HBW.out⟩

set_option maxRecDepth 100000 in
theorem fnExactUnexpectedEvents_lifted (os : Os) (started : os.Started) (H : Type) (enc : TypeId × Value → H) :
    ReturnsInHanded {} Try.checked os 11 .any (Rows.fnExactUnexpectedEventsSpec.pre6 enc Try.prog Try.f11 Rows.fnExactUnexpectedEventsRow.domain false) (Rows.fnExactUnexpectedEventsSpec.post enc Try.prog Try.f11 false true false false) := by
  refine returnsInHanded_of_change (C := Try.checked) Try.own started (by kernel_rfl) Try.func11
    (ChangeSpec.witness6 (enc := enc) (C := Try.checked) false ⟨#[], #[.slice none 0 0, .slice none 0 0], []⟩ 8 (by kernel_rfl) (by kernel_rfl) (by kernel_rfl) (by kernel_rfl)) ?_
  intro W base args ds gs before hval0 hW hcnd _
  have hval : ∀ (j : Nat) t v, Try.f11.params[j]? = some t → args[j]? = some v → Value.okWide Try.prog W .any base t v := hval0
  have hW' := hW
  obtain ⟨p, q, hA0, hV, rfl, hfz, hnd⟩ := hW
  have hA : DataW.TrodAll enc Try.prog W 0 (fun _ => true) true Try.f11.params.toList args.toList ds p := hA0
  rw [Try.params11] at hA hval
  obtain ⟨v0, vs0, d0, ds0, p0, q0, hargs, rfl, rfl, h0, r0⟩ := trodAll_cons hA
  obtain ⟨v1, vs1, d1, ds1, p1, q1, rfl, rfl, rfl, h1, r1⟩ := trodAll_cons r0
  obtain ⟨rfl, rfl, rfl⟩ := trodAll_nil r1
  obtain rfl : args = #[v0, v1] := by cases args; simp_all
  obtain ⟨rfl, rfl⟩ := trodVars_none hV
  obtain ⟨x0, w0⟩ := arg_tgs (hval 0 22 v0 rfl rfl) h0
  have lt0 : ∀ x ∈ p0, x.block < W.heap.size := by obtain ⟨m, hm⟩ := h0; exact DataW.trod_lt m _ _ _ hm
  obtain ⟨x1, w1⟩ := arg_rus (hval 1 29 v1 rfl rfl) h1
  have lt1 : ∀ x ∈ p1, x.block < W.heap.size := by obtain ⟨m, hm⟩ := h1; exact DataW.trod_lt m _ _ _ hm
  clear hA0 hval0
  refine (walkUnexpectedEvents v0 x0 v1 x1 W w0 w1).mono fun e W' ⟨he, bel⟩ => ?_
  subst he
  exact ⟨_, rfl, _, _, _, [], _, [], hW', trodAll_mk1 (shut_bool Try.underlying4 _), (trodAll_cons_mk (Below.trod Try.laidOut (by kernel_rfl) (of_decide_eq_true (by kernel_rfl)) h0 bel lt0) (trodAll_cons_mk (Below.trod Try.laidOut (by kernel_rfl) (of_decide_eq_true (by kernel_rfl)) h1 bel lt1) trodAll_mk0)), rfl, bel.frame _, fun h => by cases h⟩

/-- THE STATEMENT. -/
theorem fnExactUnexpectedEvents_proved : Rows.FnExactUnexpectedEventsSaid :=
  OpenClaim.holds_of_wide 11 Try.f11 rfl rfl rfl rfl rfl rfl rfl ⟨rfl, rfl, rfl, rfl, rfl⟩ rfl rfl rfl rfl rfl (by kernel_rfl) Try.func11 (by kernel_rfl)
    (of_decide_eq_true (by kernel_rfl)) (by unfold Func.isWrapper; first | (rw [if_pos (by decide +kernel)]; kernel_rfl) | (rw [if_neg (by decide +kernel)]; exact ⟨rfl, rfl⟩))
    (fun os started H enc _ => fnExactUnexpectedEvents_lifted os started H enc)
end Go.Proofs.Ytedckfbjhhabgaa
