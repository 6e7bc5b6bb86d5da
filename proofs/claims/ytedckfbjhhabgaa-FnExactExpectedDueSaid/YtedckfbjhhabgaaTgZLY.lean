/- The law FnExactExpectedDue: at every argument the call answers true. No condition. -/
import Derived.Test.YtedckfbjhhabgaaTgZLZ
import Derived.Test.YtedckfbjhhabgaaFrame
import Derived.Deep.RegionHeld3
namespace Go.Proofs.Ytedckfbjhhabgaa
set_option linter.unusedVariables false
open Go.ChangeShapes Go.WideShapes Go.ChangeAt Go.RowKit

set_option maxRecDepth 20000 in
set_option maxHeartbeats 8000000 in
theorem walkExpectedDue (v0 : Value) (l : List Tg) (v1 : Value) (s : List Ru) (v2 : Value) (k : Int) (W : World) (h0 : RowR 3 rTg W v0 l) (h1 : RowR 4 rRu W v1 s) (h2 : v2 = .int .i64 k ∧ inI k) :
    Calls Try.prog 10 #[v0, v1, v2] W fun e w' => e = .returned (.bool true) ∧ Below W.heap.size W w' := by
  have HA0 := Lib.hid (show ∀ W', Below W.heap.size W W' → RowR 3 rTg W' v0 l from fun W' hb => h0.below rTg_stable hb)
  clear h0
  have HA1 := Lib.hid (show ∀ W', Below W.heap.size W W' → RowR 4 rRu W' v1 s from fun W' hb => h1.below rRu_stable hb)
  clear h1
  obtain ⟨rfl, k2⟩ := h2
  obtain ⟨n, b, hb⟩ : ∃ n b, dueTRes l s k = (n, b) := ⟨_, _, rfl⟩
  have HB := Lib.hid hb
  clear hb
  have eb_n : (n != n) = false := by simp
  have eb_b : (b != b) = false := by simp
  go_enter Try.func10, Try.ntmps10
  go_wp2_with fail
  have HBW : Hid (Below W.heap.size W W) := Lib.hid (Below.refl _ _)
  go_wp2_with fail
  refine (szTgS_any _ l 1048576 _ (HA0.out _ HBW.out) (by omega) (by omega)).mono ?_
  rintro e w1 ⟨n0, rfl, hf0, hp0, hq0, b1⟩
  have sz1 := b1.size
  replace HBW := Lib.hid (HBW.out.trans (b1.mono HBW.out.size))
  clear b1 
  have HF0 := Lib.hid hf0
  have HP0 := Lib.hid hp0
  clear hf0 hp0
  by_cases hs0 : n0 < 0
  · go_wp2_with fail
    go_ret
    exact ⟨rfl, HBW.out⟩
  · have hl0 : l.length ≤ 1048576 := by have := HF0.out; omega
    have hn00 : 0 ≤ n0 := by omega
    go_wp2_with fail
    refine (szRuS_any _ s n0 _ (HA1.out _ HBW.out) (by omega) (by omega)).mono ?_
    rintro e w2 ⟨n1, rfl, hf1, hp1, hq1, b2⟩
    have sz2 := b2.size
    replace HBW := Lib.hid (HBW.out.trans (b2.mono HBW.out.size))
    clear b2 
    have HF1 := Lib.hid hf1
    have HP1 := Lib.hid hp1
    clear hf1 hp1
    by_cases hs1 : n1 < 0
    · go_wp2_with fail
      go_ret
      exact ⟨rfl, HBW.out⟩
    · have hl1 : s.length ≤ 1048576 := by have := HF1.out; omega
      have hn10 : 0 ≤ n1 := by omega
      go_wp2_with fail
      refine (toTgS_any _ l _ (HA0.out _ HBW.out) (by omega)).mono ?_
      rintro e w3 ⟨s0, rfl, hos0, b3⟩
      have HOs0 := Lib.hid hos0
      clear hos0
      have sz3 := b3.size
      replace HBW := Lib.hid (HBW.out.trans (b3.mono HBW.out.size))
      clear b3 
      go_wp2_with fail
      refine (toRuS_any _ s _ (HA1.out _ HBW.out) (by omega)).mono ?_
      rintro e w4 ⟨s1, rfl, hos1, b4⟩
      have HOs1 := Lib.hid hos1
      clear hos1
      have sz4 := b4.size
      replace HOs0 := Lib.hid (HOs0.out.below b4)
      replace HBW := Lib.hid (HBW.out.trans (b4.mono HBW.out.size))
      clear b4 
      go_wp2_with fail
      refine (specExpectedDue_any _ _ l s k _ HOs0.out.row HOs1.out.row (by omega) n b HB.out).mono ?_
      rintro e w5 ⟨rfl, b5⟩
      have sz5 := b5.size
      replace HOs0 := Lib.hid (HOs0.out.below b5)
      replace HOs1 := Lib.hid (HOs1.out.below b5)
      replace HBW := Lib.hid (HBW.out.trans (b5.mono HBW.out.size))
      clear b5 
      clear HOs0
      clear HOs1
      go_wp2_with fail
      refine (toTgS_any _ l _ (HA0.out _ HBW.out) (by omega)).mono ?_
      rintro e w6 ⟨x0, rfl, hox0, b6⟩
      have HOx0 := Lib.hid hox0
      clear hox0
      have sz6 := b6.size
      replace HBW := Lib.hid (HBW.out.trans (b6.mono HBW.out.size))
      clear b6 
      go_wp2_with fail
      refine (toRuS_any _ s _ (HA1.out _ HBW.out) (by omega)).mono ?_
      rintro e w7 ⟨x1, rfl, hox1, b7⟩
      have HOx1 := Lib.hid hox1
      clear hox1
      have sz7 := b7.size
      replace HOx0 := Lib.hid (HOx0.out.below b7)
      replace HBW := Lib.hid (HBW.out.trans (b7.mono HBW.out.size))
      clear b7 
      go_wp2_with fail
      refine (implExpectedDue_any _ _ l s k _ HOx0.out.row HOx1.out.row (by omega) n b HB.out).mono ?_
      rintro e w8 ⟨rfl, b8⟩
      have sz8 := b8.size
      replace HOx0 := Lib.hid (HOx0.out.below b8)
      replace HOx1 := Lib.hid (HOx1.out.below b8)
      replace HBW := Lib.hid (HBW.out.trans (b8.mono HBW.out.size))
      clear b8 
      go_wp2_with fail
      refine (toTgS_any _ l _ (HA0.out _ HBW.out) (by omega)).mono ?_
      rintro e w9 ⟨vq0, rfl, hq0_, b9⟩
      have HQ0 := Lib.hid hq0_
      clear hq0_
      have sz9 := b9.size
      replace HOx0 := Lib.hid (HOx0.out.below b9)
      replace HOx1 := Lib.hid (HOx1.out.below b9)
      replace HBW := Lib.hid (HBW.out.trans (b9.mono HBW.out.size))
      clear b9 
      go_wp2_with fail
      refine (eqTgS_any _ _ l l _ HOx0.out.row HQ0.out.row).mono ?_
      rw [decide_eq_true rfl]
      rintro e w10 ⟨rfl, b10⟩
      have sz10 := b10.size
      replace HOx0 := Lib.hid (HOx0.out.below b10)
      replace HOx1 := Lib.hid (HOx1.out.below b10)
      replace HQ0 := Lib.hid (HQ0.out.below b10)
      replace HBW := Lib.hid (HBW.out.trans (b10.mono HBW.out.size))
      clear b10 
      clear HQ0
      go_wp2_with fail
      refine (toRuS_any _ s _ (HA1.out _ HBW.out) (by omega)).mono ?_
      rintro e w11 ⟨vq1, rfl, hq1_, b11⟩
      have HQ1 := Lib.hid hq1_
      clear hq1_
      have sz11 := b11.size
      replace HOx0 := Lib.hid (HOx0.out.below b11)
      replace HOx1 := Lib.hid (HOx1.out.below b11)
      replace HBW := Lib.hid (HBW.out.trans (b11.mono HBW.out.size))
      clear b11 
      go_wp2_with fail
      refine (eqRuS_any _ _ s s _ HOx1.out.row HQ1.out.row).mono ?_
      rw [decide_eq_true rfl]
      rintro e w12 ⟨rfl, b12⟩
      have sz12 := b12.size
      replace HOx0 := Lib.hid (HOx0.out.below b12)
      replace HOx1 := Lib.hid (HOx1.out.below b12)
      replace HQ1 := Lib.hid (HQ1.out.below b12)
      replace HBW := Lib.hid (HBW.out.trans (b12.mono HBW.out.size))
      clear b12 
      clear HQ1
      go_wp2_with fail
      go_ret
      exact ⟨rfl, HBW.out⟩

set_option maxRecDepth 100000 in
theorem fnExactExpectedDue_lifted (os : Os) (started : os.Started) (H : Type) (enc : TypeId × Value → H) :
    ReturnsInHanded {} Try.checked os 10 .any (Rows.fnExactExpectedDueSpec.pre6 enc Try.prog Try.f10 Rows.fnExactExpectedDueRow.domain false) (Rows.fnExactExpectedDueSpec.post enc Try.prog Try.f10 false true false false) := by
  refine returnsInHanded_of_change (C := Try.checked) Try.own started (by kernel_rfl) Try.func10
    (ChangeSpec.witness6 (enc := enc) (C := Try.checked) false ⟨#[], #[.slice none 0 0, .slice none 0 0, .int .i64 0], []⟩ 8 (by kernel_rfl) (by kernel_rfl) (by kernel_rfl) (by kernel_rfl)) ?_
  intro W base args ds gs before hval0 hW hcnd _
  have hval : ∀ (j : Nat) t v, Try.f10.params[j]? = some t → args[j]? = some v → Value.okWide Try.prog W .any base t v := hval0
  have hW' := hW
  obtain ⟨p, q, hA0, hV, rfl, hfz, hnd⟩ := hW
  have hA : DataW.TrodAll enc Try.prog W 0 (fun _ => true) true Try.f10.params.toList args.toList ds p := hA0
  rw [Try.params10] at hA hval
  obtain ⟨v0, vs0, d0, ds0, p0, q0, hargs, rfl, rfl, h0, r0⟩ := trodAll_cons hA
  obtain ⟨v1, vs1, d1, ds1, p1, q1, rfl, rfl, rfl, h1, r1⟩ := trodAll_cons r0
  obtain ⟨v2, vs2, d2, ds2, p2, q2, rfl, rfl, rfl, h2, r2⟩ := trodAll_cons r1
  obtain ⟨rfl, rfl, rfl⟩ := trodAll_nil r2
  obtain rfl : args = #[v0, v1, v2] := by cases args; simp_all
  obtain ⟨rfl, rfl⟩ := trodVars_none hV
  obtain ⟨x0, w0⟩ := arg_tgs (hval 0 22 v0 rfl rfl) h0
  have lt0 : ∀ x ∈ p0, x.block < W.heap.size := by obtain ⟨m, hm⟩ := h0; exact DataW.trod_lt m _ _ _ hm
  obtain ⟨x1, w1⟩ := arg_rus (hval 1 29 v1 rfl rfl) h1
  have lt1 : ∀ x ∈ p1, x.block < W.heap.size := by obtain ⟨m, hm⟩ := h1; exact DataW.trod_lt m _ _ _ hm
  obtain ⟨x2, w2⟩ := arg_int (hval 2 3 v2 rfl rfl) h2
  have lt2 : ∀ x ∈ p2, x.block < W.heap.size := by obtain ⟨m, hm⟩ := h2; exact DataW.trod_lt m _ _ _ hm
  clear hA0 hval0
  refine (walkExpectedDue v0 x0 v1 x1 v2 x2 W w0 w1 w2).mono fun e W' ⟨he, bel⟩ => ?_
  subst he
  exact ⟨_, rfl, _, _, _, [], _, [], hW', trodAll_mk1 (shut_bool Try.underlying4 _), (trodAll_cons_mk (Below.trod Try.laidOut (by kernel_rfl) (of_decide_eq_true (by kernel_rfl)) h0 bel lt0) (trodAll_cons_mk (Below.trod Try.laidOut (by kernel_rfl) (of_decide_eq_true (by kernel_rfl)) h1 bel lt1) (trodAll_cons_mk (Below.trod Try.laidOut (by kernel_rfl) (of_decide_eq_true (by kernel_rfl)) h2 bel lt2) trodAll_mk0))), rfl, bel.frame _, fun h => by cases h⟩

/-- THE STATEMENT. -/
theorem fnExactExpectedDue_proved : Rows.FnExactExpectedDueSaid :=
  OpenClaim.holds_of_wide 10 Try.f10 rfl rfl rfl rfl rfl rfl rfl ⟨rfl, rfl, rfl, rfl, rfl⟩ rfl rfl rfl rfl rfl (by kernel_rfl) Try.func10 (by kernel_rfl)
    (of_decide_eq_true (by kernel_rfl)) (by unfold Func.isWrapper; first | (rw [if_pos (by decide +kernel)]; kernel_rfl) | (rw [if_neg (by decide +kernel)]; exact ⟨rfl, rfl⟩))
    (fun os started H enc _ => fnExactExpectedDue_lifted os started H enc)
end Go.Proofs.Ytedckfbjhhabgaa
