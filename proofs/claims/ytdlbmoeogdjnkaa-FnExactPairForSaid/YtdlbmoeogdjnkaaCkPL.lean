/- The law FnExactPairFor: at every argument the call answers true. No condition. -/
import Derived.Test.YtdlbmoeogdjnkaaCkS2
import Derived.Test.YtdlbmoeogdjnkaaCkI2
import Derived.Test.YtdlbmoeogdjnkaaEqCk
import Derived.Test.YtdlbmoeogdjnkaaFrame
import Derived.Test.YtdlbmoeogdjnkaaCellOnly
import Derived.Deep.RegionHeld3
namespace Go.Proofs.Ytdlbmoeogdjnkaa
set_option linter.unusedVariables false
open Go.ChangeShapes Go.WideShapes Go.ChangeAt Go.RowKit

set_option maxRecDepth 20000 in
set_option maxHeartbeats 8000000 in
theorem walkPairFor (v0 : Value) (l : List Ck) (v1 : Value) (d : Int) (W : World) (h0 : RowR 6 rCk W v0 l) (h1 : v1 = .int .i64 d ∧ inI d) :
    Calls Try.prog 8 #[v0, v1] W fun e w' => e = .returned (.bool true) ∧ Below W.heap.size W w' := by
  have HA0 := Lib.hid (show ∀ W', Below W.heap.size W W' → RowR 6 rCk W' v0 l from fun W' hb => h0.below rCk_stable hb)
  clear h0
  obtain ⟨rfl, k1⟩ := h1
  obtain ⟨c1, c2, b, hb⟩ : ∃ c1 c2 b, pairRes l d = (c1, c2, b) := ⟨_, _, _, rfl⟩
  have HB := Lib.hid hb
  clear hb
  have eb_c1 : (c1 != c1) = false := by simp
  have eb_c2 : (c2 != c2) = false := by simp
  have eb_b : (b != b) = false := by simp
  go_enter Try.func8, Try.ntmps8
  go_wp2_with fail
  have HBW : Hid (Below W.heap.size W W) := Lib.hid (Below.refl _ _)
  go_wp2_with fail
  refine (szCkS_any _ l 1048576 _ (HA0.out _ HBW.out) (by omega) (by omega)).mono ?_
  rintro e w1 ⟨n0, rfl, hf0, hp0, hq0, b1⟩
  have sz1 := b1.size
  replace HBW := Lib.hid (HBW.out.trans (b1.mono HBW.out.size))
  clear b1 
  have HF0 := Lib.hid hf0
  have HP0 := Lib.hid hp0
  clear hf0 hp0
  by_cases hs0 : n0 < 0
  · go_wp2_with fail
    go_ret
    exact ⟨rfl, HBW.out⟩
  · have hl0 : l.length ≤ 1048576 := by have := HF0.out; omega
    have hn00 : 0 ≤ n0 := by omega
    go_wp2_with fail
    refine (toCkS_any _ l _ (HA0.out _ HBW.out) (by omega)).mono ?_
    rintro e w2 ⟨s0, rfl, hos0, b2⟩
    have HOs0 := Lib.hid hos0
    clear hos0
    have sz2 := b2.size
    replace HBW := Lib.hid (HBW.out.trans (b2.mono HBW.out.size))
    clear b2 
    go_wp2_with fail
    refine (specPairFor_any _ l d _ HOs0.out.row c1 c2 b HB.out).mono ?_
    rintro e w3 ⟨rfl, b3⟩
    have sz3 := b3.size
    replace HOs0 := Lib.hid (HOs0.out.below b3)
    replace HBW := Lib.hid (HBW.out.trans (b3.mono HBW.out.size))
    clear b3 
    clear HOs0
    go_wp2_with fail
    refine (toCkS_any _ l _ (HA0.out _ HBW.out) (by omega)).mono ?_
    rintro e w4 ⟨x0, rfl, hox0, b4⟩
    have HOx0 := Lib.hid hox0
    clear hox0
    have sz4 := b4.size
    replace HBW := Lib.hid (HBW.out.trans (b4.mono HBW.out.size))
    clear b4 
    go_wp2_with fail
    refine (implPairFor_any _ l d _ HOx0.out.row c1 c2 b HB.out).mono ?_
    rintro e w5 ⟨rfl, b5⟩
    have sz5 := b5.size
    replace HOx0 := Lib.hid (HOx0.out.below b5)
    replace HBW := Lib.hid (HBW.out.trans (b5.mono HBW.out.size))
    clear b5 
    go_wp2_with fail
    refine (toCkS_any _ l _ (HA0.out _ HBW.out) (by omega)).mono ?_
    rintro e w6 ⟨vq0, rfl, hq0_, b6⟩
    have HQ0 := Lib.hid hq0_
    clear hq0_
    have sz6 := b6.size
    replace HOx0 := Lib.hid (HOx0.out.below b6)
    replace HBW := Lib.hid (HBW.out.trans (b6.mono HBW.out.size))
    clear b6 
    go_wp2_with fail
    refine (eqCkS_any _ _ l l _ HOx0.out.row HQ0.out.row).mono ?_
    rw [decide_eq_true rfl]
    rintro e w7 ⟨rfl, b7⟩
    have sz7 := b7.size
    replace HOx0 := Lib.hid (HOx0.out.below b7)
    replace HQ0 := Lib.hid (HQ0.out.below b7)
    replace HBW := Lib.hid (HBW.out.trans (b7.mono HBW.out.size))
    clear b7 
    clear HQ0
    go_wp2_with fail
    go_ret
    exact ⟨rfl, HBW.out⟩

set_option maxRecDepth 100000 in
theorem fnExactPairFor_lifted (os : Os) (started : os.Started) (H : Type) (enc : TypeId × Value → H) :
    ReturnsInHanded {} Try.checked os 8 .any (Rows.fnExactPairForSpec.pre6 enc Try.prog Try.f8 Rows.fnExactPairForRow.domain false) (Rows.fnExactPairForSpec.post enc Try.prog Try.f8 false true false false) := by
  refine returnsInHanded_of_change (C := Try.checked) Try.own started (by kernel_rfl) Try.func8
    (ChangeSpec.witness6 (enc := enc) (C := Try.checked) false ⟨#[], #[.slice none 0 0, .int .i64 0], []⟩ 8 (by kernel_rfl) (by kernel_rfl) (by kernel_rfl) (by kernel_rfl)) ?_
  intro W base args ds gs before hval0 hW hcnd _
  have hval : ∀ (j : Nat) t v, Try.f8.params[j]? = some t → args[j]? = some v → Value.okWide Try.prog W .any base t v := hval0
  have hW' := hW
  obtain ⟨p, q, hA0, hV, rfl, hfz, hnd⟩ := hW
  have hA : DataW.TrodAll enc Try.prog W 0 (fun _ => true) true Try.f8.params.toList args.toList ds p := hA0
  rw [Try.params8] at hA hval
  obtain ⟨v0, vs0, d0, ds0, p0, q0, hargs, rfl, rfl, h0, r0⟩ := trodAll_cons hA
  obtain ⟨v1, vs1, d1, ds1, p1, q1, rfl, rfl, rfl, h1, r1⟩ := trodAll_cons r0
  obtain ⟨rfl, rfl, rfl⟩ := trodAll_nil r1
  obtain rfl : args = #[v0, v1] := by cases args; simp_all
  obtain ⟨rfl, rfl⟩ := trodVars_none hV
  obtain ⟨x0, w0⟩ := arg_cks (hval 0 29 v0 rfl rfl) h0
  have lt0 : ∀ x ∈ p0, x.block < W.heap.size := by obtain ⟨m, hm⟩ := h0; exact DataW.trod_lt m _ _ _ hm
  obtain ⟨x1, w1⟩ := arg_int (hval 1 3 v1 rfl rfl) h1
  have lt1 : ∀ x ∈ p1, x.block < W.heap.size := by obtain ⟨m, hm⟩ := h1; exact DataW.trod_lt m _ _ _ hm
  clear hA0 hval0
  refine (walkPairFor v0 x0 v1 x1 W w0 w1).mono fun e W' ⟨he, bel⟩ => ?_
  subst he
  exact ⟨_, rfl, _, _, _, [], _, [], hW', trodAll_mk1 (shut_bool Try.underlying4 _), (trodAll_cons_mk (Below.trod Try.laidOut (by kernel_rfl) (of_decide_eq_true (by kernel_rfl)) h0 bel lt0) (trodAll_cons_mk (Below.trod Try.laidOut (by kernel_rfl) (of_decide_eq_true (by kernel_rfl)) h1 bel lt1) trodAll_mk0)), rfl, bel.frame _, fun h => by cases h⟩

/-- THE STATEMENT. -/
theorem fnExactPairFor_proved : Rows.FnExactPairForSaid :=
  OpenClaim.holds_of_wide 8 Try.f8 rfl rfl rfl rfl rfl rfl rfl ⟨rfl, rfl, rfl, rfl, rfl⟩ rfl rfl rfl rfl rfl (by kernel_rfl) Try.func8 (by kernel_rfl)
    (of_decide_eq_true (by kernel_rfl)) (by unfold Func.isWrapper; first | (rw [if_pos (by decide +kernel)]; kernel_rfl) | (rw [if_neg (by decide +kernel)]; exact ⟨rfl, rfl⟩))
    (fun os started H enc _ => fnExactPairFor_lifted os started H enc)
end Go.Proofs.Ytdlbmoeogdjnkaa
