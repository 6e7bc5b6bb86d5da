/- The law FnExactStandFor: at every argument the call answers true. No condition. -/
import Derived.Test.YtdlbmoeogdjnkaaCkS3
import Derived.Test.YtdlbmoeogdjnkaaCkI3
import Derived.Test.YtdlbmoeogdjnkaaEqCk
import Derived.Test.YtdlbmoeogdjnkaaMarkCk
import Derived.Test.YtdlbmoeogdjnkaaFrame
import Derived.Test.YtdlbmoeogdjnkaaCellOnly
import Derived.Deep.RegionHeld3
namespace Go.Proofs.Ytdlbmoeogdjnkaa
set_option linter.unusedVariables false
open Go.ChangeShapes Go.WideShapes Go.ChangeAt Go.RowKit

set_option maxRecDepth 20000 in
set_option maxHeartbeats 8000000 in
theorem walkStandFor (v0 : Value) (l : List Ck) (v1 : Value) (x : Int) (v2 : Value) (r : Int) (W : World) (h0 : RowR 6 rCk W v0 l) (h1 : v1 = .int .i64 x ∧ inI x) (h2 : v2 = .int .i64 r ∧ inI r) :
    Calls Try.prog 12 #[v0, v1, v2] W fun e w' => e = .returned (.bool true) ∧ Below W.heap.size W w' := by
  have HA0 := Lib.hid (show ∀ W', Below W.heap.size W W' → RowR 6 rCk W' v0 l from fun W' hb => h0.below rCk_stable hb)
  clear h0
  obtain ⟨rfl, k1⟩ := h1
  obtain ⟨rfl, k2⟩ := h2
  obtain ⟨xs, b, hb⟩ : ∃ xs b, staRes l x r = (xs, b) := ⟨_, _, rfl⟩
  have HB := Lib.hid hb
  have hxl : xs.length ≤ l.length := staRes_len hb
  have HXL := Lib.hid hxl
  clear hb hxl
  have eb_b : (b != b) = false := by simp
  go_enter Try.func12, Try.ntmps12
  go_wp2_with fail
  have HBW : Hid (Below W.heap.size W W) := Lib.hid (Below.refl _ _)
  go_wp2_with fail
  refine (szCkS_any _ l 1048576 _ (HA0.out _ HBW.out) (by omega) (by omega)).mono ?_
  rintro e w1 ⟨n0, rfl, hf0, hp0, hq0, b1⟩
  have sz1 := b1.size
  replace HBW := Lib.hid (HBW.out.trans (b1.mono HBW.out.size))
  clear b1 
  have HF0 := Lib.hid hf0
  have HP0 := Lib.hid hp0
  clear hf0 hp0
  by_cases hs0 : n0 < 0
  · go_wp2_with fail
    go_ret
    exact ⟨rfl, HBW.out⟩
  · have hl0 : l.length ≤ 1048576 := by have := HF0.out; omega
    have hn00 : 0 ≤ n0 := by omega
    go_wp2_with fail
    refine (toCkS_any _ l _ (HA0.out _ HBW.out) (by omega)).mono ?_
    rintro e w2 ⟨s0, rfl, hos0, b2⟩
    have HOs0 := Lib.hid hos0
    clear hos0
    have sz2 := b2.size
    replace HBW := Lib.hid (HBW.out.trans (b2.mono HBW.out.size))
    clear b2 
    go_wp2_with fail
    refine (specStand_any _ l x r _ HOs0.out.row k2 xs b HB.out).mono ?_
    rintro e w3 ⟨vsp, rfl, hsp, b3⟩
    have Hsp := Lib.hid hsp
    clear hsp
    have sz3 := b3.size
    replace HOs0 := Lib.hid (HOs0.out.below b3)
    replace HBW := Lib.hid (HBW.out.trans (b3.mono HBW.out.size))
    clear b3 
    clear HOs0
    go_wp2_with fail
    refine (toCkS_any _ l _ (HA0.out _ HBW.out) (by omega)).mono ?_
    rintro e w4 ⟨x0, rfl, hox0, b4⟩
    have HOx0 := Lib.hid hox0
    clear hox0
    have sz4 := b4.size
    replace Hsp := Lib.hid (Hsp.out.below b4)
    replace HBW := Lib.hid (HBW.out.trans (b4.mono HBW.out.size))
    clear b4 
    go_wp2_with fail
    refine (implStand_any _ l x r _ HOx0.out.row k2 xs b HB.out).mono ?_
    rintro e w5 ⟨vg, rfl, hg, b5⟩
    have Hg := Lib.hid hg
    clear hg
    have sz5 := b5.size
    replace Hsp := Lib.hid (Hsp.out.below b5)
    replace HOx0 := Lib.hid (HOx0.out.below b5)
    replace HBW := Lib.hid (HBW.out.trans (b5.mono HBW.out.size))
    clear b5 
    go_wp2_with fail
    refine (eqCkS_any _ _ xs xs _ Hg.out.row Hsp.out.row).mono ?_
    rw [decide_eq_true rfl]
    rintro e w6 ⟨rfl, b6⟩
    have sz6 := b6.size
    replace Hsp := Lib.hid (Hsp.out.below b6)
    replace HOx0 := Lib.hid (HOx0.out.below b6)
    replace Hg := Lib.hid (Hg.out.below b6)
    replace HBW := Lib.hid (HBW.out.trans (b6.mono HBW.out.size))
    clear b6 
    go_wp2_with fail
    refine (toCkS_any _ l _ (HA0.out _ HBW.out) (by omega)).mono ?_
    rintro e w7 ⟨vq0, rfl, hq0_, b7⟩
    have HQ0 := Lib.hid hq0_
    clear hq0_
    have sz7 := b7.size
    replace Hsp := Lib.hid (Hsp.out.below b7)
    replace HOx0 := Lib.hid (HOx0.out.below b7)
    replace Hg := Lib.hid (Hg.out.below b7)
    replace HBW := Lib.hid (HBW.out.trans (b7.mono HBW.out.size))
    clear b7 
    go_wp2_with fail
    refine (eqCkS_any _ _ l l _ HOx0.out.row HQ0.out.row).mono ?_
    rw [decide_eq_true rfl]
    rintro e w8 ⟨rfl, b8⟩
    have sz8 := b8.size
    replace Hsp := Lib.hid (Hsp.out.below b8)
    replace HOx0 := Lib.hid (HOx0.out.below b8)
    replace Hg := Lib.hid (Hg.out.below b8)
    replace HQ0 := Lib.hid (HQ0.out.below b8)
    replace HBW := Lib.hid (HBW.out.trans (b8.mono HBW.out.size))
    clear b8 
    clear HQ0
    have szW := HBW.out.size
    go_wp2_with fail
    refine (markCkS_any _ l _ _ (1) _ (by omega) (by omega) HOx0.out).mono ?_
    rintro e w9 ⟨rfl, _, on9⟩
    have sz9 := on9.size
    replace Hsp := Lib.hid (Hsp.out.only2 on9 (by omega))
    replace Hg := Lib.hid (Hg.out.only on9 (by omega))
    replace HBW := Lib.hid (HBW.out.trans ((on9.below (by omega)).mono (by omega)))
    clear on9 
    have kn0 : (0 : Int) ≤ ((1 + l.length * 6 : Nat) : Int) := by omega
    go_wp2_with fail
    refine (eqCkS_any _ _ xs xs _ Hg.out.row Hsp.out.row).mono ?_
    rw [decide_eq_true rfl]
    rintro e w10 ⟨rfl, b10⟩
    have sz10 := b10.size
    replace Hsp := Lib.hid (Hsp.out.below b10)
    replace Hg := Lib.hid (Hg.out.below b10)
    replace HBW := Lib.hid (HBW.out.trans (b10.mono HBW.out.size))
    clear b10 
    have hxl := HXL.out
    go_wp2_with fail
    refine (markCkS_any _ xs _ _ 1 _ (Nat.le_refl _) (by omega) Hg.out).mono ?_
    rintro e w11 ⟨rfl, hg2, on11⟩
    have sz11 := on11.size
    replace Hsp := Lib.hid (Hsp.out.only2 on11 (by omega))
    have HG2 := Lib.hid hg2
    clear hg2 Hg
    replace HBW := Lib.hid (HBW.out.trans ((on11.below (by omega)).mono (by omega)))
    clear on11 
    have en : (((1 + xs.length * 6 : Nat) : Int) != ((1 + xs.length * 6 : Nat) : Int)) = false := by simp
    go_wp2_with fail
    refine (heldCkS_any _ 1 xs.length _ (Nat.le_refl _) (by omega) HG2.out.row).mono ?_
    rintro e w12 ⟨rfl, b12⟩
    have sz12 := b12.size
    replace Hsp := Lib.hid (Hsp.out.below b12)
    replace HG2 := Lib.hid (HG2.out.below b12)
    replace HBW := Lib.hid (HBW.out.trans (b12.mono HBW.out.size))
    clear b12 
    go_wp2_with fail
    refine (toCkS_any _ l _ (HA0.out _ HBW.out) (by omega)).mono ?_
    rintro e w13 ⟨y0, rfl, hoy0, b13⟩
    have HOy0 := Lib.hid hoy0
    clear hoy0
    have sz13 := b13.size
    replace Hsp := Lib.hid (Hsp.out.below b13)
    replace HG2 := Lib.hid (HG2.out.below b13)
    replace HBW := Lib.hid (HBW.out.trans (b13.mono HBW.out.size))
    clear b13 
    go_wp2_with fail
    refine (implStand_any _ l x r _ HOy0.out.row k2 xs b HB.out).mono ?_
    rintro e w14 ⟨vh, rfl, hh, b14⟩
    have Hh := Lib.hid hh
    clear hh
    have sz14 := b14.size
    replace Hsp := Lib.hid (Hsp.out.below b14)
    replace HG2 := Lib.hid (HG2.out.below b14)
    replace HOy0 := Lib.hid (HOy0.out.below b14)
    replace HBW := Lib.hid (HBW.out.trans (b14.mono HBW.out.size))
    clear b14 
    go_wp2_with fail
    refine (eqCkS_any _ _ xs xs _ Hh.out.row Hsp.out.row).mono ?_
    rw [decide_eq_true rfl]
    rintro e w15 ⟨rfl, b15⟩
    have sz15 := b15.size
    replace Hsp := Lib.hid (Hsp.out.below b15)
    replace HG2 := Lib.hid (HG2.out.below b15)
    replace HOy0 := Lib.hid (HOy0.out.below b15)
    replace Hh := Lib.hid (Hh.out.below b15)
    replace HBW := Lib.hid (HBW.out.trans (b15.mono HBW.out.size))
    clear b15 
    go_wp2_with fail
    refine (heldCkS_any _ 1 xs.length _ (Nat.le_refl _) (by omega) HG2.out.row).mono ?_
    rintro e w16 ⟨rfl, b16⟩
    have sz16 := b16.size
    replace Hsp := Lib.hid (Hsp.out.below b16)
    replace HG2 := Lib.hid (HG2.out.below b16)
    replace HOy0 := Lib.hid (HOy0.out.below b16)
    replace Hh := Lib.hid (Hh.out.below b16)
    replace HBW := Lib.hid (HBW.out.trans (b16.mono HBW.out.size))
    clear b16 
    go_wp2_with fail
    go_ret
    exact ⟨rfl, HBW.out⟩

set_option maxRecDepth 100000 in
theorem fnExactStandFor_lifted (os : Os) (started : os.Started) (H : Type) (enc : TypeId × Value → H) :
    ReturnsInHanded {} Try.checked os 12 .any (Rows.fnExactStandForSpec.pre6 enc Try.prog Try.f12 Rows.fnExactStandForRow.domain false) (Rows.fnExactStandForSpec.post enc Try.prog Try.f12 false true false false) := by
  refine returnsInHanded_of_change (C := Try.checked) Try.own started (by kernel_rfl) Try.func12
    (ChangeSpec.witness6 (enc := enc) (C := Try.checked) false ⟨#[], #[.slice none 0 0, .int .i64 0, .int .i64 0], []⟩ 8 (by kernel_rfl) (by kernel_rfl) (by kernel_rfl) (by kernel_rfl)) ?_
  intro W base args ds gs before hval0 hW hcnd _
  have hval : ∀ (j : Nat) t v, Try.f12.params[j]? = some t → args[j]? = some v → Value.okWide Try.prog W .any base t v := hval0
  have hW' := hW
  obtain ⟨p, q, hA0, hV, rfl, hfz, hnd⟩ := hW
  have hA : DataW.TrodAll enc Try.prog W 0 (fun _ => true) true Try.f12.params.toList args.toList ds p := hA0
  rw [Try.params12] at hA hval
  obtain ⟨v0, vs0, d0, ds0, p0, q0, hargs, rfl, rfl, h0, r0⟩ := trodAll_cons hA
  obtain ⟨v1, vs1, d1, ds1, p1, q1, rfl, rfl, rfl, h1, r1⟩ := trodAll_cons r0
  obtain ⟨v2, vs2, d2, ds2, p2, q2, rfl, rfl, rfl, h2, r2⟩ := trodAll_cons r1
  obtain ⟨rfl, rfl, rfl⟩ := trodAll_nil r2
  obtain rfl : args = #[v0, v1, v2] := by cases args; simp_all
  obtain ⟨rfl, rfl⟩ := trodVars_none hV
  obtain ⟨x0, w0⟩ := arg_cks (hval 0 29 v0 rfl rfl) h0
  have lt0 : ∀ x ∈ p0, x.block < W.heap.size := by obtain ⟨m, hm⟩ := h0; exact DataW.trod_lt m _ _ _ hm
  obtain ⟨x1, w1⟩ := arg_int (hval 1 3 v1 rfl rfl) h1
  have lt1 : ∀ x ∈ p1, x.block < W.heap.size := by obtain ⟨m, hm⟩ := h1; exact DataW.trod_lt m _ _ _ hm
  obtain ⟨x2, w2⟩ := arg_int (hval 2 3 v2 rfl rfl) h2
  have lt2 : ∀ x ∈ p2, x.block < W.heap.size := by obtain ⟨m, hm⟩ := h2; exact DataW.trod_lt m _ _ _ hm
  clear hA0 hval0
  refine (walkStandFor v0 x0 v1 x1 v2 x2 W w0 w1 w2).mono fun e W' ⟨he, bel⟩ => ?_
  subst he
  exact ⟨_, rfl, _, _, _, [], _, [], hW', trodAll_mk1 (shut_bool Try.underlying4 _), (trodAll_cons_mk (Below.trod Try.laidOut (by kernel_rfl) (of_decide_eq_true (by kernel_rfl)) h0 bel lt0) (trodAll_cons_mk (Below.trod Try.laidOut (by kernel_rfl) (of_decide_eq_true (by kernel_rfl)) h1 bel lt1) (trodAll_cons_mk (Below.trod Try.laidOut (by kernel_rfl) (of_decide_eq_true (by kernel_rfl)) h2 bel lt2) trodAll_mk0))), rfl, bel.frame _, fun h => by cases h⟩

/-- THE STATEMENT. -/
theorem fnExactStandFor_proved : Rows.FnExactStandForSaid :=
  OpenClaim.holds_of_wide 12 Try.f12 rfl rfl rfl rfl rfl rfl rfl ⟨rfl, rfl, rfl, rfl, rfl⟩ rfl rfl rfl rfl rfl (by kernel_rfl) Try.func12 (by kernel_rfl)
    (of_decide_eq_true (by kernel_rfl)) (by unfold Func.isWrapper; first | (rw [if_pos (by decide +kernel)]; kernel_rfl) | (rw [if_neg (by decide +kernel)]; exact ⟨rfl, rfl⟩))
    (fun os started H enc _ => fnExactStandFor_lifted os started H enc)
end Go.Proofs.Ytdlbmoeogdjnkaa
