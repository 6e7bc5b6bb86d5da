/- The law FnExactSeriesIn: at every argument the call answers true. No condition. -/
import Derived.Test.YtpcdjpkcalbpkaaSerIn
import Derived.Test.YtpcdjpkcalbpkaaEqRu
import Derived.Test.YtpcdjpkcalbpkaaMarkRu
namespace Go.Proofs.Ytpcdjpkcalbpkaa
set_option linter.unusedVariables false
open Go.ChangeShapes Go.WideShapes Go.ChangeAt Go.RowKit

set_option maxHeartbeats 4000000 in
theorem walkSeriesIn (v : Value) (x : List Ru) (W : World) (h : RowR 4 rRu W v x) :
    Calls Try.prog 8 #[v] W fun e w' => e = .returned (.bool true) ∧ Below W.heap.size W w' := by
  have H := Lib.hid h
  clear h
  obtain ⟨xs, b, hb⟩ : ∃ xs b, sinRes x = (xs, b) := ⟨_, _, rfl⟩
  have HB := Lib.hid hb
  have hxl : xs.length ≤ x.length + 1 := by
    have := sinRes_len hb; omega
  have HXL := Lib.hid hxl
  clear hb hxl
  have eb_b : (b != b) = false := by simp
  go_enter Try.func8, Try.ntmps8
  go_wp2_with fail
  refine (szRuS_any _ x 1048576 _ H.out (by omega) (by omega)).mono ?_
  rintro e w1 ⟨n, rfl, hfit, hn, hnl, b1⟩
  have HN := Lib.hid hn
  have HFIT := Lib.hid hfit
  clear hn hfit
  by_cases hneg : n < 0
  · go_wp2_with fail
    go_ret
    exact ⟨rfl, b1⟩
  · have hsz : x.length ≤ 1048576 := by have := HFIT.out; omega
    go_wp2_with fail
    refine (toRuS_some _ x _ (H.out.below rRu_stable b1) (by omega)).mono ?_
    rintro e w2 ⟨v2, rfl, ho2, b2, hsm2⟩
    replace b1 := below_chain b1 b2
    have hsm : ∃ ad c, v2 = .slice (some ad) x.length c := by obtain ⟨g, c, e⟩ := hsm2; exact ⟨_, _, e⟩
    clear hsm2
    go_wp2_with fail
    refine (specSeriesIn_any _ x _ ho2.row (by omega) xs b HB.out).mono ?_
    rintro e w3 ⟨vw, rfl, hw, b3⟩
    replace b1 := below_chain b1 b3
    have b3' := b1.size
    clear ho2 b2 b3 hsm
    go_wp2_with fail
    refine (toRuS_any _ x _ (H.out.below rRu_stable b1) (by omega)).mono ?_
    rintro e w4 ⟨v4, rfl, ho4, b4⟩
    replace b1 := below_chain b1 b4
    have s34 := b4.size
    replace hw := hw.below b4
    clear b4
    go_wp2_with fail
    refine (implSeriesIn_any _ x _ ho4.row (by omega) xs b HB.out).mono ?_
    rintro e w5 ⟨vg, rfl, hg, b5⟩
    replace b1 := below_chain b1 b5
    have hx4 := ho4.row.below rRu_stable b5
    have HX4 := Lib.hid hx4
    have HO4 := Lib.hid ho4
    replace hw := hw.below b5
    have HW := Lib.hid hw
    have HG := Lib.hid hg
    clear ho4 hx4 hw hg
    go_wp2_with fail
    refine (eqIntS_any _ _ xs xs _ HG.out.row HW.out.row).mono ?_
    rw [decide_eq_true rfl]
    rintro e w6 ⟨rfl, b6⟩
    go_wp2_with fail
    refine (toRuS_any _ x _ (H.out.below rRu_stable (below_chain b1 b6)) (by omega)).mono ?_
    rintro e w7 ⟨v7, rfl, ho7, b7⟩
    have b67 := below_chain b6 b7
    go_wp2_with fail
    refine (eqRuS_any _ _ x x _ (HX4.out.below rRu_stable b67) ho7.row).mono ?_
    rw [decide_eq_true rfl]
    rintro e w8 ⟨rfl, b8⟩
    have b58 := below_chain b67 b8
    have s48 : w4.heap.size ≤ w8.heap.size := Nat.le_trans b5.size b58.size
    clear ho7 b6 b7 b67 b8
    have hx8 := (HO4.out.below b5).below b58
    have HX8 := Lib.hid hx8
    have hw8 := HW.out.below b58
    have HW8 := Lib.hid hw8
    have hg8 := HG.out.below b58
    have HG8 := Lib.hid hg8
    replace b1 := below_chain b1 b58
    clear hx8 hw8 hg8 HW HG HO4 HX4 b5
    go_wp2_with fail
    refine (markRuS_any _ x _ _ 1 _ (Nat.le_refl _) (by omega) HX8.out).mono ?_
    rintro e w9 ⟨rfl, _, on9⟩
    have s93 : W.heap.size ≤ w3.heap.size := b3'
    have s410 : w4.heap.size ≤ w9.heap.size := Nat.le_trans s48 on9.size
    replace b1 := b1.trans ((on9.below (Nat.le_trans s34 s48)).mono s93)
    have hw9 := HW8.out.only2 on9 (Nat.le_refl _)
    have hg9 := HG8.out.only on9 (Nat.le_refl _)
    have HW9 := Lib.hid hw9
    have HG9 := Lib.hid hg9
    clear hw9 hg9 on9 HW8 HG8 HX8
    have kn0 : (0 : Int) ≤ ((1 + x.length * 4 : Nat) : Int) := by omega
    go_wp2_with fail
    refine (eqIntS_any _ _ xs xs _ HG9.out.row HW9.out.row).mono ?_
    rw [decide_eq_true rfl]
    rintro e w10 ⟨rfl, b10⟩
    replace b1 := below_chain b1 b10
    replace s410 := Nat.le_trans s410 b10.size
    have hw9 := HW9.out.below b10
    have hg9 := HG9.out.below b10
    have HW := Lib.hid hw9
    have HG := Lib.hid hg9
    clear hw9 hg9 HW9 HG9 b10
    have hxl := HXL.out
    go_wp2_with fail
    refine (markIntS_any _ xs _ _ 1 _ (Nat.le_refl _) (by omega) HG.out).mono ?_
    rintro e w11 ⟨rfl, hg11, on11⟩
    have hw11 := HW.out.only2 on11 s34
    have HG11 := Lib.hid hg11
    have HW11 := Lib.hid hw11
    replace b1 := b1.trans ((on11.below s410).mono (Nat.le_trans s93 s34))
    clear hg11 hw11 on11 HG HW
    have en : (((1 + xs.length : Nat) : Int) != ((1 + xs.length : Nat) : Int)) = false := by simp
    go_wp2_with fail
    refine (heldIntS_any _ 1 xs.length _ (Nat.le_refl _) (by omega) HG11.out.row).mono ?_
    rintro e w12 ⟨rfl, b12⟩
    replace b1 := below_chain b1 b12
    have hg12 := HG11.out.below b12
    have hw12 := HW11.out.below b12
    have HG12 := Lib.hid hg12
    have HW12 := Lib.hid hw12
    clear hg12 hw12 b12 HG11 HW11
    go_wp2_with fail
    refine (toRuS_any _ x _ (H.out.below rRu_stable b1) (by omega)).mono ?_
    rintro e w13 ⟨v13, rfl, ho13, b13⟩
    replace b1 := below_chain b1 b13
    have hg13 := HG12.out.below b13
    have hw13 := HW12.out.below b13
    have HG13 := Lib.hid hg13
    have HW13 := Lib.hid hw13
    clear hg13 hw13 b13 HG12 HW12
    go_wp2_with fail
    refine (implSeriesIn_any _ x _ ho13.row (by omega) xs b HB.out).mono ?_
    rintro e w14 ⟨vh, rfl, hh, b14⟩
    replace b1 := below_chain b1 b14
    have hg14 := HG13.out.below b14
    have hw14 := HW13.out.below b14
    have HG14 := Lib.hid hg14
    have HW14 := Lib.hid hw14
    have HH := Lib.hid hh
    clear hg14 hw14 b14 HG13 HW13 hh ho13
    go_wp2_with fail
    refine (eqIntS_any _ _ xs xs _ HH.out.row HW14.out.row).mono ?_
    rw [decide_eq_true rfl]
    rintro e w15 ⟨rfl, b15⟩
    replace b1 := below_chain b1 b15
    have hg15 := HG14.out.below b15
    have HG15 := Lib.hid hg15
    clear hg15 b15 HG14 HW14 HH
    go_wp2_with fail
    refine (heldIntS_any _ 1 xs.length _ (Nat.le_refl _) (by omega) HG15.out.row).mono ?_
    rintro e w16 ⟨rfl, b16⟩
    replace b1 := below_chain b1 b16
    go_wp2_with fail
    go_ret
    exact ⟨rfl, b1⟩

set_option maxRecDepth 100000 in
theorem fnExactSeriesIn_lifted (os : Os) (started : os.Started) (H : Type) (enc : TypeId × Value → H) :
    ReturnsInHanded {} Try.checked os 8 .any (Rows.fnExactSeriesInSpec.pre6 enc Try.prog Try.f8 Rows.fnExactSeriesInRow.domain false) (Rows.fnExactSeriesInSpec.post enc Try.prog Try.f8 false true false false) := by
  refine returnsInHanded_of_change (C := Try.checked) Try.own started (by kernel_rfl) Try.func8
    (ChangeSpec.witness6 (enc := enc) (C := Try.checked) false ⟨#[], #[.slice none 0 0], []⟩ 8 (by kernel_rfl) (by kernel_rfl) (by kernel_rfl) (by kernel_rfl)) ?_
  intro W base args ds gs before hval0 hW hcnd _
  have hval : ∀ (j : Nat) t v, Try.f8.params[j]? = some t → args[j]? = some v → Value.okWide Try.prog W .any base t v := hval0
  have hW' := hW
  obtain ⟨p, q, hA0, hV, rfl, hfz, hnd⟩ := hW
  have hA : DataW.TrodAll enc Try.prog W 0 (fun _ => true) true Try.f8.params.toList args.toList ds p := hA0
  rw [Try.params8] at hA hval
  obtain ⟨v0, vs0, d0, ds0, p0, q0, hargs, rfl, rfl, h0, r0⟩ := trodAll_cons hA
  obtain ⟨rfl, rfl, rfl⟩ := trodAll_nil r0
  obtain rfl : args = #[v0] := by cases args; simp_all
  obtain ⟨rfl, rfl⟩ := trodVars_none hV
  obtain ⟨x0, w0⟩ := arg_rus (hval 0 28 v0 rfl rfl) h0
  have lt0 : ∀ x ∈ p0, x.block < W.heap.size := by obtain ⟨m, hm⟩ := h0; exact DataW.trod_lt m _ _ _ hm
  clear hA0 hval0
  refine (walkSeriesIn v0 x0 W w0).mono fun e W' ⟨he, bel⟩ => ?_
  subst he
  exact ⟨_, rfl, _, _, _, [], _, [], hW', trodAll_mk1 (shut_bool Try.underlying4 _), (trodAll_cons_mk (Below.trod Try.laidOut (by kernel_rfl) (of_decide_eq_true (by kernel_rfl)) h0 bel lt0) trodAll_mk0), rfl, bel.frame _, fun h => by cases h⟩

/-- THE STATEMENT. -/
theorem fnExactSeriesIn_proved : Rows.FnExactSeriesInSaid :=
  OpenClaim.holds_of_wide 8 Try.f8 rfl rfl rfl rfl rfl rfl rfl ⟨rfl, rfl, rfl, rfl, rfl⟩ rfl rfl rfl rfl rfl (by kernel_rfl) Try.func8 (by kernel_rfl)
    (of_decide_eq_true (by kernel_rfl)) (by unfold Func.isWrapper; first | (rw [if_pos (by decide +kernel)]; kernel_rfl) | (rw [if_neg (by decide +kernel)]; exact ⟨rfl, rfl⟩))
    (fun os started H enc _ => fnExactSeriesIn_lifted os started H enc)
end Go.Proofs.Ytpcdjpkcalbpkaa
