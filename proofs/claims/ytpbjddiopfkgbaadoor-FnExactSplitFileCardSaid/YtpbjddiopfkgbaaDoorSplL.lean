/- The law FnExactSplitFile: at every argument the call answers true. No condition. -/
import Derived.Test.YtpbjddiopfkgbaaDoorSplFi
import Derived.Test.YtpbjddiopfkgbaaDoorEqFi
import Derived.Test.YtpbjddiopfkgbaaDoorMarkFi
import Derived.Test.YtpbjddiopfkgbaaDoorFrame
import Derived.Test.YtpbjddiopfkgbaaDoorCards
import Derived.Test.YtpbjddiopfkgbaaDoorTie
import Derived.Test.YtpbjddiopfkgbaaDoorStepTab
import Derived.Deep.DeepHandedRow
import Derived.ProofKit
namespace Go.Proofs.YtpbjddiopfkgbaaDoor
set_option linter.unusedVariables false
open Go.ChangeShapes Go.WideShapes Go.ChangeAt Go.RowKit

set_option maxHeartbeats 4000000 in
theorem walkSplitFile (v : Value) (x : List Fi) (v1 : Value) (id : Int) (v2 : Value) (pg : Int) (v3 : Value) (nm : ByteArray) (W : World) (h : RowR 7 rFi W v x) (h1 : v1 = .int .i64 id ∧ inI id) (h2 : v2 = .int .i64 pg ∧ inI pg) (h3 : v3 = .string nm ∧ nm.size ≤ maxLen) (hE : Steps W) :
    Calls Tryd.prog 9 #[v, v1, v2, v3] W fun e w' => e = .returned (.bool true) ∧ Below W.heap.size W w' := by
  obtain ⟨rfl, k1⟩ := h1
  obtain ⟨rfl, k2⟩ := h2
  obtain ⟨rfl, k3⟩ := h3
  have H := Lib.hid h
  clear h
  have HE := Lib.hid hE
  clear hE
  unfold maxLen at k3
  by_cases hz3 : 1048576 < nm.size
  · go_enter Tryd.func9, Tryd.ntmps9
    go_wp2_with fail
    go_ret
    exact ⟨rfl, Below.refl _ _⟩
  · have hzz3 : nm.size ≤ 1048576 := by omega
    obtain ⟨xs, nid, b, hb⟩ : ∃ xs nid b, splRes x id pg nm = (xs, nid, b) := ⟨_, _, _, rfl⟩
    have HB := Lib.hid hb
    have hxl : xs.length ≤ x.length + 1 := by
      have := splRes_len hb; omega
    have HXL := Lib.hid hxl
    clear hb hxl
    have eb_nid : (nid != nid) = false := by simp
    have eb_b : (b != b) = false := by simp
    go_enter Tryd.func9, Tryd.ntmps9
    go_wp2_with fail
    refine (szFiS_any _ x 1048576 _ H.out (by omega) (by omega)).mono ?_
    rintro e w1 ⟨n, rfl, hfit, hn, hnl, b1⟩
    have HN := Lib.hid hn
    have HFIT := Lib.hid hfit
    clear hn hfit
    by_cases hneg : n < 0
    · go_wp2_with fail
      go_ret
      exact ⟨rfl, b1⟩
    · have hsz : x.length ≤ 1048576 := by have := HFIT.out; omega
      go_wp2_with fail
      refine (toFiS_some _ x _ (H.out.below rFi_stable b1) (by omega)).mono ?_
      rintro e w2 ⟨v2, rfl, ho2, b2, hsm2⟩
      replace b1 := below_chain b1 b2
      have hsm : ∃ ad c, v2 = .slice (some ad) x.length c := by obtain ⟨g, c, e⟩ := hsm2; exact ⟨_, _, e⟩
      clear hsm2
      go_wp2_with fail
      refine (specSplitFile_any _ x id pg nm _ ho2.row (by unfold maxLen; omega) xs nid b HB.out).mono ?_
      rintro e w3 ⟨vw, rfl, hw, b3⟩
      replace b1 := below_chain b1 b3
      have b3' := b1.size
      clear ho2 b2 b3 hsm
      go_wp2_with fail
      refine (toFiS_any _ x _ (H.out.below rFi_stable b1) (by omega)).mono ?_
      rintro e w4 ⟨v4, rfl, ho4, b4⟩
      replace b1 := below_chain b1 b4
      have s34 := b4.size
      replace hw := hw.below b4
      clear b4
      go_wp2_with fail
      refine (implSplitFile_any _ x id pg nm _ ho4.row (by unfold maxLen; omega) (HE.out.later b1) xs nid b HB.out).mono ?_
      rintro e w5 ⟨vg, rfl, hg, b5⟩
      replace b1 := below_chain b1 b5
      have hx4 := ho4.row.below rFi_stable b5
      have HX4 := Lib.hid hx4
      have HO4 := Lib.hid ho4
      replace hw := hw.below b5
      have HW := Lib.hid hw
      have HG := Lib.hid hg
      clear ho4 hx4 hw hg
      go_wp2_with fail
      refine (eqFiS_any _ _ xs xs _ HG.out.row HW.out.row).mono ?_
      rw [decide_eq_true rfl]
      rintro e w6 ⟨rfl, b6⟩
      go_wp2_with fail
      refine (toFiS_any _ x _ (H.out.below rFi_stable (below_chain b1 b6)) (by omega)).mono ?_
      rintro e w7 ⟨v7, rfl, ho7, b7⟩
      have b67 := below_chain b6 b7
      go_wp2_with fail
      refine (eqFiS_any _ _ x x _ (HX4.out.below rFi_stable b67) ho7.row).mono ?_
      rw [decide_eq_true rfl]
      rintro e w8 ⟨rfl, b8⟩
      have b58 := below_chain b67 b8
      have s48 : w4.heap.size ≤ w8.heap.size := Nat.le_trans b5.size b58.size
      clear ho7 b6 b7 b67 b8
      have hx8 := (HO4.out.below b5).below b58
      have HX8 := Lib.hid hx8
      have hw8 := HW.out.below b58
      have HW8 := Lib.hid hw8
      have hg8 := HG.out.below b58
      have HG8 := Lib.hid hg8
      replace b1 := below_chain b1 b58
      clear hx8 hw8 hg8 HW HG HO4 HX4 b5
      go_wp2_with fail
      refine (markFiS_any _ x _ _ 1 _ (Nat.le_refl _) (by omega) HX8.out).mono ?_
      rintro e w9 ⟨rfl, _, on9⟩
      have s93 : W.heap.size ≤ w3.heap.size := b3'
      have s410 : w4.heap.size ≤ w9.heap.size := Nat.le_trans s48 on9.size
      replace b1 := b1.trans ((on9.below (Nat.le_trans s34 s48)).mono s93)
      have hw9 := HW8.out.only2 on9 (Nat.le_refl _)
      have hg9 := HG8.out.only on9 (Nat.le_refl _)
      have HW9 := Lib.hid hw9
      have HG9 := Lib.hid hg9
      clear hw9 hg9 on9 HW8 HG8 HX8
      have kn0 : (0 : Int) ≤ ((1 + x.length * 7 : Nat) : Int) := by omega
      go_wp2_with fail
      refine (eqFiS_any _ _ xs xs _ HG9.out.row HW9.out.row).mono ?_
      rw [decide_eq_true rfl]
      rintro e w10 ⟨rfl, b10⟩
      replace b1 := below_chain b1 b10
      replace s410 := Nat.le_trans s410 b10.size
      have hw9 := HW9.out.below b10
      have hg9 := HG9.out.below b10
      have HW := Lib.hid hw9
      have HG := Lib.hid hg9
      clear hw9 hg9 HW9 HG9 b10
      have hxl := HXL.out
      go_wp2_with fail
      refine (markFiS_any _ xs _ _ 1 _ (Nat.le_refl _) (by omega) HG.out).mono ?_
      rintro e w11 ⟨rfl, hg11, on11⟩
      have hw11 := HW.out.only2 on11 s34
      have HG11 := Lib.hid hg11
      have HW11 := Lib.hid hw11
      replace b1 := b1.trans ((on11.below s410).mono (Nat.le_trans s93 s34))
      clear hg11 hw11 on11 HG HW
      have en : (((1 + xs.length * 7 : Nat) : Int) != ((1 + xs.length * 7 : Nat) : Int)) = false := by simp
      go_wp2_with fail
      refine (heldFiS_any _ 1 xs.length _ (Nat.le_refl _) (by omega) HG11.out.row).mono ?_
      rintro e w12 ⟨rfl, b12⟩
      replace b1 := below_chain b1 b12
      have hg12 := HG11.out.below b12
      have hw12 := HW11.out.below b12
      have HG12 := Lib.hid hg12
      have HW12 := Lib.hid hw12
      clear hg12 hw12 b12 HG11 HW11
      go_wp2_with fail
      refine (toFiS_any _ x _ (H.out.below rFi_stable b1) (by omega)).mono ?_
      rintro e w13 ⟨v13, rfl, ho13, b13⟩
      replace b1 := below_chain b1 b13
      have hg13 := HG12.out.below b13
      have hw13 := HW12.out.below b13
      have HG13 := Lib.hid hg13
      have HW13 := Lib.hid hw13
      clear hg13 hw13 b13 HG12 HW12
      go_wp2_with fail
      refine (implSplitFile_any _ x id pg nm _ ho13.row (by unfold maxLen; omega) (HE.out.later b1) xs nid b HB.out).mono ?_
      rintro e w14 ⟨vh, rfl, hh, b14⟩
      replace b1 := below_chain b1 b14
      have hg14 := HG13.out.below b14
      have hw14 := HW13.out.below b14
      have HG14 := Lib.hid hg14
      have HW14 := Lib.hid hw14
      have HH := Lib.hid hh
      clear hg14 hw14 b14 HG13 HW13 hh ho13
      go_wp2_with fail
      refine (eqFiS_any _ _ xs xs _ HH.out.row HW14.out.row).mono ?_
      rw [decide_eq_true rfl]
      rintro e w15 ⟨rfl, b15⟩
      replace b1 := below_chain b1 b15
      have hg15 := HG14.out.below b15
      have HG15 := Lib.hid hg15
      clear hg15 b15 HG14 HW14 HH
      go_wp2_with fail
      refine (heldFiS_any _ 1 xs.length _ (Nat.le_refl _) (by omega) HG15.out.row).mono ?_
      rintro e w16 ⟨rfl, b16⟩
      replace b1 := below_chain b1 b16
      go_wp2_with fail
      go_ret
      exact ⟨rfl, b1⟩
/-- A world for the witness: the settled one, the table holding what its initialiser lays. -/
noncomputable def fnExactSplitFile_world (os : Os) : World :=
  { World.holding Tryd.prog os ⟨#[], #[], []⟩ with heap := ((World.holding Tryd.prog os ⟨#[], #[], []⟩).heap.modify 0 fun
      | .cells _ t frozen => .cells #[.int .i64 0, .int .i64 0, .int .i64 0, .int .i64 1, .int .i64 1, .int .i64 0, .int .i64 1, .int .i64 2, .int .i64 2, .int .i64 1] t frozen
      | o => o) }
theorem fnExactSplitFile_met (os : Os) : laidMet Tryd.prog Rows.fnExactSplitFileRow.laid ((fnExactSplitFile_world os).forCall (fun _ _ => 0) ⟨#[], #[.slice none 0 0, .int .i64 0, .int .i64 0, .string ByteArray.empty], []⟩).memory :=
  laidMet_of_run' 8 (by kernel_rfl) (by kernel_rfl)
theorem fnExactSplitFile_reads (os : Os) {H : Type} (enc : TypeId × Value → H) : ∃ places, DataW.whole enc Tryd.prog ((fnExactSplitFile_world os).forCall (fun _ _ => 0) ⟨#[], #[.slice none 0 0, .int .i64 0, .int .i64 0, .string ByteArray.empty], []⟩).memory Tryd.f9.params.toList Rows.fnExactSplitFileSpec.vars false (#[.slice none 0 0, .int .i64 0, .int .i64 0, .string ByteArray.empty] : Array Value).toList 8 = some ([.nil, .lit (.int .i64 0), .lit (.int .i64 0), .lit (.string [])], [.agg [.agg [.lit (.int .i64 0), .lit (.int .i64 0)], .agg [.lit (.int .i64 0), .lit (.int .i64 1)], .agg [.lit (.int .i64 1), .lit (.int .i64 0)], .agg [.lit (.int .i64 1), .lit (.int .i64 2)], .agg [.lit (.int .i64 2), .lit (.int .i64 1)]]], places) :=
  ⟨[.cell 0 0, .cell 0 1, .cell 0 2, .cell 0 3, .cell 0 4, .cell 0 5, .cell 0 6, .cell 0 7, .cell 0 8, .cell 0 9], by kernel_rfl⟩

set_option maxRecDepth 100000 in
theorem fnExactSplitFile_contract (H : Type) (enc : TypeId × Value → H) (W : World) (base : Nat) (args : Array Value) (ds gs : List (DataW H)) (before : List MemPlace)
    (hval0 : ∀ (j : Nat) t v, Tryd.f9.params[j]? = some t → args[j]? = some v → Value.okWide Tryd.prog W .any base t v)
    (hW : DataW.Whole enc Tryd.prog Tryd.f9.params.toList Rows.fnExactSplitFileSpec.vars false W args.toList ds gs before) (hL : laidMetH Tryd.prog Rows.fnExactSplitFileRow.laid W) :
    Calls Tryd.prog 9 args W fun e W' => ∃ v, e = .returned v ∧ Rows.fnExactSplitFileSpec.post enc Tryd.prog Tryd.f9 false true false false W args v W' := by
  have hval := hval0
  have hW' := hW
  obtain ⟨p, q, hA0, hV, rfl, hfz, hnd⟩ := hW
  have hA : DataW.TrodAll enc Tryd.prog W 0 (fun _ => true) true Tryd.f9.params.toList args.toList ds p := hA0
  rw [Tryd.params9] at hA hval
  obtain ⟨v0, vs0, d0, ds0, p0, q0, hargs, rfl, rfl, h0, r0⟩ := trodAll_cons hA
  obtain ⟨v1, vs1, d1, ds1, p1, q1, rfl, rfl, rfl, h1, r1⟩ := trodAll_cons r0
  obtain ⟨v2, vs2, d2, ds2, p2, q2, rfl, rfl, rfl, h2, r2⟩ := trodAll_cons r1
  obtain ⟨v3, vs3, d3, ds3, p3, q3, rfl, rfl, rfl, h3, r3⟩ := trodAll_cons r2
  obtain ⟨rfl, rfl, rfl⟩ := trodAll_nil r3
  obtain rfl : args = #[v0, v1, v2, v3] := by cases args; simp_all
  have hV2 : DataW.TrodVars enc Tryd.prog W (fun _ => true) ["loop.example/g01035/impl.fileSteps"] gs q := hV
  obtain ⟨gd, rfl⟩ : ∃ gd, gs = [gd] := by
    match gs, hV2 with
    | [], hh => exact hh.elim
    | [a], _ => exact ⟨a, rfl⟩
    | _ :: _ :: _, ⟨_, _, _, _, _, _, _, _, _, _, hh, _⟩ => exact hh.elim
  have hE : Steps W := steps_met (show laidMet Tryd.prog _ W from hL)
  obtain ⟨x0, w0⟩ := arg_fis (hval 0 56 v0 rfl rfl) h0
  have lt0 : ∀ x ∈ p0, x.block < W.heap.size := by obtain ⟨m, hm⟩ := h0; exact DataW.trod_lt m _ _ _ hm
  obtain ⟨x1, w1⟩ := arg_int (hval 1 3 v1 rfl rfl) h1
  have lt1 : ∀ x ∈ p1, x.block < W.heap.size := by obtain ⟨m, hm⟩ := h1; exact DataW.trod_lt m _ _ _ hm
  obtain ⟨x2, w2⟩ := arg_int (hval 2 3 v2 rfl rfl) h2
  have lt2 : ∀ x ∈ p2, x.block < W.heap.size := by obtain ⟨m, hm⟩ := h2; exact DataW.trod_lt m _ _ _ hm
  obtain ⟨x3, w3⟩ := arg_str (hval 3 9 v3 rfl rfl) h3
  have lt3 : ∀ x ∈ p3, x.block < W.heap.size := by obtain ⟨m, hm⟩ := h3; exact DataW.trod_lt m _ _ _ hm
  clear hA0 hval0
  refine (walkSplitFile v0 x0 v1 x1 v2 x2 v3 x3 W w0 w1 w2 w3 hE).mono fun e W' ⟨he, bel⟩ => ?_
  subst he
  exact ⟨_, rfl, _, _, _, [], _, _, hW', trodAll_mk1 (shut_bool Tryd.underlying4 _), (trodAll_cons_mk (Below.trod Tryd.laidOut (by kernel_rfl) (of_decide_eq_true (by kernel_rfl)) h0 bel lt0) (trodAll_cons_mk (Below.trod Tryd.laidOut (by kernel_rfl) (of_decide_eq_true (by kernel_rfl)) h1 bel lt1) (trodAll_cons_mk (Below.trod Tryd.laidOut (by kernel_rfl) (of_decide_eq_true (by kernel_rfl)) h2 bel lt2) (trodAll_cons_mk (Below.trod Tryd.laidOut (by kernel_rfl) (of_decide_eq_true (by kernel_rfl)) h3 bel lt3) trodAll_mk0)))), (Below.trodVars Tryd.laidOut bel (by kernel_rfl) hV2), bel.frame _, fun h => by cases h⟩

set_option maxRecDepth 100000 in
theorem fnExactSplitFile_lifted (os : Os) (started : os.Started) (H : Type) (enc : TypeId × Value → H) (F : Stop.Interp) :
    ReturnsInHanded {} Tryd.checked os 9 .any ((OpenSpec.ofChange Rows.fnExactSplitFileSpec).preRow enc Tryd.prog Tryd.f9 Rows.fnExactSplitFileRow.domain false Rows.fnExactSplitFileRow.laid) (((OpenSpec.ofChange Rows.fnExactSplitFileSpec).at F).post enc Tryd.prog Tryd.f9 false true false false) := by
  obtain ⟨places, hx⟩ := fnExactSplitFile_reads os enc
  refine returnsInHanded_of_row (C := Tryd.checked) (s := OpenSpec.ofChange Rows.fnExactSplitFileSpec) Tryd.own started (by kernel_rfl) Tryd.func9
    (witness_row_at (enc := enc) (C := Tryd.checked) false (fnExactSplitFile_world os) #[.slice none 0 0, .int .i64 0, .int .i64 0, .string ByteArray.empty] rfl (by kernel_rfl) (by kernel_rfl) (by kernel_rfl)
      (OpenSpec.preRow_of_cond 8 hx (by kernel_rfl) (fun k hk => by cases hk) (by kernel_rfl) (fnExactSplitFile_met os))) ?_
  intro W base args ds gs before hval hW _ _ _ hL _ _
  exact fnExactSplitFile_contract H enc W base args ds gs before hval hW hL

theorem fnExactSplitFile_said : Rows.FnExactSplitFileSaid :=
  OpenClaim.holds_of_cond 9 Tryd.f9 rfl rfl rfl rfl rfl rfl rfl ⟨rfl, rfl, rfl, rfl, rfl⟩ rfl rfl rfl rfl rfl (by kernel_rfl) Tryd.func9 (by kernel_rfl)
    (of_decide_eq_true (by kernel_rfl)) (by unfold Func.isWrapper; first | (rw [if_pos (by decide +kernel)]; kernel_rfl) | (rw [if_neg (by decide +kernel)]; exact ⟨rfl, rfl⟩))
    (fun os started H enc _ F => by rw [OpenClaim.pre_eq_preRow]; exact fnExactSplitFile_lifted os started H enc F)

theorem fnExactSplitFile_plain (f : FuncId) (fn : Func) (hf : Tryd.pinned.checked.prog.funcNamed "loop.example/g01035/laws.FnExactSplitFile" = some f) (hfn : Tryd.pinned.checked.prog.funcs[f]? = some fn) :
    false = Tryd.pinned.checked.prog.looks [] ∧ ∀ (j : Nat) t, fn.params[j]? = some t → Tryd.pinned.checked.prog.wantsStandIn t = false := by
  obtain rfl : f = 9 := Option.some.inj ((show Tryd.prog.funcNamed "loop.example/g01035/laws.FnExactSplitFile" = some 9 by kernel_rfl).symm.trans hf) |>.symm
  obtain rfl : fn = Tryd.f9 := (Option.some.inj (Tryd.func9.symm.trans hfn)).symm
  refine ⟨by kernel_rfl, fun j t ht => ?_⟩
  rw [Tryd.params9] at ht
  have hm := Array.mem_of_getElem? ht
  simp only [List.mem_toArray, List.mem_cons, List.mem_nil_iff, or_false] at hm
  rcases hm with rfl | rfl | rfl | rfl
  · exact (show Tryd.prog.wantsStandIn 56 = false by kernel_rfl)
  · exact (show Tryd.prog.wantsStandIn 3 = false by kernel_rfl)
  · exact (show Tryd.prog.wantsStandIn 3 = false by kernel_rfl)
  · exact (show Tryd.prog.wantsStandIn 9 = false by kernel_rfl)

/-- THE CARD. -/
theorem fnExactSplitFile_proved : Rows.FnExactSplitFileCardSaid :=
  Claim7.holds_tied_plain_at .later [] _ _ _ _ fnExactSplitFile_said (fun _ h => by cases h) (by kernel_rfl) (fun _ h => by cases h) fnExactSplitFile_row_tie rfl ⟨rfl, rfl⟩ (by kernel_rfl) rfl fnExactSplitFile_plain (by kernel_rfl)

end Go.Proofs.YtpbjddiopfkgbaaDoor
