/- The law FnExactScheduleText: at every argument the call answers true. No condition. -/
import Derived.Test.YtpcdjpkcalbpkaaDoorSchTI
import Derived.Test.YtpcdjpkcalbpkaaDoorEqRu
import Derived.Test.YtpcdjpkcalbpkaaDoorFrame
import Derived.Test.YtpcdjpkcalbpkaaDoorCards
import Derived.Test.YtpcdjpkcalbpkaaDoorTie
import Derived.Deep.DeepHandedRow
import Derived.Stop.LaidTwo
import Derived.ProofKit
import Derived.Deep.RegionHeld3
namespace Go.Proofs.YtpcdjpkcalbpkaaDoor
set_option linter.unusedVariables false
open Go.ChangeShapes Go.WideShapes Go.ChangeAt Go.RowKit

set_option maxHeartbeats 4000000 in
theorem walkScheduleText (v : Value) (x : List Ru) (W : World) (h : RowR 4 rRu W v x) (hE : Tab W) :
    Calls Tryd.prog 5 #[v] W fun e w' => e = .returned (.bool true) ∧ Below W.heap.size W w' := by
  have H := Lib.hid h
  clear h
  have HE := Lib.hid hE
  clear hE
  obtain ⟨tx, b, hb⟩ : ∃ tx b, schRes x = (tx, b) := ⟨_, _, rfl⟩
  have HB := Lib.hid hb
  clear hb
  have eb_b : (b != b) = false := by simp
  go_enter Tryd.func5, Tryd.ntmps5
  go_wp2_with fail
  refine (szRuS_any _ x 1048576 _ H.out (by omega) (by omega)).mono ?_
  rintro e w1 ⟨n, rfl, hfit, hn, hnl, b1⟩
  have HN := Lib.hid hn
  have HFIT := Lib.hid hfit
  clear hn hfit
  by_cases hneg : n < 0
  · go_wp2_with fail
    go_ret
    exact ⟨rfl, b1⟩
  · have hsz : x.length ≤ 1048576 := by have := HFIT.out; omega
    go_wp2_with fail
    refine (toRuS_some _ x _ (H.out.below rRu_stable b1) (by omega)).mono ?_
    rintro e w2 ⟨v2, rfl, ho2, b2, hsm2⟩
    replace b1 := below_chain b1 b2
    have hsm : ∃ ad c, v2 = .slice (some ad) x.length c := by obtain ⟨g, c, e⟩ := hsm2; exact ⟨_, _, e⟩
    clear hsm2
    go_wp2_with fail
    refine (specScheduleText_any _ x _ ho2.row tx b HB.out).mono ?_
    rintro e w3 ⟨rfl, b3⟩
    replace b1 := below_chain b1 b3
    have b3' := b1.size
    clear ho2 b2 b3 hsm
    go_wp2_with fail
    refine (toRuS_any _ x _ (H.out.below rRu_stable b1) (by omega)).mono ?_
    rintro e w4 ⟨v4, rfl, ho4, b4⟩
    replace b1 := below_chain b1 b4
    have s34 := b4.size
    clear b4
    go_wp2_with fail
    refine (implScheduleText_any _ x _ ho4.row tx b HB.out (HE.out.later b1)).mono ?_
    rintro e w5 ⟨rfl, b5⟩
    replace b1 := below_chain b1 b5
    have hx4 := ho4.row.below rRu_stable b5
    have HX4 := Lib.hid hx4
    have HO4 := Lib.hid ho4
    clear ho4 hx4
    go_wp2_with fail
    refine (toRuS_any _ x _ (H.out.below rRu_stable b1) (by omega)).mono ?_
    rintro e w7 ⟨v7, rfl, ho7, b67⟩
    go_wp2_with fail
    refine (eqRuS_any _ _ x x _ (HX4.out.below rRu_stable b67) ho7.row).mono ?_
    rw [decide_eq_true rfl]
    rintro e w8 ⟨rfl, b8⟩
    go_wp2_with fail
    go_ret
    exact ⟨rfl, below_chain b1 (below_chain b67 b8)⟩
/-- What the row's list gives: the powers of ten lie in their table. -/
theorem fnExactScheduleText_table {W : World} (h : laidMetH Tryd.prog Rows.fnExactScheduleTextRow.laid W) : Tab W := by
  obtain ⟨ps, ⟨_, _, _, _, _, _, _, _, _, _, ⟨_, _, _, _, _, _, _, _, _, _, ⟨g', t', cs, fuel, p, q, hg', ht', hvar, hd, _, _⟩, _⟩, _⟩, _⟩ := (show laidMet Tryd.prog Rows.fnExactScheduleTextRow.laid W from h)
  obtain rfl := Option.some.inj (gTab.symm.trans hg')
  obtain rfl := Option.some.inj ((show (Tryd.prog.globals[3]?).map (·.type) = some 125 by kernel_rfl).symm.trans ht')
  show Lib.TabIs _ _ _ _ _
  unfold Lib.TabIs
  rw [hvar, ← Lib.cells_of_tab Tryd.underlying125 Tryd.underlying116 (by kernel_rfl) (by kernel_rfl) hd]
/-- A world for the witness: the settled one, each listed table holding what its initialiser lays. -/
noncomputable def fnExactScheduleText_world (os : Os) : World :=
  { World.holding Tryd.prog os ⟨#[], #[], []⟩ with heap := ((((World.holding Tryd.prog os ⟨#[], #[], []⟩).heap.modify 4 fun
      | .cells _ t frozen => .cells #[.int .u8 0, .int .u8 1, .int .u8 28, .int .u8 2, .int .u8 29, .int .u8 14, .int .u8 24, .int .u8 3, .int .u8 30, .int .u8 22, .int .u8 20, .int .u8 15, .int .u8 25, .int .u8 17, .int .u8 4, .int .u8 8, .int .u8 31, .int .u8 27, .int .u8 13, .int .u8 23, .int .u8 21, .int .u8 19, .int .u8 16, .int .u8 7, .int .u8 26, .int .u8 12, .int .u8 18, .int .u8 6, .int .u8 11, .int .u8 5, .int .u8 10, .int .u8 9] t frozen
      | o => o).modify 5 fun
      | .cells _ t frozen => .cells #[.int .u8 0, .int .u8 1, .int .u8 56, .int .u8 2, .int .u8 57, .int .u8 49, .int .u8 28, .int .u8 3, .int .u8 61, .int .u8 58, .int .u8 42, .int .u8 50, .int .u8 38, .int .u8 29, .int .u8 17, .int .u8 4, .int .u8 62, .int .u8 47, .int .u8 59, .int .u8 36, .int .u8 45, .int .u8 43, .int .u8 51, .int .u8 22, .int .u8 53, .int .u8 39, .int .u8 33, .int .u8 30, .int .u8 24, .int .u8 18, .int .u8 12, .int .u8 5, .int .u8 63, .int .u8 55, .int .u8 48, .int .u8 27, .int .u8 60, .int .u8 41, .int .u8 37, .int .u8 16, .int .u8 46, .int .u8 35, .int .u8 44, .int .u8 21, .int .u8 52, .int .u8 32, .int .u8 23, .int .u8 11, .int .u8 54, .int .u8 26, .int .u8 40, .int .u8 15, .int .u8 34, .int .u8 20, .int .u8 31, .int .u8 10, .int .u8 25, .int .u8 14, .int .u8 19, .int .u8 9, .int .u8 13, .int .u8 8, .int .u8 7, .int .u8 6] t frozen
      | o => o).modify 3 fun
      | .cells _ t frozen => .cells #[.int .u64 1, .int .u64 10, .int .u64 100, .int .u64 1000, .int .u64 10000, .int .u64 100000, .int .u64 1000000, .int .u64 10000000, .int .u64 100000000, .int .u64 1000000000, .int .u64 10000000000, .int .u64 100000000000, .int .u64 1000000000000, .int .u64 10000000000000, .int .u64 100000000000000, .int .u64 1000000000000000, .int .u64 10000000000000000, .int .u64 100000000000000000, .int .u64 1000000000000000000, .int .u64 10000000000000000000] t frozen
      | o => o) }
theorem fnExactScheduleText_met (os : Os) : laidMet Tryd.prog Rows.fnExactScheduleTextRow.laid ((fnExactScheduleText_world os).forCall (fun _ _ => 0) ⟨#[], #[.slice none 0 0], []⟩).memory :=
  laidMet_of_run' 8 (by kernel_rfl) (by kernel_rfl)
theorem fnExactScheduleText_reads (os : Os) {H : Type} (enc : TypeId × Value → H) : ∃ places, DataW.whole enc Tryd.prog ((fnExactScheduleText_world os).forCall (fun _ _ => 0) ⟨#[], #[.slice none 0 0], []⟩).memory Tryd.f5.params.toList Rows.fnExactScheduleTextSpec.vars false (#[.slice none 0 0] : Array Value).toList 8 = some ([.nil], [], places) :=
  ⟨[], by kernel_rfl⟩

set_option maxRecDepth 100000 in
theorem fnExactScheduleText_contract (H : Type) (enc : TypeId × Value → H) (W : World) (base : Nat) (args : Array Value) (ds gs : List (DataW H)) (before : List MemPlace)
    (hval0 : ∀ (j : Nat) t v, Tryd.f5.params[j]? = some t → args[j]? = some v → Value.okWide Tryd.prog W .any base t v)
    (hW : DataW.Whole enc Tryd.prog Tryd.f5.params.toList Rows.fnExactScheduleTextSpec.vars false W args.toList ds gs before) (hL : laidMetH Tryd.prog Rows.fnExactScheduleTextRow.laid W) :
    Calls Tryd.prog 5 args W fun e W' => ∃ v, e = .returned v ∧ Rows.fnExactScheduleTextSpec.post enc Tryd.prog Tryd.f5 false true false false W args v W' := by
  have hval := hval0
  have hW' := hW
  obtain ⟨p, q, hA0, hV, rfl, hfz, hnd⟩ := hW
  have hA : DataW.TrodAll enc Tryd.prog W 0 (fun _ => true) true Tryd.f5.params.toList args.toList ds p := hA0
  rw [Tryd.params5] at hA hval
  obtain ⟨v0, vs0, d0, ds0, p0, q0, hargs, rfl, rfl, h0, r0⟩ := trodAll_cons hA
  obtain ⟨rfl, rfl, rfl⟩ := trodAll_nil r0
  obtain rfl : args = #[v0] := by cases args; simp_all
  obtain ⟨rfl, rfl⟩ := trodVars_none hV
  obtain ⟨x0, w0⟩ := arg_rus (hval 0 22 v0 rfl rfl) h0
  have lt0 : ∀ x ∈ p0, x.block < W.heap.size := by obtain ⟨m, hm⟩ := h0; exact DataW.trod_lt m _ _ _ hm
  clear hA0 hval0
  refine (walkScheduleText v0 x0 W w0 (fnExactScheduleText_table hL)).mono fun e W' ⟨he, bel⟩ => ?_
  subst he
  exact ⟨_, rfl, _, _, _, [], _, [], hW', trodAll_mk1 (shut_bool Tryd.underlying4 _), (trodAll_cons_mk (Below.trod Tryd.laidOut (by kernel_rfl) (of_decide_eq_true (by kernel_rfl)) h0 bel lt0) trodAll_mk0), rfl, bel.frame _, fun h => by cases h⟩

set_option maxRecDepth 100000 in
theorem fnExactScheduleText_lifted (os : Os) (started : os.Started) (H : Type) (enc : TypeId × Value → H) (F : Stop.Interp) :
    ReturnsInHanded {} Tryd.checked os 5 .any ((OpenSpec.ofChange Rows.fnExactScheduleTextSpec).preRow enc Tryd.prog Tryd.f5 Rows.fnExactScheduleTextRow.domain false Rows.fnExactScheduleTextRow.laid) (((OpenSpec.ofChange Rows.fnExactScheduleTextSpec).at F).post enc Tryd.prog Tryd.f5 false true false false) := by
  obtain ⟨places, hx⟩ := fnExactScheduleText_reads os enc
  refine returnsInHanded_of_row (C := Tryd.checked) (s := OpenSpec.ofChange Rows.fnExactScheduleTextSpec) Tryd.own started (by kernel_rfl) Tryd.func5
    (witness_row_at (enc := enc) (C := Tryd.checked) false (fnExactScheduleText_world os) #[.slice none 0 0] rfl (by kernel_rfl) (by kernel_rfl) (by kernel_rfl)
      (OpenSpec.preRow_of_cond 8 hx (by kernel_rfl) (fun k hk => by cases hk) (by kernel_rfl) (fnExactScheduleText_met os))) ?_
  intro W base args ds gs before hval hW _ _ _ hL _ _
  exact fnExactScheduleText_contract H enc W base args ds gs before hval hW hL

theorem fnExactScheduleText_said : Rows.FnExactScheduleTextSaid :=
  OpenClaim.holds_of_cond 5 Tryd.f5 rfl rfl rfl rfl rfl rfl rfl ⟨rfl, rfl, rfl, rfl, rfl⟩ rfl rfl rfl rfl rfl (by kernel_rfl) Tryd.func5 (by kernel_rfl)
    (of_decide_eq_true (by kernel_rfl)) (by unfold Func.isWrapper; first | (rw [if_pos (by decide +kernel)]; kernel_rfl) | (rw [if_neg (by decide +kernel)]; exact ⟨rfl, rfl⟩))
    (fun os started H enc _ F => by rw [OpenClaim.pre_eq_preRow]; exact fnExactScheduleText_lifted os started H enc F)

theorem fnExactScheduleText_plain (f : FuncId) (fn : Func) (hf : Tryd.pinned.checked.prog.funcNamed "loop.example/g01035/laws.FnExactScheduleText" = some f) (hfn : Tryd.pinned.checked.prog.funcs[f]? = some fn) :
    true = Tryd.pinned.checked.prog.looks [] ∧ ∀ (j : Nat) t, fn.params[j]? = some t → Tryd.pinned.checked.prog.wantsStandIn t = false := by
  obtain rfl : f = 5 := Option.some.inj ((show Tryd.prog.funcNamed "loop.example/g01035/laws.FnExactScheduleText" = some 5 by kernel_rfl).symm.trans hf) |>.symm
  obtain rfl : fn = Tryd.f5 := (Option.some.inj (Tryd.func5.symm.trans hfn)).symm
  refine ⟨by kernel_rfl, fun j t ht => ?_⟩
  rw [Tryd.params5] at ht
  have hm := Array.mem_of_getElem? ht
  simp only [List.mem_toArray, List.mem_cons, List.mem_nil_iff, or_false] at hm
  subst hm
  exact (show Tryd.prog.wantsStandIn 22 = false by kernel_rfl)

/-- THE CARD. -/
theorem fnExactScheduleText_proved : Rows.FnExactScheduleTextCardSaid :=
  Claim7.holds_tied_plain_at .later [] _ _ _ _ fnExactScheduleText_said (fun _ h => by cases h) (by kernel_rfl) (fun _ h => by cases h) fnExactScheduleText_row_tie rfl ⟨rfl, rfl⟩ (by kernel_rfl) rfl fnExactScheduleText_plain (by kernel_rfl)

end Go.Proofs.YtpcdjpkcalbpkaaDoor
