/- The law FnExactRecordText: at every record the call answers true. No condition. -/
import Derived.Test.YtkhhkgjjhnplcaaDoorText
import Derived.Test.YtkhhkgjjhnplcaaDoorEqRec
import Derived.Test.YtkhhkgjjhnplcaaDoorFrame
import Derived.Test.YtkhhkgjjhnplcaaDoorCards
import Derived.Test.YtkhhkgjjhnplcaaDoorTie
import Derived.Deep.DeepHandedRow
namespace Go.Proofs.YtkhhkgjjhnplcaaDoor
set_option linter.unusedVariables false
open Go.ChangeShapes Go.WideShapes Go.ChangeAt Go.RowKit

set_option maxHeartbeats 2000000 in
theorem walkRecordText (v : Value) (x : Rec) (W : World) (h : RecV W v x) (hT : Tab W) :
    Calls Tryd.prog 3 #[v] W fun e w' => e = .returned (.bool true) ∧ Below W.heap.size W w' := by
  have HTAB := Lib.hid hT
  clear hT
  obtain ⟨s, rfl, h1, hok⟩ := h
  have hV : ∀ W', Below W.heap.size W W' → RecV W' (.agg #[.int .i64 x.id, .int .i64 x.series, .int .i64 x.made, s]) x := fun W' hb => ⟨s, rfl, h1.below rEv_stable hb, hok⟩
  have HV := Lib.hid hV
  clear hV h1 hok
  by_cases hsz : (1048576 : Int) < x.evs.length
  · go_enter Tryd.func3, Tryd.ntmps3
    go_wp2_with fail
    have b1 := below_al (Below.refl W.heap.size W) (.cells #[.int .i64 x.id, .int .i64 x.series, .int .i64 x.made, s] 24 (0, 0))
    refine (szRecord_any _ x 1048576 _ (HV.out _ b1) (by omega) (by omega)).mono ?_
    rw [if_pos (by omega)]
    rintro e w1 ⟨rfl, b2⟩
    go_wp2_with fail
    go_ret
    exact ⟨rfl, below_chain b1 b2⟩
  · obtain ⟨n, b, hb⟩ : ∃ n b, textRes x = (n, b) := ⟨_, _, rfl⟩
    have HB := Lib.hid hb
    clear hb
    go_enter Tryd.func3, Tryd.ntmps3
    go_wp2_with fail
    have b1 := below_al (Below.refl W.heap.size W) (.cells #[.int .i64 x.id, .int .i64 x.series, .int .i64 x.made, s] 24 (0, 0))
    refine (szRecord_any _ x 1048576 _ (HV.out _ b1) (by omega) (by omega)).mono ?_
    rw [if_neg (by omega)]
    rintro e w1 ⟨rfl, b2⟩
    have c0 := cell_kept (cell_new W _ _ 0 rfl) b2
    have c1 := cell_kept (cell_new W _ _ 1 rfl) b2
    have c2 := cell_kept (cell_new W _ _ 2 rfl) b2
    have c3 := cell_kept (cell_new W _ _ 3 rfl) b2
    replace b1 := below_chain b1 b2
    go_wp2_with fail
    refine (toRecord_any _ x _ (HV.out _ b1) (by omega)).mono ?_
    rintro e w2 ⟨v2, rfl, ho, b3⟩
    go_wp2_with fail
    refine (specRecordText_any _ x _ ho.toV n b HB.out).mono ?_
    rintro e w3 ⟨rfl, b4⟩
    have bb := below_chain b3 b4
    replace c0 := cell_kept c0 bb
    replace c1 := cell_kept c1 bb
    replace c2 := cell_kept c2 bb
    replace c3 := cell_kept c3 bb
    replace b1 := below_chain b1 bb
    clear ho b3 b4 bb b2
    go_wp2_with fail
    refine (toRecord_any _ x _ (HV.out _ b1) (by omega)).mono ?_
    rintro e w4 ⟨v4, rfl, ho, b3⟩
    obtain ⟨sx, rfl, hox, hokx⟩ := ho
    obtain ⟨sa, sn, sc, rfl⟩ := hox.1.slice
    have HOX := Lib.hid hox
    have HOKX := Lib.hid hokx
    clear hox hokx
    replace c0 := cell_kept c0 b3
    replace c1 := cell_kept c1 b3
    replace c2 := cell_kept c2 b3
    replace c3 := cell_kept c3 b3
    replace b1 := below_chain b1 b3
    go_wp2_with fail
    have hX : ∀ W', Below w4.heap.size w4 W' → RecV W' (.agg #[.int .i64 x.id, .int .i64 x.series, .int .i64 x.made, .slice sa sn sc]) x := fun W' hb => ⟨_, rfl, HOX.out.row.below rEv_stable hb, HOKX.out⟩
    have HX := Lib.hid hX
    clear hX
    have b4 := below_al (Below.refl w4.heap.size w4) (.cells #[.int .i64 x.id, .int .i64 x.series, .int .i64 x.made, .slice sa sn sc] 30 (0, 0))
    refine (implRecordText_any _ x _ (HTAB.out.later (below_al b1 _)) (HX.out _ b4) n b HB.out).mono ?_
    rintro e w5 ⟨rfl, b5⟩
    have d0 := cell_kept (cell_new w4 _ _ 0 rfl) b5
    have d1 := cell_kept (cell_new w4 _ _ 1 rfl) b5
    have d2 := cell_kept (cell_new w4 _ _ 2 rfl) b5
    have d3 := cell_kept (cell_new w4 _ _ 3 rfl) b5
    replace b4 := below_chain b4 b5
    replace c0 := cell_kept c0 b4
    replace c1 := cell_kept c1 b4
    replace c2 := cell_kept c2 b4
    replace c3 := cell_kept c3 b4
    replace b1 := below_chain b1 b4
    have eb : (b != b) = false := by simp
    go_wp2_with fail
    go_region_held3 (fun w' => w'.cell? ⟨w4.heap.size, 0, none⟩ = some (.int .i64 x.id) ∧ w'.cell? ⟨w4.heap.size, 1, none⟩ = some (.int .i64 x.series) ∧ w'.cell? ⟨w4.heap.size, 2, none⟩ = some (.int .i64 x.made) ∧ w'.cell? ⟨w4.heap.size, 3, none⟩ = some (.slice sa sn sc) ∧ w'.cell? ⟨W.heap.size, 0, none⟩ = some (.int .i64 x.id) ∧ w'.cell? ⟨W.heap.size, 1, none⟩ = some (.int .i64 x.series) ∧ w'.cell? ⟨W.heap.size, 2, none⟩ = some (.int .i64 x.made) ∧ w'.cell? ⟨W.heap.size, 3, none⟩ = some s)
      (first | exact ⟨d0, d1, d2, d3, c0, c1, c2, c3⟩ | exact ⟨cell_keptd d0 b6, cell_keptd d1 b6, cell_keptd d2 b6, cell_keptd d3 b6, cell_keptd c0 b6, cell_keptd c1 b6, cell_keptd c2 b6, cell_keptd c3 b6⟩ | exact ⟨cell_kept (cell_keptd d0 b6) b7, cell_kept (cell_keptd d1 b6) b7, cell_kept (cell_keptd d2 b6) b7, cell_kept (cell_keptd d3 b6) b7, cell_kept (cell_keptd c0 b6) b7, cell_kept (cell_keptd c1 b6) b7, cell_kept (cell_keptd c2 b6) b7, cell_kept (cell_keptd c3 b6) b7⟩)
      (first | (go_at_call 7; refine (toRecord_any _ x _ (HV.out _ b1.drew) (by omega)).mono ?_; rintro e w6 ⟨v6, rfl, ho6, b6⟩; have HO6 := Lib.hid ho6; clear ho6) | (go_at_call 9; refine (eqRecord_any _ _ x x _ (HX.out _ (below_chain b4.drew b6)) HO6.out.toV).mono ?_; rw [decide_eq_true rfl]; rintro e w7 ⟨rfl, b7⟩))
    go_wp2_with fail
    go_ret
    exact ⟨rfl, below_chain (below_chain b1.drew b6) b7⟩

/-- What the row's list gives: the powers of ten lie in their table. -/
theorem fnExactRecordText_table {W : World} (h : laidMetH Tryd.prog Rows.fnExactRecordTextRow.laid W) : Tab W := by
  obtain ⟨ps, ⟨_, _, _, _, _, _, _, _, _, _, ⟨_, _, _, _, _, _, _, _, _, _, ⟨g', t', cs, fuel, p, q, hg', ht', hvar, hd, _, _⟩, _⟩, _⟩, _⟩ := (show laidMet Tryd.prog Rows.fnExactRecordTextRow.laid W from h)
  obtain rfl := Option.some.inj (gTab.symm.trans hg')
  obtain rfl := Option.some.inj ((show (Tryd.prog.globals[0]?).map (·.type) = some 81 by kernel_rfl).symm.trans ht')
  show Lib.TabIs _ _ _ _ _
  unfold Lib.TabIs
  rw [hvar, ← Lib.cells_of_tab Tryd.underlying81 Tryd.underlying72 (by kernel_rfl) (by kernel_rfl) hd]
/-- A world for the witness: the settled one, each listed table holding what its initialiser lays. -/
noncomputable def fnExactRecordText_world (os : Os) : World :=
  { World.holding Tryd.prog os ⟨#[], #[], []⟩ with heap := ((((World.holding Tryd.prog os ⟨#[], #[], []⟩).heap.modify 2 fun
      | .cells _ t frozen => .cells #[.int .u8 0, .int .u8 1, .int .u8 28, .int .u8 2, .int .u8 29, .int .u8 14, .int .u8 24, .int .u8 3, .int .u8 30, .int .u8 22, .int .u8 20, .int .u8 15, .int .u8 25, .int .u8 17, .int .u8 4, .int .u8 8, .int .u8 31, .int .u8 27, .int .u8 13, .int .u8 23, .int .u8 21, .int .u8 19, .int .u8 16, .int .u8 7, .int .u8 26, .int .u8 12, .int .u8 18, .int .u8 6, .int .u8 11, .int .u8 5, .int .u8 10, .int .u8 9] t frozen
      | o => o).modify 3 fun
      | .cells _ t frozen => .cells #[.int .u8 0, .int .u8 1, .int .u8 56, .int .u8 2, .int .u8 57, .int .u8 49, .int .u8 28, .int .u8 3, .int .u8 61, .int .u8 58, .int .u8 42, .int .u8 50, .int .u8 38, .int .u8 29, .int .u8 17, .int .u8 4, .int .u8 62, .int .u8 47, .int .u8 59, .int .u8 36, .int .u8 45, .int .u8 43, .int .u8 51, .int .u8 22, .int .u8 53, .int .u8 39, .int .u8 33, .int .u8 30, .int .u8 24, .int .u8 18, .int .u8 12, .int .u8 5, .int .u8 63, .int .u8 55, .int .u8 48, .int .u8 27, .int .u8 60, .int .u8 41, .int .u8 37, .int .u8 16, .int .u8 46, .int .u8 35, .int .u8 44, .int .u8 21, .int .u8 52, .int .u8 32, .int .u8 23, .int .u8 11, .int .u8 54, .int .u8 26, .int .u8 40, .int .u8 15, .int .u8 34, .int .u8 20, .int .u8 31, .int .u8 10, .int .u8 25, .int .u8 14, .int .u8 19, .int .u8 9, .int .u8 13, .int .u8 8, .int .u8 7, .int .u8 6] t frozen
      | o => o).modify 0 fun
      | .cells _ t frozen => .cells #[.int .u64 1, .int .u64 10, .int .u64 100, .int .u64 1000, .int .u64 10000, .int .u64 100000, .int .u64 1000000, .int .u64 10000000, .int .u64 100000000, .int .u64 1000000000, .int .u64 10000000000, .int .u64 100000000000, .int .u64 1000000000000, .int .u64 10000000000000, .int .u64 100000000000000, .int .u64 1000000000000000, .int .u64 10000000000000000, .int .u64 100000000000000000, .int .u64 1000000000000000000, .int .u64 10000000000000000000] t frozen
      | o => o) }
theorem fnExactRecordText_met (os : Os) : laidMet Tryd.prog Rows.fnExactRecordTextRow.laid ((fnExactRecordText_world os).forCall (fun _ _ => 0) ⟨#[], #[.agg #[.int .i64 0, .int .i64 0, .int .i64 0, .slice none 0 0]], []⟩).memory :=
  laidMet_of_run' 8 (by kernel_rfl) (by kernel_rfl)
theorem fnExactRecordText_reads (os : Os) {H : Type} (enc : TypeId × Value → H) : ∃ places, DataW.whole enc Tryd.prog ((fnExactRecordText_world os).forCall (fun _ _ => 0) ⟨#[], #[.agg #[.int .i64 0, .int .i64 0, .int .i64 0, .slice none 0 0]], []⟩).memory Tryd.f3.params.toList Rows.fnExactRecordTextSpec.vars false (#[.agg #[.int .i64 0, .int .i64 0, .int .i64 0, .slice none 0 0]] : Array Value).toList 8 = some ([.agg [.lit (.int .i64 0), .lit (.int .i64 0), .lit (.int .i64 0), .nil]], [], places) :=
  ⟨[], by kernel_rfl⟩

set_option maxRecDepth 100000 in
theorem fnExactRecordText_contract (H : Type) (enc : TypeId × Value → H) (W : World) (base : Nat) (args : Array Value) (ds gs : List (DataW H)) (before : List MemPlace)
    (hval0 : ∀ (j : Nat) t v, Tryd.f3.params[j]? = some t → args[j]? = some v → Value.okWide Tryd.prog W .any base t v)
    (hW : DataW.Whole enc Tryd.prog Tryd.f3.params.toList Rows.fnExactRecordTextSpec.vars false W args.toList ds gs before) (hL : laidMetH Tryd.prog Rows.fnExactRecordTextRow.laid W) :
    Calls Tryd.prog 3 args W fun e W' => ∃ v, e = .returned v ∧ Rows.fnExactRecordTextSpec.post enc Tryd.prog Tryd.f3 false true false false W args v W' := by
  have hval := hval0
  have hW' := hW
  obtain ⟨p, q, hA0, hV, rfl, hfz, hnd⟩ := hW
  have hA : DataW.TrodAll enc Tryd.prog W 0 (fun _ => true) true Tryd.f3.params.toList args.toList ds p := hA0
  rw [Tryd.params3] at hA hval
  obtain ⟨v0, vs0, d0, ds0, p0, q0, hargs, rfl, rfl, h0, r0⟩ := trodAll_cons hA
  obtain ⟨rfl, rfl, rfl⟩ := trodAll_nil r0
  obtain rfl : args = #[v0] := by cases args; simp_all
  obtain ⟨rfl, rfl⟩ := trodVars_none hV
  obtain ⟨x0, w0⟩ := arg_rec (hval 0 24 v0 rfl rfl) h0
  have lt0 : ∀ x ∈ p0, x.block < W.heap.size := by obtain ⟨m, hm⟩ := h0; exact DataW.trod_lt m _ _ _ hm
  clear hA0 hval0
  refine (walkRecordText v0 x0 W w0 (fnExactRecordText_table hL)).mono fun e W' ⟨he, bel⟩ => ?_
  subst he
  exact ⟨_, rfl, _, _, _, [], _, [], hW', trodAll_mk1 (shut_bool Tryd.underlying4 _), (trodAll_cons_mk (Below.trod Tryd.laidOut (by kernel_rfl) (of_decide_eq_true (by kernel_rfl)) h0 bel lt0) trodAll_mk0), rfl, bel.frame _, fun h => by cases h⟩

set_option maxRecDepth 100000 in
theorem fnExactRecordText_lifted (os : Os) (started : os.Started) (H : Type) (enc : TypeId × Value → H) (F : Stop.Interp) :
    ReturnsInHanded {} Tryd.checked os 3 .any ((OpenSpec.ofChange Rows.fnExactRecordTextSpec).preRow enc Tryd.prog Tryd.f3 Rows.fnExactRecordTextRow.domain false Rows.fnExactRecordTextRow.laid) (((OpenSpec.ofChange Rows.fnExactRecordTextSpec).at F).post enc Tryd.prog Tryd.f3 false true false false) := by
  obtain ⟨places, hx⟩ := fnExactRecordText_reads os enc
  refine returnsInHanded_of_row (C := Tryd.checked) (s := OpenSpec.ofChange Rows.fnExactRecordTextSpec) Tryd.own started (by kernel_rfl) Tryd.func3
    (witness_row_at (enc := enc) (C := Tryd.checked) false (fnExactRecordText_world os) #[.agg #[.int .i64 0, .int .i64 0, .int .i64 0, .slice none 0 0]] rfl (by kernel_rfl) (by kernel_rfl) (by kernel_rfl)
      (OpenSpec.preRow_of_cond 8 hx (by kernel_rfl) (fun k hk => by cases hk) (by kernel_rfl) (fnExactRecordText_met os))) ?_
  intro W base args ds gs before hval hW _ _ _ hL _ _
  exact fnExactRecordText_contract H enc W base args ds gs before hval hW hL

theorem fnExactRecordText_said : Rows.FnExactRecordTextSaid :=
  OpenClaim.holds_of_cond 3 Tryd.f3 rfl rfl rfl rfl rfl rfl rfl ⟨rfl, rfl, rfl, rfl, rfl⟩ rfl rfl rfl rfl rfl (by kernel_rfl) Tryd.func3 (by kernel_rfl)
    (of_decide_eq_true (by kernel_rfl)) (by unfold Func.isWrapper; first | (rw [if_pos (by decide +kernel)]; kernel_rfl) | (rw [if_neg (by decide +kernel)]; exact ⟨rfl, rfl⟩))
    (fun os started H enc _ F => by rw [OpenClaim.pre_eq_preRow]; exact fnExactRecordText_lifted os started H enc F)

theorem fnExactRecordText_plain (f : FuncId) (fn : Func) (hf : Tryd.pinned.checked.prog.funcNamed "loop.example/g01035/laws.FnExactRecordText" = some f) (hfn : Tryd.pinned.checked.prog.funcs[f]? = some fn) :
    false = Tryd.pinned.checked.prog.looks [] ∧ ∀ (j : Nat) t, fn.params[j]? = some t → Tryd.pinned.checked.prog.wantsStandIn t = false := by
  obtain rfl : f = 3 := Option.some.inj ((show Tryd.prog.funcNamed "loop.example/g01035/laws.FnExactRecordText" = some 3 by kernel_rfl).symm.trans hf) |>.symm
  obtain rfl : fn = Tryd.f3 := (Option.some.inj (Tryd.func3.symm.trans hfn)).symm
  refine ⟨by kernel_rfl, fun j t ht => ?_⟩
  rw [Tryd.params3] at ht
  have hm := Array.mem_of_getElem? ht
  simp only [List.mem_toArray, List.mem_cons, List.mem_nil_iff, or_false] at hm
  subst hm
  exact (show Tryd.prog.wantsStandIn 24 = false by kernel_rfl)

/-- THE CARD. -/
theorem fnExactRecordText_proved : Rows.FnExactRecordTextCardSaid :=
  Claim7.holds_tied_plain_at .later [] _ _ _ _ fnExactRecordText_said (fun _ h => by cases h) (by kernel_rfl) (fun _ h => by cases h) fnExactRecordText_row_tie rfl ⟨rfl, rfl⟩ (by kernel_rfl) rfl fnExactRecordText_plain (by kernel_rfl)
end Go.Proofs.YtkhhkgjjhnplcaaDoor
