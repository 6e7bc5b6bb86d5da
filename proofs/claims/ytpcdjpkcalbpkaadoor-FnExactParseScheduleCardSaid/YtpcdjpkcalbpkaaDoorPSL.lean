/- The law FnExactParseSchedule: at every text the call answers true. No condition. -/
import Derived.Test.YtpcdjpkcalbpkaaDoorPSS
import Derived.Test.YtpcdjpkcalbpkaaDoorEqRu
import Derived.Test.YtpcdjpkcalbpkaaDoorMarkRu
import Derived.Test.YtpcdjpkcalbpkaaDoorFrame
import Derived.Test.YtpcdjpkcalbpkaaDoorCards
import Derived.Test.YtpcdjpkcalbpkaaDoorTie
import Derived.Deep.DeepHandedRow
import Derived.Shelf.Vars
namespace Go.Proofs.YtpcdjpkcalbpkaaDoor
set_option linter.unusedVariables false
open Go.ChangeShapes Go.WideShapes Go.ChangeAt Go.RowKit

theorem maxSome {w : World} (h : w.ShapedOpen Tryd.prog) : ∃ m, w.cell? ⟨2, 0, none⟩ = some (.int .i64 m) :=
  cell_of_shapedOpen_int (t := 3) (zero := #[.int .i64 0]) h (of_decide_eq_true (by kernel_rfl)) (by kernel_rfl) rfl (by kernel_rfl) (by kernel_rfl) Tryd.underlying3

theorem psRes_len {s : ByteArray} {xs : List Ru} {b : Bool} (h : psRes s = (xs, b)) : xs.length ≤ 8 := by
  unfold psRes at h
  split at h
  · obtain ⟨rfl, _⟩ := Prod.mk.inj h; simp
  · split at h
    · rename_i hh
      obtain ⟨rfl, _⟩ := Prod.mk.inj h
      exact sch_len hh.2
    · obtain ⟨rfl, _⟩ := Prod.mk.inj h; simp

set_option maxRecDepth 20000 in
set_option maxHeartbeats 4000000 in
theorem walkParseSchedule (v : Value) (x : ByteArray) (W : World) (h : v = .string x ∧ x.size ≤ maxLen) (hE : EnvR W) :
    Calls Tryd.prog 6 #[v] W fun e w' => e = .returned (.bool true) ∧ Below W.heap.size W w' := by
  obtain ⟨rfl, hz⟩ := h
  have HE := Lib.hid hE
  clear hE
  have hzm := hz
  unfold maxLen at hz
  by_cases hbig : 1048576 < x.size
  · go_enter Tryd.func6, Tryd.ntmps6
    go_wp2_with fail
    go_ret
    exact ⟨rfl, Below.refl _ _⟩
  · have hs : x.size ≤ 1048576 := by omega
    obtain ⟨xs, b, hb⟩ : ∃ xs b, psRes x = (xs, b) := ⟨_, _, rfl⟩
    have HB := Lib.hid hb
    have hxl := psRes_len hb
    have eb : (b != b) = false := by simp
    have HZM := Lib.hid hzm
    clear hb hzm
    go_enter Tryd.func6, Tryd.ntmps6
    go_wp2_with fail
    refine (specParseSchedule_any x _ (by omega) xs b HB.out).mono ?_
    rintro e w3 ⟨vw, rfl, hw, b3⟩
    go_wp2_with fail
    refine (implParseSchedule_any x _ HZM.out (HE.out.later b3) xs b HB.out).mono ?_
    rintro e w5 ⟨vg, rfl, hg, b5⟩
    have s35 := b5.size
    have b1 := below_chain b3 b5
    have HW := Lib.hid (hw.below b5)
    have HG := Lib.hid hg
    have s3 := b3.size
    clear hw hg b3 b5
    go_wp2_with fail
    refine (eqRuS_any _ _ xs xs _ HG.out.row HW.out.row).mono ?_
    rw [decide_eq_true rfl]
    rintro e w6 ⟨rfl, b6⟩
    replace b1 := below_chain b1 b6
    replace HW := Lib.hid (HW.out.below b6)
    replace HG := Lib.hid (HG.out.below b6)
    have s56 := b6.size
    clear b6
    go_wp2_with fail
    refine (markRuS_any _ xs _ _ 1 _ (Nat.le_refl _) (by omega) HG.out).mono ?_
    rintro e w7 ⟨rfl, hg7, on7⟩
    replace HW := Lib.hid (HW.out.only2 on7 (Nat.le_refl _))
    have HM := Lib.hid hg7
    replace b1 := b1.trans ((on7.below (by omega)).mono (by omega))
    clear hg7 on7 HG
    have en : (((1 + xs.length * 4 : Nat) : Int) != ((1 + xs.length * 4 : Nat) : Int)) = false := by simp
    go_wp2_with fail
    refine (heldRuS_any _ 1 xs.length _ (Nat.le_refl _) (by omega) HM.out.row).mono ?_
    rintro e w8 ⟨rfl, b8⟩
    replace b1 := below_chain b1 b8
    replace HW := Lib.hid (HW.out.below b8)
    replace HM := Lib.hid (HM.out.below b8)
    clear b8
    go_wp2_with fail
    refine (implParseSchedule_any x _ HZM.out (HE.out.later b1) xs b HB.out).mono ?_
    rintro e w9 ⟨vh, rfl, hh, b9⟩
    replace b1 := below_chain b1 b9
    replace HW := Lib.hid (HW.out.below b9)
    replace HM := Lib.hid (HM.out.below b9)
    have HH := Lib.hid hh
    clear b9 hh
    go_wp2_with fail
    refine (eqRuS_any _ _ xs xs _ HH.out.row HW.out.row).mono ?_
    rw [decide_eq_true rfl]
    rintro e w10 ⟨rfl, b10⟩
    replace b1 := below_chain b1 b10
    replace HM := Lib.hid (HM.out.below b10)
    clear b10 HH HW
    go_wp2_with fail
    refine (heldRuS_any _ 1 xs.length _ (Nat.le_refl _) (by omega) HM.out.row).mono ?_
    rintro e w11 ⟨rfl, b11⟩
    go_wp2_with fail
    go_ret
    exact ⟨rfl, below_chain b1 b11⟩

/-- What the row's list gives: the powers of ten lie in their table. -/
theorem fnExactParseSchedule_table {W : World} (h : laidMetH Tryd.prog Rows.fnExactParseScheduleRow.laid W) : Tab W := by
  obtain ⟨ps, ⟨_, _, _, _, _, _, _, _, _, _, ⟨_, _, _, _, _, _, _, _, _, _, ⟨g', t', cs, fuel, p, q, hg', ht', hvar, hd, _, _⟩, _⟩, _⟩, _⟩ := (show laidMet Tryd.prog Rows.fnExactParseScheduleRow.laid W from h)
  obtain rfl := Option.some.inj (gTab.symm.trans hg')
  obtain rfl := Option.some.inj ((show (Tryd.prog.globals[3]?).map (·.type) = some 125 by kernel_rfl).symm.trans ht')
  show Lib.TabIs _ _ _ _ _
  unfold Lib.TabIs
  rw [hvar, ← Lib.cells_of_tab Tryd.underlying125 Tryd.underlying116 (by kernel_rfl) (by kernel_rfl) hd]
/-- A world for the witness: the settled one, each listed table holding what its initialiser lays. -/
noncomputable def fnExactParseSchedule_world (os : Os) : World :=
  { World.holding Tryd.prog os ⟨#[], #[], []⟩ with heap := ((((World.holding Tryd.prog os ⟨#[], #[], []⟩).heap.modify 4 fun
      | .cells _ t frozen => .cells #[.int .u8 0, .int .u8 1, .int .u8 28, .int .u8 2, .int .u8 29, .int .u8 14, .int .u8 24, .int .u8 3, .int .u8 30, .int .u8 22, .int .u8 20, .int .u8 15, .int .u8 25, .int .u8 17, .int .u8 4, .int .u8 8, .int .u8 31, .int .u8 27, .int .u8 13, .int .u8 23, .int .u8 21, .int .u8 19, .int .u8 16, .int .u8 7, .int .u8 26, .int .u8 12, .int .u8 18, .int .u8 6, .int .u8 11, .int .u8 5, .int .u8 10, .int .u8 9] t frozen
      | o => o).modify 5 fun
      | .cells _ t frozen => .cells #[.int .u8 0, .int .u8 1, .int .u8 56, .int .u8 2, .int .u8 57, .int .u8 49, .int .u8 28, .int .u8 3, .int .u8 61, .int .u8 58, .int .u8 42, .int .u8 50, .int .u8 38, .int .u8 29, .int .u8 17, .int .u8 4, .int .u8 62, .int .u8 47, .int .u8 59, .int .u8 36, .int .u8 45, .int .u8 43, .int .u8 51, .int .u8 22, .int .u8 53, .int .u8 39, .int .u8 33, .int .u8 30, .int .u8 24, .int .u8 18, .int .u8 12, .int .u8 5, .int .u8 63, .int .u8 55, .int .u8 48, .int .u8 27, .int .u8 60, .int .u8 41, .int .u8 37, .int .u8 16, .int .u8 46, .int .u8 35, .int .u8 44, .int .u8 21, .int .u8 52, .int .u8 32, .int .u8 23, .int .u8 11, .int .u8 54, .int .u8 26, .int .u8 40, .int .u8 15, .int .u8 34, .int .u8 20, .int .u8 31, .int .u8 10, .int .u8 25, .int .u8 14, .int .u8 19, .int .u8 9, .int .u8 13, .int .u8 8, .int .u8 7, .int .u8 6] t frozen
      | o => o).modify 3 fun
      | .cells _ t frozen => .cells #[.int .u64 1, .int .u64 10, .int .u64 100, .int .u64 1000, .int .u64 10000, .int .u64 100000, .int .u64 1000000, .int .u64 10000000, .int .u64 100000000, .int .u64 1000000000, .int .u64 10000000000, .int .u64 100000000000, .int .u64 1000000000000, .int .u64 10000000000000, .int .u64 100000000000000, .int .u64 1000000000000000, .int .u64 10000000000000000, .int .u64 100000000000000000, .int .u64 1000000000000000000, .int .u64 10000000000000000000] t frozen
      | o => o) }
theorem fnExactParseSchedule_met (os : Os) : laidMet Tryd.prog Rows.fnExactParseScheduleRow.laid ((fnExactParseSchedule_world os).forCall (fun _ _ => 0) ⟨#[], #[.string ByteArray.empty], []⟩).memory :=
  laidMet_of_run' 8 (by kernel_rfl) (by kernel_rfl)
theorem fnExactParseSchedule_reads (os : Os) {H : Type} (enc : TypeId × Value → H) : ∃ places, DataW.whole enc Tryd.prog ((fnExactParseSchedule_world os).forCall (fun _ _ => 0) ⟨#[], #[.string ByteArray.empty], []⟩).memory Tryd.f6.params.toList Rows.fnExactParseScheduleSpec.vars false (#[.string ByteArray.empty] : Array Value).toList 8 = some ([.lit (.string [])], [], places) :=
  ⟨[], by kernel_rfl⟩

set_option maxRecDepth 100000 in
theorem fnExactParseSchedule_contract (H : Type) (enc : TypeId × Value → H) (W : World) (base : Nat) (args : Array Value) (ds gs : List (DataW H)) (before : List MemPlace)
    (hval0 : ∀ (j : Nat) t v, Tryd.f6.params[j]? = some t → args[j]? = some v → Value.okWide Tryd.prog W .any base t v)
    (hW : DataW.Whole enc Tryd.prog Tryd.f6.params.toList Rows.fnExactParseScheduleSpec.vars false W args.toList ds gs before) (hL : laidMetH Tryd.prog Rows.fnExactParseScheduleRow.laid W) (hsh : W.ShapedOpen Tryd.prog) :
    Calls Tryd.prog 6 args W fun e W' => ∃ v, e = .returned v ∧ Rows.fnExactParseScheduleSpec.post enc Tryd.prog Tryd.f6 false true false false W args v W' := by
  have hval := hval0
  have hW' := hW
  obtain ⟨p, q, hA0, hV, rfl, hfz, hnd⟩ := hW
  have hA : DataW.TrodAll enc Tryd.prog W 0 (fun _ => true) true Tryd.f6.params.toList args.toList ds p := hA0
  rw [Tryd.params6] at hA hval
  obtain ⟨v0, vs0, d0, ds0, p0, q0, hargs, rfl, rfl, h0, r0⟩ := trodAll_cons hA
  obtain ⟨rfl, rfl, rfl⟩ := trodAll_nil r0
  obtain rfl : args = #[v0] := by cases args; simp_all
  obtain ⟨rfl, rfl⟩ := trodVars_none hV
  obtain ⟨x0, w0⟩ := arg_str (hval 0 9 v0 rfl rfl) h0
  have lt0 : ∀ x ∈ p0, x.block < W.heap.size := by obtain ⟨m, hm⟩ := h0; exact DataW.trod_lt m _ _ _ hm
  clear hA0 hval0
  refine (walkParseSchedule v0 x0 W w0 ⟨fnExactParseSchedule_table hL, maxSome hsh⟩).mono fun e W' ⟨he, bel⟩ => ?_
  subst he
  exact ⟨_, rfl, _, _, _, [], _, [], hW', trodAll_mk1 (shut_bool Tryd.underlying4 _), (trodAll_cons_mk (Below.trod Tryd.laidOut (by kernel_rfl) (of_decide_eq_true (by kernel_rfl)) h0 bel lt0) trodAll_mk0), rfl, bel.frame _, fun h => by cases h⟩

set_option maxRecDepth 100000 in
theorem fnExactParseSchedule_lifted (os : Os) (started : os.Started) (H : Type) (enc : TypeId × Value → H) (F : Stop.Interp) :
    ReturnsInHanded {} Tryd.checked os 6 .any ((OpenSpec.ofChange Rows.fnExactParseScheduleSpec).preRow enc Tryd.prog Tryd.f6 Rows.fnExactParseScheduleRow.domain false Rows.fnExactParseScheduleRow.laid) (((OpenSpec.ofChange Rows.fnExactParseScheduleSpec).at F).post enc Tryd.prog Tryd.f6 false true false false) := by
  obtain ⟨places, hx⟩ := fnExactParseSchedule_reads os enc
  refine returnsInHanded_of_row (C := Tryd.checked) (s := OpenSpec.ofChange Rows.fnExactParseScheduleSpec) Tryd.own started (by kernel_rfl) Tryd.func6
    (witness_row_at (enc := enc) (C := Tryd.checked) false (fnExactParseSchedule_world os) #[.string ByteArray.empty] rfl (by kernel_rfl) (by kernel_rfl) (by kernel_rfl)
      (OpenSpec.preRow_of_cond 8 hx (by kernel_rfl) (fun k hk => by cases hk) (by kernel_rfl) (fnExactParseSchedule_met os))) ?_
  intro W base args ds gs before hval hW _ _ _ hL hsh _
  exact fnExactParseSchedule_contract H enc W base args ds gs before hval hW hL hsh

theorem fnExactParseSchedule_said : Rows.FnExactParseScheduleSaid :=
  OpenClaim.holds_of_cond 6 Tryd.f6 rfl rfl rfl rfl rfl rfl rfl ⟨rfl, rfl, rfl, rfl, rfl⟩ rfl rfl rfl rfl rfl (by kernel_rfl) Tryd.func6 (by kernel_rfl)
    (of_decide_eq_true (by kernel_rfl)) (by unfold Func.isWrapper; first | (rw [if_pos (by decide +kernel)]; kernel_rfl) | (rw [if_neg (by decide +kernel)]; exact ⟨rfl, rfl⟩))
    (fun os started H enc _ F => by rw [OpenClaim.pre_eq_preRow]; exact fnExactParseSchedule_lifted os started H enc F)

theorem fnExactParseSchedule_plain (f : FuncId) (fn : Func) (hf : Tryd.pinned.checked.prog.funcNamed "loop.example/g01035/laws.FnExactParseSchedule" = some f) (hfn : Tryd.pinned.checked.prog.funcs[f]? = some fn) :
    true = Tryd.pinned.checked.prog.looks [] ∧ ∀ (j : Nat) t, fn.params[j]? = some t → Tryd.pinned.checked.prog.wantsStandIn t = false := by
  obtain rfl : f = 6 := Option.some.inj ((show Tryd.prog.funcNamed "loop.example/g01035/laws.FnExactParseSchedule" = some 6 by kernel_rfl).symm.trans hf) |>.symm
  obtain rfl : fn = Tryd.f6 := (Option.some.inj (Tryd.func6.symm.trans hfn)).symm
  refine ⟨by kernel_rfl, fun j t ht => ?_⟩
  rw [Tryd.params6] at ht
  have hm := Array.mem_of_getElem? ht
  simp only [List.mem_toArray, List.mem_cons, List.mem_nil_iff, or_false] at hm
  subst hm
  exact (show Tryd.prog.wantsStandIn 9 = false by kernel_rfl)

/-- THE CARD. -/
theorem fnExactParseSchedule_proved : Rows.FnExactParseScheduleCardSaid :=
  Claim7.holds_tied_plain_at .later [] _ _ _ _ fnExactParseSchedule_said (fun _ h => by cases h) (by kernel_rfl) (fun _ h => by cases h) fnExactParseSchedule_row_tie rfl ⟨rfl, rfl⟩ (by kernel_rfl) rfl fnExactParseSchedule_plain (by kernel_rfl)
end Go.Proofs.YtpcdjpkcalbpkaaDoor
