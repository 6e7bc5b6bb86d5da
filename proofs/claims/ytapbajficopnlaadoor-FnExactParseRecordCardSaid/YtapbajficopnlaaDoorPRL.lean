/- The law FnExactParseRecord: at every text the call answers true. No condition. -/
import Derived.Test.YtapbajficopnlaaDoorPRS
import Derived.Test.YtapbajficopnlaaDoorEqRec
import Derived.Test.YtapbajficopnlaaDoorMarkRec
import Derived.Test.YtapbajficopnlaaDoorBox4
import Derived.Test.YtapbajficopnlaaDoorFrame
import Derived.Test.YtapbajficopnlaaDoorCards
import Derived.Test.YtapbajficopnlaaDoorTie
import Derived.Deep.DeepHandedRow
import Derived.Shelf.Vars
namespace Go.Proofs.YtapbajficopnlaaDoor
set_option linter.unusedVariables false
open Go.ChangeShapes Go.WideShapes Go.ChangeAt Go.RowKit Go.Sort

theorem maxSome {w : World} (h : w.ShapedOpen Tryd.prog) : ∃ m, w.cell? ⟨1, 0, none⟩ = some (.int .i64 m) :=
  cell_of_shapedOpen_int (t := 3) (zero := #[.int .i64 0]) h (of_decide_eq_true (by kernel_rfl)) (by kernel_rfl) rfl (by kernel_rfl) (by kernel_rfl) Tryd.underlying3

theorem prRes_len {s : ByteArray} {y : Rec} {b : Bool} (h : prRes s = (y, b)) : y.evs.length ≤ 8 := by
  unfold prRes at h
  split at h
  · rename_i hh
    obtain ⟨rfl, _⟩ := Prod.mk.inj h
    have := (isRec_iff.1 hh.2).2.2.2.1
    omega
  · obtain ⟨rfl, _⟩ := Prod.mk.inj h
    simp [recD]

set_option maxRecDepth 20000 in
set_option maxHeartbeats 4000000 in
theorem walkParseRecord (v : Value) (x : ByteArray) (W : World) (h : v = .string x ∧ x.size ≤ maxLen) (hE : EnvR W) :
    Calls Tryd.prog 3 #[v] W fun e w' => e = .returned (.bool true) ∧ Below W.heap.size W w' := by
  obtain ⟨rfl, hz⟩ := h
  have HE := Lib.hid hE
  clear hE
  have hzm := hz
  unfold maxLen at hz
  by_cases hbig : 1048576 < x.size
  · go_enter Tryd.func3, Tryd.ntmps3
    go_wp2_with fail
    go_ret
    exact ⟨rfl, Below.refl _ _⟩
  · have hs : x.size ≤ 1048576 := by omega
    obtain ⟨y, b, hb⟩ : ∃ y b, prRes x = (y, b) := ⟨_, _, rfl⟩
    have HB := Lib.hid hb
    have hyl := prRes_len hb
    have eb : (b != b) = false := by simp
    have HZM := Lib.hid hzm
    clear hb hzm
    go_enter Tryd.func3, Tryd.ntmps3
    go_wp2_with fail
    refine (specParseRecord_any x _ (by omega) y b HB.out).mono ?_
    rintro e w3 ⟨v3, rfl, hw, b3⟩
    obtain ⟨sw, rfl, hwe, hwo⟩ := hw
    obtain ⟨wa, wn, wc, rfl⟩ := hwe.1.slice
    have bb := b3
    have HW := Lib.hid (show RecO _ _ _ _ _ from ⟨_, rfl, hwe, hwo⟩)
    have sw3 := bb.size
    clear b3 hwe hwo
    have HWB0 := Lib.hid (Box4.new w3 y (.slice wa wn wc) 24)
    go_wp2_with fail
    refine (implParseRecord_any x _ HZM.out (HE.out.later (below_al bb _)) y b HB.out).mono ?_
    rintro e w5 ⟨v5, rfl, hg, b5⟩
    obtain ⟨sg, rfl, hge, hgo⟩ := hg
    obtain ⟨ga, gn, gc, rfl⟩ := hge.1.slice
    have bl := below_chain (below_al (Below.refl w3.heap.size w3) _) b5
    replace HW := Lib.hid (HW.out.below bl)
    have HWB := Lib.hid (HWB0.out.kept b5)
    have HG := Lib.hid (show RecO (w3.heap.size + 1) w5.heap.size w5 (.agg #[.int .i64 y.id, .int .i64 y.series, .int .i64 y.made, .slice ga gn gc]) y from ⟨_, rfl, by simpa using hge, hgo⟩)
    have s45 : w3.heap.size + 1 ≤ w5.heap.size := by have := b5.size; simp at this; omega
    replace bb := below_chain bb bl
    clear b5 bl hge hgo HWB0
    obtain ⟨q0, q1, q2, q3⟩ := HWB.out
    have q0a := fun o : Obj => below_al_cell q0 o
    have q1a := fun o : Obj => below_al_cell q1 o
    have q2a := fun o : Obj => below_al_cell q2 o
    have q3a := fun o : Obj => below_al_cell q3 o
    have HGB0 := Lib.hid (Box4.new w5 y (.slice ga gn gc) 24)
    go_wp2_with fail
    clear q0 q1 q2 q3 q0a q1a q2a q3a
    refine (eqRecord_any _ _ y y _ (HG.out.below (below_al (Below.refl _ _) _)).toV (HW.out.below (below_al (Below.refl _ _) _)).toV).mono ?_
    rw [decide_eq_true rfl]
    rintro e w6 ⟨rfl, b6⟩
    have bl := below_chain (below_al (Below.refl w5.heap.size w5) _) b6
    replace HW := Lib.hid (HW.out.below bl)
    replace HWB := Lib.hid (HWB.out.kept bl)
    replace HG := Lib.hid (HG.out.below bl)
    have HGB := Lib.hid (HGB0.out.kept b6)
    have s56 := bl.size
    replace bb := below_chain bb bl
    clear b6 bl HGB0
    obtain ⟨g0, g1, g2, g3⟩ := HGB.out
    go_wp2_with fail
    clear g0 g1 g2 g3
    refine (markRecord_any _ y _ _ 1 _ (Nat.le_refl _) (by omega) HG.out).mono ?_
    rintro e w11 ⟨rfl, hg11, on11⟩
    replace HW := Lib.hid (HW.out.only2 on11 (by omega))
    replace HWB := Lib.hid (HWB.out.only on11 (.inl (by omega)))
    replace HGB := Lib.hid (HGB.out.only on11 (.inr (by omega)))
    have HM := Lib.hid hg11
    replace bb := bb.trans ((on11.below (by omega)).mono (by omega))
    clear on11 HG hg11
    have en : (((1 + y.evs.length * 2 : Nat) : Int) != ((1 + y.evs.length * 2 : Nat) : Int)) = false := by simp
    obtain ⟨g0, g1, g2, g3⟩ := HGB.out
    go_wp2_with fail
    clear g0 g1 g2 g3
    refine (heldRecord_any _ y 1 y.evs.length _ (Nat.le_refl _) (by omega) HM.out.toV).mono ?_
    rintro e w12 ⟨rfl, bh⟩
    replace HW := Lib.hid (HW.out.below bh)
    replace HWB := Lib.hid (HWB.out.kept bh)
    replace HGB := Lib.hid (HGB.out.kept bh)
    replace HM := Lib.hid (HM.out.below bh)
    replace bb := below_chain bb bh
    clear bh
    go_wp2_with fail
    refine (implParseRecord_any x _ HZM.out (HE.out.later bb) y b HB.out).mono ?_
    rintro e w14 ⟨v14, rfl, hh, bh⟩
    obtain ⟨sh, rfl, hhe, hho⟩ := hh
    obtain ⟨ha, hn, hc, rfl⟩ := hhe.1.slice
    have HH := Lib.hid (show RecO _ _ _ _ _ from ⟨_, rfl, hhe, hho⟩)
    replace HW := Lib.hid (HW.out.below bh)
    replace HWB := Lib.hid (HWB.out.kept bh)
    replace HGB := Lib.hid (HGB.out.kept bh)
    replace HM := Lib.hid (HM.out.below bh)
    replace bb := below_chain bb bh
    clear bh hhe hho
    obtain ⟨q0, q1, q2, q3⟩ := HWB.out
    have q0a := fun o : Obj => below_al_cell q0 o
    have q1a := fun o : Obj => below_al_cell q1 o
    have q2a := fun o : Obj => below_al_cell q2 o
    have q3a := fun o : Obj => below_al_cell q3 o
    go_wp2_with fail
    clear q0 q1 q2 q3 q0a q1a q2a q3a
    refine (eqRecord_any _ _ y y _ (HH.out.below (below_al (Below.refl _ _) _)).toV (HW.out.below (below_al (Below.refl _ _) _)).toV).mono ?_
    rw [decide_eq_true rfl]
    rintro e w15 ⟨rfl, b15⟩
    have bq := below_chain (below_al (Below.refl w14.heap.size w14) _) b15
    clear HH HW HWB b15
    replace HGB := Lib.hid (HGB.out.kept bq)
    replace HM := Lib.hid (HM.out.below bq)
    replace bb := below_chain bb bq
    clear bq
    obtain ⟨g0, g1, g2, g3⟩ := HGB.out
    go_wp2_with fail
    clear g0 g1 g2 g3
    refine (heldRecord_any _ y 1 y.evs.length _ (Nat.le_refl _) (by omega) HM.out.toV).mono ?_
    rintro e w16 ⟨rfl, bh⟩
    go_wp2_with fail
    go_ret
    exact ⟨rfl, below_chain bb bh⟩

/-- What the row's list gives: the powers of ten lie in their table. -/
theorem fnExactParseRecord_table {W : World} (h : laidMetH Tryd.prog Rows.fnExactParseRecordRow.laid W) : Tab W := by
  obtain ⟨ps, ⟨_, _, _, _, _, _, _, _, _, _, ⟨_, _, _, _, _, _, _, _, _, _, ⟨g', t', cs, fuel, p, q, hg', ht', hvar, hd, _, _⟩, _⟩, _⟩, _⟩ := (show laidMet Tryd.prog Rows.fnExactParseRecordRow.laid W from h)
  obtain rfl := Option.some.inj (gTab.symm.trans hg')
  obtain rfl := Option.some.inj ((show (Tryd.prog.globals[2]?).map (·.type) = some 111 by kernel_rfl).symm.trans ht')
  show Lib.TabIs _ _ _ _ _
  unfold Lib.TabIs
  rw [hvar, ← Lib.cells_of_tab Tryd.underlying111 Tryd.underlying105 (by kernel_rfl) (by kernel_rfl) hd]
/-- A world for the witness: the settled one, each listed table holding what its initialiser lays. -/
noncomputable def fnExactParseRecord_world (os : Os) : World :=
  { World.holding Tryd.prog os ⟨#[], #[], []⟩ with heap := ((((World.holding Tryd.prog os ⟨#[], #[], []⟩).heap.modify 3 fun
      | .cells _ t frozen => .cells #[.int .u8 0, .int .u8 1, .int .u8 28, .int .u8 2, .int .u8 29, .int .u8 14, .int .u8 24, .int .u8 3, .int .u8 30, .int .u8 22, .int .u8 20, .int .u8 15, .int .u8 25, .int .u8 17, .int .u8 4, .int .u8 8, .int .u8 31, .int .u8 27, .int .u8 13, .int .u8 23, .int .u8 21, .int .u8 19, .int .u8 16, .int .u8 7, .int .u8 26, .int .u8 12, .int .u8 18, .int .u8 6, .int .u8 11, .int .u8 5, .int .u8 10, .int .u8 9] t frozen
      | o => o).modify 4 fun
      | .cells _ t frozen => .cells #[.int .u8 0, .int .u8 1, .int .u8 56, .int .u8 2, .int .u8 57, .int .u8 49, .int .u8 28, .int .u8 3, .int .u8 61, .int .u8 58, .int .u8 42, .int .u8 50, .int .u8 38, .int .u8 29, .int .u8 17, .int .u8 4, .int .u8 62, .int .u8 47, .int .u8 59, .int .u8 36, .int .u8 45, .int .u8 43, .int .u8 51, .int .u8 22, .int .u8 53, .int .u8 39, .int .u8 33, .int .u8 30, .int .u8 24, .int .u8 18, .int .u8 12, .int .u8 5, .int .u8 63, .int .u8 55, .int .u8 48, .int .u8 27, .int .u8 60, .int .u8 41, .int .u8 37, .int .u8 16, .int .u8 46, .int .u8 35, .int .u8 44, .int .u8 21, .int .u8 52, .int .u8 32, .int .u8 23, .int .u8 11, .int .u8 54, .int .u8 26, .int .u8 40, .int .u8 15, .int .u8 34, .int .u8 20, .int .u8 31, .int .u8 10, .int .u8 25, .int .u8 14, .int .u8 19, .int .u8 9, .int .u8 13, .int .u8 8, .int .u8 7, .int .u8 6] t frozen
      | o => o).modify 2 fun
      | .cells _ t frozen => .cells #[.int .u64 1, .int .u64 10, .int .u64 100, .int .u64 1000, .int .u64 10000, .int .u64 100000, .int .u64 1000000, .int .u64 10000000, .int .u64 100000000, .int .u64 1000000000, .int .u64 10000000000, .int .u64 100000000000, .int .u64 1000000000000, .int .u64 10000000000000, .int .u64 100000000000000, .int .u64 1000000000000000, .int .u64 10000000000000000, .int .u64 100000000000000000, .int .u64 1000000000000000000, .int .u64 10000000000000000000] t frozen
      | o => o) }
theorem fnExactParseRecord_met (os : Os) : laidMet Tryd.prog Rows.fnExactParseRecordRow.laid ((fnExactParseRecord_world os).forCall (fun _ _ => 0) ⟨#[], #[.string ByteArray.empty], []⟩).memory :=
  laidMet_of_run' 8 (by kernel_rfl) (by kernel_rfl)
theorem fnExactParseRecord_reads (os : Os) {H : Type} (enc : TypeId × Value → H) : ∃ places, DataW.whole enc Tryd.prog ((fnExactParseRecord_world os).forCall (fun _ _ => 0) ⟨#[], #[.string ByteArray.empty], []⟩).memory Tryd.f3.params.toList Rows.fnExactParseRecordSpec.vars false (#[.string ByteArray.empty] : Array Value).toList 8 = some ([.lit (.string [])], [], places) :=
  ⟨[], by kernel_rfl⟩

set_option maxRecDepth 100000 in
theorem fnExactParseRecord_contract (H : Type) (enc : TypeId × Value → H) (W : World) (base : Nat) (args : Array Value) (ds gs : List (DataW H)) (before : List MemPlace)
    (hval0 : ∀ (j : Nat) t v, Tryd.f3.params[j]? = some t → args[j]? = some v → Value.okWide Tryd.prog W .any base t v)
    (hW : DataW.Whole enc Tryd.prog Tryd.f3.params.toList Rows.fnExactParseRecordSpec.vars false W args.toList ds gs before) (hL : laidMetH Tryd.prog Rows.fnExactParseRecordRow.laid W) (hsh : W.ShapedOpen Tryd.prog) :
    Calls Tryd.prog 3 args W fun e W' => ∃ v, e = .returned v ∧ Rows.fnExactParseRecordSpec.post enc Tryd.prog Tryd.f3 false true false false W args v W' := by
  have hval := hval0
  have hW' := hW
  obtain ⟨p, q, hA0, hV, rfl, hfz, hnd⟩ := hW
  have hA : DataW.TrodAll enc Tryd.prog W 0 (fun _ => true) true Tryd.f3.params.toList args.toList ds p := hA0
  rw [Tryd.params3] at hA hval
  obtain ⟨v0, vs0, d0, ds0, p0, q0, hargs, rfl, rfl, h0, r0⟩ := trodAll_cons hA
  obtain ⟨rfl, rfl, rfl⟩ := trodAll_nil r0
  obtain rfl : args = #[v0] := by cases args; simp_all
  obtain ⟨rfl, rfl⟩ := trodVars_none hV
  obtain ⟨x0, w0⟩ := arg_str (hval 0 9 v0 rfl rfl) h0
  have lt0 : ∀ x ∈ p0, x.block < W.heap.size := by obtain ⟨m, hm⟩ := h0; exact DataW.trod_lt m _ _ _ hm
  clear hA0 hval0
  refine (walkParseRecord v0 x0 W w0 ⟨fnExactParseRecord_table hL, maxSome hsh⟩).mono fun e W' ⟨he, bel⟩ => ?_
  subst he
  exact ⟨_, rfl, _, _, _, [], _, [], hW', trodAll_mk1 (shut_bool Tryd.underlying4 _), (trodAll_cons_mk (Below.trod Tryd.laidOut (by kernel_rfl) (of_decide_eq_true (by kernel_rfl)) h0 bel lt0) trodAll_mk0), rfl, bel.frame _, fun h => by cases h⟩

set_option maxRecDepth 100000 in
theorem fnExactParseRecord_lifted (os : Os) (started : os.Started) (H : Type) (enc : TypeId × Value → H) (F : Stop.Interp) :
    ReturnsInHanded {} Tryd.checked os 3 .any ((OpenSpec.ofChange Rows.fnExactParseRecordSpec).preRow enc Tryd.prog Tryd.f3 Rows.fnExactParseRecordRow.domain false Rows.fnExactParseRecordRow.laid) (((OpenSpec.ofChange Rows.fnExactParseRecordSpec).at F).post enc Tryd.prog Tryd.f3 false true false false) := by
  obtain ⟨places, hx⟩ := fnExactParseRecord_reads os enc
  refine returnsInHanded_of_row (C := Tryd.checked) (s := OpenSpec.ofChange Rows.fnExactParseRecordSpec) Tryd.own started (by kernel_rfl) Tryd.func3
    (witness_row_at (enc := enc) (C := Tryd.checked) false (fnExactParseRecord_world os) #[.string ByteArray.empty] rfl (by kernel_rfl) (by kernel_rfl) (by kernel_rfl)
      (OpenSpec.preRow_of_cond 8 hx (by kernel_rfl) (fun k hk => by cases hk) (by kernel_rfl) (fnExactParseRecord_met os))) ?_
  intro W base args ds gs before hval hW _ _ _ hL hsh _
  exact fnExactParseRecord_contract H enc W base args ds gs before hval hW hL hsh

theorem fnExactParseRecord_said : Rows.FnExactParseRecordSaid :=
  OpenClaim.holds_of_cond 3 Tryd.f3 rfl rfl rfl rfl rfl rfl rfl ⟨rfl, rfl, rfl, rfl, rfl⟩ rfl rfl rfl rfl rfl (by kernel_rfl) Tryd.func3 (by kernel_rfl)
    (of_decide_eq_true (by kernel_rfl)) (by unfold Func.isWrapper; first | (rw [if_pos (by decide +kernel)]; kernel_rfl) | (rw [if_neg (by decide +kernel)]; exact ⟨rfl, rfl⟩))
    (fun os started H enc _ F => by rw [OpenClaim.pre_eq_preRow]; exact fnExactParseRecord_lifted os started H enc F)

theorem fnExactParseRecord_plain (f : FuncId) (fn : Func) (hf : Tryd.pinned.checked.prog.funcNamed "loop.example/g01035/laws.FnExactParseRecord" = some f) (hfn : Tryd.pinned.checked.prog.funcs[f]? = some fn) :
    false = Tryd.pinned.checked.prog.looks [] ∧ ∀ (j : Nat) t, fn.params[j]? = some t → Tryd.pinned.checked.prog.wantsStandIn t = false := by
  obtain rfl : f = 3 := Option.some.inj ((show Tryd.prog.funcNamed "loop.example/g01035/laws.FnExactParseRecord" = some 3 by kernel_rfl).symm.trans hf) |>.symm
  obtain rfl : fn = Tryd.f3 := (Option.some.inj (Tryd.func3.symm.trans hfn)).symm
  refine ⟨by kernel_rfl, fun j t ht => ?_⟩
  rw [Tryd.params3] at ht
  have hm := Array.mem_of_getElem? ht
  simp only [List.mem_toArray, List.mem_cons, List.mem_nil_iff, or_false] at hm
  subst hm
  exact (show Tryd.prog.wantsStandIn 9 = false by kernel_rfl)

/-- THE CARD. -/
theorem fnExactParseRecord_proved : Rows.FnExactParseRecordCardSaid :=
  Claim7.holds_tied_plain_at .later [] _ _ _ _ fnExactParseRecord_said (fun _ h => by cases h) (by kernel_rfl) (fun _ h => by cases h) fnExactParseRecord_row_tie rfl ⟨rfl, rfl⟩ (by kernel_rfl) rfl fnExactParseRecord_plain (by kernel_rfl)
