/- The law FnExactPutRule: at every argument the call answers true. No condition. -/
import Derived.Test.YtpcdjpkcalbpkaaDoorPutRuI
import Derived.Test.YtpcdjpkcalbpkaaDoorEqRu
import Derived.Test.YtpcdjpkcalbpkaaDoorMarkRu
import Derived.Test.YtpcdjpkcalbpkaaDoorFrame
import Derived.Test.YtpcdjpkcalbpkaaDoorCards
import Derived.Test.YtpcdjpkcalbpkaaDoorTie
import Derived.Deep.DeepHandedRow
import Derived.Stop.LaidTwo
import Derived.ProofKit
import Derived.Deep.RegionHeld3
namespace Go.Proofs.YtpcdjpkcalbpkaaDoor
set_option linter.unusedVariables false
open Go.ChangeShapes Go.WideShapes Go.ChangeAt Go.RowKit

set_option maxHeartbeats 4000000 in
theorem walkPutRule (v : Value) (x : List Ru) (v1 : Value) (r : Ru) (W : World) (h : RowR 4 rRu W v x) (h1 : RuV W v1 r) (a0 a1 : Addr) (hE : ErrEnv W a0 a1) :
    Calls Tryd.prog 3 #[v, v1] W fun e w' => e = .returned (.bool true) ∧ Below W.heap.size W w' := by
  obtain ⟨rfl, k1⟩ := h1
  have H := Lib.hid h
  clear h
  have HE := Lib.hid hE
  clear hE
  obtain ⟨xs, b, hb⟩ : ∃ xs b, putRes x r = (xs, b) := ⟨_, _, rfl⟩
  have HB := Lib.hid hb
  have hxl : xs.length ≤ x.length + 1 := by
    have := putRes_len hb; omega
  have HXL := Lib.hid hxl
  clear hb hxl
  have eb_b : (b != b) = false := by simp
  go_enter Tryd.func3, Tryd.ntmps3
  go_wp2_with fail
  generalize hW1 : W.alloc (.cells #[.int .i64 r.series, .int .i64 r.event, .int .i64 r.days, .int .i64 r.act] 24 (0, 0)) = W1
  have bW : Below W.heap.size W W1 := by rw [← hW1]; exact below_al (Below.refl _ _) _
  have z0 : W1.cell? ⟨W.heap.size, 0, none⟩ = some (.int .i64 r.series) := by rw [← hW1]; exact cell_new W _ _ 0 rfl
  have z1 : W1.cell? ⟨W.heap.size, 1, none⟩ = some (.int .i64 r.event) := by rw [← hW1]; exact cell_new W _ _ 1 rfl
  have z2 : W1.cell? ⟨W.heap.size, 2, none⟩ = some (.int .i64 r.days) := by rw [← hW1]; exact cell_new W _ _ 2 rfl
  have z3 : W1.cell? ⟨W.heap.size, 3, none⟩ = some (.int .i64 r.act) := by rw [← hW1]; exact cell_new W _ _ 3 rfl
  have HB := HB
  have H1 := Lib.hid (H.out.below rRu_stable bW)
  have HBW := Lib.hid bW
  clear hW1 H bW
  have HE1 := Lib.hid (HE.out.below HBW.out)
  clear HE
  refine (szRuS_any _ x 1048576 _ H1.out (by omega) (by omega)).mono ?_
  rintro e w1 ⟨n, rfl, hfit, hn, hnl, b1⟩
  have HN := Lib.hid hn
  have HFIT := Lib.hid hfit
  clear hn hfit
  by_cases hneg : n < 0
  · go_wp2_with fail
    go_ret
    exact ⟨rfl, HBW.out.trans (b1.mono HBW.out.size)⟩
  · have hsz : x.length ≤ 1048576 := by have := HFIT.out; omega
    go_wp2_with fail
    have c0 := cell_kept z0 b1
    have c1 := cell_kept z1 b1
    have c2 := cell_kept z2 b1
    have c3 := cell_kept z3 b1
    go_region_held3 (fun w' => w'.cell? ⟨W.heap.size, 0, none⟩ = some (.int .i64 r.series) ∧ w'.cell? ⟨W.heap.size, 1, none⟩ = some (.int .i64 r.event) ∧ w'.cell? ⟨W.heap.size, 2, none⟩ = some (.int .i64 r.days) ∧ w'.cell? ⟨W.heap.size, 3, none⟩ = some (.int .i64 r.act)) (first | exact ⟨c0, c1, c2, c3⟩ | go_keep) (first | (go_at_call 9; refine (toRuS_some _ x _ (H1.out.below rRu_stable b1.drew) (by omega)).mono ?_; rintro e w2 ⟨v2, rfl, ho2, b2, hsm2⟩; replace b1 := below_chain b1.drew b2; have hsm : ∃ ad c, v2 = .slice (some ad) x.length c := (by obtain ⟨g, c, e⟩ := hsm2; exact ⟨_, _, e⟩); clear hsm2; replace c0 := cell_kept z0 b1; replace c1 := cell_kept z1 b1; replace c2 := cell_kept z2 b1; replace c3 := cell_kept z3 b1) | (go_at_call 10; refine (toRu_any r _).mono ?_; rintro e wx ⟨rfl, bx⟩; replace b1 := below_chain b1 bx; replace ho2 := ho2.below bx; replace c0 := cell_kept z0 b1; replace c1 := cell_kept z1 b1; replace c2 := cell_kept z2 b1; replace c3 := cell_kept z3 b1) | (go_at_call 8; refine (specPutRule_any _ x r _ ho2.row k1 (by omega) xs b HB.out).mono ?_; rintro e w3 ⟨vw, rfl, hw, b3⟩; replace b1 := below_chain b1 b3; replace c0 := cell_kept z0 b1; replace c1 := cell_kept z1 b1; replace c2 := cell_kept z2 b1; replace c3 := cell_kept z3 b1))
    have b3' := b1.size
    clear ho2 b2 b3 bx hsm
    clear c0 c1 c2 c3
    go_wp2_with fail
    refine (toRuS_any _ x _ (H1.out.below rRu_stable b1) (by omega)).mono ?_
    rintro e w4a ⟨v4, rfl, ho4, b4⟩
    replace b1 := below_chain b1 b4
    replace hw := hw.below b4
    have c0 := cell_kept z0 b1
    have c1 := cell_kept z1 b1
    have c2 := cell_kept z2 b1
    have c3 := cell_kept z3 b1
    go_wp2_with fail
    refine (toRu_any r _).mono ?_
    rintro e w4 ⟨rfl, by4⟩
    replace b1 := below_chain b1 by4
    replace ho4 := (ho4.below by4).wide (Nat.le_refl _) by4.size
    have s34 := Nat.le_trans b4.size by4.size
    replace hw := hw.below by4
    clear b4 by4
    clear c0 c1 c2 c3
    go_wp2_with fail
    refine (implPutRule_any _ x r a0 a1 _ ho4.row k1 (HE1.out.below b1) (by omega) xs b HB.out).mono ?_
    rintro e w5 ⟨vg, rfl, hg, b5⟩
    replace b1 := below_chain b1 b5
    have hx4 := ho4.row.below rRu_stable b5
    have HX4 := Lib.hid hx4
    have HO4 := Lib.hid ho4
    replace hw := hw.below b5
    have HW := Lib.hid hw
    have HG := Lib.hid hg
    clear ho4 hx4 hw hg
    go_wp2_with fail
    refine (eqRuS_any _ _ xs xs _ HG.out.row HW.out.row).mono ?_
    rw [decide_eq_true rfl]
    rintro e w6 ⟨rfl, b6⟩
    go_wp2_with fail
    refine (toRuS_any _ x _ (H1.out.below rRu_stable (below_chain b1 b6)) (by omega)).mono ?_
    rintro e w7 ⟨v7, rfl, ho7, b7⟩
    have b67 := below_chain b6 b7
    go_wp2_with fail
    refine (eqRuS_any _ _ x x _ (HX4.out.below rRu_stable b67) ho7.row).mono ?_
    rw [decide_eq_true rfl]
    rintro e w8 ⟨rfl, b8⟩
    have b58 := below_chain b67 b8
    have s48 : w4.heap.size ≤ w8.heap.size := Nat.le_trans b5.size b58.size
    clear ho7 b6 b7 b67 b8
    have hx8 := (HO4.out.below b5).below b58
    have HX8 := Lib.hid hx8
    have hw8 := HW.out.below b58
    have HW8 := Lib.hid hw8
    have hg8 := HG.out.below b58
    have HG8 := Lib.hid hg8
    replace b1 := below_chain b1 b58
    clear hx8 hw8 hg8 HW HG HO4 HX4 b5
    go_wp2_with fail
    refine (markRuS_any _ x _ _ 1 _ (Nat.le_refl _) (by omega) HX8.out).mono ?_
    rintro e w9 ⟨rfl, _, on9⟩
    have s93 : W1.heap.size ≤ w3.heap.size := b3'
    have s410 : w4.heap.size ≤ w9.heap.size := Nat.le_trans s48 on9.size
    replace b1 := b1.trans ((on9.below (Nat.le_trans s34 s48)).mono s93)
    have hw9 := HW8.out.only2 on9 (Nat.le_refl _)
    have hg9 := HG8.out.only on9 (Nat.le_refl _)
    have HW9 := Lib.hid hw9
    have HG9 := Lib.hid hg9
    clear hw9 hg9 on9 HW8 HG8 HX8
    have kn0 : (0 : Int) ≤ ((1 + x.length * 4 : Nat) : Int) := by omega
    go_wp2_with fail
    refine (eqRuS_any _ _ xs xs _ HG9.out.row HW9.out.row).mono ?_
    rw [decide_eq_true rfl]
    rintro e w10 ⟨rfl, b10⟩
    replace b1 := below_chain b1 b10
    replace s410 := Nat.le_trans s410 b10.size
    have hw9 := HW9.out.below b10
    have hg9 := HG9.out.below b10
    have HW := Lib.hid hw9
    have HG := Lib.hid hg9
    clear hw9 hg9 HW9 HG9 b10
    have hxl := HXL.out
    go_wp2_with fail
    refine (markRuS_any _ xs _ _ 1 _ (Nat.le_refl _) (by omega) HG.out).mono ?_
    rintro e w11 ⟨rfl, hg11, on11⟩
    have hw11 := HW.out.only2 on11 s34
    have HG11 := Lib.hid hg11
    have HW11 := Lib.hid hw11
    replace b1 := b1.trans ((on11.below s410).mono (Nat.le_trans s93 s34))
    clear hg11 hw11 on11 HG HW
    have en : (((1 + xs.length * 4 : Nat) : Int) != ((1 + xs.length * 4 : Nat) : Int)) = false := by simp
    go_wp2_with fail
    refine (heldRuS_any _ 1 xs.length _ (Nat.le_refl _) (by omega) HG11.out.row).mono ?_
    rintro e w12 ⟨rfl, b12⟩
    replace b1 := below_chain b1 b12
    have hg12 := HG11.out.below b12
    have hw12 := HW11.out.below b12
    have HG12 := Lib.hid hg12
    have HW12 := Lib.hid hw12
    clear hg12 hw12 b12 HG11 HW11
    go_wp2_with fail
    have c0 := cell_kept z0 b1
    have c1 := cell_kept z1 b1
    have c2 := cell_kept z2 b1
    have c3 := cell_kept z3 b1
    go_region_held3 (fun w' => w'.cell? ⟨W.heap.size, 0, none⟩ = some (.int .i64 r.series) ∧ w'.cell? ⟨W.heap.size, 1, none⟩ = some (.int .i64 r.event) ∧ w'.cell? ⟨W.heap.size, 2, none⟩ = some (.int .i64 r.days) ∧ w'.cell? ⟨W.heap.size, 3, none⟩ = some (.int .i64 r.act)) (first | exact ⟨c0, c1, c2, c3⟩ | go_keep) (first | (go_at_call 9; refine (toRuS_any _ x _ (H1.out.below rRu_stable b1.drew) (by omega)).mono ?_; rintro e w13 ⟨v13, rfl, ho13, b13⟩; replace b1 := below_chain b1.drew b13; have hg13 := HG12.out.below (below_chain (Below.refl _ _).drew b13); have hw13 := HW12.out.below (below_chain (Below.refl _ _).drew b13); clear b13 HG12 HW12; replace c0 := cell_kept z0 b1; replace c1 := cell_kept z1 b1; replace c2 := cell_kept z2 b1; replace c3 := cell_kept z3 b1) | (go_at_call 10; refine (toRu_any r _).mono ?_; rintro e w13b ⟨rfl, bx⟩; replace b1 := below_chain b1 bx; replace ho13 := ho13.below bx; have HG13 := Lib.hid (hg13.below bx); have HW13 := Lib.hid (hw13.below bx); clear hg13 hw13; replace c0 := cell_kept z0 b1; replace c1 := cell_kept z1 b1; replace c2 := cell_kept z2 b1; replace c3 := cell_kept z3 b1) | (go_at_call 11; refine (implPutRule_any _ x r a0 a1 _ ho13.row k1 (HE1.out.below b1) (by omega) xs b HB.out).mono ?_; rintro e w14 ⟨vh, rfl, hh, b14⟩; replace b1 := below_chain b1 b14; replace c0 := cell_kept z0 b1; replace c1 := cell_kept z1 b1; replace c2 := cell_kept z2 b1; replace c3 := cell_kept z3 b1))
    clear c0 c1 c2 c3
    have hg14 := HG13.out.below b14
    have hw14 := HW13.out.below b14
    have HG14 := Lib.hid hg14
    have HW14 := Lib.hid hw14
    have HH := Lib.hid hh
    clear hg14 hw14 b14 HG13 HW13 hh ho13
    go_wp2_with fail
    refine (eqRuS_any _ _ xs xs _ HH.out.row HW14.out.row).mono ?_
    rw [decide_eq_true rfl]
    rintro e w15 ⟨rfl, b15⟩
    replace b1 := below_chain b1 b15
    have hg15 := HG14.out.below b15
    have HG15 := Lib.hid hg15
    clear hg15 b15 HG14 HW14 HH
    go_wp2_with fail
    refine (heldRuS_any _ 1 xs.length _ (Nat.le_refl _) (by omega) HG15.out.row).mono ?_
    rintro e w16 ⟨rfl, b16⟩
    replace b1 := below_chain b1 b16
    go_wp2_with fail
    go_ret
    exact ⟨rfl, HBW.out.trans (b1.mono HBW.out.size)⟩
/-- The errors' texts, where they lie in the witness. -/
abbrev fnExactPutRule_s0 : ByteArray := { data := #[116, 104, 101, 32, 108, 105, 115, 116, 32, 105, 115, 32, 110, 111, 32, 115, 99, 104, 101, 100, 117, 108, 101] }
abbrev fnExactPutRule_s1 : ByteArray := { data := #[116, 104, 101, 32, 115, 99, 104, 101, 100, 117, 108, 101, 32, 104, 97, 115, 32, 110, 111, 32, 114, 117, 108, 101, 32, 102, 111, 114, 32, 116, 104, 101, 32, 115, 101, 114, 105, 101, 115, 32, 97, 110, 100, 32, 116, 104, 101, 32, 101, 118, 101, 110, 116] }
noncomputable def fnExactPutRule_low : Nat := (World.holding Tryd.prog default ⟨#[], #[], []⟩).heap.size
noncomputable def fnExactPutRule_world (os : Os) : World :=
  let w0 := World.holding Tryd.prog os ⟨#[.cells #[.string fnExactPutRule_s0] 157, .cells #[.string fnExactPutRule_s1] 157], #[], []⟩
  { w0 with heap := (w0.heap.modify 0 fun
      | .cells _ t frozen => .cells #[.iface 134 (.pointer (some ⟨fnExactPutRule_low, 0, none⟩))] t frozen
      | o => o).modify 1 fun
      | .cells _ t frozen => .cells #[.iface 134 (.pointer (some ⟨fnExactPutRule_low + 1, 0, none⟩))] t frozen
      | o => o }
theorem fnExactPutRule_met (os : Os) : laidMet Tryd.prog Rows.fnExactPutRuleRow.laid ((fnExactPutRule_world os).forCall (fun _ _ => 0) ⟨#[], #[.slice none 0 0, .agg #[.int .i64 0, .int .i64 0, .int .i64 0, .int .i64 0]], []⟩).memory :=
  laidMet_of_run (ps := [.cell 0 0, .cell fnExactPutRule_low 0, .cell 1 0, .cell (fnExactPutRule_low + 1) 0]) 8 (by kernel_rfl) (by kernel_rfl) (by kernel_rfl)
theorem fnExactPutRule_reads (os : Os) {H : Type} (enc : TypeId × Value → H) : ∃ places, DataW.whole enc Tryd.prog ((fnExactPutRule_world os).forCall (fun _ _ => 0) ⟨#[], #[.slice none 0 0, .agg #[.int .i64 0, .int .i64 0, .int .i64 0, .int .i64 0]], []⟩).memory Tryd.f3.params.toList Rows.fnExactPutRuleSpec.vars false (#[.slice none 0 0, .agg #[.int .i64 0, .int .i64 0, .int .i64 0, .int .i64 0]] : Array Value).toList 8 = some ([.nil, .agg [.lit (.int .i64 0), .lit (.int .i64 0), .lit (.int .i64 0), .lit (.int .i64 0)]], [.held (enc (134, .pointer (some ⟨fnExactPutRule_low, 0, none⟩))), .held (enc (134, .pointer (some ⟨fnExactPutRule_low + 1, 0, none⟩)))], places) :=
  ⟨[.cell 0 0, .cell 1 0], by kernel_rfl⟩
theorem fnExactPutRule_g0 : Tryd.prog.globalNamed "loop.example/g01035/impl.errNoSchedule" = some 0 := by kernel_rfl
theorem fnExactPutRule_g1 : Tryd.prog.globalNamed "loop.example/g01035/impl.errNoRule" = some 1 := by kernel_rfl
theorem fnExactPutRule_t0 : (Tryd.prog.globals[0]?).map (·.type) = some 47 := by kernel_rfl
theorem fnExactPutRule_t1 : (Tryd.prog.globals[1]?).map (·.type) = some 47 := by kernel_rfl
theorem fnExactPutRule_star : "*" ++ "errors.errorString" = "*errors.errorString" := by decide
theorem fnExactPutRule_ptr (u : TypeId) (h : Tryd.prog.typeName? 3 u = some "*errors.errorString") : u = 134 :=
  typeName_ptr_named (nm := "errors.errorString") (by rw [fnExactPutRule_star]; kernel_rfl) (by kernel_rfl) (by decide) u (by rw [fnExactPutRule_star]; exact h)

set_option maxRecDepth 100000 in
theorem fnExactPutRule_contract (H : Type) (enc : TypeId × Value → H) (W : World) (base : Nat) (args : Array Value) (ds gs : List (DataW H)) (before : List MemPlace)
    (hval0 : ∀ (j : Nat) t v, Tryd.f3.params[j]? = some t → args[j]? = some v → Value.okWide Tryd.prog W .any base t v)
    (hW : DataW.Whole enc Tryd.prog Tryd.f3.params.toList Rows.fnExactPutRuleSpec.vars false W args.toList ds gs before) (hL : laidMetH Tryd.prog Rows.fnExactPutRuleRow.laid W) :
    Calls Tryd.prog 3 args W fun e W' => ∃ v, e = .returned v ∧ Rows.fnExactPutRuleSpec.post enc Tryd.prog Tryd.f3 false true false false W args v W' := by
  have hval := hval0
  have hW' := hW
  obtain ⟨p, q, hA0, hV, rfl, hfz, hnd⟩ := hW
  have hA : DataW.TrodAll enc Tryd.prog W 0 (fun _ => true) true Tryd.f3.params.toList args.toList ds p := hA0
  rw [Tryd.params3] at hA hval
  obtain ⟨v0, vs0, d0, ds0, p0, q0, hargs, rfl, rfl, h0, r0⟩ := trodAll_cons hA
  obtain ⟨v1, vs1, d1, ds1, p1, q1, rfl, rfl, rfl, h1, r1⟩ := trodAll_cons r0
  obtain ⟨rfl, rfl, rfl⟩ := trodAll_nil r1
  obtain rfl : args = #[v0, v1] := by cases args; simp_all
  have hV2 : DataW.TrodVars enc Tryd.prog W (fun _ => true) ["loop.example/g01035/impl.errNoSchedule", "loop.example/g01035/impl.errNoRule"] gs q := hV
  obtain ⟨a0, a1, s0, s1, c0, c1, t0, t1, hv0, hv1, hc0, hs0, hz0, hc1, hs1, hz1, hne, hb0, hb1⟩ := laid_sentinels2 (show laidMet Tryd.prog Rows.fnExactPutRuleRow.laid W from hL) fnExactPutRule_g0 fnExactPutRule_t0 fnExactPutRule_g1 fnExactPutRule_t1 Tryd.underlying47 fnExactPutRule_ptr Tryd.underlying134 Tryd.underlying157 rfl rfl Tryd.underlying9 (by kernel_rfl) (by kernel_rfl)
  have vr : ∀ {X : World}, X.var? Tryd.prog "loop.example/g01035/impl.errNoSchedule" = some #[.iface 134 (.pointer (some a0))] → X.var? Tryd.prog "loop.example/g01035/impl.errNoRule" = some #[.iface 134 (.pointer (some a1))] → ∀ sp : Nat → Bool,
      DataW.TrodVars enc Tryd.prog X sp ["loop.example/g01035/impl.errNoSchedule", "loop.example/g01035/impl.errNoRule"] [.held (enc (134, .pointer (some a0))), .held (enc (134, .pointer (some a1)))] [.cell 0 0, .cell 1 0] :=
    fun x0 x1 sp => vars_read2 enc fnExactPutRule_g0 fnExactPutRule_t0 Tryd.underlying47 x0 trivial fnExactPutRule_g1 fnExactPutRule_t1 Tryd.underlying47 x1 trivial sp
  obtain ⟨rfl, rfl⟩ := hV2.unique (vr hv0 hv1 _)
  have hE : ErrEnv W a0 a1 := ⟨by simpa using World.var?_cell fnExactPutRule_g0 hv0 0, by simpa using World.var?_cell fnExactPutRule_g1 hv1 0, hne, ⟨c0, t0, hb0⟩, ⟨c1, t1, hb1⟩⟩
  obtain ⟨x0, w0⟩ := arg_rus (hval 0 22 v0 rfl rfl) h0
  have lt0 : ∀ x ∈ p0, x.block < W.heap.size := by obtain ⟨m, hm⟩ := h0; exact DataW.trod_lt m _ _ _ hm
  obtain ⟨x1, w1⟩ := arg_ru (hval 1 24 v1 rfl rfl) h1
  have lt1 : ∀ x ∈ p1, x.block < W.heap.size := by obtain ⟨m, hm⟩ := h1; exact DataW.trod_lt m _ _ _ hm
  clear hA0 hval0
  refine (walkPutRule v0 x0 v1 x1 W w0 w1 a0 a1 hE).mono fun e W' ⟨he, bel⟩ => ?_
  subst he
  exact ⟨_, rfl, _, _, _, [], _, [.cell 0 0, .cell 1 0], hW', trodAll_mk1 (shut_bool Tryd.underlying4 _), (trodAll_cons_mk (Below.trod Tryd.laidOut (by kernel_rfl) (of_decide_eq_true (by kernel_rfl)) h0 bel lt0) (trodAll_cons_mk (Below.trod Tryd.laidOut (by kernel_rfl) (of_decide_eq_true (by kernel_rfl)) h1 bel lt1) trodAll_mk0)), vr (var?_below bel fnExactPutRule_g0 (World.block_lt_of_cell? _ _ hE.c0) hv0) (var?_below bel fnExactPutRule_g1 (World.block_lt_of_cell? _ _ hE.c1) hv1) _, bel.frame _, fun h => by cases h⟩

set_option maxRecDepth 100000 in
theorem fnExactPutRule_lifted (os : Os) (started : os.Started) (H : Type) (enc : TypeId × Value → H) (F : Stop.Interp) :
    ReturnsInHanded {} Tryd.checked os 3 .any ((OpenSpec.ofChange Rows.fnExactPutRuleSpec).preRow enc Tryd.prog Tryd.f3 Rows.fnExactPutRuleRow.domain false Rows.fnExactPutRuleRow.laid) (((OpenSpec.ofChange Rows.fnExactPutRuleSpec).at F).post enc Tryd.prog Tryd.f3 false true false false) := by
  obtain ⟨places, hx⟩ := fnExactPutRule_reads os enc
  refine returnsInHanded_of_row (C := Tryd.checked) (s := OpenSpec.ofChange Rows.fnExactPutRuleSpec) Tryd.own started (by kernel_rfl) Tryd.func3
    (witness_row_at (enc := enc) (C := Tryd.checked) false (fnExactPutRule_world os) #[.slice none 0 0, .agg #[.int .i64 0, .int .i64 0, .int .i64 0, .int .i64 0]] rfl (by kernel_rfl) (by kernel_rfl) (by kernel_rfl)
      (OpenSpec.preRow_of_cond 8 hx (by kernel_rfl) (fun k hk => by cases hk) (by kernel_rfl) (fnExactPutRule_met os))) ?_
  intro W base args ds gs before hval hW _ _ _ hL _ _
  exact fnExactPutRule_contract H enc W base args ds gs before hval hW hL

theorem fnExactPutRule_said : Rows.FnExactPutRuleSaid :=
  OpenClaim.holds_of_cond 3 Tryd.f3 rfl rfl rfl rfl rfl rfl rfl ⟨rfl, rfl, rfl, rfl, rfl⟩ rfl rfl rfl rfl rfl (by kernel_rfl) Tryd.func3 (by kernel_rfl)
    (of_decide_eq_true (by kernel_rfl)) (by unfold Func.isWrapper; first | (rw [if_pos (by decide +kernel)]; kernel_rfl) | (rw [if_neg (by decide +kernel)]; exact ⟨rfl, rfl⟩))
    (fun os started H enc _ F => by rw [OpenClaim.pre_eq_preRow]; exact fnExactPutRule_lifted os started H enc F)

theorem fnExactPutRule_plain (f : FuncId) (fn : Func) (hf : Tryd.pinned.checked.prog.funcNamed "loop.example/g01035/laws.FnExactPutRule" = some f) (hfn : Tryd.pinned.checked.prog.funcs[f]? = some fn) :
    true = Tryd.pinned.checked.prog.looks [] ∧ ∀ (j : Nat) t, fn.params[j]? = some t → Tryd.pinned.checked.prog.wantsStandIn t = false := by
  obtain rfl : f = 3 := Option.some.inj ((show Tryd.prog.funcNamed "loop.example/g01035/laws.FnExactPutRule" = some 3 by kernel_rfl).symm.trans hf) |>.symm
  obtain rfl : fn = Tryd.f3 := (Option.some.inj (Tryd.func3.symm.trans hfn)).symm
  refine ⟨by kernel_rfl, fun j t ht => ?_⟩
  rw [Tryd.params3] at ht
  have hm := Array.mem_of_getElem? ht
  simp only [List.mem_toArray, List.mem_cons, List.mem_nil_iff, or_false] at hm
  rcases hm with rfl | rfl
  · exact (show Tryd.prog.wantsStandIn 22 = false by kernel_rfl)
  · exact (show Tryd.prog.wantsStandIn 24 = false by kernel_rfl)

/-- THE CARD. -/
theorem fnExactPutRule_proved : Rows.FnExactPutRuleCardSaid :=
  Claim7.holds_tied_plain_at .later [] _ _ _ _ fnExactPutRule_said (fun _ h => by cases h) (by kernel_rfl) (fun _ h => by cases h) fnExactPutRule_row_tie rfl ⟨rfl, rfl⟩ (by kernel_rfl) rfl fnExactPutRule_plain (by kernel_rfl)

end Go.Proofs.YtpcdjpkcalbpkaaDoor
