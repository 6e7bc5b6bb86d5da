/- The law FnExactDropEvent: at every record and every number the call answers true. No condition. -/
import Derived.Test.YtkhhkgjjhnplcaaDropS
import Derived.Test.YtkhhkgjjhnplcaaEqRec
import Derived.Test.YtkhhkgjjhnplcaaMarkRec
import Derived.Test.YtkhhkgjjhnplcaaFrame
namespace Go.Proofs.Ytkhhkgjjhnplcaa
set_option linter.unusedVariables false
open Go.ChangeShapes Go.WideShapes Go.ChangeAt Go.RowKit Go.Sort

/-- A record's box: its four cells. -/
def Box4 (w : World) (g : Nat) (r : Rec) (s : Value) : Prop := w.cell? ⟨g, 0, none⟩ = some (.int .i64 r.id) ∧ w.cell? ⟨g, 1, none⟩ = some (.int .i64 r.series) ∧ w.cell? ⟨g, 2, none⟩ = some (.int .i64 r.made) ∧ w.cell? ⟨g, 3, none⟩ = some s
theorem Box4.kept {a b : World} {g : Nat} {r : Rec} {s : Value} (h : Box4 a g r s) (hb : Below a.heap.size a b) : Box4 b g r s := ⟨cell_kept h.1 hb, cell_kept h.2.1 hb, cell_kept h.2.2.1 hb, cell_kept h.2.2.2 hb⟩
theorem Box4.only {a b : World} {g lo hi : Nat} {r : Rec} {s : Value} (h : Box4 a g r s) (ho : Only lo hi a b) (hg : g < lo ∨ hi ≤ g) : Box4 b g r s := by
  have hlt := World.block_lt_of_cell? _ _ h.1
  have hb := ho.block g hlt hg
  have key : ∀ j, b.cell? ⟨g, j, none⟩ = a.cell? ⟨g, j, none⟩ := fun j => World.cell?_of_block (w := a) hb
  exact ⟨(key 0).trans h.1, (key 1).trans h.2.1, (key 2).trans h.2.2.1, (key 3).trans h.2.2.2⟩
theorem Box4.new (w : World) (r : Rec) (s : Value) (t : TypeId) : Box4 (w.alloc (.cells #[.int .i64 r.id, .int .i64 r.series, .int .i64 r.made, s] t (0, 0))) w.heap.size r s := ⟨cell_new w _ _ 0 rfl, cell_new w _ _ 1 rfl, cell_new w _ _ 2 rfl, cell_new w _ _ 3 rfl⟩
theorem Box4.lt {a : World} {g : Nat} {r : Rec} {s : Value} (h : Box4 a g r s) : g < a.heap.size := World.block_lt_of_cell? _ _ h.1

theorem RecO.only2 {lo hi lo' hi' : Nat} {w w' : World} {v : Value} {r : Rec} (h : RecO lo hi w v r) (hb : Only lo' hi' w w') (hh : hi ≤ lo') : RecO lo hi w' v r := by
  obtain ⟨s, e, h, k⟩ := h
  exact ⟨s, e, ⟨h.1.only2 hb (h.2.2.up hh), h.2⟩, k⟩

set_option maxHeartbeats 8000000 in
theorem walkDropEvent (v : Value) (x : Rec) (v1 : Value) (kd : Int) (W : World) (h : RecV W v x) (h1 : v1 = .int .i64 kd ∧ inI kd) :
    Calls Try.prog 8 #[v, v1] W fun e w' => e = .returned (.bool true) ∧ Below W.heap.size W w' := by
  obtain ⟨rfl, hkd⟩ := h1
  obtain ⟨s, rfl, h1, hok⟩ := h
  have hV : ∀ W', Below W.heap.size W W' → RecV W' (.agg #[.int .i64 x.id, .int .i64 x.series, .int .i64 x.made, s]) x := fun W' hb => ⟨s, rfl, h1.below rEv_stable hb, hok⟩
  have HV := Lib.hid hV
  clear hV h1 hok
  by_cases hsz : (1048576 : Int) < x.evs.length
  · go_enter Try.func8, Try.ntmps8
    go_wp2_with fail
    have b1 := below_al (Below.refl W.heap.size W) (.cells #[.int .i64 x.id, .int .i64 x.series, .int .i64 x.made, s] 30 (0, 0))
    refine (szRecord_any _ x 1048576 _ (HV.out _ b1) (by omega) (by omega)).mono ?_
    rw [if_pos (by omega)]
    rintro e w1 ⟨rfl, b2⟩
    go_wp2_with fail
    go_ret
    exact ⟨rfl, below_chain b1 b2⟩
  · obtain ⟨y, b, hb⟩ : ∃ y b, dropRes x kd = (y, b) := ⟨_, _, rfl⟩
    have HB := Lib.hid hb
    have hyl : y.evs.length ≤ 1048576 := by
      unfold dropRes at hb
      split at hb
      · obtain ⟨rfl, _⟩ := Prod.mk.inj hb
        have : (delEv x.evs kd).length ≤ x.evs.length := by unfold delEv; rw [List.length_append, List.length_take, List.length_drop]; have := placeK_le x.evs kd; omega
        simp only
        omega
      · obtain ⟨rfl, _⟩ := Prod.mk.inj hb
        simp [recD]
    have eb : (b != b) = false := by simp
    clear hb
    go_enter Try.func8, Try.ntmps8
    go_wp2_with fail
    have b0 := below_al (Below.refl W.heap.size W) (.cells #[.int .i64 x.id, .int .i64 x.series, .int .i64 x.made, s] 30 (0, 0))
    have HA0 := Lib.hid (Box4.new W x s 30)
    refine (szRecord_any _ x 1048576 _ (HV.out _ b0) (by omega) (by omega)).mono ?_
    rw [if_neg (by omega)]
    rintro e w1 ⟨rfl, b1⟩
    have HA := Lib.hid (HA0.out.kept b1)
    have bb := below_chain b0 b1
    clear b0 b1 HA0
    obtain ⟨c0, c1, c2, c3⟩ := HA.out
    go_wp2_with fail
    clear c0 c1 c2 c3
    refine (toRecord_any _ x _ (HV.out _ bb) (by omega)).mono ?_
    rintro e w2 ⟨v2, rfl, ho2, b2⟩
    replace HA := Lib.hid (HA.out.kept b2)
    replace bb := below_chain bb b2
    go_wp2_with fail
    refine (specDropEvent_any _ x kd _ ho2.toV hkd y b HB.out).mono ?_
    rintro e w3 ⟨v3, rfl, hw, b3⟩
    obtain ⟨sw, rfl, hwe, hwo⟩ := hw
    obtain ⟨wa, wn, wc, rfl⟩ := hwe.1.slice
    replace HA := Lib.hid (HA.out.kept b3)
    replace bb := below_chain bb b3
    have HW := Lib.hid (show RecO _ _ _ _ _ from ⟨_, rfl, hwe, hwo⟩)
    have sw3 := bb.size
    clear ho2 b2 b3 hwe hwo
    obtain ⟨c0, c1, c2, c3⟩ := HA.out
    have c0a := fun o : Obj => below_al_cell c0 o
    have c1a := fun o : Obj => below_al_cell c1 o
    have c2a := fun o : Obj => below_al_cell c2 o
    have c3a := fun o : Obj => below_al_cell c3 o
    go_wp2_with fail
    clear c0 c1 c2 c3 c0a c1a c2a c3a
    have HWB0 := Lib.hid (Box4.new w3 y (.slice wa wn wc) 35)
    refine (toRecord_any _ x _ (HV.out _ (below_al bb _)) (by omega)).mono ?_
    rintro e w4 ⟨v4, rfl, hx, b4⟩
    obtain ⟨sx, rfl, hxe, hxo⟩ := hx
    obtain ⟨xa, xn, xc, rfl⟩ := hxe.1.slice
    have bl := below_chain (below_al (Below.refl w3.heap.size w3) _) b4
    replace HA := Lib.hid (HA.out.kept bl)
    replace HW := Lib.hid (HW.out.below bl)
    have HWB := Lib.hid (HWB0.out.kept b4)
    have HX := Lib.hid (show RecO (w3.heap.size + 1) w4.heap.size w4 (.agg #[.int .i64 x.id, .int .i64 x.series, .int .i64 x.made, .slice xa xn xc]) x from ⟨_, rfl, by simpa using hxe, hxo⟩)
    have s34 := bl.size
    have s34' : w3.heap.size + 1 ≤ w4.heap.size := by have := b4.size; simp at this; omega
    replace bb := below_chain bb bl
    clear b4 bl hxe hxo HWB0
    go_wp2_with fail
    have HXB0 := Lib.hid (Box4.new w4 x (.slice xa xn xc) 35)
    refine (implDropEvent_any _ x kd _ (HX.out.below (below_al (Below.refl _ _) _)).toV hkd y b HB.out).mono ?_
    rintro e w5 ⟨v5, rfl, hg, b5⟩
    obtain ⟨sg, rfl, hge, hgo⟩ := hg
    obtain ⟨ga, gn, gc, rfl⟩ := hge.1.slice
    have bl := below_chain (below_al (Below.refl w4.heap.size w4) _) b5
    replace HA := Lib.hid (HA.out.kept bl)
    replace HW := Lib.hid (HW.out.below bl)
    replace HWB := Lib.hid (HWB.out.kept bl)
    replace HX := Lib.hid (HX.out.below bl)
    have HXB := Lib.hid (HXB0.out.kept b5)
    have HG := Lib.hid (show RecO (w4.heap.size + 1) w5.heap.size w5 (.agg #[.int .i64 y.id, .int .i64 y.series, .int .i64 y.made, .slice ga gn gc]) y from ⟨_, rfl, by simpa using hge, hgo⟩)
    have s45 : w4.heap.size + 1 ≤ w5.heap.size := by have := b5.size; simp at this; omega
    replace bb := below_chain bb bl
    clear b5 bl hge hgo HXB0
    obtain ⟨q0, q1, q2, q3⟩ := HWB.out
    have q0a := fun o : Obj => below_al_cell q0 o
    have q1a := fun o : Obj => below_al_cell q1 o
    have q2a := fun o : Obj => below_al_cell q2 o
    have q3a := fun o : Obj => below_al_cell q3 o
    have HGB0 := Lib.hid (Box4.new w5 y (.slice ga gn gc) 35)
    go_wp2_with fail
    clear q0 q1 q2 q3 q0a q1a q2a q3a
    refine (eqRecord_any _ _ y y _ (HG.out.below (below_al (Below.refl _ _) _)).toV (HW.out.below (below_al (Below.refl _ _) _)).toV).mono ?_
    rw [decide_eq_true rfl]
    rintro e w6 ⟨rfl, b6⟩
    have bl := below_chain (below_al (Below.refl w5.heap.size w5) _) b6
    replace HA := Lib.hid (HA.out.kept bl)
    replace HW := Lib.hid (HW.out.below bl)
    replace HWB := Lib.hid (HWB.out.kept bl)
    replace HX := Lib.hid (HX.out.below bl)
    replace HXB := Lib.hid (HXB.out.kept bl)
    replace HG := Lib.hid (HG.out.below bl)
    have HGB := Lib.hid (HGB0.out.kept b6)
    have s56 := bl.size
    replace bb := below_chain bb bl
    clear b6 bl HGB0
    go_wp2_with fail
    obtain ⟨c0, c1, c2, c3⟩ := HA.out
    obtain ⟨d0, d1, d2, d3⟩ := HXB.out
    go_region_held3 (fun w' => w'.cell? ⟨w4.heap.size, 0, none⟩ = some (.int .i64 x.id) ∧ w'.cell? ⟨w4.heap.size, 1, none⟩ = some (.int .i64 x.series) ∧ w'.cell? ⟨w4.heap.size, 2, none⟩ = some (.int .i64 x.made) ∧ w'.cell? ⟨w4.heap.size, 3, none⟩ = some (.slice xa xn xc) ∧ w'.cell? ⟨W.heap.size, 0, none⟩ = some (.int .i64 x.id) ∧ w'.cell? ⟨W.heap.size, 1, none⟩ = some (.int .i64 x.series) ∧ w'.cell? ⟨W.heap.size, 2, none⟩ = some (.int .i64 x.made) ∧ w'.cell? ⟨W.heap.size, 3, none⟩ = some s)
      (first | exact ⟨d0, d1, d2, d3, c0, c1, c2, c3⟩ | exact ⟨cell_keptd d0 b7, cell_keptd d1 b7, cell_keptd d2 b7, cell_keptd d3 b7, cell_keptd c0 b7, cell_keptd c1 b7, cell_keptd c2 b7, cell_keptd c3 b7⟩ | exact ⟨cell_kept (cell_keptd d0 b7) b8, cell_kept (cell_keptd d1 b7) b8, cell_kept (cell_keptd d2 b7) b8, cell_kept (cell_keptd d3 b7) b8, cell_kept (cell_keptd c0 b7) b8, cell_kept (cell_keptd c1 b7) b8, cell_kept (cell_keptd c2 b7) b8, cell_kept (cell_keptd c3 b7) b8⟩)
      (first | (go_at_call 16; refine (toRecord_any _ x _ (HV.out _ bb.drew) (by omega)).mono ?_; rintro e w7 ⟨v7, rfl, ho7, b7⟩; have HO7 := Lib.hid ho7; clear ho7) | (go_at_call 18; refine (eqRecord_any _ _ x x _ (HX.out.below (below_chain (Below.refl w6.heap.size w6).drew b7)).toV HO7.out.toV).mono ?_; rw [decide_eq_true rfl]; rintro e w8 ⟨rfl, b8⟩))
    clear c0 c1 c2 c3
    clear d0 d1 d2 d3
    have bl := below_chain (below_chain (Below.refl w6.heap.size w6).drew b7) b8
    replace HA := Lib.hid (HA.out.kept bl)
    replace HW := Lib.hid (HW.out.below bl)
    replace HWB := Lib.hid (HWB.out.kept bl)
    replace HX := Lib.hid (HX.out.below bl)
    replace HXB := Lib.hid (HXB.out.kept bl)
    replace HG := Lib.hid (HG.out.below bl)
    replace HGB := Lib.hid (HGB.out.kept bl)
    have s58 := Nat.le_trans s56 bl.size
    replace bb := below_chain bb bl
    clear bl b7 b8 HO7 s56
    obtain ⟨d0, d1, d2, d3⟩ := HXB.out
    go_wp2_with fail
    clear d0 d1 d2 d3
    refine (markRecord_any _ x _ _ 1 _ (Nat.le_refl _) (by omega) HX.out).mono ?_
    rintro e w9 ⟨rfl, _, on9⟩
    replace HA := Lib.hid (HA.out.only on9 (.inl (by omega)))
    replace HW := Lib.hid (HW.out.only2 on9 (by omega))
    replace HWB := Lib.hid (HWB.out.only on9 (.inl (by omega)))
    replace HG := Lib.hid (HG.out.only on9 (by omega))
    replace HGB := Lib.hid (HGB.out.only on9 (.inr (by omega)))
    have s59 := Nat.le_trans s58 on9.size
    replace bb := bb.trans ((on9.below (by omega)).mono (by omega))
    clear on9 s58 HX HXB
    have kn : decide (((1 + x.evs.length * 2 : Nat) : Int) < 0) = false := decide_eq_false (by omega)
    have kn0 : (0 : Int) ≤ ((1 + x.evs.length * 2 : Nat) : Int) := by omega
    obtain ⟨g0, g1, g2, g3⟩ := HGB.out
    obtain ⟨q0, q1, q2, q3⟩ := HWB.out
    go_wp2_with fail
    clear g0 g1 g2 g3
    clear q0 q1 q2 q3
    refine (eqRecord_any _ _ y y _ HG.out.toV HW.out.toV).mono ?_
    rw [decide_eq_true rfl]
    rintro e w10 ⟨rfl, bq⟩
    replace HA := Lib.hid (HA.out.kept bq)
    replace HW := Lib.hid (HW.out.below bq)
    replace HWB := Lib.hid (HWB.out.kept bq)
    replace HG := Lib.hid (HG.out.below bq)
    replace HGB := Lib.hid (HGB.out.kept bq)
    replace s59 := Nat.le_trans s59 bq.size
    replace bb := below_chain bb bq
    clear bq
    obtain ⟨g0, g1, g2, g3⟩ := HGB.out
    go_wp2_with fail
    clear g0 g1 g2 g3
    refine (markRecord_any _ y _ _ 1 _ (Nat.le_refl _) (by omega) HG.out).mono ?_
    rintro e w11 ⟨rfl, hg11, on11⟩
    replace HA := Lib.hid (HA.out.only on11 (.inl (by omega)))
    replace HW := Lib.hid (HW.out.only2 on11 (by omega))
    replace HWB := Lib.hid (HWB.out.only on11 (.inl (by omega)))
    replace HGB := Lib.hid (HGB.out.only on11 (.inr (by omega)))
    have HM := Lib.hid hg11
    replace bb := bb.trans ((on11.below (by omega)).mono (by omega))
    replace s59 := Nat.le_trans s59 on11.size
    clear on11 HG hg11
    have en : (((1 + y.evs.length * 2 : Nat) : Int) != ((1 + y.evs.length * 2 : Nat) : Int)) = false := by simp
    obtain ⟨g0, g1, g2, g3⟩ := HGB.out
    go_wp2_with fail
    clear g0 g1 g2 g3
    refine (heldRecord_any _ y 1 y.evs.length _ (Nat.le_refl _) (by omega) HM.out.toV).mono ?_
    rintro e w12 ⟨rfl, bh⟩
    replace HA := Lib.hid (HA.out.kept bh)
    replace HW := Lib.hid (HW.out.below bh)
    replace HWB := Lib.hid (HWB.out.kept bh)
    replace HGB := Lib.hid (HGB.out.kept bh)
    replace HM := Lib.hid (HM.out.below bh)
    replace bb := below_chain bb bh
    clear bh
    obtain ⟨c0, c1, c2, c3⟩ := HA.out
    go_wp2_with fail
    clear c0 c1 c2 c3
    refine (toRecord_any _ x _ (HV.out _ bb) (by omega)).mono ?_
    rintro e w13 ⟨v13, rfl, ho13, bh⟩
    replace HW := Lib.hid (HW.out.below bh)
    replace HWB := Lib.hid (HWB.out.kept bh)
    replace HGB := Lib.hid (HGB.out.kept bh)
    replace HM := Lib.hid (HM.out.below bh)
    replace bb := below_chain bb bh
    clear bh HA
    go_wp2_with fail
    refine (implDropEvent_any _ x kd _ ho13.toV hkd y b HB.out).mono ?_
    rintro e w14 ⟨v14, rfl, hh, bh⟩
    obtain ⟨sh, rfl, hhe, hho⟩ := hh
    obtain ⟨ha, hn, hc, rfl⟩ := hhe.1.slice
    have HH := Lib.hid (show RecO _ _ _ _ _ from ⟨_, rfl, hhe, hho⟩)
    replace HW := Lib.hid (HW.out.below bh)
    replace HWB := Lib.hid (HWB.out.kept bh)
    replace HGB := Lib.hid (HGB.out.kept bh)
    replace HM := Lib.hid (HM.out.below bh)
    replace bb := below_chain bb bh
    clear bh hhe hho ho13
    obtain ⟨q0, q1, q2, q3⟩ := HWB.out
    have q0a := fun o : Obj => below_al_cell q0 o
    have q1a := fun o : Obj => below_al_cell q1 o
    have q2a := fun o : Obj => below_al_cell q2 o
    have q3a := fun o : Obj => below_al_cell q3 o
    go_wp2_with fail
    clear q0 q1 q2 q3 q0a q1a q2a q3a
    refine (eqRecord_any _ _ y y _ (HH.out.below (below_al (Below.refl _ _) _)).toV (HW.out.below (below_al (Below.refl _ _) _)).toV).mono ?_
    rw [decide_eq_true rfl]
    rintro e w15 ⟨rfl, b15⟩
    have bq := below_chain (below_al (Below.refl w14.heap.size w14) _) b15
    clear HH HW HWB b15
    replace HGB := Lib.hid (HGB.out.kept bq)
    replace HM := Lib.hid (HM.out.below bq)
    replace bb := below_chain bb bq
    clear bq
    obtain ⟨g0, g1, g2, g3⟩ := HGB.out
    go_wp2_with fail
    clear g0 g1 g2 g3
    refine (heldRecord_any _ y 1 y.evs.length _ (Nat.le_refl _) (by omega) HM.out.toV).mono ?_
    rintro e w16 ⟨rfl, bh⟩
    go_wp2_with fail
    go_ret
    exact ⟨rfl, below_chain bb bh⟩

set_option maxRecDepth 100000 in
theorem fnExactDropEvent_lifted (os : Os) (started : os.Started) (H : Type) (enc : TypeId × Value → H) :
    ReturnsInHanded {} Try.checked os 8 .any (Rows.fnExactDropEventSpec.pre6 enc Try.prog Try.f8 Rows.fnExactDropEventRow.domain false) (Rows.fnExactDropEventSpec.post enc Try.prog Try.f8 false true false false) := by
  refine returnsInHanded_of_change (C := Try.checked) Try.own started (by kernel_rfl) Try.func8
    (ChangeSpec.witness6 (enc := enc) (C := Try.checked) false ⟨#[], #[.agg #[.int .i64 0, .int .i64 0, .int .i64 0, .slice none 0 0], .int .i64 0], []⟩ 8 (by kernel_rfl) (by kernel_rfl) (by kernel_rfl) (by kernel_rfl)) ?_
  intro W base args ds gs before hval0 hW hcnd _
  have hval : ∀ (j : Nat) t v, Try.f8.params[j]? = some t → args[j]? = some v → Value.okWide Try.prog W .any base t v := hval0
  have hW' := hW
  obtain ⟨p, q, hA0, hV, rfl, hfz, hnd⟩ := hW
  have hA : DataW.TrodAll enc Try.prog W 0 (fun _ => true) true Try.f8.params.toList args.toList ds p := hA0
  rw [Try.params8] at hA hval
  obtain ⟨v0, vs0, d0, ds0, p0, q0, hargs, rfl, rfl, h0, r0⟩ := trodAll_cons hA
  obtain ⟨v1, vs1, d1, ds1, p1, q1, rfl, rfl, rfl, h1, r1⟩ := trodAll_cons r0
  obtain ⟨rfl, rfl, rfl⟩ := trodAll_nil r1
  obtain rfl : args = #[v0, v1] := by cases args; simp_all
  obtain ⟨rfl, rfl⟩ := trodVars_none hV
  obtain ⟨x0, w0⟩ := arg_rec (hval 0 30 v0 rfl rfl) h0
  have lt0 : ∀ x ∈ p0, x.block < W.heap.size := by obtain ⟨m, hm⟩ := h0; exact DataW.trod_lt m _ _ _ hm
  obtain ⟨x1, w1⟩ := arg_int (hval 1 3 v1 rfl rfl) h1
  have lt1 : ∀ x ∈ p1, x.block < W.heap.size := by obtain ⟨m, hm⟩ := h1; exact DataW.trod_lt m _ _ _ hm
  clear hA0 hval0
  refine (walkDropEvent v0 x0 v1 x1 W w0 w1).mono fun e W' ⟨he, bel⟩ => ?_
  subst he
  exact ⟨_, rfl, _, _, _, [], _, [], hW', trodAll_mk1 (shut_bool Try.underlying4 _), (trodAll_cons_mk (Below.trod Try.laidOut (by kernel_rfl) (of_decide_eq_true (by kernel_rfl)) h0 bel lt0) (trodAll_cons_mk (Below.trod Try.laidOut (by kernel_rfl) (of_decide_eq_true (by kernel_rfl)) h1 bel lt1) trodAll_mk0)), rfl, bel.frame _, fun h => by cases h⟩

/-- THE STATEMENT. -/
theorem fnExactDropEvent_proved : Rows.FnExactDropEventSaid :=
  OpenClaim.holds_of_wide 8 Try.f8 rfl rfl rfl rfl rfl rfl rfl ⟨rfl, rfl, rfl, rfl, rfl⟩ rfl rfl rfl rfl rfl (by kernel_rfl) Try.func8 (by kernel_rfl)
    (of_decide_eq_true (by kernel_rfl)) (by unfold Func.isWrapper; first | (rw [if_pos (by decide +kernel)]; kernel_rfl) | (rw [if_neg (by decide +kernel)]; exact ⟨rfl, rfl⟩))
    (fun os started H enc _ => fnExactDropEvent_lifted os started H enc)
end Go.Proofs.Ytkhhkgjjhnplcaa
