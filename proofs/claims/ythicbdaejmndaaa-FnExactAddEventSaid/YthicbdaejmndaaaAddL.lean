/- The law FnExactAddEvent: at every record and every event the call answers true. No condition. -/
import Derived.Test.YthicbdaejmndaaaAddS
import Derived.Test.YthicbdaejmndaaaBox4
import Derived.Test.YthicbdaejmndaaaEqRec
import Derived.Test.YthicbdaejmndaaaMarkRec
import Derived.Test.YthicbdaejmndaaaFrame
namespace Go.Proofs.Ythicbdaejmndaaa
set_option linter.unusedVariables false
open Go.ChangeShapes Go.WideShapes Go.ChangeAt Go.RowKit Go.Sort

set_option maxRecDepth 20000 in
set_option maxHeartbeats 16000000 in
theorem walkAddEvent (v : Value) (x : Rec) (v1 : Value) (e1 : Ev) (W : World) (h : RecV W v x) (h1 : EvV W v1 e1) :
    Calls Try.prog 5 #[v, v1] W fun e w' => e = .returned (.bool true) ∧ Below W.heap.size W w' := by
  obtain ⟨ek, ed⟩ := e1
  obtain ⟨rfl, hek⟩ := h1
  obtain ⟨s, rfl, h1, hok⟩ := h
  have hV : ∀ W', Below W.heap.size W W' → RecV W' (.agg #[.int .i64 x.id, .int .i64 x.series, .int .i64 x.made, s]) x := fun W' hb => ⟨s, rfl, h1.below rEv_stable hb, hok⟩
  have HV := Lib.hid hV
  clear hV h1 hok
  have b0 := below_al (below_al (Below.refl W.heap.size W) (.cells #[.int .i64 x.id, .int .i64 x.series, .int .i64 x.made, s] 59 (0, 0))) (.cells #[.int .i64 ek, .int .i64 ed] 61 (0, 0))
  by_cases hsz : (1048576 : Int) < x.evs.length
  · go_enter Try.func5, Try.ntmps5
    go_wp2_with fail
    refine (szRecord_any _ x 1048576 _ (HV.out _ b0) (by omega) (by omega)).mono ?_
    rw [if_pos (by omega)]
    rintro e w1 ⟨rfl, b2⟩
    go_wp2_with fail
    go_ret
    exact ⟨rfl, below_chain b0 b2⟩
  · obtain ⟨y, b, hb⟩ : ∃ y b, addRes x ⟨ek, ed⟩ = (y, b) := ⟨_, _, rfl⟩
    have HB := Lib.hid hb
    have hyl : y.evs.length ≤ 1048577 := by
      unfold addRes at hb
      split at hb
      · obtain ⟨rfl, _⟩ := Prod.mk.inj hb
        simp only
        rw [insEv_len]
        omega
      · obtain ⟨rfl, _⟩ := Prod.mk.inj hb
        simp [recD]
    have eb : (b != b) = false := by simp
    clear hb
    go_enter Try.func5, Try.ntmps5
    go_wp2_with fail
    have HA0 := Lib.hid ((Box4.new W x s 59).kept (below_al (Below.refl _ _) (.cells #[.int .i64 ek, .int .i64 ed] 61 (0, 0))))
    have HE0 := Lib.hid (show Ev2 ((W.alloc (.cells #[.int .i64 x.id, .int .i64 x.series, .int .i64 x.made, s] 59 (0, 0))).alloc (.cells #[.int .i64 ek, .int .i64 ed] 61 (0, 0))) (W.heap.size + 1) ek ed from by
      have a := cell_new (v := .int .i64 ek) (W.alloc (.cells #[.int .i64 x.id, .int .i64 x.series, .int .i64 x.made, s] 59 (0, 0))) #[.int .i64 ek, .int .i64 ed] 61 0 rfl
      have c := cell_new (v := .int .i64 ed) (W.alloc (.cells #[.int .i64 x.id, .int .i64 x.series, .int .i64 x.made, s] 59 (0, 0))) #[.int .i64 ek, .int .i64 ed] 61 1 rfl
      simp only [World.size_alloc] at a c
      exact ⟨a, c⟩)
    refine (szRecord_any _ x 1048576 _ (HV.out _ b0) (by omega) (by omega)).mono ?_
    rw [if_neg (by omega)]
    rintro e w1 ⟨rfl, b1⟩
    have HA := Lib.hid (HA0.out.kept b1)
    have HE := Lib.hid (HE0.out.kept b1)
    have bb := below_chain b0 b1
    have sw1 : W.heap.size + 2 ≤ w1.heap.size := by have := b1.size; simp at this; omega
    clear b0 b1 HA0 HE0
    go_wp2_with fail
    go_cut [6, 7] (fun sp sb wx => ∃ (G : Nat) (ya : Option Addr) (yn yc lo hi : Nat), sp = .pointer (some ⟨G, 0, none⟩) ∧ sb = .bool b ∧ Got W.heap.size w1 wx x s ek ed y (.slice ya yn yc) G lo hi)
    case first =>
      have hv0 : ∀ W', Below w1.heap.size w1 W' → RecV W' (.agg #[.int .i64 x.id, .int .i64 x.series, .int .i64 x.made, s]) x := fun W' hb => HV.out W' (bb.trans (hb.mono bb.size))
      have HV0 := Lib.hid hv0
      clear hv0
      obtain ⟨c0, c1, c2, c3⟩ := HA.out
      obtain ⟨e0, e1⟩ := HE.out
      have Oc0 := Lib.hid c0
      have Oc1 := Lib.hid c1
      have Oc2 := Lib.hid c2
      have Oc3 := Lib.hid c3
      have Oe0 := Lib.hid e0
      have Oe1 := Lib.hid e1
      go_region_held3 (fun w' => w'.cell? ⟨W.heap.size, 0, none⟩ = some (.int .i64 x.id) ∧ w'.cell? ⟨W.heap.size, 1, none⟩ = some (.int .i64 x.series) ∧ w'.cell? ⟨W.heap.size, 2, none⟩ = some (.int .i64 x.made) ∧ w'.cell? ⟨W.heap.size, 3, none⟩ = some s ∧ w'.cell? ⟨W.heap.size + 1, 0, none⟩ = some (.int .i64 ek) ∧ w'.cell? ⟨W.heap.size + 1, 1, none⟩ = some (.int .i64 ed)) (first | with_reducible exact ⟨c0, c1, c2, c3, e0, e1⟩ | with_reducible exact ⟨(below_al_cell c0 _), (below_al_cell c1 _), (below_al_cell c2 _), (below_al_cell c3 _), (below_al_cell e0 _), (below_al_cell e1 _)⟩ | with_reducible exact ⟨cell_drew c0, cell_drew c1, cell_drew c2, cell_drew c3, cell_drew e0, cell_drew e1⟩ | with_reducible exact ⟨cell_drew (below_al_cell c0 _), cell_drew (below_al_cell c1 _), cell_drew (below_al_cell c2 _), cell_drew (below_al_cell c3 _), cell_drew (below_al_cell e0 _), cell_drew (below_al_cell e1 _)⟩ | (refine ⟨?_, ?_, ?_, ?_, ?_, ?_⟩ <;> (repeat rw [World.cell?_setCell_far _ _ _ _ (by simp; omega)]) <;> first | assumption | go_keep)) (first | (go_at_call 40; refine (specAddEvent_any _ x ⟨ek, ed⟩ _ (RecO.toV (by first | exact HO2.out.below b23 | exact HO2.out.below (below_al b23 _))) HS2.out hek y b HB.out).mono ?_; rintro e wc1 ⟨v4, rfl, hw, b4⟩; obtain ⟨sw, rfl, hwe, hwo⟩ := hw; obtain ⟨ya, yn, yc, rfl⟩ := hwe.1.slice; have bw4 : Below w1.heap.size w1 wc1 := (by first | exact below_chain bw3 b4 | exact below_chain (below_al bw3 _) b4); replace c0 := cell_kept Oc0.out bw4; replace c1 := cell_kept Oc1.out bw4; replace c2 := cell_kept Oc2.out bw4; replace c3 := cell_kept Oc3.out bw4; replace e0 := cell_kept Oe0.out bw4; replace e1 := cell_kept Oe1.out bw4; (first | (have Q4 := box_kept Q3 b4) | (have Q4 := box_kept (show (wb1.alloc (.cells #[.int .i64 0, .int .i64 0, .int .i64 0, .slice none 0 0] 65 (0, 0))).heap[wb1.heap.size]? = some (.cells #[.int .i64 0, .int .i64 0, .int .i64 0, .slice none 0 0] 65 (0, 0)) from heap_alloc_new wb1 _) b4) | skip); have hr : RecO _ _ wc1 (.agg #[.int .i64 y.id, .int .i64 y.series, .int .i64 y.made, .slice ya yn yc]) y := ⟨_, rfl, hwe, hwo⟩; have hs4 := b4.size; have HR4 := Lib.hid hr; have s23 := bw2.size; have s33 := bw3.size; (first | (have z0 := box_cell Q4 0 rfl; have z1 := box_cell Q4 1 rfl; have z2 := box_cell Q4 2 rfl; have z3 := box_cell Q4 3 rfl; have y0 := blk_frozen Q4 0; have y1 := blk_frozen Q4 1; have y2 := blk_frozen Q4 2; have y3 := blk_frozen Q4 3) | skip)) | (go_at_call 42; refine (toEvent_any ⟨ek, ed⟩ _).mono ?_; rintro e wb1 ⟨rfl, b3⟩; have bw3 : Below w1.heap.size w1 wb1 := (by first | exact below_chain bw2 b3 | exact below_chain (below_al bw2 _) b3); replace c0 := cell_kept Oc0.out bw3; replace c1 := cell_kept Oc1.out bw3; replace c2 := cell_kept Oc2.out bw3; replace c3 := cell_kept Oc3.out bw3; replace e0 := cell_kept Oe0.out bw3; replace e1 := cell_kept Oe1.out bw3; (first | (have Q3 := box_kept Q2 b3) | (have Q3 := box_kept (show (wa1.alloc (.cells #[.int .i64 0, .int .i64 0, .int .i64 0, .slice none 0 0] 65 (0, 0))).heap[wa1.heap.size]? = some (.cells #[.int .i64 0, .int .i64 0, .int .i64 0, .slice none 0 0] 65 (0, 0)) from heap_alloc_new wa1 _) b3) | skip); have b23 : Below wa1.heap.size wa1 wb1 := (by first | exact b3 | exact below_chain (below_al (Below.refl _ _) _) b3)) | (go_at_call 41; refine (toRecord_some _ x _ (HV0.out _ (by first | exact (Below.refl _ _).drew | exact (below_al (Below.refl _ _) _).drew)) (by omega)).mono ?_; rintro e wa1 ⟨v2, rfl, ho2, b2, hs2⟩; have bw2 : Below w1.heap.size w1 wa1 := (by first | exact below_chain (Below.refl _ _).drew b2 | exact below_chain (below_al (Below.refl _ _) _).drew b2); replace c0 := cell_kept Oc0.out bw2; replace c1 := cell_kept Oc1.out bw2; replace c2 := cell_kept Oc2.out bw2; replace c3 := cell_kept Oc3.out bw2; replace e0 := cell_kept Oe0.out bw2; replace e1 := cell_kept Oe1.out bw2; (first | (have Q2 := box_kept (show (w1.alloc (.cells #[.int .i64 0, .int .i64 0, .int .i64 0, .slice none 0 0] 65 (0, 0))).drew.heap[w1.heap.size]? = some (.cells #[.int .i64 0, .int .i64 0, .int .i64 0, .slice none 0 0] 65 (0, 0)) from heap_alloc_new w1 _) b2) | skip); have HO2 := Lib.hid ho2; have HS2 := Lib.hid hs2; clear ho2 hs2))
      all_goals go_wp2_with fail
      all_goals go_meet
      all_goals first | (have qq := Q4; exact ⟨_, _, _, _, _, _, rfl, rfl, got_a qq ⟨c0, c1, c2, c3⟩ ⟨e0, e1⟩ HR4.out bw4 (by omega) (by first | exact (Array.getElem?_eq_some_iff.1 Q3).1 | (simp; done)) (Nat.le_refl _) (by omega) hs4⟩) | exact ⟨_, _, _, _, _, _, rfl, rfl, got_b ⟨c0, c1, c2, c3⟩ ⟨e0, e1⟩ HR4.out bw4 (by omega) (Nat.le_refl _) hs4⟩
    case rest =>
      obtain ⟨w3, hw3⟩ : ∃ q, q = wc := ⟨_, rfl⟩
      subst hw3
      obtain ⟨GW, ya, yn, yc, lw, hw, rfl, rfl, ha, he, hr, hg, bx, gG, gl, gh, gx, gle⟩ := hcut
      have HA := Lib.hid ha
      have HE := Lib.hid he
      have HW := Lib.hid hr
      have HWB := Lib.hid hg
      replace bb := below_chain bb bx
      have s13 := bx.size
      have sGW := hg.lt
      clear ha he hr hg bx gx
      obtain ⟨c0, c1, c2, c3⟩ := HA.out
      go_wp2_with fail
      clear c0 c1 c2 c3
      refine (toRecord_any _ x _ (HV.out _ bb) (by omega)).mono ?_
      rintro e w4 ⟨v4, rfl, hx, b4⟩
      obtain ⟨sx, rfl, hxe, hxo⟩ := hx
      obtain ⟨xa, xn, xc, rfl⟩ := hxe.1.slice
      replace HA := Lib.hid (HA.out.kept b4)
      replace HE := Lib.hid (HE.out.kept b4)
      replace HW := Lib.hid (HW.out.below b4)
      replace HWB := Lib.hid (HWB.out.kept b4)
      have HX := Lib.hid (show RecO w3.heap.size w4.heap.size w4 (.agg #[.int .i64 x.id, .int .i64 x.series, .int .i64 x.made, .slice xa xn xc]) x from ⟨_, rfl, hxe, hxo⟩)
      have s34 := b4.size
      replace bb := below_chain bb b4
      clear b4 hxe hxo
      go_wp2_with fail
      have hbox := Box4.new w4 x (.slice xa xn xc) 65
      have b45 := below_al (Below.refl w4.heap.size w4) (.cells #[.int .i64 x.id, .int .i64 x.series, .int .i64 x.made, .slice xa xn xc] 65 (0, 0))
      have s45 : w4.heap.size + 1 ≤ (w4.alloc (.cells #[.int .i64 x.id, .int .i64 x.series, .int .i64 x.made, .slice xa xn xc] 65 (0, 0))).heap.size := by simp
      generalize w4.alloc (.cells #[.int .i64 x.id, .int .i64 x.series, .int .i64 x.made, .slice xa xn xc] 65 (0, 0)) = w5 at *
      have HXB := Lib.hid hbox
      clear hbox
      replace HA := Lib.hid (HA.out.kept b45)
      replace HE := Lib.hid (HE.out.kept b45)
      replace HW := Lib.hid (HW.out.below b45)
      replace HWB := Lib.hid (HWB.out.kept b45)
      replace HX := Lib.hid (HX.out.below b45)
      replace bb := below_chain bb b45
      clear b45
      go_cut [9, 10] (fun sp sb wx => ∃ (G : Nat) (ga : Option Addr) (gn gc lo hi : Nat), sp = .pointer (some ⟨G, 0, none⟩) ∧ sb = .bool b ∧ Got W.heap.size w5 wx x s ek ed y (.slice ga gn gc) G lo hi)
      case first =>
        obtain ⟨c0, c1, c2, c3⟩ := HA.out
        obtain ⟨e0, e1⟩ := HE.out
        have Oc0 := Lib.hid c0
        have Oc1 := Lib.hid c1
        have Oc2 := Lib.hid c2
        have Oc3 := Lib.hid c3
        have Oe0 := Lib.hid e0
        have Oe1 := Lib.hid e1
        obtain ⟨d0, d1, d2, d3⟩ := HXB.out
        have Od0 := Lib.hid d0
        have Od1 := Lib.hid d1
        have Od2 := Lib.hid d2
        have Od3 := Lib.hid d3
        go_region_held3 (fun w' => w'.cell? ⟨W.heap.size, 0, none⟩ = some (.int .i64 x.id) ∧ w'.cell? ⟨W.heap.size, 1, none⟩ = some (.int .i64 x.series) ∧ w'.cell? ⟨W.heap.size, 2, none⟩ = some (.int .i64 x.made) ∧ w'.cell? ⟨W.heap.size, 3, none⟩ = some s ∧ w'.cell? ⟨W.heap.size + 1, 0, none⟩ = some (.int .i64 ek) ∧ w'.cell? ⟨W.heap.size + 1, 1, none⟩ = some (.int .i64 ed) ∧ w'.cell? ⟨w4.heap.size, 0, none⟩ = some (.int .i64 x.id) ∧ w'.cell? ⟨w4.heap.size, 1, none⟩ = some (.int .i64 x.series) ∧ w'.cell? ⟨w4.heap.size, 2, none⟩ = some (.int .i64 x.made) ∧ w'.cell? ⟨w4.heap.size, 3, none⟩ = some (.slice xa xn xc)) (first | with_reducible exact ⟨c0, c1, c2, c3, e0, e1, d0, d1, d2, d3⟩ | with_reducible exact ⟨(below_al_cell c0 _), (below_al_cell c1 _), (below_al_cell c2 _), (below_al_cell c3 _), (below_al_cell e0 _), (below_al_cell e1 _), (below_al_cell d0 _), (below_al_cell d1 _), (below_al_cell d2 _), (below_al_cell d3 _)⟩ | with_reducible exact ⟨cell_drew c0, cell_drew c1, cell_drew c2, cell_drew c3, cell_drew e0, cell_drew e1, cell_drew d0, cell_drew d1, cell_drew d2, cell_drew d3⟩ | with_reducible exact ⟨cell_drew (below_al_cell c0 _), cell_drew (below_al_cell c1 _), cell_drew (below_al_cell c2 _), cell_drew (below_al_cell c3 _), cell_drew (below_al_cell e0 _), cell_drew (below_al_cell e1 _), cell_drew (below_al_cell d0 _), cell_drew (below_al_cell d1 _), cell_drew (below_al_cell d2 _), cell_drew (below_al_cell d3 _)⟩ | (refine ⟨?_, ?_, ?_, ?_, ?_, ?_, ?_, ?_, ?_, ?_⟩ <;> (repeat rw [World.cell?_setCell_far _ _ _ _ (by simp; omega)]) <;> first | assumption | go_keep)) (first | (go_at_call 43; refine (implAddEvent_any _ x ⟨ek, ed⟩ _ _ _ (by first | exact HX.out.below bw3 | exact HX.out.below (below_al bw3 _)) hek y b HB.out).mono ?_; rintro e wc2 ⟨v4, rfl, hw, b4⟩; obtain ⟨sw, rfl, hwe, hwo⟩ := hw; obtain ⟨ga, gn, gc, rfl⟩ := hwe.1.slice; have bw4 : Below w5.heap.size w5 wc2 := (by first | exact below_chain bw3 b4 | exact below_chain (below_al bw3 _) b4); replace c0 := cell_kept Oc0.out bw4; replace c1 := cell_kept Oc1.out bw4; replace c2 := cell_kept Oc2.out bw4; replace c3 := cell_kept Oc3.out bw4; replace e0 := cell_kept Oe0.out bw4; replace e1 := cell_kept Oe1.out bw4; replace d0 := cell_kept Od0.out bw4; replace d1 := cell_kept Od1.out bw4; replace d2 := cell_kept Od2.out bw4; replace d3 := cell_kept Od3.out bw4; (first | (have Q4 := box_kept Q3 b4) | (have Q4 := box_kept (show (wa2.alloc (.cells #[.int .i64 0, .int .i64 0, .int .i64 0, .slice none 0 0] 65 (0, 0))).heap[wa2.heap.size]? = some (.cells #[.int .i64 0, .int .i64 0, .int .i64 0, .slice none 0 0] 65 (0, 0)) from heap_alloc_new wa2 _) b4) | skip); have hr : RecO _ _ wc2 (.agg #[.int .i64 y.id, .int .i64 y.series, .int .i64 y.made, .slice ga gn gc]) y := ⟨_, rfl, hwe, hwo⟩; have hs4 := b4.size; have HR4 := Lib.hid hr; have s33 := bw3.size; (first | (have z0 := box_cell Q4 0 rfl; have z1 := box_cell Q4 1 rfl; have z2 := box_cell Q4 2 rfl; have z3 := box_cell Q4 3 rfl; have y0 := blk_frozen Q4 0; have y1 := blk_frozen Q4 1; have y2 := blk_frozen Q4 2; have y3 := blk_frozen Q4 3) | skip)) | (go_at_call 42; refine (toEvent_any ⟨ek, ed⟩ _).mono ?_; rintro e wa2 ⟨rfl, b3⟩; have bw3 : Below w5.heap.size w5 wa2 := (by first | exact below_chain (Below.refl _ _).drew b3 | exact below_chain (below_al (Below.refl _ _) _).drew b3); replace c0 := cell_kept Oc0.out bw3; replace c1 := cell_kept Oc1.out bw3; replace c2 := cell_kept Oc2.out bw3; replace c3 := cell_kept Oc3.out bw3; replace e0 := cell_kept Oe0.out bw3; replace e1 := cell_kept Oe1.out bw3; replace d0 := cell_kept Od0.out bw3; replace d1 := cell_kept Od1.out bw3; replace d2 := cell_kept Od2.out bw3; replace d3 := cell_kept Od3.out bw3; (first | (have Q3 := box_kept (show (w5.alloc (.cells #[.int .i64 0, .int .i64 0, .int .i64 0, .slice none 0 0] 65 (0, 0))).drew.heap[w5.heap.size]? = some (.cells #[.int .i64 0, .int .i64 0, .int .i64 0, .slice none 0 0] 65 (0, 0)) from heap_alloc_new w5 _) b3) | skip); skip))
        all_goals go_wp2_with fail
        all_goals go_meet
        all_goals first | (have qq := Q4; exact ⟨_, _, _, _, _, _, rfl, rfl, got_a qq ⟨c0, c1, c2, c3⟩ ⟨e0, e1⟩ HR4.out bw4 (by omega) (by first | exact (Array.getElem?_eq_some_iff.1 Q3).1 | (simp; done)) (Nat.le_refl _) (by omega) hs4⟩) | exact ⟨_, _, _, _, _, _, rfl, rfl, got_b ⟨c0, c1, c2, c3⟩ ⟨e0, e1⟩ HR4.out bw4 (by omega) (Nat.le_refl _) hs4⟩
      case rest =>
        obtain ⟨w6, hw6⟩ : ∃ q, q = wc := ⟨_, rfl⟩
        subst hw6
        obtain ⟨GG, ga, gn, gc, lg, hg2, rfl, rfl, ha, he, hr, hg, bx, gG2, gl2, gh2, gx2, gle2⟩ := hcut
        replace HA := Lib.hid ha
        replace HE := Lib.hid he
        have HG := Lib.hid hr
        have HGB := Lib.hid hg
        replace bb := below_chain bb bx
        replace HW := Lib.hid (HW.out.below bx)
        replace HWB := Lib.hid (HWB.out.kept bx)
        replace HX := Lib.hid (HX.out.below bx)
        replace HXB := Lib.hid (HXB.out.kept bx)
        have s56 := bx.size
        clear ha he hr hg bx
        obtain ⟨g0, g1, g2, g3⟩ := HGB.out
        obtain ⟨q0, q1, q2, q3⟩ := HWB.out
        go_wp2_with fail
        clear g0 g1 g2 g3
        clear q0 q1 q2 q3
        refine (eqRecord_any _ _ y y _ HG.out.toV HW.out.toV).mono ?_
        rw [decide_eq_true rfl]
        rintro e w7 ⟨rfl, bl⟩
        replace HA := Lib.hid (HA.out.kept bl)
        replace HE := Lib.hid (HE.out.kept bl)
        replace HW := Lib.hid (HW.out.below bl)
        replace HWB := Lib.hid (HWB.out.kept bl)
        replace HX := Lib.hid (HX.out.below bl)
        replace HXB := Lib.hid (HXB.out.kept bl)
        replace HG := Lib.hid (HG.out.below bl)
        replace HGB := Lib.hid (HGB.out.kept bl)
        have s57 := Nat.le_trans s56 bl.size
        replace gle2 := Nat.le_trans gle2 bl.size
        replace bb := below_chain bb bl
        clear bl s56
        go_wp2_with fail
        obtain ⟨c0, c1, c2, c3⟩ := HA.out
        obtain ⟨d0, d1, d2, d3⟩ := HXB.out
        go_region_held3 (fun w' => w'.cell? ⟨w4.heap.size, 0, none⟩ = some (.int .i64 x.id) ∧ w'.cell? ⟨w4.heap.size, 1, none⟩ = some (.int .i64 x.series) ∧ w'.cell? ⟨w4.heap.size, 2, none⟩ = some (.int .i64 x.made) ∧ w'.cell? ⟨w4.heap.size, 3, none⟩ = some (.slice xa xn xc) ∧ w'.cell? ⟨W.heap.size, 0, none⟩ = some (.int .i64 x.id) ∧ w'.cell? ⟨W.heap.size, 1, none⟩ = some (.int .i64 x.series) ∧ w'.cell? ⟨W.heap.size, 2, none⟩ = some (.int .i64 x.made) ∧ w'.cell? ⟨W.heap.size, 3, none⟩ = some s) (first | exact ⟨d0, d1, d2, d3, c0, c1, c2, c3⟩ | exact ⟨cell_keptd d0 b7, cell_keptd d1 b7, cell_keptd d2 b7, cell_keptd d3 b7, cell_keptd c0 b7, cell_keptd c1 b7, cell_keptd c2 b7, cell_keptd c3 b7⟩ | exact ⟨cell_kept (cell_keptd d0 b7) b8, cell_kept (cell_keptd d1 b7) b8, cell_kept (cell_keptd d2 b7) b8, cell_kept (cell_keptd d3 b7) b8, cell_kept (cell_keptd c0 b7) b8, cell_kept (cell_keptd c1 b7) b8, cell_kept (cell_keptd c2 b7) b8, cell_kept (cell_keptd c3 b7) b8⟩) (first | (go_at_call 41; refine (toRecord_any _ x _ (HV.out _ bb.drew) (by omega)).mono ?_; rintro e w8 ⟨v7, rfl, ho7, b7⟩; have HO7 := Lib.hid ho7; clear ho7) | (go_at_call 44; refine (eqRecord_any _ _ x x _ (HX.out.below (below_chain (Below.refl w7.heap.size w7).drew b7)).toV HO7.out.toV).mono ?_; rw [decide_eq_true rfl]; rintro e w9 ⟨rfl, b8⟩))
        clear c0 c1 c2 c3
        clear d0 d1 d2 d3
        have bl := below_chain (below_chain (Below.refl w7.heap.size w7).drew b7) b8
        replace HA := Lib.hid (HA.out.kept bl)
        replace HE := Lib.hid (HE.out.kept bl)
        replace HW := Lib.hid (HW.out.below bl)
        replace HWB := Lib.hid (HWB.out.kept bl)
        replace HX := Lib.hid (HX.out.below bl)
        replace HXB := Lib.hid (HXB.out.kept bl)
        replace HG := Lib.hid (HG.out.below bl)
        replace HGB := Lib.hid (HGB.out.kept bl)
        have s59 := Nat.le_trans s57 bl.size
        replace gle2 := Nat.le_trans gle2 bl.size
        replace bb := below_chain bb bl
        clear bl b7 b8 HO7 s57
        obtain ⟨d0, d1, d2, d3⟩ := HXB.out
        go_wp2_with fail
        clear d0 d1 d2 d3
        refine (markRecord_any _ x _ _ 1 _ (Nat.le_refl _) (by omega) HX.out).mono ?_
        rintro e w10 ⟨rfl, _, on9⟩
        replace HA := Lib.hid (HA.out.only on9 (.inl (by omega)))
        replace HE := Lib.hid (HE.out.only on9 (.inl (by omega)))
        replace HW := Lib.hid (HW.out.only2 on9 (by omega))
        replace HWB := Lib.hid (HWB.out.only on9 (.inl (by omega)))
        replace HG := Lib.hid (HG.out.only on9 (by omega))
        replace HGB := Lib.hid (HGB.out.only on9 (.inr (by omega)))
        have s60 := Nat.le_trans s59 on9.size
        replace gle2 := Nat.le_trans gle2 on9.size
        replace bb := bb.trans ((on9.below (by omega)).mono (by omega))
        clear on9 s59 HX HXB
        have kn : decide (((1 + x.evs.length * 2 : Nat) : Int) < 0) = false := decide_eq_false (by omega)
        have kn0 : (0 : Int) ≤ ((1 + x.evs.length * 2 : Nat) : Int) := by omega
        obtain ⟨g0, g1, g2, g3⟩ := HGB.out
        obtain ⟨q0, q1, q2, q3⟩ := HWB.out
        go_wp2_with fail
        clear g0 g1 g2 g3
        clear q0 q1 q2 q3
        refine (eqRecord_any _ _ y y _ HG.out.toV HW.out.toV).mono ?_
        rw [decide_eq_true rfl]
        rintro e w11 ⟨rfl, bq⟩
        replace HA := Lib.hid (HA.out.kept bq)
        replace HE := Lib.hid (HE.out.kept bq)
        replace HW := Lib.hid (HW.out.below bq)
        replace HWB := Lib.hid (HWB.out.kept bq)
        replace HG := Lib.hid (HG.out.below bq)
        replace HGB := Lib.hid (HGB.out.kept bq)
        replace s60 := Nat.le_trans s60 bq.size
        replace gle2 := Nat.le_trans gle2 bq.size
        replace bb := below_chain bb bq
        clear bq
        obtain ⟨g0, g1, g2, g3⟩ := HGB.out
        go_wp2_with fail
        clear g0 g1 g2 g3
        refine (markRecord_any _ y _ _ 1 _ (Nat.le_refl _) (by omega) HG.out).mono ?_
        rintro e w12 ⟨rfl, hg11, on11⟩
        replace HA := Lib.hid (HA.out.only on11 (.inl (by omega)))
        replace HE := Lib.hid (HE.out.only on11 (.inl (by omega)))
        replace HW := Lib.hid (HW.out.only2 on11 (by omega))
        replace HWB := Lib.hid (HWB.out.only on11 (.inl (by omega)))
        replace HGB := Lib.hid (HGB.out.only on11 gx2)
        have HM := Lib.hid hg11
        replace bb := bb.trans ((on11.below (by omega)).mono (by omega))
        replace s60 := Nat.le_trans s60 on11.size
        clear on11 HG hg11
        have en : (((1 + y.evs.length * 2 : Nat) : Int) != ((1 + y.evs.length * 2 : Nat) : Int)) = false := by simp
        obtain ⟨g0, g1, g2, g3⟩ := HGB.out
        go_wp2_with fail
        clear g0 g1 g2 g3
        refine (heldRecord_any _ y 1 y.evs.length _ (Nat.le_refl _) (by omega) HM.out.toV).mono ?_
        rintro e w13 ⟨rfl, bh⟩
        replace HA := Lib.hid (HA.out.kept bh)
        replace HE := Lib.hid (HE.out.kept bh)
        replace HW := Lib.hid (HW.out.below bh)
        replace HWB := Lib.hid (HWB.out.kept bh)
        replace HGB := Lib.hid (HGB.out.kept bh)
        replace HM := Lib.hid (HM.out.below bh)
        replace bb := below_chain bb bh
        have sw13 : W.heap.size + 2 ≤ w13.heap.size := by have := bh.size; omega
        clear bh
        go_wp2_with fail
        go_cut [14, 15] (fun sp sb wx => ∃ (G : Nat) (ha : Option Addr) (hn hc lo hi : Nat), sp = .pointer (some ⟨G, 0, none⟩) ∧ sb = .bool b ∧ Got W.heap.size w13 wx x s ek ed y (.slice ha hn hc) G lo hi)
        case first =>
          have hv0 : ∀ W', Below w13.heap.size w13 W' → RecV W' (.agg #[.int .i64 x.id, .int .i64 x.series, .int .i64 x.made, s]) x := fun W' hb => HV.out W' (bb.trans (hb.mono bb.size))
          have HV0 := Lib.hid hv0
          clear hv0
          obtain ⟨c0, c1, c2, c3⟩ := HA.out
          obtain ⟨e0, e1⟩ := HE.out
          have Oc0 := Lib.hid c0
          have Oc1 := Lib.hid c1
          have Oc2 := Lib.hid c2
          have Oc3 := Lib.hid c3
          have Oe0 := Lib.hid e0
          have Oe1 := Lib.hid e1
          go_region_held3 (fun w' => w'.cell? ⟨W.heap.size, 0, none⟩ = some (.int .i64 x.id) ∧ w'.cell? ⟨W.heap.size, 1, none⟩ = some (.int .i64 x.series) ∧ w'.cell? ⟨W.heap.size, 2, none⟩ = some (.int .i64 x.made) ∧ w'.cell? ⟨W.heap.size, 3, none⟩ = some s ∧ w'.cell? ⟨W.heap.size + 1, 0, none⟩ = some (.int .i64 ek) ∧ w'.cell? ⟨W.heap.size + 1, 1, none⟩ = some (.int .i64 ed)) (first | with_reducible exact ⟨c0, c1, c2, c3, e0, e1⟩ | with_reducible exact ⟨(below_al_cell c0 _), (below_al_cell c1 _), (below_al_cell c2 _), (below_al_cell c3 _), (below_al_cell e0 _), (below_al_cell e1 _)⟩ | with_reducible exact ⟨cell_drew c0, cell_drew c1, cell_drew c2, cell_drew c3, cell_drew e0, cell_drew e1⟩ | with_reducible exact ⟨cell_drew (below_al_cell c0 _), cell_drew (below_al_cell c1 _), cell_drew (below_al_cell c2 _), cell_drew (below_al_cell c3 _), cell_drew (below_al_cell e0 _), cell_drew (below_al_cell e1 _)⟩ | (refine ⟨?_, ?_, ?_, ?_, ?_, ?_⟩ <;> (repeat rw [World.cell?_setCell_far _ _ _ _ (by simp; omega)]) <;> first | assumption | go_keep)) (first | (go_at_call 43; refine (implAddEvent_any _ x ⟨ek, ed⟩ _ _ _ (by first | exact HO2.out.below b23 | exact HO2.out.below (below_al b23 _)) hek y b HB.out).mono ?_; rintro e wc3 ⟨v4, rfl, hw, b4⟩; obtain ⟨sw, rfl, hwe, hwo⟩ := hw; obtain ⟨ha, hn, hc, rfl⟩ := hwe.1.slice; have bw4 : Below w13.heap.size w13 wc3 := (by first | exact below_chain bw3 b4 | exact below_chain (below_al bw3 _) b4); replace c0 := cell_kept Oc0.out bw4; replace c1 := cell_kept Oc1.out bw4; replace c2 := cell_kept Oc2.out bw4; replace c3 := cell_kept Oc3.out bw4; replace e0 := cell_kept Oe0.out bw4; replace e1 := cell_kept Oe1.out bw4; (first | (have Q4 := box_kept Q3 b4) | (have Q4 := box_kept (show (wb3.alloc (.cells #[.int .i64 0, .int .i64 0, .int .i64 0, .slice none 0 0] 65 (0, 0))).heap[wb3.heap.size]? = some (.cells #[.int .i64 0, .int .i64 0, .int .i64 0, .slice none 0 0] 65 (0, 0)) from heap_alloc_new wb3 _) b4) | skip); have hr : RecO _ _ wc3 (.agg #[.int .i64 y.id, .int .i64 y.series, .int .i64 y.made, .slice ha hn hc]) y := ⟨_, rfl, hwe, hwo⟩; have hs4 := b4.size; have HR4 := Lib.hid hr; have s23 := bw2.size; have s33 := bw3.size; (first | (have z0 := box_cell Q4 0 rfl; have z1 := box_cell Q4 1 rfl; have z2 := box_cell Q4 2 rfl; have z3 := box_cell Q4 3 rfl; have y0 := blk_frozen Q4 0; have y1 := blk_frozen Q4 1; have y2 := blk_frozen Q4 2; have y3 := blk_frozen Q4 3) | skip)) | (go_at_call 42; refine (toEvent_any ⟨ek, ed⟩ _).mono ?_; rintro e wb3 ⟨rfl, b3⟩; have bw3 : Below w13.heap.size w13 wb3 := (by first | exact below_chain bw2 b3 | exact below_chain (below_al bw2 _) b3); replace c0 := cell_kept Oc0.out bw3; replace c1 := cell_kept Oc1.out bw3; replace c2 := cell_kept Oc2.out bw3; replace c3 := cell_kept Oc3.out bw3; replace e0 := cell_kept Oe0.out bw3; replace e1 := cell_kept Oe1.out bw3; (first | (have Q3 := box_kept Q2 b3) | (have Q3 := box_kept (show (wa3.alloc (.cells #[.int .i64 0, .int .i64 0, .int .i64 0, .slice none 0 0] 65 (0, 0))).heap[wa3.heap.size]? = some (.cells #[.int .i64 0, .int .i64 0, .int .i64 0, .slice none 0 0] 65 (0, 0)) from heap_alloc_new wa3 _) b3) | skip); have b23 : Below wa3.heap.size wa3 wb3 := (by first | exact b3 | exact below_chain (below_al (Below.refl _ _) _) b3)) | (go_at_call 41; refine (toRecord_some _ x _ (HV0.out _ (by first | exact (Below.refl _ _).drew | exact (below_al (Below.refl _ _) _).drew)) (by omega)).mono ?_; rintro e wa3 ⟨v2, rfl, ho2, b2, hs2⟩; have bw2 : Below w13.heap.size w13 wa3 := (by first | exact below_chain (Below.refl _ _).drew b2 | exact below_chain (below_al (Below.refl _ _) _).drew b2); replace c0 := cell_kept Oc0.out bw2; replace c1 := cell_kept Oc1.out bw2; replace c2 := cell_kept Oc2.out bw2; replace c3 := cell_kept Oc3.out bw2; replace e0 := cell_kept Oe0.out bw2; replace e1 := cell_kept Oe1.out bw2; (first | (have Q2 := box_kept (show (w13.alloc (.cells #[.int .i64 0, .int .i64 0, .int .i64 0, .slice none 0 0] 65 (0, 0))).drew.heap[w13.heap.size]? = some (.cells #[.int .i64 0, .int .i64 0, .int .i64 0, .slice none 0 0] 65 (0, 0)) from heap_alloc_new w13 _) b2) | skip); have HO2 := Lib.hid ho2; have HS2 := Lib.hid hs2; clear ho2 hs2))
          all_goals go_wp2_with fail
          all_goals go_meet
          all_goals first | (have qq := Q4; exact ⟨_, _, _, _, _, _, rfl, rfl, got_a qq ⟨c0, c1, c2, c3⟩ ⟨e0, e1⟩ HR4.out bw4 (by omega) (by first | exact (Array.getElem?_eq_some_iff.1 Q3).1 | (simp; done)) (Nat.le_refl _) (by omega) hs4⟩) | exact ⟨_, _, _, _, _, _, rfl, rfl, got_b ⟨c0, c1, c2, c3⟩ ⟨e0, e1⟩ HR4.out bw4 (by omega) (Nat.le_refl _) hs4⟩
        case rest =>
          obtain ⟨w14, hw14⟩ : ∃ q, q = wc := ⟨_, rfl⟩
          subst hw14
          obtain ⟨GH, ha, hn, hc, lh, hh2, rfl, rfl, ha', he, hr, hg, bx, gG3, gl3, gh3, gx3, gle3⟩ := hcut
          have HH := Lib.hid hr
          have HHB := Lib.hid hg
          replace HW := Lib.hid (HW.out.below bx)
          replace HWB := Lib.hid (HWB.out.kept bx)
          replace HGB := Lib.hid (HGB.out.kept bx)
          replace HM := Lib.hid (HM.out.below bx)
          replace bb := below_chain bb bx
          clear bx hr hg ha' he HA HE
          obtain ⟨g0, g1, g2, g3⟩ := HHB.out
          obtain ⟨q0, q1, q2, q3⟩ := HWB.out
          go_wp2_with fail
          clear g0 g1 g2 g3
          clear q0 q1 q2 q3
          refine (eqRecord_any _ _ y y _ HH.out.toV HW.out.toV).mono ?_
          rw [decide_eq_true rfl]
          rintro e w15 ⟨rfl, bq⟩
          replace HGB := Lib.hid (HGB.out.kept bq)
          replace HM := Lib.hid (HM.out.below bq)
          replace bb := below_chain bb bq
          clear bq HH HHB HW HWB
          obtain ⟨g0, g1, g2, g3⟩ := HGB.out
          go_wp2_with fail
          clear g0 g1 g2 g3
          refine (heldRecord_any _ y 1 y.evs.length _ (Nat.le_refl _) (by omega) HM.out.toV).mono ?_
          rintro e w16 ⟨rfl, bh⟩
          go_wp2_with fail
          go_ret
          exact ⟨rfl, below_chain bb bh⟩

set_option maxRecDepth 100000 in
theorem fnExactAddEvent_lifted (os : Os) (started : os.Started) (H : Type) (enc : TypeId × Value → H) :
    ReturnsInHanded {} Try.checked os 5 .any (Rows.fnExactAddEventSpec.pre6 enc Try.prog Try.f5 Rows.fnExactAddEventRow.domain false) (Rows.fnExactAddEventSpec.post enc Try.prog Try.f5 false true false false) := by
  refine returnsInHanded_of_change (C := Try.checked) Try.own started (by kernel_rfl) Try.func5
    (ChangeSpec.witness6 (enc := enc) (C := Try.checked) false ⟨#[], #[.agg #[.int .i64 0, .int .i64 0, .int .i64 0, .slice none 0 0], .agg #[.int .i64 0, .int .i64 0]], []⟩ 8 (by kernel_rfl) (by kernel_rfl) (by kernel_rfl) (by kernel_rfl)) ?_
  intro W base args ds gs before hval0 hW hcnd _
  have hval : ∀ (j : Nat) t v, Try.f5.params[j]? = some t → args[j]? = some v → Value.okWide Try.prog W .any base t v := hval0
  have hW' := hW
  obtain ⟨p, q, hA0, hV, rfl, hfz, hnd⟩ := hW
  have hA : DataW.TrodAll enc Try.prog W 0 (fun _ => true) true Try.f5.params.toList args.toList ds p := hA0
  rw [Try.params5] at hA hval
  obtain ⟨v0, vs0, d0, ds0, p0, q0, hargs, rfl, rfl, h0, r0⟩ := trodAll_cons hA
  obtain ⟨v1, vs1, d1, ds1, p1, q1, rfl, rfl, rfl, h1, r1⟩ := trodAll_cons r0
  obtain ⟨rfl, rfl, rfl⟩ := trodAll_nil r1
  obtain rfl : args = #[v0, v1] := by cases args; simp_all
  obtain ⟨rfl, rfl⟩ := trodVars_none hV
  obtain ⟨x0, w0⟩ := arg_rec (hval 0 59 v0 rfl rfl) h0
  have lt0 : ∀ x ∈ p0, x.block < W.heap.size := by obtain ⟨m, hm⟩ := h0; exact DataW.trod_lt m _ _ _ hm
  obtain ⟨x1, w1⟩ := arg_ev (hval 1 61 v1 rfl rfl) h1
  have lt1 : ∀ x ∈ p1, x.block < W.heap.size := by obtain ⟨m, hm⟩ := h1; exact DataW.trod_lt m _ _ _ hm
  clear hA0 hval0
  refine (walkAddEvent v0 x0 v1 x1 W w0 w1).mono fun e W' ⟨he, bel⟩ => ?_
  subst he
  exact ⟨_, rfl, _, _, _, [], _, [], hW', trodAll_mk1 (shut_bool Try.underlying4 _), (trodAll_cons_mk (Below.trod Try.laidOut (by kernel_rfl) (of_decide_eq_true (by kernel_rfl)) h0 bel lt0) (trodAll_cons_mk (Below.trod Try.laidOut (by kernel_rfl) (of_decide_eq_true (by kernel_rfl)) h1 bel lt1) trodAll_mk0)), rfl, bel.frame _, fun h => by cases h⟩

/-- THE STATEMENT. -/
theorem fnExactAddEvent_proved : Rows.FnExactAddEventSaid :=
  OpenClaim.holds_of_wide 5 Try.f5 rfl rfl rfl rfl rfl rfl rfl ⟨rfl, rfl, rfl, rfl, rfl⟩ rfl rfl rfl rfl rfl (by kernel_rfl) Try.func5 (by kernel_rfl)
    (of_decide_eq_true (by kernel_rfl)) (by unfold Func.isWrapper; first | (rw [if_pos (by decide +kernel)]; kernel_rfl) | (rw [if_neg (by decide +kernel)]; exact ⟨rfl, rfl⟩))
    (fun os started H enc _ => fnExactAddEvent_lifted os started H enc)
end Go.Proofs.Ythicbdaejmndaaa
