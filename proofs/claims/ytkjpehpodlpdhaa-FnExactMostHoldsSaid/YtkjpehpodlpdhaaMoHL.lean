/- The law FnExactMostHolds: at every argument the call answers true. No condition. -/
import Derived.Test.YtkjpehpodlpdhaaHo4S
import Derived.Test.YtkjpehpodlpdhaaHo4I
import Derived.Test.YtkjpehpodlpdhaaEqHo
import Derived.Test.YtkjpehpodlpdhaaMarkHo
import Derived.Test.YtkjpehpodlpdhaaEqRec
import Derived.Test.YtkjpehpodlpdhaaMarkRec
import Derived.Test.YtkjpehpodlpdhaaRecs
import Derived.Test.YtkjpehpodlpdhaaFrame
import Derived.Test.YtkjpehpodlpdhaaBox4
import Derived.Test.YtkjpehpodlpdhaaCellOnly
import Derived.Deep.RegionHeld3
namespace Go.Proofs.Ytkjpehpodlpdhaa
set_option linter.unusedVariables false
open Go.ChangeShapes Go.WideShapes Go.ChangeAt Go.RowKit

set_option maxRecDepth 20000 in
set_option maxHeartbeats 8000000 in
theorem walkMostHolds (v0 : Value) (l : List Ho) (v1 : Value) (r : Rec) (W : World) (h0 : RowR 6 rHo W v0 l) (h1 : RecV W v1 r) :
    Calls Try.prog 10 #[v0, v1] W fun e w' => e = .returned (.bool true) ∧ Below W.heap.size W w' := by
  have HA0 := Lib.hid (show ∀ W', Below W.heap.size W W' → RowR 6 rHo W' v0 l from fun W' hb => h0.below rHo_stable hb)
  clear h0
  obtain ⟨sl1, rfl, hh1, hok1⟩ := h1
  have HA1 := Lib.hid (show ∀ W', Below W.heap.size W W' → RecV W' (.agg #[.int .i64 r.id, .int .i64 r.series, .int .i64 r.made, sl1]) r from fun W' hb => ⟨sl1, rfl, hh1.below rEv_stable hb, hok1⟩)
  clear hh1 hok1
  obtain ⟨x, y, b, hb⟩ : ∃ x y b, moRes l r = (x, y, b) := ⟨_, _, _, rfl⟩
  have HB := Lib.hid hb
  clear hb
  have eb_x : (x != x) = false := by simp
  have eb_y : (y != y) = false := by simp
  have eb_b : (b != b) = false := by simp
  go_enter Try.func10, Try.ntmps10
  go_wp2_with fail
  generalize hW0 : W.alloc (.cells #[.int .i64 r.id, .int .i64 r.series, .int .i64 r.made, sl1] 31 (0, 0)) = W0
  have HBW : Hid (Below W.heap.size W W0) := Lib.hid (by rw [← hW0]; exact below_al (Below.refl W.heap.size W) _)
  have HC1 := Lib.hid (show W0.cell? ⟨W.heap.size, 0, none⟩ = some (.int .i64 r.id) ∧ W0.cell? ⟨W.heap.size, 1, none⟩ = some (.int .i64 r.series) ∧ W0.cell? ⟨W.heap.size, 2, none⟩ = some (.int .i64 r.made) ∧ W0.cell? ⟨W.heap.size, 3, none⟩ = some (sl1) by rw [← hW0]; exact ⟨cell_new W #[.int .i64 r.id, .int .i64 r.series, .int .i64 r.made, sl1] 31 0 rfl, cell_new W #[.int .i64 r.id, .int .i64 r.series, .int .i64 r.made, sl1] 31 1 rfl, cell_new W #[.int .i64 r.id, .int .i64 r.series, .int .i64 r.made, sl1] 31 2 rfl, cell_new W #[.int .i64 r.id, .int .i64 r.series, .int .i64 r.made, sl1] 31 3 rfl⟩)
  clear hW0
  obtain ⟨c1_0, c1_1, c1_2, c1_3⟩ := HC1.out
  go_wp2_with fail
  refine (szHoS_any _ l 1048576 _ (HA0.out _ HBW.out) (by omega) (by omega)).mono ?_
  rintro e w1 ⟨n0, rfl, hf0, hp0, hq0, b1⟩
  have sz1 := b1.size
  replace HC1 := Lib.hid (show w1.cell? ⟨W.heap.size, 0, none⟩ = some (.int .i64 r.id) ∧ w1.cell? ⟨W.heap.size, 1, none⟩ = some (.int .i64 r.series) ∧ w1.cell? ⟨W.heap.size, 2, none⟩ = some (.int .i64 r.made) ∧ w1.cell? ⟨W.heap.size, 3, none⟩ = some (sl1) by obtain ⟨z0, z1, z2, z3⟩ := HC1.out; exact ⟨cell_kept z0 b1, cell_kept z1 b1, cell_kept z2 b1, cell_kept z3 b1⟩)
  replace HBW := Lib.hid (HBW.out.trans (b1.mono HBW.out.size))
  clear b1 c1_0 c1_1 c1_2 c1_3
  have HF0 := Lib.hid hf0
  have HP0 := Lib.hid hp0
  clear hf0 hp0
  by_cases hs0 : n0 < 0
  · go_wp2_with fail
    go_ret
    exact ⟨rfl, HBW.out⟩
  · have hl0 : l.length + szHo l ≤ 1048576 := by have := HF0.out; omega
    have hn00 : 0 ≤ n0 := by omega
    have hxt0 := msHo_le l
    obtain ⟨c1_0, c1_1, c1_2, c1_3⟩ := HC1.out
    go_wp2_with fail
    refine (szRecord_any _ r n0 _ (HA1.out _ HBW.out) (by omega) (by omega)).mono ?_
    rintro e w2 ⟨rfl, b2⟩
    have sz2 := b2.size
    replace HC1 := Lib.hid (show w2.cell? ⟨W.heap.size, 0, none⟩ = some (.int .i64 r.id) ∧ w2.cell? ⟨W.heap.size, 1, none⟩ = some (.int .i64 r.series) ∧ w2.cell? ⟨W.heap.size, 2, none⟩ = some (.int .i64 r.made) ∧ w2.cell? ⟨W.heap.size, 3, none⟩ = some (sl1) by obtain ⟨z0, z1, z2, z3⟩ := HC1.out; exact ⟨cell_kept z0 b2, cell_kept z1 b2, cell_kept z2 b2, cell_kept z3 b2⟩)
    replace HBW := Lib.hid (HBW.out.trans (b2.mono HBW.out.size))
    clear b2 c1_0 c1_1 c1_2 c1_3
    by_cases hs1 : (n0 : Int) < r.evs.length
    · rw [if_pos hs1]
      go_wp2_with fail
      go_ret
      exact ⟨rfl, HBW.out⟩
    · rw [if_neg hs1]
      obtain ⟨n1, hn1⟩ : ∃ n : Int, n0 - (r.evs.length : Int) = n := ⟨_, rfl⟩
      have hl1 : r.evs.length ≤ 1048576 := by omega
      have hn10 : 0 ≤ n1 := by omega
      have hn11 : n1 ≤ n0 := by omega
      rw [hn1]
      clear hn1
      obtain ⟨c1_0, c1_1, c1_2, c1_3⟩ := HC1.out
      go_wp2_with fail
      go_region_held3 (fun w' => w'.cell? ⟨W.heap.size, 0, none⟩ = some (.int .i64 r.id) ∧ w'.cell? ⟨W.heap.size, 1, none⟩ = some (.int .i64 r.series) ∧ w'.cell? ⟨W.heap.size, 2, none⟩ = some (.int .i64 r.made) ∧ w'.cell? ⟨W.heap.size, 3, none⟩ = some (sl1)) (first | exact ⟨c1_0, c1_1, c1_2, c1_3⟩ | go_keep) (first | (go_at_call 17; refine (toHoS_any _ l _ (HA0.out _ HBW.out.drew) (by omega)).mono ?_; rintro e w3 ⟨s0, rfl, hos0, b3⟩; have HOs0 := Lib.hid hos0; clear hos0; replace b3 : Below w2.heap.size w2 w3 := (Below.refl _ _).drew.trans b3; have sz3 := b3.size; replace c1_0 := cell_kept c1_0 b3; replace c1_1 := cell_kept c1_1 b3; replace c1_2 := cell_kept c1_2 b3; replace c1_3 := cell_kept c1_3 b3; replace HC1 := Lib.hid (show w3.cell? ⟨W.heap.size, 0, none⟩ = some (.int .i64 r.id) ∧ w3.cell? ⟨W.heap.size, 1, none⟩ = some (.int .i64 r.series) ∧ w3.cell? ⟨W.heap.size, 2, none⟩ = some (.int .i64 r.made) ∧ w3.cell? ⟨W.heap.size, 3, none⟩ = some (sl1) by obtain ⟨z0, z1, z2, z3⟩ := HC1.out; exact ⟨cell_kept z0 b3, cell_kept z1 b3, cell_kept z2 b3, cell_kept z3 b3⟩); replace HBW := Lib.hid (HBW.out.trans (b3.mono HBW.out.size)); clear b3) | (go_at_call 22; refine (toRecord_some _ r _ (HA1.out _ HBW.out) (by omega)).mono ?_; rintro e w4 ⟨s1, rfl, hos1, b4, hss1⟩; have HOs1 := Lib.hid hos1; have HSs1 := Lib.hid hss1; clear hos1 hss1; have sz4 := b4.size; replace c1_0 := cell_kept c1_0 b4; replace c1_1 := cell_kept c1_1 b4; replace c1_2 := cell_kept c1_2 b4; replace c1_3 := cell_kept c1_3 b4; replace HOs0 := Lib.hid (HOs0.out.below b4); replace HC1 := Lib.hid (show w4.cell? ⟨W.heap.size, 0, none⟩ = some (.int .i64 r.id) ∧ w4.cell? ⟨W.heap.size, 1, none⟩ = some (.int .i64 r.series) ∧ w4.cell? ⟨W.heap.size, 2, none⟩ = some (.int .i64 r.made) ∧ w4.cell? ⟨W.heap.size, 3, none⟩ = some (sl1) by obtain ⟨z0, z1, z2, z3⟩ := HC1.out; exact ⟨cell_kept z0 b4, cell_kept z1 b4, cell_kept z2 b4, cell_kept z3 b4⟩); replace HBW := Lib.hid (HBW.out.trans (b4.mono HBW.out.size)); clear b4) | (go_at_call 48; refine (specMostHolds_any _ _ l r _ HOs0.out.row HOs1.out.toV x y b HB.out).mono ?_; rintro e w5 ⟨rfl, b5⟩; have sz5 := b5.size; replace c1_0 := cell_kept c1_0 b5; replace c1_1 := cell_kept c1_1 b5; replace c1_2 := cell_kept c1_2 b5; replace c1_3 := cell_kept c1_3 b5; replace HOs0 := Lib.hid (HOs0.out.below b5); replace HOs1 := Lib.hid (HOs1.out.below b5); replace HC1 := Lib.hid (show w5.cell? ⟨W.heap.size, 0, none⟩ = some (.int .i64 r.id) ∧ w5.cell? ⟨W.heap.size, 1, none⟩ = some (.int .i64 r.series) ∧ w5.cell? ⟨W.heap.size, 2, none⟩ = some (.int .i64 r.made) ∧ w5.cell? ⟨W.heap.size, 3, none⟩ = some (sl1) by obtain ⟨z0, z1, z2, z3⟩ := HC1.out; exact ⟨cell_kept z0 b5, cell_kept z1 b5, cell_kept z2 b5, cell_kept z3 b5⟩); replace HBW := Lib.hid (HBW.out.trans (b5.mono HBW.out.size)); clear b5))
      clear c1_0 c1_1 c1_2 c1_3
      clear HOs0
      clear HOs1
      clear HSs1
      obtain ⟨c1_0, c1_1, c1_2, c1_3⟩ := HC1.out
      go_wp2_with fail
      refine (toHoS_any _ l _ (HA0.out _ HBW.out) (by omega)).mono ?_
      rintro e w6 ⟨x0, rfl, hox0, b6⟩
      have HOx0 := Lib.hid hox0
      clear hox0
      have sz6 := b6.size
      replace HC1 := Lib.hid (show w6.cell? ⟨W.heap.size, 0, none⟩ = some (.int .i64 r.id) ∧ w6.cell? ⟨W.heap.size, 1, none⟩ = some (.int .i64 r.series) ∧ w6.cell? ⟨W.heap.size, 2, none⟩ = some (.int .i64 r.made) ∧ w6.cell? ⟨W.heap.size, 3, none⟩ = some (sl1) by obtain ⟨z0, z1, z2, z3⟩ := HC1.out; exact ⟨cell_kept z0 b6, cell_kept z1 b6, cell_kept z2 b6, cell_kept z3 b6⟩)
      replace HBW := Lib.hid (HBW.out.trans (b6.mono HBW.out.size))
      clear b6 c1_0 c1_1 c1_2 c1_3
      obtain ⟨c1_0, c1_1, c1_2, c1_3⟩ := HC1.out
      go_wp2_with fail
      refine (toRecord_some _ r _ (HA1.out _ HBW.out) (by omega)).mono ?_
      rintro e w7 ⟨x1, rfl, hox1, b7, hsx1⟩
      have HOx1 := Lib.hid hox1
      have HSx1 := Lib.hid hsx1
      clear hox1 hsx1
      have sz7 := b7.size
      replace HOx0 := Lib.hid (HOx0.out.below b7)
      replace HC1 := Lib.hid (show w7.cell? ⟨W.heap.size, 0, none⟩ = some (.int .i64 r.id) ∧ w7.cell? ⟨W.heap.size, 1, none⟩ = some (.int .i64 r.series) ∧ w7.cell? ⟨W.heap.size, 2, none⟩ = some (.int .i64 r.made) ∧ w7.cell? ⟨W.heap.size, 3, none⟩ = some (sl1) by obtain ⟨z0, z1, z2, z3⟩ := HC1.out; exact ⟨cell_kept z0 b7, cell_kept z1 b7, cell_kept z2 b7, cell_kept z3 b7⟩)
      replace HBW := Lib.hid (HBW.out.trans (b7.mono HBW.out.size))
      clear b7 c1_0 c1_1 c1_2 c1_3
      obtain ⟨sx1, hvx1, hox1, hokx1⟩ := HOx1.out
      obtain ⟨sa1, sn1, sc1, rfl⟩ := hox1.1.slice
      subst hvx1
      clear hox1 hokx1
      obtain ⟨c1_0, c1_1, c1_2, c1_3⟩ := HC1.out
      have c1_0x := fun ob => below_al_cell c1_0 ob
      have c1_1x := fun ob => below_al_cell c1_1 ob
      have c1_2x := fun ob => below_al_cell c1_2 ob
      have c1_3x := fun ob => below_al_cell c1_3 ob
      go_wp2_with fail
      refine (implMostHolds_any _ _ l r _ (HOx0.out.below (below_al (Below.refl _ _) _)).row (HOx1.out.below (below_al (Below.refl _ _) _)).toV x y b HB.out).mono ?_
      rintro e w8 ⟨rfl, b8⟩
      have HC2 := Lib.hid (show w8.cell? ⟨w7.heap.size, 0, none⟩ = some (.int .i64 r.id) ∧ w8.cell? ⟨w7.heap.size, 1, none⟩ = some (.int .i64 r.series) ∧ w8.cell? ⟨w7.heap.size, 2, none⟩ = some (.int .i64 r.made) ∧ w8.cell? ⟨w7.heap.size, 3, none⟩ = some (.slice sa1 sn1 sc1) from ⟨cell_kept (cell_new _ _ _ 0 rfl) b8, cell_kept (cell_new _ _ _ 1 rfl) b8, cell_kept (cell_new _ _ _ 2 rfl) b8, cell_kept (cell_new _ _ _ 3 rfl) b8⟩)
      replace b8 := below_chain (below_al (Below.refl w7.heap.size w7) _) b8
      have sz8 := b8.size
      replace HOx0 := Lib.hid (HOx0.out.below b8)
      replace HOx1 := Lib.hid (HOx1.out.below b8)
      replace HC1 := Lib.hid (show w8.cell? ⟨W.heap.size, 0, none⟩ = some (.int .i64 r.id) ∧ w8.cell? ⟨W.heap.size, 1, none⟩ = some (.int .i64 r.series) ∧ w8.cell? ⟨W.heap.size, 2, none⟩ = some (.int .i64 r.made) ∧ w8.cell? ⟨W.heap.size, 3, none⟩ = some (sl1) by obtain ⟨z0, z1, z2, z3⟩ := HC1.out; exact ⟨cell_kept z0 b8, cell_kept z1 b8, cell_kept z2 b8, cell_kept z3 b8⟩)
      replace HBW := Lib.hid (HBW.out.trans (b8.mono HBW.out.size))
      clear b8 c1_0 c1_1 c1_2 c1_3 c1_0x c1_1x c1_2x c1_3x
      obtain ⟨c1_0, c1_1, c1_2, c1_3⟩ := HC1.out
      obtain ⟨c2_0, c2_1, c2_2, c2_3⟩ := HC2.out
      go_wp2_with fail
      refine (toHoS_any _ l _ (HA0.out _ HBW.out) (by omega)).mono ?_
      rintro e w9 ⟨vq0, rfl, hq0_, b9⟩
      have HQ0 := Lib.hid hq0_
      clear hq0_
      have sz9 := b9.size
      replace HOx0 := Lib.hid (HOx0.out.below b9)
      replace HOx1 := Lib.hid (HOx1.out.below b9)
      replace HC1 := Lib.hid (show w9.cell? ⟨W.heap.size, 0, none⟩ = some (.int .i64 r.id) ∧ w9.cell? ⟨W.heap.size, 1, none⟩ = some (.int .i64 r.series) ∧ w9.cell? ⟨W.heap.size, 2, none⟩ = some (.int .i64 r.made) ∧ w9.cell? ⟨W.heap.size, 3, none⟩ = some (sl1) by obtain ⟨z0, z1, z2, z3⟩ := HC1.out; exact ⟨cell_kept z0 b9, cell_kept z1 b9, cell_kept z2 b9, cell_kept z3 b9⟩)
      replace HC2 := Lib.hid (show w9.cell? ⟨w7.heap.size, 0, none⟩ = some (.int .i64 r.id) ∧ w9.cell? ⟨w7.heap.size, 1, none⟩ = some (.int .i64 r.series) ∧ w9.cell? ⟨w7.heap.size, 2, none⟩ = some (.int .i64 r.made) ∧ w9.cell? ⟨w7.heap.size, 3, none⟩ = some (.slice sa1 sn1 sc1) by obtain ⟨z0, z1, z2, z3⟩ := HC2.out; exact ⟨cell_kept z0 b9, cell_kept z1 b9, cell_kept z2 b9, cell_kept z3 b9⟩)
      replace HBW := Lib.hid (HBW.out.trans (b9.mono HBW.out.size))
      clear b9 c1_0 c1_1 c1_2 c1_3 c2_0 c2_1 c2_2 c2_3
      obtain ⟨c1_0, c1_1, c1_2, c1_3⟩ := HC1.out
      obtain ⟨c2_0, c2_1, c2_2, c2_3⟩ := HC2.out
      go_wp2_with fail
      refine (eqHoS_any _ _ l l _ HOx0.out.row HQ0.out.row).mono ?_
      rw [decide_eq_true rfl]
      rintro e w10 ⟨rfl, b10⟩
      have sz10 := b10.size
      replace HOx0 := Lib.hid (HOx0.out.below b10)
      replace HOx1 := Lib.hid (HOx1.out.below b10)
      replace HQ0 := Lib.hid (HQ0.out.below b10)
      replace HC1 := Lib.hid (show w10.cell? ⟨W.heap.size, 0, none⟩ = some (.int .i64 r.id) ∧ w10.cell? ⟨W.heap.size, 1, none⟩ = some (.int .i64 r.series) ∧ w10.cell? ⟨W.heap.size, 2, none⟩ = some (.int .i64 r.made) ∧ w10.cell? ⟨W.heap.size, 3, none⟩ = some (sl1) by obtain ⟨z0, z1, z2, z3⟩ := HC1.out; exact ⟨cell_kept z0 b10, cell_kept z1 b10, cell_kept z2 b10, cell_kept z3 b10⟩)
      replace HC2 := Lib.hid (show w10.cell? ⟨w7.heap.size, 0, none⟩ = some (.int .i64 r.id) ∧ w10.cell? ⟨w7.heap.size, 1, none⟩ = some (.int .i64 r.series) ∧ w10.cell? ⟨w7.heap.size, 2, none⟩ = some (.int .i64 r.made) ∧ w10.cell? ⟨w7.heap.size, 3, none⟩ = some (.slice sa1 sn1 sc1) by obtain ⟨z0, z1, z2, z3⟩ := HC2.out; exact ⟨cell_kept z0 b10, cell_kept z1 b10, cell_kept z2 b10, cell_kept z3 b10⟩)
      replace HBW := Lib.hid (HBW.out.trans (b10.mono HBW.out.size))
      clear b10 c1_0 c1_1 c1_2 c1_3 c2_0 c2_1 c2_2 c2_3
      clear HQ0
      obtain ⟨c1_0, c1_1, c1_2, c1_3⟩ := HC1.out
      obtain ⟨c2_0, c2_1, c2_2, c2_3⟩ := HC2.out
      go_wp2_with fail
      go_region_held3 (fun w' => w'.cell? ⟨W.heap.size, 0, none⟩ = some (.int .i64 r.id) ∧ w'.cell? ⟨W.heap.size, 1, none⟩ = some (.int .i64 r.series) ∧ w'.cell? ⟨W.heap.size, 2, none⟩ = some (.int .i64 r.made) ∧ w'.cell? ⟨W.heap.size, 3, none⟩ = some (sl1) ∧ w'.cell? ⟨w7.heap.size, 0, none⟩ = some (.int .i64 r.id) ∧ w'.cell? ⟨w7.heap.size, 1, none⟩ = some (.int .i64 r.series) ∧ w'.cell? ⟨w7.heap.size, 2, none⟩ = some (.int .i64 r.made) ∧ w'.cell? ⟨w7.heap.size, 3, none⟩ = some (.slice sa1 sn1 sc1)) (first | exact ⟨c1_0, c1_1, c1_2, c1_3, c2_0, c2_1, c2_2, c2_3⟩ | go_keep) (first | (go_at_call 22; refine (toRecord_any _ r _ (HA1.out _ HBW.out.drew) (by omega)).mono ?_; rintro e w11 ⟨vq1, rfl, hq1_, b11⟩; have HQ1 := Lib.hid hq1_; clear hq1_; replace b11 : Below w10.heap.size w10 w11 := (Below.refl _ _).drew.trans b11; have sz11 := b11.size; replace c1_0 := cell_kept c1_0 b11; replace c1_1 := cell_kept c1_1 b11; replace c1_2 := cell_kept c1_2 b11; replace c1_3 := cell_kept c1_3 b11; replace c2_0 := cell_kept c2_0 b11; replace c2_1 := cell_kept c2_1 b11; replace c2_2 := cell_kept c2_2 b11; replace c2_3 := cell_kept c2_3 b11; replace HOx0 := Lib.hid (HOx0.out.below b11); replace HOx1 := Lib.hid (HOx1.out.below b11); (replace HC1 := Lib.hid (show w11.cell? ⟨W.heap.size, 0, none⟩ = some (.int .i64 r.id) ∧ w11.cell? ⟨W.heap.size, 1, none⟩ = some (.int .i64 r.series) ∧ w11.cell? ⟨W.heap.size, 2, none⟩ = some (.int .i64 r.made) ∧ w11.cell? ⟨W.heap.size, 3, none⟩ = some (sl1) by obtain ⟨z0, z1, z2, z3⟩ := HC1.out; exact ⟨cell_kept z0 b11, cell_kept z1 b11, cell_kept z2 b11, cell_kept z3 b11⟩)); (replace HC2 := Lib.hid (show w11.cell? ⟨w7.heap.size, 0, none⟩ = some (.int .i64 r.id) ∧ w11.cell? ⟨w7.heap.size, 1, none⟩ = some (.int .i64 r.series) ∧ w11.cell? ⟨w7.heap.size, 2, none⟩ = some (.int .i64 r.made) ∧ w11.cell? ⟨w7.heap.size, 3, none⟩ = some (.slice sa1 sn1 sc1) by obtain ⟨z0, z1, z2, z3⟩ := HC2.out; exact ⟨cell_kept z0 b11, cell_kept z1 b11, cell_kept z2 b11, cell_kept z3 b11⟩)); replace HBW := Lib.hid (HBW.out.trans (b11.mono HBW.out.size)); clear b11) | (go_at_call 25; refine (eqRecord_any _ _ r r _ HOx1.out.toV HQ1.out.toV).mono ?_; rw [decide_eq_true rfl]; rintro e w12 ⟨rfl, b12⟩; have sz12 := b12.size; replace c1_0 := cell_kept c1_0 b12; replace c1_1 := cell_kept c1_1 b12; replace c1_2 := cell_kept c1_2 b12; replace c1_3 := cell_kept c1_3 b12; replace c2_0 := cell_kept c2_0 b12; replace c2_1 := cell_kept c2_1 b12; replace c2_2 := cell_kept c2_2 b12; replace c2_3 := cell_kept c2_3 b12; replace HOx0 := Lib.hid (HOx0.out.below b12); replace HOx1 := Lib.hid (HOx1.out.below b12); (replace HC1 := Lib.hid (show w12.cell? ⟨W.heap.size, 0, none⟩ = some (.int .i64 r.id) ∧ w12.cell? ⟨W.heap.size, 1, none⟩ = some (.int .i64 r.series) ∧ w12.cell? ⟨W.heap.size, 2, none⟩ = some (.int .i64 r.made) ∧ w12.cell? ⟨W.heap.size, 3, none⟩ = some (sl1) by obtain ⟨z0, z1, z2, z3⟩ := HC1.out; exact ⟨cell_kept z0 b12, cell_kept z1 b12, cell_kept z2 b12, cell_kept z3 b12⟩)); (replace HC2 := Lib.hid (show w12.cell? ⟨w7.heap.size, 0, none⟩ = some (.int .i64 r.id) ∧ w12.cell? ⟨w7.heap.size, 1, none⟩ = some (.int .i64 r.series) ∧ w12.cell? ⟨w7.heap.size, 2, none⟩ = some (.int .i64 r.made) ∧ w12.cell? ⟨w7.heap.size, 3, none⟩ = some (.slice sa1 sn1 sc1) by obtain ⟨z0, z1, z2, z3⟩ := HC2.out; exact ⟨cell_kept z0 b12, cell_kept z1 b12, cell_kept z2 b12, cell_kept z3 b12⟩)); replace HBW := Lib.hid (HBW.out.trans (b12.mono HBW.out.size)); clear b12))
      clear c1_0 c1_1 c1_2 c1_3 c2_0 c2_1 c2_2 c2_3
      clear HQ1
      go_wp2_with fail
      go_ret
      exact ⟨rfl, HBW.out⟩

set_option maxRecDepth 100000 in
theorem fnExactMostHolds_lifted (os : Os) (started : os.Started) (H : Type) (enc : TypeId × Value → H) :
    ReturnsInHanded {} Try.checked os 10 .any (Rows.fnExactMostHoldsSpec.pre6 enc Try.prog Try.f10 Rows.fnExactMostHoldsRow.domain false) (Rows.fnExactMostHoldsSpec.post enc Try.prog Try.f10 false true false false) := by
  refine returnsInHanded_of_change (C := Try.checked) Try.own started (by kernel_rfl) Try.func10
    (ChangeSpec.witness6 (enc := enc) (C := Try.checked) false ⟨#[], #[.slice none 0 0, .agg #[.int .i64 0, .int .i64 0, .int .i64 0, .slice none 0 0]], []⟩ 8 (by kernel_rfl) (by kernel_rfl) (by kernel_rfl) (by kernel_rfl)) ?_
  intro W base args ds gs before hval0 hW hcnd _
  have hval : ∀ (j : Nat) t v, Try.f10.params[j]? = some t → args[j]? = some v → Value.okWide Try.prog W .any base t v := hval0
  have hW' := hW
  obtain ⟨p, q, hA0, hV, rfl, hfz, hnd⟩ := hW
  have hA : DataW.TrodAll enc Try.prog W 0 (fun _ => true) true Try.f10.params.toList args.toList ds p := hA0
  rw [Try.params10] at hA hval
  obtain ⟨v0, vs0, d0, ds0, p0, q0, hargs, rfl, rfl, h0, r0⟩ := trodAll_cons hA
  obtain ⟨v1, vs1, d1, ds1, p1, q1, rfl, rfl, rfl, h1, r1⟩ := trodAll_cons r0
  obtain ⟨rfl, rfl, rfl⟩ := trodAll_nil r1
  obtain rfl : args = #[v0, v1] := by cases args; simp_all
  obtain ⟨rfl, rfl⟩ := trodVars_none hV
  obtain ⟨x0, w0⟩ := arg_hos (hval 0 22 v0 rfl rfl) h0
  have lt0 : ∀ x ∈ p0, x.block < W.heap.size := by obtain ⟨m, hm⟩ := h0; exact DataW.trod_lt m _ _ _ hm
  obtain ⟨x1, w1⟩ := arg_rec (hval 1 31 v1 rfl rfl) h1
  have lt1 : ∀ x ∈ p1, x.block < W.heap.size := by obtain ⟨m, hm⟩ := h1; exact DataW.trod_lt m _ _ _ hm
  clear hA0 hval0
  refine (walkMostHolds v0 x0 v1 x1 W w0 w1).mono fun e W' ⟨he, bel⟩ => ?_
  subst he
  exact ⟨_, rfl, _, _, _, [], _, [], hW', trodAll_mk1 (shut_bool Try.underlying4 _), (trodAll_cons_mk (Below.trod Try.laidOut (by kernel_rfl) (of_decide_eq_true (by kernel_rfl)) h0 bel lt0) (trodAll_cons_mk (Below.trod Try.laidOut (by kernel_rfl) (of_decide_eq_true (by kernel_rfl)) h1 bel lt1) trodAll_mk0)), rfl, bel.frame _, fun h => by cases h⟩

/-- THE STATEMENT. -/
theorem fnExactMostHolds_proved : Rows.FnExactMostHoldsSaid :=
  OpenClaim.holds_of_wide 10 Try.f10 rfl rfl rfl rfl rfl rfl rfl ⟨rfl, rfl, rfl, rfl, rfl⟩ rfl rfl rfl rfl rfl (by kernel_rfl) Try.func10 (by kernel_rfl)
    (of_decide_eq_true (by kernel_rfl)) (by unfold Func.isWrapper; first | (rw [if_pos (by decide +kernel)]; kernel_rfl) | (rw [if_neg (by decide +kernel)]; exact ⟨rfl, rfl⟩))
    (fun os started H enc _ => fnExactMostHolds_lifted os started H enc)
end Go.Proofs.Ytkjpehpodlpdhaa
