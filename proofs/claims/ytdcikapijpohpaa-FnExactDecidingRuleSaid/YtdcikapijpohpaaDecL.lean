/- The law FnExactDecidingRule: at every argument the call answers true. No condition. -/
import Derived.Test.YtdcikapijpohpaaPerI
import Derived.Test.YtdcikapijpohpaaPerS2
import Derived.Test.YtdcikapijpohpaaEqRec
import Derived.Test.YtdcikapijpohpaaEqRu
import Derived.Test.YtdcikapijpohpaaMarkRec
import Derived.Test.YtdcikapijpohpaaMarkRecs
import Derived.Test.YtdcikapijpohpaaMarkRu
import Derived.Test.YtdcikapijpohpaaRecs
import Derived.Test.YtdcikapijpohpaaInts
import Derived.Test.YtdcikapijpohpaaTyRecs
import Derived.Test.YtdcikapijpohpaaFrame
import Derived.Test.YtdcikapijpohpaaBox4
import Derived.Deep.RegionHeld3
namespace Go.Proofs.Ytdcikapijpohpaa
set_option linter.unusedVariables false
open Go.ChangeShapes Go.WideShapes Go.ChangeAt Go.RowKit

set_option maxRecDepth 20000 in
set_option maxHeartbeats 8000000 in
theorem walkDecidingRule (v0 : Value) (r : Rec) (v1 : Value) (t : List Ru) (W : World) (h0 : RecV W v0 r) (h1 : RowR 4 rRu W v1 t) :
    Calls Try.prog 8 #[v0, v1] W fun e w' => e = .returned (.bool true) ∧ Below W.heap.size W w' := by
  obtain ⟨sl0, rfl, hh0, hok0⟩ := h0
  have HA0 := Lib.hid (show ∀ W', Below W.heap.size W W' → RecV W' (.agg #[.int .i64 r.id, .int .i64 r.series, .int .i64 r.made, sl0]) r from fun W' hb => ⟨sl0, rfl, hh0.below rEv_stable hb, hok0⟩)
  clear hh0 hok0
  have HA1 := Lib.hid (show ∀ W', Below W.heap.size W W' → RowR 4 rRu W' v1 t from fun W' hb => h1.below rRu_stable hb)
  clear h1
  obtain ⟨q, b, hb⟩ : ∃ q b, decRes r t = (q, b) := ⟨_, _, rfl⟩
  have HB := Lib.hid hb
  clear hb
  have eb_b : (b != b) = false := by simp
  go_enter Try.func8, Try.ntmps8
  go_wp2_with fail
  generalize hW0 : W.alloc (.cells #[.int .i64 r.id, .int .i64 r.series, .int .i64 r.made, sl0] 64 (0, 0)) = W0
  have HBW : Hid (Below W.heap.size W W0) := Lib.hid (by rw [← hW0]; exact below_al (Below.refl W.heap.size W) _)
  have HC1 := Lib.hid (show W0.cell? ⟨W.heap.size, 0, none⟩ = some (.int .i64 r.id) ∧ W0.cell? ⟨W.heap.size, 1, none⟩ = some (.int .i64 r.series) ∧ W0.cell? ⟨W.heap.size, 2, none⟩ = some (.int .i64 r.made) ∧ W0.cell? ⟨W.heap.size, 3, none⟩ = some (sl0) by rw [← hW0]; exact ⟨cell_new W #[.int .i64 r.id, .int .i64 r.series, .int .i64 r.made, sl0] 64 0 rfl, cell_new W #[.int .i64 r.id, .int .i64 r.series, .int .i64 r.made, sl0] 64 1 rfl, cell_new W #[.int .i64 r.id, .int .i64 r.series, .int .i64 r.made, sl0] 64 2 rfl, cell_new W #[.int .i64 r.id, .int .i64 r.series, .int .i64 r.made, sl0] 64 3 rfl⟩)
  clear hW0
  obtain ⟨c1_0, c1_1, c1_2, c1_3⟩ := HC1.out
  go_wp2_with fail
  refine (szRecord_any _ r 1048576 _ (HA0.out _ HBW.out) (by omega) (by omega)).mono ?_
  rintro e w1 ⟨rfl, b1⟩
  have sz1 := b1.size
  replace HC1 := Lib.hid (show w1.cell? ⟨W.heap.size, 0, none⟩ = some (.int .i64 r.id) ∧ w1.cell? ⟨W.heap.size, 1, none⟩ = some (.int .i64 r.series) ∧ w1.cell? ⟨W.heap.size, 2, none⟩ = some (.int .i64 r.made) ∧ w1.cell? ⟨W.heap.size, 3, none⟩ = some (sl0) by obtain ⟨z0, z1, z2, z3⟩ := HC1.out; exact ⟨cell_kept z0 b1, cell_kept z1 b1, cell_kept z2 b1, cell_kept z3 b1⟩)
  replace HBW := Lib.hid (HBW.out.trans (b1.mono HBW.out.size))
  clear b1 c1_0 c1_1 c1_2 c1_3
  by_cases hs0 : (1048576 : Int) < r.evs.length
  · rw [if_pos hs0]
    go_wp2_with fail
    go_ret
    exact ⟨rfl, HBW.out⟩
  · rw [if_neg hs0]
    obtain ⟨n0, hn0⟩ : ∃ n : Int, 1048576 - (r.evs.length : Int) = n := ⟨_, rfl⟩
    have hl0 : r.evs.length ≤ 1048576 := by omega
    have hn00 : 0 ≤ n0 := by omega
    have hn01 : n0 ≤ 1048576 := by omega
    rw [hn0]
    clear hn0
    obtain ⟨c1_0, c1_1, c1_2, c1_3⟩ := HC1.out
    go_wp2_with fail
    refine (szRuS_any _ t n0 _ (HA1.out _ HBW.out) (by omega) (by omega)).mono ?_
    rintro e w2 ⟨n1, rfl, hf1, hp1, hq1, b2⟩
    have sz2 := b2.size
    replace HC1 := Lib.hid (show w2.cell? ⟨W.heap.size, 0, none⟩ = some (.int .i64 r.id) ∧ w2.cell? ⟨W.heap.size, 1, none⟩ = some (.int .i64 r.series) ∧ w2.cell? ⟨W.heap.size, 2, none⟩ = some (.int .i64 r.made) ∧ w2.cell? ⟨W.heap.size, 3, none⟩ = some (sl0) by obtain ⟨z0, z1, z2, z3⟩ := HC1.out; exact ⟨cell_kept z0 b2, cell_kept z1 b2, cell_kept z2 b2, cell_kept z3 b2⟩)
    replace HBW := Lib.hid (HBW.out.trans (b2.mono HBW.out.size))
    clear b2 c1_0 c1_1 c1_2 c1_3
    have HF1 := Lib.hid hf1
    have HP1 := Lib.hid hp1
    clear hf1 hp1
    by_cases hs1 : n1 < 0
    · go_wp2_with fail
      go_ret
      exact ⟨rfl, HBW.out⟩
    · have hl1 : t.length ≤ 1048576 := by have := HF1.out; omega
      have hn10 : 0 ≤ n1 := by omega
      obtain ⟨c1_0, c1_1, c1_2, c1_3⟩ := HC1.out
      go_wp2_with fail
      refine (toRecord_some _ r _ (HA0.out _ HBW.out) (by omega)).mono ?_
      rintro e w3 ⟨s0, rfl, hos0, b3, hss0⟩
      have HOs0 := Lib.hid hos0
      have HSs0 := Lib.hid hss0
      clear hos0 hss0
      have sz3 := b3.size
      replace HC1 := Lib.hid (show w3.cell? ⟨W.heap.size, 0, none⟩ = some (.int .i64 r.id) ∧ w3.cell? ⟨W.heap.size, 1, none⟩ = some (.int .i64 r.series) ∧ w3.cell? ⟨W.heap.size, 2, none⟩ = some (.int .i64 r.made) ∧ w3.cell? ⟨W.heap.size, 3, none⟩ = some (sl0) by obtain ⟨z0, z1, z2, z3⟩ := HC1.out; exact ⟨cell_kept z0 b3, cell_kept z1 b3, cell_kept z2 b3, cell_kept z3 b3⟩)
      replace HBW := Lib.hid (HBW.out.trans (b3.mono HBW.out.size))
      clear b3 c1_0 c1_1 c1_2 c1_3
      obtain ⟨c1_0, c1_1, c1_2, c1_3⟩ := HC1.out
      go_wp2_with fail
      refine (toRuS_any _ t _ (HA1.out _ HBW.out) (by omega)).mono ?_
      rintro e w4 ⟨s1, rfl, hos1, b4⟩
      have HOs1 := Lib.hid hos1
      clear hos1
      have sz4 := b4.size
      replace HOs0 := Lib.hid (HOs0.out.below b4)
      replace HC1 := Lib.hid (show w4.cell? ⟨W.heap.size, 0, none⟩ = some (.int .i64 r.id) ∧ w4.cell? ⟨W.heap.size, 1, none⟩ = some (.int .i64 r.series) ∧ w4.cell? ⟨W.heap.size, 2, none⟩ = some (.int .i64 r.made) ∧ w4.cell? ⟨W.heap.size, 3, none⟩ = some (sl0) by obtain ⟨z0, z1, z2, z3⟩ := HC1.out; exact ⟨cell_kept z0 b4, cell_kept z1 b4, cell_kept z2 b4, cell_kept z3 b4⟩)
      replace HBW := Lib.hid (HBW.out.trans (b4.mono HBW.out.size))
      clear b4 c1_0 c1_1 c1_2 c1_3
      obtain ⟨c1_0, c1_1, c1_2, c1_3⟩ := HC1.out
      go_wp2_with fail
      refine (specDecidingRule_any _ _ r t _ HOs0.out.toV HOs1.out.row q b HB.out).mono ?_
      rintro e w5 ⟨rfl, b5⟩
      have sz5 := b5.size
      replace HOs0 := Lib.hid (HOs0.out.below b5)
      replace HOs1 := Lib.hid (HOs1.out.below b5)
      replace HC1 := Lib.hid (show w5.cell? ⟨W.heap.size, 0, none⟩ = some (.int .i64 r.id) ∧ w5.cell? ⟨W.heap.size, 1, none⟩ = some (.int .i64 r.series) ∧ w5.cell? ⟨W.heap.size, 2, none⟩ = some (.int .i64 r.made) ∧ w5.cell? ⟨W.heap.size, 3, none⟩ = some (sl0) by obtain ⟨z0, z1, z2, z3⟩ := HC1.out; exact ⟨cell_kept z0 b5, cell_kept z1 b5, cell_kept z2 b5, cell_kept z3 b5⟩)
      replace HBW := Lib.hid (HBW.out.trans (b5.mono HBW.out.size))
      clear b5 c1_0 c1_1 c1_2 c1_3
      clear HOs0
      clear HSs0
      clear HOs1
      obtain ⟨c1_0, c1_1, c1_2, c1_3⟩ := HC1.out
      have c1_0x := fun ob => below_al_cell c1_0 ob
      have c1_1x := fun ob => below_al_cell c1_1 ob
      have c1_2x := fun ob => below_al_cell c1_2 ob
      have c1_3x := fun ob => below_al_cell c1_3 ob
      go_wp2_with fail
      refine (toRecord_some _ r _ (HA0.out _ (HBW.out.trans ((below_al (Below.refl _ _) _).mono HBW.out.size))) (by omega)).mono ?_
      rintro e w6 ⟨x0, rfl, hox0, b6, hsx0⟩
      have HOx0 := Lib.hid hox0
      have HSx0 := Lib.hid hsx0
      clear hox0 hsx0
      have HC2 := Lib.hid (show w6.cell? ⟨w5.heap.size, 0, none⟩ = some (.int .i64 q.series) ∧ w6.cell? ⟨w5.heap.size, 1, none⟩ = some (.int .i64 q.event) ∧ w6.cell? ⟨w5.heap.size, 2, none⟩ = some (.int .i64 q.days) ∧ w6.cell? ⟨w5.heap.size, 3, none⟩ = some (.int .i64 q.act) from ⟨cell_kept (cell_new _ _ _ 0 rfl) b6, cell_kept (cell_new _ _ _ 1 rfl) b6, cell_kept (cell_new _ _ _ 2 rfl) b6, cell_kept (cell_new _ _ _ 3 rfl) b6⟩)
      replace b6 := below_chain (below_al (Below.refl w5.heap.size w5) _) b6
      have sz6 := b6.size
      replace HC1 := Lib.hid (show w6.cell? ⟨W.heap.size, 0, none⟩ = some (.int .i64 r.id) ∧ w6.cell? ⟨W.heap.size, 1, none⟩ = some (.int .i64 r.series) ∧ w6.cell? ⟨W.heap.size, 2, none⟩ = some (.int .i64 r.made) ∧ w6.cell? ⟨W.heap.size, 3, none⟩ = some (sl0) by obtain ⟨z0, z1, z2, z3⟩ := HC1.out; exact ⟨cell_kept z0 b6, cell_kept z1 b6, cell_kept z2 b6, cell_kept z3 b6⟩)
      replace HBW := Lib.hid (HBW.out.trans (b6.mono HBW.out.size))
      clear b6 c1_0 c1_1 c1_2 c1_3 c1_0x c1_1x c1_2x c1_3x
      obtain ⟨sx0, hvx0, hox0, hokx0⟩ := HOx0.out
      obtain ⟨sa0, sn0, sc0, rfl⟩ := hox0.1.slice
      subst hvx0
      clear hox0 hokx0
      obtain ⟨c1_0, c1_1, c1_2, c1_3⟩ := HC1.out
      have c1_0x := fun ob => below_al_cell c1_0 ob
      have c1_1x := fun ob => below_al_cell c1_1 ob
      have c1_2x := fun ob => below_al_cell c1_2 ob
      have c1_3x := fun ob => below_al_cell c1_3 ob
      obtain ⟨c2_0, c2_1, c2_2, c2_3⟩ := HC2.out
      have c2_0x := fun ob => below_al_cell c2_0 ob
      have c2_1x := fun ob => below_al_cell c2_1 ob
      have c2_2x := fun ob => below_al_cell c2_2 ob
      have c2_3x := fun ob => below_al_cell c2_3 ob
      go_wp2_with fail
      refine (toRuS_any _ t _ (HA1.out _ (HBW.out.trans ((below_al (Below.refl _ _) _).mono HBW.out.size))) (by omega)).mono ?_
      rintro e w7 ⟨x1, rfl, hox1, b7⟩
      have HOx1 := Lib.hid hox1
      clear hox1
      have HC3 := Lib.hid (show w7.cell? ⟨w6.heap.size, 0, none⟩ = some (.int .i64 r.id) ∧ w7.cell? ⟨w6.heap.size, 1, none⟩ = some (.int .i64 r.series) ∧ w7.cell? ⟨w6.heap.size, 2, none⟩ = some (.int .i64 r.made) ∧ w7.cell? ⟨w6.heap.size, 3, none⟩ = some (.slice sa0 sn0 sc0) from ⟨cell_kept (cell_new _ _ _ 0 rfl) b7, cell_kept (cell_new _ _ _ 1 rfl) b7, cell_kept (cell_new _ _ _ 2 rfl) b7, cell_kept (cell_new _ _ _ 3 rfl) b7⟩)
      replace b7 := below_chain (below_al (Below.refl w6.heap.size w6) _) b7
      have sz7 := b7.size
      replace HOx0 := Lib.hid (HOx0.out.below b7)
      replace HC1 := Lib.hid (show w7.cell? ⟨W.heap.size, 0, none⟩ = some (.int .i64 r.id) ∧ w7.cell? ⟨W.heap.size, 1, none⟩ = some (.int .i64 r.series) ∧ w7.cell? ⟨W.heap.size, 2, none⟩ = some (.int .i64 r.made) ∧ w7.cell? ⟨W.heap.size, 3, none⟩ = some (sl0) by obtain ⟨z0, z1, z2, z3⟩ := HC1.out; exact ⟨cell_kept z0 b7, cell_kept z1 b7, cell_kept z2 b7, cell_kept z3 b7⟩)
      replace HC2 := Lib.hid (show w7.cell? ⟨w5.heap.size, 0, none⟩ = some (.int .i64 q.series) ∧ w7.cell? ⟨w5.heap.size, 1, none⟩ = some (.int .i64 q.event) ∧ w7.cell? ⟨w5.heap.size, 2, none⟩ = some (.int .i64 q.days) ∧ w7.cell? ⟨w5.heap.size, 3, none⟩ = some (.int .i64 q.act) by obtain ⟨z0, z1, z2, z3⟩ := HC2.out; exact ⟨cell_kept z0 b7, cell_kept z1 b7, cell_kept z2 b7, cell_kept z3 b7⟩)
      replace HBW := Lib.hid (HBW.out.trans (b7.mono HBW.out.size))
      clear b7 c1_0 c1_1 c1_2 c1_3 c1_0x c1_1x c1_2x c1_3x c2_0 c2_1 c2_2 c2_3 c2_0x c2_1x c2_2x c2_3x
      obtain ⟨c1_0, c1_1, c1_2, c1_3⟩ := HC1.out
      obtain ⟨c2_0, c2_1, c2_2, c2_3⟩ := HC2.out
      obtain ⟨c3_0, c3_1, c3_2, c3_3⟩ := HC3.out
      go_wp2_with fail
      refine (implDecidingRule_any _ _ r t _ HOx0.out.toV HOx1.out.row (by omega) q b HB.out).mono ?_
      rintro e w8 ⟨rfl, b8⟩
      have sz8 := b8.size
      replace HOx0 := Lib.hid (HOx0.out.below b8)
      replace HOx1 := Lib.hid (HOx1.out.below b8)
      replace HC1 := Lib.hid (show w8.cell? ⟨W.heap.size, 0, none⟩ = some (.int .i64 r.id) ∧ w8.cell? ⟨W.heap.size, 1, none⟩ = some (.int .i64 r.series) ∧ w8.cell? ⟨W.heap.size, 2, none⟩ = some (.int .i64 r.made) ∧ w8.cell? ⟨W.heap.size, 3, none⟩ = some (sl0) by obtain ⟨z0, z1, z2, z3⟩ := HC1.out; exact ⟨cell_kept z0 b8, cell_kept z1 b8, cell_kept z2 b8, cell_kept z3 b8⟩)
      replace HC2 := Lib.hid (show w8.cell? ⟨w5.heap.size, 0, none⟩ = some (.int .i64 q.series) ∧ w8.cell? ⟨w5.heap.size, 1, none⟩ = some (.int .i64 q.event) ∧ w8.cell? ⟨w5.heap.size, 2, none⟩ = some (.int .i64 q.days) ∧ w8.cell? ⟨w5.heap.size, 3, none⟩ = some (.int .i64 q.act) by obtain ⟨z0, z1, z2, z3⟩ := HC2.out; exact ⟨cell_kept z0 b8, cell_kept z1 b8, cell_kept z2 b8, cell_kept z3 b8⟩)
      replace HC3 := Lib.hid (show w8.cell? ⟨w6.heap.size, 0, none⟩ = some (.int .i64 r.id) ∧ w8.cell? ⟨w6.heap.size, 1, none⟩ = some (.int .i64 r.series) ∧ w8.cell? ⟨w6.heap.size, 2, none⟩ = some (.int .i64 r.made) ∧ w8.cell? ⟨w6.heap.size, 3, none⟩ = some (.slice sa0 sn0 sc0) by obtain ⟨z0, z1, z2, z3⟩ := HC3.out; exact ⟨cell_kept z0 b8, cell_kept z1 b8, cell_kept z2 b8, cell_kept z3 b8⟩)
      replace HBW := Lib.hid (HBW.out.trans (b8.mono HBW.out.size))
      clear b8 c1_0 c1_1 c1_2 c1_3 c2_0 c2_1 c2_2 c2_3 c3_0 c3_1 c3_2 c3_3
      obtain ⟨c1_0, c1_1, c1_2, c1_3⟩ := HC1.out
      have c1_0x := fun ob => below_al_cell c1_0 ob
      have c1_1x := fun ob => below_al_cell c1_1 ob
      have c1_2x := fun ob => below_al_cell c1_2 ob
      have c1_3x := fun ob => below_al_cell c1_3 ob
      obtain ⟨c2_0, c2_1, c2_2, c2_3⟩ := HC2.out
      have c2_0x := fun ob => below_al_cell c2_0 ob
      have c2_1x := fun ob => below_al_cell c2_1 ob
      have c2_2x := fun ob => below_al_cell c2_2 ob
      have c2_3x := fun ob => below_al_cell c2_3 ob
      obtain ⟨c3_0, c3_1, c3_2, c3_3⟩ := HC3.out
      have c3_0x := fun ob => below_al_cell c3_0 ob
      have c3_1x := fun ob => below_al_cell c3_1 ob
      have c3_2x := fun ob => below_al_cell c3_2 ob
      have c3_3x := fun ob => below_al_cell c3_3 ob
      go_wp2_with fail
      refine (eqRu_any _ _ _).mono ?_
      rw [decide_eq_true rfl]
      rintro e w9 ⟨rfl, b9⟩
      have HC4 := Lib.hid (show w9.cell? ⟨w8.heap.size, 0, none⟩ = some (.int .i64 q.series) ∧ w9.cell? ⟨w8.heap.size, 1, none⟩ = some (.int .i64 q.event) ∧ w9.cell? ⟨w8.heap.size, 2, none⟩ = some (.int .i64 q.days) ∧ w9.cell? ⟨w8.heap.size, 3, none⟩ = some (.int .i64 q.act) from ⟨cell_kept (cell_new _ _ _ 0 rfl) b9, cell_kept (cell_new _ _ _ 1 rfl) b9, cell_kept (cell_new _ _ _ 2 rfl) b9, cell_kept (cell_new _ _ _ 3 rfl) b9⟩)
      replace b9 := below_chain (below_al (Below.refl w8.heap.size w8) _) b9
      have sz9 := b9.size
      replace HOx0 := Lib.hid (HOx0.out.below b9)
      replace HOx1 := Lib.hid (HOx1.out.below b9)
      replace HC1 := Lib.hid (show w9.cell? ⟨W.heap.size, 0, none⟩ = some (.int .i64 r.id) ∧ w9.cell? ⟨W.heap.size, 1, none⟩ = some (.int .i64 r.series) ∧ w9.cell? ⟨W.heap.size, 2, none⟩ = some (.int .i64 r.made) ∧ w9.cell? ⟨W.heap.size, 3, none⟩ = some (sl0) by obtain ⟨z0, z1, z2, z3⟩ := HC1.out; exact ⟨cell_kept z0 b9, cell_kept z1 b9, cell_kept z2 b9, cell_kept z3 b9⟩)
      replace HC2 := Lib.hid (show w9.cell? ⟨w5.heap.size, 0, none⟩ = some (.int .i64 q.series) ∧ w9.cell? ⟨w5.heap.size, 1, none⟩ = some (.int .i64 q.event) ∧ w9.cell? ⟨w5.heap.size, 2, none⟩ = some (.int .i64 q.days) ∧ w9.cell? ⟨w5.heap.size, 3, none⟩ = some (.int .i64 q.act) by obtain ⟨z0, z1, z2, z3⟩ := HC2.out; exact ⟨cell_kept z0 b9, cell_kept z1 b9, cell_kept z2 b9, cell_kept z3 b9⟩)
      replace HC3 := Lib.hid (show w9.cell? ⟨w6.heap.size, 0, none⟩ = some (.int .i64 r.id) ∧ w9.cell? ⟨w6.heap.size, 1, none⟩ = some (.int .i64 r.series) ∧ w9.cell? ⟨w6.heap.size, 2, none⟩ = some (.int .i64 r.made) ∧ w9.cell? ⟨w6.heap.size, 3, none⟩ = some (.slice sa0 sn0 sc0) by obtain ⟨z0, z1, z2, z3⟩ := HC3.out; exact ⟨cell_kept z0 b9, cell_kept z1 b9, cell_kept z2 b9, cell_kept z3 b9⟩)
      replace HBW := Lib.hid (HBW.out.trans (b9.mono HBW.out.size))
      clear b9 c1_0 c1_1 c1_2 c1_3 c1_0x c1_1x c1_2x c1_3x c2_0 c2_1 c2_2 c2_3 c2_0x c2_1x c2_2x c2_3x c3_0 c3_1 c3_2 c3_3 c3_0x c3_1x c3_2x c3_3x

      obtain ⟨c1_0, c1_1, c1_2, c1_3⟩ := HC1.out
      obtain ⟨c2_0, c2_1, c2_2, c2_3⟩ := HC2.out
      obtain ⟨c3_0, c3_1, c3_2, c3_3⟩ := HC3.out
      obtain ⟨c4_0, c4_1, c4_2, c4_3⟩ := HC4.out
      go_wp2_with fail
      go_region_held3 (fun w' => w'.cell? ⟨W.heap.size, 0, none⟩ = some (.int .i64 r.id) ∧ w'.cell? ⟨W.heap.size, 1, none⟩ = some (.int .i64 r.series) ∧ w'.cell? ⟨W.heap.size, 2, none⟩ = some (.int .i64 r.made) ∧ w'.cell? ⟨W.heap.size, 3, none⟩ = some (sl0) ∧ w'.cell? ⟨w5.heap.size, 0, none⟩ = some (.int .i64 q.series) ∧ w'.cell? ⟨w5.heap.size, 1, none⟩ = some (.int .i64 q.event) ∧ w'.cell? ⟨w5.heap.size, 2, none⟩ = some (.int .i64 q.days) ∧ w'.cell? ⟨w5.heap.size, 3, none⟩ = some (.int .i64 q.act) ∧ w'.cell? ⟨w6.heap.size, 0, none⟩ = some (.int .i64 r.id) ∧ w'.cell? ⟨w6.heap.size, 1, none⟩ = some (.int .i64 r.series) ∧ w'.cell? ⟨w6.heap.size, 2, none⟩ = some (.int .i64 r.made) ∧ w'.cell? ⟨w6.heap.size, 3, none⟩ = some (.slice sa0 sn0 sc0) ∧ w'.cell? ⟨w8.heap.size, 0, none⟩ = some (.int .i64 q.series) ∧ w'.cell? ⟨w8.heap.size, 1, none⟩ = some (.int .i64 q.event) ∧ w'.cell? ⟨w8.heap.size, 2, none⟩ = some (.int .i64 q.days) ∧ w'.cell? ⟨w8.heap.size, 3, none⟩ = some (.int .i64 q.act)) (first | exact ⟨c1_0, c1_1, c1_2, c1_3, c2_0, c2_1, c2_2, c2_3, c3_0, c3_1, c3_2, c3_3, c4_0, c4_1, c4_2, c4_3⟩ | go_keep) (first | (go_at_call 44; refine (toRecord_any _ r _ (HA0.out _ HBW.out.drew) (by omega)).mono ?_; rintro e w10 ⟨vq0, rfl, hq0_, b10⟩; have HQ0 := Lib.hid hq0_; clear hq0_; replace b10 : Below w9.heap.size w9 w10 := (Below.refl _ _).drew.trans b10; have sz10 := b10.size; replace c1_0 := cell_kept c1_0 b10; replace c1_1 := cell_kept c1_1 b10; replace c1_2 := cell_kept c1_2 b10; replace c1_3 := cell_kept c1_3 b10; replace c2_0 := cell_kept c2_0 b10; replace c2_1 := cell_kept c2_1 b10; replace c2_2 := cell_kept c2_2 b10; replace c2_3 := cell_kept c2_3 b10; replace c3_0 := cell_kept c3_0 b10; replace c3_1 := cell_kept c3_1 b10; replace c3_2 := cell_kept c3_2 b10; replace c3_3 := cell_kept c3_3 b10; replace c4_0 := cell_kept c4_0 b10; replace c4_1 := cell_kept c4_1 b10; replace c4_2 := cell_kept c4_2 b10; replace c4_3 := cell_kept c4_3 b10; replace HOx0 := Lib.hid (HOx0.out.below b10); replace HOx1 := Lib.hid (HOx1.out.below b10); (replace HC1 := Lib.hid (show w10.cell? ⟨W.heap.size, 0, none⟩ = some (.int .i64 r.id) ∧ w10.cell? ⟨W.heap.size, 1, none⟩ = some (.int .i64 r.series) ∧ w10.cell? ⟨W.heap.size, 2, none⟩ = some (.int .i64 r.made) ∧ w10.cell? ⟨W.heap.size, 3, none⟩ = some (sl0) by obtain ⟨z0, z1, z2, z3⟩ := HC1.out; exact ⟨cell_kept z0 b10, cell_kept z1 b10, cell_kept z2 b10, cell_kept z3 b10⟩)); (replace HC2 := Lib.hid (show w10.cell? ⟨w5.heap.size, 0, none⟩ = some (.int .i64 q.series) ∧ w10.cell? ⟨w5.heap.size, 1, none⟩ = some (.int .i64 q.event) ∧ w10.cell? ⟨w5.heap.size, 2, none⟩ = some (.int .i64 q.days) ∧ w10.cell? ⟨w5.heap.size, 3, none⟩ = some (.int .i64 q.act) by obtain ⟨z0, z1, z2, z3⟩ := HC2.out; exact ⟨cell_kept z0 b10, cell_kept z1 b10, cell_kept z2 b10, cell_kept z3 b10⟩)); (replace HC3 := Lib.hid (show w10.cell? ⟨w6.heap.size, 0, none⟩ = some (.int .i64 r.id) ∧ w10.cell? ⟨w6.heap.size, 1, none⟩ = some (.int .i64 r.series) ∧ w10.cell? ⟨w6.heap.size, 2, none⟩ = some (.int .i64 r.made) ∧ w10.cell? ⟨w6.heap.size, 3, none⟩ = some (.slice sa0 sn0 sc0) by obtain ⟨z0, z1, z2, z3⟩ := HC3.out; exact ⟨cell_kept z0 b10, cell_kept z1 b10, cell_kept z2 b10, cell_kept z3 b10⟩)); (replace HC4 := Lib.hid (show w10.cell? ⟨w8.heap.size, 0, none⟩ = some (.int .i64 q.series) ∧ w10.cell? ⟨w8.heap.size, 1, none⟩ = some (.int .i64 q.event) ∧ w10.cell? ⟨w8.heap.size, 2, none⟩ = some (.int .i64 q.days) ∧ w10.cell? ⟨w8.heap.size, 3, none⟩ = some (.int .i64 q.act) by obtain ⟨z0, z1, z2, z3⟩ := HC4.out; exact ⟨cell_kept z0 b10, cell_kept z1 b10, cell_kept z2 b10, cell_kept z3 b10⟩)); replace HBW := Lib.hid (HBW.out.trans (b10.mono HBW.out.size)); clear b10) | (go_at_call 47; refine (eqRecord_any _ _ r r _ HOx0.out.toV HQ0.out.toV).mono ?_; rw [decide_eq_true rfl]; rintro e w11 ⟨rfl, b11⟩; have sz11 := b11.size; replace c1_0 := cell_kept c1_0 b11; replace c1_1 := cell_kept c1_1 b11; replace c1_2 := cell_kept c1_2 b11; replace c1_3 := cell_kept c1_3 b11; replace c2_0 := cell_kept c2_0 b11; replace c2_1 := cell_kept c2_1 b11; replace c2_2 := cell_kept c2_2 b11; replace c2_3 := cell_kept c2_3 b11; replace c3_0 := cell_kept c3_0 b11; replace c3_1 := cell_kept c3_1 b11; replace c3_2 := cell_kept c3_2 b11; replace c3_3 := cell_kept c3_3 b11; replace c4_0 := cell_kept c4_0 b11; replace c4_1 := cell_kept c4_1 b11; replace c4_2 := cell_kept c4_2 b11; replace c4_3 := cell_kept c4_3 b11; replace HOx0 := Lib.hid (HOx0.out.below b11); replace HOx1 := Lib.hid (HOx1.out.below b11); (replace HC1 := Lib.hid (show w11.cell? ⟨W.heap.size, 0, none⟩ = some (.int .i64 r.id) ∧ w11.cell? ⟨W.heap.size, 1, none⟩ = some (.int .i64 r.series) ∧ w11.cell? ⟨W.heap.size, 2, none⟩ = some (.int .i64 r.made) ∧ w11.cell? ⟨W.heap.size, 3, none⟩ = some (sl0) by obtain ⟨z0, z1, z2, z3⟩ := HC1.out; exact ⟨cell_kept z0 b11, cell_kept z1 b11, cell_kept z2 b11, cell_kept z3 b11⟩)); (replace HC2 := Lib.hid (show w11.cell? ⟨w5.heap.size, 0, none⟩ = some (.int .i64 q.series) ∧ w11.cell? ⟨w5.heap.size, 1, none⟩ = some (.int .i64 q.event) ∧ w11.cell? ⟨w5.heap.size, 2, none⟩ = some (.int .i64 q.days) ∧ w11.cell? ⟨w5.heap.size, 3, none⟩ = some (.int .i64 q.act) by obtain ⟨z0, z1, z2, z3⟩ := HC2.out; exact ⟨cell_kept z0 b11, cell_kept z1 b11, cell_kept z2 b11, cell_kept z3 b11⟩)); (replace HC3 := Lib.hid (show w11.cell? ⟨w6.heap.size, 0, none⟩ = some (.int .i64 r.id) ∧ w11.cell? ⟨w6.heap.size, 1, none⟩ = some (.int .i64 r.series) ∧ w11.cell? ⟨w6.heap.size, 2, none⟩ = some (.int .i64 r.made) ∧ w11.cell? ⟨w6.heap.size, 3, none⟩ = some (.slice sa0 sn0 sc0) by obtain ⟨z0, z1, z2, z3⟩ := HC3.out; exact ⟨cell_kept z0 b11, cell_kept z1 b11, cell_kept z2 b11, cell_kept z3 b11⟩)); (replace HC4 := Lib.hid (show w11.cell? ⟨w8.heap.size, 0, none⟩ = some (.int .i64 q.series) ∧ w11.cell? ⟨w8.heap.size, 1, none⟩ = some (.int .i64 q.event) ∧ w11.cell? ⟨w8.heap.size, 2, none⟩ = some (.int .i64 q.days) ∧ w11.cell? ⟨w8.heap.size, 3, none⟩ = some (.int .i64 q.act) by obtain ⟨z0, z1, z2, z3⟩ := HC4.out; exact ⟨cell_kept z0 b11, cell_kept z1 b11, cell_kept z2 b11, cell_kept z3 b11⟩)); replace HBW := Lib.hid (HBW.out.trans (b11.mono HBW.out.size)); clear b11))
      clear c1_0 c1_1 c1_2 c1_3 c2_0 c2_1 c2_2 c2_3 c3_0 c3_1 c3_2 c3_3 c4_0 c4_1 c4_2 c4_3
      clear HQ0
      obtain ⟨c1_0, c1_1, c1_2, c1_3⟩ := HC1.out
      obtain ⟨c2_0, c2_1, c2_2, c2_3⟩ := HC2.out
      obtain ⟨c3_0, c3_1, c3_2, c3_3⟩ := HC3.out
      obtain ⟨c4_0, c4_1, c4_2, c4_3⟩ := HC4.out
      go_wp2_with fail
      refine (toRuS_any _ t _ (HA1.out _ HBW.out) (by omega)).mono ?_
      rintro e w12 ⟨vq1, rfl, hq1_, b12⟩
      have HQ1 := Lib.hid hq1_
      clear hq1_
      have sz12 := b12.size
      replace HOx0 := Lib.hid (HOx0.out.below b12)
      replace HOx1 := Lib.hid (HOx1.out.below b12)
      replace HC1 := Lib.hid (show w12.cell? ⟨W.heap.size, 0, none⟩ = some (.int .i64 r.id) ∧ w12.cell? ⟨W.heap.size, 1, none⟩ = some (.int .i64 r.series) ∧ w12.cell? ⟨W.heap.size, 2, none⟩ = some (.int .i64 r.made) ∧ w12.cell? ⟨W.heap.size, 3, none⟩ = some (sl0) by obtain ⟨z0, z1, z2, z3⟩ := HC1.out; exact ⟨cell_kept z0 b12, cell_kept z1 b12, cell_kept z2 b12, cell_kept z3 b12⟩)
      replace HC2 := Lib.hid (show w12.cell? ⟨w5.heap.size, 0, none⟩ = some (.int .i64 q.series) ∧ w12.cell? ⟨w5.heap.size, 1, none⟩ = some (.int .i64 q.event) ∧ w12.cell? ⟨w5.heap.size, 2, none⟩ = some (.int .i64 q.days) ∧ w12.cell? ⟨w5.heap.size, 3, none⟩ = some (.int .i64 q.act) by obtain ⟨z0, z1, z2, z3⟩ := HC2.out; exact ⟨cell_kept z0 b12, cell_kept z1 b12, cell_kept z2 b12, cell_kept z3 b12⟩)
      replace HC3 := Lib.hid (show w12.cell? ⟨w6.heap.size, 0, none⟩ = some (.int .i64 r.id) ∧ w12.cell? ⟨w6.heap.size, 1, none⟩ = some (.int .i64 r.series) ∧ w12.cell? ⟨w6.heap.size, 2, none⟩ = some (.int .i64 r.made) ∧ w12.cell? ⟨w6.heap.size, 3, none⟩ = some (.slice sa0 sn0 sc0) by obtain ⟨z0, z1, z2, z3⟩ := HC3.out; exact ⟨cell_kept z0 b12, cell_kept z1 b12, cell_kept z2 b12, cell_kept z3 b12⟩)
      replace HC4 := Lib.hid (show w12.cell? ⟨w8.heap.size, 0, none⟩ = some (.int .i64 q.series) ∧ w12.cell? ⟨w8.heap.size, 1, none⟩ = some (.int .i64 q.event) ∧ w12.cell? ⟨w8.heap.size, 2, none⟩ = some (.int .i64 q.days) ∧ w12.cell? ⟨w8.heap.size, 3, none⟩ = some (.int .i64 q.act) by obtain ⟨z0, z1, z2, z3⟩ := HC4.out; exact ⟨cell_kept z0 b12, cell_kept z1 b12, cell_kept z2 b12, cell_kept z3 b12⟩)
      replace HBW := Lib.hid (HBW.out.trans (b12.mono HBW.out.size))
      clear b12 c1_0 c1_1 c1_2 c1_3 c2_0 c2_1 c2_2 c2_3 c3_0 c3_1 c3_2 c3_3 c4_0 c4_1 c4_2 c4_3
      obtain ⟨c1_0, c1_1, c1_2, c1_3⟩ := HC1.out
      obtain ⟨c2_0, c2_1, c2_2, c2_3⟩ := HC2.out
      obtain ⟨c3_0, c3_1, c3_2, c3_3⟩ := HC3.out
      obtain ⟨c4_0, c4_1, c4_2, c4_3⟩ := HC4.out
      go_wp2_with fail
      refine (eqRuS_any _ _ t t _ HOx1.out.row HQ1.out.row).mono ?_
      rw [decide_eq_true rfl]
      rintro e w13 ⟨rfl, b13⟩
      have sz13 := b13.size
      replace HOx0 := Lib.hid (HOx0.out.below b13)
      replace HOx1 := Lib.hid (HOx1.out.below b13)
      replace HQ1 := Lib.hid (HQ1.out.below b13)
      replace HC1 := Lib.hid (show w13.cell? ⟨W.heap.size, 0, none⟩ = some (.int .i64 r.id) ∧ w13.cell? ⟨W.heap.size, 1, none⟩ = some (.int .i64 r.series) ∧ w13.cell? ⟨W.heap.size, 2, none⟩ = some (.int .i64 r.made) ∧ w13.cell? ⟨W.heap.size, 3, none⟩ = some (sl0) by obtain ⟨z0, z1, z2, z3⟩ := HC1.out; exact ⟨cell_kept z0 b13, cell_kept z1 b13, cell_kept z2 b13, cell_kept z3 b13⟩)
      replace HC2 := Lib.hid (show w13.cell? ⟨w5.heap.size, 0, none⟩ = some (.int .i64 q.series) ∧ w13.cell? ⟨w5.heap.size, 1, none⟩ = some (.int .i64 q.event) ∧ w13.cell? ⟨w5.heap.size, 2, none⟩ = some (.int .i64 q.days) ∧ w13.cell? ⟨w5.heap.size, 3, none⟩ = some (.int .i64 q.act) by obtain ⟨z0, z1, z2, z3⟩ := HC2.out; exact ⟨cell_kept z0 b13, cell_kept z1 b13, cell_kept z2 b13, cell_kept z3 b13⟩)
      replace HC3 := Lib.hid (show w13.cell? ⟨w6.heap.size, 0, none⟩ = some (.int .i64 r.id) ∧ w13.cell? ⟨w6.heap.size, 1, none⟩ = some (.int .i64 r.series) ∧ w13.cell? ⟨w6.heap.size, 2, none⟩ = some (.int .i64 r.made) ∧ w13.cell? ⟨w6.heap.size, 3, none⟩ = some (.slice sa0 sn0 sc0) by obtain ⟨z0, z1, z2, z3⟩ := HC3.out; exact ⟨cell_kept z0 b13, cell_kept z1 b13, cell_kept z2 b13, cell_kept z3 b13⟩)
      replace HC4 := Lib.hid (show w13.cell? ⟨w8.heap.size, 0, none⟩ = some (.int .i64 q.series) ∧ w13.cell? ⟨w8.heap.size, 1, none⟩ = some (.int .i64 q.event) ∧ w13.cell? ⟨w8.heap.size, 2, none⟩ = some (.int .i64 q.days) ∧ w13.cell? ⟨w8.heap.size, 3, none⟩ = some (.int .i64 q.act) by obtain ⟨z0, z1, z2, z3⟩ := HC4.out; exact ⟨cell_kept z0 b13, cell_kept z1 b13, cell_kept z2 b13, cell_kept z3 b13⟩)
      replace HBW := Lib.hid (HBW.out.trans (b13.mono HBW.out.size))
      clear b13 c1_0 c1_1 c1_2 c1_3 c2_0 c2_1 c2_2 c2_3 c3_0 c3_1 c3_2 c3_3 c4_0 c4_1 c4_2 c4_3
      clear HQ1
      go_wp2_with fail
      go_ret
      exact ⟨rfl, HBW.out⟩

set_option maxRecDepth 100000 in
theorem fnExactDecidingRule_lifted (os : Os) (started : os.Started) (H : Type) (enc : TypeId × Value → H) :
    ReturnsInHanded {} Try.checked os 8 .any (Rows.fnExactDecidingRuleSpec.pre6 enc Try.prog Try.f8 Rows.fnExactDecidingRuleRow.domain false) (Rows.fnExactDecidingRuleSpec.post enc Try.prog Try.f8 false true false false) := by
  refine returnsInHanded_of_change (C := Try.checked) Try.own started (by kernel_rfl) Try.func8
    (ChangeSpec.witness6 (enc := enc) (C := Try.checked) false ⟨#[], #[.agg #[.int .i64 0, .int .i64 0, .int .i64 0, .slice none 0 0], .slice none 0 0], []⟩ 8 (by kernel_rfl) (by kernel_rfl) (by kernel_rfl) (by kernel_rfl)) ?_
  intro W base args ds gs before hval0 hW hcnd _
  have hval : ∀ (j : Nat) t v, Try.f8.params[j]? = some t → args[j]? = some v → Value.okWide Try.prog W .any base t v := hval0
  have hW' := hW
  obtain ⟨p, q, hA0, hV, rfl, hfz, hnd⟩ := hW
  have hA : DataW.TrodAll enc Try.prog W 0 (fun _ => true) true Try.f8.params.toList args.toList ds p := hA0
  rw [Try.params8] at hA hval
  obtain ⟨v0, vs0, d0, ds0, p0, q0, hargs, rfl, rfl, h0, r0⟩ := trodAll_cons hA
  obtain ⟨v1, vs1, d1, ds1, p1, q1, rfl, rfl, rfl, h1, r1⟩ := trodAll_cons r0
  obtain ⟨rfl, rfl, rfl⟩ := trodAll_nil r1
  obtain rfl : args = #[v0, v1] := by cases args; simp_all
  obtain ⟨rfl, rfl⟩ := trodVars_none hV
  obtain ⟨x0, w0⟩ := arg_rec (hval 0 64 v0 rfl rfl) h0
  have lt0 : ∀ x ∈ p0, x.block < W.heap.size := by obtain ⟨m, hm⟩ := h0; exact DataW.trod_lt m _ _ _ hm
  obtain ⟨x1, w1⟩ := arg_rus (hval 1 65 v1 rfl rfl) h1
  have lt1 : ∀ x ∈ p1, x.block < W.heap.size := by obtain ⟨m, hm⟩ := h1; exact DataW.trod_lt m _ _ _ hm
  clear hA0 hval0
  refine (walkDecidingRule v0 x0 v1 x1 W w0 w1).mono fun e W' ⟨he, bel⟩ => ?_
  subst he
  exact ⟨_, rfl, _, _, _, [], _, [], hW', trodAll_mk1 (shut_bool Try.underlying4 _), (trodAll_cons_mk (Below.trod Try.laidOut (by kernel_rfl) (of_decide_eq_true (by kernel_rfl)) h0 bel lt0) (trodAll_cons_mk (Below.trod Try.laidOut (by kernel_rfl) (of_decide_eq_true (by kernel_rfl)) h1 bel lt1) trodAll_mk0)), rfl, bel.frame _, fun h => by cases h⟩

/-- THE STATEMENT. -/
theorem fnExactDecidingRule_proved : Rows.FnExactDecidingRuleSaid :=
  OpenClaim.holds_of_wide 8 Try.f8 rfl rfl rfl rfl rfl rfl rfl ⟨rfl, rfl, rfl, rfl, rfl⟩ rfl rfl rfl rfl rfl (by kernel_rfl) Try.func8 (by kernel_rfl)
    (of_decide_eq_true (by kernel_rfl)) (by unfold Func.isWrapper; first | (rw [if_pos (by decide +kernel)]; kernel_rfl) | (rw [if_neg (by decide +kernel)]; exact ⟨rfl, rfl⟩))
    (fun os started H enc _ => fnExactDecidingRule_lifted os started H enc)
end Go.Proofs.Ytdcikapijpohpaa
