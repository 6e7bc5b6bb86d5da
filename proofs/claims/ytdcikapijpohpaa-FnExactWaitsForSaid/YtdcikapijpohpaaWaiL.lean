/- The law FnExactWaitsFor: at every argument the call answers true. No condition. -/
import Derived.Test.YtdcikapijpohpaaPerI
import Derived.Test.YtdcikapijpohpaaPerS2
import Derived.Test.YtdcikapijpohpaaEqRec
import Derived.Test.YtdcikapijpohpaaEqRu
import Derived.Test.YtdcikapijpohpaaMarkRec
import Derived.Test.YtdcikapijpohpaaMarkRecs
import Derived.Test.YtdcikapijpohpaaMarkRu
import Derived.Test.YtdcikapijpohpaaRecs
import Derived.Test.YtdcikapijpohpaaInts
import Derived.Test.YtdcikapijpohpaaTyRecs
import Derived.Test.YtdcikapijpohpaaFrame
import Derived.Test.YtdcikapijpohpaaBox4
import Derived.Test.YtdcikapijpohpaaCellOnly
import Derived.Deep.RegionHeld3
namespace Go.Proofs.Ytdcikapijpohpaa
set_option linter.unusedVariables false
open Go.ChangeShapes Go.WideShapes Go.ChangeAt Go.RowKit

set_option maxRecDepth 20000 in
set_option maxHeartbeats 8000000 in
theorem walkWaitsFor (v0 : Value) (r : Rec) (v1 : Value) (t : List Ru) (W : World) (h0 : RecV W v0 r) (h1 : RowR 4 rRu W v1 t) :
    Calls Try.prog 6 #[v0, v1] W fun e w' => e = .returned (.bool true) ∧ Below W.heap.size W w' := by
  obtain ⟨sl0, rfl, hh0, hok0⟩ := h0
  have HA0 := Lib.hid (show ∀ W', Below W.heap.size W W' → RecV W' (.agg #[.int .i64 r.id, .int .i64 r.series, .int .i64 r.made, sl0]) r from fun W' hb => ⟨sl0, rfl, hh0.below rEv_stable hb, hok0⟩)
  clear hh0 hok0
  have HA1 := Lib.hid (show ∀ W', Below W.heap.size W W' → RowR 4 rRu W' v1 t from fun W' hb => h1.below rRu_stable hb)
  clear h1
  obtain ⟨xs, b, hb⟩ : ∃ xs b, waitRes r t = (xs, b) := ⟨_, _, rfl⟩
  have HB := Lib.hid hb
  have hxl : xs.length ≤ t.length := waitRes_len hb
  have HXL := Lib.hid hxl
  clear hb hxl
  have eb_b : (b != b) = false := by simp
  go_enter Try.func6, Try.ntmps6
  go_wp2_with fail
  generalize hW0 : W.alloc (.cells #[.int .i64 r.id, .int .i64 r.series, .int .i64 r.made, sl0] 64 (0, 0)) = W0
  have HBW : Hid (Below W.heap.size W W0) := Lib.hid (by rw [← hW0]; exact below_al (Below.refl W.heap.size W) _)
  have HC1 := Lib.hid (show W0.cell? ⟨W.heap.size, 0, none⟩ = some (.int .i64 r.id) ∧ W0.cell? ⟨W.heap.size, 1, none⟩ = some (.int .i64 r.series) ∧ W0.cell? ⟨W.heap.size, 2, none⟩ = some (.int .i64 r.made) ∧ W0.cell? ⟨W.heap.size, 3, none⟩ = some (sl0) by rw [← hW0]; exact ⟨cell_new W #[.int .i64 r.id, .int .i64 r.series, .int .i64 r.made, sl0] 64 0 rfl, cell_new W #[.int .i64 r.id, .int .i64 r.series, .int .i64 r.made, sl0] 64 1 rfl, cell_new W #[.int .i64 r.id, .int .i64 r.series, .int .i64 r.made, sl0] 64 2 rfl, cell_new W #[.int .i64 r.id, .int .i64 r.series, .int .i64 r.made, sl0] 64 3 rfl⟩)
  have szB : W.heap.size + 1 ≤ W0.heap.size := by rw [← hW0]; simp
  clear hW0
  obtain ⟨c1_0, c1_1, c1_2, c1_3⟩ := HC1.out
  go_wp2_with fail
  refine (szRecord_any _ r 1048576 _ (HA0.out _ HBW.out) (by omega) (by omega)).mono ?_
  rintro e w1 ⟨rfl, b1⟩
  have sz1 := b1.size
  replace HC1 := Lib.hid (show w1.cell? ⟨W.heap.size, 0, none⟩ = some (.int .i64 r.id) ∧ w1.cell? ⟨W.heap.size, 1, none⟩ = some (.int .i64 r.series) ∧ w1.cell? ⟨W.heap.size, 2, none⟩ = some (.int .i64 r.made) ∧ w1.cell? ⟨W.heap.size, 3, none⟩ = some (sl0) by obtain ⟨z0, z1, z2, z3⟩ := HC1.out; exact ⟨cell_kept z0 b1, cell_kept z1 b1, cell_kept z2 b1, cell_kept z3 b1⟩)
  replace HBW := Lib.hid (HBW.out.trans (b1.mono HBW.out.size))
  clear b1 c1_0 c1_1 c1_2 c1_3
  by_cases hs0 : (1048576 : Int) < r.evs.length
  · rw [if_pos hs0]
    go_wp2_with fail
    go_ret
    exact ⟨rfl, HBW.out⟩
  · rw [if_neg hs0]
    obtain ⟨n0, hn0⟩ : ∃ n : Int, 1048576 - (r.evs.length : Int) = n := ⟨_, rfl⟩
    have hl0 : r.evs.length ≤ 1048576 := by omega
    have hn00 : 0 ≤ n0 := by omega
    have hn01 : n0 ≤ 1048576 := by omega
    rw [hn0]
    clear hn0
    obtain ⟨c1_0, c1_1, c1_2, c1_3⟩ := HC1.out
    go_wp2_with fail
    refine (szRuS_any _ t n0 _ (HA1.out _ HBW.out) (by omega) (by omega)).mono ?_
    rintro e w2 ⟨n1, rfl, hf1, hp1, hq1, b2⟩
    have sz2 := b2.size
    replace HC1 := Lib.hid (show w2.cell? ⟨W.heap.size, 0, none⟩ = some (.int .i64 r.id) ∧ w2.cell? ⟨W.heap.size, 1, none⟩ = some (.int .i64 r.series) ∧ w2.cell? ⟨W.heap.size, 2, none⟩ = some (.int .i64 r.made) ∧ w2.cell? ⟨W.heap.size, 3, none⟩ = some (sl0) by obtain ⟨z0, z1, z2, z3⟩ := HC1.out; exact ⟨cell_kept z0 b2, cell_kept z1 b2, cell_kept z2 b2, cell_kept z3 b2⟩)
    replace HBW := Lib.hid (HBW.out.trans (b2.mono HBW.out.size))
    clear b2 c1_0 c1_1 c1_2 c1_3
    have HF1 := Lib.hid hf1
    have HP1 := Lib.hid hp1
    clear hf1 hp1
    by_cases hs1 : n1 < 0
    · go_wp2_with fail
      go_ret
      exact ⟨rfl, HBW.out⟩
    · have hl1 : t.length ≤ 1048576 := by have := HF1.out; omega
      have hn10 : 0 ≤ n1 := by omega
      obtain ⟨c1_0, c1_1, c1_2, c1_3⟩ := HC1.out
      go_wp2_with fail
      refine (toRecord_some _ r _ (HA0.out _ HBW.out) (by omega)).mono ?_
      rintro e w3 ⟨s0, rfl, hos0, b3, hss0⟩
      have HOs0 := Lib.hid hos0
      have HSs0 := Lib.hid hss0
      clear hos0 hss0
      have sz3 := b3.size
      replace HC1 := Lib.hid (show w3.cell? ⟨W.heap.size, 0, none⟩ = some (.int .i64 r.id) ∧ w3.cell? ⟨W.heap.size, 1, none⟩ = some (.int .i64 r.series) ∧ w3.cell? ⟨W.heap.size, 2, none⟩ = some (.int .i64 r.made) ∧ w3.cell? ⟨W.heap.size, 3, none⟩ = some (sl0) by obtain ⟨z0, z1, z2, z3⟩ := HC1.out; exact ⟨cell_kept z0 b3, cell_kept z1 b3, cell_kept z2 b3, cell_kept z3 b3⟩)
      replace HBW := Lib.hid (HBW.out.trans (b3.mono HBW.out.size))
      clear b3 c1_0 c1_1 c1_2 c1_3
      obtain ⟨c1_0, c1_1, c1_2, c1_3⟩ := HC1.out
      go_wp2_with fail
      refine (toRuS_any _ t _ (HA1.out _ HBW.out) (by omega)).mono ?_
      rintro e w4 ⟨s1, rfl, hos1, b4⟩
      have HOs1 := Lib.hid hos1
      clear hos1
      have sz4 := b4.size
      replace HOs0 := Lib.hid (HOs0.out.below b4)
      replace HC1 := Lib.hid (show w4.cell? ⟨W.heap.size, 0, none⟩ = some (.int .i64 r.id) ∧ w4.cell? ⟨W.heap.size, 1, none⟩ = some (.int .i64 r.series) ∧ w4.cell? ⟨W.heap.size, 2, none⟩ = some (.int .i64 r.made) ∧ w4.cell? ⟨W.heap.size, 3, none⟩ = some (sl0) by obtain ⟨z0, z1, z2, z3⟩ := HC1.out; exact ⟨cell_kept z0 b4, cell_kept z1 b4, cell_kept z2 b4, cell_kept z3 b4⟩)
      replace HBW := Lib.hid (HBW.out.trans (b4.mono HBW.out.size))
      clear b4 c1_0 c1_1 c1_2 c1_3
      obtain ⟨c1_0, c1_1, c1_2, c1_3⟩ := HC1.out
      go_wp2_with fail
      refine (specWaitsFor_any _ _ r t _ HOs0.out.toV HOs1.out.row xs b HB.out).mono ?_
      rintro e w5 ⟨vsp, rfl, hsp, b5⟩
      have Hsp := Lib.hid hsp
      clear hsp
      have sz5 := b5.size
      replace HOs0 := Lib.hid (HOs0.out.below b5)
      replace HOs1 := Lib.hid (HOs1.out.below b5)
      replace HC1 := Lib.hid (show w5.cell? ⟨W.heap.size, 0, none⟩ = some (.int .i64 r.id) ∧ w5.cell? ⟨W.heap.size, 1, none⟩ = some (.int .i64 r.series) ∧ w5.cell? ⟨W.heap.size, 2, none⟩ = some (.int .i64 r.made) ∧ w5.cell? ⟨W.heap.size, 3, none⟩ = some (sl0) by obtain ⟨z0, z1, z2, z3⟩ := HC1.out; exact ⟨cell_kept z0 b5, cell_kept z1 b5, cell_kept z2 b5, cell_kept z3 b5⟩)
      replace HBW := Lib.hid (HBW.out.trans (b5.mono HBW.out.size))
      clear b5 c1_0 c1_1 c1_2 c1_3
      clear HOs0
      clear HSs0
      clear HOs1
      obtain ⟨c1_0, c1_1, c1_2, c1_3⟩ := HC1.out
      go_wp2_with fail
      refine (toRecord_some _ r _ (HA0.out _ HBW.out) (by omega)).mono ?_
      rintro e w6 ⟨x0, rfl, hox0, b6, hsx0⟩
      have HOx0 := Lib.hid hox0
      have HSx0 := Lib.hid hsx0
      clear hox0 hsx0
      have sz6 := b6.size
      replace Hsp := Lib.hid (Hsp.out.below b6)
      replace HC1 := Lib.hid (show w6.cell? ⟨W.heap.size, 0, none⟩ = some (.int .i64 r.id) ∧ w6.cell? ⟨W.heap.size, 1, none⟩ = some (.int .i64 r.series) ∧ w6.cell? ⟨W.heap.size, 2, none⟩ = some (.int .i64 r.made) ∧ w6.cell? ⟨W.heap.size, 3, none⟩ = some (sl0) by obtain ⟨z0, z1, z2, z3⟩ := HC1.out; exact ⟨cell_kept z0 b6, cell_kept z1 b6, cell_kept z2 b6, cell_kept z3 b6⟩)
      replace HBW := Lib.hid (HBW.out.trans (b6.mono HBW.out.size))
      clear b6 c1_0 c1_1 c1_2 c1_3
      obtain ⟨sx0, hvx0, hox0, hokx0⟩ := HOx0.out
      obtain ⟨sa0, sn0, sc0, rfl⟩ := hox0.1.slice
      subst hvx0
      clear hox0 hokx0
      obtain ⟨c1_0, c1_1, c1_2, c1_3⟩ := HC1.out
      have c1_0x := fun ob => below_al_cell c1_0 ob
      have c1_1x := fun ob => below_al_cell c1_1 ob
      have c1_2x := fun ob => below_al_cell c1_2 ob
      have c1_3x := fun ob => below_al_cell c1_3 ob
      go_wp2_with fail
      refine (toRuS_any _ t _ (HA1.out _ (HBW.out.trans ((below_al (Below.refl _ _) _).mono HBW.out.size))) (by omega)).mono ?_
      rintro e w7 ⟨x1, rfl, hox1, b7⟩
      have HOx1 := Lib.hid hox1
      clear hox1
      have HC2 := Lib.hid (show w7.cell? ⟨w6.heap.size, 0, none⟩ = some (.int .i64 r.id) ∧ w7.cell? ⟨w6.heap.size, 1, none⟩ = some (.int .i64 r.series) ∧ w7.cell? ⟨w6.heap.size, 2, none⟩ = some (.int .i64 r.made) ∧ w7.cell? ⟨w6.heap.size, 3, none⟩ = some (.slice sa0 sn0 sc0) from ⟨cell_kept (cell_new _ _ _ 0 rfl) b7, cell_kept (cell_new _ _ _ 1 rfl) b7, cell_kept (cell_new _ _ _ 2 rfl) b7, cell_kept (cell_new _ _ _ 3 rfl) b7⟩)
      have szr7 := b7.size
      replace b7 := below_chain (below_al (Below.refl w6.heap.size w6) _) b7
      have sa7 : (w6.alloc (.cells #[.int .i64 r.id, .int .i64 r.series, .int .i64 r.made, .slice sa0 sn0 sc0] 26 (0, 0))).heap.size = w6.heap.size + 1 := by simp
      have sz7 := b7.size
      replace Hsp := Lib.hid (Hsp.out.below b7)
      replace HOx0 := Lib.hid (HOx0.out.below b7)
      replace HC1 := Lib.hid (show w7.cell? ⟨W.heap.size, 0, none⟩ = some (.int .i64 r.id) ∧ w7.cell? ⟨W.heap.size, 1, none⟩ = some (.int .i64 r.series) ∧ w7.cell? ⟨W.heap.size, 2, none⟩ = some (.int .i64 r.made) ∧ w7.cell? ⟨W.heap.size, 3, none⟩ = some (sl0) by obtain ⟨z0, z1, z2, z3⟩ := HC1.out; exact ⟨cell_kept z0 b7, cell_kept z1 b7, cell_kept z2 b7, cell_kept z3 b7⟩)
      replace HBW := Lib.hid (HBW.out.trans (b7.mono HBW.out.size))
      clear b7 c1_0 c1_1 c1_2 c1_3 c1_0x c1_1x c1_2x c1_3x
      obtain ⟨c1_0, c1_1, c1_2, c1_3⟩ := HC1.out
      obtain ⟨c2_0, c2_1, c2_2, c2_3⟩ := HC2.out
      go_wp2_with fail
      refine (implWaitsFor_any _ _ r t _ HOx0.out.toV HOx1.out.row (by omega) xs b HB.out).mono ?_
      rintro e w8 ⟨vg, rfl, hg, b8⟩
      have Hg := Lib.hid hg
      clear hg
      have sz8 := b8.size
      replace Hsp := Lib.hid (Hsp.out.below b8)
      replace HOx0 := Lib.hid (HOx0.out.below b8)
      replace HOx1 := Lib.hid (HOx1.out.below b8)
      replace HC1 := Lib.hid (show w8.cell? ⟨W.heap.size, 0, none⟩ = some (.int .i64 r.id) ∧ w8.cell? ⟨W.heap.size, 1, none⟩ = some (.int .i64 r.series) ∧ w8.cell? ⟨W.heap.size, 2, none⟩ = some (.int .i64 r.made) ∧ w8.cell? ⟨W.heap.size, 3, none⟩ = some (sl0) by obtain ⟨z0, z1, z2, z3⟩ := HC1.out; exact ⟨cell_kept z0 b8, cell_kept z1 b8, cell_kept z2 b8, cell_kept z3 b8⟩)
      replace HC2 := Lib.hid (show w8.cell? ⟨w6.heap.size, 0, none⟩ = some (.int .i64 r.id) ∧ w8.cell? ⟨w6.heap.size, 1, none⟩ = some (.int .i64 r.series) ∧ w8.cell? ⟨w6.heap.size, 2, none⟩ = some (.int .i64 r.made) ∧ w8.cell? ⟨w6.heap.size, 3, none⟩ = some (.slice sa0 sn0 sc0) by obtain ⟨z0, z1, z2, z3⟩ := HC2.out; exact ⟨cell_kept z0 b8, cell_kept z1 b8, cell_kept z2 b8, cell_kept z3 b8⟩)
      replace HBW := Lib.hid (HBW.out.trans (b8.mono HBW.out.size))
      clear b8 c1_0 c1_1 c1_2 c1_3 c2_0 c2_1 c2_2 c2_3
      obtain ⟨c1_0, c1_1, c1_2, c1_3⟩ := HC1.out
      obtain ⟨c2_0, c2_1, c2_2, c2_3⟩ := HC2.out
      go_wp2_with fail
      refine (eqIntS_any _ _ xs xs _ Hg.out.row Hsp.out.row).mono ?_
      rw [decide_eq_true rfl]
      rintro e w9 ⟨rfl, b9⟩
      have sz9 := b9.size
      replace Hsp := Lib.hid (Hsp.out.below b9)
      replace HOx0 := Lib.hid (HOx0.out.below b9)
      replace HOx1 := Lib.hid (HOx1.out.below b9)
      replace Hg := Lib.hid (Hg.out.below b9)
      replace HC1 := Lib.hid (show w9.cell? ⟨W.heap.size, 0, none⟩ = some (.int .i64 r.id) ∧ w9.cell? ⟨W.heap.size, 1, none⟩ = some (.int .i64 r.series) ∧ w9.cell? ⟨W.heap.size, 2, none⟩ = some (.int .i64 r.made) ∧ w9.cell? ⟨W.heap.size, 3, none⟩ = some (sl0) by obtain ⟨z0, z1, z2, z3⟩ := HC1.out; exact ⟨cell_kept z0 b9, cell_kept z1 b9, cell_kept z2 b9, cell_kept z3 b9⟩)
      replace HC2 := Lib.hid (show w9.cell? ⟨w6.heap.size, 0, none⟩ = some (.int .i64 r.id) ∧ w9.cell? ⟨w6.heap.size, 1, none⟩ = some (.int .i64 r.series) ∧ w9.cell? ⟨w6.heap.size, 2, none⟩ = some (.int .i64 r.made) ∧ w9.cell? ⟨w6.heap.size, 3, none⟩ = some (.slice sa0 sn0 sc0) by obtain ⟨z0, z1, z2, z3⟩ := HC2.out; exact ⟨cell_kept z0 b9, cell_kept z1 b9, cell_kept z2 b9, cell_kept z3 b9⟩)
      replace HBW := Lib.hid (HBW.out.trans (b9.mono HBW.out.size))
      clear b9 c1_0 c1_1 c1_2 c1_3 c2_0 c2_1 c2_2 c2_3
      obtain ⟨c1_0, c1_1, c1_2, c1_3⟩ := HC1.out
      obtain ⟨c2_0, c2_1, c2_2, c2_3⟩ := HC2.out
      go_wp2_with fail
      go_region_held3 (fun w' => w'.cell? ⟨W.heap.size, 0, none⟩ = some (.int .i64 r.id) ∧ w'.cell? ⟨W.heap.size, 1, none⟩ = some (.int .i64 r.series) ∧ w'.cell? ⟨W.heap.size, 2, none⟩ = some (.int .i64 r.made) ∧ w'.cell? ⟨W.heap.size, 3, none⟩ = some (sl0) ∧ w'.cell? ⟨w6.heap.size, 0, none⟩ = some (.int .i64 r.id) ∧ w'.cell? ⟨w6.heap.size, 1, none⟩ = some (.int .i64 r.series) ∧ w'.cell? ⟨w6.heap.size, 2, none⟩ = some (.int .i64 r.made) ∧ w'.cell? ⟨w6.heap.size, 3, none⟩ = some (.slice sa0 sn0 sc0)) (first | exact ⟨c1_0, c1_1, c1_2, c1_3, c2_0, c2_1, c2_2, c2_3⟩ | go_keep) (first | (go_at_call 44; refine (toRecord_any _ r _ (HA0.out _ HBW.out.drew) (by omega)).mono ?_; rintro e w10 ⟨vq0, rfl, hq0_, b10⟩; have HQ0 := Lib.hid hq0_; clear hq0_; replace b10 : Below w9.heap.size w9 w10 := (Below.refl _ _).drew.trans b10; have sz10 := b10.size; replace c1_0 := cell_kept c1_0 b10; replace c1_1 := cell_kept c1_1 b10; replace c1_2 := cell_kept c1_2 b10; replace c1_3 := cell_kept c1_3 b10; replace c2_0 := cell_kept c2_0 b10; replace c2_1 := cell_kept c2_1 b10; replace c2_2 := cell_kept c2_2 b10; replace c2_3 := cell_kept c2_3 b10; replace Hsp := Lib.hid (Hsp.out.below b10); replace HOx0 := Lib.hid (HOx0.out.below b10); replace HOx1 := Lib.hid (HOx1.out.below b10); replace Hg := Lib.hid (Hg.out.below b10); (replace HC1 := Lib.hid (show w10.cell? ⟨W.heap.size, 0, none⟩ = some (.int .i64 r.id) ∧ w10.cell? ⟨W.heap.size, 1, none⟩ = some (.int .i64 r.series) ∧ w10.cell? ⟨W.heap.size, 2, none⟩ = some (.int .i64 r.made) ∧ w10.cell? ⟨W.heap.size, 3, none⟩ = some (sl0) by obtain ⟨z0, z1, z2, z3⟩ := HC1.out; exact ⟨cell_kept z0 b10, cell_kept z1 b10, cell_kept z2 b10, cell_kept z3 b10⟩)); (replace HC2 := Lib.hid (show w10.cell? ⟨w6.heap.size, 0, none⟩ = some (.int .i64 r.id) ∧ w10.cell? ⟨w6.heap.size, 1, none⟩ = some (.int .i64 r.series) ∧ w10.cell? ⟨w6.heap.size, 2, none⟩ = some (.int .i64 r.made) ∧ w10.cell? ⟨w6.heap.size, 3, none⟩ = some (.slice sa0 sn0 sc0) by obtain ⟨z0, z1, z2, z3⟩ := HC2.out; exact ⟨cell_kept z0 b10, cell_kept z1 b10, cell_kept z2 b10, cell_kept z3 b10⟩)); replace HBW := Lib.hid (HBW.out.trans (b10.mono HBW.out.size)); clear b10) | (go_at_call 47; refine (eqRecord_any _ _ r r _ HOx0.out.toV HQ0.out.toV).mono ?_; rw [decide_eq_true rfl]; rintro e w11 ⟨rfl, b11⟩; have sz11 := b11.size; replace c1_0 := cell_kept c1_0 b11; replace c1_1 := cell_kept c1_1 b11; replace c1_2 := cell_kept c1_2 b11; replace c1_3 := cell_kept c1_3 b11; replace c2_0 := cell_kept c2_0 b11; replace c2_1 := cell_kept c2_1 b11; replace c2_2 := cell_kept c2_2 b11; replace c2_3 := cell_kept c2_3 b11; replace Hsp := Lib.hid (Hsp.out.below b11); replace HOx0 := Lib.hid (HOx0.out.below b11); replace HOx1 := Lib.hid (HOx1.out.below b11); replace Hg := Lib.hid (Hg.out.below b11); (replace HC1 := Lib.hid (show w11.cell? ⟨W.heap.size, 0, none⟩ = some (.int .i64 r.id) ∧ w11.cell? ⟨W.heap.size, 1, none⟩ = some (.int .i64 r.series) ∧ w11.cell? ⟨W.heap.size, 2, none⟩ = some (.int .i64 r.made) ∧ w11.cell? ⟨W.heap.size, 3, none⟩ = some (sl0) by obtain ⟨z0, z1, z2, z3⟩ := HC1.out; exact ⟨cell_kept z0 b11, cell_kept z1 b11, cell_kept z2 b11, cell_kept z3 b11⟩)); (replace HC2 := Lib.hid (show w11.cell? ⟨w6.heap.size, 0, none⟩ = some (.int .i64 r.id) ∧ w11.cell? ⟨w6.heap.size, 1, none⟩ = some (.int .i64 r.series) ∧ w11.cell? ⟨w6.heap.size, 2, none⟩ = some (.int .i64 r.made) ∧ w11.cell? ⟨w6.heap.size, 3, none⟩ = some (.slice sa0 sn0 sc0) by obtain ⟨z0, z1, z2, z3⟩ := HC2.out; exact ⟨cell_kept z0 b11, cell_kept z1 b11, cell_kept z2 b11, cell_kept z3 b11⟩)); replace HBW := Lib.hid (HBW.out.trans (b11.mono HBW.out.size)); clear b11))
      clear c1_0 c1_1 c1_2 c1_3 c2_0 c2_1 c2_2 c2_3
      clear HQ0
      obtain ⟨c1_0, c1_1, c1_2, c1_3⟩ := HC1.out
      obtain ⟨c2_0, c2_1, c2_2, c2_3⟩ := HC2.out
      go_wp2_with fail
      refine (toRuS_any _ t _ (HA1.out _ HBW.out) (by omega)).mono ?_
      rintro e w12 ⟨vq1, rfl, hq1_, b12⟩
      have HQ1 := Lib.hid hq1_
      clear hq1_
      have sz12 := b12.size
      replace Hsp := Lib.hid (Hsp.out.below b12)
      replace HOx0 := Lib.hid (HOx0.out.below b12)
      replace HOx1 := Lib.hid (HOx1.out.below b12)
      replace Hg := Lib.hid (Hg.out.below b12)
      replace HC1 := Lib.hid (show w12.cell? ⟨W.heap.size, 0, none⟩ = some (.int .i64 r.id) ∧ w12.cell? ⟨W.heap.size, 1, none⟩ = some (.int .i64 r.series) ∧ w12.cell? ⟨W.heap.size, 2, none⟩ = some (.int .i64 r.made) ∧ w12.cell? ⟨W.heap.size, 3, none⟩ = some (sl0) by obtain ⟨z0, z1, z2, z3⟩ := HC1.out; exact ⟨cell_kept z0 b12, cell_kept z1 b12, cell_kept z2 b12, cell_kept z3 b12⟩)
      replace HC2 := Lib.hid (show w12.cell? ⟨w6.heap.size, 0, none⟩ = some (.int .i64 r.id) ∧ w12.cell? ⟨w6.heap.size, 1, none⟩ = some (.int .i64 r.series) ∧ w12.cell? ⟨w6.heap.size, 2, none⟩ = some (.int .i64 r.made) ∧ w12.cell? ⟨w6.heap.size, 3, none⟩ = some (.slice sa0 sn0 sc0) by obtain ⟨z0, z1, z2, z3⟩ := HC2.out; exact ⟨cell_kept z0 b12, cell_kept z1 b12, cell_kept z2 b12, cell_kept z3 b12⟩)
      replace HBW := Lib.hid (HBW.out.trans (b12.mono HBW.out.size))
      clear b12 c1_0 c1_1 c1_2 c1_3 c2_0 c2_1 c2_2 c2_3
      obtain ⟨c1_0, c1_1, c1_2, c1_3⟩ := HC1.out
      obtain ⟨c2_0, c2_1, c2_2, c2_3⟩ := HC2.out
      go_wp2_with fail
      refine (eqRuS_any _ _ t t _ HOx1.out.row HQ1.out.row).mono ?_
      rw [decide_eq_true rfl]
      rintro e w13 ⟨rfl, b13⟩
      have sz13 := b13.size
      replace Hsp := Lib.hid (Hsp.out.below b13)
      replace HOx0 := Lib.hid (HOx0.out.below b13)
      replace HOx1 := Lib.hid (HOx1.out.below b13)
      replace Hg := Lib.hid (Hg.out.below b13)
      replace HQ1 := Lib.hid (HQ1.out.below b13)
      replace HC1 := Lib.hid (show w13.cell? ⟨W.heap.size, 0, none⟩ = some (.int .i64 r.id) ∧ w13.cell? ⟨W.heap.size, 1, none⟩ = some (.int .i64 r.series) ∧ w13.cell? ⟨W.heap.size, 2, none⟩ = some (.int .i64 r.made) ∧ w13.cell? ⟨W.heap.size, 3, none⟩ = some (sl0) by obtain ⟨z0, z1, z2, z3⟩ := HC1.out; exact ⟨cell_kept z0 b13, cell_kept z1 b13, cell_kept z2 b13, cell_kept z3 b13⟩)
      replace HC2 := Lib.hid (show w13.cell? ⟨w6.heap.size, 0, none⟩ = some (.int .i64 r.id) ∧ w13.cell? ⟨w6.heap.size, 1, none⟩ = some (.int .i64 r.series) ∧ w13.cell? ⟨w6.heap.size, 2, none⟩ = some (.int .i64 r.made) ∧ w13.cell? ⟨w6.heap.size, 3, none⟩ = some (.slice sa0 sn0 sc0) by obtain ⟨z0, z1, z2, z3⟩ := HC2.out; exact ⟨cell_kept z0 b13, cell_kept z1 b13, cell_kept z2 b13, cell_kept z3 b13⟩)
      replace HBW := Lib.hid (HBW.out.trans (b13.mono HBW.out.size))
      clear b13 c1_0 c1_1 c1_2 c1_3 c2_0 c2_1 c2_2 c2_3
      clear HQ1
      have szW := HBW.out.size
      obtain ⟨c1_0, c1_1, c1_2, c1_3⟩ := HC1.out
      obtain ⟨c2_0, c2_1, c2_2, c2_3⟩ := HC2.out
      go_wp2_with fail
      refine (markRecord_any _ r _ _ (1) _ (by omega) (by omega) HOx0.out).mono ?_
      rintro e w14 ⟨rfl, _, on14⟩
      have sz14 := on14.size
      replace Hsp := Lib.hid (Hsp.out.only2 on14 (by omega))
      replace HOx1 := Lib.hid (HOx1.out.only on14 (by omega))
      replace Hg := Lib.hid (Hg.out.only on14 (by omega))
      replace HC1 := Lib.hid (show w14.cell? ⟨W.heap.size, 0, none⟩ = some (.int .i64 r.id) ∧ w14.cell? ⟨W.heap.size, 1, none⟩ = some (.int .i64 r.series) ∧ w14.cell? ⟨W.heap.size, 2, none⟩ = some (.int .i64 r.made) ∧ w14.cell? ⟨W.heap.size, 3, none⟩ = some (sl0) by obtain ⟨z0, z1, z2, z3⟩ := HC1.out; exact ⟨cell_only on14 z0 (by omega), cell_only on14 z1 (by omega), cell_only on14 z2 (by omega), cell_only on14 z3 (by omega)⟩)
      replace HC2 := Lib.hid (show w14.cell? ⟨w6.heap.size, 0, none⟩ = some (.int .i64 r.id) ∧ w14.cell? ⟨w6.heap.size, 1, none⟩ = some (.int .i64 r.series) ∧ w14.cell? ⟨w6.heap.size, 2, none⟩ = some (.int .i64 r.made) ∧ w14.cell? ⟨w6.heap.size, 3, none⟩ = some (.slice sa0 sn0 sc0) by obtain ⟨z0, z1, z2, z3⟩ := HC2.out; exact ⟨cell_only on14 z0 (by omega), cell_only on14 z1 (by omega), cell_only on14 z2 (by omega), cell_only on14 z3 (by omega)⟩)
      replace HBW := Lib.hid (HBW.out.trans ((on14.below (by omega)).mono (by omega)))
      clear on14 c1_0 c1_1 c1_2 c1_3 c2_0 c2_1 c2_2 c2_3
      obtain ⟨c1_0, c1_1, c1_2, c1_3⟩ := HC1.out
      obtain ⟨c2_0, c2_1, c2_2, c2_3⟩ := HC2.out
      go_wp2_with fail
      refine (markRuS_any _ t _ _ (1 + r.evs.length * 2) _ (by omega) (by omega) HOx1.out).mono ?_
      rintro e w15 ⟨rfl, _, on15⟩
      have sz15 := on15.size
      replace Hsp := Lib.hid (Hsp.out.only2 on15 (by omega))
      replace Hg := Lib.hid (Hg.out.only on15 (by omega))
      replace HC1 := Lib.hid (show w15.cell? ⟨W.heap.size, 0, none⟩ = some (.int .i64 r.id) ∧ w15.cell? ⟨W.heap.size, 1, none⟩ = some (.int .i64 r.series) ∧ w15.cell? ⟨W.heap.size, 2, none⟩ = some (.int .i64 r.made) ∧ w15.cell? ⟨W.heap.size, 3, none⟩ = some (sl0) by obtain ⟨z0, z1, z2, z3⟩ := HC1.out; exact ⟨cell_only on15 z0 (by omega), cell_only on15 z1 (by omega), cell_only on15 z2 (by omega), cell_only on15 z3 (by omega)⟩)
      replace HC2 := Lib.hid (show w15.cell? ⟨w6.heap.size, 0, none⟩ = some (.int .i64 r.id) ∧ w15.cell? ⟨w6.heap.size, 1, none⟩ = some (.int .i64 r.series) ∧ w15.cell? ⟨w6.heap.size, 2, none⟩ = some (.int .i64 r.made) ∧ w15.cell? ⟨w6.heap.size, 3, none⟩ = some (.slice sa0 sn0 sc0) by obtain ⟨z0, z1, z2, z3⟩ := HC2.out; exact ⟨cell_only on15 z0 (by omega), cell_only on15 z1 (by omega), cell_only on15 z2 (by omega), cell_only on15 z3 (by omega)⟩)
      replace HBW := Lib.hid (HBW.out.trans ((on15.below (by omega)).mono (by omega)))
      clear on15 c1_0 c1_1 c1_2 c1_3 c2_0 c2_1 c2_2 c2_3
      have kn0 : (0 : Int) ≤ ((1 + r.evs.length * 2 + t.length * 4 : Nat) : Int) := by omega
      obtain ⟨c1_0, c1_1, c1_2, c1_3⟩ := HC1.out
      obtain ⟨c2_0, c2_1, c2_2, c2_3⟩ := HC2.out
      go_wp2_with fail
      refine (eqIntS_any _ _ xs xs _ Hg.out.row Hsp.out.row).mono ?_
      rw [decide_eq_true rfl]
      rintro e w16 ⟨rfl, b16⟩
      have sz16 := b16.size
      replace Hsp := Lib.hid (Hsp.out.below b16)
      replace Hg := Lib.hid (Hg.out.below b16)
      replace HC1 := Lib.hid (show w16.cell? ⟨W.heap.size, 0, none⟩ = some (.int .i64 r.id) ∧ w16.cell? ⟨W.heap.size, 1, none⟩ = some (.int .i64 r.series) ∧ w16.cell? ⟨W.heap.size, 2, none⟩ = some (.int .i64 r.made) ∧ w16.cell? ⟨W.heap.size, 3, none⟩ = some (sl0) by obtain ⟨z0, z1, z2, z3⟩ := HC1.out; exact ⟨cell_kept z0 b16, cell_kept z1 b16, cell_kept z2 b16, cell_kept z3 b16⟩)
      replace HC2 := Lib.hid (show w16.cell? ⟨w6.heap.size, 0, none⟩ = some (.int .i64 r.id) ∧ w16.cell? ⟨w6.heap.size, 1, none⟩ = some (.int .i64 r.series) ∧ w16.cell? ⟨w6.heap.size, 2, none⟩ = some (.int .i64 r.made) ∧ w16.cell? ⟨w6.heap.size, 3, none⟩ = some (.slice sa0 sn0 sc0) by obtain ⟨z0, z1, z2, z3⟩ := HC2.out; exact ⟨cell_kept z0 b16, cell_kept z1 b16, cell_kept z2 b16, cell_kept z3 b16⟩)
      replace HBW := Lib.hid (HBW.out.trans (b16.mono HBW.out.size))
      clear b16 c1_0 c1_1 c1_2 c1_3 c2_0 c2_1 c2_2 c2_3
      have hxl := HXL.out
      obtain ⟨c1_0, c1_1, c1_2, c1_3⟩ := HC1.out
      obtain ⟨c2_0, c2_1, c2_2, c2_3⟩ := HC2.out
      go_wp2_with fail
      refine (markIntS_any _ xs _ _ 1 _ (Nat.le_refl _) (by omega) Hg.out).mono ?_
      rintro e w17 ⟨rfl, hg2, on17⟩
      have sz17 := on17.size
      replace Hsp := Lib.hid (Hsp.out.only2 on17 (by omega))
      have HG2 := Lib.hid hg2
      clear hg2 Hg
      replace HC1 := Lib.hid (show w17.cell? ⟨W.heap.size, 0, none⟩ = some (.int .i64 r.id) ∧ w17.cell? ⟨W.heap.size, 1, none⟩ = some (.int .i64 r.series) ∧ w17.cell? ⟨W.heap.size, 2, none⟩ = some (.int .i64 r.made) ∧ w17.cell? ⟨W.heap.size, 3, none⟩ = some (sl0) by obtain ⟨z0, z1, z2, z3⟩ := HC1.out; exact ⟨cell_only on17 z0 (by omega), cell_only on17 z1 (by omega), cell_only on17 z2 (by omega), cell_only on17 z3 (by omega)⟩)
      replace HC2 := Lib.hid (show w17.cell? ⟨w6.heap.size, 0, none⟩ = some (.int .i64 r.id) ∧ w17.cell? ⟨w6.heap.size, 1, none⟩ = some (.int .i64 r.series) ∧ w17.cell? ⟨w6.heap.size, 2, none⟩ = some (.int .i64 r.made) ∧ w17.cell? ⟨w6.heap.size, 3, none⟩ = some (.slice sa0 sn0 sc0) by obtain ⟨z0, z1, z2, z3⟩ := HC2.out; exact ⟨cell_only on17 z0 (by omega), cell_only on17 z1 (by omega), cell_only on17 z2 (by omega), cell_only on17 z3 (by omega)⟩)
      replace HBW := Lib.hid (HBW.out.trans ((on17.below (by omega)).mono (by omega)))
      clear on17 c1_0 c1_1 c1_2 c1_3 c2_0 c2_1 c2_2 c2_3
      have en : (((1 + xs.length : Nat) : Int) != ((1 + xs.length : Nat) : Int)) = false := by simp
      obtain ⟨c1_0, c1_1, c1_2, c1_3⟩ := HC1.out
      obtain ⟨c2_0, c2_1, c2_2, c2_3⟩ := HC2.out
      go_wp2_with fail
      refine (heldIntS_any _ 1 xs.length _ (Nat.le_refl _) (by omega) HG2.out.row).mono ?_
      rintro e w18 ⟨rfl, b18⟩
      have sz18 := b18.size
      replace Hsp := Lib.hid (Hsp.out.below b18)
      replace HG2 := Lib.hid (HG2.out.below b18)
      replace HC1 := Lib.hid (show w18.cell? ⟨W.heap.size, 0, none⟩ = some (.int .i64 r.id) ∧ w18.cell? ⟨W.heap.size, 1, none⟩ = some (.int .i64 r.series) ∧ w18.cell? ⟨W.heap.size, 2, none⟩ = some (.int .i64 r.made) ∧ w18.cell? ⟨W.heap.size, 3, none⟩ = some (sl0) by obtain ⟨z0, z1, z2, z3⟩ := HC1.out; exact ⟨cell_kept z0 b18, cell_kept z1 b18, cell_kept z2 b18, cell_kept z3 b18⟩)
      replace HC2 := Lib.hid (show w18.cell? ⟨w6.heap.size, 0, none⟩ = some (.int .i64 r.id) ∧ w18.cell? ⟨w6.heap.size, 1, none⟩ = some (.int .i64 r.series) ∧ w18.cell? ⟨w6.heap.size, 2, none⟩ = some (.int .i64 r.made) ∧ w18.cell? ⟨w6.heap.size, 3, none⟩ = some (.slice sa0 sn0 sc0) by obtain ⟨z0, z1, z2, z3⟩ := HC2.out; exact ⟨cell_kept z0 b18, cell_kept z1 b18, cell_kept z2 b18, cell_kept z3 b18⟩)
      replace HBW := Lib.hid (HBW.out.trans (b18.mono HBW.out.size))
      clear b18 c1_0 c1_1 c1_2 c1_3 c2_0 c2_1 c2_2 c2_3
      obtain ⟨c1_0, c1_1, c1_2, c1_3⟩ := HC1.out
      obtain ⟨c2_0, c2_1, c2_2, c2_3⟩ := HC2.out
      go_wp2_with fail
      refine (toRecord_some _ r _ (HA0.out _ HBW.out) (by omega)).mono ?_
      rintro e w19 ⟨y0, rfl, hoy0, b19, hsy0⟩
      have HOy0 := Lib.hid hoy0
      have HSy0 := Lib.hid hsy0
      clear hoy0 hsy0
      have sz19 := b19.size
      replace Hsp := Lib.hid (Hsp.out.below b19)
      replace HG2 := Lib.hid (HG2.out.below b19)
      replace HC1 := Lib.hid (show w19.cell? ⟨W.heap.size, 0, none⟩ = some (.int .i64 r.id) ∧ w19.cell? ⟨W.heap.size, 1, none⟩ = some (.int .i64 r.series) ∧ w19.cell? ⟨W.heap.size, 2, none⟩ = some (.int .i64 r.made) ∧ w19.cell? ⟨W.heap.size, 3, none⟩ = some (sl0) by obtain ⟨z0, z1, z2, z3⟩ := HC1.out; exact ⟨cell_kept z0 b19, cell_kept z1 b19, cell_kept z2 b19, cell_kept z3 b19⟩)
      replace HC2 := Lib.hid (show w19.cell? ⟨w6.heap.size, 0, none⟩ = some (.int .i64 r.id) ∧ w19.cell? ⟨w6.heap.size, 1, none⟩ = some (.int .i64 r.series) ∧ w19.cell? ⟨w6.heap.size, 2, none⟩ = some (.int .i64 r.made) ∧ w19.cell? ⟨w6.heap.size, 3, none⟩ = some (.slice sa0 sn0 sc0) by obtain ⟨z0, z1, z2, z3⟩ := HC2.out; exact ⟨cell_kept z0 b19, cell_kept z1 b19, cell_kept z2 b19, cell_kept z3 b19⟩)
      replace HBW := Lib.hid (HBW.out.trans (b19.mono HBW.out.size))
      clear b19 c1_0 c1_1 c1_2 c1_3 c2_0 c2_1 c2_2 c2_3
      obtain ⟨c1_0, c1_1, c1_2, c1_3⟩ := HC1.out
      obtain ⟨c2_0, c2_1, c2_2, c2_3⟩ := HC2.out
      go_wp2_with fail
      refine (toRuS_any _ t _ (HA1.out _ HBW.out) (by omega)).mono ?_
      rintro e w20 ⟨y1, rfl, hoy1, b20⟩
      have HOy1 := Lib.hid hoy1
      clear hoy1
      have sz20 := b20.size
      replace Hsp := Lib.hid (Hsp.out.below b20)
      replace HG2 := Lib.hid (HG2.out.below b20)
      replace HOy0 := Lib.hid (HOy0.out.below b20)
      replace HC1 := Lib.hid (show w20.cell? ⟨W.heap.size, 0, none⟩ = some (.int .i64 r.id) ∧ w20.cell? ⟨W.heap.size, 1, none⟩ = some (.int .i64 r.series) ∧ w20.cell? ⟨W.heap.size, 2, none⟩ = some (.int .i64 r.made) ∧ w20.cell? ⟨W.heap.size, 3, none⟩ = some (sl0) by obtain ⟨z0, z1, z2, z3⟩ := HC1.out; exact ⟨cell_kept z0 b20, cell_kept z1 b20, cell_kept z2 b20, cell_kept z3 b20⟩)
      replace HC2 := Lib.hid (show w20.cell? ⟨w6.heap.size, 0, none⟩ = some (.int .i64 r.id) ∧ w20.cell? ⟨w6.heap.size, 1, none⟩ = some (.int .i64 r.series) ∧ w20.cell? ⟨w6.heap.size, 2, none⟩ = some (.int .i64 r.made) ∧ w20.cell? ⟨w6.heap.size, 3, none⟩ = some (.slice sa0 sn0 sc0) by obtain ⟨z0, z1, z2, z3⟩ := HC2.out; exact ⟨cell_kept z0 b20, cell_kept z1 b20, cell_kept z2 b20, cell_kept z3 b20⟩)
      replace HBW := Lib.hid (HBW.out.trans (b20.mono HBW.out.size))
      clear b20 c1_0 c1_1 c1_2 c1_3 c2_0 c2_1 c2_2 c2_3
      obtain ⟨c1_0, c1_1, c1_2, c1_3⟩ := HC1.out
      obtain ⟨c2_0, c2_1, c2_2, c2_3⟩ := HC2.out
      go_wp2_with fail
      refine (implWaitsFor_any _ _ r t _ HOy0.out.toV HOy1.out.row (by omega) xs b HB.out).mono ?_
      rintro e w21 ⟨vh, rfl, hh, b21⟩
      have Hh := Lib.hid hh
      clear hh
      have sz21 := b21.size
      replace Hsp := Lib.hid (Hsp.out.below b21)
      replace HG2 := Lib.hid (HG2.out.below b21)
      replace HOy0 := Lib.hid (HOy0.out.below b21)
      replace HOy1 := Lib.hid (HOy1.out.below b21)
      replace HC1 := Lib.hid (show w21.cell? ⟨W.heap.size, 0, none⟩ = some (.int .i64 r.id) ∧ w21.cell? ⟨W.heap.size, 1, none⟩ = some (.int .i64 r.series) ∧ w21.cell? ⟨W.heap.size, 2, none⟩ = some (.int .i64 r.made) ∧ w21.cell? ⟨W.heap.size, 3, none⟩ = some (sl0) by obtain ⟨z0, z1, z2, z3⟩ := HC1.out; exact ⟨cell_kept z0 b21, cell_kept z1 b21, cell_kept z2 b21, cell_kept z3 b21⟩)
      replace HC2 := Lib.hid (show w21.cell? ⟨w6.heap.size, 0, none⟩ = some (.int .i64 r.id) ∧ w21.cell? ⟨w6.heap.size, 1, none⟩ = some (.int .i64 r.series) ∧ w21.cell? ⟨w6.heap.size, 2, none⟩ = some (.int .i64 r.made) ∧ w21.cell? ⟨w6.heap.size, 3, none⟩ = some (.slice sa0 sn0 sc0) by obtain ⟨z0, z1, z2, z3⟩ := HC2.out; exact ⟨cell_kept z0 b21, cell_kept z1 b21, cell_kept z2 b21, cell_kept z3 b21⟩)
      replace HBW := Lib.hid (HBW.out.trans (b21.mono HBW.out.size))
      clear b21 c1_0 c1_1 c1_2 c1_3 c2_0 c2_1 c2_2 c2_3
      obtain ⟨c1_0, c1_1, c1_2, c1_3⟩ := HC1.out
      obtain ⟨c2_0, c2_1, c2_2, c2_3⟩ := HC2.out
      go_wp2_with fail
      refine (eqIntS_any _ _ xs xs _ Hh.out.row Hsp.out.row).mono ?_
      rw [decide_eq_true rfl]
      rintro e w22 ⟨rfl, b22⟩
      have sz22 := b22.size
      replace Hsp := Lib.hid (Hsp.out.below b22)
      replace HG2 := Lib.hid (HG2.out.below b22)
      replace HOy0 := Lib.hid (HOy0.out.below b22)
      replace HOy1 := Lib.hid (HOy1.out.below b22)
      replace Hh := Lib.hid (Hh.out.below b22)
      replace HC1 := Lib.hid (show w22.cell? ⟨W.heap.size, 0, none⟩ = some (.int .i64 r.id) ∧ w22.cell? ⟨W.heap.size, 1, none⟩ = some (.int .i64 r.series) ∧ w22.cell? ⟨W.heap.size, 2, none⟩ = some (.int .i64 r.made) ∧ w22.cell? ⟨W.heap.size, 3, none⟩ = some (sl0) by obtain ⟨z0, z1, z2, z3⟩ := HC1.out; exact ⟨cell_kept z0 b22, cell_kept z1 b22, cell_kept z2 b22, cell_kept z3 b22⟩)
      replace HC2 := Lib.hid (show w22.cell? ⟨w6.heap.size, 0, none⟩ = some (.int .i64 r.id) ∧ w22.cell? ⟨w6.heap.size, 1, none⟩ = some (.int .i64 r.series) ∧ w22.cell? ⟨w6.heap.size, 2, none⟩ = some (.int .i64 r.made) ∧ w22.cell? ⟨w6.heap.size, 3, none⟩ = some (.slice sa0 sn0 sc0) by obtain ⟨z0, z1, z2, z3⟩ := HC2.out; exact ⟨cell_kept z0 b22, cell_kept z1 b22, cell_kept z2 b22, cell_kept z3 b22⟩)
      replace HBW := Lib.hid (HBW.out.trans (b22.mono HBW.out.size))
      clear b22 c1_0 c1_1 c1_2 c1_3 c2_0 c2_1 c2_2 c2_3
      obtain ⟨c1_0, c1_1, c1_2, c1_3⟩ := HC1.out
      obtain ⟨c2_0, c2_1, c2_2, c2_3⟩ := HC2.out
      go_wp2_with fail
      refine (heldIntS_any _ 1 xs.length _ (Nat.le_refl _) (by omega) HG2.out.row).mono ?_
      rintro e w23 ⟨rfl, b23⟩
      have sz23 := b23.size
      replace Hsp := Lib.hid (Hsp.out.below b23)
      replace HG2 := Lib.hid (HG2.out.below b23)
      replace HOy0 := Lib.hid (HOy0.out.below b23)
      replace HOy1 := Lib.hid (HOy1.out.below b23)
      replace Hh := Lib.hid (Hh.out.below b23)
      replace HC1 := Lib.hid (show w23.cell? ⟨W.heap.size, 0, none⟩ = some (.int .i64 r.id) ∧ w23.cell? ⟨W.heap.size, 1, none⟩ = some (.int .i64 r.series) ∧ w23.cell? ⟨W.heap.size, 2, none⟩ = some (.int .i64 r.made) ∧ w23.cell? ⟨W.heap.size, 3, none⟩ = some (sl0) by obtain ⟨z0, z1, z2, z3⟩ := HC1.out; exact ⟨cell_kept z0 b23, cell_kept z1 b23, cell_kept z2 b23, cell_kept z3 b23⟩)
      replace HC2 := Lib.hid (show w23.cell? ⟨w6.heap.size, 0, none⟩ = some (.int .i64 r.id) ∧ w23.cell? ⟨w6.heap.size, 1, none⟩ = some (.int .i64 r.series) ∧ w23.cell? ⟨w6.heap.size, 2, none⟩ = some (.int .i64 r.made) ∧ w23.cell? ⟨w6.heap.size, 3, none⟩ = some (.slice sa0 sn0 sc0) by obtain ⟨z0, z1, z2, z3⟩ := HC2.out; exact ⟨cell_kept z0 b23, cell_kept z1 b23, cell_kept z2 b23, cell_kept z3 b23⟩)
      replace HBW := Lib.hid (HBW.out.trans (b23.mono HBW.out.size))
      clear b23 c1_0 c1_1 c1_2 c1_3 c2_0 c2_1 c2_2 c2_3
      go_wp2_with fail
      go_ret
      exact ⟨rfl, HBW.out⟩

set_option maxRecDepth 100000 in
theorem fnExactWaitsFor_lifted (os : Os) (started : os.Started) (H : Type) (enc : TypeId × Value → H) :
    ReturnsInHanded {} Try.checked os 6 .any (Rows.fnExactWaitsForSpec.pre6 enc Try.prog Try.f6 Rows.fnExactWaitsForRow.domain false) (Rows.fnExactWaitsForSpec.post enc Try.prog Try.f6 false true false false) := by
  refine returnsInHanded_of_change (C := Try.checked) Try.own started (by kernel_rfl) Try.func6
    (ChangeSpec.witness6 (enc := enc) (C := Try.checked) false ⟨#[], #[.agg #[.int .i64 0, .int .i64 0, .int .i64 0, .slice none 0 0], .slice none 0 0], []⟩ 8 (by kernel_rfl) (by kernel_rfl) (by kernel_rfl) (by kernel_rfl)) ?_
  intro W base args ds gs before hval0 hW hcnd _
  have hval : ∀ (j : Nat) t v, Try.f6.params[j]? = some t → args[j]? = some v → Value.okWide Try.prog W .any base t v := hval0
  have hW' := hW
  obtain ⟨p, q, hA0, hV, rfl, hfz, hnd⟩ := hW
  have hA : DataW.TrodAll enc Try.prog W 0 (fun _ => true) true Try.f6.params.toList args.toList ds p := hA0
  rw [Try.params6] at hA hval
  obtain ⟨v0, vs0, d0, ds0, p0, q0, hargs, rfl, rfl, h0, r0⟩ := trodAll_cons hA
  obtain ⟨v1, vs1, d1, ds1, p1, q1, rfl, rfl, rfl, h1, r1⟩ := trodAll_cons r0
  obtain ⟨rfl, rfl, rfl⟩ := trodAll_nil r1
  obtain rfl : args = #[v0, v1] := by cases args; simp_all
  obtain ⟨rfl, rfl⟩ := trodVars_none hV
  obtain ⟨x0, w0⟩ := arg_rec (hval 0 64 v0 rfl rfl) h0
  have lt0 : ∀ x ∈ p0, x.block < W.heap.size := by obtain ⟨m, hm⟩ := h0; exact DataW.trod_lt m _ _ _ hm
  obtain ⟨x1, w1⟩ := arg_rus (hval 1 65 v1 rfl rfl) h1
  have lt1 : ∀ x ∈ p1, x.block < W.heap.size := by obtain ⟨m, hm⟩ := h1; exact DataW.trod_lt m _ _ _ hm
  clear hA0 hval0
  refine (walkWaitsFor v0 x0 v1 x1 W w0 w1).mono fun e W' ⟨he, bel⟩ => ?_
  subst he
  exact ⟨_, rfl, _, _, _, [], _, [], hW', trodAll_mk1 (shut_bool Try.underlying4 _), (trodAll_cons_mk (Below.trod Try.laidOut (by kernel_rfl) (of_decide_eq_true (by kernel_rfl)) h0 bel lt0) (trodAll_cons_mk (Below.trod Try.laidOut (by kernel_rfl) (of_decide_eq_true (by kernel_rfl)) h1 bel lt1) trodAll_mk0)), rfl, bel.frame _, fun h => by cases h⟩

/-- THE STATEMENT. -/
theorem fnExactWaitsFor_proved : Rows.FnExactWaitsForSaid :=
  OpenClaim.holds_of_wide 6 Try.f6 rfl rfl rfl rfl rfl rfl rfl ⟨rfl, rfl, rfl, rfl, rfl⟩ rfl rfl rfl rfl rfl (by kernel_rfl) Try.func6 (by kernel_rfl)
    (of_decide_eq_true (by kernel_rfl)) (by unfold Func.isWrapper; first | (rw [if_pos (by decide +kernel)]; kernel_rfl) | (rw [if_neg (by decide +kernel)]; exact ⟨rfl, rfl⟩))
    (fun os started H enc _ => fnExactWaitsFor_lifted os started H enc)
end Go.Proofs.Ytdcikapijpohpaa
