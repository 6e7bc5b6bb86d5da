/- The law FnExactDueAfter: at every argument the call answers true. No condition. -/
import Derived.Test.YtdcikapijpohpaaPerI
import Derived.Test.YtdcikapijpohpaaPerS2
import Derived.Test.YtdcikapijpohpaaEqRec
import Derived.Test.YtdcikapijpohpaaEqRu
import Derived.Test.YtdcikapijpohpaaMarkRec
import Derived.Test.YtdcikapijpohpaaMarkRecs
import Derived.Test.YtdcikapijpohpaaMarkRu
import Derived.Test.YtdcikapijpohpaaRecs
import Derived.Test.YtdcikapijpohpaaInts
import Derived.Test.YtdcikapijpohpaaTyRecs
import Derived.Test.YtdcikapijpohpaaFrame
import Derived.Test.YtdcikapijpohpaaBox4
import Derived.Deep.RegionHeld3
namespace Go.Proofs.Ytdcikapijpohpaa
set_option linter.unusedVariables false
open Go.ChangeShapes Go.WideShapes Go.ChangeAt Go.RowKit

set_option maxRecDepth 20000 in
set_option maxHeartbeats 8000000 in
theorem walkDueAfter (v0 : Value) (r : Rec) (v1 : Value) (t : List Ru) (v2 : Value) (e : Ev) (W : World) (h0 : RecV W v0 r) (h1 : RowR 4 rRu W v1 t) (h2 : EvV W v2 e) :
    Calls Try.prog 13 #[v0, v1, v2] W fun e w' => e = .returned (.bool true) ∧ Below W.heap.size W w' := by
  obtain ⟨sl0, rfl, hh0, hok0⟩ := h0
  have HA0 := Lib.hid (show ∀ W', Below W.heap.size W W' → RecV W' (.agg #[.int .i64 r.id, .int .i64 r.series, .int .i64 r.made, sl0]) r from fun W' hb => ⟨sl0, rfl, hh0.below rEv_stable hb, hok0⟩)
  clear hh0 hok0
  have HA1 := Lib.hid (show ∀ W', Below W.heap.size W W' → RowR 4 rRu W' v1 t from fun W' hb => h1.below rRu_stable hb)
  clear h1
  obtain ⟨rfl, hk2⟩ := h2
  obtain ⟨d, b, hb⟩ : ∃ d b, aftRes r t e = (d, b) := ⟨_, _, rfl⟩
  have HB := Lib.hid hb
  clear hb
  have eb_d : (d != d) = false := by simp
  have eb_b : (b != b) = false := by simp
  go_enter Try.func13, Try.ntmps13
  go_wp2_with fail
  generalize hW0 : (W.alloc (.cells #[.int .i64 r.id, .int .i64 r.series, .int .i64 r.made, sl0] 64 (0, 0))).alloc (.cells #[.int .i64 e.kind, .int .i64 e.day] 86 (0, 0)) = W0
  have HBW : Hid (Below W.heap.size W W0) := Lib.hid (by rw [← hW0]; exact below_al (below_al (Below.refl W.heap.size W) _) _)
  have HC1 := Lib.hid (show W0.cell? ⟨W.heap.size, 0, none⟩ = some (.int .i64 r.id) ∧ W0.cell? ⟨W.heap.size, 1, none⟩ = some (.int .i64 r.series) ∧ W0.cell? ⟨W.heap.size, 2, none⟩ = some (.int .i64 r.made) ∧ W0.cell? ⟨W.heap.size, 3, none⟩ = some (sl0) by rw [← hW0]; exact ⟨below_al_cell (cell_new W #[.int .i64 r.id, .int .i64 r.series, .int .i64 r.made, sl0] 64 0 rfl) _, below_al_cell (cell_new W #[.int .i64 r.id, .int .i64 r.series, .int .i64 r.made, sl0] 64 1 rfl) _, below_al_cell (cell_new W #[.int .i64 r.id, .int .i64 r.series, .int .i64 r.made, sl0] 64 2 rfl) _, below_al_cell (cell_new W #[.int .i64 r.id, .int .i64 r.series, .int .i64 r.made, sl0] 64 3 rfl) _⟩)
  have HC2 := Lib.hid (show W0.cell? ⟨(W.heap.size + 1), 0, none⟩ = some (.int .i64 e.kind) ∧ W0.cell? ⟨(W.heap.size + 1), 1, none⟩ = some (.int .i64 e.day) by rw [← hW0, ← (show (W.alloc (.cells #[.int .i64 r.id, .int .i64 r.series, .int .i64 r.made, sl0] 64 (0, 0))).heap.size = W.heap.size + 1 by simp)]; exact ⟨cell_new (W.alloc (.cells #[.int .i64 r.id, .int .i64 r.series, .int .i64 r.made, sl0] 64 (0, 0))) #[.int .i64 e.kind, .int .i64 e.day] 86 0 rfl, cell_new (W.alloc (.cells #[.int .i64 r.id, .int .i64 r.series, .int .i64 r.made, sl0] 64 (0, 0))) #[.int .i64 e.kind, .int .i64 e.day] 86 1 rfl⟩)
  clear hW0
  obtain ⟨c1_0, c1_1, c1_2, c1_3⟩ := HC1.out
  obtain ⟨c2_0, c2_1⟩ := HC2.out
  go_wp2_with fail
  refine (szRecord_any _ r 1048576 _ (HA0.out _ HBW.out) (by omega) (by omega)).mono ?_
  rintro e w1 ⟨rfl, b1⟩
  have sz1 := b1.size
  replace HC1 := Lib.hid (show w1.cell? ⟨W.heap.size, 0, none⟩ = some (.int .i64 r.id) ∧ w1.cell? ⟨W.heap.size, 1, none⟩ = some (.int .i64 r.series) ∧ w1.cell? ⟨W.heap.size, 2, none⟩ = some (.int .i64 r.made) ∧ w1.cell? ⟨W.heap.size, 3, none⟩ = some (sl0) by obtain ⟨z0, z1, z2, z3⟩ := HC1.out; exact ⟨cell_kept z0 b1, cell_kept z1 b1, cell_kept z2 b1, cell_kept z3 b1⟩)
  replace HC2 := Lib.hid (show w1.cell? ⟨(W.heap.size + 1), 0, none⟩ = some (.int .i64 e.kind) ∧ w1.cell? ⟨(W.heap.size + 1), 1, none⟩ = some (.int .i64 e.day) by obtain ⟨z0, z1⟩ := HC2.out; exact ⟨cell_kept z0 b1, cell_kept z1 b1⟩)
  replace HBW := Lib.hid (HBW.out.trans (b1.mono HBW.out.size))
  clear b1 c1_0 c1_1 c1_2 c1_3 c2_0 c2_1
  by_cases hs0 : (1048576 : Int) < r.evs.length
  · rw [if_pos hs0]
    go_wp2_with fail
    go_ret
    exact ⟨rfl, HBW.out⟩
  · rw [if_neg hs0]
    obtain ⟨n0, hn0⟩ : ∃ n : Int, 1048576 - (r.evs.length : Int) = n := ⟨_, rfl⟩
    have hl0 : r.evs.length ≤ 1048576 := by omega
    have hn00 : 0 ≤ n0 := by omega
    have hn01 : n0 ≤ 1048576 := by omega
    rw [hn0]
    clear hn0
    obtain ⟨c1_0, c1_1, c1_2, c1_3⟩ := HC1.out
    obtain ⟨c2_0, c2_1⟩ := HC2.out
    go_wp2_with fail
    refine (szRuS_any _ t n0 _ (HA1.out _ HBW.out) (by omega) (by omega)).mono ?_
    rintro e w2 ⟨n1, rfl, hf1, hp1, hq1, b2⟩
    have sz2 := b2.size
    replace HC1 := Lib.hid (show w2.cell? ⟨W.heap.size, 0, none⟩ = some (.int .i64 r.id) ∧ w2.cell? ⟨W.heap.size, 1, none⟩ = some (.int .i64 r.series) ∧ w2.cell? ⟨W.heap.size, 2, none⟩ = some (.int .i64 r.made) ∧ w2.cell? ⟨W.heap.size, 3, none⟩ = some (sl0) by obtain ⟨z0, z1, z2, z3⟩ := HC1.out; exact ⟨cell_kept z0 b2, cell_kept z1 b2, cell_kept z2 b2, cell_kept z3 b2⟩)
    replace HC2 := Lib.hid (show w2.cell? ⟨(W.heap.size + 1), 0, none⟩ = some (.int .i64 e.kind) ∧ w2.cell? ⟨(W.heap.size + 1), 1, none⟩ = some (.int .i64 e.day) by obtain ⟨z0, z1⟩ := HC2.out; exact ⟨cell_kept z0 b2, cell_kept z1 b2⟩)
    replace HBW := Lib.hid (HBW.out.trans (b2.mono HBW.out.size))
    clear b2 c1_0 c1_1 c1_2 c1_3 c2_0 c2_1
    have HF1 := Lib.hid hf1
    have HP1 := Lib.hid hp1
    clear hf1 hp1
    by_cases hs1 : n1 < 0
    · go_wp2_with fail
      go_ret
      exact ⟨rfl, HBW.out⟩
    · have hl1 : t.length ≤ 1048576 := by have := HF1.out; omega
      have hn10 : 0 ≤ n1 := by omega
      obtain ⟨c1_0, c1_1, c1_2, c1_3⟩ := HC1.out
      obtain ⟨c2_0, c2_1⟩ := HC2.out
      go_wp2_with fail
      go_region_held3 (fun w' => w'.cell? ⟨W.heap.size, 0, none⟩ = some (.int .i64 r.id) ∧ w'.cell? ⟨W.heap.size, 1, none⟩ = some (.int .i64 r.series) ∧ w'.cell? ⟨W.heap.size, 2, none⟩ = some (.int .i64 r.made) ∧ w'.cell? ⟨W.heap.size, 3, none⟩ = some (sl0) ∧ w'.cell? ⟨(W.heap.size + 1), 0, none⟩ = some (.int .i64 e.kind) ∧ w'.cell? ⟨(W.heap.size + 1), 1, none⟩ = some (.int .i64 e.day)) (first | exact ⟨c1_0, c1_1, c1_2, c1_3, c2_0, c2_1⟩ | go_keep) (first | (go_at_call 44; refine (toRecord_some _ r _ (HA0.out _ HBW.out.drew) (by omega)).mono ?_; rintro e w3 ⟨s0, rfl, hos0, b3, hss0⟩; have HOs0 := Lib.hid hos0; have HSs0 := Lib.hid hss0; clear hos0 hss0; replace b3 : Below w2.heap.size w2 w3 := (Below.refl _ _).drew.trans b3; have sz3 := b3.size; replace c1_0 := cell_kept c1_0 b3; replace c1_1 := cell_kept c1_1 b3; replace c1_2 := cell_kept c1_2 b3; replace c1_3 := cell_kept c1_3 b3; replace c2_0 := cell_kept c2_0 b3; replace c2_1 := cell_kept c2_1 b3; replace HC1 := Lib.hid (show w3.cell? ⟨W.heap.size, 0, none⟩ = some (.int .i64 r.id) ∧ w3.cell? ⟨W.heap.size, 1, none⟩ = some (.int .i64 r.series) ∧ w3.cell? ⟨W.heap.size, 2, none⟩ = some (.int .i64 r.made) ∧ w3.cell? ⟨W.heap.size, 3, none⟩ = some (sl0) by obtain ⟨z0, z1, z2, z3⟩ := HC1.out; exact ⟨cell_kept z0 b3, cell_kept z1 b3, cell_kept z2 b3, cell_kept z3 b3⟩); replace HC2 := Lib.hid (show w3.cell? ⟨(W.heap.size + 1), 0, none⟩ = some (.int .i64 e.kind) ∧ w3.cell? ⟨(W.heap.size + 1), 1, none⟩ = some (.int .i64 e.day) by obtain ⟨z0, z1⟩ := HC2.out; exact ⟨cell_kept z0 b3, cell_kept z1 b3⟩); replace HBW := Lib.hid (HBW.out.trans (b3.mono HBW.out.size)); clear b3) | (go_at_call 45; refine (toRuS_any _ t _ (HA1.out _ HBW.out) (by omega)).mono ?_; rintro e w4 ⟨s1, rfl, hos1, b4⟩; have HOs1 := Lib.hid hos1; clear hos1; have sz4 := b4.size; replace c1_0 := cell_kept c1_0 b4; replace c1_1 := cell_kept c1_1 b4; replace c1_2 := cell_kept c1_2 b4; replace c1_3 := cell_kept c1_3 b4; replace c2_0 := cell_kept c2_0 b4; replace c2_1 := cell_kept c2_1 b4; replace HOs0 := Lib.hid (HOs0.out.below b4); replace HC1 := Lib.hid (show w4.cell? ⟨W.heap.size, 0, none⟩ = some (.int .i64 r.id) ∧ w4.cell? ⟨W.heap.size, 1, none⟩ = some (.int .i64 r.series) ∧ w4.cell? ⟨W.heap.size, 2, none⟩ = some (.int .i64 r.made) ∧ w4.cell? ⟨W.heap.size, 3, none⟩ = some (sl0) by obtain ⟨z0, z1, z2, z3⟩ := HC1.out; exact ⟨cell_kept z0 b4, cell_kept z1 b4, cell_kept z2 b4, cell_kept z3 b4⟩); replace HC2 := Lib.hid (show w4.cell? ⟨(W.heap.size + 1), 0, none⟩ = some (.int .i64 e.kind) ∧ w4.cell? ⟨(W.heap.size + 1), 1, none⟩ = some (.int .i64 e.day) by obtain ⟨z0, z1⟩ := HC2.out; exact ⟨cell_kept z0 b4, cell_kept z1 b4⟩); replace HBW := Lib.hid (HBW.out.trans (b4.mono HBW.out.size)); clear b4) | (go_at_call 58; refine (toEvent_any e _).mono ?_; rintro e w5 ⟨rfl, b5⟩; have sz5 := b5.size; replace c1_0 := cell_kept c1_0 b5; replace c1_1 := cell_kept c1_1 b5; replace c1_2 := cell_kept c1_2 b5; replace c1_3 := cell_kept c1_3 b5; replace c2_0 := cell_kept c2_0 b5; replace c2_1 := cell_kept c2_1 b5; replace HOs0 := Lib.hid (HOs0.out.below b5); replace HOs1 := Lib.hid (HOs1.out.below b5); replace HC1 := Lib.hid (show w5.cell? ⟨W.heap.size, 0, none⟩ = some (.int .i64 r.id) ∧ w5.cell? ⟨W.heap.size, 1, none⟩ = some (.int .i64 r.series) ∧ w5.cell? ⟨W.heap.size, 2, none⟩ = some (.int .i64 r.made) ∧ w5.cell? ⟨W.heap.size, 3, none⟩ = some (sl0) by obtain ⟨z0, z1, z2, z3⟩ := HC1.out; exact ⟨cell_kept z0 b5, cell_kept z1 b5, cell_kept z2 b5, cell_kept z3 b5⟩); replace HC2 := Lib.hid (show w5.cell? ⟨(W.heap.size + 1), 0, none⟩ = some (.int .i64 e.kind) ∧ w5.cell? ⟨(W.heap.size + 1), 1, none⟩ = some (.int .i64 e.day) by obtain ⟨z0, z1⟩ := HC2.out; exact ⟨cell_kept z0 b5, cell_kept z1 b5⟩); replace HBW := Lib.hid (HBW.out.trans (b5.mono HBW.out.size)); clear b5) | (go_at_call 29; refine (specDueAfter_any _ _ r t e _ HOs0.out.toV HSs0.out hk2 HOs1.out.row d b HB.out).mono ?_; rintro e w6 ⟨rfl, b6⟩; have sz6 := b6.size; replace c1_0 := cell_kept c1_0 b6; replace c1_1 := cell_kept c1_1 b6; replace c1_2 := cell_kept c1_2 b6; replace c1_3 := cell_kept c1_3 b6; replace c2_0 := cell_kept c2_0 b6; replace c2_1 := cell_kept c2_1 b6; replace HOs0 := Lib.hid (HOs0.out.below b6); replace HOs1 := Lib.hid (HOs1.out.below b6); replace HC1 := Lib.hid (show w6.cell? ⟨W.heap.size, 0, none⟩ = some (.int .i64 r.id) ∧ w6.cell? ⟨W.heap.size, 1, none⟩ = some (.int .i64 r.series) ∧ w6.cell? ⟨W.heap.size, 2, none⟩ = some (.int .i64 r.made) ∧ w6.cell? ⟨W.heap.size, 3, none⟩ = some (sl0) by obtain ⟨z0, z1, z2, z3⟩ := HC1.out; exact ⟨cell_kept z0 b6, cell_kept z1 b6, cell_kept z2 b6, cell_kept z3 b6⟩); replace HC2 := Lib.hid (show w6.cell? ⟨(W.heap.size + 1), 0, none⟩ = some (.int .i64 e.kind) ∧ w6.cell? ⟨(W.heap.size + 1), 1, none⟩ = some (.int .i64 e.day) by obtain ⟨z0, z1⟩ := HC2.out; exact ⟨cell_kept z0 b6, cell_kept z1 b6⟩); replace HBW := Lib.hid (HBW.out.trans (b6.mono HBW.out.size)); clear b6))
      clear c1_0 c1_1 c1_2 c1_3 c2_0 c2_1
      clear HOs0
      clear HSs0
      clear HOs1
      obtain ⟨c1_0, c1_1, c1_2, c1_3⟩ := HC1.out
      obtain ⟨c2_0, c2_1⟩ := HC2.out
      go_wp2_with fail
      refine (toRecord_some _ r _ (HA0.out _ HBW.out) (by omega)).mono ?_
      rintro e w7 ⟨x0, rfl, hox0, b7, hsx0⟩
      have HOx0 := Lib.hid hox0
      have HSx0 := Lib.hid hsx0
      clear hox0 hsx0
      have sz7 := b7.size
      replace HC1 := Lib.hid (show w7.cell? ⟨W.heap.size, 0, none⟩ = some (.int .i64 r.id) ∧ w7.cell? ⟨W.heap.size, 1, none⟩ = some (.int .i64 r.series) ∧ w7.cell? ⟨W.heap.size, 2, none⟩ = some (.int .i64 r.made) ∧ w7.cell? ⟨W.heap.size, 3, none⟩ = some (sl0) by obtain ⟨z0, z1, z2, z3⟩ := HC1.out; exact ⟨cell_kept z0 b7, cell_kept z1 b7, cell_kept z2 b7, cell_kept z3 b7⟩)
      replace HC2 := Lib.hid (show w7.cell? ⟨(W.heap.size + 1), 0, none⟩ = some (.int .i64 e.kind) ∧ w7.cell? ⟨(W.heap.size + 1), 1, none⟩ = some (.int .i64 e.day) by obtain ⟨z0, z1⟩ := HC2.out; exact ⟨cell_kept z0 b7, cell_kept z1 b7⟩)
      replace HBW := Lib.hid (HBW.out.trans (b7.mono HBW.out.size))
      clear b7 c1_0 c1_1 c1_2 c1_3 c2_0 c2_1
      obtain ⟨sx0, hvx0, hox0, hokx0⟩ := HOx0.out
      obtain ⟨sa0, sn0, sc0, rfl⟩ := hox0.1.slice
      subst hvx0
      clear hox0 hokx0
      obtain ⟨c1_0, c1_1, c1_2, c1_3⟩ := HC1.out
      have c1_0x := fun ob => below_al_cell c1_0 ob
      have c1_1x := fun ob => below_al_cell c1_1 ob
      have c1_2x := fun ob => below_al_cell c1_2 ob
      have c1_3x := fun ob => below_al_cell c1_3 ob
      obtain ⟨c2_0, c2_1⟩ := HC2.out
      have c2_0x := fun ob => below_al_cell c2_0 ob
      have c2_1x := fun ob => below_al_cell c2_1 ob
      go_wp2_with fail
      refine (toRuS_any _ t _ (HA1.out _ (HBW.out.trans ((below_al (Below.refl _ _) _).mono HBW.out.size))) (by omega)).mono ?_
      rintro e w8 ⟨x1, rfl, hox1, b8⟩
      have HOx1 := Lib.hid hox1
      clear hox1
      have HC3 := Lib.hid (show w8.cell? ⟨w7.heap.size, 0, none⟩ = some (.int .i64 r.id) ∧ w8.cell? ⟨w7.heap.size, 1, none⟩ = some (.int .i64 r.series) ∧ w8.cell? ⟨w7.heap.size, 2, none⟩ = some (.int .i64 r.made) ∧ w8.cell? ⟨w7.heap.size, 3, none⟩ = some (.slice sa0 sn0 sc0) from ⟨cell_kept (cell_new _ _ _ 0 rfl) b8, cell_kept (cell_new _ _ _ 1 rfl) b8, cell_kept (cell_new _ _ _ 2 rfl) b8, cell_kept (cell_new _ _ _ 3 rfl) b8⟩)
      replace b8 := below_chain (below_al (Below.refl w7.heap.size w7) _) b8
      have sz8 := b8.size
      replace HOx0 := Lib.hid (HOx0.out.below b8)
      replace HC1 := Lib.hid (show w8.cell? ⟨W.heap.size, 0, none⟩ = some (.int .i64 r.id) ∧ w8.cell? ⟨W.heap.size, 1, none⟩ = some (.int .i64 r.series) ∧ w8.cell? ⟨W.heap.size, 2, none⟩ = some (.int .i64 r.made) ∧ w8.cell? ⟨W.heap.size, 3, none⟩ = some (sl0) by obtain ⟨z0, z1, z2, z3⟩ := HC1.out; exact ⟨cell_kept z0 b8, cell_kept z1 b8, cell_kept z2 b8, cell_kept z3 b8⟩)
      replace HC2 := Lib.hid (show w8.cell? ⟨(W.heap.size + 1), 0, none⟩ = some (.int .i64 e.kind) ∧ w8.cell? ⟨(W.heap.size + 1), 1, none⟩ = some (.int .i64 e.day) by obtain ⟨z0, z1⟩ := HC2.out; exact ⟨cell_kept z0 b8, cell_kept z1 b8⟩)
      replace HBW := Lib.hid (HBW.out.trans (b8.mono HBW.out.size))
      clear b8 c1_0 c1_1 c1_2 c1_3 c1_0x c1_1x c1_2x c1_3x c2_0 c2_1 c2_0x c2_1x
      obtain ⟨c1_0, c1_1, c1_2, c1_3⟩ := HC1.out
      obtain ⟨c2_0, c2_1⟩ := HC2.out
      obtain ⟨c3_0, c3_1, c3_2, c3_3⟩ := HC3.out
      go_wp2_with fail
      go_region_held3 (fun w' => w'.cell? ⟨W.heap.size, 0, none⟩ = some (.int .i64 r.id) ∧ w'.cell? ⟨W.heap.size, 1, none⟩ = some (.int .i64 r.series) ∧ w'.cell? ⟨W.heap.size, 2, none⟩ = some (.int .i64 r.made) ∧ w'.cell? ⟨W.heap.size, 3, none⟩ = some (sl0) ∧ w'.cell? ⟨(W.heap.size + 1), 0, none⟩ = some (.int .i64 e.kind) ∧ w'.cell? ⟨(W.heap.size + 1), 1, none⟩ = some (.int .i64 e.day) ∧ w'.cell? ⟨w7.heap.size, 0, none⟩ = some (.int .i64 r.id) ∧ w'.cell? ⟨w7.heap.size, 1, none⟩ = some (.int .i64 r.series) ∧ w'.cell? ⟨w7.heap.size, 2, none⟩ = some (.int .i64 r.made) ∧ w'.cell? ⟨w7.heap.size, 3, none⟩ = some (.slice sa0 sn0 sc0)) (first | exact ⟨c1_0, c1_1, c1_2, c1_3, c2_0, c2_1, c3_0, c3_1, c3_2, c3_3⟩ | go_keep) (first | (go_at_call 58; refine (toEvent_any e _).mono ?_; rintro e w9 ⟨rfl, b9⟩; replace b9 : Below w8.heap.size w8 w9 := (Below.refl _ _).drew.trans b9; have sz9 := b9.size; replace c1_0 := cell_kept c1_0 b9; replace c1_1 := cell_kept c1_1 b9; replace c1_2 := cell_kept c1_2 b9; replace c1_3 := cell_kept c1_3 b9; replace c2_0 := cell_kept c2_0 b9; replace c2_1 := cell_kept c2_1 b9; replace c3_0 := cell_kept c3_0 b9; replace c3_1 := cell_kept c3_1 b9; replace c3_2 := cell_kept c3_2 b9; replace c3_3 := cell_kept c3_3 b9; replace HOx0 := Lib.hid (HOx0.out.below b9); replace HOx1 := Lib.hid (HOx1.out.below b9); replace HC1 := Lib.hid (show w9.cell? ⟨W.heap.size, 0, none⟩ = some (.int .i64 r.id) ∧ w9.cell? ⟨W.heap.size, 1, none⟩ = some (.int .i64 r.series) ∧ w9.cell? ⟨W.heap.size, 2, none⟩ = some (.int .i64 r.made) ∧ w9.cell? ⟨W.heap.size, 3, none⟩ = some (sl0) by obtain ⟨z0, z1, z2, z3⟩ := HC1.out; exact ⟨cell_kept z0 b9, cell_kept z1 b9, cell_kept z2 b9, cell_kept z3 b9⟩); replace HC2 := Lib.hid (show w9.cell? ⟨(W.heap.size + 1), 0, none⟩ = some (.int .i64 e.kind) ∧ w9.cell? ⟨(W.heap.size + 1), 1, none⟩ = some (.int .i64 e.day) by obtain ⟨z0, z1⟩ := HC2.out; exact ⟨cell_kept z0 b9, cell_kept z1 b9⟩); replace HC3 := Lib.hid (show w9.cell? ⟨w7.heap.size, 0, none⟩ = some (.int .i64 r.id) ∧ w9.cell? ⟨w7.heap.size, 1, none⟩ = some (.int .i64 r.series) ∧ w9.cell? ⟨w7.heap.size, 2, none⟩ = some (.int .i64 r.made) ∧ w9.cell? ⟨w7.heap.size, 3, none⟩ = some (.slice sa0 sn0 sc0) by obtain ⟨z0, z1, z2, z3⟩ := HC3.out; exact ⟨cell_kept z0 b9, cell_kept z1 b9, cell_kept z2 b9, cell_kept z3 b9⟩); replace HBW := Lib.hid (HBW.out.trans (b9.mono HBW.out.size)); clear b9) | (go_at_call 28; refine (implDueAfter_any _ _ r t e _ _ _ HOx0.out hk2 HOx1.out.row (by omega) d b HB.out).mono ?_; rintro e w10 ⟨rfl, b10⟩; have sz10 := b10.size; replace c1_0 := cell_kept c1_0 b10; replace c1_1 := cell_kept c1_1 b10; replace c1_2 := cell_kept c1_2 b10; replace c1_3 := cell_kept c1_3 b10; replace c2_0 := cell_kept c2_0 b10; replace c2_1 := cell_kept c2_1 b10; replace c3_0 := cell_kept c3_0 b10; replace c3_1 := cell_kept c3_1 b10; replace c3_2 := cell_kept c3_2 b10; replace c3_3 := cell_kept c3_3 b10; replace HOx0 := Lib.hid (HOx0.out.below b10); replace HOx1 := Lib.hid (HOx1.out.below b10); replace HC1 := Lib.hid (show w10.cell? ⟨W.heap.size, 0, none⟩ = some (.int .i64 r.id) ∧ w10.cell? ⟨W.heap.size, 1, none⟩ = some (.int .i64 r.series) ∧ w10.cell? ⟨W.heap.size, 2, none⟩ = some (.int .i64 r.made) ∧ w10.cell? ⟨W.heap.size, 3, none⟩ = some (sl0) by obtain ⟨z0, z1, z2, z3⟩ := HC1.out; exact ⟨cell_kept z0 b10, cell_kept z1 b10, cell_kept z2 b10, cell_kept z3 b10⟩); replace HC2 := Lib.hid (show w10.cell? ⟨(W.heap.size + 1), 0, none⟩ = some (.int .i64 e.kind) ∧ w10.cell? ⟨(W.heap.size + 1), 1, none⟩ = some (.int .i64 e.day) by obtain ⟨z0, z1⟩ := HC2.out; exact ⟨cell_kept z0 b10, cell_kept z1 b10⟩); replace HC3 := Lib.hid (show w10.cell? ⟨w7.heap.size, 0, none⟩ = some (.int .i64 r.id) ∧ w10.cell? ⟨w7.heap.size, 1, none⟩ = some (.int .i64 r.series) ∧ w10.cell? ⟨w7.heap.size, 2, none⟩ = some (.int .i64 r.made) ∧ w10.cell? ⟨w7.heap.size, 3, none⟩ = some (.slice sa0 sn0 sc0) by obtain ⟨z0, z1, z2, z3⟩ := HC3.out; exact ⟨cell_kept z0 b10, cell_kept z1 b10, cell_kept z2 b10, cell_kept z3 b10⟩); replace HBW := Lib.hid (HBW.out.trans (b10.mono HBW.out.size)); clear b10))
      clear c1_0 c1_1 c1_2 c1_3 c2_0 c2_1 c3_0 c3_1 c3_2 c3_3
      obtain ⟨c1_0, c1_1, c1_2, c1_3⟩ := HC1.out
      obtain ⟨c2_0, c2_1⟩ := HC2.out
      obtain ⟨c3_0, c3_1, c3_2, c3_3⟩ := HC3.out
      go_wp2_with fail
      go_region_held3 (fun w' => w'.cell? ⟨W.heap.size, 0, none⟩ = some (.int .i64 r.id) ∧ w'.cell? ⟨W.heap.size, 1, none⟩ = some (.int .i64 r.series) ∧ w'.cell? ⟨W.heap.size, 2, none⟩ = some (.int .i64 r.made) ∧ w'.cell? ⟨W.heap.size, 3, none⟩ = some (sl0) ∧ w'.cell? ⟨(W.heap.size + 1), 0, none⟩ = some (.int .i64 e.kind) ∧ w'.cell? ⟨(W.heap.size + 1), 1, none⟩ = some (.int .i64 e.day) ∧ w'.cell? ⟨w7.heap.size, 0, none⟩ = some (.int .i64 r.id) ∧ w'.cell? ⟨w7.heap.size, 1, none⟩ = some (.int .i64 r.series) ∧ w'.cell? ⟨w7.heap.size, 2, none⟩ = some (.int .i64 r.made) ∧ w'.cell? ⟨w7.heap.size, 3, none⟩ = some (.slice sa0 sn0 sc0)) (first | exact ⟨c1_0, c1_1, c1_2, c1_3, c2_0, c2_1, c3_0, c3_1, c3_2, c3_3⟩ | go_keep) (first | (go_at_call 44; refine (toRecord_any _ r _ (HA0.out _ HBW.out.drew) (by omega)).mono ?_; rintro e w11 ⟨vq0, rfl, hq0_, b11⟩; have HQ0 := Lib.hid hq0_; clear hq0_; replace b11 : Below w10.heap.size w10 w11 := (Below.refl _ _).drew.trans b11; have sz11 := b11.size; replace c1_0 := cell_kept c1_0 b11; replace c1_1 := cell_kept c1_1 b11; replace c1_2 := cell_kept c1_2 b11; replace c1_3 := cell_kept c1_3 b11; replace c2_0 := cell_kept c2_0 b11; replace c2_1 := cell_kept c2_1 b11; replace c3_0 := cell_kept c3_0 b11; replace c3_1 := cell_kept c3_1 b11; replace c3_2 := cell_kept c3_2 b11; replace c3_3 := cell_kept c3_3 b11; replace HOx0 := Lib.hid (HOx0.out.below b11); replace HOx1 := Lib.hid (HOx1.out.below b11); (replace HC1 := Lib.hid (show w11.cell? ⟨W.heap.size, 0, none⟩ = some (.int .i64 r.id) ∧ w11.cell? ⟨W.heap.size, 1, none⟩ = some (.int .i64 r.series) ∧ w11.cell? ⟨W.heap.size, 2, none⟩ = some (.int .i64 r.made) ∧ w11.cell? ⟨W.heap.size, 3, none⟩ = some (sl0) by obtain ⟨z0, z1, z2, z3⟩ := HC1.out; exact ⟨cell_kept z0 b11, cell_kept z1 b11, cell_kept z2 b11, cell_kept z3 b11⟩)); (replace HC2 := Lib.hid (show w11.cell? ⟨(W.heap.size + 1), 0, none⟩ = some (.int .i64 e.kind) ∧ w11.cell? ⟨(W.heap.size + 1), 1, none⟩ = some (.int .i64 e.day) by obtain ⟨z0, z1⟩ := HC2.out; exact ⟨cell_kept z0 b11, cell_kept z1 b11⟩)); (replace HC3 := Lib.hid (show w11.cell? ⟨w7.heap.size, 0, none⟩ = some (.int .i64 r.id) ∧ w11.cell? ⟨w7.heap.size, 1, none⟩ = some (.int .i64 r.series) ∧ w11.cell? ⟨w7.heap.size, 2, none⟩ = some (.int .i64 r.made) ∧ w11.cell? ⟨w7.heap.size, 3, none⟩ = some (.slice sa0 sn0 sc0) by obtain ⟨z0, z1, z2, z3⟩ := HC3.out; exact ⟨cell_kept z0 b11, cell_kept z1 b11, cell_kept z2 b11, cell_kept z3 b11⟩)); replace HBW := Lib.hid (HBW.out.trans (b11.mono HBW.out.size)); clear b11) | (go_at_call 47; refine (eqRecord_any _ _ r r _ HOx0.out.toV HQ0.out.toV).mono ?_; rw [decide_eq_true rfl]; rintro e w12 ⟨rfl, b12⟩; have sz12 := b12.size; replace c1_0 := cell_kept c1_0 b12; replace c1_1 := cell_kept c1_1 b12; replace c1_2 := cell_kept c1_2 b12; replace c1_3 := cell_kept c1_3 b12; replace c2_0 := cell_kept c2_0 b12; replace c2_1 := cell_kept c2_1 b12; replace c3_0 := cell_kept c3_0 b12; replace c3_1 := cell_kept c3_1 b12; replace c3_2 := cell_kept c3_2 b12; replace c3_3 := cell_kept c3_3 b12; replace HOx0 := Lib.hid (HOx0.out.below b12); replace HOx1 := Lib.hid (HOx1.out.below b12); (replace HC1 := Lib.hid (show w12.cell? ⟨W.heap.size, 0, none⟩ = some (.int .i64 r.id) ∧ w12.cell? ⟨W.heap.size, 1, none⟩ = some (.int .i64 r.series) ∧ w12.cell? ⟨W.heap.size, 2, none⟩ = some (.int .i64 r.made) ∧ w12.cell? ⟨W.heap.size, 3, none⟩ = some (sl0) by obtain ⟨z0, z1, z2, z3⟩ := HC1.out; exact ⟨cell_kept z0 b12, cell_kept z1 b12, cell_kept z2 b12, cell_kept z3 b12⟩)); (replace HC2 := Lib.hid (show w12.cell? ⟨(W.heap.size + 1), 0, none⟩ = some (.int .i64 e.kind) ∧ w12.cell? ⟨(W.heap.size + 1), 1, none⟩ = some (.int .i64 e.day) by obtain ⟨z0, z1⟩ := HC2.out; exact ⟨cell_kept z0 b12, cell_kept z1 b12⟩)); (replace HC3 := Lib.hid (show w12.cell? ⟨w7.heap.size, 0, none⟩ = some (.int .i64 r.id) ∧ w12.cell? ⟨w7.heap.size, 1, none⟩ = some (.int .i64 r.series) ∧ w12.cell? ⟨w7.heap.size, 2, none⟩ = some (.int .i64 r.made) ∧ w12.cell? ⟨w7.heap.size, 3, none⟩ = some (.slice sa0 sn0 sc0) by obtain ⟨z0, z1, z2, z3⟩ := HC3.out; exact ⟨cell_kept z0 b12, cell_kept z1 b12, cell_kept z2 b12, cell_kept z3 b12⟩)); replace HBW := Lib.hid (HBW.out.trans (b12.mono HBW.out.size)); clear b12))
      clear c1_0 c1_1 c1_2 c1_3 c2_0 c2_1 c3_0 c3_1 c3_2 c3_3
      clear HQ0
      obtain ⟨c1_0, c1_1, c1_2, c1_3⟩ := HC1.out
      obtain ⟨c2_0, c2_1⟩ := HC2.out
      obtain ⟨c3_0, c3_1, c3_2, c3_3⟩ := HC3.out
      go_wp2_with fail
      refine (toRuS_any _ t _ (HA1.out _ HBW.out) (by omega)).mono ?_
      rintro e w13 ⟨vq1, rfl, hq1_, b13⟩
      have HQ1 := Lib.hid hq1_
      clear hq1_
      have sz13 := b13.size
      replace HOx0 := Lib.hid (HOx0.out.below b13)
      replace HOx1 := Lib.hid (HOx1.out.below b13)
      replace HC1 := Lib.hid (show w13.cell? ⟨W.heap.size, 0, none⟩ = some (.int .i64 r.id) ∧ w13.cell? ⟨W.heap.size, 1, none⟩ = some (.int .i64 r.series) ∧ w13.cell? ⟨W.heap.size, 2, none⟩ = some (.int .i64 r.made) ∧ w13.cell? ⟨W.heap.size, 3, none⟩ = some (sl0) by obtain ⟨z0, z1, z2, z3⟩ := HC1.out; exact ⟨cell_kept z0 b13, cell_kept z1 b13, cell_kept z2 b13, cell_kept z3 b13⟩)
      replace HC2 := Lib.hid (show w13.cell? ⟨(W.heap.size + 1), 0, none⟩ = some (.int .i64 e.kind) ∧ w13.cell? ⟨(W.heap.size + 1), 1, none⟩ = some (.int .i64 e.day) by obtain ⟨z0, z1⟩ := HC2.out; exact ⟨cell_kept z0 b13, cell_kept z1 b13⟩)
      replace HC3 := Lib.hid (show w13.cell? ⟨w7.heap.size, 0, none⟩ = some (.int .i64 r.id) ∧ w13.cell? ⟨w7.heap.size, 1, none⟩ = some (.int .i64 r.series) ∧ w13.cell? ⟨w7.heap.size, 2, none⟩ = some (.int .i64 r.made) ∧ w13.cell? ⟨w7.heap.size, 3, none⟩ = some (.slice sa0 sn0 sc0) by obtain ⟨z0, z1, z2, z3⟩ := HC3.out; exact ⟨cell_kept z0 b13, cell_kept z1 b13, cell_kept z2 b13, cell_kept z3 b13⟩)
      replace HBW := Lib.hid (HBW.out.trans (b13.mono HBW.out.size))
      clear b13 c1_0 c1_1 c1_2 c1_3 c2_0 c2_1 c3_0 c3_1 c3_2 c3_3
      obtain ⟨c1_0, c1_1, c1_2, c1_3⟩ := HC1.out
      obtain ⟨c2_0, c2_1⟩ := HC2.out
      obtain ⟨c3_0, c3_1, c3_2, c3_3⟩ := HC3.out
      go_wp2_with fail
      refine (eqRuS_any _ _ t t _ HOx1.out.row HQ1.out.row).mono ?_
      rw [decide_eq_true rfl]
      rintro e w14 ⟨rfl, b14⟩
      have sz14 := b14.size
      replace HOx0 := Lib.hid (HOx0.out.below b14)
      replace HOx1 := Lib.hid (HOx1.out.below b14)
      replace HQ1 := Lib.hid (HQ1.out.below b14)
      replace HC1 := Lib.hid (show w14.cell? ⟨W.heap.size, 0, none⟩ = some (.int .i64 r.id) ∧ w14.cell? ⟨W.heap.size, 1, none⟩ = some (.int .i64 r.series) ∧ w14.cell? ⟨W.heap.size, 2, none⟩ = some (.int .i64 r.made) ∧ w14.cell? ⟨W.heap.size, 3, none⟩ = some (sl0) by obtain ⟨z0, z1, z2, z3⟩ := HC1.out; exact ⟨cell_kept z0 b14, cell_kept z1 b14, cell_kept z2 b14, cell_kept z3 b14⟩)
      replace HC2 := Lib.hid (show w14.cell? ⟨(W.heap.size + 1), 0, none⟩ = some (.int .i64 e.kind) ∧ w14.cell? ⟨(W.heap.size + 1), 1, none⟩ = some (.int .i64 e.day) by obtain ⟨z0, z1⟩ := HC2.out; exact ⟨cell_kept z0 b14, cell_kept z1 b14⟩)
      replace HC3 := Lib.hid (show w14.cell? ⟨w7.heap.size, 0, none⟩ = some (.int .i64 r.id) ∧ w14.cell? ⟨w7.heap.size, 1, none⟩ = some (.int .i64 r.series) ∧ w14.cell? ⟨w7.heap.size, 2, none⟩ = some (.int .i64 r.made) ∧ w14.cell? ⟨w7.heap.size, 3, none⟩ = some (.slice sa0 sn0 sc0) by obtain ⟨z0, z1, z2, z3⟩ := HC3.out; exact ⟨cell_kept z0 b14, cell_kept z1 b14, cell_kept z2 b14, cell_kept z3 b14⟩)
      replace HBW := Lib.hid (HBW.out.trans (b14.mono HBW.out.size))
      clear b14 c1_0 c1_1 c1_2 c1_3 c2_0 c2_1 c3_0 c3_1 c3_2 c3_3
      clear HQ1
      go_wp2_with fail
      go_ret
      exact ⟨rfl, HBW.out⟩

set_option maxRecDepth 100000 in
theorem fnExactDueAfter_lifted (os : Os) (started : os.Started) (H : Type) (enc : TypeId × Value → H) :
    ReturnsInHanded {} Try.checked os 13 .any (Rows.fnExactDueAfterSpec.pre6 enc Try.prog Try.f13 Rows.fnExactDueAfterRow.domain false) (Rows.fnExactDueAfterSpec.post enc Try.prog Try.f13 false true false false) := by
  refine returnsInHanded_of_change (C := Try.checked) Try.own started (by kernel_rfl) Try.func13
    (ChangeSpec.witness6 (enc := enc) (C := Try.checked) false ⟨#[], #[.agg #[.int .i64 0, .int .i64 0, .int .i64 0, .slice none 0 0], .slice none 0 0, .agg #[.int .i64 0, .int .i64 0]], []⟩ 8 (by kernel_rfl) (by kernel_rfl) (by kernel_rfl) (by kernel_rfl)) ?_
  intro W base args ds gs before hval0 hW hcnd _
  have hval : ∀ (j : Nat) t v, Try.f13.params[j]? = some t → args[j]? = some v → Value.okWide Try.prog W .any base t v := hval0
  have hW' := hW
  obtain ⟨p, q, hA0, hV, rfl, hfz, hnd⟩ := hW
  have hA : DataW.TrodAll enc Try.prog W 0 (fun _ => true) true Try.f13.params.toList args.toList ds p := hA0
  rw [Try.params13] at hA hval
  obtain ⟨v0, vs0, d0, ds0, p0, q0, hargs, rfl, rfl, h0, r0⟩ := trodAll_cons hA
  obtain ⟨v1, vs1, d1, ds1, p1, q1, rfl, rfl, rfl, h1, r1⟩ := trodAll_cons r0
  obtain ⟨v2, vs2, d2, ds2, p2, q2, rfl, rfl, rfl, h2, r2⟩ := trodAll_cons r1
  obtain ⟨rfl, rfl, rfl⟩ := trodAll_nil r2
  obtain rfl : args = #[v0, v1, v2] := by cases args; simp_all
  obtain ⟨rfl, rfl⟩ := trodVars_none hV
  obtain ⟨x0, w0⟩ := arg_rec (hval 0 64 v0 rfl rfl) h0
  have lt0 : ∀ x ∈ p0, x.block < W.heap.size := by obtain ⟨m, hm⟩ := h0; exact DataW.trod_lt m _ _ _ hm
  obtain ⟨x1, w1⟩ := arg_rus (hval 1 65 v1 rfl rfl) h1
  have lt1 : ∀ x ∈ p1, x.block < W.heap.size := by obtain ⟨m, hm⟩ := h1; exact DataW.trod_lt m _ _ _ hm
  obtain ⟨x2, w2⟩ := arg_ev (hval 2 86 v2 rfl rfl) h2
  have lt2 : ∀ x ∈ p2, x.block < W.heap.size := by obtain ⟨m, hm⟩ := h2; exact DataW.trod_lt m _ _ _ hm
  clear hA0 hval0
  refine (walkDueAfter v0 x0 v1 x1 v2 x2 W w0 w1 w2).mono fun e W' ⟨he, bel⟩ => ?_
  subst he
  exact ⟨_, rfl, _, _, _, [], _, [], hW', trodAll_mk1 (shut_bool Try.underlying4 _), (trodAll_cons_mk (Below.trod Try.laidOut (by kernel_rfl) (of_decide_eq_true (by kernel_rfl)) h0 bel lt0) (trodAll_cons_mk (Below.trod Try.laidOut (by kernel_rfl) (of_decide_eq_true (by kernel_rfl)) h1 bel lt1) (trodAll_cons_mk (Below.trod Try.laidOut (by kernel_rfl) (of_decide_eq_true (by kernel_rfl)) h2 bel lt2) trodAll_mk0))), rfl, bel.frame _, fun h => by cases h⟩

/-- THE STATEMENT. -/
theorem fnExactDueAfter_proved : Rows.FnExactDueAfterSaid :=
  OpenClaim.holds_of_wide 13 Try.f13 rfl rfl rfl rfl rfl rfl rfl ⟨rfl, rfl, rfl, rfl, rfl⟩ rfl rfl rfl rfl rfl (by kernel_rfl) Try.func13 (by kernel_rfl)
    (of_decide_eq_true (by kernel_rfl)) (by unfold Func.isWrapper; first | (rw [if_pos (by decide +kernel)]; kernel_rfl) | (rw [if_neg (by decide +kernel)]; exact ⟨rfl, rfl⟩))
    (fun os started H enc _ => fnExactDueAfter_lifted os started H enc)
end Go.Proofs.Ytdcikapijpohpaa
