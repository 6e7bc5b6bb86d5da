/- The law FnExactFirstDestruction: at every argument the call answers true. No condition. -/
import Derived.Test.YtkjpehpodlpdhaaHo6S
import Derived.Test.YtkjpehpodlpdhaaFdeLZ
import Derived.Test.YtkjpehpodlpdhaaEqRec
import Derived.Test.YtkjpehpodlpdhaaRecs
import Derived.Test.YtkjpehpodlpdhaaFrame
import Derived.Test.YtkjpehpodlpdhaaBox4
import Derived.Deep.RegionHeld3
namespace Go.Proofs.Ytkjpehpodlpdhaa
set_option linter.unusedVariables false
open Go.ChangeShapes Go.WideShapes Go.ChangeAt Go.RowKit

set_option maxRecDepth 20000 in
set_option maxHeartbeats 8000000 in
theorem walkFirstDestruction (v0 : Value) (l : List Ho) (v1 : Value) (r : Rec) (v2 : Value) (t : List Ru) (W : World) (h0 : RowR 6 rHo W v0 l) (h1 : RecV W v1 r) (h2 : RowR 4 rRu W v2 t) :
    Calls Try.prog 9 #[v0, v1, v2] W fun e w' => e = .returned (.bool true) ∧ Below W.heap.size W w' := by
  have HA0 := Lib.hid (show ∀ W', Below W.heap.size W W' → RowR 6 rHo W' v0 l from fun W' hb => h0.below rHo_stable hb)
  clear h0
  obtain ⟨sl1, rfl, hh1, hok1⟩ := h1
  have HA1 := Lib.hid (show ∀ W', Below W.heap.size W W' → RecV W' (.agg #[.int .i64 r.id, .int .i64 r.series, .int .i64 r.made, sl1]) r from fun W' hb => ⟨sl1, rfl, hh1.below rEv_stable hb, hok1⟩)
  clear hh1 hok1
  have HA2 := Lib.hid (show ∀ W', Below W.heap.size W W' → RowR 4 rRu W' v2 t from fun W' hb => h2.below rRu_stable hb)
  clear h2
  obtain ⟨n, b, hb⟩ : ∃ n b, fdRes l r t = (n, b) := ⟨_, _, rfl⟩
  have HB := Lib.hid hb
  clear hb
  have eb_n : (n != n) = false := by simp
  have eb_b : (b != b) = false := by simp
  go_enter Try.func9, Try.ntmps9
  go_wp2_with fail
  generalize hW0 : W.alloc (.cells #[.int .i64 r.id, .int .i64 r.series, .int .i64 r.made, sl1] 31 (0, 0)) = W0
  have HBW : Hid (Below W.heap.size W W0) := Lib.hid (by rw [← hW0]; exact below_al (Below.refl W.heap.size W) _)
  have HC1 := Lib.hid (show W0.cell? ⟨W.heap.size, 0, none⟩ = some (.int .i64 r.id) ∧ W0.cell? ⟨W.heap.size, 1, none⟩ = some (.int .i64 r.series) ∧ W0.cell? ⟨W.heap.size, 2, none⟩ = some (.int .i64 r.made) ∧ W0.cell? ⟨W.heap.size, 3, none⟩ = some (sl1) by rw [← hW0]; exact ⟨cell_new W #[.int .i64 r.id, .int .i64 r.series, .int .i64 r.made, sl1] 31 0 rfl, cell_new W #[.int .i64 r.id, .int .i64 r.series, .int .i64 r.made, sl1] 31 1 rfl, cell_new W #[.int .i64 r.id, .int .i64 r.series, .int .i64 r.made, sl1] 31 2 rfl, cell_new W #[.int .i64 r.id, .int .i64 r.series, .int .i64 r.made, sl1] 31 3 rfl⟩)
  clear hW0
  obtain ⟨c1_0, c1_1, c1_2, c1_3⟩ := HC1.out
  go_wp2_with fail
  refine (szHoS_any _ l 1048576 _ (HA0.out _ HBW.out) (by omega) (by omega)).mono ?_
  rintro e w1 ⟨n0, rfl, hf0, hp0, hq0, b1⟩
  have sz1 := b1.size
  replace HC1 := Lib.hid (show w1.cell? ⟨W.heap.size, 0, none⟩ = some (.int .i64 r.id) ∧ w1.cell? ⟨W.heap.size, 1, none⟩ = some (.int .i64 r.series) ∧ w1.cell? ⟨W.heap.size, 2, none⟩ = some (.int .i64 r.made) ∧ w1.cell? ⟨W.heap.size, 3, none⟩ = some (sl1) by obtain ⟨z0, z1, z2, z3⟩ := HC1.out; exact ⟨cell_kept z0 b1, cell_kept z1 b1, cell_kept z2 b1, cell_kept z3 b1⟩)
  replace HBW := Lib.hid (HBW.out.trans (b1.mono HBW.out.size))
  clear b1 c1_0 c1_1 c1_2 c1_3
  have HF0 := Lib.hid hf0
  have HP0 := Lib.hid hp0
  clear hf0 hp0
  by_cases hs0 : n0 < 0
  · go_wp2_with fail
    go_ret
    exact ⟨rfl, HBW.out⟩
  · have hl0 : l.length + szHo l ≤ 1048576 := by have := HF0.out; omega
    have hn00 : 0 ≤ n0 := by omega
    have hxt0 := msHo_le l
    obtain ⟨c1_0, c1_1, c1_2, c1_3⟩ := HC1.out
    go_wp2_with fail
    refine (szRecord_any _ r n0 _ (HA1.out _ HBW.out) (by omega) (by omega)).mono ?_
    rintro e w2 ⟨rfl, b2⟩
    have sz2 := b2.size
    replace HC1 := Lib.hid (show w2.cell? ⟨W.heap.size, 0, none⟩ = some (.int .i64 r.id) ∧ w2.cell? ⟨W.heap.size, 1, none⟩ = some (.int .i64 r.series) ∧ w2.cell? ⟨W.heap.size, 2, none⟩ = some (.int .i64 r.made) ∧ w2.cell? ⟨W.heap.size, 3, none⟩ = some (sl1) by obtain ⟨z0, z1, z2, z3⟩ := HC1.out; exact ⟨cell_kept z0 b2, cell_kept z1 b2, cell_kept z2 b2, cell_kept z3 b2⟩)
    replace HBW := Lib.hid (HBW.out.trans (b2.mono HBW.out.size))
    clear b2 c1_0 c1_1 c1_2 c1_3
    by_cases hs1 : (n0 : Int) < r.evs.length
    · rw [if_pos hs1]
      go_wp2_with fail
      go_ret
      exact ⟨rfl, HBW.out⟩
    · rw [if_neg hs1]
      obtain ⟨n1, hn1⟩ : ∃ n : Int, n0 - (r.evs.length : Int) = n := ⟨_, rfl⟩
      have hl1 : r.evs.length ≤ 1048576 := by omega
      have hn10 : 0 ≤ n1 := by omega
      have hn11 : n1 ≤ n0 := by omega
      rw [hn1]
      clear hn1
      obtain ⟨c1_0, c1_1, c1_2, c1_3⟩ := HC1.out
      go_wp2_with fail
      refine (szRuS_any _ t n1 _ (HA2.out _ HBW.out) (by omega) (by omega)).mono ?_
      rintro e w3 ⟨n2, rfl, hf2, hp2, hq2, b3⟩
      have sz3 := b3.size
      replace HC1 := Lib.hid (show w3.cell? ⟨W.heap.size, 0, none⟩ = some (.int .i64 r.id) ∧ w3.cell? ⟨W.heap.size, 1, none⟩ = some (.int .i64 r.series) ∧ w3.cell? ⟨W.heap.size, 2, none⟩ = some (.int .i64 r.made) ∧ w3.cell? ⟨W.heap.size, 3, none⟩ = some (sl1) by obtain ⟨z0, z1, z2, z3⟩ := HC1.out; exact ⟨cell_kept z0 b3, cell_kept z1 b3, cell_kept z2 b3, cell_kept z3 b3⟩)
      replace HBW := Lib.hid (HBW.out.trans (b3.mono HBW.out.size))
      clear b3 c1_0 c1_1 c1_2 c1_3
      have HF2 := Lib.hid hf2
      have HP2 := Lib.hid hp2
      clear hf2 hp2
      by_cases hs2 : n2 < 0
      · go_wp2_with fail
        go_ret
        exact ⟨rfl, HBW.out⟩
      · have hl2 : t.length ≤ 1048576 := by have := HF2.out; omega
        have hn20 : 0 ≤ n2 := by omega
        obtain ⟨c1_0, c1_1, c1_2, c1_3⟩ := HC1.out
        go_wp2_with fail
        go_region_held3 (fun w' => w'.cell? ⟨W.heap.size, 0, none⟩ = some (.int .i64 r.id) ∧ w'.cell? ⟨W.heap.size, 1, none⟩ = some (.int .i64 r.series) ∧ w'.cell? ⟨W.heap.size, 2, none⟩ = some (.int .i64 r.made) ∧ w'.cell? ⟨W.heap.size, 3, none⟩ = some (sl1)) (first | exact ⟨c1_0, c1_1, c1_2, c1_3⟩ | go_keep) (first | (go_at_call 17; refine (toHoS_any _ l _ (HA0.out _ HBW.out.drew) (by omega)).mono ?_; rintro e w4 ⟨s0, rfl, hos0, b4⟩; have HOs0 := Lib.hid hos0; clear hos0; replace b4 : Below w3.heap.size w3 w4 := (Below.refl _ _).drew.trans b4; have sz4 := b4.size; replace c1_0 := cell_kept c1_0 b4; replace c1_1 := cell_kept c1_1 b4; replace c1_2 := cell_kept c1_2 b4; replace c1_3 := cell_kept c1_3 b4; replace HC1 := Lib.hid (show w4.cell? ⟨W.heap.size, 0, none⟩ = some (.int .i64 r.id) ∧ w4.cell? ⟨W.heap.size, 1, none⟩ = some (.int .i64 r.series) ∧ w4.cell? ⟨W.heap.size, 2, none⟩ = some (.int .i64 r.made) ∧ w4.cell? ⟨W.heap.size, 3, none⟩ = some (sl1) by obtain ⟨z0, z1, z2, z3⟩ := HC1.out; exact ⟨cell_kept z0 b4, cell_kept z1 b4, cell_kept z2 b4, cell_kept z3 b4⟩); replace HBW := Lib.hid (HBW.out.trans (b4.mono HBW.out.size)); clear b4) | (go_at_call 22; refine (toRecord_some _ r _ (HA1.out _ HBW.out) (by omega)).mono ?_; rintro e w5 ⟨s1, rfl, hos1, b5, hss1⟩; have HOs1 := Lib.hid hos1; have HSs1 := Lib.hid hss1; clear hos1 hss1; have sz5 := b5.size; replace c1_0 := cell_kept c1_0 b5; replace c1_1 := cell_kept c1_1 b5; replace c1_2 := cell_kept c1_2 b5; replace c1_3 := cell_kept c1_3 b5; replace HOs0 := Lib.hid (HOs0.out.below b5); replace HC1 := Lib.hid (show w5.cell? ⟨W.heap.size, 0, none⟩ = some (.int .i64 r.id) ∧ w5.cell? ⟨W.heap.size, 1, none⟩ = some (.int .i64 r.series) ∧ w5.cell? ⟨W.heap.size, 2, none⟩ = some (.int .i64 r.made) ∧ w5.cell? ⟨W.heap.size, 3, none⟩ = some (sl1) by obtain ⟨z0, z1, z2, z3⟩ := HC1.out; exact ⟨cell_kept z0 b5, cell_kept z1 b5, cell_kept z2 b5, cell_kept z3 b5⟩); replace HBW := Lib.hid (HBW.out.trans (b5.mono HBW.out.size)); clear b5) | (go_at_call 43; refine (toRuS_any _ t _ (HA2.out _ HBW.out) (by omega)).mono ?_; rintro e w6 ⟨s2, rfl, hos2, b6⟩; have HOs2 := Lib.hid hos2; clear hos2; have sz6 := b6.size; replace c1_0 := cell_kept c1_0 b6; replace c1_1 := cell_kept c1_1 b6; replace c1_2 := cell_kept c1_2 b6; replace c1_3 := cell_kept c1_3 b6; replace HOs0 := Lib.hid (HOs0.out.below b6); replace HOs1 := Lib.hid (HOs1.out.below b6); replace HC1 := Lib.hid (show w6.cell? ⟨W.heap.size, 0, none⟩ = some (.int .i64 r.id) ∧ w6.cell? ⟨W.heap.size, 1, none⟩ = some (.int .i64 r.series) ∧ w6.cell? ⟨W.heap.size, 2, none⟩ = some (.int .i64 r.made) ∧ w6.cell? ⟨W.heap.size, 3, none⟩ = some (sl1) by obtain ⟨z0, z1, z2, z3⟩ := HC1.out; exact ⟨cell_kept z0 b6, cell_kept z1 b6, cell_kept z2 b6, cell_kept z3 b6⟩); replace HBW := Lib.hid (HBW.out.trans (b6.mono HBW.out.size)); clear b6) | (go_at_call 46; refine (specFirstDestruction_any _ _ _ l r t _ HOs0.out.row HOs1.out.toV HOs2.out.row n b HB.out).mono ?_; rintro e w7 ⟨rfl, b7⟩; have sz7 := b7.size; replace c1_0 := cell_kept c1_0 b7; replace c1_1 := cell_kept c1_1 b7; replace c1_2 := cell_kept c1_2 b7; replace c1_3 := cell_kept c1_3 b7; replace HOs0 := Lib.hid (HOs0.out.below b7); replace HOs1 := Lib.hid (HOs1.out.below b7); replace HOs2 := Lib.hid (HOs2.out.below b7); replace HC1 := Lib.hid (show w7.cell? ⟨W.heap.size, 0, none⟩ = some (.int .i64 r.id) ∧ w7.cell? ⟨W.heap.size, 1, none⟩ = some (.int .i64 r.series) ∧ w7.cell? ⟨W.heap.size, 2, none⟩ = some (.int .i64 r.made) ∧ w7.cell? ⟨W.heap.size, 3, none⟩ = some (sl1) by obtain ⟨z0, z1, z2, z3⟩ := HC1.out; exact ⟨cell_kept z0 b7, cell_kept z1 b7, cell_kept z2 b7, cell_kept z3 b7⟩); replace HBW := Lib.hid (HBW.out.trans (b7.mono HBW.out.size)); clear b7))
        clear c1_0 c1_1 c1_2 c1_3
        clear HOs0
        clear HOs1
        clear HSs1
        clear HOs2
        obtain ⟨c1_0, c1_1, c1_2, c1_3⟩ := HC1.out
        go_wp2_with fail
        refine (toHoS_any _ l _ (HA0.out _ HBW.out) (by omega)).mono ?_
        rintro e w8 ⟨x0, rfl, hox0, b8⟩
        have HOx0 := Lib.hid hox0
        clear hox0
        have sz8 := b8.size
        replace HC1 := Lib.hid (show w8.cell? ⟨W.heap.size, 0, none⟩ = some (.int .i64 r.id) ∧ w8.cell? ⟨W.heap.size, 1, none⟩ = some (.int .i64 r.series) ∧ w8.cell? ⟨W.heap.size, 2, none⟩ = some (.int .i64 r.made) ∧ w8.cell? ⟨W.heap.size, 3, none⟩ = some (sl1) by obtain ⟨z0, z1, z2, z3⟩ := HC1.out; exact ⟨cell_kept z0 b8, cell_kept z1 b8, cell_kept z2 b8, cell_kept z3 b8⟩)
        replace HBW := Lib.hid (HBW.out.trans (b8.mono HBW.out.size))
        clear b8 c1_0 c1_1 c1_2 c1_3
        obtain ⟨c1_0, c1_1, c1_2, c1_3⟩ := HC1.out
        go_wp2_with fail
        refine (toRecord_some _ r _ (HA1.out _ HBW.out) (by omega)).mono ?_
        rintro e w9 ⟨x1, rfl, hox1, b9, hsx1⟩
        have HOx1 := Lib.hid hox1
        have HSx1 := Lib.hid hsx1
        clear hox1 hsx1
        have sz9 := b9.size
        replace HOx0 := Lib.hid (HOx0.out.below b9)
        replace HC1 := Lib.hid (show w9.cell? ⟨W.heap.size, 0, none⟩ = some (.int .i64 r.id) ∧ w9.cell? ⟨W.heap.size, 1, none⟩ = some (.int .i64 r.series) ∧ w9.cell? ⟨W.heap.size, 2, none⟩ = some (.int .i64 r.made) ∧ w9.cell? ⟨W.heap.size, 3, none⟩ = some (sl1) by obtain ⟨z0, z1, z2, z3⟩ := HC1.out; exact ⟨cell_kept z0 b9, cell_kept z1 b9, cell_kept z2 b9, cell_kept z3 b9⟩)
        replace HBW := Lib.hid (HBW.out.trans (b9.mono HBW.out.size))
        clear b9 c1_0 c1_1 c1_2 c1_3
        obtain ⟨sx1, hvx1, hox1, hokx1⟩ := HOx1.out
        obtain ⟨sa1, sn1, sc1, rfl⟩ := hox1.1.slice
        subst hvx1
        clear hox1 hokx1
        obtain ⟨c1_0, c1_1, c1_2, c1_3⟩ := HC1.out
        have c1_0x := fun ob => below_al_cell c1_0 ob
        have c1_1x := fun ob => below_al_cell c1_1 ob
        have c1_2x := fun ob => below_al_cell c1_2 ob
        have c1_3x := fun ob => below_al_cell c1_3 ob
        go_wp2_with fail
        refine (toRuS_any _ t _ (HA2.out _ (HBW.out.trans ((below_al (Below.refl _ _) _).mono HBW.out.size))) (by omega)).mono ?_
        rintro e w10 ⟨x2, rfl, hox2, b10⟩
        have HOx2 := Lib.hid hox2
        clear hox2
        have HC2 := Lib.hid (show w10.cell? ⟨w9.heap.size, 0, none⟩ = some (.int .i64 r.id) ∧ w10.cell? ⟨w9.heap.size, 1, none⟩ = some (.int .i64 r.series) ∧ w10.cell? ⟨w9.heap.size, 2, none⟩ = some (.int .i64 r.made) ∧ w10.cell? ⟨w9.heap.size, 3, none⟩ = some (.slice sa1 sn1 sc1) from ⟨cell_kept (cell_new _ _ _ 0 rfl) b10, cell_kept (cell_new _ _ _ 1 rfl) b10, cell_kept (cell_new _ _ _ 2 rfl) b10, cell_kept (cell_new _ _ _ 3 rfl) b10⟩)
        replace b10 := below_chain (below_al (Below.refl w9.heap.size w9) _) b10
        have sz10 := b10.size
        replace HOx0 := Lib.hid (HOx0.out.below b10)
        replace HOx1 := Lib.hid (HOx1.out.below b10)
        replace HC1 := Lib.hid (show w10.cell? ⟨W.heap.size, 0, none⟩ = some (.int .i64 r.id) ∧ w10.cell? ⟨W.heap.size, 1, none⟩ = some (.int .i64 r.series) ∧ w10.cell? ⟨W.heap.size, 2, none⟩ = some (.int .i64 r.made) ∧ w10.cell? ⟨W.heap.size, 3, none⟩ = some (sl1) by obtain ⟨z0, z1, z2, z3⟩ := HC1.out; exact ⟨cell_kept z0 b10, cell_kept z1 b10, cell_kept z2 b10, cell_kept z3 b10⟩)
        replace HBW := Lib.hid (HBW.out.trans (b10.mono HBW.out.size))
        clear b10 c1_0 c1_1 c1_2 c1_3 c1_0x c1_1x c1_2x c1_3x
        obtain ⟨c1_0, c1_1, c1_2, c1_3⟩ := HC1.out
        obtain ⟨c2_0, c2_1, c2_2, c2_3⟩ := HC2.out
        go_wp2_with fail
        refine (implFirstDestruction_any _ _ _ l r t _ HOx0.out.row HOx1.out.toV HOx2.out.row (by omega) n b HB.out).mono ?_
        rintro e w11 ⟨rfl, b11⟩
        have sz11 := b11.size
        replace HOx0 := Lib.hid (HOx0.out.below b11)
        replace HOx1 := Lib.hid (HOx1.out.below b11)
        replace HOx2 := Lib.hid (HOx2.out.below b11)
        replace HC1 := Lib.hid (show w11.cell? ⟨W.heap.size, 0, none⟩ = some (.int .i64 r.id) ∧ w11.cell? ⟨W.heap.size, 1, none⟩ = some (.int .i64 r.series) ∧ w11.cell? ⟨W.heap.size, 2, none⟩ = some (.int .i64 r.made) ∧ w11.cell? ⟨W.heap.size, 3, none⟩ = some (sl1) by obtain ⟨z0, z1, z2, z3⟩ := HC1.out; exact ⟨cell_kept z0 b11, cell_kept z1 b11, cell_kept z2 b11, cell_kept z3 b11⟩)
        replace HC2 := Lib.hid (show w11.cell? ⟨w9.heap.size, 0, none⟩ = some (.int .i64 r.id) ∧ w11.cell? ⟨w9.heap.size, 1, none⟩ = some (.int .i64 r.series) ∧ w11.cell? ⟨w9.heap.size, 2, none⟩ = some (.int .i64 r.made) ∧ w11.cell? ⟨w9.heap.size, 3, none⟩ = some (.slice sa1 sn1 sc1) by obtain ⟨z0, z1, z2, z3⟩ := HC2.out; exact ⟨cell_kept z0 b11, cell_kept z1 b11, cell_kept z2 b11, cell_kept z3 b11⟩)
        replace HBW := Lib.hid (HBW.out.trans (b11.mono HBW.out.size))
        clear b11 c1_0 c1_1 c1_2 c1_3 c2_0 c2_1 c2_2 c2_3
        obtain ⟨c1_0, c1_1, c1_2, c1_3⟩ := HC1.out
        obtain ⟨c2_0, c2_1, c2_2, c2_3⟩ := HC2.out
        go_wp2_with fail
        refine (toHoS_any _ l _ (HA0.out _ HBW.out) (by omega)).mono ?_
        rintro e w12 ⟨vq0, rfl, hq0_, b12⟩
        have HQ0 := Lib.hid hq0_
        clear hq0_
        have sz12 := b12.size
        replace HOx0 := Lib.hid (HOx0.out.below b12)
        replace HOx1 := Lib.hid (HOx1.out.below b12)
        replace HOx2 := Lib.hid (HOx2.out.below b12)
        replace HC1 := Lib.hid (show w12.cell? ⟨W.heap.size, 0, none⟩ = some (.int .i64 r.id) ∧ w12.cell? ⟨W.heap.size, 1, none⟩ = some (.int .i64 r.series) ∧ w12.cell? ⟨W.heap.size, 2, none⟩ = some (.int .i64 r.made) ∧ w12.cell? ⟨W.heap.size, 3, none⟩ = some (sl1) by obtain ⟨z0, z1, z2, z3⟩ := HC1.out; exact ⟨cell_kept z0 b12, cell_kept z1 b12, cell_kept z2 b12, cell_kept z3 b12⟩)
        replace HC2 := Lib.hid (show w12.cell? ⟨w9.heap.size, 0, none⟩ = some (.int .i64 r.id) ∧ w12.cell? ⟨w9.heap.size, 1, none⟩ = some (.int .i64 r.series) ∧ w12.cell? ⟨w9.heap.size, 2, none⟩ = some (.int .i64 r.made) ∧ w12.cell? ⟨w9.heap.size, 3, none⟩ = some (.slice sa1 sn1 sc1) by obtain ⟨z0, z1, z2, z3⟩ := HC2.out; exact ⟨cell_kept z0 b12, cell_kept z1 b12, cell_kept z2 b12, cell_kept z3 b12⟩)
        replace HBW := Lib.hid (HBW.out.trans (b12.mono HBW.out.size))
        clear b12 c1_0 c1_1 c1_2 c1_3 c2_0 c2_1 c2_2 c2_3
        obtain ⟨c1_0, c1_1, c1_2, c1_3⟩ := HC1.out
        obtain ⟨c2_0, c2_1, c2_2, c2_3⟩ := HC2.out
        go_wp2_with fail
        refine (eqHoS_any _ _ l l _ HOx0.out.row HQ0.out.row).mono ?_
        rw [decide_eq_true rfl]
        rintro e w13 ⟨rfl, b13⟩
        have sz13 := b13.size
        replace HOx0 := Lib.hid (HOx0.out.below b13)
        replace HOx1 := Lib.hid (HOx1.out.below b13)
        replace HOx2 := Lib.hid (HOx2.out.below b13)
        replace HQ0 := Lib.hid (HQ0.out.below b13)
        replace HC1 := Lib.hid (show w13.cell? ⟨W.heap.size, 0, none⟩ = some (.int .i64 r.id) ∧ w13.cell? ⟨W.heap.size, 1, none⟩ = some (.int .i64 r.series) ∧ w13.cell? ⟨W.heap.size, 2, none⟩ = some (.int .i64 r.made) ∧ w13.cell? ⟨W.heap.size, 3, none⟩ = some (sl1) by obtain ⟨z0, z1, z2, z3⟩ := HC1.out; exact ⟨cell_kept z0 b13, cell_kept z1 b13, cell_kept z2 b13, cell_kept z3 b13⟩)
        replace HC2 := Lib.hid (show w13.cell? ⟨w9.heap.size, 0, none⟩ = some (.int .i64 r.id) ∧ w13.cell? ⟨w9.heap.size, 1, none⟩ = some (.int .i64 r.series) ∧ w13.cell? ⟨w9.heap.size, 2, none⟩ = some (.int .i64 r.made) ∧ w13.cell? ⟨w9.heap.size, 3, none⟩ = some (.slice sa1 sn1 sc1) by obtain ⟨z0, z1, z2, z3⟩ := HC2.out; exact ⟨cell_kept z0 b13, cell_kept z1 b13, cell_kept z2 b13, cell_kept z3 b13⟩)
        replace HBW := Lib.hid (HBW.out.trans (b13.mono HBW.out.size))
        clear b13 c1_0 c1_1 c1_2 c1_3 c2_0 c2_1 c2_2 c2_3
        clear HQ0
        obtain ⟨c1_0, c1_1, c1_2, c1_3⟩ := HC1.out
        obtain ⟨c2_0, c2_1, c2_2, c2_3⟩ := HC2.out
        go_wp2_with fail
        go_region_held3 (fun w' => w'.cell? ⟨W.heap.size, 0, none⟩ = some (.int .i64 r.id) ∧ w'.cell? ⟨W.heap.size, 1, none⟩ = some (.int .i64 r.series) ∧ w'.cell? ⟨W.heap.size, 2, none⟩ = some (.int .i64 r.made) ∧ w'.cell? ⟨W.heap.size, 3, none⟩ = some (sl1) ∧ w'.cell? ⟨w9.heap.size, 0, none⟩ = some (.int .i64 r.id) ∧ w'.cell? ⟨w9.heap.size, 1, none⟩ = some (.int .i64 r.series) ∧ w'.cell? ⟨w9.heap.size, 2, none⟩ = some (.int .i64 r.made) ∧ w'.cell? ⟨w9.heap.size, 3, none⟩ = some (.slice sa1 sn1 sc1)) (first | exact ⟨c1_0, c1_1, c1_2, c1_3, c2_0, c2_1, c2_2, c2_3⟩ | go_keep) (first | (go_at_call 22; refine (toRecord_any _ r _ (HA1.out _ HBW.out.drew) (by omega)).mono ?_; rintro e w14 ⟨vq1, rfl, hq1_, b14⟩; have HQ1 := Lib.hid hq1_; clear hq1_; replace b14 : Below w13.heap.size w13 w14 := (Below.refl _ _).drew.trans b14; have sz14 := b14.size; replace c1_0 := cell_kept c1_0 b14; replace c1_1 := cell_kept c1_1 b14; replace c1_2 := cell_kept c1_2 b14; replace c1_3 := cell_kept c1_3 b14; replace c2_0 := cell_kept c2_0 b14; replace c2_1 := cell_kept c2_1 b14; replace c2_2 := cell_kept c2_2 b14; replace c2_3 := cell_kept c2_3 b14; replace HOx0 := Lib.hid (HOx0.out.below b14); replace HOx1 := Lib.hid (HOx1.out.below b14); replace HOx2 := Lib.hid (HOx2.out.below b14); (replace HC1 := Lib.hid (show w14.cell? ⟨W.heap.size, 0, none⟩ = some (.int .i64 r.id) ∧ w14.cell? ⟨W.heap.size, 1, none⟩ = some (.int .i64 r.series) ∧ w14.cell? ⟨W.heap.size, 2, none⟩ = some (.int .i64 r.made) ∧ w14.cell? ⟨W.heap.size, 3, none⟩ = some (sl1) by obtain ⟨z0, z1, z2, z3⟩ := HC1.out; exact ⟨cell_kept z0 b14, cell_kept z1 b14, cell_kept z2 b14, cell_kept z3 b14⟩)); (replace HC2 := Lib.hid (show w14.cell? ⟨w9.heap.size, 0, none⟩ = some (.int .i64 r.id) ∧ w14.cell? ⟨w9.heap.size, 1, none⟩ = some (.int .i64 r.series) ∧ w14.cell? ⟨w9.heap.size, 2, none⟩ = some (.int .i64 r.made) ∧ w14.cell? ⟨w9.heap.size, 3, none⟩ = some (.slice sa1 sn1 sc1) by obtain ⟨z0, z1, z2, z3⟩ := HC2.out; exact ⟨cell_kept z0 b14, cell_kept z1 b14, cell_kept z2 b14, cell_kept z3 b14⟩)); replace HBW := Lib.hid (HBW.out.trans (b14.mono HBW.out.size)); clear b14) | (go_at_call 25; refine (eqRecord_any _ _ r r _ HOx1.out.toV HQ1.out.toV).mono ?_; rw [decide_eq_true rfl]; rintro e w15 ⟨rfl, b15⟩; have sz15 := b15.size; replace c1_0 := cell_kept c1_0 b15; replace c1_1 := cell_kept c1_1 b15; replace c1_2 := cell_kept c1_2 b15; replace c1_3 := cell_kept c1_3 b15; replace c2_0 := cell_kept c2_0 b15; replace c2_1 := cell_kept c2_1 b15; replace c2_2 := cell_kept c2_2 b15; replace c2_3 := cell_kept c2_3 b15; replace HOx0 := Lib.hid (HOx0.out.below b15); replace HOx1 := Lib.hid (HOx1.out.below b15); replace HOx2 := Lib.hid (HOx2.out.below b15); (replace HC1 := Lib.hid (show w15.cell? ⟨W.heap.size, 0, none⟩ = some (.int .i64 r.id) ∧ w15.cell? ⟨W.heap.size, 1, none⟩ = some (.int .i64 r.series) ∧ w15.cell? ⟨W.heap.size, 2, none⟩ = some (.int .i64 r.made) ∧ w15.cell? ⟨W.heap.size, 3, none⟩ = some (sl1) by obtain ⟨z0, z1, z2, z3⟩ := HC1.out; exact ⟨cell_kept z0 b15, cell_kept z1 b15, cell_kept z2 b15, cell_kept z3 b15⟩)); (replace HC2 := Lib.hid (show w15.cell? ⟨w9.heap.size, 0, none⟩ = some (.int .i64 r.id) ∧ w15.cell? ⟨w9.heap.size, 1, none⟩ = some (.int .i64 r.series) ∧ w15.cell? ⟨w9.heap.size, 2, none⟩ = some (.int .i64 r.made) ∧ w15.cell? ⟨w9.heap.size, 3, none⟩ = some (.slice sa1 sn1 sc1) by obtain ⟨z0, z1, z2, z3⟩ := HC2.out; exact ⟨cell_kept z0 b15, cell_kept z1 b15, cell_kept z2 b15, cell_kept z3 b15⟩)); replace HBW := Lib.hid (HBW.out.trans (b15.mono HBW.out.size)); clear b15))
        clear c1_0 c1_1 c1_2 c1_3 c2_0 c2_1 c2_2 c2_3
        clear HQ1
        obtain ⟨c1_0, c1_1, c1_2, c1_3⟩ := HC1.out
        obtain ⟨c2_0, c2_1, c2_2, c2_3⟩ := HC2.out
        go_wp2_with fail
        refine (toRuS_any _ t _ (HA2.out _ HBW.out) (by omega)).mono ?_
        rintro e w16 ⟨vq2, rfl, hq2_, b16⟩
        have HQ2 := Lib.hid hq2_
        clear hq2_
        have sz16 := b16.size
        replace HOx0 := Lib.hid (HOx0.out.below b16)
        replace HOx1 := Lib.hid (HOx1.out.below b16)
        replace HOx2 := Lib.hid (HOx2.out.below b16)
        replace HC1 := Lib.hid (show w16.cell? ⟨W.heap.size, 0, none⟩ = some (.int .i64 r.id) ∧ w16.cell? ⟨W.heap.size, 1, none⟩ = some (.int .i64 r.series) ∧ w16.cell? ⟨W.heap.size, 2, none⟩ = some (.int .i64 r.made) ∧ w16.cell? ⟨W.heap.size, 3, none⟩ = some (sl1) by obtain ⟨z0, z1, z2, z3⟩ := HC1.out; exact ⟨cell_kept z0 b16, cell_kept z1 b16, cell_kept z2 b16, cell_kept z3 b16⟩)
        replace HC2 := Lib.hid (show w16.cell? ⟨w9.heap.size, 0, none⟩ = some (.int .i64 r.id) ∧ w16.cell? ⟨w9.heap.size, 1, none⟩ = some (.int .i64 r.series) ∧ w16.cell? ⟨w9.heap.size, 2, none⟩ = some (.int .i64 r.made) ∧ w16.cell? ⟨w9.heap.size, 3, none⟩ = some (.slice sa1 sn1 sc1) by obtain ⟨z0, z1, z2, z3⟩ := HC2.out; exact ⟨cell_kept z0 b16, cell_kept z1 b16, cell_kept z2 b16, cell_kept z3 b16⟩)
        replace HBW := Lib.hid (HBW.out.trans (b16.mono HBW.out.size))
        clear b16 c1_0 c1_1 c1_2 c1_3 c2_0 c2_1 c2_2 c2_3
        obtain ⟨c1_0, c1_1, c1_2, c1_3⟩ := HC1.out
        obtain ⟨c2_0, c2_1, c2_2, c2_3⟩ := HC2.out
        go_wp2_with fail
        refine (eqRuS_any _ _ t t _ HOx2.out.row HQ2.out.row).mono ?_
        rw [decide_eq_true rfl]
        rintro e w17 ⟨rfl, b17⟩
        have sz17 := b17.size
        replace HOx0 := Lib.hid (HOx0.out.below b17)
        replace HOx1 := Lib.hid (HOx1.out.below b17)
        replace HOx2 := Lib.hid (HOx2.out.below b17)
        replace HQ2 := Lib.hid (HQ2.out.below b17)
        replace HC1 := Lib.hid (show w17.cell? ⟨W.heap.size, 0, none⟩ = some (.int .i64 r.id) ∧ w17.cell? ⟨W.heap.size, 1, none⟩ = some (.int .i64 r.series) ∧ w17.cell? ⟨W.heap.size, 2, none⟩ = some (.int .i64 r.made) ∧ w17.cell? ⟨W.heap.size, 3, none⟩ = some (sl1) by obtain ⟨z0, z1, z2, z3⟩ := HC1.out; exact ⟨cell_kept z0 b17, cell_kept z1 b17, cell_kept z2 b17, cell_kept z3 b17⟩)
        replace HC2 := Lib.hid (show w17.cell? ⟨w9.heap.size, 0, none⟩ = some (.int .i64 r.id) ∧ w17.cell? ⟨w9.heap.size, 1, none⟩ = some (.int .i64 r.series) ∧ w17.cell? ⟨w9.heap.size, 2, none⟩ = some (.int .i64 r.made) ∧ w17.cell? ⟨w9.heap.size, 3, none⟩ = some (.slice sa1 sn1 sc1) by obtain ⟨z0, z1, z2, z3⟩ := HC2.out; exact ⟨cell_kept z0 b17, cell_kept z1 b17, cell_kept z2 b17, cell_kept z3 b17⟩)
        replace HBW := Lib.hid (HBW.out.trans (b17.mono HBW.out.size))
        clear b17 c1_0 c1_1 c1_2 c1_3 c2_0 c2_1 c2_2 c2_3
        clear HQ2
        go_wp2_with fail
        go_ret
        exact ⟨rfl, HBW.out⟩

set_option maxRecDepth 100000 in
theorem fnExactFirstDestruction_lifted (os : Os) (started : os.Started) (H : Type) (enc : TypeId × Value → H) :
    ReturnsInHanded {} Try.checked os 9 .any (Rows.fnExactFirstDestructionSpec.pre6 enc Try.prog Try.f9 Rows.fnExactFirstDestructionRow.domain false) (Rows.fnExactFirstDestructionSpec.post enc Try.prog Try.f9 false true false false) := by
  refine returnsInHanded_of_change (C := Try.checked) Try.own started (by kernel_rfl) Try.func9
    (ChangeSpec.witness6 (enc := enc) (C := Try.checked) false ⟨#[], #[.slice none 0 0, .agg #[.int .i64 0, .int .i64 0, .int .i64 0, .slice none 0 0], .slice none 0 0], []⟩ 8 (by kernel_rfl) (by kernel_rfl) (by kernel_rfl) (by kernel_rfl)) ?_
  intro W base args ds gs before hval0 hW hcnd _
  have hval : ∀ (j : Nat) t v, Try.f9.params[j]? = some t → args[j]? = some v → Value.okWide Try.prog W .any base t v := hval0
  have hW' := hW
  obtain ⟨p, q, hA0, hV, rfl, hfz, hnd⟩ := hW
  have hA : DataW.TrodAll enc Try.prog W 0 (fun _ => true) true Try.f9.params.toList args.toList ds p := hA0
  rw [Try.params9] at hA hval
  obtain ⟨v0, vs0, d0, ds0, p0, q0, hargs, rfl, rfl, h0, r0⟩ := trodAll_cons hA
  obtain ⟨v1, vs1, d1, ds1, p1, q1, rfl, rfl, rfl, h1, r1⟩ := trodAll_cons r0
  obtain ⟨v2, vs2, d2, ds2, p2, q2, rfl, rfl, rfl, h2, r2⟩ := trodAll_cons r1
  obtain ⟨rfl, rfl, rfl⟩ := trodAll_nil r2
  obtain rfl : args = #[v0, v1, v2] := by cases args; simp_all
  obtain ⟨rfl, rfl⟩ := trodVars_none hV
  obtain ⟨x0, w0⟩ := arg_hos (hval 0 22 v0 rfl rfl) h0
  have lt0 : ∀ x ∈ p0, x.block < W.heap.size := by obtain ⟨m, hm⟩ := h0; exact DataW.trod_lt m _ _ _ hm
  obtain ⟨x1, w1⟩ := arg_rec (hval 1 31 v1 rfl rfl) h1
  have lt1 : ∀ x ∈ p1, x.block < W.heap.size := by obtain ⟨m, hm⟩ := h1; exact DataW.trod_lt m _ _ _ hm
  obtain ⟨x2, w2⟩ := arg_rus (hval 2 59 v2 rfl rfl) h2
  have lt2 : ∀ x ∈ p2, x.block < W.heap.size := by obtain ⟨m, hm⟩ := h2; exact DataW.trod_lt m _ _ _ hm
  clear hA0 hval0
  refine (walkFirstDestruction v0 x0 v1 x1 v2 x2 W w0 w1 w2).mono fun e W' ⟨he, bel⟩ => ?_
  subst he
  exact ⟨_, rfl, _, _, _, [], _, [], hW', trodAll_mk1 (shut_bool Try.underlying4 _), (trodAll_cons_mk (Below.trod Try.laidOut (by kernel_rfl) (of_decide_eq_true (by kernel_rfl)) h0 bel lt0) (trodAll_cons_mk (Below.trod Try.laidOut (by kernel_rfl) (of_decide_eq_true (by kernel_rfl)) h1 bel lt1) (trodAll_cons_mk (Below.trod Try.laidOut (by kernel_rfl) (of_decide_eq_true (by kernel_rfl)) h2 bel lt2) trodAll_mk0))), rfl, bel.frame _, fun h => by cases h⟩

/-- THE STATEMENT. -/
theorem fnExactFirstDestruction_proved : Rows.FnExactFirstDestructionSaid :=
  OpenClaim.holds_of_wide 9 Try.f9 rfl rfl rfl rfl rfl rfl rfl ⟨rfl, rfl, rfl, rfl, rfl⟩ rfl rfl rfl rfl rfl (by kernel_rfl) Try.func9 (by kernel_rfl)
    (of_decide_eq_true (by kernel_rfl)) (by unfold Func.isWrapper; first | (rw [if_pos (by decide +kernel)]; kernel_rfl) | (rw [if_neg (by decide +kernel)]; exact ⟨rfl, rfl⟩))
    (fun os started H enc _ => fnExactFirstDestruction_lifted os started H enc)
end Go.Proofs.Ytkjpehpodlpdhaa
