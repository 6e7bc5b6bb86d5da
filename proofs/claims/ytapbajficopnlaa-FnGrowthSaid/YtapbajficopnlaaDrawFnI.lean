/- The draw of one function. -/
import Derived.Test.YtapbajficopnlaaDrawFn
namespace Go.Proofs.Ytapbajficopnlaa
set_option linter.unusedVariables false
open Go.RowKit

theorem isRow_after {k : IntKind} {w w' : World} {a : Option Addr} {len cap : Nat} {zs : List Int} (h : IsRow k w a len cap zs) (hb : Below w.heap.size w w') : IsRow k w' a len cap zs := by
  refine h.imp id ?_
  rintro ⟨x, rfl, hl, hm, hz, hc, hw⟩
  refine ⟨x, rfl, hl, hm, hz, fun i hi => ?_, hw⟩
  have := hc i hi
  exact (hb.cell (World.block_lt_of_cell? w _ this)).trans this
def FnDrawn (w : World) (e : Ending) (w' : World) : Prop := ∃ x : Fn, e = .returned (.agg #[.int .i64 x.id, .int .i64 x.parent, .string x.name]) ∧ x.ok ∧ Below w.heap.size w w'
set_option maxRecDepth 20000 in
set_option maxHeartbeats 2000000 in
theorem drawIsFn_any (a : Option Addr) (len cap : Nat) (zs : List Int) (w : World) (h : IsRow .u8 w a len cap zs) (hl : len ≤ 1099511627776) :
    Calls Try.prog 38 #[.slice a len cap] w (FnDrawn w) := by
  obtain ⟨W0, hW0⟩ : ∃ x, x = w.alloc (.cells #[.int .i64 0, .int .i64 0, .string ⟨#[]⟩] 36 (0, 0)) := ⟨_, rfl⟩
  have hs0 : W0.heap.size = w.heap.size + 1 := by rw [hW0]; simp
  have b0 : Below w.heap.size w W0 := by rw [hW0]; exact below_al (Below.refl _ _) _
  have HC := Lib.hid (cur_new (isRow_after h b0) hl 83)
  have z0 : W0.cell? ⟨w.heap.size, 0, none⟩ = some (.int .i64 0) := by rw [hW0]; simp [World.cell?_alloc_mark]
  have z1 : W0.cell? ⟨w.heap.size, 1, none⟩ = some (.int .i64 0) := by rw [hW0]; simp [World.cell?_alloc_mark]
  have z2 : W0.cell? ⟨w.heap.size, 2, none⟩ = some (.string ⟨#[]⟩) := by rw [hW0]; simp [World.cell?_alloc_mark]
  have z3 : ∀ j, W0.frozen? ⟨w.heap.size, j, none⟩ = false := by intro j; rw [hW0]; simp [World.frozen?_alloc_mark]
  have Z : Hid (∀ W, Below W0.heap.size W0 W → W.cell? ⟨w.heap.size, 0, none⟩ = some (.int .i64 0) ∧ W.cell? ⟨w.heap.size, 1, none⟩ = some (.int .i64 0) ∧ W.cell? ⟨w.heap.size, 2, none⟩ = some (.string ⟨#[]⟩) ∧ ∀ j, W.frozen? ⟨w.heap.size, j, none⟩ = false) := Lib.hid (fun W hW =>
    ⟨cell_kept z0 hW, cell_kept z1 hW, cell_kept z2 hW, fun j => (hW.frozen (p := ⟨w.heap.size, j, none⟩) (by show w.heap.size < W0.heap.size; omega)).trans (z3 j)⟩)
  have HW0 := Lib.hid hW0
  have HS0 := Lib.hid hs0
  have HB0 := Lib.hid b0
  clear h z0 z1 z2 z3 hs0 b0 hW0
  go_enter Try.func38, Try.ntmps38
  go_upto_region 1 with fail
  try rw [← HW0.out]
  go_wp2_with fail
  refine (tree3_any W0.heap.size 0 _ HC.out (by omega)).mono ?_
  rintro e w1 ⟨v, t, rfl, hn, _, hd⟩
  have HD := Lib.hid hd
  clear hd HC
  have HB1 : Hid (Below W0.heap.size W0 w1) := Lib.hid (((Below.refl W0.heap.size W0).alloc (Nat.le_refl _) _).trans (below_of_cur HD.out.gr (by simp)))
  by_cases h0 : t.length = 0
  · have hz : ((t.length : Int) == 0) = true := by simp [h0]
    have hz2 : decide ((t.length : Int) = 0) = true := decide_eq_true (by omega)
    obtain ⟨a1, c1, hv, _⟩ := HD.out.out.row.fns
    subst hv
    clear h0
    go_wp2_with fail
    refine (word_any W0.heap.size 1000 _ HD.out.cur (by omega)).mono ?_
    rintro e w2 ⟨s, rfl, hm, hc2, hg2⟩
    have HB2 := Lib.hid (HB1.out.trans (below_of_cur hg2 (by have := HD.out.cur.lt; omega)))
    obtain ⟨z0, z1, z2, z3⟩ := Z.out w2 HB2.out
    have f0 := z3 0
    have f1 := z3 1
    have f2 := z3 2
    have hss := word_short hm
    clear z3 hc2 hg2 hm
    go_wp2_with fail
    refine bodyPost_ret (v := .agg #[.int .i64 1, .int .i64 0, .string s]) (by simp [results, Try.results38, go_sem, z0, z1, z2]) rfl ⟨⟨1, 0, s⟩, rfl, ⟨by simp [inI], by simp [inI], Nat.le_trans hss (by decide)⟩, ?_⟩
    exact (((HB0.out.trans (HB2.out.mono HB0.out.size)).setCell (p := ⟨w.heap.size, 0, none⟩) (Nat.le_refl _) _).setCell (p := ⟨w.heap.size, 1, none⟩) (Nat.le_refl _) _).setCell (p := ⟨w.heap.size, 2, none⟩) (Nat.le_refl _) _
  · have hz : ((t.length : Int) == 0) = false := beq_eq_false_iff_ne.2 (by omega)
    have hz2 : decide ((t.length : Int) = 0) = false := decide_eq_false (by omega)
    obtain ⟨a1, c1, hv, _, _, r1⟩ := HD.out.out.row.fns
    subst hv
    obtain ⟨bx, ox, hbx, rfl, e1⟩ := r1.resolve_left (fun e => h0 (by rw [e]; rfl))
    obtain ⟨q, hq⟩ : ∃ q, t.length = q + 1 := ⟨t.length - 1, by omega⟩
    obtain ⟨q0, q1, q2, hok⟩ := e1 q (by omega)
    obtain ⟨z0, z1, z2, z3⟩ := Z.out w1 HB1.out
    have f0 := z3 0
    have f1 := z3 1
    have f2 := z3 2
    obtain ⟨⟨x0, x1, x2⟩, hx⟩ : ∃ x, t.getD q fnD = x := ⟨_, rfl⟩
    rw [hx] at q0 q1 q2 hok
    simp only at q0 q1 q2
    have HX := Lib.hid hok
    have hw1 : IntKind.i64.wrap ((t.length : Int) - 1) = (q : Int) := by rw [Go.IntWalk.i64_in _ (by omega)]; omega
    have g0 : (0 : Int) ≤ (q : Int) := by omega
    have g1 : (q : Int) < (t.length : Int) := by omega
    clear hx e1 r1 hok z3 h0
    go_wp2_with fail
    refine bodyPost_ret (v := .agg #[.int .i64 x0, .int .i64 x1, .string x2]) (by simp [results, Try.results38, go_sem, z0, z1, z2]) rfl ⟨⟨x0, x1, x2⟩, rfl, HX.out, ?_⟩
    exact (((HB0.out.trans (HB1.out.mono HB0.out.size)).setCell (p := ⟨w.heap.size, 0, none⟩) (Nat.le_refl _) _).setCell (p := ⟨w.heap.size, 1, none⟩) (Nat.le_refl _) _).setCell (p := ⟨w.heap.size, 2, none⟩) (Nat.le_refl _) _
end Go.Proofs.Ytapbajficopnlaa
