/- A record's box and an event's box, carried from world to world; what a drawn statement 'r, ok := f(..)' leaves. -/
import Derived.Test.YtkjpehpodlpdhaaToRec
import Derived.Deep.DeepCutAuto
import Derived.Deep.RegionHeld3
namespace Go.Proofs.Ytkjpehpodlpdhaa
set_option linter.unusedVariables false
open Go.RowKit

/-- A record's box: its four cells. -/
def Box4 (w : World) (g : Nat) (r : Rec) (s : Value) : Prop := w.cell? ⟨g, 0, none⟩ = some (.int .i64 r.id) ∧ w.cell? ⟨g, 1, none⟩ = some (.int .i64 r.series) ∧ w.cell? ⟨g, 2, none⟩ = some (.int .i64 r.made) ∧ w.cell? ⟨g, 3, none⟩ = some s
theorem Box4.kept {a b : World} {g : Nat} {r : Rec} {s : Value} (h : Box4 a g r s) (hb : Below a.heap.size a b) : Box4 b g r s := ⟨cell_kept h.1 hb, cell_kept h.2.1 hb, cell_kept h.2.2.1 hb, cell_kept h.2.2.2 hb⟩
theorem Box4.only {a b : World} {g lo hi : Nat} {r : Rec} {s : Value} (h : Box4 a g r s) (ho : Only lo hi a b) (hg : g < lo ∨ hi ≤ g) : Box4 b g r s := by
  have hlt := World.block_lt_of_cell? _ _ h.1
  have hb := ho.block g hlt hg
  have key : ∀ j, b.cell? ⟨g, j, none⟩ = a.cell? ⟨g, j, none⟩ := fun j => World.cell?_of_block (w := a) hb
  exact ⟨(key 0).trans h.1, (key 1).trans h.2.1, (key 2).trans h.2.2.1, (key 3).trans h.2.2.2⟩
theorem Box4.new (w : World) (r : Rec) (s : Value) (t : TypeId) : Box4 (w.alloc (.cells #[.int .i64 r.id, .int .i64 r.series, .int .i64 r.made, s] t (0, 0))) w.heap.size r s := ⟨cell_new w _ _ 0 rfl, cell_new w _ _ 1 rfl, cell_new w _ _ 2 rfl, cell_new w _ _ 3 rfl⟩
theorem Box4.lt {a : World} {g : Nat} {r : Rec} {s : Value} (h : Box4 a g r s) : g < a.heap.size := World.block_lt_of_cell? _ _ h.1
/-- An event's box: its two cells. -/
def Ev2 (w : World) (g : Nat) (ek ed : Int) : Prop := w.cell? ⟨g, 0, none⟩ = some (.int .i64 ek) ∧ w.cell? ⟨g, 1, none⟩ = some (.int .i64 ed)
theorem Ev2.kept {a b : World} {g : Nat} {ek ed : Int} (h : Ev2 a g ek ed) (hb : Below a.heap.size a b) : Ev2 b g ek ed := ⟨cell_kept h.1 hb, cell_kept h.2 hb⟩
theorem Ev2.only {a b : World} {g lo hi : Nat} {ek ed : Int} (h : Ev2 a g ek ed) (ho : Only lo hi a b) (hg : g < lo ∨ hi ≤ g) : Ev2 b g ek ed := by
  have hb := ho.block g (World.block_lt_of_cell? _ _ h.1) hg
  have key : ∀ j, b.cell? ⟨g, j, none⟩ = a.cell? ⟨g, j, none⟩ := fun j => World.cell?_of_block (w := a) hb
  exact ⟨(key 0).trans h.1, (key 1).trans h.2⟩
theorem RecO.only2 {lo hi lo' hi' : Nat} {w w' : World} {v : Value} {r : Rec} (h : RecO lo hi w v r) (hb : Only lo' hi' w w') (hh : hi ≤ lo') : RecO lo hi w' v r := by
  obtain ⟨s, e, h, k⟩ := h
  exact ⟨s, e, ⟨h.1.only2 hb (h.2.2.up hh), h.2⟩, k⟩
theorem only_set (w : World) (g j : Nat) (u : Value) : Only g (g + 1) w (w.setCell ⟨g, j, none⟩ u) :=
  ⟨rfl, rfl, rfl, by simp, fun k _ hh => Below.heap_setCell w ⟨g, j, none⟩ u k (by simp; omega)⟩
theorem only_put (w : World) (G : Nat) (x y z u : Value) : Only G (G + 1) w ((((w.setCell ⟨G, 0, none⟩ x).setCell ⟨G, 1, none⟩ y).setCell ⟨G, 2, none⟩ z).setCell ⟨G, 3, none⟩ u) :=
  (((only_set _ _ _ _).trans (only_set _ _ _ _)).trans (only_set _ _ _ _)).trans (only_set _ _ _ _)
theorem set_other {w : World} {a b : Addr} (v : Value) (h : a ≠ b) : (w.setCell a v).cell? b = w.cell? b := by
  apply World.cell?_setCell_other
  exact h
theorem set_same {w : World} {a : Addr} {u : Value} (v : Value) (h : w.cell? a = some u) : (w.setCell a v).cell? a = some v := by
  apply World.cell?_setCell_same
  exact h
theorem box4_put {W : World} {G : Nat} {r : Rec} {s a b c d : Value} {t : TypeId} (h : W.heap[G]? = some (.cells #[a, b, c, d] t (0, 0))) :
    Box4 ((((W.setCell ⟨G, 0, none⟩ (.int .i64 r.id)).setCell ⟨G, 1, none⟩ (.int .i64 r.series)).setCell ⟨G, 2, none⟩ (.int .i64 r.made)).setCell ⟨G, 3, none⟩ s) G r s := by
  have c0 := box_cell h 0 rfl
  have c1 := box_cell h 1 rfl
  have c2 := box_cell h 2 rfl
  have c3 := box_cell h 3 rfl
  have n01 : (⟨G, 0, none⟩ : Addr) ≠ ⟨G, 1, none⟩ := by simp
  have n02 : (⟨G, 0, none⟩ : Addr) ≠ ⟨G, 2, none⟩ := by simp
  have n03 : (⟨G, 0, none⟩ : Addr) ≠ ⟨G, 3, none⟩ := by simp
  have n12 : (⟨G, 1, none⟩ : Addr) ≠ ⟨G, 2, none⟩ := by simp
  have n13 : (⟨G, 1, none⟩ : Addr) ≠ ⟨G, 3, none⟩ := by simp
  have n23 : (⟨G, 2, none⟩ : Addr) ≠ ⟨G, 3, none⟩ := by simp
  refine ⟨?_, ?_, ?_, ?_⟩
  · rw [set_other _ n03.symm, set_other _ n02.symm, set_other _ n01.symm]
    exact set_same _ c0
  · rw [set_other _ n13.symm, set_other _ n12.symm]
    exact set_same (u := b) _ (by rw [set_other _ n01]; exact c1)
  · rw [set_other _ n23.symm]
    exact set_same (u := c) _ (by rw [set_other _ n12, set_other _ n02]; exact c2)
  · exact set_same (u := d) _ (by rw [set_other _ n23, set_other _ n13, set_other _ n03]; exact c3)

/-- What 'r, ok := f(..)' leaves: in w behind the law's arguments' boxes; r's box at G, its events in [lo, hi). -/
def Got (B : Nat) (w V : World) (x : Rec) (s : Value) (ek ed : Int) (y : Rec) (sl : Value) (G lo hi : Nat) : Prop :=
  Box4 V B x s ∧ Ev2 V (B + 1) ek ed ∧ RecO lo hi V (.agg #[.int .i64 y.id, .int .i64 y.series, .int .i64 y.made, sl]) y ∧ Box4 V G y sl ∧ Below w.heap.size w V ∧ w.heap.size ≤ G ∧ w.heap.size ≤ lo ∧ hi ≤ V.heap.size ∧ (G < lo ∨ hi ≤ G) ∧ lo ≤ V.heap.size
theorem got_a {B : Nat} {w W : World} {x y : Rec} {s sl a b c d : Value} {ek ed : Int} {G lo hi : Nat} {t : TypeId} (hQ : W.heap[G]? = some (.cells #[a, b, c, d] t (0, 0))) (hA : Box4 W B x s) (hE : Ev2 W (B + 1) ek ed)
    (hR : RecO lo hi W (.agg #[.int .i64 y.id, .int .i64 y.series, .int .i64 y.made, sl]) y) (hB : Below w.heap.size w W) (hG : w.heap.size ≤ G) (hl : G < lo) (hh : hi ≤ W.heap.size) (hw : B + 2 ≤ w.heap.size) (hq : lo ≤ W.heap.size) :
    Got B w ((((W.setCell ⟨G, 0, none⟩ (.int .i64 y.id)).setCell ⟨G, 1, none⟩ (.int .i64 y.series)).setCell ⟨G, 2, none⟩ (.int .i64 y.made)).setCell ⟨G, 3, none⟩ sl) x s ek ed y sl G lo hi := by
  have o := only_put W G (.int .i64 y.id) (.int .i64 y.series) (.int .i64 y.made) sl
  have hB' : Below w.heap.size W ((((W.setCell ⟨G, 0, none⟩ (.int .i64 y.id)).setCell ⟨G, 1, none⟩ (.int .i64 y.series)).setCell ⟨G, 2, none⟩ (.int .i64 y.made)).setCell ⟨G, 3, none⟩ sl) := ⟨o.os, o.tape, o.output, o.size, fun k hk => o.block k (Nat.lt_of_lt_of_le hk hB.size) (.inl (by omega))⟩
  exact ⟨hA.only o (.inl (by omega)), hE.only o (.inl (by omega)), hR.only o hl, box4_put hQ, hB.trans hB', hG, by omega, Nat.le_trans hh o.size, .inl hl, Nat.le_trans hq o.size⟩
theorem got_b {B : Nat} {w W : World} {x y : Rec} {s sl : Value} {ek ed : Int} {lo hi : Nat} {t : TypeId} (hA : Box4 W B x s) (hE : Ev2 W (B + 1) ek ed)
    (hR : RecO lo hi W (.agg #[.int .i64 y.id, .int .i64 y.series, .int .i64 y.made, sl]) y) (hB : Below w.heap.size w W) (hl : w.heap.size ≤ lo) (hh : hi ≤ W.heap.size) (hq : lo ≤ W.heap.size) :
    Got B w (W.alloc (.cells #[.int .i64 y.id, .int .i64 y.series, .int .i64 y.made, sl] t (0, 0))) x s ek ed y sl W.heap.size lo hi := by
  have b := below_al (Below.refl W.heap.size W) (.cells #[.int .i64 y.id, .int .i64 y.series, .int .i64 y.made, sl] t (0, 0))
  exact ⟨hA.kept b, hE.kept b, hR.below b, Box4.new W y sl t, below_al hB _, hB.size, hl, by simp; omega, .inr hh, by simp; omega⟩
theorem cell_drew {W : World} {a : Addr} {u : Value} (h : W.cell? a = some u) : W.drew.cell? a = some u := h
end Go.Proofs.Ytkjpehpodlpdhaa
