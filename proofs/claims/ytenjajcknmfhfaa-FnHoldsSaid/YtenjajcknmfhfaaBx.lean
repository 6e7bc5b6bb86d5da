/- A box of some cells: its block, and how it stays. No program is named here. -/
import Derived.Test.YtenjajcknmfhfaaCells
namespace Go.Proofs.Ytenjajcknmfhfaa
set_option linter.unusedVariables false
open Go.RowKit

/-- A box: its cells. -/
def BxV (w : World) (F : Nat) (cs : List Value) : Prop := ∃ t, w.heap[F]? = some (.cells cs.toArray t (0, 0))
theorem BxV.new (w : World) (cs : List Value) (t : TypeId) : BxV (w.alloc (.cells cs.toArray t (0, 0))) w.heap.size cs := ⟨t, heap_alloc_new w _⟩
theorem BxV.new' {w : World} {F : Nat} (h : w.heap.size = F) (cs : List Value) (t : TypeId) : BxV (w.alloc (.cells cs.toArray t (0, 0))) F cs := by subst h; exact BxV.new w cs t
theorem BxV.lt {w : World} {F : Nat} {cs : List Value} (h : BxV w F cs) : F < w.heap.size := by obtain ⟨t, h⟩ := h; exact (Array.getElem?_eq_some_iff.1 h).1
theorem BxV.cell {w : World} {F : Nat} {cs : List Value} (h : BxV w F cs) (j : Nat) : w.cell? ⟨F, j, none⟩ = cs[j]? := by obtain ⟨t, h⟩ := h; rw [blk_cell h]; simp
theorem BxV.frozen {w : World} {F : Nat} {cs : List Value} (h : BxV w F cs) (j : Nat) : w.frozen? ⟨F, j, none⟩ = false := by obtain ⟨t, h⟩ := h; exact blk_frozen h j
theorem BxV.grown {w w' : World} {F : Nat} {cs : List Value} {row : Option Nat} (h : BxV w F cs) (hg : w.grownBy w' row) (hn : some F ≠ row) : BxV w' F cs := by
  have hl := h.lt
  obtain ⟨t, h⟩ := h
  exact ⟨t, (hg.block F hl hn).trans h⟩
theorem BxV.below {w w' : World} {F : Nat} {cs : List Value} (h : BxV w F cs) (hb : Below w.heap.size w w') : BxV w' F cs := h.grown (row := none) (grownBy_of_below hb none) (by simp)
theorem BxV.al {w : World} {F : Nat} {cs : List Value} (h : BxV w F cs) (o : Obj) : BxV (w.alloc o) F cs := h.below (below_al (Below.refl _ _) o)
theorem BxV.drew {w : World} {F : Nat} {cs : List Value} (h : BxV w F cs) : BxV w.drew F cs := h
theorem BxV.other {w : World} {F G j : Nat} {u : Value} {cs : List Value} (h : BxV w F cs) (hn : F ≠ G) : BxV (w.setCell ⟨G, j, none⟩ u) F cs := by
  obtain ⟨t, h⟩ := h
  exact ⟨t, (Below.heap_setCell w ⟨G, j, none⟩ u F hn).trans h⟩
theorem BxV.set {w : World} {F : Nat} {cs cs' : List Value} (j : Nat) (u : Value) (h : BxV w F cs) (e : cs.set j u = cs') : BxV (w.setCell ⟨F, j, none⟩ u) F cs' := by
  subst e
  obtain ⟨t, h⟩ := h
  refine ⟨t, ?_⟩
  unfold World.setCell
  simp only
  rw [Array.getElem?_modify]
  simp [h]
end Go.Proofs.Ytenjajcknmfhfaa
