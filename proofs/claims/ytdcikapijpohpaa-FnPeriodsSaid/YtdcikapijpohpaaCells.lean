/- Cells and boxes that stay as they were. No program is named here. -/
import Derived.Test.YtdcikapijpohpaaOwn
namespace Go.Proofs.Ytdcikapijpohpaa
set_option linter.unusedVariables false
open Go.RowKit

theorem cell_kept {a b : World} {p : Addr} {v : Value} (h : a.cell? p = some v) (hb : Below a.heap.size a b) : b.cell? p = some v := (hb.cell (World.block_lt_of_cell? _ _ h)).trans h
theorem below_al_cell {a : World} {p : Addr} {v : Value} (h : a.cell? p = some v) (o : Obj) : (a.alloc o).cell? p = some v := cell_kept h (below_al (Below.refl _ _) o)
theorem cell_keptd {a b : World} {p : Addr} {v : Value} (h : a.cell? p = some v) (hb : Below a.drew.heap.size a.drew b) : b.cell? p = some v := cell_kept (a := a.drew) h hb
theorem heap_alloc_new' (w : World) (o : Obj) {k : Nat} (h : k = w.heap.size) : (w.alloc o).heap[k]? = some o := by subst h; exact heap_alloc_new w o
theorem blk_cell {w : World} {g : Nat} {cs : Array Value} {t : TypeId} (h : w.heap[g]? = some (.cells cs t (0, 0))) (i : Nat) : w.cell? ⟨g, i, none⟩ = cs[i]? := cell_of_row w g i cs t (0, 0) h
theorem blk_frozen {w : World} {g : Nat} {cs : Array Value} {t : TypeId} (h : w.heap[g]? = some (.cells cs t (0, 0))) (i : Nat) : w.frozen? ⟨g, i, none⟩ = false := frozen_of_row w g i cs t h

theorem box_kept {a b : World} {g : Nat} {o : Obj} (h : a.heap[g]? = some o) (hb : Below a.heap.size a b) : b.heap[g]? = some o := (hb.block g (Array.getElem?_eq_some_iff.1 h).1).trans h
theorem box_al {a : World} {g : Nat} {o : Obj} (h : a.heap[g]? = some o) (o' : Obj) : (a.alloc o').heap[g]? = some o := box_kept h (below_al (Below.refl _ _) o')
theorem box_cell {w : World} {g : Nat} {cs : Array Value} {t : TypeId} (h : w.heap[g]? = some (.cells cs t (0, 0))) (i : Nat) {v : Value} (hv : cs[i]? = some v) : w.cell? ⟨g, i, none⟩ = some v := (blk_cell h i).trans hv
theorem cell_new (w : World) (cs : Array Value) (t : TypeId) (i : Nat) {v : Value} (h : cs[i]? = some v) : (w.alloc (.cells cs t (0, 0))).cell? ⟨w.heap.size, i, none⟩ = some v := (blk_cell (heap_alloc_new _ _) i).trans h

end Go.Proofs.Ytdcikapijpohpaa
