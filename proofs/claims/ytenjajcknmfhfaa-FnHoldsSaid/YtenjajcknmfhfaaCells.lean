/- Cells and boxes that stay as they were. No program is named here. -/
import Derived.Test.YtenjajcknmfhfaaOwn
namespace Go.Proofs.Ytenjajcknmfhfaa
set_option linter.unusedVariables false
open Go.RowKit

theorem cell_kept {a b : World} {p : Addr} {v : Value} (h : a.cell? p = some v) (hb : Below a.heap.size a b) : b.cell? p = some v := (hb.cell (World.block_lt_of_cell? _ _ h)).trans h
theorem below_al_cell {a : World} {p : Addr} {v : Value} (h : a.cell? p = some v) (o : Obj) : (a.alloc o).cell? p = some v := cell_kept h (below_al (Below.refl _ _) o)
theorem cell_keptd {a b : World} {p : Addr} {v : Value} (h : a.cell? p = some v) (hb : Below a.drew.heap.size a.drew b) : b.cell? p = some v := cell_kept (a := a.drew) h hb
theorem heap_alloc_new' (w : World) (o : Obj) {k : Nat} (h : k = w.heap.size) : (w.alloc o).heap[k]? = some o := by subst h; exact heap_alloc_new w o
theorem blk_cell {w : World} {g : Nat} {cs : Array Value} {t : TypeId} (h : w.heap[g]? = some (.cells cs t (0, 0))) (i : Nat) : w.cell? ⟨g, i, none⟩ = cs[i]? := cell_of_row w g i cs t (0, 0) h
theorem blk_frozen {w : World} {g : Nat} {cs : Array Value} {t : TypeId} (h : w.heap[g]? = some (.cells cs t (0, 0))) (i : Nat) : w.frozen? ⟨g, i, none⟩ = false := frozen_of_row w g i cs t h

theorem box_kept {a b : World} {g : Nat} {o : Obj} (h : a.heap[g]? = some o) (hb : Below a.heap.size a b) : b.heap[g]? = some o := (hb.block g (Array.getElem?_eq_some_iff.1 h).1).trans h
theorem box_al {a : World} {g : Nat} {o : Obj} (h : a.heap[g]? = some o) (o' : Obj) : (a.alloc o').heap[g]? = some o := box_kept h (below_al (Below.refl _ _) o')
theorem box_cell {w : World} {g : Nat} {cs : Array Value} {t : TypeId} (h : w.heap[g]? = some (.cells cs t (0, 0))) (i : Nat) {v : Value} (hv : cs[i]? = some v) : w.cell? ⟨g, i, none⟩ = some v := (blk_cell h i).trans hv
theorem cell_new (w : World) (cs : Array Value) (t : TypeId) (i : Nat) {v : Value} (h : cs[i]? = some v) : (w.alloc (.cells cs t (0, 0))).cell? ⟨w.heap.size, i, none⟩ = some v := (blk_cell (heap_alloc_new _ _) i).trans h

theorem mono_up {f : Nat → Nat} {n : Nat} (h : ∀ i, i < n → f i ≤ f (i + 1)) : ∀ i j, i ≤ j → j ≤ n → f i ≤ f j := by
  intro i j
  induction j with
  | zero => intro h1 _; obtain rfl : i = 0 := by omega
            exact Nat.le_refl _
  | succ j ih =>
    intro h1 h2
    rcases Nat.lt_or_ge j i with h' | h'
    · obtain rfl : i = j + 1 := by omega
      exact Nat.le_refl _
    · exact Nat.le_trans (ih h' (by omega)) (h j (by omega))
/-- f, but y at the number n. -/
def upd (f : Nat → Nat) (n y : Nat) : Nat → Nat := fun i => if i = n then y else f i
theorem upd_at (f : Nat → Nat) (n y : Nat) : upd f n y n = y := by simp [upd]
theorem upd_ne (f : Nat → Nat) {n i : Nat} (y : Nat) (h : i ≠ n) : upd f n y i = f i := by simp [upd, h]
end Go.Proofs.Ytenjajcknmfhfaa
