/- Slices of integers inside a struct: how they are read, copied, and what they take. -/
import Derived.Test.YtenjajcknmfhfaaOpen
import Derived.Test.YtenjajcknmfhfaaInts
import Derived.Test.YtenjajcknmfhfaaCells
namespace Go.Proofs.Ytenjajcknmfhfaa
set_option linter.unusedVariables false
open Go.RowKit Go.ChangeShapes Go.WideShapes Go.Deep

theorem RowR.ints {w : World} {v : Value} {xs : List Int} (h : RowR 1 rInt w v xs) : RowOf vI w v xs := by
  obtain ⟨a, cap, rfl, h1, h2, h3⟩ := h
  refine ⟨a, cap, rfl, h1, h2, h3.imp id ?_⟩
  rintro ⟨b, off, hlt, rfl, hc⟩
  refine ⟨b, off, hlt, rfl, fun i hi => ?_⟩
  obtain ⟨cs, hl, hcs, rfl, _⟩ := hc i hi
  have := hcs 0 (by simp)
  simpa [vI] using this
def rIntsR : Rd (List Int) := fun w cs xs => ∃ v, cs = [v] ∧ RowOf vI w v xs
theorem opens_ints {P : Program} {t e : TypeId} (ht : P.underlying t = some (.slice e)) (he : P.underlying e = some (.int .i64)) (hc : P.cellsOf e = 1) : Opens P t rIntsR := fun enc w base spare held fuel cs x h => by
  obtain ⟨xs, v, e, hr⟩ := opens_row ht hc (by decide) (opens_int he) enc w base spare held fuel cs x h
  exact ⟨xs, v, e, hr.ints⟩

section
variable {lo hi lo' hi' : Nat} {w w' : World} {v : Value} {xs : List Int}
theorem IntsO.far (h : IntsO lo hi w v xs) {a : Addr} (ha : a.block < lo) (u : Value) : IntsO lo hi (w.setCell a u) v xs := ⟨ownsRow_setCell_below h.1 ha u, h.2⟩
theorem IntsO.alloc (h : IntsO lo hi w v xs) (o : Obj) : IntsO lo hi (w.alloc o) v xs := ⟨h.1.alloc o, h.2⟩
theorem IntsO.slice (h : IntsO lo hi w v xs) : ∃ a n c, v = .slice a n c := by
  obtain ⟨a, c, e, _⟩ := h.row
  exact ⟨a, _, c, e⟩
end

theorem ints_nilN (lo hi : Nat) (w : World) : IntsO lo hi w (.slice none 0 0) [] := ⟨World.ownsRow_nil _ _ _ _, Under.nil _ _ _⟩
theorem ints_rowN {lo n : Nat} {w : World} {v : Value} {xs : List Int} (h : w.ownsRow lo 3 1 v n (xs.map vI)) (hn : n = xs.length) : IntsO lo w.heap.size w v xs := ⟨by rw [← hn]; exact h, fun g hg => (h.lt g hg).2⟩
theorem ints_newN (w : World) : IntsO w.heap.size (w.alloc (.cells #[] 3 (0, 0))).heap.size (w.alloc (.cells #[] 3 (0, 0))) (.slice (some ⟨w.heap.size, 0, none⟩) 0 0) [] := ints_rowN (World.ownsRow_made w #[] 0 (Nat.le_refl _) (Nat.zero_le _) rfl) rfl
theorem cell_oneN (w : World) (v : Value) (t : TypeId) {k : Nat} (hk : k = w.heap.size) : ∀ j u, [v][j]? = some u → (w.alloc (.cells #[v] t (0, 0))).cell? ((⟨k, 0, none⟩ : Addr).add j) = some u := by subst hk; exact cell_one_new w v t


theorem Try.info_intN : (Try.prog.info? 3).map (fun i => (i.zero, i.size, i.bytes)) = some (some (.int .i64 0), 1, 8) := by kernel_rfl
theorem madeZ (n : Nat) : (madeCells #[Value.int .i64 0] (n * 1)).toList = List.replicate n (Value.int .i64 0) := by
  rw [Nat.mul_one]
  apply List.ext_getElem
  · simp [size_madeCells]
  · intro i h1 h2
    simp [madeCells, Nat.mod_one]
/-- The first k numbers done, the others nought. -/
def partZ (xs : List Int) (k : Nat) : List Value := (xs.take k).map vI ++ List.replicate (xs.length - k) (.int .i64 0)
theorem partZ_set (xs : List Int) (k : Nat) (h : k < xs.length) : (partZ xs k).set k (vI xs[k]) = partZ xs (k + 1) := by
  unfold partZ
  have hl : ((xs.take k).map vI).length = k := by rw [List.length_map, List.length_take]; omega
  obtain ⟨n, hn⟩ : ∃ n, xs.length - k = n + 1 := ⟨xs.length - k - 1, by omega⟩
  rw [hn, show xs.length - (k + 1) = n by omega, List.set_append_right _ _ (by omega), hl, Nat.sub_self, List.replicate_succ, List.set_cons_zero]
  rw [List.take_succ_eq_append_getElem h, List.map_append, List.append_assoc]
  rfl
theorem partZ_at (xs : List Int) (k : Nat) (h : k < xs.length) : (partZ xs k)[k]? = some (.int .i64 0) := by
  unfold partZ
  have hl : ((xs.take k).map vI).length = k := by rw [List.length_map, List.length_take]; omega
  rw [List.getElem?_append_right (by omega), hl, Nat.sub_self, List.getElem?_replicate, if_pos (by omega)]

end Go.Proofs.Ytenjajcknmfhfaa
