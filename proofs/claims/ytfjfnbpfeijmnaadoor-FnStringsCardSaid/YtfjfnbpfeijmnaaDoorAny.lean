/- The first chapter's any1: one of nine short texts. -/
import Derived.Test.YtfjfnbpfeijmnaaDoorPick
namespace Go.Proofs.YtfjfnbpfeijmnaaDoor
set_option linter.unusedVariables false
open Go.RowKit

def any1List : List ByteArray := [⟨#[]⟩, ⟨#[97]⟩, ⟨#[97, 44, 98]⟩, ⟨#[115, 111, 109, 101, 32, 119, 111, 114, 100, 115]⟩, ⟨#[120, 35, 121]⟩, ⟨#[45, 49, 50]⟩, ⟨#[0, 255]⟩, ⟨#[44, 44]⟩, ⟨#[48]⟩]
theorem any1_short {s : ByteArray} (h : s ∈ any1List) : s.size ≤ 10 := by
  have : ∀ x ∈ any1List, x.size ≤ 10 := by decide
  exact this s h

/-- The cells of a row of texts that has just been laid. -/
theorem new_cells (w : World) (ss : List ByteArray) (T : Nat) (C : Array Value) (hC : C = (ss.map Value.string).toArray) : ∀ i (hi : i < ss.length), (w.alloc (.cells C T)).cell? ⟨w.heap.size, 0 + i, none⟩ = some (.string ss[i]) := fun i hi => by
  subst hC
  rw [Nat.zero_add]
  simp [World.cell?_alloc_mark, hi]

set_option maxHeartbeats 1000000 in
theorem any1_any (B K : Nat) (w : World) (h : Cur w B K) (hK : K ≤ 549755813888) :
    Calls Tryd.prog 30 #[.pointer (some ⟨B, 0, none⟩)] w (CurStr w B (K + 2) any1List) := by
  have HC := Lib.hid (h.later (Below.alloc (Below.refl (B + 1) w) h.lt (.cells (any1List.map Value.string).toArray 9)))
  have hlt := h.lt
  clear h
  go_enter Tryd.func30, Tryd.ntmps30
  go_wp2_with fail
  refine (of_any B K w.heap.size 0 9 9 any1List _ HC.out hK rfl (by omega) (by omega) (by omega) (new_cells w any1List 9 _ rfl)).mono ?_
  rintro e w1 ⟨s, rfl, hm, hc1, hg1⟩
  have HC1 := Lib.hid hc1
  have HG1 := Lib.hid hg1
  clear hc1 hg1
  go_wp2
  go_ret
  exact ⟨s, rfl, hm, HC1.out, grownBy_trans (World.grownBy_alloc w _ _) HG1.out⟩

theorem below_of_cur {w w' : World} {B : Nat} (h : w.grownBy w' (some B)) (hB : B ≤ w.heap.size) : Below B w w' := below_of_grownBy h hB (fun k e => by cases e; exact Nat.le_refl _)

end Go.Proofs.YtfjfnbpfeijmnaaDoor
