/- What the cursor gives of words. -/
import Derived.Test.YtalaegkfkjpmoaaDrwZ
namespace Go.Proofs.Ytalaegkfkjpmoaa
set_option linter.unusedVariables false
open Go.RowKit

def wordList : List ByteArray := [⟨#[116, 97, 120]⟩, ⟨#[108, 101, 116, 116, 101, 114]⟩, ⟨#[99, 111, 117, 114, 116]⟩, ⟨#[97, 110, 110, 97]⟩, ⟨#[98, 111]⟩, ⟨#[110, 111, 114, 116, 104]⟩, ⟨#[112, 108, 97, 110]⟩, ⟨#[97]⟩, ⟨#[97, 98, 99, 100, 101, 102, 103, 104, 105, 106]⟩]
theorem word_short {s : ByteArray} (h : s ∈ wordList) : s.size ≤ 11 := by
  have : ∀ x ∈ wordList, x.size ≤ 11 := by decide
  exact this s h
set_option maxHeartbeats 1000000 in
theorem word_any (B K : Nat) (w : World) (h : Cur w B K) (hK : K ≤ 549755813888) :
    Calls Try.prog 141 #[.pointer (some ⟨B, 0, none⟩)] w (CurStr w B (K + 2) wordList) := by
  have HC := Lib.hid (h.later (Below.alloc (Below.refl (B + 1) w) h.lt (.cells (wordList.map Value.string).toArray 9)))
  have hlt := h.lt
  clear h
  go_enter Try.func141, Try.ntmps141
  go_wp2_with fail
  refine (of_any B K w.heap.size 0 9 9 wordList _ HC.out hK rfl (by omega) (by omega) (by omega) (new_cells w wordList 9 _ rfl)).mono ?_
  rintro e w1 ⟨s, rfl, hm, hc1, hg1⟩
  have HC1 := Lib.hid hc1
  have HG1 := Lib.hid hg1
  clear hc1 hg1
  go_wp2
  go_ret
  exact ⟨s, rfl, hm, HC1.out, grownBy_trans (World.grownBy_alloc w _ _) HG1.out⟩

end Go.Proofs.Ytalaegkfkjpmoaa
