/- Plain facts on a text that is split at a byte. No program is named here. -/
import Derived.Test.YtpcdjpkcalbpkaaDoorJoinPlain
import Derived.Test.YtpcdjpkcalbpkaaDoorStr
namespace Go.Proofs.YtpcdjpkcalbpkaaDoor
set_option linter.unusedVariables false
open Go.RowKit

/-- Behind k bytes: the pieces that are over, and where the next one begins. -/
def spSt (s : ByteArray) (c : UInt8) : Nat → List ByteArray × Nat
  | 0 => ([], 0)
  | k + 1 => if s.data.toList[k]? = some c then ((spSt s c k).1 ++ [s.extract (spSt s c k).2 k], k + 1) else spSt s c k
/-- All pieces. -/
def spAll (s : ByteArray) (c : UInt8) : List ByteArray := (spSt s c s.size).1 ++ [s.extract (spSt s c s.size).2 s.size]

theorem get_data (s : ByteArray) (k : Nat) (h : k < s.size) : s.data.toList[k]? = some s[k] := by
  rw [List.getElem?_eq_getElem (by simpa using h)]; rfl
theorem spSt_hit (s : ByteArray) (c : UInt8) (k : Nat) (h : k < s.size) (he : s[k] = c) : spSt s c (k + 1) = ((spSt s c k).1 ++ [s.extract (spSt s c k).2 k], k + 1) := by
  rw [spSt, if_pos (by rw [get_data s k h, he])]
theorem spSt_miss (s : ByteArray) (c : UInt8) (k : Nat) (h : k < s.size) (he : ¬ s[k] = c) : spSt s c (k + 1) = spSt s c k := by
  rw [spSt, if_neg (by rw [get_data s k h]; simpa using he)]
theorem spSt_le (s : ByteArray) (c : UInt8) : ∀ k, (spSt s c k).2 ≤ k ∧ (spSt s c k).1.length ≤ k
  | 0 => ⟨Nat.le_refl _, Nat.le_refl _⟩
  | k + 1 => by
    have ih := spSt_le s c k
    rw [spSt]
    split
    · simp; omega
    · omega
theorem spAll_len (s : ByteArray) (c : UInt8) : (spAll s c).length ≤ s.size + 1 := by
  have := (spSt_le s c s.size).2
  simp [spAll]; omega
theorem spAll_ne (s : ByteArray) (c : UInt8) : spAll s c ≠ [] := by simp [spAll]
end Go.Proofs.YtpcdjpkcalbpkaaDoor
