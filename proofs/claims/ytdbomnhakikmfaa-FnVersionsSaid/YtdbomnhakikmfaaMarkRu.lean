/- The laws' own marks of Rule: what is written, and that it is found again. -/
import Derived.Test.YtdbomnhakikmfaaToRu
import Derived.WalkSmall
namespace Go.Proofs.Ytdbomnhakikmfaa
set_option linter.unusedVariables false
open Go.RowKit

/-- The i-th one's marks from number k on. -/
def mRu (k i : Nat) : Ru := ⟨((k + i * 4 : Nat) : Int), ((k + i * 4 + 1 : Nat) : Int), ((k + i * 4 + 2 : Nat) : Int), ((k + i * 4 + 3 : Nat) : Int)⟩
def mRus (k n : Nat) : List Ru := (List.range n).map (mRu k)
theorem mRus_len (k n : Nat) : (mRus k n).length = n := by simp [mRus]
theorem mRu_ok (k i : Nat) (h : k + i * 4 + 4 ≤ 1099511627777) : (mRu k i).ok := ⟨by simp only [mRu, inI]; omega, by simp only [mRu, inI]; omega, by simp only [mRu, inI]; omega, by simp only [mRu, inI]; omega⟩
theorem mRu_mkd_ok {k0 : Nat} {xs : List Ru} (h : ∀ e ∈ xs, e.ok) (k : Nat) (hk : k ≤ xs.length) (hb : k0 + xs.length * 4 ≤ 1099511627776) : ∀ e ∈ mkd (mRu k0) xs k, e.ok := by
  intro e he
  unfold mkd at he
  rcases List.mem_append.1 he with h1 | h1
  · obtain ⟨i, hi, rfl⟩ := List.mem_map.1 h1
    exact mRu_ok _ _ (by have := List.mem_range.1 hi; omega)
  · exact h e (List.mem_of_mem_drop h1)


theorem mRus_get (k0 n i : Nat) (h : i < n) : (mRus k0 n)[i]'(by rw [mRus_len]; exact h) = mRu k0 i := by simp [mRus]

end Go.Proofs.Ytdbomnhakikmfaa
