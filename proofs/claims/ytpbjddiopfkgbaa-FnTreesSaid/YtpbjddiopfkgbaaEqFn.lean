/- The laws' own sizes and comparisons of Function. -/
import Derived.Test.YtpbjddiopfkgbaaToFn
import Derived.Test.YtpbjddiopfkgbaaBytesNe
import Derived.Deep.RegionHeld3
import Derived.WalkSmall
namespace Go.Proofs.Ytpbjddiopfkgbaa
set_option linter.unusedVariables false
open Go.RowKit

/-- How much a value's texts hold. -/
def sz1Fn (x : Fn) : Nat := x.name.size
def szFn (xs : List Fn) : Nat := (xs.map sz1Fn).sum
theorem szFn_take_succ (xs : List Fn) (k : Nat) (h : k < xs.length) : szFn (xs.take (k + 1)) = szFn (xs.take k) + sz1Fn (xs.getD k fnD) := by
  unfold szFn
  rw [List.take_add_one, List.getElem?_eq_getElem h, getF_lt h, List.map_append, List.sum_append]
  simp only [Option.toList_some, List.map_cons, List.map_nil, List.sum_cons, List.sum_nil, Nat.add_zero]
theorem szFn_take_le (xs : List Fn) (k : Nat) : szFn (xs.take k) ≤ szFn xs := by
  have h : szFn xs = szFn (xs.take k) + szFn (xs.drop k) := by
    unfold szFn
    rw [← List.sum_append, ← List.map_append, List.take_append_drop]
  omega
theorem szFn_at (xs : List Fn) (i : Nat) (h : i < xs.length) : sz1Fn (xs.getD i fnD) ≤ szFn xs := by
  have h1 := szFn_take_succ xs i h
  have h2 := szFn_take_le xs (i + 1)
  omega




end Go.Proofs.Ytpbjddiopfkgbaa
