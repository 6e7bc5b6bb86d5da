/- A test at each number below a bound. No program is named here. -/
import Derived.Test.YtenjajcknmfhfaaRowOf
namespace Go.Proofs.Ytenjajcknmfhfaa
set_option linter.unusedVariables false

/-- p at each number below n. -/
def upto (p : Nat → Bool) (n : Nat) : Bool := (List.range n).all p
theorem upto_iff {p : Nat → Bool} {n : Nat} : upto p n = true ↔ ∀ j, j < n → p j = true := by simp [upto]
theorem upto_true {p : Nat → Bool} {n : Nat} (h : ∀ j, j < n → p j = true) : upto p n = true := upto_iff.2 h
theorem upto_false {p : Nat → Bool} {n j : Nat} (hj : j < n) (h : p j = false) : upto p n = false := by
  rcases hb : upto p n with _ | _
  · rfl
  · have := upto_iff.1 hb j hj
    rw [h] at this
    cases this
theorem upto_le {p : Nat → Bool} {n m : Nat} (h : m ≤ n) (hn : upto p n = true) : upto p m = true := upto_true fun j hj => upto_iff.1 hn j (by omega)
theorem upto_succ {p : Nat → Bool} {n : Nat} (h : upto p n = true) (hn : p n = true) : upto p (n + 1) = true := upto_true fun j hj => by
  rcases Nat.lt_or_ge j n with h' | h'
  · exact upto_iff.1 h j h'
  · obtain rfl : j = n := by omega
    exact hn

end Go.Proofs.Ytenjajcknmfhfaa
