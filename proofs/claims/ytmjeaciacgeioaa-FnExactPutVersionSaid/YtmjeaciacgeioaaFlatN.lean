/- Lists of rules inside a struct: what they take, told as a number. -/
import Derived.Test.YtmjeaciacgeioaaToRu
namespace Go.Proofs.Ytmjeaciacgeioaa
set_option linter.unusedVariables false
open Go.RowKit

theorem RusO.slice {lo hi : Nat} {w : World} {v : Value} {xs : List Ru} (h : RusO lo hi w v xs) : ∃ a n c, v = .slice a n c := h.1.slice
theorem szRuS_flat (v : Value) (xs : List Ru) (left : Int) (w : World) (h1 : RowR 4 rRu w v xs) (h0 : 0 ≤ left) (h2 : left ≤ 1099511627776) :
    Calls Try.prog 87 #[v, .int .i64 left] w fun e w' => e = .returned (.int .i64 (if left < xs.length then -1 else left - xs.length)) ∧ Below w.heap.size w w' := by
  have hcap := h1.cap
  obtain ⟨a1, c1, rfl, hl1, hm1, r1⟩ := h1
  by_cases hb : left < xs.length
  · rw [if_pos hb]
    go_enter Try.func87, Try.ntmps87
    go_wp2
    go_ret
    exact ⟨rfl, Below.refl _ _⟩
  · rw [if_neg hb]
    go_enter Try.func87, Try.ntmps87
    go_wp2
    go_ret
    exact ⟨rfl, Below.refl _ _⟩
end Go.Proofs.Ytmjeaciacgeioaa
