/- The laws' own copies of Rule: what they answer, and where it lies. -/
import Derived.Test.YtenjajcknmfhfaaTyRu
import Derived.Test.YtenjajcknmfhfaaCells
import Derived.Test.YtenjajcknmfhfaaProg
import Derived.WalkSmall
namespace Go.Proofs.Ytenjajcknmfhfaa
set_option linter.unusedVariables false
open Go.RowKit


theorem Try.info_ru : (Try.prog.info? 56).map (fun i => (i.zero, i.size, i.bytes)) = some (some (.agg #[.int .i64 0, .int .i64 0, .int .i64 0, .int .i64 0]), 4, 32) := by kernel_rfl

/-- A list in memory of the call's own. -/
def RusO (lo hi : Nat) (w : World) (v : Value) (xs : List Ru) : Prop := Own lo 56 4 w v (xs.map ruC) ∧ (∀ e ∈ xs, e.ok) ∧ Under hi v
section
variable {lo hi lo' hi' : Nat} {w w' : World} {v : Value} {xs : List Ru}
theorem RusO.row (h : RusO lo hi w v xs) : RowR 4 rRu w v xs :=
  h.1.row (by simp) fun i h1 h2 => ⟨by simp, h.2.1 _ (List.getElem_mem h2)⟩
theorem RusO.below (h : RusO lo hi w v xs) (hb : Below w.heap.size w w') : RusO lo hi w' v xs := ⟨h.1.below hb, h.2⟩
theorem RusO.only (h : RusO lo hi w v xs) (hb : Only lo' hi' w w') (hh : hi' ≤ lo) : RusO lo hi w' v xs := ⟨h.1.only hb hh, h.2⟩
theorem RusO.only2 (h : RusO lo hi w v xs) (hb : Only lo' hi' w w') (hh : hi ≤ lo') : RusO lo hi w' v xs := ⟨h.1.only2 hb (h.2.2.up hh), h.2⟩
theorem RusO.wide (h : RusO lo hi w v xs) (hl : lo' ≤ lo) (hh : hi ≤ hi') : RusO lo' hi' w v xs := ⟨h.1.lower hl, h.2.1, h.2.2.up hh⟩
theorem RusO.far (h : RusO lo hi w v xs) {a : Addr} (ha : a.block < lo) (u : Value) : RusO lo hi (w.setCell a u) v xs := ⟨h.1.far ha u, h.2⟩
theorem RusO.alloc (h : RusO lo hi w v xs) (o : Obj) : RusO lo hi (w.alloc o) v xs := ⟨h.1.alloc o, h.2⟩
theorem RusO.nil (lo hi : Nat) (w : World) : RusO lo hi w (.slice none 0 0) [] := ⟨Own.nil _ _ _ _, by simp, Under.nil _ _ _⟩
end

end Go.Proofs.Ytenjajcknmfhfaa
