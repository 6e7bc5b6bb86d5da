/- The laws' own copies of Function: what they answer, and where it lies. -/
import Derived.Test.YtpbjddiopfkgbaaTyFn
import Derived.Test.YtpbjddiopfkgbaaCells
import Derived.Test.YtpbjddiopfkgbaaProg
import Derived.WalkSmall
namespace Go.Proofs.Ytpbjddiopfkgbaa
set_option linter.unusedVariables false
open Go.RowKit


theorem Try.info_fn : (Try.prog.info? 36).map (fun i => (i.zero, i.size, i.bytes)) = some (some (.agg #[.int .i64 0, .int .i64 0, .string ⟨#[]⟩]), 3, 32) := by kernel_rfl

/-- A list in memory of the call's own. -/
def FnsO (lo hi : Nat) (w : World) (v : Value) (xs : List Fn) : Prop := Own lo 36 3 w v (xs.map fnC) ∧ (∀ e ∈ xs, e.ok) ∧ Under hi v
section
variable {lo hi lo' hi' : Nat} {w w' : World} {v : Value} {xs : List Fn}
theorem FnsO.row (h : FnsO lo hi w v xs) : RowR 3 rFn w v xs :=
  h.1.row (by simp) fun i h1 h2 => ⟨by simp, h.2.1 _ (List.getElem_mem h2)⟩
theorem FnsO.below (h : FnsO lo hi w v xs) (hb : Below w.heap.size w w') : FnsO lo hi w' v xs := ⟨h.1.below hb, h.2⟩
theorem FnsO.only (h : FnsO lo hi w v xs) (hb : Only lo' hi' w w') (hh : hi' ≤ lo) : FnsO lo hi w' v xs := ⟨h.1.only hb hh, h.2⟩
theorem FnsO.only2 (h : FnsO lo hi w v xs) (hb : Only lo' hi' w w') (hh : hi ≤ lo') : FnsO lo hi w' v xs := ⟨h.1.only2 hb (h.2.2.up hh), h.2⟩
theorem FnsO.wide (h : FnsO lo hi w v xs) (hl : lo' ≤ lo) (hh : hi ≤ hi') : FnsO lo' hi' w v xs := ⟨h.1.lower hl, h.2.1, h.2.2.up hh⟩
theorem FnsO.far (h : FnsO lo hi w v xs) {a : Addr} (ha : a.block < lo) (u : Value) : FnsO lo hi (w.setCell a u) v xs := ⟨h.1.far ha u, h.2⟩
theorem FnsO.alloc (h : FnsO lo hi w v xs) (o : Obj) : FnsO lo hi (w.alloc o) v xs := ⟨h.1.alloc o, h.2⟩
theorem FnsO.nil (lo hi : Nat) (w : World) : FnsO lo hi w (.slice none 0 0) [] := ⟨Own.nil _ _ _ _, by simp, Under.nil _ _ _⟩
end

end Go.Proofs.Ytpbjddiopfkgbaa
