/- The laws' own copies of Clerk: what they answer, and where it lies. -/
import Derived.Test.YtalaegkfkjpmoaaTyCk
import Derived.Test.YtalaegkfkjpmoaaCells
import Derived.Test.YtalaegkfkjpmoaaProg
import Derived.WalkSmall
namespace Go.Proofs.Ytalaegkfkjpmoaa
set_option linter.unusedVariables false
open Go.RowKit


theorem Try.info_ck : (Try.prog.info? 65).map (fun i => (i.zero, i.size, i.bytes)) = some (some (.agg #[.int .i64 0, .string ⟨#[]⟩, .int .i64 0, .int .i64 0, .int .i64 0, .int .i64 0]), 6, 56) := by kernel_rfl

/-- A list in memory of the call's own. -/
def CksO (lo hi : Nat) (w : World) (v : Value) (xs : List Ck) : Prop := Own lo 65 6 w v (xs.map ckC) ∧ (∀ e ∈ xs, e.ok) ∧ Under hi v
section
variable {lo hi lo' hi' : Nat} {w w' : World} {v : Value} {xs : List Ck}
theorem CksO.row (h : CksO lo hi w v xs) : RowR 6 rCk w v xs :=
  h.1.row (by simp) fun i h1 h2 => ⟨by simp, h.2.1 _ (List.getElem_mem h2)⟩
theorem CksO.below (h : CksO lo hi w v xs) (hb : Below w.heap.size w w') : CksO lo hi w' v xs := ⟨h.1.below hb, h.2⟩
theorem CksO.only (h : CksO lo hi w v xs) (hb : Only lo' hi' w w') (hh : hi' ≤ lo) : CksO lo hi w' v xs := ⟨h.1.only hb hh, h.2⟩
theorem CksO.only2 (h : CksO lo hi w v xs) (hb : Only lo' hi' w w') (hh : hi ≤ lo') : CksO lo hi w' v xs := ⟨h.1.only2 hb (h.2.2.up hh), h.2⟩
theorem CksO.wide (h : CksO lo hi w v xs) (hl : lo' ≤ lo) (hh : hi ≤ hi') : CksO lo' hi' w v xs := ⟨h.1.lower hl, h.2.1, h.2.2.up hh⟩
theorem CksO.far (h : CksO lo hi w v xs) {a : Addr} (ha : a.block < lo) (u : Value) : CksO lo hi (w.setCell a u) v xs := ⟨h.1.far ha u, h.2⟩
theorem CksO.alloc (h : CksO lo hi w v xs) (o : Obj) : CksO lo hi (w.alloc o) v xs := ⟨h.1.alloc o, h.2⟩
theorem CksO.nil (lo hi : Nat) (w : World) : CksO lo hi w (.slice none 0 0) [] := ⟨Own.nil _ _ _ _, by simp, Under.nil _ _ _⟩
end

end Go.Proofs.Ytalaegkfkjpmoaa
