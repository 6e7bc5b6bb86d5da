/- The laws' own copies of Trigger: what they answer, and where it lies. -/
import Derived.Test.YtenjajcknmfhfaaTyTg
import Derived.Test.YtenjajcknmfhfaaCells
import Derived.Test.YtenjajcknmfhfaaProg
import Derived.WalkSmall
namespace Go.Proofs.Ytenjajcknmfhfaa
set_option linter.unusedVariables false
open Go.RowKit


theorem Try.info_tg : (Try.prog.info? 34).map (fun i => (i.zero, i.size, i.bytes)) = some (some (.agg #[.int .i64 0, .int .i64 0, .int .i64 0]), 3, 24) := by kernel_rfl

/-- A list in memory of the call's own. -/
def TgsO (lo hi : Nat) (w : World) (v : Value) (xs : List Tg) : Prop := Own lo 34 3 w v (xs.map tgC) ∧ (∀ e ∈ xs, e.ok) ∧ Under hi v
section
variable {lo hi lo' hi' : Nat} {w w' : World} {v : Value} {xs : List Tg}
theorem TgsO.row (h : TgsO lo hi w v xs) : RowR 3 rTg w v xs :=
  h.1.row (by simp) fun i h1 h2 => ⟨by simp, h.2.1 _ (List.getElem_mem h2)⟩
theorem TgsO.below (h : TgsO lo hi w v xs) (hb : Below w.heap.size w w') : TgsO lo hi w' v xs := ⟨h.1.below hb, h.2⟩
theorem TgsO.only (h : TgsO lo hi w v xs) (hb : Only lo' hi' w w') (hh : hi' ≤ lo) : TgsO lo hi w' v xs := ⟨h.1.only hb hh, h.2⟩
theorem TgsO.only2 (h : TgsO lo hi w v xs) (hb : Only lo' hi' w w') (hh : hi ≤ lo') : TgsO lo hi w' v xs := ⟨h.1.only2 hb (h.2.2.up hh), h.2⟩
theorem TgsO.wide (h : TgsO lo hi w v xs) (hl : lo' ≤ lo) (hh : hi ≤ hi') : TgsO lo' hi' w v xs := ⟨h.1.lower hl, h.2.1, h.2.2.up hh⟩
theorem TgsO.far (h : TgsO lo hi w v xs) {a : Addr} (ha : a.block < lo) (u : Value) : TgsO lo hi (w.setCell a u) v xs := ⟨h.1.far ha u, h.2⟩
theorem TgsO.alloc (h : TgsO lo hi w v xs) (o : Obj) : TgsO lo hi (w.alloc o) v xs := ⟨h.1.alloc o, h.2⟩
theorem TgsO.nil (lo hi : Nat) (w : World) : TgsO lo hi w (.slice none 0 0) [] := ⟨Own.nil _ _ _ _, by simp, Under.nil _ _ _⟩
end

end Go.Proofs.Ytenjajcknmfhfaa
