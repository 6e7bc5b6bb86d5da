/- What draws carry beside the cursor: rows of rules, of events. -/
import Derived.Test.YtenjajcknmfhfaaDrwZ
import Derived.Test.YtenjajcknmfhfaaPuts
import Derived.Test.YtenjajcknmfhfaaToRu
import Derived.Test.YtenjajcknmfhfaaToRec
import Derived.Test.YtenjajcknmfhfaaInSer1
namespace Go.Proofs.Ytenjajcknmfhfaa
set_option linter.unusedVariables false
open Go.RowKit

theorem RusO.grown {lo hi B : Nat} {w w' : World} {v : Value} {t : List Ru} (h : RusO lo hi w v t) (hg : w.grownBy w' (some B)) (hB : B < lo) : RusO lo hi w' v t := ⟨⟨own_grown h.1.1 hg hB, h.1.2⟩, h.2⟩
theorem EvsO.grown {lo hi B : Nat} {w w' : World} {v : Value} {t : List Ev} (h : EvsO lo hi w v t) (hg : w.grownBy w' (some B)) (hB : B < lo) : EvsO lo hi w' v t := ⟨⟨own_grown h.1.1 hg hB, h.1.2⟩, h.2⟩
theorem EvsO.offr {lo hi : Nat} {w w' : World} {v u : Value} {t : List Ev} (h : EvsO lo hi w v t) (hg : w.grownBy w' u.ownBlock) (hn : ∀ k, v.ownBlock = some k → u.ownBlock ≠ some k) : EvsO lo hi w' v t := ⟨⟨own_off h.1.1 hg hn, h.1.2⟩, h.2⟩
theorem EvsO.setOther {lo hi G j : Nat} {w : World} {v x : Value} {t : List Ev} (h : EvsO lo hi w v t) (hn : ∀ k, v.ownBlock = some k → k ≠ G) : EvsO lo hi (w.setCell ⟨G, j, none⟩ x) v t := by
  refine ⟨⟨h.1.1.kept (row := some G) ⟨rfl, rfl, rfl, by simp, fun k _ hk => Below.heap_setCell w ⟨G, j, none⟩ x k (fun e => hk (by rw [e]))⟩ ?_, h.1.2⟩, h.2⟩
  rcases hv : v.ownBlock with _ | k
  · exact .inl rfl
  · exact .inr fun e => hn k hv (Option.some.inj e)
end Go.Proofs.Ytenjajcknmfhfaa
