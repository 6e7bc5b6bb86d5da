/- Moves in a region that draws: the world named anew. -/
import Derived.Test.YtenjajcknmfhfaaDrwZ
namespace Go.Proofs.Ytenjajcknmfhfaa
set_option linter.unusedVariables false
open Go.RowKit
/-- A list of numbers in memory. -/
def NL (W : World) (gb : Nat) (L : List Int) : Prop := ∀ i (hi : i < L.length), W.cell? ⟨gb, 0 + i, none⟩ = some (.int .i64 L[i])
theorem NL.al {W : World} {gb : Nat} {L : List Int} (h : NL W gb L) (o : Obj) : NL (W.alloc o) gb L := fun i hi => below_al_cell (h i hi) o
theorem NL.grown {W W' : World} {gb B : Nat} {L : List Int} (h : NL W gb L) (hg : W.grownBy W' (some B)) (hn : gb ≠ B) : NL W' gb L := fun i hi => hg.cell (h i hi) (by simpa using hn)
theorem gen_dr {G : World → Prop} {W : World} (k : ∀ Wn, Wn = W.drew → Wn.heap.size = W.heap.size → G Wn) : G W.drew := k _ rfl rfl
theorem gen_al {G : World → Prop} {W : World} {o : Obj} (k : ∀ Wn, Wn = W.alloc o → G Wn) : G (W.alloc o) := k _ rfl
end Go.Proofs.Ytenjajcknmfhfaa
