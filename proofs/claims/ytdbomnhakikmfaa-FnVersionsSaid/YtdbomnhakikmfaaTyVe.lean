/- Version and lists of them: how the laws' and the program's read. -/
import Derived.Test.YtdbomnhakikmfaaFrame
import Derived.Test.YtdbomnhakikmfaaArg
import Derived.Test.YtdbomnhakikmfaaVeM
import Derived.Test.YtdbomnhakikmfaaTyRu
import Derived.Test.YtdbomnhakikmfaaToRu
import Derived.Test.YtdbomnhakikmfaaEqRu
import Derived.Test.YtdbomnhakikmfaaMarkRu
import Derived.Test.YtdbomnhakikmfaaFlatN
namespace Go.Proofs.Ytdbomnhakikmfaa
set_option linter.unusedVariables false
set_option maxRecDepth 20000
open Go.RowKit Go.ChangeShapes Go.WideShapes Go.Deep

def Ve.ok (f : Ve) : Prop := inI f.frm
def rVe : Rd Ve := fun w cs f => ∃ v, cs = [.int .i64 f.frm, v] ∧ RowR 4 rRu w v f.rules ∧ f.ok
theorem rVe_stable : rVe.Stable := fun _ _ _ _ hb ⟨v, e, h, k⟩ => ⟨v, e, h.below rRu_stable hb, k⟩
def VeV (w : World) (v : Value) (f : Ve) : Prop := ∃ s, v = .agg #[.int .i64 f.frm, s] ∧ RowR 4 rRu w s f.rules ∧ f.ok
theorem VeV.below {w w' : World} {v : Value} {r : Ve} (h : VeV w v r) (hb : Below w.heap.size w w') : VeV w' v r := by
  obtain ⟨s, e, h, k⟩ := h
  exact ⟨s, e, h.below rRu_stable hb, k⟩

section
variable {H : Type} {enc : TypeId × Value → H} {w : World} {base b0 : Nat} {spare : Nat → Bool} {held : Bool} {r : Reach} {v : Value} {d : DataW H} {p : List MemPlace}
end

/-- A list that is read: where it lies. -/
theorem RowR.ves {w : World} {v : Value} {xs : List Ve} (h : RowR 2 rVe w v xs) : ∃ a cap, v = .slice a xs.length cap ∧ xs.length ≤ cap ∧ cap ≤ maxLen ∧
    (xs = [] ∨ ∃ b off, b < w.heap.size ∧ a = some ⟨b, off, none⟩ ∧ ∀ i, i < xs.length → ∃ s, w.cell? ⟨b, off + i * 2, none⟩ = some (.int .i64 (xs.getD i veD).frm) ∧ w.cell? ⟨b, off + i * 2 + 1, none⟩ = some s ∧ RowR 4 rRu w s (xs.getD i veD).rules ∧ (xs.getD i veD).ok) := by
  obtain ⟨a, cap, rfl, h1, h2, h3⟩ := h
  refine ⟨a, cap, rfl, h1, h2, h3.imp id ?_⟩
  rintro ⟨b, off, hlt, rfl, hc⟩
  refine ⟨b, off, hlt, rfl, fun i hi => ?_⟩
  obtain ⟨cs, hl, hcs, s, rfl, hr, hok⟩ := hc i hi
  have f0 := hcs 0 (by simp only [List.length_cons, List.length_nil]; omega)
  have f1 := hcs 1 (by simp only [List.length_cons, List.length_nil]; omega)
  simp only [List.getElem_cons_zero, List.getElem_cons_succ, Nat.add_zero] at f0 f1
  rw [getVe_lt hi]
  exact ⟨s, f0, f1, hr, hok⟩
end Go.Proofs.Ytdbomnhakikmfaa
