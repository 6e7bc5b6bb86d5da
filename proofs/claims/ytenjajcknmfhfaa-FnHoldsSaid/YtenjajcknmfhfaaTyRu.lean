/- Rule and lists of them: how the laws' and the program's read. -/
import Derived.Test.YtenjajcknmfhfaaFrame
import Derived.Test.YtenjajcknmfhfaaArg
import Derived.Test.YtenjajcknmfhfaaRuM
namespace Go.Proofs.Ytenjajcknmfhfaa
set_option linter.unusedVariables false
set_option maxRecDepth 20000
open Go.RowKit Go.ChangeShapes Go.WideShapes Go.Deep

def ruC (f : Ru) : List Value := [.int .i64 f.series, .int .i64 f.event, .int .i64 f.days, .int .i64 f.act]
def Ru.ok (f : Ru) : Prop := inI f.series ∧ inI f.event ∧ inI f.days ∧ inI f.act
def rRu : Rd Ru := fun _ cs f => cs = ruC f ∧ f.ok
theorem rRu_stable : rRu.Stable := fun _ _ _ _ _ h => h
def RuV (w : World) (v : Value) (f : Ru) : Prop := v = .agg #[.int .i64 f.series, .int .i64 f.event, .int .i64 f.days, .int .i64 f.act] ∧ f.ok

section
variable {H : Type} {enc : TypeId × Value → H} {w : World} {base b0 : Nat} {spare : Nat → Bool} {held : Bool} {r : Reach} {v : Value} {d : DataW H} {p : List MemPlace}
end

/-- Rules that are read: where they lie. -/
theorem RowR.rus {w : World} {v : Value} {xs : List Ru} (h : RowR 4 rRu w v xs) : ∃ a cap, v = .slice a xs.length cap ∧ xs.length ≤ cap ∧ cap ≤ maxLen ∧
    (xs = [] ∨ ∃ b off, b < w.heap.size ∧ a = some ⟨b, off, none⟩ ∧ ∀ i, i < xs.length → w.cell? ⟨b, off + i * 4, none⟩ = some (.int .i64 (xs.getD i ruD).series) ∧ w.cell? ⟨b, off + i * 4 + 1, none⟩ = some (.int .i64 (xs.getD i ruD).event) ∧ w.cell? ⟨b, off + i * 4 + 2, none⟩ = some (.int .i64 (xs.getD i ruD).days) ∧ w.cell? ⟨b, off + i * 4 + 3, none⟩ = some (.int .i64 (xs.getD i ruD).act) ∧ (xs.getD i ruD).ok) := by
  obtain ⟨a, cap, rfl, h1, h2, h3⟩ := h
  refine ⟨a, cap, rfl, h1, h2, h3.imp id ?_⟩
  rintro ⟨b, off, hlt, rfl, hc⟩
  refine ⟨b, off, hlt, rfl, fun i hi => ?_⟩
  obtain ⟨cs, hl, hcs, rfl, hok⟩ := hc i hi
  have f0 := hcs 0 (by simp only [ruC, List.length_cons, List.length_nil]; omega)
  have f1 := hcs 1 (by simp only [ruC, List.length_cons, List.length_nil]; omega)
  have f2 := hcs 2 (by simp only [ruC, List.length_cons, List.length_nil]; omega)
  have f3 := hcs 3 (by simp only [ruC, List.length_cons, List.length_nil]; omega)
  simp only [ruC, List.getElem_cons_zero, List.getElem_cons_succ, Nat.add_zero] at f0 f1 f2 f3
  rw [getRu_lt hi]
  exact ⟨f0, f1, f2, f3, hok⟩
theorem RowR.rus_ok {w : World} {v : Value} {xs : List Ru} (h : RowR 4 rRu w v xs) : ∀ e ∈ xs, e.ok := by
  obtain ⟨a, cap, rfl, h1, h2, h3⟩ := h
  intro e he
  rcases h3 with rfl | ⟨b, off, _, _, hc⟩
  · cases he
  · obtain ⟨i, hi, rfl⟩ := List.getElem_of_mem he
    obtain ⟨cs, _, _, h⟩ := hc i hi
    exact h.2
end Go.Proofs.Ytenjajcknmfhfaa
