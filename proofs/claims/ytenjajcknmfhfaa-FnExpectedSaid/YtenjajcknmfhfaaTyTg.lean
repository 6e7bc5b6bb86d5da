/- Trigger and lists of them: how the laws' and the program's read. -/
import Derived.Test.YtenjajcknmfhfaaFrame
import Derived.Test.YtenjajcknmfhfaaArg
import Derived.Test.YtenjajcknmfhfaaTgM
namespace Go.Proofs.Ytenjajcknmfhfaa
set_option linter.unusedVariables false
set_option maxRecDepth 20000
open Go.RowKit Go.ChangeShapes Go.WideShapes Go.Deep

def tgC (f : Tg) : List Value := [.int .i64 f.ev, .int .i64 f.aft, .int .i64 f.days]
def Tg.ok (f : Tg) : Prop := inI f.ev ∧ inI f.aft ∧ inI f.days
def rTg : Rd Tg := fun _ cs f => cs = tgC f ∧ f.ok
theorem rTg_stable : rTg.Stable := fun _ _ _ _ _ h => h
def TgV (w : World) (v : Value) (f : Tg) : Prop := v = .agg #[.int .i64 f.ev, .int .i64 f.aft, .int .i64 f.days] ∧ f.ok

section
variable {H : Type} {enc : TypeId × Value → H} {w : World} {base b0 : Nat} {spare : Nat → Bool} {held : Bool} {r : Reach} {v : Value} {d : DataW H} {p : List MemPlace}
end

/-- Triggers that are read: where they lie. -/
theorem RowR.tgs {w : World} {v : Value} {xs : List Tg} (h : RowR 3 rTg w v xs) : ∃ a cap, v = .slice a xs.length cap ∧ xs.length ≤ cap ∧ cap ≤ maxLen ∧
    (xs = [] ∨ ∃ b off, b < w.heap.size ∧ a = some ⟨b, off, none⟩ ∧ ∀ i, i < xs.length → w.cell? ⟨b, off + i * 3, none⟩ = some (.int .i64 (xs.getD i tgD).ev) ∧ w.cell? ⟨b, off + i * 3 + 1, none⟩ = some (.int .i64 (xs.getD i tgD).aft) ∧ w.cell? ⟨b, off + i * 3 + 2, none⟩ = some (.int .i64 (xs.getD i tgD).days) ∧ (xs.getD i tgD).ok) := by
  obtain ⟨a, cap, rfl, h1, h2, h3⟩ := h
  refine ⟨a, cap, rfl, h1, h2, h3.imp id ?_⟩
  rintro ⟨b, off, hlt, rfl, hc⟩
  refine ⟨b, off, hlt, rfl, fun i hi => ?_⟩
  obtain ⟨cs, hl, hcs, rfl, hok⟩ := hc i hi
  have f0 := hcs 0 (by simp only [tgC, List.length_cons, List.length_nil]; omega)
  have f1 := hcs 1 (by simp only [tgC, List.length_cons, List.length_nil]; omega)
  have f2 := hcs 2 (by simp only [tgC, List.length_cons, List.length_nil]; omega)
  simp only [tgC, List.getElem_cons_zero, List.getElem_cons_succ, Nat.add_zero] at f0 f1 f2
  rw [getTg_lt hi]
  exact ⟨f0, f1, f2, hok⟩
theorem RowR.tgs_ok {w : World} {v : Value} {xs : List Tg} (h : RowR 3 rTg w v xs) : ∀ e ∈ xs, e.ok := by
  obtain ⟨a, cap, rfl, h1, h2, h3⟩ := h
  intro e he
  rcases h3 with rfl | ⟨b, off, _, _, hc⟩
  · cases he
  · obtain ⟨i, hi, rfl⟩ := List.getElem_of_mem he
    obtain ⟨cs, _, _, h⟩ := hc i hi
    exact h.2
end Go.Proofs.Ytenjajcknmfhfaa
