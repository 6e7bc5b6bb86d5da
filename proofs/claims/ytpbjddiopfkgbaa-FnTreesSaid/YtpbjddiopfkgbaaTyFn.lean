/- Function and lists of them: how the laws' and the program's read. -/
import Derived.Test.YtpbjddiopfkgbaaFrame
import Derived.Test.YtpbjddiopfkgbaaArg
import Derived.Test.YtpbjddiopfkgbaaFnM
namespace Go.Proofs.Ytpbjddiopfkgbaa
set_option linter.unusedVariables false
set_option maxRecDepth 20000
open Go.RowKit Go.ChangeShapes Go.WideShapes Go.Deep

def fnC (f : Fn) : List Value := [.int .i64 f.id, .int .i64 f.parent, .string f.name]
def Fn.ok (f : Fn) : Prop := inI f.id ∧ inI f.parent ∧ f.name.size ≤ maxLen
def rFn : Rd Fn := fun _ cs f => cs = fnC f ∧ f.ok
theorem rFn_stable : rFn.Stable := fun _ _ _ _ _ h => h
def FnV (w : World) (v : Value) (f : Fn) : Prop := v = .agg #[.int .i64 f.id, .int .i64 f.parent, .string f.name] ∧ f.ok

section
variable {H : Type} {enc : TypeId × Value → H} {w : World} {base b0 : Nat} {spare : Nat → Bool} {held : Bool} {r : Reach} {v : Value} {d : DataW H} {p : List MemPlace}
end

/-- Functions that are read: where they lie. -/
theorem RowR.fns {w : World} {v : Value} {xs : List Fn} (h : RowR 3 rFn w v xs) : ∃ a cap, v = .slice a xs.length cap ∧ xs.length ≤ cap ∧ cap ≤ maxLen ∧
    (xs = [] ∨ ∃ b off, b < w.heap.size ∧ a = some ⟨b, off, none⟩ ∧ ∀ i, i < xs.length → w.cell? ⟨b, off + i * 3, none⟩ = some (.int .i64 (xs.getD i fnD).id) ∧ w.cell? ⟨b, off + i * 3 + 1, none⟩ = some (.int .i64 (xs.getD i fnD).parent) ∧ w.cell? ⟨b, off + i * 3 + 2, none⟩ = some (.string (xs.getD i fnD).name) ∧ (xs.getD i fnD).ok) := by
  obtain ⟨a, cap, rfl, h1, h2, h3⟩ := h
  refine ⟨a, cap, rfl, h1, h2, h3.imp id ?_⟩
  rintro ⟨b, off, hlt, rfl, hc⟩
  refine ⟨b, off, hlt, rfl, fun i hi => ?_⟩
  obtain ⟨cs, hl, hcs, rfl, hok⟩ := hc i hi
  have f0 := hcs 0 (by simp only [fnC, List.length_cons, List.length_nil]; omega)
  have f1 := hcs 1 (by simp only [fnC, List.length_cons, List.length_nil]; omega)
  have f2 := hcs 2 (by simp only [fnC, List.length_cons, List.length_nil]; omega)
  simp only [fnC, List.getElem_cons_zero, List.getElem_cons_succ, Nat.add_zero] at f0 f1 f2
  rw [getF_lt hi]
  exact ⟨f0, f1, f2, hok⟩
theorem RowR.fns_ok {w : World} {v : Value} {xs : List Fn} (h : RowR 3 rFn w v xs) : ∀ e ∈ xs, e.ok := by
  obtain ⟨a, cap, rfl, h1, h2, h3⟩ := h
  intro e he
  rcases h3 with rfl | ⟨b, off, _, _, hc⟩
  · cases he
  · obtain ⟨i, hi, rfl⟩ := List.getElem_of_mem he
    obtain ⟨cs, _, _, h⟩ := hc i hi
    exact h.2
end Go.Proofs.Ytpbjddiopfkgbaa
