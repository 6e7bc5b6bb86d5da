/- Rule and lists of them: how the laws' and the program's read. -/
import Derived.Test.YtedckfbjhhabgaaFrame
import Derived.Test.YtedckfbjhhabgaaArg
import Derived.Test.YtedckfbjhhabgaaRuM
namespace Go.Proofs.Ytedckfbjhhabgaa
set_option linter.unusedVariables false
set_option maxRecDepth 20000
open Go.RowKit Go.ChangeShapes Go.WideShapes Go.Deep

def ruC (f : Ru) : List Value := [.int .i64 f.series, .int .i64 f.event, .int .i64 f.days, .int .i64 f.act]
def Ru.ok (f : Ru) : Prop := inI f.series ∧ inI f.event ∧ inI f.days ∧ inI f.act
def rRu : Rd Ru := fun _ cs f => cs = ruC f ∧ f.ok
theorem rRu_stable : rRu.Stable := fun _ _ _ _ _ h => h
def RuV (w : World) (v : Value) (f : Ru) : Prop := v = .agg #[.int .i64 f.series, .int .i64 f.event, .int .i64 f.days, .int .i64 f.act] ∧ f.ok
theorem opens_ru : Opens Try.prog 75 rRu := fun enc w base spare held fuel cs x h => by
  obtain ⟨hl, hf⟩ := trod_fields Try.underlying75 (by kernel_rfl) (by kernel_rfl) h
  match cs, hl with
  | [c0, c1, c2, c3], _ =>
    obtain ⟨v0, y0, n0, e0, h0⟩ := hf 0 _ rfl
    obtain ⟨v1, y1, n1, e1, h1⟩ := hf 1 _ rfl
    obtain ⟨v2, y2, n2, e2, h2⟩ := hf 2 _ rfl
    obtain ⟨v3, y3, n3, e3, h3⟩ := hf 3 _ rfl
    obtain rfl : c0 = v0 := by simpa using e0
    obtain rfl : c1 = v1 := by simpa using e1
    obtain rfl : c2 = v2 := by simpa using e2
    obtain rfl : c3 = v3 := by simpa using e3
    obtain ⟨a0, e0, w0⟩ := opens_int Try.underlying3 enc w base spare held n0 _ _ h0
    obtain ⟨a1, e1, w1⟩ := opens_int Try.underlying3 enc w base spare held n1 _ _ h1
    obtain ⟨a2, e2, w2⟩ := opens_int Try.underlying3 enc w base spare held n2 _ _ h2
    obtain ⟨a3, e3, w3⟩ := opens_int Try.underlying3 enc w base spare held n3 _ _ h3
    exact ⟨⟨a0, a1, a2, a3⟩, by simp_all [ruC], w0, w1, w2, w3⟩
theorem opens_rus : Opens Try.prog 29 (rRow 4 rRu) := opens_row Try.underlying29 (by kernel_rfl) (by decide) opens_ru

section
variable {H : Type} {enc : TypeId × Value → H} {w : World} {base b0 : Nat} {spare : Nat → Bool} {held : Bool} {r : Reach} {v : Value} {d : DataW H} {p : List MemPlace}
theorem arg_ru (hv : Value.okWide Try.prog w r b0 75 v) (h : DataW.Trod enc Try.prog w base spare held 75 v d p) : ∃ x, RuV w v x := by
  obtain ⟨cs, rfl, _⟩ := okWide_struct Try.underlying75 hv
  obtain ⟨fuel, hf⟩ := h
  obtain ⟨x, e, hx⟩ := opens_ru enc w base spare held fuel _ _ hf
  exact ⟨x, by unfold ruC at e; rw [← e]; rfl, hx⟩
theorem arg_rus (hv : Value.okWide Try.prog w r b0 29 v) (h : DataW.Trod enc Try.prog w base spare held 29 v d p) : ∃ x, RowR 4 rRu w v x := by
  obtain ⟨a, len, cap, rfl⟩ := okWide_slice Try.underlying29 hv
  obtain ⟨fuel, hf⟩ := h
  obtain ⟨x, s, e, hx⟩ := opens_rus enc w base spare held fuel _ _ hf
  obtain rfl : Value.slice a len cap = s := by simpa [Value.cells] using e
  exact ⟨x, hx⟩
end

/-- Rules that are read: where they lie. -/
theorem RowR.rus {w : World} {v : Value} {xs : List Ru} (h : RowR 4 rRu w v xs) : ∃ a cap, v = .slice a xs.length cap ∧ xs.length ≤ cap ∧ cap ≤ maxLen ∧
    (xs = [] ∨ ∃ b off, b < w.heap.size ∧ a = some ⟨b, off, none⟩ ∧ ∀ i, i < xs.length → w.cell? ⟨b, off + i * 4, none⟩ = some (.int .i64 (xs.getD i ruD).series) ∧ w.cell? ⟨b, off + i * 4 + 1, none⟩ = some (.int .i64 (xs.getD i ruD).event) ∧ w.cell? ⟨b, off + i * 4 + 2, none⟩ = some (.int .i64 (xs.getD i ruD).days) ∧ w.cell? ⟨b, off + i * 4 + 3, none⟩ = some (.int .i64 (xs.getD i ruD).act) ∧ (xs.getD i ruD).ok) := by
  obtain ⟨a, cap, rfl, h1, h2, h3⟩ := h
  refine ⟨a, cap, rfl, h1, h2, h3.imp id ?_⟩
  rintro ⟨b, off, hlt, rfl, hc⟩
  refine ⟨b, off, hlt, rfl, fun i hi => ?_⟩
  obtain ⟨cs, hl, hcs, rfl, hok⟩ := hc i hi
  have f0 := hcs 0 (by simp only [ruC, List.length_cons, List.length_nil]; omega)
  have f1 := hcs 1 (by simp only [ruC, List.length_cons, List.length_nil]; omega)
  have f2 := hcs 2 (by simp only [ruC, List.length_cons, List.length_nil]; omega)
  have f3 := hcs 3 (by simp only [ruC, List.length_cons, List.length_nil]; omega)
  simp only [ruC, List.getElem_cons_zero, List.getElem_cons_succ, Nat.add_zero] at f0 f1 f2 f3
  rw [getRu_lt hi]
  exact ⟨f0, f1, f2, f3, hok⟩
theorem RowR.rus_ok {w : World} {v : Value} {xs : List Ru} (h : RowR 4 rRu w v xs) : ∀ e ∈ xs, e.ok := by
  obtain ⟨a, cap, rfl, h1, h2, h3⟩ := h
  intro e he
  rcases h3 with rfl | ⟨b, off, _, _, hc⟩
  · cases he
  · obtain ⟨i, hi, rfl⟩ := List.getElem_of_mem he
    obtain ⟨cs, _, _, h⟩ := hc i hi
    exact h.2
end Go.Proofs.Ytedckfbjhhabgaa
