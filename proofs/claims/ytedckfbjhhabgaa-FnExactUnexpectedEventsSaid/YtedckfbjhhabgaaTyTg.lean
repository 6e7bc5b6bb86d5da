/- Trigger and lists of them: how the laws' and the program's read. -/
import Derived.Test.YtedckfbjhhabgaaFrame
import Derived.Test.YtedckfbjhhabgaaArg
import Derived.Test.YtedckfbjhhabgaaTgM
namespace Go.Proofs.Ytedckfbjhhabgaa
set_option linter.unusedVariables false
set_option maxRecDepth 20000
open Go.RowKit Go.ChangeShapes Go.WideShapes Go.Deep

def tgC (f : Tg) : List Value := [.int .i64 f.ev, .int .i64 f.aft, .int .i64 f.days]
def Tg.ok (f : Tg) : Prop := inI f.ev ∧ inI f.aft ∧ inI f.days
def rTg : Rd Tg := fun _ cs f => cs = tgC f ∧ f.ok
theorem rTg_stable : rTg.Stable := fun _ _ _ _ _ h => h
def TgV (w : World) (v : Value) (f : Tg) : Prop := v = .agg #[.int .i64 f.ev, .int .i64 f.aft, .int .i64 f.days] ∧ f.ok
theorem opens_tg : Opens Try.prog 65 rTg := fun enc w base spare held fuel cs x h => by
  obtain ⟨hl, hf⟩ := trod_fields Try.underlying65 (by kernel_rfl) (by kernel_rfl) h
  match cs, hl with
  | [c0, c1, c2], _ =>
    obtain ⟨v0, y0, n0, e0, h0⟩ := hf 0 _ rfl
    obtain ⟨v1, y1, n1, e1, h1⟩ := hf 1 _ rfl
    obtain ⟨v2, y2, n2, e2, h2⟩ := hf 2 _ rfl
    obtain rfl : c0 = v0 := by simpa using e0
    obtain rfl : c1 = v1 := by simpa using e1
    obtain rfl : c2 = v2 := by simpa using e2
    obtain ⟨a0, e0, w0⟩ := opens_int Try.underlying3 enc w base spare held n0 _ _ h0
    obtain ⟨a1, e1, w1⟩ := opens_int Try.underlying3 enc w base spare held n1 _ _ h1
    obtain ⟨a2, e2, w2⟩ := opens_int Try.underlying3 enc w base spare held n2 _ _ h2
    exact ⟨⟨a0, a1, a2⟩, by simp_all [tgC], w0, w1, w2⟩
theorem opens_tgs : Opens Try.prog 22 (rRow 3 rTg) := opens_row Try.underlying22 (by kernel_rfl) (by decide) opens_tg

section
variable {H : Type} {enc : TypeId × Value → H} {w : World} {base b0 : Nat} {spare : Nat → Bool} {held : Bool} {r : Reach} {v : Value} {d : DataW H} {p : List MemPlace}
theorem arg_tg (hv : Value.okWide Try.prog w r b0 65 v) (h : DataW.Trod enc Try.prog w base spare held 65 v d p) : ∃ x, TgV w v x := by
  obtain ⟨cs, rfl, _⟩ := okWide_struct Try.underlying65 hv
  obtain ⟨fuel, hf⟩ := h
  obtain ⟨x, e, hx⟩ := opens_tg enc w base spare held fuel _ _ hf
  exact ⟨x, by unfold tgC at e; rw [← e]; rfl, hx⟩
theorem arg_tgs (hv : Value.okWide Try.prog w r b0 22 v) (h : DataW.Trod enc Try.prog w base spare held 22 v d p) : ∃ x, RowR 3 rTg w v x := by
  obtain ⟨a, len, cap, rfl⟩ := okWide_slice Try.underlying22 hv
  obtain ⟨fuel, hf⟩ := h
  obtain ⟨x, s, e, hx⟩ := opens_tgs enc w base spare held fuel _ _ hf
  obtain rfl : Value.slice a len cap = s := by simpa [Value.cells] using e
  exact ⟨x, hx⟩
end

/-- Triggers that are read: where they lie. -/
theorem RowR.tgs {w : World} {v : Value} {xs : List Tg} (h : RowR 3 rTg w v xs) : ∃ a cap, v = .slice a xs.length cap ∧ xs.length ≤ cap ∧ cap ≤ maxLen ∧
    (xs = [] ∨ ∃ b off, b < w.heap.size ∧ a = some ⟨b, off, none⟩ ∧ ∀ i, i < xs.length → w.cell? ⟨b, off + i * 3, none⟩ = some (.int .i64 (xs.getD i tgD).ev) ∧ w.cell? ⟨b, off + i * 3 + 1, none⟩ = some (.int .i64 (xs.getD i tgD).aft) ∧ w.cell? ⟨b, off + i * 3 + 2, none⟩ = some (.int .i64 (xs.getD i tgD).days) ∧ (xs.getD i tgD).ok) := by
  obtain ⟨a, cap, rfl, h1, h2, h3⟩ := h
  refine ⟨a, cap, rfl, h1, h2, h3.imp id ?_⟩
  rintro ⟨b, off, hlt, rfl, hc⟩
  refine ⟨b, off, hlt, rfl, fun i hi => ?_⟩
  obtain ⟨cs, hl, hcs, rfl, hok⟩ := hc i hi
  have f0 := hcs 0 (by simp only [tgC, List.length_cons, List.length_nil]; omega)
  have f1 := hcs 1 (by simp only [tgC, List.length_cons, List.length_nil]; omega)
  have f2 := hcs 2 (by simp only [tgC, List.length_cons, List.length_nil]; omega)
  simp only [tgC, List.getElem_cons_zero, List.getElem_cons_succ, Nat.add_zero] at f0 f1 f2
  rw [getTg_lt hi]
  exact ⟨f0, f1, f2, hok⟩
theorem RowR.tgs_ok {w : World} {v : Value} {xs : List Tg} (h : RowR 3 rTg w v xs) : ∀ e ∈ xs, e.ok := by
  obtain ⟨a, cap, rfl, h1, h2, h3⟩ := h
  intro e he
  rcases h3 with rfl | ⟨b, off, _, _, hc⟩
  · cases he
  · obtain ⟨i, hi, rfl⟩ := List.getElem_of_mem he
    obtain ⟨cs, _, _, h⟩ := hc i hi
    exact h.2
end Go.Proofs.Ytedckfbjhhabgaa
