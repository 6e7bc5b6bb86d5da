/- Copy and lists of them: how the laws' and the program's read. -/
import Derived.Test.YtcfghigmijibeaaFrame
import Derived.Test.YtcfghigmijibeaaArg
import Derived.Test.YtcfghigmijibeaaFoM
namespace Go.Proofs.Ytcfghigmijibeaa
set_option linter.unusedVariables false
set_option maxRecDepth 20000
open Go.RowKit Go.ChangeShapes Go.WideShapes Go.Deep

def coC (f : Co) : List Value := [.int .i64 f.rcd, .int .i64 f.fmt, .int .i64 f.size, .int .i64 f.seen]
def Co.ok (f : Co) : Prop := inI f.rcd ∧ inI f.fmt ∧ inI f.size ∧ inI f.seen
def rCo : Rd Co := fun _ cs f => cs = coC f ∧ f.ok
theorem rCo_stable : rCo.Stable := fun _ _ _ _ _ h => h
def CoV (w : World) (v : Value) (f : Co) : Prop := v = .agg #[.int .i64 f.rcd, .int .i64 f.fmt, .int .i64 f.size, .int .i64 f.seen] ∧ f.ok
theorem opens_co : Opens Try.prog 70 rCo := fun enc w base spare held fuel cs x h => by
  obtain ⟨hl, hf⟩ := trod_fields Try.underlying70 (by kernel_rfl) (by kernel_rfl) h
  match cs, hl with
  | [c0, c1, c2, c3], _ =>
    obtain ⟨v0, y0, n0, e0, h0⟩ := hf 0 _ rfl
    obtain ⟨v1, y1, n1, e1, h1⟩ := hf 1 _ rfl
    obtain ⟨v2, y2, n2, e2, h2⟩ := hf 2 _ rfl
    obtain ⟨v3, y3, n3, e3, h3⟩ := hf 3 _ rfl
    obtain rfl : c0 = v0 := by simpa using e0
    obtain rfl : c1 = v1 := by simpa using e1
    obtain rfl : c2 = v2 := by simpa using e2
    obtain rfl : c3 = v3 := by simpa using e3
    obtain ⟨a0, e0, w0⟩ := opens_int Try.underlying3 enc w base spare held n0 _ _ h0
    obtain ⟨a1, e1, w1⟩ := opens_int Try.underlying3 enc w base spare held n1 _ _ h1
    obtain ⟨a2, e2, w2⟩ := opens_int Try.underlying3 enc w base spare held n2 _ _ h2
    obtain ⟨a3, e3, w3⟩ := opens_int Try.underlying3 enc w base spare held n3 _ _ h3
    exact ⟨⟨a0, a1, a2, a3⟩, by simp_all [coC], w0, w1, w2, w3⟩
theorem opens_cos : Opens Try.prog 29 (rRow 4 rCo) := opens_row Try.underlying29 (by kernel_rfl) (by decide) opens_co

section
variable {H : Type} {enc : TypeId × Value → H} {w : World} {base b0 : Nat} {spare : Nat → Bool} {held : Bool} {r : Reach} {v : Value} {d : DataW H} {p : List MemPlace}
theorem arg_co (hv : Value.okWide Try.prog w r b0 70 v) (h : DataW.Trod enc Try.prog w base spare held 70 v d p) : ∃ x, CoV w v x := by
  obtain ⟨cs, rfl, _⟩ := okWide_struct Try.underlying70 hv
  obtain ⟨fuel, hf⟩ := h
  obtain ⟨x, e, hx⟩ := opens_co enc w base spare held fuel _ _ hf
  exact ⟨x, by unfold coC at e; rw [← e]; rfl, hx⟩
theorem arg_cos (hv : Value.okWide Try.prog w r b0 29 v) (h : DataW.Trod enc Try.prog w base spare held 29 v d p) : ∃ x, RowR 4 rCo w v x := by
  obtain ⟨a, len, cap, rfl⟩ := okWide_slice Try.underlying29 hv
  obtain ⟨fuel, hf⟩ := h
  obtain ⟨x, s, e, hx⟩ := opens_cos enc w base spare held fuel _ _ hf
  obtain rfl : Value.slice a len cap = s := by simpa [Value.cells] using e
  exact ⟨x, hx⟩
end

/-- Copys that are read: where they lie. -/
theorem RowR.cos {w : World} {v : Value} {xs : List Co} (h : RowR 4 rCo w v xs) : ∃ a cap, v = .slice a xs.length cap ∧ xs.length ≤ cap ∧ cap ≤ maxLen ∧
    (xs = [] ∨ ∃ b off, b < w.heap.size ∧ a = some ⟨b, off, none⟩ ∧ ∀ i, i < xs.length → w.cell? ⟨b, off + i * 4, none⟩ = some (.int .i64 (xs.getD i coD).rcd) ∧ w.cell? ⟨b, off + i * 4 + 1, none⟩ = some (.int .i64 (xs.getD i coD).fmt) ∧ w.cell? ⟨b, off + i * 4 + 2, none⟩ = some (.int .i64 (xs.getD i coD).size) ∧ w.cell? ⟨b, off + i * 4 + 3, none⟩ = some (.int .i64 (xs.getD i coD).seen) ∧ (xs.getD i coD).ok) := by
  obtain ⟨a, cap, rfl, h1, h2, h3⟩ := h
  refine ⟨a, cap, rfl, h1, h2, h3.imp id ?_⟩
  rintro ⟨b, off, hlt, rfl, hc⟩
  refine ⟨b, off, hlt, rfl, fun i hi => ?_⟩
  obtain ⟨cs, hl, hcs, rfl, hok⟩ := hc i hi
  have f0 := hcs 0 (by simp only [coC, List.length_cons, List.length_nil]; omega)
  have f1 := hcs 1 (by simp only [coC, List.length_cons, List.length_nil]; omega)
  have f2 := hcs 2 (by simp only [coC, List.length_cons, List.length_nil]; omega)
  have f3 := hcs 3 (by simp only [coC, List.length_cons, List.length_nil]; omega)
  simp only [coC, List.getElem_cons_zero, List.getElem_cons_succ, Nat.add_zero] at f0 f1 f2 f3
  rw [getCo_lt hi]
  exact ⟨f0, f1, f2, f3, hok⟩
theorem RowR.cos_ok {w : World} {v : Value} {xs : List Co} (h : RowR 4 rCo w v xs) : ∀ e ∈ xs, e.ok := by
  obtain ⟨a, cap, rfl, h1, h2, h3⟩ := h
  intro e he
  rcases h3 with rfl | ⟨b, off, _, _, hc⟩
  · cases he
  · obtain ⟨i, hi, rfl⟩ := List.getElem_of_mem he
    obtain ⟨cs, _, _, h⟩ := hc i hi
    exact h.2
end Go.Proofs.Ytcfghigmijibeaa
