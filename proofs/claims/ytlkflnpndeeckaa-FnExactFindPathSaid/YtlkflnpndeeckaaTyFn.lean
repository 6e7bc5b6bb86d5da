/- Function and lists of them: how the laws' and the program's read. -/
import Derived.Test.YtlkflnpndeeckaaFrame
import Derived.Test.YtlkflnpndeeckaaArg
import Derived.Test.YtlkflnpndeeckaaFnM
namespace Go.Proofs.Ytlkflnpndeeckaa
set_option linter.unusedVariables false
set_option maxRecDepth 20000
open Go.RowKit Go.ChangeShapes Go.WideShapes Go.Deep

def fnC (f : Fn) : List Value := [.int .i64 f.id, .int .i64 f.parent, .string f.name]
def Fn.ok (f : Fn) : Prop := inI f.id ∧ inI f.parent ∧ f.name.size ≤ maxLen
def rFn : Rd Fn := fun _ cs f => cs = fnC f ∧ f.ok
theorem rFn_stable : rFn.Stable := fun _ _ _ _ _ h => h
def FnV (w : World) (v : Value) (f : Fn) : Prop := v = .agg #[.int .i64 f.id, .int .i64 f.parent, .string f.name] ∧ f.ok
theorem opens_fn : Opens Try.prog 74 rFn := fun enc w base spare held fuel cs x h => by
  obtain ⟨hl, hf⟩ := trod_fields Try.underlying74 (by kernel_rfl) (by kernel_rfl) h
  match cs, hl with
  | [c0, c1, c2], _ =>
    obtain ⟨v0, y0, n0, e0, h0⟩ := hf 0 _ rfl
    obtain ⟨v1, y1, n1, e1, h1⟩ := hf 1 _ rfl
    obtain ⟨v2, y2, n2, e2, h2⟩ := hf 2 _ rfl
    obtain rfl : c0 = v0 := by simpa using e0
    obtain rfl : c1 = v1 := by simpa using e1
    obtain rfl : c2 = v2 := by simpa using e2
    obtain ⟨a0, e0, w0⟩ := opens_int Try.underlying3 enc w base spare held n0 _ _ h0
    obtain ⟨a1, e1, w1⟩ := opens_int Try.underlying3 enc w base spare held n1 _ _ h1
    obtain ⟨a2, e2, w2⟩ := opens_str Try.underlying9 enc w base spare held n2 _ _ h2
    exact ⟨⟨a0, a1, a2⟩, by simp_all [fnC], w0, w1, w2⟩
theorem opens_fns : Opens Try.prog 78 (rRow 3 rFn) := opens_row Try.underlying78 (by kernel_rfl) (by decide) opens_fn

section
variable {H : Type} {enc : TypeId × Value → H} {w : World} {base b0 : Nat} {spare : Nat → Bool} {held : Bool} {r : Reach} {v : Value} {d : DataW H} {p : List MemPlace}
theorem arg_fn (hv : Value.okWide Try.prog w r b0 74 v) (h : DataW.Trod enc Try.prog w base spare held 74 v d p) : ∃ x, FnV w v x := by
  obtain ⟨cs, rfl, _⟩ := okWide_struct Try.underlying74 hv
  obtain ⟨fuel, hf⟩ := h
  obtain ⟨x, e, hx⟩ := opens_fn enc w base spare held fuel _ _ hf
  exact ⟨x, by unfold fnC at e; rw [← e]; rfl, hx⟩
theorem arg_fns (hv : Value.okWide Try.prog w r b0 78 v) (h : DataW.Trod enc Try.prog w base spare held 78 v d p) : ∃ x, RowR 3 rFn w v x := by
  obtain ⟨a, len, cap, rfl⟩ := okWide_slice Try.underlying78 hv
  obtain ⟨fuel, hf⟩ := h
  obtain ⟨x, s, e, hx⟩ := opens_fns enc w base spare held fuel _ _ hf
  obtain rfl : Value.slice a len cap = s := by simpa [Value.cells] using e
  exact ⟨x, hx⟩
end

/-- Functions that are read: where they lie. -/
theorem RowR.fns {w : World} {v : Value} {xs : List Fn} (h : RowR 3 rFn w v xs) : ∃ a cap, v = .slice a xs.length cap ∧ xs.length ≤ cap ∧ cap ≤ maxLen ∧
    (xs = [] ∨ ∃ b off, b < w.heap.size ∧ a = some ⟨b, off, none⟩ ∧ ∀ i, i < xs.length → w.cell? ⟨b, off + i * 3, none⟩ = some (.int .i64 (xs.getD i fnD).id) ∧ w.cell? ⟨b, off + i * 3 + 1, none⟩ = some (.int .i64 (xs.getD i fnD).parent) ∧ w.cell? ⟨b, off + i * 3 + 2, none⟩ = some (.string (xs.getD i fnD).name) ∧ (xs.getD i fnD).ok) := by
  obtain ⟨a, cap, rfl, h1, h2, h3⟩ := h
  refine ⟨a, cap, rfl, h1, h2, h3.imp id ?_⟩
  rintro ⟨b, off, hlt, rfl, hc⟩
  refine ⟨b, off, hlt, rfl, fun i hi => ?_⟩
  obtain ⟨cs, hl, hcs, rfl, hok⟩ := hc i hi
  have f0 := hcs 0 (by simp only [fnC, List.length_cons, List.length_nil]; omega)
  have f1 := hcs 1 (by simp only [fnC, List.length_cons, List.length_nil]; omega)
  have f2 := hcs 2 (by simp only [fnC, List.length_cons, List.length_nil]; omega)
  simp only [fnC, List.getElem_cons_zero, List.getElem_cons_succ, Nat.add_zero] at f0 f1 f2
  rw [getF_lt hi]
  exact ⟨f0, f1, f2, hok⟩
theorem RowR.fns_ok {w : World} {v : Value} {xs : List Fn} (h : RowR 3 rFn w v xs) : ∀ e ∈ xs, e.ok := by
  obtain ⟨a, cap, rfl, h1, h2, h3⟩ := h
  intro e he
  rcases h3 with rfl | ⟨b, off, _, _, hc⟩
  · cases he
  · obtain ⟨i, hi, rfl⟩ := List.getElem_of_mem he
    obtain ⟨cs, _, _, h⟩ := hc i hi
    exact h.2
end Go.Proofs.Ytlkflnpndeeckaa
