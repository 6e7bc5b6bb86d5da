/- File and lists of them: how the laws' and the program's read. -/
import Derived.Test.YtpbjddiopfkgbaaDoorFrame
import Derived.Test.YtpbjddiopfkgbaaDoorArg
import Derived.Test.YtpbjddiopfkgbaaDoorFiM
namespace Go.Proofs.YtpbjddiopfkgbaaDoor
set_option linter.unusedVariables false
set_option maxRecDepth 20000
open Go.RowKit Go.ChangeShapes Go.WideShapes Go.Deep

def fiC (f : Fi) : List Value := [.int .i64 f.id, .int .i64 f.series, .string f.title, .int .i64 f.opened, .int .i64 f.closed, .int .i64 f.state, .int .i64 f.pages]
def Fi.ok (f : Fi) : Prop := inI f.id ∧ inI f.series ∧ f.title.size ≤ maxLen ∧ inI f.opened ∧ inI f.closed ∧ inI f.state ∧ inI f.pages
def rFi : Rd Fi := fun _ cs f => cs = fiC f ∧ f.ok
theorem rFi_stable : rFi.Stable := fun _ _ _ _ _ h => h
def FiV (w : World) (v : Value) (f : Fi) : Prop := v = .agg #[.int .i64 f.id, .int .i64 f.series, .string f.title, .int .i64 f.opened, .int .i64 f.closed, .int .i64 f.state, .int .i64 f.pages] ∧ f.ok
theorem opens_fi : Opens Tryd.prog 94 rFi := fun enc w base spare held fuel cs x h => by
  obtain ⟨hl, hf⟩ := trod_fields Tryd.underlying94 (by kernel_rfl) (by kernel_rfl) h
  match cs, hl with
  | [c0, c1, c2, c3, c4, c5, c6], _ =>
    obtain ⟨v0, y0, n0, e0, h0⟩ := hf 0 _ rfl
    obtain ⟨v1, y1, n1, e1, h1⟩ := hf 1 _ rfl
    obtain ⟨v2, y2, n2, e2, h2⟩ := hf 2 _ rfl
    obtain ⟨v3, y3, n3, e3, h3⟩ := hf 3 _ rfl
    obtain ⟨v4, y4, n4, e4, h4⟩ := hf 4 _ rfl
    obtain ⟨v5, y5, n5, e5, h5⟩ := hf 5 _ rfl
    obtain ⟨v6, y6, n6, e6, h6⟩ := hf 6 _ rfl
    obtain rfl : c0 = v0 := by simpa using e0
    obtain rfl : c1 = v1 := by simpa using e1
    obtain rfl : c2 = v2 := by simpa using e2
    obtain rfl : c3 = v3 := by simpa using e3
    obtain rfl : c4 = v4 := by simpa using e4
    obtain rfl : c5 = v5 := by simpa using e5
    obtain rfl : c6 = v6 := by simpa using e6
    obtain ⟨a0, e0, w0⟩ := opens_int Tryd.underlying3 enc w base spare held n0 _ _ h0
    obtain ⟨a1, e1, w1⟩ := opens_int Tryd.underlying3 enc w base spare held n1 _ _ h1
    obtain ⟨a2, e2, w2⟩ := opens_str Tryd.underlying9 enc w base spare held n2 _ _ h2
    obtain ⟨a3, e3, w3⟩ := opens_int Tryd.underlying3 enc w base spare held n3 _ _ h3
    obtain ⟨a4, e4, w4⟩ := opens_int Tryd.underlying3 enc w base spare held n4 _ _ h4
    obtain ⟨a5, e5, w5⟩ := opens_int Tryd.underlying3 enc w base spare held n5 _ _ h5
    obtain ⟨a6, e6, w6⟩ := opens_int Tryd.underlying3 enc w base spare held n6 _ _ h6
    exact ⟨⟨a0, a1, a2, a3, a4, a5, a6⟩, by simp_all [fiC], w0, w1, w2, w3, w4, w5, w6⟩
theorem opens_fis : Opens Tryd.prog 56 (rRow 7 rFi) := opens_row Tryd.underlying56 (by kernel_rfl) (by decide) opens_fi

section
variable {H : Type} {enc : TypeId × Value → H} {w : World} {base b0 : Nat} {spare : Nat → Bool} {held : Bool} {r : Reach} {v : Value} {d : DataW H} {p : List MemPlace}
theorem arg_fi (hv : Value.okWide Tryd.prog w r b0 94 v) (h : DataW.Trod enc Tryd.prog w base spare held 94 v d p) : ∃ x, FiV w v x := by
  obtain ⟨cs, rfl, _⟩ := okWide_struct Tryd.underlying94 hv
  obtain ⟨fuel, hf⟩ := h
  obtain ⟨x, e, hx⟩ := opens_fi enc w base spare held fuel _ _ hf
  exact ⟨x, by unfold fiC at e; rw [← e]; rfl, hx⟩
theorem arg_fis (hv : Value.okWide Tryd.prog w r b0 56 v) (h : DataW.Trod enc Tryd.prog w base spare held 56 v d p) : ∃ x, RowR 7 rFi w v x := by
  obtain ⟨a, len, cap, rfl⟩ := okWide_slice Tryd.underlying56 hv
  obtain ⟨fuel, hf⟩ := h
  obtain ⟨x, s, e, hx⟩ := opens_fis enc w base spare held fuel _ _ hf
  obtain rfl : Value.slice a len cap = s := by simpa [Value.cells] using e
  exact ⟨x, hx⟩
end

/-- Files that are read: where they lie. -/
theorem RowR.fis {w : World} {v : Value} {xs : List Fi} (h : RowR 7 rFi w v xs) : ∃ a cap, v = .slice a xs.length cap ∧ xs.length ≤ cap ∧ cap ≤ maxLen ∧
    (xs = [] ∨ ∃ b off, b < w.heap.size ∧ a = some ⟨b, off, none⟩ ∧ ∀ i, i < xs.length → w.cell? ⟨b, off + i * 7, none⟩ = some (.int .i64 (xs.getD i fiD).id) ∧ w.cell? ⟨b, off + i * 7 + 1, none⟩ = some (.int .i64 (xs.getD i fiD).series) ∧ w.cell? ⟨b, off + i * 7 + 2, none⟩ = some (.string (xs.getD i fiD).title) ∧ w.cell? ⟨b, off + i * 7 + 3, none⟩ = some (.int .i64 (xs.getD i fiD).opened) ∧ w.cell? ⟨b, off + i * 7 + 4, none⟩ = some (.int .i64 (xs.getD i fiD).closed) ∧ w.cell? ⟨b, off + i * 7 + 5, none⟩ = some (.int .i64 (xs.getD i fiD).state) ∧ w.cell? ⟨b, off + i * 7 + 6, none⟩ = some (.int .i64 (xs.getD i fiD).pages) ∧ (xs.getD i fiD).ok) := by
  obtain ⟨a, cap, rfl, h1, h2, h3⟩ := h
  refine ⟨a, cap, rfl, h1, h2, h3.imp id ?_⟩
  rintro ⟨b, off, hlt, rfl, hc⟩
  refine ⟨b, off, hlt, rfl, fun i hi => ?_⟩
  obtain ⟨cs, hl, hcs, rfl, hok⟩ := hc i hi
  have f0 := hcs 0 (by simp only [fiC, List.length_cons, List.length_nil]; omega)
  have f1 := hcs 1 (by simp only [fiC, List.length_cons, List.length_nil]; omega)
  have f2 := hcs 2 (by simp only [fiC, List.length_cons, List.length_nil]; omega)
  have f3 := hcs 3 (by simp only [fiC, List.length_cons, List.length_nil]; omega)
  have f4 := hcs 4 (by simp only [fiC, List.length_cons, List.length_nil]; omega)
  have f5 := hcs 5 (by simp only [fiC, List.length_cons, List.length_nil]; omega)
  have f6 := hcs 6 (by simp only [fiC, List.length_cons, List.length_nil]; omega)
  simp only [fiC, List.getElem_cons_zero, List.getElem_cons_succ, Nat.add_zero] at f0 f1 f2 f3 f4 f5 f6
  rw [getFi_lt hi]
  exact ⟨f0, f1, f2, f3, f4, f5, f6, hok⟩
theorem RowR.fis_ok {w : World} {v : Value} {xs : List Fi} (h : RowR 7 rFi w v xs) : ∀ e ∈ xs, e.ok := by
  obtain ⟨a, cap, rfl, h1, h2, h3⟩ := h
  intro e he
  rcases h3 with rfl | ⟨b, off, _, _, hc⟩
  · cases he
  · obtain ⟨i, hi, rfl⟩ := List.getElem_of_mem he
    obtain ⟨cs, _, _, h⟩ := hc i hi
    exact h.2
end Go.Proofs.YtpbjddiopfkgbaaDoor
