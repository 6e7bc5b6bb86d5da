/- Format and lists of them: how the laws' and the program's read. -/
import Derived.Test.YtcfghigmijibeaaFrame
import Derived.Test.YtcfghigmijibeaaArg
import Derived.Test.YtcfghigmijibeaaFoM
import Derived.Test.YtcfghigmijibeaaInts
import Derived.Test.YtcfghigmijibeaaIntsN
namespace Go.Proofs.Ytcfghigmijibeaa
set_option linter.unusedVariables false
set_option maxRecDepth 20000
open Go.RowKit Go.ChangeShapes Go.WideShapes Go.Deep

def Fo.ok (f : Fo) : Prop := inI f.id ∧ f.name.size ≤ maxLen ∧ inI f.til
def rFo : Rd Fo := fun w cs f => ∃ v, cs = [.int .i64 f.id, .string f.name, .int .i64 f.til, v] ∧ RowOf vI w v f.reads ∧ f.ok
theorem rFo_stable : rFo.Stable := fun _ _ _ _ hb ⟨v, e, h, k⟩ => ⟨v, e, h.below hb, k⟩
def FoV (w : World) (v : Value) (f : Fo) : Prop := ∃ s, v = .agg #[.int .i64 f.id, .string f.name, .int .i64 f.til, s] ∧ RowOf vI w s f.reads ∧ f.ok
theorem FoV.below {w w' : World} {v : Value} {r : Fo} (h : FoV w v r) (hb : Below w.heap.size w w') : FoV w' v r := by
  obtain ⟨s, e, h, k⟩ := h
  exact ⟨s, e, h.below hb, k⟩
theorem opens_fo : Opens Try.prog 59 rFo := fun enc w base spare held fuel cs x h => by
  obtain ⟨hl, hf⟩ := trod_fields Try.underlying59 (by kernel_rfl) (by kernel_rfl) h
  match cs, hl with
  | [c0, c1, c2, c3], _ =>
    obtain ⟨v0, y0, n0, e0, h0⟩ := hf 0 _ rfl
    obtain ⟨v1, y1, n1, e1, h1⟩ := hf 1 _ rfl
    obtain ⟨v2, y2, n2, e2, h2⟩ := hf 2 _ rfl
    obtain ⟨v3, y3, n3, e3, h3⟩ := hf 3 _ rfl
    obtain rfl : c0 = v0 := by simpa using e0
    obtain rfl : c1 = v1 := by simpa using e1
    obtain rfl : c2 = v2 := by simpa using e2
    obtain rfl : c3 = v3 := by simpa using e3
    obtain ⟨a0, e0, w0⟩ := opens_int Try.underlying3 enc w base spare held n0 _ _ h0
    obtain ⟨a1, e1, w1⟩ := opens_str Try.underlying9 enc w base spare held n1 _ _ h1
    obtain ⟨a2, e2, w2⟩ := opens_int Try.underlying3 enc w base spare held n2 _ _ h2
    obtain ⟨a3, u3, e3, w3⟩ := (opens_ints Try.underlying39 Try.underlying3 (by kernel_rfl)) enc w base spare held n3 _ _ h3
    exact ⟨⟨a0, a1, a2, a3⟩, u3, by simp_all, w3, w0, w1, w2⟩
theorem opens_fos : Opens Try.prog 22 (rRow 4 rFo) := opens_row Try.underlying22 (by kernel_rfl) (by decide) opens_fo

section
variable {H : Type} {enc : TypeId × Value → H} {w : World} {base b0 : Nat} {spare : Nat → Bool} {held : Bool} {r : Reach} {v : Value} {d : DataW H} {p : List MemPlace}
theorem arg_fo (hv : Value.okWide Try.prog w r b0 59 v) (h : DataW.Trod enc Try.prog w base spare held 59 v d p) : ∃ x, FoV w v x := by
  obtain ⟨cs, rfl, _⟩ := okWide_struct Try.underlying59 hv
  obtain ⟨fuel, hf⟩ := h
  obtain ⟨x, s, e, hx⟩ := opens_fo enc w base spare held fuel _ _ hf
  exact ⟨x, s, by rw [← e]; rfl, hx⟩
theorem arg_fos (hv : Value.okWide Try.prog w r b0 22 v) (h : DataW.Trod enc Try.prog w base spare held 22 v d p) : ∃ x, RowR 4 rFo w v x := by
  obtain ⟨a, len, cap, rfl⟩ := okWide_slice Try.underlying22 hv
  obtain ⟨fuel, hf⟩ := h
  obtain ⟨x, s, e, hx⟩ := opens_fos enc w base spare held fuel _ _ hf
  obtain rfl : Value.slice a len cap = s := by simpa [Value.cells] using e
  exact ⟨x, hx⟩
end

/-- A list that is read: where it lies. -/
theorem RowR.fos {w : World} {v : Value} {xs : List Fo} (h : RowR 4 rFo w v xs) : ∃ a cap, v = .slice a xs.length cap ∧ xs.length ≤ cap ∧ cap ≤ maxLen ∧
    (xs = [] ∨ ∃ b off, b < w.heap.size ∧ a = some ⟨b, off, none⟩ ∧ ∀ i, i < xs.length → ∃ s, w.cell? ⟨b, off + i * 4, none⟩ = some (.int .i64 (xs.getD i foD).id) ∧ w.cell? ⟨b, off + i * 4 + 1, none⟩ = some (.string (xs.getD i foD).name) ∧ w.cell? ⟨b, off + i * 4 + 2, none⟩ = some (.int .i64 (xs.getD i foD).til) ∧ w.cell? ⟨b, off + i * 4 + 3, none⟩ = some s ∧ RowOf vI w s (xs.getD i foD).reads ∧ (xs.getD i foD).ok) := by
  obtain ⟨a, cap, rfl, h1, h2, h3⟩ := h
  refine ⟨a, cap, rfl, h1, h2, h3.imp id ?_⟩
  rintro ⟨b, off, hlt, rfl, hc⟩
  refine ⟨b, off, hlt, rfl, fun i hi => ?_⟩
  obtain ⟨cs, hl, hcs, s, rfl, hr, hok⟩ := hc i hi
  have f0 := hcs 0 (by simp only [List.length_cons, List.length_nil]; omega)
  have f1 := hcs 1 (by simp only [List.length_cons, List.length_nil]; omega)
  have f2 := hcs 2 (by simp only [List.length_cons, List.length_nil]; omega)
  have f3 := hcs 3 (by simp only [List.length_cons, List.length_nil]; omega)
  simp only [List.getElem_cons_zero, List.getElem_cons_succ, Nat.add_zero] at f0 f1 f2 f3
  rw [getFo_lt hi]
  exact ⟨s, f0, f1, f2, f3, hr, hok⟩
end Go.Proofs.Ytcfghigmijibeaa
