/- Hold and lists of them: how the laws' and the program's read. -/
import Derived.Test.YtkjpehpodlpdhaaFrame
import Derived.Test.YtkjpehpodlpdhaaArg
import Derived.Test.YtkjpehpodlpdhaaHoM
import Derived.Test.YtkjpehpodlpdhaaInts
import Derived.Test.YtkjpehpodlpdhaaIntsN
namespace Go.Proofs.Ytkjpehpodlpdhaa
set_option linter.unusedVariables false
set_option maxRecDepth 20000
open Go.RowKit Go.ChangeShapes Go.WideShapes Go.Deep

def Ho.ok (f : Ho) : Prop := inI f.id ∧ inI f.frm ∧ inI f.til ∧ inI f.fst ∧ inI f.lst
def rHo : Rd Ho := fun w cs f => ∃ v, cs = [.int .i64 f.id, .int .i64 f.frm, .int .i64 f.til, v, .int .i64 f.fst, .int .i64 f.lst] ∧ RowOf vI w v f.ser ∧ f.ok
theorem rHo_stable : rHo.Stable := fun _ _ _ _ hb ⟨v, e, h, k⟩ => ⟨v, e, h.below hb, k⟩
def HoV (w : World) (v : Value) (f : Ho) : Prop := ∃ s, v = .agg #[.int .i64 f.id, .int .i64 f.frm, .int .i64 f.til, s, .int .i64 f.fst, .int .i64 f.lst] ∧ RowOf vI w s f.ser ∧ f.ok
theorem HoV.below {w w' : World} {v : Value} {r : Ho} (h : HoV w v r) (hb : Below w.heap.size w w') : HoV w' v r := by
  obtain ⟨s, e, h, k⟩ := h
  exact ⟨s, e, h.below hb, k⟩
theorem opens_ho : Opens Try.prog 99 rHo := fun enc w base spare held fuel cs x h => by
  obtain ⟨hl, hf⟩ := trod_fields Try.underlying99 (by kernel_rfl) (by kernel_rfl) h
  match cs, hl with
  | [c0, c1, c2, c3, c4, c5], _ =>
    obtain ⟨v0, y0, n0, e0, h0⟩ := hf 0 _ rfl
    obtain ⟨v1, y1, n1, e1, h1⟩ := hf 1 _ rfl
    obtain ⟨v2, y2, n2, e2, h2⟩ := hf 2 _ rfl
    obtain ⟨v3, y3, n3, e3, h3⟩ := hf 3 _ rfl
    obtain ⟨v4, y4, n4, e4, h4⟩ := hf 4 _ rfl
    obtain ⟨v5, y5, n5, e5, h5⟩ := hf 5 _ rfl
    obtain rfl : c0 = v0 := by simpa using e0
    obtain rfl : c1 = v1 := by simpa using e1
    obtain rfl : c2 = v2 := by simpa using e2
    obtain rfl : c3 = v3 := by simpa using e3
    obtain rfl : c4 = v4 := by simpa using e4
    obtain rfl : c5 = v5 := by simpa using e5
    obtain ⟨a0, e0, w0⟩ := opens_int Try.underlying3 enc w base spare held n0 _ _ h0
    obtain ⟨a1, e1, w1⟩ := opens_int Try.underlying3 enc w base spare held n1 _ _ h1
    obtain ⟨a2, e2, w2⟩ := opens_int Try.underlying3 enc w base spare held n2 _ _ h2
    obtain ⟨a4, e4, w4⟩ := opens_int Try.underlying3 enc w base spare held n4 _ _ h4
    obtain ⟨a5, e5, w5⟩ := opens_int Try.underlying3 enc w base spare held n5 _ _ h5
    obtain ⟨a3, u3, e3, w3⟩ := (opens_ints Try.underlying33 Try.underlying3 (by kernel_rfl)) enc w base spare held n3 _ _ h3
    exact ⟨⟨a0, a1, a2, a3, a4, a5⟩, u3, by simp_all, w3, w0, w1, w2, w4, w5⟩
theorem opens_hos : Opens Try.prog 22 (rRow 6 rHo) := opens_row Try.underlying22 (by kernel_rfl) (by decide) opens_ho

section
variable {H : Type} {enc : TypeId × Value → H} {w : World} {base b0 : Nat} {spare : Nat → Bool} {held : Bool} {r : Reach} {v : Value} {d : DataW H} {p : List MemPlace}
theorem arg_ho (hv : Value.okWide Try.prog w r b0 99 v) (h : DataW.Trod enc Try.prog w base spare held 99 v d p) : ∃ x, HoV w v x := by
  obtain ⟨cs, rfl, _⟩ := okWide_struct Try.underlying99 hv
  obtain ⟨fuel, hf⟩ := h
  obtain ⟨x, s, e, hx⟩ := opens_ho enc w base spare held fuel _ _ hf
  exact ⟨x, s, by rw [← e]; rfl, hx⟩
theorem arg_hos (hv : Value.okWide Try.prog w r b0 22 v) (h : DataW.Trod enc Try.prog w base spare held 22 v d p) : ∃ x, RowR 6 rHo w v x := by
  obtain ⟨a, len, cap, rfl⟩ := okWide_slice Try.underlying22 hv
  obtain ⟨fuel, hf⟩ := h
  obtain ⟨x, s, e, hx⟩ := opens_hos enc w base spare held fuel _ _ hf
  obtain rfl : Value.slice a len cap = s := by simpa [Value.cells] using e
  exact ⟨x, hx⟩
end

/-- A list that is read: where it lies. -/
theorem RowR.hos {w : World} {v : Value} {xs : List Ho} (h : RowR 6 rHo w v xs) : ∃ a cap, v = .slice a xs.length cap ∧ xs.length ≤ cap ∧ cap ≤ maxLen ∧
    (xs = [] ∨ ∃ b off, b < w.heap.size ∧ a = some ⟨b, off, none⟩ ∧ ∀ i, i < xs.length → ∃ s, w.cell? ⟨b, off + i * 6, none⟩ = some (.int .i64 (xs.getD i hoD).id) ∧ w.cell? ⟨b, off + i * 6 + 1, none⟩ = some (.int .i64 (xs.getD i hoD).frm) ∧ w.cell? ⟨b, off + i * 6 + 2, none⟩ = some (.int .i64 (xs.getD i hoD).til) ∧ w.cell? ⟨b, off + i * 6 + 3, none⟩ = some s ∧ w.cell? ⟨b, off + i * 6 + 4, none⟩ = some (.int .i64 (xs.getD i hoD).fst) ∧ w.cell? ⟨b, off + i * 6 + 5, none⟩ = some (.int .i64 (xs.getD i hoD).lst) ∧ RowOf vI w s (xs.getD i hoD).ser ∧ (xs.getD i hoD).ok) := by
  obtain ⟨a, cap, rfl, h1, h2, h3⟩ := h
  refine ⟨a, cap, rfl, h1, h2, h3.imp id ?_⟩
  rintro ⟨b, off, hlt, rfl, hc⟩
  refine ⟨b, off, hlt, rfl, fun i hi => ?_⟩
  obtain ⟨cs, hl, hcs, s, rfl, hr, hok⟩ := hc i hi
  have f0 := hcs 0 (by simp only [List.length_cons, List.length_nil]; omega)
  have f1 := hcs 1 (by simp only [List.length_cons, List.length_nil]; omega)
  have f2 := hcs 2 (by simp only [List.length_cons, List.length_nil]; omega)
  have f3 := hcs 3 (by simp only [List.length_cons, List.length_nil]; omega)
  have f4 := hcs 4 (by simp only [List.length_cons, List.length_nil]; omega)
  have f5 := hcs 5 (by simp only [List.length_cons, List.length_nil]; omega)
  simp only [List.getElem_cons_zero, List.getElem_cons_succ, Nat.add_zero] at f0 f1 f2 f3 f4 f5
  rw [getHo_lt hi]
  exact ⟨s, f0, f1, f2, f3, f4, f5, hr, hok⟩
end Go.Proofs.Ytkjpehpodlpdhaa
