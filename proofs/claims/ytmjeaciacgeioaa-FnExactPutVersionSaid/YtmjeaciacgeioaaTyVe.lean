/- Version and lists of them: how the laws' and the program's read. -/
import Derived.Test.YtmjeaciacgeioaaFrame
import Derived.Test.YtmjeaciacgeioaaArg
import Derived.Test.YtmjeaciacgeioaaVeM
import Derived.Test.YtmjeaciacgeioaaTyRu
import Derived.Test.YtmjeaciacgeioaaToRu
import Derived.Test.YtmjeaciacgeioaaEqRu
import Derived.Test.YtmjeaciacgeioaaMarkRu
import Derived.Test.YtmjeaciacgeioaaFlatN
namespace Go.Proofs.Ytmjeaciacgeioaa
set_option linter.unusedVariables false
set_option maxRecDepth 20000
open Go.RowKit Go.ChangeShapes Go.WideShapes Go.Deep

def Ve.ok (f : Ve) : Prop := inI f.frm
def rVe : Rd Ve := fun w cs f => ∃ v, cs = [.int .i64 f.frm, v] ∧ RowR 4 rRu w v f.rules ∧ f.ok
theorem rVe_stable : rVe.Stable := fun _ _ _ _ hb ⟨v, e, h, k⟩ => ⟨v, e, h.below rRu_stable hb, k⟩
def VeV (w : World) (v : Value) (f : Ve) : Prop := ∃ s, v = .agg #[.int .i64 f.frm, s] ∧ RowR 4 rRu w s f.rules ∧ f.ok
theorem VeV.below {w w' : World} {v : Value} {r : Ve} (h : VeV w v r) (hb : Below w.heap.size w w') : VeV w' v r := by
  obtain ⟨s, e, h, k⟩ := h
  exact ⟨s, e, h.below rRu_stable hb, k⟩
theorem opens_ve : Opens Try.prog 65 rVe := fun enc w base spare held fuel cs x h => by
  obtain ⟨hl, hf⟩ := trod_fields Try.underlying65 (by kernel_rfl) (by kernel_rfl) h
  match cs, hl with
  | [c0, c1], _ =>
    obtain ⟨v0, y0, n0, e0, h0⟩ := hf 0 _ rfl
    obtain ⟨v1, y1, n1, e1, h1⟩ := hf 1 _ rfl
    obtain rfl : c0 = v0 := by simpa using e0
    obtain rfl : c1 = v1 := by simpa using e1
    obtain ⟨a0, e0, w0⟩ := opens_int Try.underlying3 enc w base spare held n0 _ _ h0
    obtain ⟨a1, u1, e1, w1⟩ := (opens_rus) enc w base spare held n1 _ _ h1
    exact ⟨⟨a0, a1⟩, u1, by simp_all, w1, w0⟩
theorem opens_ves : Opens Try.prog 62 (rRow 2 rVe) := opens_row Try.underlying62 (by kernel_rfl) (by decide) opens_ve

section
variable {H : Type} {enc : TypeId × Value → H} {w : World} {base b0 : Nat} {spare : Nat → Bool} {held : Bool} {r : Reach} {v : Value} {d : DataW H} {p : List MemPlace}
theorem arg_ve (hv : Value.okWide Try.prog w r b0 65 v) (h : DataW.Trod enc Try.prog w base spare held 65 v d p) : ∃ x, VeV w v x := by
  obtain ⟨cs, rfl, _⟩ := okWide_struct Try.underlying65 hv
  obtain ⟨fuel, hf⟩ := h
  obtain ⟨x, s, e, hx⟩ := opens_ve enc w base spare held fuel _ _ hf
  exact ⟨x, s, by rw [← e]; rfl, hx⟩
theorem arg_ves (hv : Value.okWide Try.prog w r b0 62 v) (h : DataW.Trod enc Try.prog w base spare held 62 v d p) : ∃ x, RowR 2 rVe w v x := by
  obtain ⟨a, len, cap, rfl⟩ := okWide_slice Try.underlying62 hv
  obtain ⟨fuel, hf⟩ := h
  obtain ⟨x, s, e, hx⟩ := opens_ves enc w base spare held fuel _ _ hf
  obtain rfl : Value.slice a len cap = s := by simpa [Value.cells] using e
  exact ⟨x, hx⟩
end

/-- A list that is read: where it lies. -/
theorem RowR.ves {w : World} {v : Value} {xs : List Ve} (h : RowR 2 rVe w v xs) : ∃ a cap, v = .slice a xs.length cap ∧ xs.length ≤ cap ∧ cap ≤ maxLen ∧
    (xs = [] ∨ ∃ b off, b < w.heap.size ∧ a = some ⟨b, off, none⟩ ∧ ∀ i, i < xs.length → ∃ s, w.cell? ⟨b, off + i * 2, none⟩ = some (.int .i64 (xs.getD i veD).frm) ∧ w.cell? ⟨b, off + i * 2 + 1, none⟩ = some s ∧ RowR 4 rRu w s (xs.getD i veD).rules ∧ (xs.getD i veD).ok) := by
  obtain ⟨a, cap, rfl, h1, h2, h3⟩ := h
  refine ⟨a, cap, rfl, h1, h2, h3.imp id ?_⟩
  rintro ⟨b, off, hlt, rfl, hc⟩
  refine ⟨b, off, hlt, rfl, fun i hi => ?_⟩
  obtain ⟨cs, hl, hcs, s, rfl, hr, hok⟩ := hc i hi
  have f0 := hcs 0 (by simp only [List.length_cons, List.length_nil]; omega)
  have f1 := hcs 1 (by simp only [List.length_cons, List.length_nil]; omega)
  simp only [List.getElem_cons_zero, List.getElem_cons_succ, Nat.add_zero] at f0 f1
  rw [getVe_lt hi]
  exact ⟨s, f0, f1, hr, hok⟩
end Go.Proofs.Ytmjeaciacgeioaa
