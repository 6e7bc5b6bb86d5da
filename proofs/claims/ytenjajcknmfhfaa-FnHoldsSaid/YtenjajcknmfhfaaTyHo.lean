/- Hold and lists of them: how the laws' and the program's read. -/
import Derived.Test.YtenjajcknmfhfaaFrame
import Derived.Test.YtenjajcknmfhfaaArg
import Derived.Test.YtenjajcknmfhfaaHoM
import Derived.Test.YtenjajcknmfhfaaInts
import Derived.Test.YtenjajcknmfhfaaIntsN
namespace Go.Proofs.Ytenjajcknmfhfaa
set_option linter.unusedVariables false
set_option maxRecDepth 20000
open Go.RowKit Go.ChangeShapes Go.WideShapes Go.Deep

def Ho.ok (f : Ho) : Prop := inI f.id ∧ inI f.frm ∧ inI f.til ∧ inI f.fst ∧ inI f.lst
def rHo : Rd Ho := fun w cs f => ∃ v, cs = [.int .i64 f.id, .int .i64 f.frm, .int .i64 f.til, v, .int .i64 f.fst, .int .i64 f.lst] ∧ RowOf vI w v f.ser ∧ f.ok
theorem rHo_stable : rHo.Stable := fun _ _ _ _ hb ⟨v, e, h, k⟩ => ⟨v, e, h.below hb, k⟩
def HoV (w : World) (v : Value) (f : Ho) : Prop := ∃ s, v = .agg #[.int .i64 f.id, .int .i64 f.frm, .int .i64 f.til, s, .int .i64 f.fst, .int .i64 f.lst] ∧ RowOf vI w s f.ser ∧ f.ok
theorem HoV.below {w w' : World} {v : Value} {r : Ho} (h : HoV w v r) (hb : Below w.heap.size w w') : HoV w' v r := by
  obtain ⟨s, e, h, k⟩ := h
  exact ⟨s, e, h.below hb, k⟩

section
variable {H : Type} {enc : TypeId × Value → H} {w : World} {base b0 : Nat} {spare : Nat → Bool} {held : Bool} {r : Reach} {v : Value} {d : DataW H} {p : List MemPlace}
end

/-- A list that is read: where it lies. -/
theorem RowR.hos {w : World} {v : Value} {xs : List Ho} (h : RowR 6 rHo w v xs) : ∃ a cap, v = .slice a xs.length cap ∧ xs.length ≤ cap ∧ cap ≤ maxLen ∧
    (xs = [] ∨ ∃ b off, b < w.heap.size ∧ a = some ⟨b, off, none⟩ ∧ ∀ i, i < xs.length → ∃ s, w.cell? ⟨b, off + i * 6, none⟩ = some (.int .i64 (xs.getD i hoD).id) ∧ w.cell? ⟨b, off + i * 6 + 1, none⟩ = some (.int .i64 (xs.getD i hoD).frm) ∧ w.cell? ⟨b, off + i * 6 + 2, none⟩ = some (.int .i64 (xs.getD i hoD).til) ∧ w.cell? ⟨b, off + i * 6 + 3, none⟩ = some s ∧ w.cell? ⟨b, off + i * 6 + 4, none⟩ = some (.int .i64 (xs.getD i hoD).fst) ∧ w.cell? ⟨b, off + i * 6 + 5, none⟩ = some (.int .i64 (xs.getD i hoD).lst) ∧ RowOf vI w s (xs.getD i hoD).ser ∧ (xs.getD i hoD).ok) := by
  obtain ⟨a, cap, rfl, h1, h2, h3⟩ := h
  refine ⟨a, cap, rfl, h1, h2, h3.imp id ?_⟩
  rintro ⟨b, off, hlt, rfl, hc⟩
  refine ⟨b, off, hlt, rfl, fun i hi => ?_⟩
  obtain ⟨cs, hl, hcs, s, rfl, hr, hok⟩ := hc i hi
  have f0 := hcs 0 (by simp only [List.length_cons, List.length_nil]; omega)
  have f1 := hcs 1 (by simp only [List.length_cons, List.length_nil]; omega)
  have f2 := hcs 2 (by simp only [List.length_cons, List.length_nil]; omega)
  have f3 := hcs 3 (by simp only [List.length_cons, List.length_nil]; omega)
  have f4 := hcs 4 (by simp only [List.length_cons, List.length_nil]; omega)
  have f5 := hcs 5 (by simp only [List.length_cons, List.length_nil]; omega)
  simp only [List.getElem_cons_zero, List.getElem_cons_succ, Nat.add_zero] at f0 f1 f2 f3 f4 f5
  rw [getHo_lt hi]
  exact ⟨s, f0, f1, f2, f3, f4, f5, hr, hok⟩
end Go.Proofs.Ytenjajcknmfhfaa
