/- The functions that say what a record and what records are: they answer isRec and areRecs. -/
import Derived.Test.YtpcdjpkcalbpkaaDoorRecM
import Derived.Test.YtpcdjpkcalbpkaaDoorToRec
import Derived.Lib.QuietBelow
import Derived.BigQuiet
import Derived.WalkSmall
namespace Go.Proofs.YtpcdjpkcalbpkaaDoor
set_option linter.unusedVariables false
open Go.RowKit Go.Sort

/-- Events that are read: where they lie. -/
theorem RowR.evs {w : World} {v : Value} {xs : List Ev} (h : RowR 2 rEv w v xs) : ∃ a cap, v = .slice a xs.length cap ∧ xs.length ≤ cap ∧ cap ≤ maxLen ∧
    (xs = [] ∨ ∃ b off, b < w.heap.size ∧ a = some ⟨b, off, none⟩ ∧ ∀ i, i < xs.length → w.cell? ⟨b, off + i * 2, none⟩ = some (.int .i64 (xs.getD i evD).kind) ∧ w.cell? ⟨b, off + i * 2 + 1, none⟩ = some (.int .i64 (xs.getD i evD).day) ∧ (xs.getD i evD).ok) := by
  obtain ⟨a, cap, rfl, h1, h2, h3⟩ := h
  refine ⟨a, cap, rfl, h1, h2, h3.imp id ?_⟩
  rintro ⟨b, off, hlt, rfl, hc⟩
  refine ⟨b, off, hlt, rfl, fun i hi => ?_⟩
  obtain ⟨cs, hl, hcs, rfl, hok⟩ := hc i hi
  have f1 := hcs 0 (by omega)
  have f2 := hcs 1 (by omega)
  simp only [evC, List.getElem_cons_zero, List.getElem_cons_succ, Nat.add_zero] at f1 f2
  rw [getD_lt hi]
  exact ⟨f1, f2, hok⟩

theorem notRec {id series made : Int} {evs : List Ev} {k : Nat} (hk : k < evs.length) (h : evAtB made evs k = false) : isRec ⟨id, series, made, evs⟩ = false := by
  simp only [isRec]
  rw [upto_false hk h]
  simp

end Go.Proofs.YtpcdjpkcalbpkaaDoor
