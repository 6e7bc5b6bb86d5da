/- A list of holds by its cells: each hold and where its series lie. -/
import Derived.Test.YtkjpehpodlpdhaaTyHo
import Derived.Test.YtkjpehpodlpdhaaToHo
import Derived.Test.YtkjpehpodlpdhaaCells
namespace Go.Proofs.Ytkjpehpodlpdhaa
set_option linter.unusedVariables false
open Go.RowKit

/-- A hold and where its series lie. -/
abbrev Hp := Ho × (Option Addr × Nat × Nat)
def hpD : Hp := (hoD, (none, 0, 0))
instance : Inhabited Hp := ⟨hpD⟩
def hpS (x : Option Addr × Nat × Nat) : Value := .slice x.1 x.2.1 x.2.2
def hpC (x : Hp) : List Value := [.int .i64 x.1.id, .int .i64 x.1.frm, .int .i64 x.1.til, hpS x.2, .int .i64 x.1.fst, .int .i64 x.1.lst]
def slcH : Option Value → Option Addr × Nat × Nat
  | some (.slice a n c) => (a, n, c)
  | _ => (none, 0, 0)
/-- A list of holds by its cells. -/
def HC (w : World) (v : Value) (es : List Hp) : Prop := ∃ a cap, v = .slice a es.length cap ∧ es.length ≤ cap ∧ cap ≤ maxLen ∧
    (es = [] ∨ ∃ b off, b < w.heap.size ∧ a = some ⟨b, off, none⟩ ∧ ∀ i, i < es.length → ∀ j u, (hpC (es.getD i hpD))[j]? = some u → w.cell? ⟨b, off + i * 6 + j, none⟩ = some u)
def GoodH (w : World) (x : Hp) : Prop := HoV w (.agg #[.int .i64 x.1.id, .int .i64 x.1.frm, .int .i64 x.1.til, hpS x.2, .int .i64 x.1.fst, .int .i64 x.1.lst]) x.1
theorem RowR.hcells {w : World} {v : Value} {t : List Ho} (h : RowR 6 rHo w v t) : ∃ es : List Hp, es.map (·.1) = t ∧ HC w v es ∧ ∀ x ∈ es, GoodH w x := by
  obtain ⟨a, c, rfl, h1, h2, h3⟩ := h.hos
  rcases h3 with rfl | ⟨b, off, hb, rfl, hc⟩
  · exact ⟨[], rfl, ⟨a, c, rfl, h1, h2, .inl rfl⟩, fun x hx => by simp at hx⟩
  · have key : ∀ i, i < t.length → (((List.range t.length).map (fun i => (t.getD i hoD, slcH (w.cell? ⟨b, off + i * 6 + 3, none⟩)))).getD i hpD) = (t.getD i hoD, slcH (w.cell? ⟨b, off + i * 6 + 3, none⟩)) := fun i hi => by
      rw [List.getD_eq_getElem?_getD, List.getElem?_map, List.getElem?_range hi]; rfl
    refine ⟨(List.range t.length).map (fun i => (t.getD i hoD, slcH (w.cell? ⟨b, off + i * 6 + 3, none⟩))), ?_, ⟨_, c, by simp, by simpa using h1, h2, .inr ⟨b, off, hb, rfl, fun i hi j u hu => ?_⟩⟩, fun x hx => ?_⟩
    · rw [List.map_map]
      apply List.ext_getElem
      · simp
      · intro i h1 h2
        simp
        rw [List.getElem?_eq_getElem h2]
        rfl
    · have hi2 : i < t.length := by simpa using hi
      obtain ⟨s, e0, e1, e2, e3, e4, e5, hr, _⟩ := hc i hi2
      obtain ⟨sa, sc, rfl, _⟩ := hr
      rw [key i hi2, e3] at hu
      match j, hu with
      | 0, hu => cases hu; exact e0
      | 1, hu => cases hu; exact e1
      | 2, hu => cases hu; exact e2
      | 3, hu => cases hu; exact e3
      | 4, hu => cases hu; exact e4
      | 5, hu => cases hu; exact e5
      | j + 6, hu => simp [hpC] at hu
    · obtain ⟨i, hi, rfl⟩ := List.mem_map.1 hx
      have hi2 : i < t.length := List.mem_range.1 hi
      obtain ⟨s, e0, e1, e2, e3, e4, e5, hr, hok⟩ := hc i hi2
      have hr2 := hr
      obtain ⟨sa, sc, rfl, _⟩ := hr
      refine ⟨_, rfl, ?_, hok⟩
      simp only [e3, slcH, hpS]
      exact hr2
theorem GoodH.below {w w' : World} {x : Hp} (h : GoodH w x) (hb : Below w.heap.size w w') : GoodH w' x := HoV.below h hb
end Go.Proofs.Ytkjpehpodlpdhaa
