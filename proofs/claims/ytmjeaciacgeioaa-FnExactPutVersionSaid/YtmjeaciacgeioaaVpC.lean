/- A list of versions by its cells: each version and where its rules lie. -/
import Derived.Test.YtmjeaciacgeioaaTyVe
import Derived.Test.YtmjeaciacgeioaaToVe
import Derived.Test.YtmjeaciacgeioaaCells
import Derived.Test.YtmjeaciacgeioaaFlat
import Derived.Test.YtmjeaciacgeioaaPuts
namespace Go.Proofs.Ytmjeaciacgeioaa
set_option linter.unusedVariables false
open Go.RowKit

/-- A version and where its rules lie. -/
abbrev Vp := Ve × (Option Addr × Nat × Nat)
def vpD : Vp := (veD, (none, 0, 0))
instance : Inhabited Vp := ⟨vpD⟩
def vpS (x : Option Addr × Nat × Nat) : Value := .slice x.1 x.2.1 x.2.2
def vpC (x : Vp) : List Value := [.int .i64 x.1.frm, vpS x.2]
def slcV : Option Value → Option Addr × Nat × Nat
  | some (.slice a n c) => (a, n, c)
  | _ => (none, 0, 0)
/-- A list of versions by its cells. -/
def VpL (w : World) (v : Value) (es : List Vp) : Prop := ∃ a cap, v = .slice a es.length cap ∧ es.length ≤ cap ∧ cap ≤ maxLen ∧
    (es = [] ∨ ∃ b off, b < w.heap.size ∧ a = some ⟨b, off, none⟩ ∧ ∀ i, i < es.length → ∀ j u, (vpC (es.getD i vpD))[j]? = some u → w.cell? ⟨b, off + i * 2 + j, none⟩ = some u)
def GoodV (w : World) (x : Vp) : Prop := VeV w (.agg #[.int .i64 x.1.frm, vpS x.2]) x.1
theorem RowR.vpcells {w : World} {v : Value} {t : List Ve} (h : RowR 2 rVe w v t) : ∃ es : List Vp, es.map (·.1) = t ∧ VpL w v es ∧ ∀ x ∈ es, GoodV w x := by
  obtain ⟨a, c, rfl, h1, h2, h3⟩ := h.ves
  rcases h3 with rfl | ⟨b, off, hb, rfl, hc⟩
  · exact ⟨[], rfl, ⟨a, c, rfl, h1, h2, .inl rfl⟩, fun x hx => by simp at hx⟩
  · have key : ∀ i, i < t.length → (((List.range t.length).map (fun i => (t.getD i veD, slcV (w.cell? ⟨b, off + i * 2 + 1, none⟩)))).getD i vpD) = (t.getD i veD, slcV (w.cell? ⟨b, off + i * 2 + 1, none⟩)) := fun i hi => by
      rw [List.getD_eq_getElem?_getD, List.getElem?_map, List.getElem?_range hi]; rfl
    refine ⟨(List.range t.length).map (fun i => (t.getD i veD, slcV (w.cell? ⟨b, off + i * 2 + 1, none⟩))), ?_, ⟨_, c, by simp, by simpa using h1, h2, .inr ⟨b, off, hb, rfl, fun i hi j u hu => ?_⟩⟩, fun x hx => ?_⟩
    · rw [List.map_map]
      apply List.ext_getElem
      · simp
      · intro i h1 h2
        simp
        rw [List.getElem?_eq_getElem h2]
        rfl
    · have hi2 : i < t.length := by simpa using hi
      obtain ⟨s, e0, e1, hr, _⟩ := hc i hi2
      obtain ⟨sa, sc, rfl, _⟩ := hr.rus
      rw [key i hi2, e1] at hu
      match j, hu with
      | 0, hu => cases hu; exact e0
      | 1, hu => cases hu; exact e1
      | j + 2, hu => simp [vpC] at hu
    · obtain ⟨i, hi, rfl⟩ := List.mem_map.1 hx
      have hi2 : i < t.length := List.mem_range.1 hi
      obtain ⟨s, e0, e1, hr, hok⟩ := hc i hi2
      have hr2 := hr
      obtain ⟨sa, sc, rfl, _⟩ := hr.rus
      refine ⟨_, rfl, ?_, hok⟩
      simp only [e1, slcV, vpS]
      exact hr2
theorem GoodV.below {w w' : World} {x : Vp} (h : GoodV w x) (hb : Below w.heap.size w w') : GoodV w' x := VeV.below h hb
theorem vpC_len (x : Vp) : (vpC x).length = 2 := rfl
theorem vpC_one (x : Vp) : ∀ u ∈ vpC x, u.oneCell' = true := by
  intro u hu
  simp [vpC, vpS] at hu
  rcases hu with rfl | rfl <;> rfl
theorem VpL.flat {w : World} {b off : Nat} {spot : _} {n c : Nat} {es : List Vp} (h : VpL w (.slice (some ⟨b, off, spot⟩) n c) es) : ∀ W, Below w.heap.size w W → ∀ j u, (es.map vpC).flatten[j]? = some u → W.cell? ((⟨b, off, spot⟩ : Addr).add j) = some u := by
  obtain ⟨a, cap, e, h1, h2, h3⟩ := h
  cases e
  rcases h3 with rfl | ⟨b', off', hb, e, hc⟩
  · intro W _ j u hj; simp at hj
  · cases e
    intro W hW j u hj
    rw [Addr.add_lit]
    refine cell_kept (RowR.flat (R := fun w cs x => cs = vpC x) (fun _ _ _ h => h) vpC_len (by decide) (⟨_, _, rfl, h1, h2, .inr ⟨b, off, hb, rfl, fun i hi => ⟨vpC es[i], rfl, fun j hj => ?_, rfl⟩⟩⟩ : RowR 2 (fun w cs x => cs = vpC x) w _ es) j u hj) hW
    refine hc i hi j _ ?_
    rw [List.getD_eq_getElem?_getD, List.getElem?_eq_getElem hi, Option.getD_some, List.getElem?_eq_getElem hj]
theorem VpL.below {w w' : World} {v : Value} {es : List Vp} (h : VpL w v es) (hb : Below w.heap.size w w') : VpL w' v es := by
  obtain ⟨a, c, e, h1, h2, h3⟩ := h
  refine ⟨a, c, e, h1, h2, h3.imp id ?_⟩
  rintro ⟨b, off, hb', e, hc⟩
  exact ⟨b, off, Nat.lt_of_lt_of_le hb' hb.size, e, fun i hi j u hu => cell_kept (hc i hi j u hu) hb⟩
end Go.Proofs.Ytmjeaciacgeioaa
