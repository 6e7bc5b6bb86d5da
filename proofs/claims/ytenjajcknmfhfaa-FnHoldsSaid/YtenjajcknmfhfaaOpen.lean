/- How the values of the laws' types are read: integers, texts, bools, structs of one-cell fields, slices of these. No program is named here. -/
import Derived.Test.YtenjajcknmfhfaaRowOf
import Derived.Deep.Slices
import Derived.Deep.Fields
import Derived.ChangeOld
import Derived.ChangeArms
namespace Go.Proofs.Ytenjajcknmfhfaa
set_option linter.unusedVariables false
open Go.RowKit Go.ChangeShapes Go.WideShapes Go.Deep

/-- How cells read as a thing. -/
abbrev Rd (α : Type) := World → List Value → α → Prop
/-- Below the heap's size nothing has turned: all reads as it did. -/
def Rd.Stable {α : Type} (R : Rd α) : Prop := ∀ w w' cs x, Below w.heap.size w w' → R w cs x → R w' cs x

def inI (n : Int) : Prop := -9223372036854775808 ≤ n ∧ n ≤ 9223372036854775807
def rInt : Rd Int := fun _ cs n => cs = [.int .i64 n] ∧ inI n
def rStr : Rd ByteArray := fun _ cs s => cs = [.string s] ∧ s.size ≤ maxLen
def rBool : Rd Bool := fun _ cs b => cs = [.bool b]
/-- The slice value v reads as the elements xs, each of some cells. -/
def RowR {α : Type} (size : Nat) (R : Rd α) (w : World) (v : Value) (xs : List α) : Prop :=
  ∃ a cap, v = .slice a xs.length cap ∧ xs.length ≤ cap ∧ cap ≤ maxLen ∧
    (xs = [] ∨ ∃ b off, b < w.heap.size ∧ a = some ⟨b, off, none⟩ ∧ ∀ i (h : i < xs.length), ∃ cs : List Value, cs.length = size ∧ (∀ j (hj : j < cs.length), w.cell? ⟨b, off + i * size + j, none⟩ = some cs[j]) ∧ R w cs xs[i])
def rRow {α : Type} (size : Nat) (R : Rd α) : Rd (List α) := fun w cs xs => ∃ v, cs = [v] ∧ RowR size R w v xs

theorem rInt_stable : rInt.Stable := fun _ _ _ _ _ h => h
theorem rStr_stable : rStr.Stable := fun _ _ _ _ _ h => h
theorem rBool_stable : rBool.Stable := fun _ _ _ _ _ h => h
theorem RowR.below {α : Type} {size : Nat} {R : Rd α} (hR : R.Stable) {w w' : World} {v : Value} {xs : List α} (h : RowR size R w v xs) (hb : Below w.heap.size w w') : RowR size R w' v xs := by
  obtain ⟨a, cap, rfl, h1, h2, h3⟩ := h
  refine ⟨a, cap, rfl, h1, h2, h3.imp id ?_⟩
  rintro ⟨b, off, hlt, rfl, hc⟩
  refine ⟨b, off, Nat.lt_of_lt_of_le hlt hb.size, rfl, fun i hi => ?_⟩
  obtain ⟨cs, hl, hcs, hr⟩ := hc i hi
  exact ⟨cs, hl, fun j hj => (hb.cell (p := ⟨b, off + i * size + j, none⟩) hlt).trans (hcs j hj), hR _ _ _ _ hb hr⟩
theorem rRow_stable {α : Type} {size : Nat} {R : Rd α} (hR : R.Stable) : (rRow size R).Stable := fun _ _ _ _ hb ⟨v, e, h⟩ => ⟨v, e, h.below hR hb⟩
theorem RowR.nil {α : Type} (size : Nat) (R : Rd α) (w : World) : RowR size R w (.slice none 0 0) ([] : List α) := ⟨none, 0, rfl, Nat.le_refl _, Nat.zero_le _, .inl rfl⟩
theorem RowR.cap {α : Type} {size : Nat} {R : Rd α} {w : World} {v : Value} {xs : List α} (h : RowR size R w v xs) : xs.length ≤ 9223372036854775807 := by
  obtain ⟨a, cap, rfl, h1, h2, h3⟩ := h; unfold maxLen at h2; omega

/-- Cells of equal pieces, one behind the other. -/
theorem flat_get {α : Type} {size : Nat} : ∀ (css : List (List α)) (i j : Nat), (∀ cs ∈ css, cs.length = size) → j < size → css.flatten[i * size + j]? = css[i]?.bind (·[j]?)
  | [], i, j, _, _ => by simp
  | cs :: css, 0, j, h, hj => by
    have := h cs (by simp)
    simp only [List.flatten_cons, Nat.zero_mul, Nat.zero_add]
    rw [List.getElem?_append_left (by omega)]
    rfl
  | cs :: css, i + 1, j, h, hj => by
    have h0 := h cs (by simp)
    rw [List.flatten_cons, List.getElem?_append_right (by rw [h0, Nat.succ_mul]; omega), h0, show (i + 1) * size + j - size = i * size + j by rw [Nat.succ_mul]; omega]
    rw [flat_get css i j (fun x hx => h x (List.mem_cons_of_mem _ hx)) hj]
    rfl
theorem flat_len {α : Type} {size : Nat} : ∀ (css : List (List α)), (∀ cs ∈ css, cs.length = size) → css.flatten.length = css.length * size
  | [], _ => by simp
  | cs :: css, h => by
    rw [List.flatten_cons, List.length_append, h cs (by simp), flat_len css (fun x hx => h x (List.mem_cons_of_mem _ hx)), List.length_cons, Nat.succ_mul, Nat.add_comm]

/-- A slice of the call's own reads. -/
theorem RowR.of_owns {α : Type} {R : Rd α} {w : World} {base e size : Nat} {v : Value} {xs : List α} {css : List (List Value)} (h : w.ownsRow base e size v xs.length css.flatten)
    (hl : css.length = xs.length) (hs : ∀ cs ∈ css, cs.length = size) (hR : ∀ i (h1 : i < css.length) (h2 : i < xs.length), R w css[i] xs[i]) : RowR size R w v xs := by
  obtain ⟨_, hx⟩ := h
  rcases hx with ⟨rfl, h0⟩ | ⟨g, cap, cur, rfl, hg, hh, hn, hm, hsz, ht⟩
  · exact ⟨none, 0, by rw [h0], by omega, by unfold maxLen; omega, .inl (List.length_eq_zero_iff.1 h0)⟩
  · refine ⟨_, cap, rfl, hn, hm, .inr ⟨g, 0, (Array.getElem?_eq_some_iff.1 hh).1, rfl, fun i hi => ⟨css[i], hs _ (List.getElem_mem _), fun j hj => ?_, hR i (by omega) hi⟩⟩⟩
    have hj' : j < size := by rw [hs _ (List.getElem_mem _)] at hj; exact hj
    rw [cell_of_row w g _ cur e (0, 0) hh]
    have h1 := flat_get css i j hs hj'
    rw [List.getElem?_eq_getElem (by omega : i < css.length), Option.bind_some, List.getElem?_eq_getElem hj, ← ht, List.getElem?_take] at h1
    split at h1
    · simpa using h1
    · cases h1

section
variable {P : Program}
/-- What the type's cells read as, wherever they can be read at all. -/
def Opens {α : Type} (P : Program) (t : TypeId) (R : Rd α) : Prop :=
  ∀ {H : Type} (enc : TypeId × Value → H) (w : World) (base : Nat) (spare : Nat → Bool) (held : Bool) (fuel : Nat) (cs : List Value) (x : DataW H × List MemPlace),
    DataW.trod enc P w base spare held fuel t cs = some x → ∃ a, R w cs a

theorem wf_i64 {n : Int} (h : (Lit.int .i64 n).wf = true) : inI n := by
  have h1 : IntKind.i64.min = -9223372036854775808 := by decide
  have h2 : IntKind.i64.max = 9223372036854775807 := by decide
  simp [Lit.wf, h1, h2] at h
  unfold inI
  omega
theorem opens_int {t : TypeId} (ht : P.underlying t = some (.int .i64)) : Opens P t rInt := fun enc w base spare held fuel cs x h => by
  obtain ⟨n, rfl, _, hw⟩ := DataW.trod_int ht h
  exact ⟨n, rfl, wf_i64 hw⟩
theorem opens_str {t : TypeId} (ht : P.underlying t = some .string) : Opens P t rStr := fun enc w base spare held fuel cs x h => by
  obtain ⟨s, rfl, _, hs⟩ := DataW.trod_string ht h
  exact ⟨s, rfl, hs⟩
theorem opens_bool {t : TypeId} (ht : P.underlying t = some .bool) : Opens P t rBool := fun enc w base spare held fuel cs x h => by
  obtain ⟨b, rfl, _⟩ := DataW.trod_bool ht h
  exact ⟨b, rfl⟩
theorem opens_row {α : Type} {R : Rd α} {t e : TypeId} {size : Nat} (ht : P.underlying t = some (.slice e)) (hc : P.cellsOf e = size) (hpos : 0 < size) (hR : Opens P e R) : Opens P t (rRow size R) := fun enc w base spare held fuel cs x h => by
  rcases open_slice ht h with ⟨rfl, _⟩ | ⟨a, len, cap, m, n, D, Pl, rfl, hb, hl, hm, hmm, _, hi⟩
  · exact ⟨[], _, rfl, RowR.nil _ _ _⟩
  · rw [hc] at hi
    have hlm : len ≤ m := by rw [hmm]; split <;> omega
    have hex : ∀ i, i < len → ∃ y : α, ∃ cs' : List Value, w.cells? base (a.add (i * size)) size = some cs' ∧ R w cs' y := fun i hil => by
      obtain ⟨cs', h1, h2⟩ := hi i (by omega)
      obtain ⟨y, hy⟩ := hR enc w base spare held n cs' _ h2
      exact ⟨y, cs', h1, hy⟩
    have hlist : ∀ k, k ≤ len → ∃ ys : List α, ys.length = k ∧ ∀ i (h : i < ys.length), ∃ cs' : List Value, w.cells? base (a.add (i * size)) size = some cs' ∧ R w cs' ys[i] := by
      intro k
      induction k with
      | zero => exact fun _ => ⟨[], rfl, fun i h => by simp at h⟩
      | succ k ih =>
        intro hk
        obtain ⟨ys, h1, h2⟩ := ih (by omega)
        obtain ⟨y, hy⟩ := hex k (by omega)
        refine ⟨ys ++ [y], by simp [h1], fun i h => ?_⟩
        by_cases hik : i < ys.length
        · rw [List.getElem_append_left hik]; exact h2 i hik
        · obtain rfl : i = k := by simp at h; omega
          rw [List.getElem_append_right (by omega)]
          simpa using hy
    obtain ⟨ys, hyl, hy⟩ := hlist len (Nat.le_refl _)
    subst hyl
    refine ⟨ys, _, rfl, some a, cap, rfl, hl, hm, ?_⟩
    by_cases h0 : ys = []
    · exact .inl h0
    · have hpos' : 0 < ys.length := List.length_pos_iff.2 h0
      obtain ⟨b, off, spot⟩ := a
      obtain ⟨c0, hc0, _⟩ := hy 0 hpos'
      obtain ⟨_, hl0, hcell0⟩ := World.cells?_some hc0
      have hx := hcell0 0 (by omega)
      rw [List.getElem?_eq_getElem (by omega)] at hx
      have hspot : spot = none := by simpa [Addr.add] using World.cell?_spot hx
      subst hspot
      refine .inr ⟨b, off, ?_, rfl, fun i h => ?_⟩
      · have := World.block_lt_of_cell? w _ hx
        simpa [Addr.add] using this
      · obtain ⟨cs', hcs, hr⟩ := hy i h
        obtain ⟨_, hl1, hcell1⟩ := World.cells?_some hcs
        refine ⟨cs', hl1, fun j hj => ?_, hr⟩
        have := hcell1 j (by omega)
        rw [List.getElem?_eq_getElem hj, Go.Deep.add_add] at this
        have e : (⟨b, off, none⟩ : Addr).add (i * size + j) = ⟨b, off + i * size + j, none⟩ := by unfold Addr.add; split <;> simp_all [Nat.add_assoc]
        rw [e] at this
        exact this
/-- A struct of one-cell fields: each field's cell, and how it reads. -/
theorem trod_fields {H : Type} {enc : TypeId × Value → H} {w : World} {base : Nat} {spare : Nat → Bool} {held : Bool} {t : TypeId} {fs : Array Field} {fuel : Nat} {cs : List Value} {x : DataW H × List MemPlace}
    (ht : P.underlying t = some (.struct fs)) (hone : oneCellFields P fs = true) (hC : P.cellsOf t = fs.size) (h : DataW.trod enc P w base spare held fuel t cs = some x) :
    cs.length = fs.size ∧ ∀ (j : Nat) (f : Field), fs[j]? = some f → ∃ v y n, cs[j]? = some v ∧ DataW.trod enc P w base spare held n f.type [v] = some y := by
  obtain ⟨ys, n, _, _, hlen, hyl, hf⟩ := DataW.trod_struct ht h
  rw [hC] at hlen
  refine ⟨hlen, fun j f hj => ?_⟩
  have hjl : j < fs.size := (Array.getElem?_eq_some_iff.1 hj).1
  obtain ⟨ho, hk⟩ := hone_of hone j f hj
  have h1 := hf j f hj
  rw [ho, hk] at h1
  have hone' : (cs.drop j).take 1 = [cs[j]'(by omega)] := by
    rw [List.drop_eq_getElem_cons (by omega)]
    rfl
  rw [hone', List.getElem?_eq_getElem (by omega)] at h1
  exact ⟨_, _, n, List.getElem?_eq_getElem (by omega), h1⟩
end
end Go.Proofs.Ytenjajcknmfhfaa
