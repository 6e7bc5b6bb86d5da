/- A file's place by its number and its place in a state; a list in which a file has turned. No program is named here. -/
import Derived.Test.YtpbjddiopfkgbaaDoorFiM
namespace Go.Proofs.YtpbjddiopfkgbaaDoor
set_option linter.unusedVariables false

/-- The place of the first that a test takes, or -1. -/
def fIdx (p : Fi → Bool) (t : List Fi) : Int := if t.findIdx p < t.length then (t.findIdx p : Int) else -1
theorem fIdx_is {p : Fi → Bool} {t : List Fi} {k : Nat} (hk : k < t.length) (h0 : ∀ j, j < k → p (t.getD j fiD) = false) (h1 : p (t.getD k fiD) = true) : fIdx p t = (k : Int) := by
  have e : t.findIdx p = k := by
    rw [List.findIdx_eq hk]
    exact ⟨by rw [← getFi_lt hk]; exact h1, fun j hj => by rw [← getFi_lt (by omega)]; exact h0 j hj⟩
  unfold fIdx
  rw [e, if_pos hk]
theorem fIdx_at {p : Fi → Bool} {t : List Fi} (h : t.findIdx p < t.length) : p (t.getD (t.findIdx p) fiD) = true := by
  rw [getFi_lt h]
  exact List.findIdx_getElem (w := h)
theorem fIdx_none {p : Fi → Bool} {t : List Fi} (h : ∀ j, j < t.length → p (t.getD j fiD) = false) : fIdx p t = -1 := by
  unfold fIdx
  rw [if_neg]
  intro k
  have := fIdx_at k
  rw [h _ k] at this
  cases this
theorem fIdx_any (p : Fi → Bool) (t : List Fi) : decide (0 ≤ fIdx p t) = t.any p := by
  unfold fIdx
  by_cases h : t.findIdx p < t.length
  · rw [if_pos h, decide_eq_true (by omega)]
    exact (List.any_eq_true.2 (List.findIdx_lt_length.1 h)).symm
  · rw [if_neg h, decide_eq_false (by omega)]
    rcases hb : t.any p with _ | _
    · rfl
    · exact absurd (List.findIdx_lt_length.2 (List.any_eq_true.1 hb)) h
theorem fIdx_cases (p : Fi → Bool) (t : List Fi) : (fIdx p t = -1 ∧ ∀ j, j < t.length → p (t.getD j fiD) = false) ∨ ∃ k : Nat, fIdx p t = (k : Int) ∧ k < t.length ∧ p (t.getD k fiD) = true ∧ ∀ j, j < k → p (t.getD j fiD) = false := by
  by_cases h : t.findIdx p < t.length
  · exact .inr ⟨t.findIdx p, by unfold fIdx; rw [if_pos h], h, fIdx_at h, fun j hj => by rw [getFi_lt (by omega)]; exact List.not_of_lt_findIdx hj⟩
  · refine .inl ⟨by unfold fIdx; rw [if_neg h], fun j hj => ?_⟩
    rcases hb : p (t.getD j fiD) with _ | _
    · rfl
    · exact absurd (List.findIdx_lt_length.2 ⟨t[j], List.getElem_mem hj, by rwa [getFi_lt hj] at hb⟩) h
/-- The place of a file of a number, or -1. -/
def fidI (t : List Fi) (x : Int) : Int := fIdx (fun g => decide (g.id = x)) t
theorem fid_cases (t : List Fi) (x : Int) : (fidI t x = -1 ∧ ∀ j, j < t.length → (t.getD j fiD).id ≠ x) ∨ ∃ k : Nat, fidI t x = (k : Int) ∧ k < t.length ∧ (t.getD k fiD).id = x := by
  rcases fIdx_cases (fun g => decide (g.id = x)) t with ⟨h1, h2⟩ | ⟨k, h1, h2, h3, _⟩
  · exact .inl ⟨h1, fun j hj => of_decide_eq_false (h2 j hj)⟩
  · exact .inr ⟨k, h1, h2, of_decide_eq_true h3⟩
theorem fi_uniq {t : List Fi} (h : areFi t = true) {i j : Nat} (hi : i < t.length) (hj : j < t.length) (e : (t.getD i fiD).id = (t.getD j fiD).id) : i = j := by
  rcases Nat.lt_trichotomy i j with c | c | c
  · have := fi_lt h c hj; omega
  · exact c
  · have := fi_lt h c hi; omega
theorem find_bad {t : List Fi} {x st : Int} (h : areFi t = false) : findFi t x st < 0 := by rw [findFi_bad h]; omega
theorem find_no {t : List Fi} {x st : Int} (h : ∀ j, j < t.length → (t.getD j fiD).id ≠ x) : findFi t x st < 0 := by
  rw [findFi_none (fun j hj => by rw [← Bool.not_eq_true, hitFi_iff]; exact fun k => h j hj k.1)]
  omega
theorem find_other {t : List Fi} {x st : Int} (ht : areFi t = true) {k : Nat} (hk : k < t.length) (he : (t.getD k fiD).id = x) (h0 : 0 ≤ st) (hs : (t.getD k fiD).state ≠ st) : findFi t x st < 0 := by
  rw [findFi_none (fun j hj => by
    rw [← Bool.not_eq_true, hitFi_iff]
    rintro ⟨h1, h2⟩
    obtain rfl := fi_uniq ht hj hk (h1.trans he.symm)
    exact h2.elim (fun h => by omega) hs)]
  omega
theorem find_yes {t : List Fi} {x st : Int} (ht : areFi t = true) {k : Nat} (hk : k < t.length) (he : (t.getD k fiD).id = x) (hs : st < 0 ∨ (t.getD k fiD).state = st) : findFi t x st = (k : Int) ∧ placeFi t x st = k := by
  have h1 : ∀ j, j < k → hitFi x st (t.getD j fiD) = false := fun j hj => by
    rw [← Bool.not_eq_true, hitFi_iff]
    rintro ⟨h1, h2⟩
    have := fi_uniq ht (by omega) hk (h1.trans he.symm)
    omega
  have h2 : hitFi x st (t.getD k fiD) = true := hitFi_iff.2 ⟨he, hs⟩
  exact ⟨findFi_is ht hk h1 h2, placeFi_is hk h1 h2⟩

theorem getD_set_fi {t : List Fi} {p i : Nat} {f : Fi} (hp : p < t.length) : (t.set p f).getD i fiD = if i = p then f else t.getD i fiD := by
  simp only [List.getD, List.getElem?_set]
  by_cases h : p = i
  · subst h; simp [hp]
  · rw [if_neg h, if_neg (fun e => h e.symm)]
theorem prevFi_set {t : List Fi} {p : Nat} {f : Fi} (hp : p < t.length) (hid : f.id = (t.getD p fiD).id) : ∀ i, prevFi (t.set p f) i = prevFi t i
  | 0 => rfl
  | j + 1 => by
    simp only [prevFi, getD_set_fi hp]
    by_cases h : j = p
    · subst h; rw [if_pos rfl, hid]
    · rw [if_neg h]
theorem twinF_false {t : List Fi} {f : Fi} : twinF t f = false ↔ ∀ j, j < t.length → ¬ ((t.getD j fiD).series = f.series ∧ (t.getD j fiD).title = f.title) := by
  rw [← Bool.not_eq_true, twinF_iff]
  constructor
  · intro h j hj he
    exact h ⟨t[j], List.getElem_mem hj, by rwa [getFi_lt hj] at he⟩
  · rintro h ⟨g, hg, he⟩
    obtain ⟨j, hj, rfl⟩ := List.getElem_of_mem hg
    exact h j hj (by rwa [getFi_lt hj])
/-- A valid list in which a file's Closed, State or Pages have turned to valid ones stays valid. -/
theorem areFi_set {t : List Fi} {p : Nat} {f : Fi} (ht : areFi t = true) (hp : p < t.length) (hv : isFi f = true) (h1 : f.id = (t.getD p fiD).id) (h2 : f.series = (t.getD p fiD).series) (h3 : f.title = (t.getD p fiD).title) : areFi (t.set p f) = true := by
  have hl : (t.set p f).length = t.length := List.length_set ..
  refine fi_all (by rw [hl]; exact fi_len ht) (upto_iff.2 fun i hi => ?_)
  rw [hl] at hi
  obtain ⟨a, b, c⟩ := fi_at ht hi
  have key : ∀ j, ((t.set p f).getD j fiD).id = (t.getD j fiD).id ∧ ((t.set p f).getD j fiD).series = (t.getD j fiD).series ∧ ((t.set p f).getD j fiD).title = (t.getD j fiD).title := fun j => by
    rw [getD_set_fi hp]
    by_cases h : j = p
    · subst h; rw [if_pos rfl]; exact ⟨h1, h2, h3⟩
    · rw [if_neg h]; exact ⟨rfl, rfl, rfl⟩
  obtain ⟨k1, k2, k3⟩ := key i
  refine fiAtB_iff.2 ⟨?_, by rw [prevFi_set hp h1, k1]; exact b, ?_⟩
  · rw [getD_set_fi hp]
    by_cases h : i = p
    · rw [if_pos h]; exact hv
    · rw [if_neg h]; exact a
  · rw [twinF_false] at c ⊢
    intro j hj
    rw [List.length_take, hl] at hj
    have e1 : ((t.set p f).take i).getD j fiD = (t.set p f).getD j fiD := by simp [List.getD, List.getElem?_take_of_lt (show j < i by omega)]
    have e2 : (t.take i).getD j fiD = t.getD j fiD := by simp [List.getD, List.getElem?_take_of_lt (show j < i by omega)]
    have := c j (by rw [List.length_take]; omega)
    rw [e2] at this
    rw [e1, (key j).2.1, (key j).2.2, k2, k3]
    exact this
theorem withFi_ok {t : List Fi} {p : Nat} {f : Fi} (h : areFi (t.set p f) = true) : withFi t p f = (t.set p f, true) := by unfold withFi; rw [if_pos h]
end Go.Proofs.YtpbjddiopfkgbaaDoor
