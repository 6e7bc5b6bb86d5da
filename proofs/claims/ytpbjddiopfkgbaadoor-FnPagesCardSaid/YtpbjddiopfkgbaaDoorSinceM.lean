/- Files closed in a span of days: the mathematics of their order. No program is named here. -/
import Derived.Test.YtpbjddiopfkgbaaDoorFiM
import Derived.Sort.Lot0
namespace Go.Proofs.YtpbjddiopfkgbaaDoor
open Go.Sort
set_option linter.unusedVariables false

instance : Inhabited Fi := ⟨fiD⟩
/-- Where it goes: behind all that were closed no later. -/
def scanF (o : List Fi) (c : Int) : Nat → Nat
  | 0 => 0
  | k + 1 => if c < (o.getD k fiD).closed then scanF o c k else k + 1
theorem scanF_le (o : List Fi) (c : Int) : ∀ k, scanF o c k ≤ k
  | 0 => Nat.le_refl _
  | k + 1 => by rw [scanF]; split; exact Nat.le_succ_of_le (scanF_le o c k); exact Nat.le_refl _
theorem scanF_congr {o o' : List Fi} {c : Int} : ∀ {k : Nat}, (∀ i, i < k → o.getD i fiD = o'.getD i fiD) → scanF o c k = scanF o' c k
  | 0, _ => rfl
  | k + 1, h => by
    rw [scanF, scanF, h k (Nat.lt_succ_self _), scanF_congr (k := k) (fun i hi => h i (by omega))]
def insF (o : List Fi) (f : Fi) : List Fi := o.take (scanF o f.closed o.length) ++ f :: o.drop (scanF o f.closed o.length)
theorem insF_length (o : List Fi) (f : Fi) : (insF o f).length = o.length + 1 := by
  have := scanF_le o f.closed o.length
  simp only [insF, List.length_append, List.length_take, List.length_cons, List.length_drop]
  omega
theorem mem_insF {o : List Fi} {f g : Fi} : g ∈ insF o f ↔ g = f ∨ g ∈ o := by
  unfold insF
  rw [List.mem_append, List.mem_cons]
  constructor
  · rintro (h | h | h)
    · exact .inr (List.mem_of_mem_take h)
    · exact .inl h
    · exact .inr (List.mem_of_mem_drop h)
  · rintro (h | h)
    · exact .inr (.inl h)
    · rw [← List.take_append_drop (scanF o f.closed o.length) o, List.mem_append] at h
      rcases h with h | h
      · exact .inl h
      · exact .inr (.inr h)
def ordF (xs : List Fi) : List Fi := xs.foldl insF []
theorem ordF_length (xs : List Fi) : (ordF xs).length = xs.length := by
  suffices ∀ (xs o : List Fi), (xs.foldl insF o).length = o.length + xs.length by simpa [ordF] using this xs []
  intro xs
  induction xs with
  | nil => intro o; simp
  | cons f r ih => intro o; rw [List.foldl_cons, ih, insF_length]; simp; omega
theorem mem_ordF {xs : List Fi} {g : Fi} : g ∈ ordF xs ↔ g ∈ xs := by
  suffices ∀ (xs o : List Fi), g ∈ xs.foldl insF o ↔ g ∈ o ∨ g ∈ xs by simpa [ordF] using this xs []
  intro xs
  induction xs with
  | nil => intro o; simp
  | cons f r ih =>
    intro o
    rw [List.foldl_cons, ih, mem_insF, List.mem_cons]
    constructor
    · rintro ((h | h) | h)
      · exact .inr (.inl h)
      · exact .inl h
      · exact .inr (.inr h)
    · rintro (h | h | h)
      · exact .inl (.inr h)
      · exact .inl (.inl h)
      · exact .inr h
theorem ordF_snoc (xs : List Fi) (f : Fi) : ordF (xs ++ [f]) = insF (ordF xs) f := by simp [ordF, List.foldl_append]
/-- The order in which the sort compares. -/
def ltF (a b : Fi) : Bool := decide (a.closed < b.closed)
theorem arr_get (d : Array Fi) (j : Nat) : d[j]! = d.toList.getD j fiD := by
  rw [Array.getElem!_eq_getD, Array.getD_eq_getD_getElem?, List.getD_eq_getElem?_getD]
  simp
  rfl
theorem swp_toList (d : Array Fi) (j : Nat) (h : j + 1 < d.size) :
    (swp d (j + 1) j).toList = d.toList.take j ++ d[j + 1]! :: d[j]! :: d.toList.drop (j + 2) := by
  unfold swp
  rw [Array.toList_setIfInBounds, Array.toList_setIfInBounds]
  have h1 : j + 1 < d.toList.length := by simpa using h
  apply List.ext_getElem?
  intro i
  rw [List.getElem?_set, List.getElem?_set]
  simp only [List.length_set]
  by_cases e1 : j = i
  · subst e1
    rw [if_pos rfl, if_pos (by omega), List.getElem?_append_right (by simp; omega)]
    simp [Nat.min_eq_left (by omega : j ≤ d.size)]
  · rw [if_neg e1]
    by_cases e2 : j + 1 = i
    · subst e2
      rw [if_pos rfl, if_pos h1, List.getElem?_append_right (by simp; omega)]
      simp [Nat.min_eq_left (by omega : j ≤ d.size)]
    · rw [if_neg e2]
      by_cases e3 : i < j
      · rw [List.getElem?_append_left (by simp; omega), List.getElem?_take_of_lt e3]
      · rw [List.getElem?_append_right (by simp; omega)]
        have : i - (d.toList.take j).length = (i - j - 2) + 2 := by rw [List.length_take]; simp at h1 ⊢; omega
        rw [this, List.getElem?_cons_succ, List.getElem?_cons_succ, List.getElem?_drop]
        congr 1
        omega
theorem insInner_list : ∀ (j : Nat) (d : Array Fi), j < d.size → (insInner ltF 0 j d).toList = d.toList.take (scanF d.toList d[j]!.closed j) ++ d[j]! :: ((d.toList.take j).drop (scanF d.toList d[j]!.closed j) ++ d.toList.drop (j + 1)) := by
  intro j
  induction j with
  | zero =>
    intro d h
    rw [insInner, scanF]
    simp only [List.take_zero, List.nil_append, List.drop_nil]
    rw [arr_get]
    have h1 : 0 < d.toList.length := by simpa using h
    conv => lhs; rw [← List.drop_zero (l := d.toList), List.drop_eq_getElem_cons h1]
    rw [List.getD_eq_getElem?_getD, List.getElem?_eq_getElem h1]
    rfl
  | succ j ih =>
    intro d h
    have h1 : j + 1 < d.toList.length := by simpa using h
    rw [insInner, scanF]
    by_cases hc : d[j + 1]!.closed < (d.toList.getD j fiD).closed
    · have hl : (decide (j + 1 > 0) && ltF d[j + 1]! d[j]!) = true := by
        rw [arr_get d j]; simp only [ltF]; rw [decide_eq_true hc]; simp
      rw [if_pos hl, if_pos hc]
      have hsz : (swp d (j + 1) j).size = d.size := by simp [swp]
      have ht := swp_toList d j h
      rw [ih _ (by rw [hsz]; omega)]
      have hlt : (d.toList.take j).length = j := by rw [List.length_take]; omega
      have g1 : (swp d (j + 1) j)[j]! = d[j + 1]! := by
        rw [arr_get, ht, List.getD_eq_getElem?_getD, List.getElem?_append_right (by omega), hlt]
        simp
      rw [g1]
      have hs : scanF (swp d (j + 1) j).toList d[j + 1]!.closed j = scanF d.toList d[j + 1]!.closed j := by
        apply scanF_congr
        intro i hi
        rw [ht, List.getD_eq_getElem?_getD, List.getD_eq_getElem?_getD, List.getElem?_append_left (by omega), List.getElem?_take_of_lt hi]
      rw [hs]
      have hle := scanF_le d.toList d[j + 1]!.closed j
      generalize scanF d.toList d[j + 1]!.closed j = s at hle ⊢
      rw [ht]
      rw [List.take_append_of_le_length (by omega), List.take_take, Nat.min_eq_left hle]
      congr 2
      rw [List.take_append_of_le_length (by omega), List.take_of_length_le (by omega : (d.toList.take j).length ≤ j)]
      have hd : (d.toList.take j ++ d[j + 1]! :: d[j]! :: d.toList.drop (j + 2)).drop (j + 1) = d[j]! :: d.toList.drop (j + 2) := by
        rw [List.drop_append, List.drop_eq_nil_of_le (by omega), hlt]
        simp
      rw [hd]
      have ht2 : d.toList.take (j + 1) = d.toList.take j ++ [d[j]!] := by
        rw [List.take_add_one, arr_get, List.getD_eq_getElem?_getD, List.getElem?_eq_getElem (by omega : j < d.toList.length)]
        rfl
      rw [ht2, List.drop_append_of_le_length (by omega)]
      simp
    · have hl : ¬ (decide (j + 1 > 0) && ltF d[j + 1]! d[j]!) = true := by
        rw [arr_get d j]; simp only [ltF]; rw [decide_eq_false hc]; simp
      rw [if_neg hl, if_neg hc]
      have e0 : (d.toList.take (j + 1)).drop (j + 1) = [] := List.drop_eq_nil_of_le (by rw [List.length_take]; omega)
      rw [e0, List.nil_append]
      conv => lhs; rw [← List.take_append_drop (j + 1) d.toList, List.drop_eq_getElem_cons h1]
      rw [arr_get, List.getD_eq_getElem?_getD, List.getElem?_eq_getElem h1]
      rfl
theorem insOuter_list : ∀ (r o : List Fi) (d : Array Fi), d.toList = o ++ r → (insOuter ltF 0 d.size o.length d).toList = r.foldl insF o := by
  intro r
  induction r with
  | nil =>
    intro o d h
    have : d.size = o.length := by rw [← Array.length_toList, h]; simp
    rw [insOuter, if_neg (by omega), h]
    simp
  | cons f r ih =>
    intro o d h
    have hsz : d.size = o.length + r.length + 1 := by rw [← Array.length_toList, h]; simp; omega
    rw [insOuter, if_pos (by omega)]
    have hf : d[o.length]! = f := by
      rw [arr_get, h, List.getD_eq_getElem?_getD, List.getElem?_append_right (Nat.le_refl _)]
      simp
    have hi := insInner_list o.length d (by omega)
    rw [hf] at hi
    have hs : scanF d.toList f.closed o.length = scanF o f.closed o.length := by
      apply scanF_congr
      intro i hi
      rw [h, List.getD_eq_getElem?_getD, List.getD_eq_getElem?_getD, List.getElem?_append_left hi]
    have hle := scanF_le o f.closed o.length
    rw [hs, h] at hi
    have e1 : (o ++ f :: r).take (scanF o f.closed o.length) = o.take (scanF o f.closed o.length) := List.take_append_of_le_length hle
    have e2 : (o ++ f :: r).take o.length = o := by simp
    have e3 : (o ++ f :: r).drop (o.length + 1) = r := by simp
    rw [e1, e2, e3] at hi
    have hi2 : (insInner ltF 0 o.length d).toList = insF o f ++ r := by rw [hi]; simp [insF]
    have hz2 : (insInner ltF 0 o.length d).size = d.size := by
      rw [← Array.length_toList, hi2, List.length_append, insF_length]; omega
    have := ih (insF o f) _ hi2
    rw [hz2, insF_length] at this
    rw [this]
    rfl
/-- The insertion sort keeps those of one day in their order. -/
theorem insSort_list (d : Array Fi) : (insertionSort ltF d 0 d.size).toList = ordF d.toList := by
  unfold insertionSort
  rcases h : d.toList with _ | ⟨f, r⟩
  · have : d.size = 0 := by rw [← Array.length_toList, h]; rfl
    rw [insOuter, if_neg (by omega), h]
    rfl
  · have := insOuter_list r [f] d (by rw [h]; rfl)
    simp only [List.length_cons, List.length_nil] at this
    rw [Nat.zero_add, this]
    rfl
/-- Whether it is not open and was closed in these days. -/
def sinceB (a b : Int) (f : Fi) : Bool := decide (f.state ≠ 0) && (decide (a ≤ f.closed) && decide (f.closed ≤ b))
def sinceF (t : List Fi) (a b : Int) : List Fi := ordF (t.filter (sinceB a b))
def sinceRes (t : List Fi) (a b : Int) : List Int × Bool := if areFi t = true ∧ (0 ≤ b ∧ b ≤ 20000) ∧ (0 ≤ a ∧ a ≤ b) then ((sinceF t a b).map (·.id), true) else ([], false)
theorem sinceRes_len {t : List Fi} {a b : Int} {xs : List Int} {c : Bool} (h : sinceRes t a b = (xs, c)) : xs.length ≤ t.length := by
  unfold sinceRes at h
  split at h
  · obtain ⟨rfl, _⟩ := Prod.mk.inj h
    rw [List.length_map, sinceF, ordF_length]
    exact List.length_filter_le _ _
  · obtain ⟨rfl, _⟩ := Prod.mk.inj h; simp
end Go.Proofs.YtpbjddiopfkgbaaDoor
