/- A number put into a rising list. No program is named here. -/
import Derived.Test.YtkjpehpodlpdhaaRowOf
namespace Go.Proofs.Ytkjpehpodlpdhaa
set_option linter.unusedVariables false

/-- A number put into a rising list. -/
def putI (l : List Int) (n : Int) : List Int := if n ∈ l then l else l.filter (fun y => decide (y < n)) ++ n :: l.filter (fun y => decide (n < y))
theorem putI_mem (l : List Int) (n y : Int) : y ∈ putI l n ↔ y = n ∨ y ∈ l := by
  unfold putI
  by_cases h : n ∈ l
  · rw [if_pos h]
    constructor
    · exact .inr
    · rintro (rfl | q)
      · exact h
      · exact q
  · rw [if_neg h]
    simp only [List.mem_append, List.mem_cons, List.mem_filter, decide_eq_true_eq]
    constructor
    · rintro (⟨q, _⟩ | q | ⟨q, _⟩)
      · exact .inr q
      · exact .inl q
      · exact .inr q
    · rintro (q | q)
      · exact .inr (.inl q)
      · have : y ≠ n := fun e => h (e ▸ q)
        rcases Int.lt_or_gt_of_ne this with c | c
        · exact .inl ⟨q, c⟩
        · exact .inr (.inr ⟨q, c⟩)
theorem putI_up {l : List Int} (h : l.Pairwise (· < ·)) (n : Int) : (putI l n).Pairwise (· < ·) := by
  unfold putI
  split
  · exact h
  · rw [List.pairwise_append, List.pairwise_cons]
    refine ⟨h.filter _, ⟨fun y hy => ?_, h.filter _⟩, fun y hy z hz => ?_⟩
    · simpa using (List.mem_filter.1 hy).2
    · have h1 : y < n := by simpa using (List.mem_filter.1 hy).2
      rcases List.mem_cons.1 hz with e | e
      · rw [e]; exact h1
      · have h2 : n < z := by simpa using (List.mem_filter.1 e).2
        omega
/-- A rising list up to a place is what is less. -/
theorem up_less {l : List Int} (h : l.Pairwise (· < ·)) {n : Int} {k : Nat} (hk : k ≤ l.length) (h1 : ∀ i (hi : i < k), l[i]'(by omega) < n) (h2 : ∀ (h : k < l.length), n < l[k]) : putI l n = l.take k ++ n :: l.drop k := by
  have hsp : l = l.take k ++ l.drop k := (List.take_append_drop k l).symm
  have ha : ∀ y ∈ l.take k, y < n := fun y hy => by
    obtain ⟨i, hi, rfl⟩ := List.mem_take_iff_getElem.1 hy
    exact h1 i (by omega)
  have hb : ∀ y ∈ l.drop k, n < y := fun y hy => by
    obtain ⟨i, hi, rfl⟩ := List.mem_drop_iff_getElem.1 hy
    have hkl : k < l.length := by omega
    have := h2 hkl
    rcases Nat.eq_or_lt_of_le (Nat.le_add_right k i) with c | c
    · have : i = 0 := by omega
      subst this
      simpa using h2 hkl
    · have := List.pairwise_iff_getElem.1 h k (k + i) hkl (by omega) c
      omega
  have hn : n ∉ l := fun q => by
    rw [hsp] at q
    rcases List.mem_append.1 q with q | q
    · have := ha n q; omega
    · have := hb n q; omega
  unfold putI
  rw [if_neg hn]
  have e1 : l.filter (fun y => decide (y < n)) = l.take k := by
    conv => lhs; rw [hsp]
    rw [List.filter_append, List.filter_eq_self.2 (fun y hy => by simpa using ha y hy), List.filter_eq_nil_iff.2 (fun y hy => by have := hb y hy; simp; omega)]
    simp
  have e2 : l.filter (fun y => decide (n < y)) = l.drop k := by
    conv => lhs; rw [hsp]
    rw [List.filter_append, List.filter_eq_nil_iff.2 (fun y hy => by have := ha y hy; simp; omega), List.filter_eq_self.2 (fun y hy => by simpa using hb y hy)]
    simp
  rw [e1, e2]
theorem putI_len {l : List Int} {n : Int} (h : n ∉ l) (hp : l.Pairwise (· < ·)) : (putI l n).length = l.length + 1 := by
  have e : (putI l n).Perm (n :: l) := by
    refine (List.perm_ext_iff_of_nodup ((putI_up hp n).imp (fun h => by omega)) (List.nodup_cons.2 ⟨h, hp.imp (fun h => by omega)⟩)).2 (fun y => ?_)
    rw [putI_mem, List.mem_cons]
  have := e.length_eq
  simpa using this
end Go.Proofs.Ytkjpehpodlpdhaa
