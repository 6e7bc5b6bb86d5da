/- What growing a tree and taking back, moving, and depth have to do with each other. -/
import Derived.Test.YtapbajficopnlaaAddF
import Derived.Test.YtapbajficopnlaaLeaf
import Derived.Test.YtapbajficopnlaaMove
import Derived.Test.YtapbajficopnlaaPathI
import Derived.Test.YtapbajficopnlaaDeep
namespace Go.Proofs.Ytapbajficopnlaa
set_option linter.unusedVariables false

theorem grow_back {t xs : List Fn} {p n : Int} {s : ByteArray} (h : addFRes t p s = (xs, n, true)) : leafRes xs n = (t, true) := by
  unfold addFRes at h
  split at h
  · rename_i ht
    obtain ⟨rfl, h2⟩ := Prod.mk.inj h
    obtain ⟨rfl, _⟩ := Prod.mk.inj h2
    obtain ⟨_, h3, h4, _, _⟩ := isTree_iff.1 ht
    have hlt : ∀ f ∈ t, f.id < nextId t := by
      intro f hf
      have := (List.pairwise_append.1 (show (t ++ [(⟨nextId t, p, s⟩ : Fn)]).Pairwise (fun a b => a.id < b.id) from h4)).2.2 f hf ⟨nextId t, p, s⟩ (List.mem_singleton.2 rfl)
      exact this
    have hx : hasF (addF t p s) (nextId t) = true := hasF_iff.2 ⟨⟨nextId t, p, s⟩, by simp [addF], rfl⟩
    have hc : hasChild (addF t p s) (nextId t) = false := by
      rcases hb : hasChild (addF t p s) (nextId t) with _ | _
      · rfl
      · obtain ⟨f, hf, he⟩ := hasChild_iff.1 hb
        have hp := (isFn_iff.1 (h3 f hf)).2.1
        rcases List.mem_append.1 (show f ∈ t ++ [(⟨nextId t, p, s⟩ : Fn)] from hf) with h5 | h5
        · have := hlt f h5
          omega
        · rw [List.mem_singleton.1 h5] at hp he
          simp only at hp he
          omega
    have hd : delF (addF t p s) (nextId t) = t := by
      unfold delF addF
      rw [List.filter_append, List.filter_eq_self.2 (fun f hf => by have := hlt f hf; simp; omega)]
      simp
    unfold leafRes
    rw [if_pos ⟨ht, hx, hc⟩, hd]
  · obtain ⟨_, h2⟩ := Prod.mk.inj h
    cases (Prod.mk.inj h2).2

theorem mov_get {t : List Fn} {x p : Int} (hx : hasF t x = true) : (movF t x p).length = t.length ∧ (movF t x p).getD (placeF t x) fnD = { t.getD (placeF t x) fnD with parent := p } := by
  have hl : placeF t x < t.length := of_decide_eq_true hx
  have hl2 : placeF t x < (movF t x p).length := by unfold movF; simpa using hl
  refine ⟨by simp [movF], ?_⟩
  rw [getF_lt hl2]
  simp [movF]
theorem mov_path {t ys : List Fn} {x p : Int} (h : movRes t x p = (ys, true)) : (∃ a, pathRes ys x = (a ++ [x], true) ∧ pathRes ys p = (a, decide (0 < p))) := by
  unfold movRes at h
  split at h
  · rename_i hh
    obtain ⟨ht, hx, hm⟩ := hh
    obtain ⟨rfl, _⟩ := Prod.mk.inj h
    obtain ⟨e1, e2⟩ := mov_get (p := p) hx
    have hl : placeF t x < (movF t x p).length := by rw [e1]; exact of_decide_eq_true hx
    have e3 : ((movF t x p).getD (placeF t x) fnD).id = x := by rw [e2]; exact placeF_id hx
    have hx2 : hasF (movF t x p) x = true := by have := tree_has hl; rw [e3] at this; exact this
    have hpl : placeF (movF t x p) x = placeF t x := by have := tree_place hm hl; rw [e3] at this; exact this
    have hpar : parF (movF t x p) x = p := by unfold parF; rw [hpl, e2]
    obtain ⟨_, h1, h2⟩ := par_ok hm hx2
    rw [hpar] at h1 h2
    refine ⟨pathF (movF t x p) p, ?_, ?_⟩
    · unfold pathRes
      rw [if_pos ⟨hm, hx2⟩, pathF_step hm hx2, hpar]
    · unfold pathRes
      by_cases hp : p = 0
      · subst hp
        have hno : hasF (movF t x 0) 0 ≠ true := fun e => by have := (par_ok hm e).1; omega
        rw [if_neg (fun e => hno e.2), pathF_zero]
        rfl
      · rw [if_pos ⟨hm, h2.resolve_left hp⟩, decide_eq_true (by omega)]
  · cases (Prod.mk.inj h).2

theorem deep_all {t : List Fn} (h : isTree t = true) : ∀ k, k ≤ t.length → (∀ i, i < k → (pathF t (t.getD i fnD).id).length ≤ (deepF t k).2) ∧ (∀ y, y ∈ (deepF t k).1 ↔ ∃ i, i < k ∧ (t.getD i fnD).id = y ∧ (pathF t y).length = (deepF t k).2) := by
  intro k
  induction k with
  | zero => intro _; exact ⟨fun i hi => absurd hi (Nat.not_lt_zero _), fun y => by simp [deepF]⟩
  | succ k ih =>
    intro hk
    obtain ⟨h1, h2⟩ := ih (by omega)
    obtain ⟨n, hn⟩ : ∃ n, (pathF t (t.getD k fnD).id).length = n := ⟨_, rfl⟩
    obtain ⟨L, m, hd⟩ : ∃ L m, deepF t k = (L, m) := ⟨_, _, rfl⟩
    rw [hd] at h1 h2
    simp only at h1 h2
    have hs : deepF t (k + 1) = if m < n then ([(t.getD k fnD).id], n) else if n = m then (L ++ [(t.getD k fnD).id], m) else (L, m) := by
      simp only [deepF, hd, hn]
    rw [hs]
    split
    · rename_i hlt
      refine ⟨fun i hi => ?_, fun y => ?_⟩
      · rcases Nat.lt_or_ge i k with hi2 | hi2
        · exact Nat.le_trans (h1 i hi2) (Nat.le_of_lt hlt)
        · obtain rfl : i = k := by omega
          exact Nat.le_of_eq hn
      · simp only [List.mem_singleton]
        constructor
        · rintro rfl; exact ⟨k, by omega, rfl, hn⟩
        · rintro ⟨i, hi, rfl, he⟩
          rcases Nat.lt_or_ge i k with hi2 | hi2
          · have := h1 i hi2; omega
          · obtain rfl : i = k := by omega
            rfl
    · rename_i hlt
      split
      · rename_i he
        refine ⟨fun i hi => ?_, fun y => ?_⟩
        · rcases Nat.lt_or_ge i k with hi2 | hi2
          · exact h1 i hi2
          · obtain rfl : i = k := by omega
            omega
        · rw [List.mem_append, List.mem_singleton, h2]
          constructor
          · rintro (⟨i, hi, e1, e2⟩ | rfl)
            · exact ⟨i, by omega, e1, e2⟩
            · exact ⟨k, by omega, rfl, by omega⟩
          · rintro ⟨i, hi, e1, e2⟩
            rcases Nat.lt_or_ge i k with hi2 | hi2
            · exact .inl ⟨i, hi2, e1, e2⟩
            · obtain rfl : i = k := by omega
              exact .inr e1.symm
      · rename_i hne
        refine ⟨fun i hi => ?_, fun y => ?_⟩
        · rcases Nat.lt_or_ge i k with hi2 | hi2
          · exact h1 i hi2
          · obtain rfl : i = k := by omega
            omega
        · rw [h2]
          constructor
          · rintro ⟨i, hi, e1, e2⟩; exact ⟨i, by omega, e1, e2⟩
          · rintro ⟨i, hi, e1, e2⟩
            rcases Nat.lt_or_ge i k with hi2 | hi2
            · exact ⟨i, hi2, e1, e2⟩
            · obtain rfl : i = k := by omega
              rw [← e1] at e2
              omega
/-- Where the deepest are told: each path's answer, no longer than the most, and as long just where its function is among them. -/
theorem deep_path {t : List Fn} {ds : List Int} {m : Int} (h : deepRes t = (ds, m, true)) {i : Nat} (hi : i < t.length) : ∃ a, pathRes t (t.getD i fnD).id = (a, true) ∧ (a.length : Int) ≤ m ∧ ((t.getD i fnD).id ∈ ds ↔ (a.length : Int) = m) := by
  unfold deepRes at h
  split at h
  · rename_i ht
    obtain ⟨rfl, h2⟩ := Prod.mk.inj h
    obtain ⟨rfl, _⟩ := Prod.mk.inj h2
    obtain ⟨h3, h4⟩ := deep_all ht t.length (Nat.le_refl _)
    refine ⟨pathF t (t.getD i fnD).id, ?_, by have := h3 i hi; omega, ?_⟩
    · unfold pathRes
      rw [if_pos ⟨ht, tree_has hi⟩]
    · rw [h4]
      constructor
      · rintro ⟨j, _, _, e⟩; omega
      · intro e; exact ⟨i, hi, rfl, by omega⟩
  · obtain ⟨_, h2⟩ := Prod.mk.inj h
    cases (Prod.mk.inj h2).2
end Go.Proofs.Ytapbajficopnlaa
