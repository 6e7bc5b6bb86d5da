/- FindPath: the mathematics. -/
import Derived.Test.YtpbjddiopfkgbaaNamed
import Derived.Test.YtpbjddiopfkgbaaSpJoin
namespace Go.Proofs.Ytpbjddiopfkgbaa
set_option linter.unusedVariables false
open Go.RowKit Go.Sort

/-- The first function of that path. -/
def fpK (t : List Fn) (s : ByteArray) : Nat := t.findIdx (fun f => decide (namedF t f.id = s))
/-- What FindPath answers. -/
def fpRes (t : List Fn) (s : ByteArray) : Int × Bool := if isTree t = true ∧ fpK t s < t.length then ((t.getD (fpK t s) fnD).id, true) else (0, false)
theorem fp_tree {t : List Fn} {s : ByteArray} (h : isTree t = false) : fpRes t s = (0, false) := by unfold fpRes; rw [if_neg (fun k => by rw [h] at k; cases k.1)]
theorem fpK_id {t : List Fn} {s : ByteArray} (h : fpK t s < t.length) : namedF t (t.getD (fpK t s) fnD).id = s := by
  rw [getF_lt h]
  exact of_decide_eq_true (List.findIdx_getElem (p := fun f : Fn => decide (namedF t f.id = s)) (xs := t) (w := h))
theorem fpK_is {t : List Fn} {s : ByteArray} {k : Nat} (hk : k < t.length) (h0 : ∀ j, j < k → namedF t (t.getD j fnD).id ≠ s) (h1 : namedF t (t.getD k fnD).id = s) : fpK t s = k := by
  unfold fpK
  rw [List.findIdx_eq hk]
  exact ⟨by rw [← getF_lt hk]; exact decide_eq_true h1, fun j hj => by rw [← getF_lt (by omega)]; exact decide_eq_false (h0 j hj)⟩
theorem fpK_none {t : List Fn} {s : ByteArray} (h : ∀ j, j < t.length → namedF t (t.getD j fnD).id ≠ s) : ¬ fpK t s < t.length := fun hk => h _ hk (fpK_id hk)
theorem fp_none {t : List Fn} {s : ByteArray} (h : ∀ j, j < t.length → namedF t (t.getD j fnD).id ≠ s) : fpRes t s = (0, false) := by unfold fpRes; rw [if_neg (fun k => fpK_none h k.2)]
theorem fp_hit {t : List Fn} {s : ByteArray} {k : Nat} (ht : isTree t = true) (hk : k < t.length) (h0 : ∀ j, j < k → namedF t (t.getD j fnD).id ≠ s) (h1 : namedF t (t.getD k fnD).id = s) : fpRes t s = ((t.getD k fnD).id, true) := by
  unfold fpRes
  rw [fpK_is hk h0 h1, if_pos ⟨ht, hk⟩]

theorem names_zero (t : List Fn) : namesF t 0 = [] := by unfold namesF; rw [lineF_zero]; rfl
theorem names_step {t : List Fn} (h : isTree t = true) {x : Int} (hx : hasF t x = true) : namesF t x = namesF t (parF t x) ++ [(t.getD (placeF t x) fnD).name] := by unfold namesF; rw [lineF_step h hx, List.map_append]; rfl
theorem sib_uniq {t : List Fn} (h : isTree t = true) {i j : Nat} (hi : i < t.length) (hj : j < t.length) (h1 : (t.getD i fnD).parent = (t.getD j fnD).parent) (h2 : (t.getD i fnD).name = (t.getD j fnD).name) : i = j := by
  have h5 := List.pairwise_iff_getElem.1 (isTree_iff.1 h).2.2.2.2
  rw [getF_lt hi, getF_lt hj] at h1 h2
  rcases Nat.lt_trichotomy i j with hl | hl | hl
  · exact absurd ⟨h1, h2⟩ (h5 i j hi hj hl)
  · exact hl
  · exact absurd ⟨h1.symm, h2.symm⟩ (h5 j i hj hi hl)
/-- Names lead to one function. -/
theorem names_inj {t : List Fn} (h : isTree t = true) : ∀ x, (x = 0 ∨ hasF t x = true) → ∀ y, (y = 0 ∨ hasF t y = true) → namesF t x = namesF t y → x = y := by
  refine path_ind h (C := fun x => ∀ y, (y = 0 ∨ hasF t y = true) → namesF t x = namesF t y → x = y) ?_ ?_
  · intro y hy he
    rcases hy with rfl | hy
    · rfl
    · rw [names_zero, names_step h hy] at he; simp at he
  · intro x hx ih y hy he
    rcases hy with rfl | hy
    · rw [names_zero, names_step h hx] at he; simp at he
    · rw [names_step h hx, names_step h hy] at he
      obtain ⟨e1, e2⟩ := List.append_inj' he rfl
      have e3 := ih _ (par_ok h hy).2.2 e1
      have e4 := sib_uniq h (of_decide_eq_true hx : placeF t x < t.length) (of_decide_eq_true hy : placeF t y < t.length) e3 (by simpa using e2)
      rw [← placeF_id hx, ← placeF_id hy, e4]
/-- On the way to a function each name is one of a child of the function before. -/
theorem names_way {t : List Fn} (h : isTree t = true) : ∀ x, (x = 0 ∨ hasF t x = true) → ∀ k (hk : k < (namesF t x).length), ∃ j, j < t.length ∧ (t.getD j fnD).name = (namesF t x)[k] ∧ ((t.getD j fnD).parent = 0 ∨ hasF t (t.getD j fnD).parent = true) ∧ namesF t (t.getD j fnD).parent = (namesF t x).take k := by
  refine path_ind h (C := fun x => ∀ k (hk : k < (namesF t x).length), ∃ j, j < t.length ∧ (t.getD j fnD).name = (namesF t x)[k] ∧ ((t.getD j fnD).parent = 0 ∨ hasF t (t.getD j fnD).parent = true) ∧ namesF t (t.getD j fnD).parent = (namesF t x).take k) ?_ ?_
  · intro k hk
    rw [names_zero] at hk; simp at hk
  · intro x hx ih k hk
    obtain ⟨N, hN⟩ : ∃ N, namesF t x = N := ⟨_, rfl⟩
    have hs := names_step h hx
    simp only [hN] at hk hs ⊢
    subst hs
    rw [List.length_append] at hk
    simp only [List.length_cons, List.length_nil] at hk
    by_cases hl : k < (namesF t (parF t x)).length
    · obtain ⟨j, h1, h2, h3, h4⟩ := ih k hl
      exact ⟨j, h1, by rw [h2, List.getElem_append_left hl], h3, by rw [h4, List.take_append_of_le_length (by omega)]⟩
    · have he : k = (namesF t (parF t x)).length := by omega
      subst he
      exact ⟨placeF t x, of_decide_eq_true hx, by simp, (par_ok h hx).2.2, by simp [parF]⟩
/-- So far on the way. -/
def FpSt (t : List Fn) (ns : List ByteArray) (k : Nat) (x : Int) : Prop := (x = 0 ∨ hasF t x = true) ∧ namesF t x = ns.take k
theorem fpSt_zero (t : List Fn) (ns : List ByteArray) : FpSt t ns 0 0 := ⟨.inl rfl, by rw [names_zero]; rfl⟩
theorem fpSt_step {t : List Fn} (h : isTree t = true) {ns : List ByteArray} {k p : Nat} {x : Int} (hs : FpSt t ns k x) (hk : k < ns.length) (hp : p < t.length) (h1 : (t.getD p fnD).parent = x) (h2 : (t.getD p fnD).name = ns[k]) : FpSt t ns (k + 1) (t.getD p fnD).id := by
  have hh := tree_has hp
  refine ⟨.inr hh, ?_⟩
  rw [names_step h hh]
  have hpl := tree_place h hp
  have hpar : parF t (t.getD p fnD).id = x := by unfold parF; rw [hpl, h1]
  rw [hpar, hs.2, hpl, h2, List.take_succ_eq_append_getElem hk]
theorem named_names {t : List Fn} (h : isTree t = true) {x : Int} (hx : hasF t x = true) {s : ByteArray} (he : namedF t x = s) : namesF t x = spAll s 47 := by
  obtain ⟨h1, h2, _⟩ := names_good h hx
  obtain ⟨k1, k2⟩ := spAll_sj s 47
  refine sj_inj h1 (spAll_ne s 47) h2 k2 ?_
  rw [k1, ← he]
  simp [namedF]
theorem fp_fail {t : List Fn} (h : isTree t = true) {s : ByteArray} {k : Nat} {x : Int} (hs : FpSt t (spAll s 47) k x) (hk : k < (spAll s 47).length) (hn : ∀ j, j < t.length → ¬ ((t.getD j fnD).parent = x ∧ (t.getD j fnD).name = (spAll s 47)[k])) : fpRes t s = (0, false) := by
  refine fp_none fun j hj he => ?_
  have hh := tree_has hj
  have e := named_names h hh he
  obtain ⟨i, h1, h2, h3, h4⟩ := names_way h _ (.inr hh) k (by rw [e]; exact hk)
  simp only [e] at h2 h4
  exact hn i h1 ⟨names_inj h _ h3 _ hs.1 (by rw [h4, hs.2]), h2⟩
theorem fp_end {t : List Fn} (h : isTree t = true) {s : ByteArray} {x : Int} (hs : FpSt t (spAll s 47) (spAll s 47).length x) : fpRes t s = (x, true) := by
  obtain ⟨h0, h1⟩ := hs
  rw [List.take_length] at h1
  have hx : hasF t x = true := by
    refine h0.resolve_left fun e => ?_
    rw [e, names_zero] at h1
    exact spAll_ne s 47 h1.symm
  have hn : namedF t x = s := by
    unfold namedF
    rw [h1, (spAll_sj s 47).1]
  have hp : placeF t x < t.length := of_decide_eq_true hx
  have hi := placeF_id hx
  have := fp_hit (s := s) h hp (fun j hj he => ?_) (by rw [hi]; exact hn)
  · rw [this, hi]
  · have hh := tree_has (t := t) (i := j) (by omega)
    have e1 := names_inj h _ (.inr hh) x (.inr hx) (by rw [named_names h hh he, h1])
    have e2 := tree_place h (i := j) (by omega)
    rw [e1] at e2
    omega
theorem fp_long {t : List Fn} {s : ByteArray} (hs : 4000 < s.size) : fpRes t s = (0, false) := by
  rcases h : isTree t with _ | _
  · exact fp_tree h
  · refine fp_none fun j hj he => ?_
    have hh := tree_has hj
    have := (names_good h hh).2.2
    have e : s.size = (sj (namesF t (t.getD j fnD).id) 47).length := by rw [← he]; simp [namedF, ByteArray.size]
    omega
end Go.Proofs.Ytpbjddiopfkgbaa
