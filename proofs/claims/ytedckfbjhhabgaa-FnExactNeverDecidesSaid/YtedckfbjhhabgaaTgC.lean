/- A list in order with each number once; what SeriesGaps, Contradictions, NeverDecides and UnexpectedEvents answer. No program is named here. -/
import Derived.Test.YtedckfbjhhabgaaTgN
import Derived.Lib.SlicesCompact
namespace Go.Proofs.Ytedckfbjhhabgaa
set_option linter.unusedVariables false

def dedF (xs : List Int) : List Int := xs.foldl (fun o x => if x ∈ o then o else o ++ [x]) []
theorem dedF_snoc (xs : List Int) (x : Int) : dedF (xs ++ [x]) = if x ∈ dedF xs then dedF xs else dedF xs ++ [x] := by unfold dedF; rw [List.foldl_append]; rfl
theorem dedF_mem {x : Int} {xs : List Int} : x ∈ dedF xs ↔ x ∈ xs := by
  have key : ∀ (l : List Int) (o : List Int), x ∈ l.foldl (fun o x => if x ∈ o then o else o ++ [x]) o ↔ x ∈ o ∨ x ∈ l := by
    intro l
    induction l with
    | nil => intro o; simp
    | cons a l ih =>
      intro o
      rw [List.foldl_cons, ih]
      split
      · rename_i h
        constructor
        · rintro (q | q)
          · exact .inl q
          · exact .inr (by simp [q])
        · rintro (q | q)
          · exact .inl q
          · rcases List.mem_cons.1 q with rfl | q
            · exact .inl h
            · exact .inr q
      · simp only [List.mem_append, List.mem_cons, or_assoc]
        simp
  have := key xs []
  simpa [dedF] using this
theorem dedF_take {xs : List Int} {k : Nat} (hk : k < xs.length) : dedF (xs.take (k + 1)) = if xs.getD k 0 ∈ dedF (xs.take k) then dedF (xs.take k) else dedF (xs.take k) ++ [xs.getD k 0] := by
  have e : xs.take (k + 1) = xs.take k ++ [xs.getD k 0] := by
    rw [List.take_succ_eq_append_getElem hk]
    simp [List.getD, List.getElem?_eq_getElem hk]
  rw [e, dedF_snoc]
theorem pair_le {xs : List Int} (h : xs.Pairwise (· ≤ ·)) {i j : Nat} (hij : i ≤ j) (hj : j < xs.length) : xs.getD i 0 ≤ xs.getD j 0 := by
  have g : ∀ n (hn : n < xs.length), xs.getD n 0 = xs[n] := fun n hn => by simp [List.getD, List.getElem?_eq_getElem hn]
  rw [g i (by omega), g j hj]
  rcases Nat.lt_or_eq_of_le hij with h' | h'
  · exact List.pairwise_iff_getElem.1 h i j (by omega) hj h'
  · subst h'; exact Int.le_refl _
theorem compact_ded {xs : List Int} (h : xs.Pairwise (· ≤ ·)) : Lib.compact xs = dedF xs := by
  have hk : ∀ k, k ≤ xs.length → Lib.compactUpTo xs.toArray k = dedF (xs.take k) := by
    intro k
    induction k with
    | zero => intro _; simp [Lib.compactUpTo, dedF]
    | succ k ih =>
      intro hk
      have hlt : k < xs.length := by omega
      have g : ∀ j, j < xs.length → xs.toArray[j]! = xs.getD j 0 := fun j hj => by
        rw [getElem!_pos _ j (by simpa using hj)]; simp [List.getD, List.getElem?_eq_getElem hj]
      rw [Lib.compactUpTo_succ, ih (by omega), dedF_take hlt, g k hlt]
      by_cases hm : xs.getD k 0 ∈ dedF (xs.take k)
      · rw [if_pos hm]
        have hr := dedF_mem.1 hm
        rw [List.mem_take_iff_getElem] at hr
        obtain ⟨i, hi, e⟩ := hr
        have hil : i < xs.length := by omega
        have h1 := pair_le h (i := i) (j := k - 1) (by omega) (by omega)
        have h2 := pair_le h (i := k - 1) (j := k) (by omega) hlt
        have e2 : xs.getD i 0 = xs[i] := by simp [List.getD, List.getElem?_eq_getElem hil]
        rw [e2, e] at h1
        have hkn : Lib.keeps xs.toArray k = false := Lib.keeps_neg (by omega) (by rw [g k hlt, g (k - 1) (by omega)]; omega)
        rw [hkn]; simp
      · rw [if_neg hm]
        have hkn : Lib.keeps xs.toArray k = true := by
          rcases Nat.eq_zero_or_pos k with h0 | h0
          · subst h0; exact Lib.keeps_lt_one _ 0 (by omega)
          · refine Lib.keeps_pos ?_
            rw [g k hlt, g (k - 1) (by omega)]
            intro e
            refine hm (dedF_mem.2 ?_)
            rw [e, List.mem_take_iff_getElem]
            exact ⟨k - 1, by omega, by simp [List.getD, List.getElem?_eq_getElem (show k - 1 < xs.length by omega)]⟩
        rw [hkn]; simp
  have := hk xs.length (Nat.le_refl _)
  rw [List.take_length] at this
  unfold Lib.compact
  rw [← this]
theorem dedF_rising {xs : List Int} (h : xs.Pairwise (· ≤ ·)) : (dedF xs).Pairwise (· < ·) := by
  have hk : ∀ k, k ≤ xs.length → (dedF (xs.take k)).Pairwise (· < ·) := by
    intro k
    induction k with
    | zero => intro _; simp [dedF]
    | succ k ih =>
      intro hk
      have hlt : k < xs.length := by omega
      rw [dedF_take hlt]
      split
      · exact ih (by omega)
      · rename_i hm
        refine List.pairwise_append.2 ⟨ih (by omega), by simp, fun a ha b hb => ?_⟩
        rw [List.mem_singleton.1 hb]
        have ha2 := dedF_mem.1 ha
        rw [List.mem_take_iff_getElem] at ha2
        obtain ⟨i, hi, e⟩ := ha2
        have h1 := pair_le h (i := i) (j := k) (by omega) hlt
        have e2 : xs.getD i 0 = xs[i] := by simp [List.getD, List.getElem?_eq_getElem (show i < xs.length by omega)]
        have h3 : a ≠ xs.getD k 0 := fun q => hm (by rw [← q]; exact ha)
        omega
  have := hk xs.length (Nat.le_refl _)
  rwa [List.take_length] at this
/-- The series named by pairs that contradict, as often as there are pairs. -/
def conOne (s : List Ru) (a : Ru) : List Int := (s.filter (conB a)).map (fun _ => a.series)
def conL (s l : List Ru) : List Int := l.flatMap (conOne s)
def conF (s : List Ru) : List Int := dedF (conL s s)
def conTRes (s : List Ru) : List Int × Bool := if isSch s = true then (conF s, true) else ([], false)
theorem conOne_mem {s : List Ru} {a : Ru} {x : Int} (h : x ∈ conOne s a) : x = a.series := by
  unfold conOne at h
  obtain ⟨_, _, rfl⟩ := List.mem_map.1 h
  rfl
theorem sch_ser_le {s : List Ru} (h : isSch s = true) : s.Pairwise (fun a b => a.series ≤ b.series) := by
  rw [List.pairwise_iff_getElem]
  intro i j hi hj hij
  have := sch_bef h hij hj
  rw [bef_iff, getRu_lt hi, getRu_lt hj] at this
  omega
theorem conL_le {s : List Ru} (h : isSch s = true) : (conL s s).Pairwise (· ≤ ·) := by
  have key : ∀ l : List Ru, l.Pairwise (fun a b => a.series ≤ b.series) → (conL s l).Pairwise (· ≤ ·) := by
    intro l
    induction l with
    | nil => intro _; simp [conL]
    | cons a l ih =>
      intro hl
      rw [List.pairwise_cons] at hl
      unfold conL
      rw [List.flatMap_cons]
      refine List.pairwise_append.2 ⟨?_, ih hl.2, fun x hx y hy => ?_⟩
      · unfold conOne
        rw [List.pairwise_map]
        exact List.pairwise_of_forall (fun _ _ => Int.le_refl _)
      · obtain ⟨b, hb, hyb⟩ := List.mem_flatMap.1 hy
        rw [conOne_mem hx, conOne_mem hyb]
        exact hl.1 b hb
  exact key s (sch_ser_le h)
theorem con_compact {s : List Ru} (h : isSch s = true) : Lib.compact (conL s s) = conF s := compact_ded (conL_le h)
/-- What is named when i rules are done and k of the next one's. -/
def conAt (s : List Ru) (i k : Nat) : List Int := conL s (s.take i) ++ ((s.take k).filter (conB (s.getD i ruD))).map (fun _ => (s.getD i ruD).series)
theorem conAt_zero (s : List Ru) : conAt s 0 0 = [] := by simp [conAt, conL]
theorem conAt_len (s : List Ru) (i k : Nat) (hi : i ≤ s.length) (hk : k ≤ s.length) : (conAt s i k).length ≤ s.length * s.length + s.length := by
  unfold conAt
  rw [List.length_append, List.length_map]
  have h1 : (conL s (s.take i)).length ≤ i * s.length := by
    have key : ∀ l : List Ru, (conL s l).length ≤ l.length * s.length := by
      intro l
      induction l with
      | nil => simp [conL]
      | cons a l ih =>
        have h2 : (conOne s a).length ≤ s.length := by unfold conOne; rw [List.length_map]; exact List.length_filter_le _ _
        have h3 : (conL s (a :: l)).length = (conOne s a).length + (conL s l).length := by simp [conL]
        rw [h3, List.length_cons, Nat.add_mul]
        omega
    have := key (s.take i)
    rw [List.length_take, Nat.min_eq_left hi] at this
    exact this
  have h2 : i * s.length ≤ s.length * s.length := Nat.mul_le_mul_right _ hi
  have h3 := List.length_filter_le (conB (s.getD i ruD)) (s.take k)
  rw [List.length_take] at h3
  omega
theorem conAt_next (s : List Ru) (i : Nat) (hi : i < s.length) : conAt s i s.length = conAt s (i + 1) 0 := by
  unfold conAt conL
  rw [List.take_length, List.take_succ_eq_append_getElem hi, List.flatMap_append, getRu_lt hi]
  simp [conOne]
theorem conAt_all (s : List Ru) : conAt s s.length 0 = conL s s := by simp [conAt, List.take_length]
theorem conAt_step (s : List Ru) (i k : Nat) (hk : k < s.length) : conAt s i (k + 1) = if conB (s.getD i ruD) (s.getD k ruD) = true then conAt s i k ++ [(s.getD i ruD).series] else conAt s i k := by
  unfold conAt
  rw [List.take_succ_eq_append_getElem hk, List.filter_append, ← getRu_lt hk]
  by_cases h : conB (s.getD i ruD) (s.getD k ruD) = true
  · rw [if_pos h, List.filter_cons_of_pos h, List.filter_nil, List.map_append, List.append_assoc]; rfl
  · rw [if_neg h, List.filter_cons_of_neg h, List.filter_nil, List.append_nil]
/-- What NeverDecides answers. -/
def nevB (s : List Ru) (r : Ru) : Bool := decide (r.event = 0) && decide (r.days < (lonRes s r.series).1)
def nevF (s : List Ru) : List (Int × Int) := (s.filter (nevB s)).map (fun r => (r.series, r.event))
def nevRes (s : List Ru) : List (Int × Int) × Bool := if isSch s = true then (nevF s, true) else ([], false)
/-- What UnexpectedEvents finds. -/
def unxL (t : List Tg) (s : List Ru) : List Int := (s.filter (fun r => decide (dayX t r.event < 0))).map (·.event)
theorem unx_compact {t : List Tg} {s : List Ru} (hs : isSch s = true) {ys : List Int} (hp : ys.Perm (unxL t s)) (hr : ys.Pairwise (· ≤ ·)) : Lib.compact ys = unxF t s := by
  rw [compact_ded hr]
  refine rising_eqT _ _ (dedF_rising hr) ?_ fun x => ?_
  · refine List.Pairwise.filter _ ?_
    decide
  · rw [dedF_mem, hp.mem_iff]
    unfold unxL unxF
    rw [List.mem_map, List.mem_filter, Bool.and_eq_true, decide_eq_true_eq, List.any_eq_true]
    constructor
    · rintro ⟨r, hr, rfl⟩
      obtain ⟨h1, h2⟩ := List.mem_filter.1 hr
      have h2' : dayX t r.event < 0 := by simpa using h2
      have h3 := (isRu_iff.1 (sch_mem hs _ h1)).2.1
      have h4 : r.event ≠ 0 := fun e => by rw [e, dayX_zero] at h2'; omega
      refine ⟨?_, h2', r, h1, by simp⟩
      simp
      omega
    · rintro ⟨_, h2, r, hr, h3⟩
      have h3' : r.event = x := by simpa using h3
      exact ⟨r, List.mem_filter.2 ⟨hr, by rw [h3']; simpa using h2⟩, h3'⟩
end Go.Proofs.Ytedckfbjhhabgaa
