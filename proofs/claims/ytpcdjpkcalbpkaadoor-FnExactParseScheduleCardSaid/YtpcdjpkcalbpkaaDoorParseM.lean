/- The mathematics of a record's text that is read back. No program is named here but by its imports. -/
import Derived.Test.YtpcdjpkcalbpkaaDoorPair
import Derived.Test.YtpcdjpkcalbpkaaDoorText
import Derived.Test.YtpcdjpkcalbpkaaDoorCutPlain
namespace Go.Proofs.YtpcdjpkcalbpkaaDoor
set_option linter.unusedVariables false

/-- A number's text, from 0 on, has digits alone. -/
theorem num_digits {n : Int} (h : 0 ≤ n) : ∀ c ∈ Lib.itoa n, isD c := by
  obtain ⟨u, rfl⟩ := Int.eq_ofNat_of_zero_le h
  rw [Lib.itoa_nonneg]
  exact (dec_digits u).1
theorem num_no {n : Int} (h : 0 ≤ n) {c : UInt8} (hc : ¬ isD c) : ¬ c ∈ Lib.itoa n := fun hm => hc (num_digits h c hm)
theorem no_s : ¬ isD 115 := by unfold isD; decide
theorem no_at : ¬ isD 64 := by unfold isD; decide
theorem no_sp : ¬ isD 32 := by unfold isD; decide
/-- A number's text is read back. -/
theorem num_back {n : Int} (h0 : 0 ≤ n) (h1 : n ≤ 999999) : numB (Lib.itoa n) = true ∧ numV (Lib.itoa n) = n := by
  obtain ⟨hg, hr⟩ := numGood_of (l := Lib.itoa n) (m := n) (by omega) h1 rfl
  unfold numB numV
  simp [hg, hr]
/-- What is read as a number is its text. -/
theorem num_text {l : List UInt8} (h : numB l = true) : Lib.itoa (numV l) = l := by
  have hg : NumGood l := by unfold numB at h; simpa using h
  have hv : numV l = readN l := by unfold numV; simp [hg]
  rw [hv]
  exact hg.2.2
theorem num_nil : numB [] = false := by
  rcases hb : numB [] with _ | _
  · rfl
  · have h := num_text hb
    have hg : NumGood [] := by unfold numB at hb; simpa using hb
    have hv : numV [] = 0 := by unfold numV; simp [hg]; rfl
    rw [hv, show Lib.itoa 0 = Lib.decDigits 0 from Lib.itoa_nonneg 0, Lib.decDigits_one (by omega)] at h
    cases h
theorem cutL_at {l r : List UInt8} {c : UInt8} (h : ¬ c ∈ l) : cutL (l ++ c :: r) c = l := by
  unfold cutL
  rw [cut_ahead, ahead_at h]
theorem cutR_at {l r : List UInt8} {c : UInt8} (h : ¬ c ∈ l) : cutR (l ++ c :: r) c = r := by
  rcases index_ahead c (l ++ c :: r) with ⟨_, h2⟩ | ⟨n, h1, h2⟩
  · rw [ahead_at h] at h2
    have := congrArg List.length h2
    simp at this
  · rw [ahead_at h] at h2
    have hn : n = l.length := by
      have := congrArg List.length h2
      rw [List.length_take] at this
      simp at this
      omega
    subst hn
    unfold cutR Lib.cut
    rw [if_pos (by omega), h1]
    simp
theorem first_split {c : UInt8} : ∀ {l : List UInt8}, c ∈ l → ∃ a r, l = a ++ c :: r ∧ ¬ c ∈ a
  | [], h => by cases h
  | b :: l, h => by
    by_cases hb : b = c
    · subst hb
      exact ⟨[], l, rfl, by simp⟩
    · obtain ⟨a, r, e, ha⟩ := first_split (l := l) ((List.mem_cons.1 h).resolve_left (fun e => hb e.symm))
      exact ⟨b :: a, r, by rw [e]; rfl, fun hm => (List.mem_cons.1 hm).elim (fun e => hb e.symm) ha⟩
theorem cutR_none {l : List UInt8} {c : UInt8} (h : ¬ c ∈ l) : cutR l c = [] := by
  unfold cutR Lib.cut
  rcases index_ahead c l with ⟨h1, h2⟩ | ⟨n, h1, h2⟩
  · rw [if_neg (by omega)]
  · rw [if_pos (by omega), h1]
    rw [ahead_all h] at h2
    have := congrArg List.length h2
    rw [List.length_take] at this
    simp
    omega
/-- Two numbers that are read with a mark between them: the text is theirs. -/
theorem pair_text {l : List UInt8} {c : UInt8} (hr : cutR l c ≠ []) : l = cutL l c ++ c :: cutR l c := by
  by_cases h : c ∈ l
  · obtain ⟨a, r, e, ha⟩ := first_split h
    rw [e, cutL_at ha, cutR_at ha]
  · exact absurd (cutR_none h) hr
theorem ne_of_num {l : List UInt8} (h : numB l = true) : l ≠ [] := fun e => by
  rw [e, num_nil] at h
  cases h
/-- The text of the head: what is read is what stands there. -/
theorem head_text {l : List UInt8} (h : headB l = true) : l = Lib.itoa (headR l).id ++ 115 :: (Lib.itoa (headR l).series ++ 64 :: Lib.itoa (headR l).made) := by
  unfold headB at h
  simp only [Bool.and_eq_true] at h
  obtain ⟨h1, h2, h3⟩ := h
  have e3 := num_text h3
  have e2 := num_text h2
  have e1 := num_text h1
  have p2 := pair_text (ne_of_num h3)
  have hne : cutR l 115 ≠ [] := fun e => by
    rw [e] at p2
    have := congrArg List.length p2
    simp at this
  have p1 := pair_text hne
  unfold headR
  simp only
  rw [e1, e2, e3, ← p2]
  exact p1
/-- The head of a text is read back. -/
theorem head_back {a b d : Int} (ha : 0 ≤ a) (ha' : a ≤ 999999) (hb : 0 ≤ b) (hb' : b ≤ 999999) (hd : 0 ≤ d) (hd' : d ≤ 999999) :
    headB (Lib.itoa a ++ 115 :: (Lib.itoa b ++ 64 :: Lib.itoa d)) = true ∧ headR (Lib.itoa a ++ 115 :: (Lib.itoa b ++ 64 :: Lib.itoa d)) = ⟨a, b, d, []⟩ := by
  have n1 := num_back ha ha'
  have n2 := num_back hb hb'
  have n3 := num_back hd hd'
  have c1 := cutL_at (r := Lib.itoa b ++ 64 :: Lib.itoa d) (num_no ha no_s)
  have c2 := cutR_at (r := Lib.itoa b ++ 64 :: Lib.itoa d) (num_no ha no_s)
  have c3 := cutL_at (r := Lib.itoa d) (num_no hb no_at)
  have c4 := cutR_at (r := Lib.itoa d) (num_no hb no_at)
  unfold headB headR
  rw [c1, c2, c3, c4, n1.1, n2.1, n3.1, n1.2, n2.2, n3.2]
  exact ⟨rfl, rfl⟩
end Go.Proofs.YtpcdjpkcalbpkaaDoor
