/- What stands ahead of the first mark: by a split and by a cut. No program is named here. -/
import Derived.Test.YtpcdjpkcalbpkaaDoorSplitPlain
import Derived.Lib.IndexMore
import Derived.Lib.Strings
namespace Go.Proofs.YtpcdjpkcalbpkaaDoor
set_option linter.unusedVariables false
open Go.RowKit

/-- What stands ahead of the first c, or all. -/
def ahead (l : List UInt8) (c : UInt8) : List UInt8 := l.takeWhile fun b => !(b == c)
theorem ahead_no (l : List UInt8) (c : UInt8) : ¬ c ∈ ahead l c := by
  intro h
  have := List.all_takeWhile (l := l) (p := fun b => !(b == c))
  rw [List.all_eq_true] at this
  have h2 := this c h
  simp at h2
theorem ahead_len (l : List UInt8) (c : UInt8) : (ahead l c).length ≤ l.length := (List.takeWhile_sublist _).length_le
theorem ahead_all {l : List UInt8} {c : UInt8} (h : ¬ c ∈ l) : ahead l c = l := by
  unfold ahead
  induction l with
  | nil => rfl
  | cons b l ih =>
    have h1 : ¬ b = c := fun e => h (by simp [e])
    have h2 : ¬ c ∈ l := fun e => h (List.mem_cons_of_mem _ e)
    rw [List.takeWhile_cons, ih h2]
    simp [h1]
theorem ahead_at {l r : List UInt8} {c : UInt8} (h : ¬ c ∈ l) : ahead (l ++ c :: r) c = l := by
  unfold ahead
  induction l with
  | nil => simp
  | cons b l ih =>
    have h1 : ¬ b = c := fun e => h (by simp [e])
    have h2 : ¬ c ∈ l := fun e => h (List.mem_cons_of_mem _ e)
    rw [List.cons_append, List.takeWhile_cons, ih h2]
    simp [h1]

/-- The first piece of a split. -/
theorem spSt_first (s : ByteArray) (c : UInt8) : ∀ k, k ≤ s.size →
    (¬ c ∈ s.data.toList.take k ∧ spSt s c k = ([], 0)) ∨ ∃ x r, (spSt s c k).1 = x :: r ∧ x.data.toList = ahead s.data.toList c
  | 0, _ => .inl ⟨by simp, rfl⟩
  | k + 1, hk => by
    have hlt : k < s.size := by omega
    rcases spSt_first s c k (by omega) with ⟨h1, h2⟩ | ⟨x, r, h1, h2⟩
    · by_cases he : s[k] = c
      · rw [spSt_hit s c k hlt he, h2]
        refine .inr ⟨s.extract 0 k, [], rfl, ?_⟩
        have hd : s.data.toList = s.data.toList.take k ++ c :: s.data.toList.drop (k + 1) := by
          conv => lhs; rw [← List.take_append_drop k s.data.toList]
          rw [List.drop_eq_getElem_cons (by simpa using hlt)]
          have : s.data.toList[k]'(by simpa using hlt) = c := by rw [← he]; rfl
          rw [this]
        rw [Lib.extract_data, List.drop_zero, Nat.sub_zero]
        conv => rhs; rw [hd]
        rw [ahead_at h1]
      · rw [spSt_miss s c k hlt he]
        refine .inl ⟨?_, h2⟩
        rw [take_snoc s k hlt, List.mem_append, List.mem_singleton]
        rintro (h | h)
        · exact h1 h
        · exact he h.symm
    · by_cases he : s[k] = c
      · rw [spSt_hit s c k hlt he]
        exact .inr ⟨x, r ++ [s.extract (spSt s c k).2 k], by rw [h1]; rfl, h2⟩
      · rw [spSt_miss s c k hlt he]
        exact .inr ⟨x, r, h1, h2⟩
theorem spAll_first (s : ByteArray) (c : UInt8) : ∃ x r, spAll s c = x :: r ∧ x = ⟨(ahead s.data.toList c).toArray⟩ := by
  have bx : ∀ x : ByteArray, ∀ l, x.data.toList = l → x = ⟨l.toArray⟩ := fun x l h => ByteArray.ext (Array.ext' (by simpa using h))
  rcases spSt_first s c s.size (Nat.le_refl _) with ⟨h1, h2⟩ | ⟨x, r, h1, h2⟩
  · rw [spAll, h2]
    refine ⟨_, [], rfl, bx _ _ ?_⟩
    rw [take_all] at h1
    rw [Lib.extract_data, ahead_all h1, List.drop_zero, Nat.sub_zero, take_all]
  · exact ⟨x, r ++ [s.extract (spSt s c s.size).2 s.size], by rw [spAll, h1]; rfl, bx _ _ h2⟩

theorem index_ahead (c : UInt8) : ∀ l : List UInt8, (Lib.index l [c] = -1 ∧ ahead l c = l) ∨ ∃ n : Nat, Lib.index l [c] = n ∧ l.take n = ahead l c
  | [] => .inl ⟨rfl, rfl⟩
  | b :: l => by
    have e : Lib.index (b :: l) [c] = if b = c then 0 else if Lib.index l [c] = -1 then -1 else Lib.index l [c] + 1 := by
      conv => lhs; unfold Lib.index
      by_cases h : b = c
      · subst h; simp [List.isPrefixOf]
      · have h' : ¬ c = b := fun e => h e.symm
        simp [List.isPrefixOf, h, h']
    have ea : ahead (b :: l) c = if b = c then [] else b :: ahead l c := by
      unfold ahead; rw [List.takeWhile_cons]
      by_cases h : b = c <;> simp [h]
    rw [e, ea]
    by_cases h : b = c
    · rw [if_pos h, if_pos h]; exact .inr ⟨0, rfl, rfl⟩
    · rw [if_neg h, if_neg h]
      rcases index_ahead c l with ⟨h1, h2⟩ | ⟨n, h1, h2⟩
      · rw [if_pos h1, h2]; exact .inl ⟨rfl, rfl⟩
      · rw [if_neg (by omega), h1]; exact .inr ⟨n + 1, by omega, by rw [List.take_succ_cons, h2]⟩
theorem cut_ahead (l : List UInt8) (c : UInt8) : (Lib.cut l [c]).1 = ahead l c := by
  unfold Lib.cut
  rcases index_ahead c l with ⟨h1, h2⟩ | ⟨n, h1, h2⟩
  · rw [if_neg (by omega)]; exact h2.symm
  · rw [if_pos (by omega), h1]; exact h2
end Go.Proofs.YtpcdjpkcalbpkaaDoor
