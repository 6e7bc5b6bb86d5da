/- What a split leaves, joined again; and a join's pieces are its own. No program is named here. -/
import Derived.Test.YtpcdjpkcalbpkaaDoorSplitPlain
import Derived.Lib.Strings
namespace Go.Proofs.YtpcdjpkcalbpkaaDoor
set_option linter.unusedVariables false
open Go.RowKit

theorem sj_snoc_any (P : List ByteArray) (s : ByteArray) (c : UInt8) : sj (P ++ [s]) c = (if P = [] then [] else sj P c ++ [c]) ++ s.data.toList := by
  by_cases h : P = []
  · subst h; simp [sj_one]
  · rw [sj_snoc _ _ _ h, if_neg h]; simp
/-- What a split leaves can be joined again. -/
theorem spSt_join (s : ByteArray) (c : UInt8) : ∀ k, k ≤ s.size →
    sj ((spSt s c k).1 ++ [s.extract (spSt s c k).2 k]) c = s.data.toList.take k ∧ ∀ x ∈ (spSt s c k).1 ++ [s.extract (spSt s c k).2 k], ¬ c ∈ x.data.toList
  | 0, _ => by
    have e : (s.extract 0 0).data.toList = [] := by rw [Lib.extract_data]; simp
    refine ⟨by simp only [spSt, List.nil_append]; rw [sj_one, e]; simp, fun x hx => ?_⟩
    simp only [spSt, List.nil_append, List.mem_singleton] at hx
    rw [hx, e]; simp
  | k + 1, hk => by
    obtain ⟨ih1, ih2⟩ := spSt_join s c k (by omega)
    have hlt : k < s.size := by omega
    have hf := (spSt_le s c k).1
    by_cases he : s[k] = c
    · rw [spSt_hit s c k hlt he]
      have e : (s.extract (k + 1) (k + 1)).data.toList = [] := by rw [Lib.extract_data]; simp
      refine ⟨?_, fun x hx => ?_⟩
      · rw [sj_snoc _ _ _ (by simp), ih1, e, take_snoc s k hlt, he]
      · rcases List.mem_append.1 hx with h | h
        · exact ih2 x h
        · rw [List.mem_singleton.1 h, e]; simp
    · rw [spSt_miss s c k hlt he]
      have e : (s.extract (spSt s c k).2 (k + 1)).data.toList = (s.extract (spSt s c k).2 k).data.toList ++ [s[k]] := by
        rw [Lib.extract_data, Lib.extract_data, show k + 1 - (spSt s c k).2 = (k - (spSt s c k).2) + 1 by omega, List.take_add_one, List.getElem?_drop, show (spSt s c k).2 + (k - (spSt s c k).2) = k by omega, get_data s k hlt]
        rfl
      refine ⟨?_, fun x hx => ?_⟩
      · rw [sj_snoc_any, e, ← List.append_assoc, ← sj_snoc_any, ih1, take_snoc s k hlt]
      · rcases List.mem_append.1 hx with h | h
        · exact ih2 x (List.mem_append_left _ h)
        · rw [List.mem_singleton.1 h, e, List.mem_append, List.mem_singleton]
          rintro (h | h)
          · exact ih2 _ (List.mem_append_right _ (List.mem_singleton.2 rfl)) h
          · exact he h.symm
theorem spAll_sj (s : ByteArray) (c : UInt8) : sj (spAll s c) c = s.data.toList ∧ ∀ x ∈ spAll s c, ¬ c ∈ x.data.toList := by
  obtain ⟨h1, h2⟩ := spSt_join s c s.size (Nat.le_refl _)
  exact ⟨by rw [spAll, h1, take_all], h2⟩
theorem cut_eq (c : UInt8) : ∀ (a b R R' : List UInt8), ¬ c ∈ a → ¬ c ∈ b → (R = [] ∨ ∃ r, R = c :: r) → (R' = [] ∨ ∃ r, R' = c :: r) → a ++ R = b ++ R' → a = b ∧ R = R'
  | [], [], R, R', _, _, _, _, h => ⟨rfl, h⟩
  | [], y :: b, R, R', _, hb, hR, _, h => by
    rcases hR with rfl | ⟨r, rfl⟩
    · simp at h
    · simp only [List.nil_append, List.cons_append, List.cons.injEq] at h
      exact absurd (by rw [h.1]; simp) hb
  | x :: a, [], R, R', ha, _, _, hR, h => by
    rcases hR with rfl | ⟨r, rfl⟩
    · simp at h
    · simp only [List.nil_append, List.cons_append, List.cons.injEq] at h
      exact absurd (by rw [← h.1]; simp) ha
  | x :: a, y :: b, R, R', ha, hb, hR, hR', h => by
    simp only [List.cons_append, List.cons.injEq] at h
    have := cut_eq c a b R R' (fun k => ha (List.mem_cons_of_mem _ k)) (fun k => hb (List.mem_cons_of_mem _ k)) hR hR' h.2
    exact ⟨by rw [h.1, this.1], this.2⟩
theorem tail_form (c : UInt8) (r : List (List UInt8)) : Lib.joinTail [c] r = [] ∨ ∃ u, Lib.joinTail [c] r = c :: u := by
  cases r with
  | nil => exact .inl rfl
  | cons y r => exact .inr ⟨_, rfl⟩
theorem tail_cons (c : UInt8) (y : List UInt8) (r : List (List UInt8)) : Lib.joinTail [c] (y :: r) = c :: (y ++ Lib.joinTail [c] r) := by simp [Lib.joinTail]
theorem tail_inj (c : UInt8) : ∀ (A B : List (List UInt8)), (∀ x ∈ A, ¬ c ∈ x) → (∀ x ∈ B, ¬ c ∈ x) → Lib.joinTail [c] A = Lib.joinTail [c] B → A = B
  | [], [], _, _, _ => rfl
  | [], y :: B, _, _, h => by rw [tail_cons] at h; simp [Lib.joinTail] at h
  | x :: A, [], _, _, h => by rw [tail_cons] at h; simp [Lib.joinTail] at h
  | x :: A, y :: B, hA, hB, h => by
    rw [tail_cons, tail_cons, List.cons.injEq] at h
    obtain ⟨h1, h2⟩ := cut_eq c _ _ _ _ (hA x (by simp)) (hB y (by simp)) (tail_form c A) (tail_form c B) h.2
    rw [h1, tail_inj c A B (fun z hz => hA z (List.mem_cons_of_mem _ hz)) (fun z hz => hB z (List.mem_cons_of_mem _ hz)) h2]
theorem bytes_inj : ∀ (A B : List ByteArray), A.map (·.data.toList) = B.map (·.data.toList) → A = B
  | [], [], _ => rfl
  | [], _ :: _, h => by simp at h
  | _ :: _, [], h => by simp at h
  | a :: A, b :: B, h => by
    simp only [List.map_cons, List.cons.injEq] at h
    have e : a = b := by
      obtain ⟨⟨la⟩⟩ := a
      obtain ⟨⟨lb⟩⟩ := b
      have : la = lb := h.1
      rw [this]
    rw [e, bytes_inj A B h.2]
/-- Two joins of pieces without the mark are equal only if the pieces are. -/
theorem sj_inj {A B : List ByteArray} {c : UInt8} (hA : A ≠ []) (hB : B ≠ []) (mA : ∀ s ∈ A, ¬ c ∈ s.data.toList) (mB : ∀ s ∈ B, ¬ c ∈ s.data.toList) (h : sj A c = sj B c) : A = B := by
  obtain ⟨a, A, rfl⟩ := List.exists_cons_of_ne_nil hA
  obtain ⟨b, B, rfl⟩ := List.exists_cons_of_ne_nil hB
  apply bytes_inj
  unfold sj at h
  simp only [List.map_cons] at h ⊢
  rw [Lib.join_cons, Lib.join_cons] at h
  obtain ⟨h1, h2⟩ := cut_eq c _ _ _ _ (mA a (by simp)) (mB b (by simp)) (tail_form c _) (tail_form c _) h
  rw [h1, tail_inj c _ _ (fun z hz => by obtain ⟨y, hy, rfl⟩ := List.mem_map.1 hz; exact mA y (List.mem_cons_of_mem _ hy)) (fun z hz => by obtain ⟨y, hy, rfl⟩ := List.mem_map.1 hz; exact mB y (List.mem_cons_of_mem _ hy)) h2]
end Go.Proofs.YtpcdjpkcalbpkaaDoor
