/- The law FnSplitJoin: whatever bytes it is handed, the call answers true. No condition. -/
import Derived.Test.YtfjfnbpfeijmnaaSplitImpl
import Derived.Test.YtfjfnbpfeijmnaaJoinL
import Derived.Test.YtfjfnbpfeijmnaaDrawJ
import Derived.Lib.Strings
namespace Go.Proofs.Ytfjfnbpfeijmnaa
set_option linter.unusedVariables false
open Go.ChangeShapes Go.WideShapes Go.ChangeAt Go.RowKit
open Go.ChangeMaps (open_string shut_string)

theorem sj_snoc_any (P : List ByteArray) (s : ByteArray) (c : UInt8) : sj (P ++ [s]) c = (if P = [] then [] else sj P c ++ [c]) ++ s.data.toList := by
  by_cases h : P = []
  · subst h; simp [sj_one]
  · rw [sj_snoc _ _ _ h, if_neg h]; simp
/-- What a split leaves can be joined again. -/
theorem spSt_join (s : ByteArray) (c : UInt8) : ∀ k, k ≤ s.size →
    sj ((spSt s c k).1 ++ [s.extract (spSt s c k).2 k]) c = s.data.toList.take k ∧ ∀ x ∈ (spSt s c k).1 ++ [s.extract (spSt s c k).2 k], ¬ c ∈ x.data.toList
  | 0, _ => by
    have e : (s.extract 0 0).data.toList = [] := by rw [Lib.extract_data]; simp
    refine ⟨by simp only [spSt, List.nil_append]; rw [sj_one, e]; simp, fun x hx => ?_⟩
    simp only [spSt, List.nil_append, List.mem_singleton] at hx
    rw [hx, e]; simp
  | k + 1, hk => by
    obtain ⟨ih1, ih2⟩ := spSt_join s c k (by omega)
    have hlt : k < s.size := by omega
    have hf := (spSt_le s c k).1
    by_cases he : s[k] = c
    · rw [spSt_hit s c k hlt he]
      have e : (s.extract (k + 1) (k + 1)).data.toList = [] := by rw [Lib.extract_data]; simp
      refine ⟨?_, fun x hx => ?_⟩
      · rw [sj_snoc _ _ _ (by simp), ih1, e, take_snoc s k hlt, he]
      · rcases List.mem_append.1 hx with h | h
        · exact ih2 x h
        · rw [List.mem_singleton.1 h, e]; simp
    · rw [spSt_miss s c k hlt he]
      have e : (s.extract (spSt s c k).2 (k + 1)).data.toList = (s.extract (spSt s c k).2 k).data.toList ++ [s[k]] := by
        rw [Lib.extract_data, Lib.extract_data, show k + 1 - (spSt s c k).2 = (k - (spSt s c k).2) + 1 by omega, List.take_add_one, List.getElem?_drop, show (spSt s c k).2 + (k - (spSt s c k).2) = k by omega, get_data s k hlt]
        rfl
      refine ⟨?_, fun x hx => ?_⟩
      · rw [sj_snoc_any, e, ← List.append_assoc, ← sj_snoc_any, ih1, take_snoc s k hlt]
      · rcases List.mem_append.1 hx with h | h
        · exact ih2 x (List.mem_append_left _ h)
        · rw [List.mem_singleton.1 h, e, List.mem_append, List.mem_singleton]
          rintro (h | h)
          · exact ih2 _ (List.mem_append_right _ (List.mem_singleton.2 rfl)) h
          · exact he h.symm
theorem spAll_join (s : ByteArray) (c : UInt8) (hs : s.size ≤ 4000) : joinAns (spAll s c) c = .tuple #[.string s, .bool true] := by
  obtain ⟨h1, h2⟩ := spSt_join s c s.size (Nat.le_refl _)
  have h3 : sj (spAll s c) c = s.data.toList := by rw [spAll, h1, take_all]
  rw [joinAns_yes ⟨spAll_ne s c, h2, by rw [h3]; simpa using hs⟩, h3]
theorem spAll_size (s : ByteArray) (c : UInt8) (hs : s.size ≤ 4000) : ∀ x ∈ spAll s c, x.size ≤ 1099511627776 := fun x hx => by
  have h1 := size_le_sz hx
  have h2 := sj_len (spAll s c) c (spAll_ne s c)
  have h3 : sj (spAll s c) c = s.data.toList := by rw [spAll, (spSt_join s c s.size (Nat.le_refl _)).1, take_all]
  rw [h3] at h2
  have h4 : s.data.toList.length = s.size := by simp
  omega

def lessB (a b : ByteArray) : Bool := Op.bytesLess a.toList b.toList
theorem bytesLess_asymm : ∀ x y : List UInt8, Op.bytesLess x y = true → Op.bytesLess y x = false
  | x, [], h => by cases x <;> simp [Op.bytesLess] at h
  | [], b :: y, _ => by simp [Op.bytesLess]
  | a :: x, b :: y, h => by
    simp only [Op.bytesLess, Bool.or_eq_true, decide_eq_true_eq, Bool.and_eq_true, beq_iff_eq] at h
    simp only [Op.bytesLess, Bool.or_eq_false_iff, decide_eq_false_iff_not, Bool.and_eq_false_iff, beq_eq_false_iff_ne]
    rcases h with h | ⟨rfl, h⟩
    · exact ⟨fun h' => absurd (UInt8.lt_trans h h') (UInt8.lt_irrefl _), .inl (fun e => by rw [e] at h; exact UInt8.lt_irrefl _ h)⟩
    · exact ⟨UInt8.lt_irrefl _, .inr (bytesLess_asymm x y h)⟩
theorem less_specs (a b : ByteArray) (p : Bool) (hp : lessB a b = p) (w : World) :
    Calls Try.prog 16 #[.string a, .string b] w fun e w' => e = .returned (.bool p) ∧ w = w' := by
  have HP := Lib.hid hp
  clear hp
  go_enter Try.func16, Try.ntmps16
  go_wp2
  go_ret
  exact ⟨ret_bool HP.out, rfl⟩
theorem less_impl (a b : ByteArray) (p : Bool) (hp : lessB a b = p) (w : World) :
    Calls Try.prog 15 #[.string a, .string b] w fun e w' => e = .returned (.bool p) ∧ w = w' := by
  have HP := Lib.hid hp
  clear hp
  go_enter Try.func15, Try.ntmps15
  go_wp2
  go_ret
  exact ⟨ret_bool HP.out, rfl⟩

/-- What the law learns of one draw: a text that is split, and joined again where it could be. -/
theorem split_join (s sep : ByteArray) (hs : s.size ≤ 10) (hp : sep.size ≤ 2) :
    (sep.size = 1 ∧ ∃ ss : List ByteArray, ss.length ≤ 4001 ∧ (∀ w, Calls Try.prog 10 #[.string s, .string sep] w (SplitGives ss true w)) ∧
      (∀ v w, RowOf Value.string w v ss → Calls Try.prog 12 #[v, .string sep] w fun e w' => e = .returned (.tuple #[.string s, .bool true]) ∧ Below w.heap.size w w')) ∨
    (sep.size ≠ 1 ∧ (∀ w, Calls Try.prog 10 #[.string s, .string sep] w (SplitGives [] false w))) := by
  by_cases h1 : sep.size = 1
  · refine .inl ⟨h1, ?_⟩
    obtain ⟨c, rfl⟩ : ∃ c, sep = ⟨#[c]⟩ := by
      obtain ⟨⟨l⟩⟩ := sep
      match l, h1 with
      | [c], _ => exact ⟨c, rfl⟩
    have hl := spAll_len s c
    refine ⟨spAll s c, by omega, fun w => implSplit_one s c w (by omega), fun v w hr => ?_⟩
    have := implJoin_one v (spAll s c) c w hr (spAll_size s c (by omega)) (spAll_ne s c) (by omega)
    rwa [spAll_join s c (by omega)] at this
  · exact .inr ⟨h1, fun w => implSplit_bad s sep w (by unfold maxLen; omega) (by unfold maxLen; omega) (.inr h1)⟩
end Go.Proofs.Ytfjfnbpfeijmnaa
