/- A sealed text with one byte changed is not sealed. No program is named here. -/
import Derived.Test.YtfjfnbpfeijmnaaDoorCutPlain
import Derived.Test.YtfjfnbpfeijmnaaDoorParsePlain
import Derived.Test.YtfjfnbpfeijmnaaDoorStr
import Derived.Lib.ItoaNum
namespace Go.Proofs.YtfjfnbpfeijmnaaDoor
set_option linter.unusedVariables false
open Go.RowKit

/-- A text with its checksum. -/
def sealL (l : List UInt8) : List UInt8 := l ++ 35 :: Lib.itoa (csum l)

theorem step_inj {h1 h2 : Int} {c : UInt8} (a1 : 0 ≤ h1) (b1 : h1 < 999979) (a2 : 0 ≤ h2) (b2 : h2 < 999979) (h : sumStep h1 c = sumStep h2 c) : h1 = h2 := by
  unfold sumStep at h
  omega
theorem fold_inj (q : List UInt8) : ∀ {h1 h2 : Int}, 0 ≤ h1 → h1 < 999979 → 0 ≤ h2 → h2 < 999979 → q.foldl sumStep h1 = q.foldl sumStep h2 → h1 = h2 := by
  induction q with
  | nil => intro h1 h2 _ _ _ _ h; exact h
  | cons c q ih =>
    intro h1 h2 a1 b1 a2 b2 h
    rw [List.foldl_cons, List.foldl_cons] at h
    have s1 := sumStep_bd h1 c
    have s2 := sumStep_bd h2 c
    exact step_inj a1 b1 a2 b2 (ih s1.1 s1.2 s2.1 s2.2 h)
theorem csum_change {p q : List UInt8} {b c : UInt8} (h : b ≠ c) : csum (p ++ b :: q) ≠ csum (p ++ c :: q) := by
  intro e
  unfold csum at e
  rw [List.foldl_append, List.foldl_append, List.foldl_cons, List.foldl_cons] at e
  have s1 := sumStep_bd (p.foldl sumStep 7) b
  have s2 := sumStep_bd (p.foldl sumStep 7) c
  have e2 := fold_inj q s1.1 s1.2 s2.1 s2.2 e
  unfold sumStep at e2
  have hb := UInt8.toNat_lt b
  have hc := UInt8.toNat_lt c
  have : b.toNat ≠ c.toNat := fun x => h (UInt8.toNat_inj.1 x)
  omega
theorem itoa_csum_no35 (l : List UInt8) : ¬ (35 : UInt8) ∈ Lib.itoa (csum l) := by
  have h := (csum_bd l).1
  obtain ⟨u, hu⟩ := Int.eq_ofNat_of_zero_le h
  rw [hu, Lib.itoa_nonneg]
  intro hm
  have := (dec_digits u).1 35 hm
  unfold isD at this
  simp at this
theorem itoa_csum_inj {l m : List UInt8} (h : Lib.itoa (csum l) = Lib.itoa (csum m)) : csum l = csum m := by
  have h1 := csum_bd l
  have h2 := csum_bd m
  rw [← readN_itoa (csum l) (by omega) (by omega), ← readN_itoa (csum m) (by omega) (by omega), h]
theorem append_mark_inj {a b x y : List UInt8} (ha : ¬ (35 : UInt8) ∈ a) (hb : ¬ (35 : UInt8) ∈ b) (h : a ++ 35 :: x = b ++ 35 :: y) : a = b ∧ x = y := by
  have e : a = b := by rw [← ahead_at (r := x) ha, ← ahead_at (r := y) hb, h]
  subst e
  exact ⟨rfl, by simpa using h⟩

theorem seal_change {l : List UInt8} {k : Nat} {b : UInt8} (hl : ¬ (35 : UInt8) ∈ l) (hk : k < (sealL l).length) (hb : b ≠ (sealL l)[k]) :
    sealL (ahead ((sealL l).set k b) 35) ≠ (sealL l).set k b := by
  intro e
  have hne := ahead_no ((sealL l).set k b) 35
  by_cases h1 : k < l.length
  · have hset : (sealL l).set k b = l.take k ++ b :: (l.drop (k + 1) ++ 35 :: Lib.itoa (csum l)) := by
      unfold sealL
      rw [List.set_append_left _ _ h1, List.set_eq_take_append_cons_drop, if_pos h1]
      simp
    have hlk : l = l.take k ++ l[k] :: l.drop (k + 1) := by
      conv => lhs; rw [← List.take_append_drop k l, List.drop_eq_getElem_cons h1]
    have hbk : b ≠ l[k] := by
      intro e2
      have e3 : (sealL l)[k] = l[k] := List.getElem_append_left h1
      exact hb (e2.trans e3.symm)
    have ht : ¬ (35 : UInt8) ∈ l.take k := fun h => hl (List.mem_of_mem_take h)
    rw [hset] at e
    by_cases hb35 : b = 35
    · subst hb35
      rw [ahead_at ht] at e
      unfold sealL at e
      have e2 : Lib.itoa (csum (l.take k)) = l.drop (k + 1) ++ 35 :: Lib.itoa (csum l) := by simpa using e
      exact itoa_csum_no35 (l.take k) (by rw [e2]; simp)
    · have hl' : ¬ (35 : UInt8) ∈ l.take k ++ b :: l.drop (k + 1) := by
        rw [List.mem_append, List.mem_cons]
        rintro (h | h | h)
        · exact ht h
        · exact hb35 h.symm
        · exact hl (List.mem_of_mem_drop h)
      have e1 : l.take k ++ b :: (l.drop (k + 1) ++ 35 :: Lib.itoa (csum l)) = (l.take k ++ b :: l.drop (k + 1)) ++ 35 :: Lib.itoa (csum l) := by simp
      rw [e1, ahead_at hl'] at e
      unfold sealL at e
      have e2 := (append_mark_inj hl' hl' e).2
      have e3 := itoa_csum_inj e2
      have e4 := csum_change (p := l.take k) (q := l.drop (k + 1)) hbk
      rw [← hlk] at e4
      exact e4 e3
  · by_cases h2 : k = l.length
    · subst h2
      have hset : (sealL l).set l.length b = l ++ b :: Lib.itoa (csum l) := by
        unfold sealL
        rw [List.set_append_right _ _ (Nat.le_refl _), Nat.sub_self, List.set_cons_zero]
      have hbk : b ≠ 35 := by
        intro e2
        have e4 : (sealL l)[l.length]? = some 35 := by unfold sealL; rw [List.getElem?_append_right (Nat.le_refl _), Nat.sub_self]; rfl
        rw [List.getElem?_eq_getElem hk] at e4
        have e3 := Option.some.inj e4
        exact hb (e2.trans e3.symm)
      have hno : ¬ (35 : UInt8) ∈ l ++ b :: Lib.itoa (csum l) := by
        rw [List.mem_append, List.mem_cons]
        rintro (h | h | h)
        · exact hl h
        · exact hbk h.symm
        · exact itoa_csum_no35 l h
      rw [hset, ahead_all hno] at e
      have := congrArg List.length e
      unfold sealL at this
      simp at this
    · have hset : (sealL l).set k b = l ++ 35 :: (Lib.itoa (csum l)).set (k - l.length - 1) b := by
        unfold sealL
        rw [List.set_append_right _ _ (by omega)]
        obtain ⟨j, hj⟩ : ∃ j, k - l.length = j + 1 := ⟨k - l.length - 1, by omega⟩
        rw [hj, List.set_cons_succ]
        simp
      rw [hset, ahead_at hl, ← hset] at e
      have := congrArg (fun x => x[k]?) e
      simp only [List.getElem?_set_self hk, List.getElem?_eq_getElem hk] at this
      exact hb (Option.some.inj this).symm
end Go.Proofs.YtfjfnbpfeijmnaaDoor
