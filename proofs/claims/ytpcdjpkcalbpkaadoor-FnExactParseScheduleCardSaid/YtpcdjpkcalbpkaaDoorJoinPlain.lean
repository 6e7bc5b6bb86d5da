/- Plain facts on texts joined by one byte. -/
import Derived.Test.YtpcdjpkcalbpkaaDoorRowOf
import Derived.Lib.Join
namespace Go.Proofs.YtpcdjpkcalbpkaaDoor
set_option linter.unusedVariables false
open Go.RowKit

def sj (ss : List ByteArray) (c : UInt8) : List UInt8 := Lib.join (ss.map (·.data.toList)) [c]
def sz (ss : List ByteArray) : Nat := (ss.map ByteArray.size).sum
theorem sj_nil (c : UInt8) : sj [] c = [] := rfl
theorem sj_one (s : ByteArray) (c : UInt8) : sj [s] c = s.data.toList := by unfold sj; simp [Lib.join_one]
theorem sj_snoc (ss : List ByteArray) (s : ByteArray) (c : UInt8) (h : ss ≠ []) : sj (ss ++ [s]) c = sj ss c ++ c :: s.data.toList := by
  cases ss with
  | nil => exact absurd rfl h
  | cons x r => unfold sj; simp [Lib.join_cons, Lib.joinTail]
theorem sz_snoc (ss : List ByteArray) (s : ByteArray) : sz (ss ++ [s]) = sz ss + s.size := by simp [sz]
theorem sj_len (ss : List ByteArray) (c : UInt8) (h : ss ≠ []) : (sj ss c).length + 1 = sz ss + ss.length := by
  revert h
  refine snoc_ind (P := fun ss => ss ≠ [] → (sj ss c).length + 1 = sz ss + ss.length) (fun h => absurd rfl h) (fun l s ih _ => ?_) ss
  · by_cases hl : l = []
    · subst hl; simp [sj_one, sz]; 
    · rw [sj_snoc _ _ _ hl, sz_snoc]
      have := ih hl
      simp only [List.length_append, List.length_cons, List.length_nil, Array.length_toList]
      have e : s.data.size = s.size := rfl
      omega
theorem take_succ_snoc {α : Type} (ss : List α) (k : Nat) (h : k < ss.length) : ss.take (k + 1) = ss.take k ++ [ss[k]] := List.take_succ_eq_append_getElem h
theorem take_ne {α : Type} (ss : List α) (k : Nat) (h0 : 0 < k) (h : k < ss.length) : ss.take k ≠ [] := by
  intro e
  have := congrArg List.length e
  rw [List.length_take, List.length_nil] at this
  omega
theorem take_ne' {α : Type} (ss : List α) (k : Nat) (h0 : 0 < k) (h : k ≤ ss.length) : ss.take k ≠ [] := by
  intro e
  have := congrArg List.length e
  rw [List.length_take, List.length_nil] at this
  omega
theorem cat3 (o : List UInt8) (c : UInt8) (s : ByteArray) : (⟨o.toArray⟩ : ByteArray) ++ ⟨#[c]⟩ ++ s = ⟨(o ++ c :: s.data.toList).toArray⟩ := by
  apply ByteArray.ext
  simp
theorem cat1 (s : ByteArray) : (⟨#[]⟩ : ByteArray) ++ s = ⟨s.data.toList.toArray⟩ := by
  apply ByteArray.ext
  simp
theorem size_le_sz {ss : List ByteArray} {s : ByteArray} (h : s ∈ ss) : s.size ≤ sz ss := by
  induction ss with
  | nil => cases h
  | cons x r ih =>
    simp only [sz, List.map_cons, List.sum_cons] at *
    rcases List.mem_cons.1 h with rfl | h
    · omega
    · have := ih h; omega
theorem sz_take_le (ss : List ByteArray) (k : Nat) : sz (ss.take k) ≤ sz ss := by
  have : sz (ss.take k) + sz (ss.drop k) = sz ss := by
    conv => rhs; rw [← List.take_append_drop k ss]
    simp only [sz, List.map_append, List.sum_append]
  omega

/-- The texts can be joined by c: there is one, none holds c, and the result has at most 4000 bytes. -/
def joinGood (ss : List ByteArray) (c : UInt8) : Prop := ss ≠ [] ∧ (∀ s ∈ ss, ¬ c ∈ s.data.toList) ∧ (sj ss c).length ≤ 4000
open Classical in
/-- What JoinStrings answers at the separator c. -/
noncomputable def joinAns (ss : List ByteArray) (c : UInt8) : Value :=
  if joinGood ss c then .tuple #[.string ⟨(sj ss c).toArray⟩, .bool true] else .tuple #[.string ⟨#[]⟩, .bool false]
theorem joinAns_yes {ss : List ByteArray} {c : UInt8} (h : joinGood ss c) : joinAns ss c = .tuple #[.string ⟨(sj ss c).toArray⟩, .bool true] := if_pos h
theorem joinAns_no {ss : List ByteArray} {c : UInt8} (h : ¬ joinGood ss c) : joinAns ss c = .tuple #[.string ⟨#[]⟩, .bool false] := if_neg h
theorem joinBad_stands {ss : List ByteArray} {c : UInt8} (k : Nat) (hk : k < ss.length) (h : c ∈ ss[k].data.toList) : ¬ joinGood ss c := fun g => g.2.1 _ (List.getElem_mem hk) h
theorem joinBad_long {ss : List ByteArray} {c : UInt8} (k : Nat) (h0 : 0 < k) (hk : k ≤ ss.length) (h : 4000 < sz (ss.take k) + (ss.length - 1)) : ¬ joinGood ss c := fun g => by
  have := sj_len ss c g.1
  have := sz_take_le ss k
  have := g.2.2
  omega
theorem ret_val {a b : Value} (h : a = b) : Ending.returned a = .returned b := by rw [h]
end Go.Proofs.YtpcdjpkcalbpkaaDoor
