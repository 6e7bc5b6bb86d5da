/- spec.l1Stands: whether a byte stands in a text; strings.Contains at one byte says the same. -/
import Derived.Test.YtfjfnbpfeijmnaaDoorRows
import Derived.Test.YtfjfnbpfeijmnaaDoorStr
import Derived.Lib.IndexLaws
namespace Go.Proofs.YtfjfnbpfeijmnaaDoor
set_option linter.unusedVariables false
open Go.RowKit

/-- The byte c stands in l. -/
def stands (l : List UInt8) (c : UInt8) : Bool := decide (c ∈ l)
theorem stands_iff (l : List UInt8) (c : UInt8) : stands l c = true ↔ c ∈ l := by simp [stands]
theorem stands_no (l : List UInt8) (c : UInt8) : stands l c = false ↔ ¬ c ∈ l := by simp [stands]
theorem indexByte_cons (b : UInt8) (l : List UInt8) (c : UInt8) : Lib.indexByte (b :: l) c = if b == c then 0 else if Lib.indexByte l c == -1 then -1 else Lib.indexByte l c + 1 := by
  conv => lhs; unfold Lib.indexByte
theorem indexByte_stands (l : List UInt8) (c : UInt8) : decide (0 ≤ Lib.indexByte l c) = stands l c := by
  induction l with
  | nil => rfl
  | cons b l ih =>
    have hg := Lib.indexByte_ge l c
    rw [indexByte_cons, Bool.eq_iff_iff, stands_iff]
    rw [Bool.eq_iff_iff, stands_iff] at ih
    by_cases h : b = c
    · subst h; simp
    · have h' : ¬ c = b := fun e => h e.symm
      by_cases h2 : Lib.indexByte l c = -1
      · simp [h, h2, h', ← ih]
      · simp [h, h2, h', ← ih]; omega

set_option maxHeartbeats 400000 in
theorem stands_any (s : ByteArray) (c : UInt8) (w : World) (hs : s.size ≤ maxLen) :
    Calls Tryd.prog 33 #[.string s, .int .u8 (c.toNat : Int)] w fun e w' => e = .returned (.bool (stands s.data.toList c)) ∧ w = w' := by
  unfold maxLen at hs
  have hc := UInt8.toNat_lt c
  go_enter Tryd.func33, Tryd.ntmps33
  go_wp2
  go_loop [5] (fun i => ∃ k : Nat, k ≤ s.size ∧ i = .int .i64 k ∧ ¬ c ∈ s.data.toList.take k) (fun i => s.size - (intOf i).toNat)
  case atStart => exact ⟨0, Nat.zero_le _, rfl, by simp⟩
  case round =>
    obtain ⟨k, hk, rfl, hn⟩ := hrel
    have HN := Lib.hid hn
    clear hn
    by_cases hlt : k < s.size
    · have hb := UInt8.toNat_lt s[k]
      by_cases he : s[k] = c
      · have hx : ((s[k].toNat : Int) == (c.toNat : Int)) = true := by rw [he]; simp
        have HE := Lib.hid he
        clear he
        go_wp2
        go_ret
        exact ⟨ret_bool (Eq.symm (by rw [stands_iff, ← HE.out]; exact List.mem_of_getElem (i := k) (h := by simpa using hlt) rfl)), rfl⟩
      · have hx : ((s[k].toNat : Int) == (c.toNat : Int)) = false := by
          rw [beq_eq_false_iff_ne]; intro e; exact he (UInt8.toNat_inj.1 (by omega))
        have HE := Lib.hid he
        clear he
        go_wp2
        go_round
        case rel => exact ⟨k + 1, by omega, by go_num, by rw [take_snoc s k hlt, List.mem_append, List.mem_singleton]; exact fun h => h.elim HN.out (fun h => HE.out h.symm)⟩
        case measure => simp [intOf]; omega
    · go_wp2
      go_ret
      refine ⟨ret_bool (Eq.symm ?_), rfl⟩
      rw [stands_no]
      have := HN.out
      rwa [List.take_of_length_le (by simp; omega)] at this
end Go.Proofs.YtfjfnbpfeijmnaaDoor
