/- The two checksums: the model's fold and the program's fold answer the same number at every string. -/
import Derived.Test.YtfjfnbpfeijmnaaDoorRows
import Derived.Test.YtfjfnbpfeijmnaaDoorStr
import Derived.WalkKit
namespace Go.Proofs.YtfjfnbpfeijmnaaDoor
set_option linter.unusedVariables false
open Go.RowKit

set_option maxHeartbeats 400000 in
theorem specSum_any (s : ByteArray) (w : World) (hs : s.size ≤ maxLen) :
    Calls Tryd.prog 41 #[.string s] w fun e w' => e = .returned (.int .i64 (csum s.data.toList)) ∧ w = w' := by
  unfold maxLen at hs
  go_enter Tryd.func41, Tryd.ntmps41
  go_wp2
  go_loop [3, 4] (fun n i => ∃ k : Nat, k ≤ s.size ∧ i = .int .i64 k ∧ n = .int .i64 (csum (s.data.toList.take k))) (fun _ i => s.size - (intOf i).toNat)
  case atStart => exact ⟨0, Nat.zero_le _, rfl, rfl⟩
  case round =>
    obtain ⟨k, hk, rfl, rfl⟩ := hrel
    have hd := csum_bd (s.data.toList.take k)
    by_cases hlt : k < s.size
    · have hb := UInt8.toNat_lt s[k]
      have HS : Hid (csum (s.data.toList.take (k + 1)) = (41 * csum (s.data.toList.take k) + (s[k].toNat : Int) + 1) % 999979) := by rw [take_snoc s k hlt]; exact csum_snoc _ _
      go_wp2
      go_round
      case rel => exact ⟨k + 1, by omega, by go_num, by rw [HS.out]⟩
      case measure => simp [intOf]; omega
    · go_wp2
      go_ret
      exact ⟨ret_int (by rw [List.take_of_length_le (by simp; omega)]), rfl⟩

/-- What both checksums answer. -/
def sumOf (l : List UInt8) : Value := if l.length ≤ 4000 then .tuple #[.int .i64 (csum l), .bool true] else .tuple #[.int .i64 0, .bool false]
theorem sumOf_yes {s : ByteArray} (h : s.size ≤ 4000) : sumOf s.data.toList = .tuple #[.int .i64 (csum s.data.toList), .bool true] := by
  unfold sumOf; rw [if_pos (by simpa using h)]
theorem sumOf_no {s : ByteArray} (h : ¬ s.size ≤ 4000) : sumOf s.data.toList = .tuple #[.int .i64 0, .bool false] := by
  unfold sumOf; rw [if_neg (by simpa using h)]

set_option maxHeartbeats 400000 in
theorem implChecksum_any (s : ByteArray) (w : World) (hs : s.size ≤ maxLen) :
    Calls Tryd.prog 31 #[.string s] w fun e w' => e = .returned (sumOf s.data.toList) ∧ w = w' := by
  by_cases h : s.size ≤ 4000
  · rw [sumOf_yes h]
    unfold maxLen at hs
    go_enter Tryd.func31, Tryd.ntmps31
    go_wp2
    go_loop [4, 5, 11] (fun n _ i => ∃ k : Nat, k ≤ s.size ∧ i = .int .i64 k ∧ n = .int .i64 (csum (s.data.toList.take k))) (fun _ _ i => s.size - (intOf i).toNat)
    case atStart => exact ⟨0, Nat.zero_le _, rfl, rfl⟩
    case round =>
      obtain ⟨k, hk, rfl, rfl⟩ := hrel
      have hd := csum_bd (s.data.toList.take k)
      by_cases hlt : k < s.size
      · have hb := UInt8.toNat_lt s[k]
        have HS : Hid (csum (s.data.toList.take (k + 1)) = (41 * csum (s.data.toList.take k) + (s[k].toNat : Int) + 1) % 999979) := by rw [take_snoc s k hlt]; exact csum_snoc _ _
        go_wp2
        go_round
        case rel => exact ⟨k + 1, by omega, by go_num, by rw [HS.out]⟩
        case measure => simp [intOf]; omega
      · go_wp2
        go_ret2
        exact ⟨ret_int2 (by rw [List.take_of_length_le (by simp; omega)]), rfl⟩
  · rw [sumOf_no h]
    unfold maxLen at hs
    go_enter Tryd.func31, Tryd.ntmps31
    go_wp2_with fail
    go_ret2
    exact ⟨rfl, rfl⟩
end Go.Proofs.YtfjfnbpfeijmnaaDoor
