/- What a word is: the model's and the program's functions that say it. -/
import Derived.Test.YtalaegkfkjpmoaaWordM
import Derived.Test.YtalaegkfkjpmoaaL1In
import Derived.Test.YtalaegkfkjpmoaaCells
import Derived.Test.YtalaegkfkjpmoaaBytesNe
namespace Go.Proofs.Ytalaegkfkjpmoaa
set_option linter.unusedVariables false
open Go.RowKit

theorem lowAt_eq {s : ByteArray} {k : Nat} (h : k < s.size) : lowAt s k = decide (97 ≤ s[k].toNat ∧ s[k].toNat ≤ 122) := by
  have e : s.data.toList.getD k 0 = s[k] := by
    rw [List.getD, List.getElem?_eq_getElem (by simpa using h), Option.getD_some]
    rfl
  unfold lowAt
  rw [e]
theorem isWord_no {s : ByteArray} {k : Nat} (h : k < s.size) (hl : lowAt s k = false) : isWord s = false := by
  unfold isWord
  rw [upto_false h hl]
  simp

set_option maxHeartbeats 400000 in
theorem l2Word_any (s : ByteArray) (w : World) (hs : s.size ≤ maxLen) :
    Calls Try.prog 122 #[.string s] w fun e w' => e = .returned (.bool (isWord s)) ∧ w' = w := by
  unfold maxLen at hs
  go_enter Try.func122, Try.ntmps122
  go_wp2
  go_loop [3] (fun i => ∃ k : Nat, k ≤ s.size ∧ i = .int .i64 k ∧ upto (lowAt s) k = true) (fun i => s.size - (intOf i).toNat)
  case atStart => exact ⟨0, Nat.zero_le _, rfl, by simp [upto]⟩
  case round =>
    obtain ⟨k, hk, rfl, hu⟩ := hrel
    have HU := Lib.hid hu
    clear hu
    by_cases hlt : k < s.size
    · have hb := UInt8.toNat_lt s[k]
      have hL := Lib.hid (lowAt_eq hlt)
      by_cases h1 : s[k].toNat < 97
      · go_wp2
        go_ret
        exact ⟨ret_bool (Eq.symm (isWord_no hlt (by rw [hL.out]; simp; omega))), rfl⟩
      · by_cases h2 : 122 < s[k].toNat
        · go_wp2
          go_ret
          exact ⟨ret_bool (Eq.symm (isWord_no hlt (by rw [hL.out]; simp; omega))), rfl⟩
        · go_wp2
          go_round
          case rel => exact ⟨k + 1, by omega, by go_num, upto_succ HU.out (by rw [hL.out]; simp; omega)⟩
          case measure => simp [intOf]; omega
    · obtain rfl : k = s.size := by omega
      go_wp2_with (first | (go_at_call 112; refine (l1In_any _ _ _ _).mono ?_; rintro e w' ⟨rfl, rfl⟩))
      go_ret
      exact ⟨ret_bool (by unfold isWord; rw [HU.out, Bool.and_true]; rw [Bool.eq_iff_iff]; simp; omega), rfl⟩

theorem size_zero {s : ByteArray} (h : s.size = 0) : s = ⟨#[]⟩ := by
  obtain ⟨⟨l⟩⟩ := s
  cases l with
  | nil => rfl
  | cons a l => simp [ByteArray.size] at h

set_option maxHeartbeats 400000 in
theorem implIsWord_any (s : ByteArray) (w : World) (hs : s.size ≤ maxLen) :
    Calls Try.prog 86 #[.string s] w fun e w' => e = .returned (.bool (isWord s)) ∧ w' = w := by
  unfold maxLen at hs
  by_cases h0 : s.size = 0
  · obtain rfl := size_zero h0
    go_enter Try.func86, Try.ntmps86
    go_wp2
    go_ret
    exact ⟨ret_bool (by decide), rfl⟩
  · have hne : ¬ s = ⟨#[]⟩ := fun e => h0 (by rw [e]; rfl)
    have hq : s.toList.isEmpty = false := by
      rw [ByteArray.toList_eq, List.isEmpty_eq_false_iff]
      intro e
      exact h0 (by rw [← ByteArray.size_data, ← Array.length_toList, e]; rfl)
    by_cases h10 : 10 < s.size
    · have hno : isWord s = false := by unfold isWord; rw [decide_eq_false (by omega)]; rfl
      have HNO := Lib.hid hno
      clear hno hne
      go_enter Try.func86, Try.ntmps86
      go_wp2
      go_ret
      exact ⟨ret_bool HNO.out.symm, rfl⟩
    · clear hne
      go_enter Try.func86, Try.ntmps86
      go_wp2
      go_loop [13] (fun i => ∃ k : Nat, k ≤ s.size ∧ i = .int .i64 k ∧ upto (lowAt s) k = true) (fun i => s.size - (intOf i).toNat)
      case atStart => exact ⟨0, Nat.zero_le _, rfl, by simp [upto]⟩
      case round =>
        obtain ⟨k, hk, rfl, hu⟩ := hrel
        have HU := Lib.hid hu
        clear hu
        by_cases hlt : k < s.size
        · have hb := UInt8.toNat_lt s[k]
          have hL := Lib.hid (lowAt_eq hlt)
          by_cases h1 : s[k].toNat < 97
          · go_wp2
            go_ret
            exact ⟨ret_bool (Eq.symm (isWord_no hlt (by rw [hL.out]; simp; omega))), rfl⟩
          · by_cases h2 : 122 < s[k].toNat
            · go_wp2
              go_ret
              exact ⟨ret_bool (Eq.symm (isWord_no hlt (by rw [hL.out]; simp; omega))), rfl⟩
            · go_wp2
              go_round
              case rel => exact ⟨k + 1, by omega, by go_num, upto_succ HU.out (by rw [hL.out]; simp; omega)⟩
              case measure => simp [intOf]; omega
        · obtain rfl : k = s.size := by omega
          go_wp2
          go_ret
          exact ⟨ret_bool (by unfold isWord; rw [HU.out, Bool.and_true]; simp; omega), rfl⟩
end Go.Proofs.Ytalaegkfkjpmoaa
