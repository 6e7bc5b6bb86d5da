/- What a word and a function are: the model's and the program's functions that say it. -/
import Derived.Test.YtlkflnpndeeckaaFnM
import Derived.Test.YtlkflnpndeeckaaTyFn
import Derived.Test.YtlkflnpndeeckaaL1In
import Derived.Test.YtlkflnpndeeckaaCells
import Derived.Test.YtlkflnpndeeckaaBytesNe
namespace Go.Proofs.Ytlkflnpndeeckaa
set_option linter.unusedVariables false
open Go.RowKit

theorem lowAt_eq {s : ByteArray} {k : Nat} (h : k < s.size) : lowAt s k = decide (97 ≤ s[k].toNat ∧ s[k].toNat ≤ 122) := by
  have e : s.data.toList.getD k 0 = s[k] := by
    rw [List.getD, List.getElem?_eq_getElem (by simpa using h), Option.getD_some]
    rfl
  unfold lowAt
  rw [e]
theorem isWord_no {s : ByteArray} {k : Nat} (h : k < s.size) (hl : lowAt s k = false) : isWord s = false := by
  unfold isWord
  rw [upto_false h hl]
  simp

set_option maxHeartbeats 400000 in
theorem l2Word_any (s : ByteArray) (w : World) (hs : s.size ≤ maxLen) :
    Calls Try.prog 125 #[.string s] w fun e w' => e = .returned (.bool (isWord s)) ∧ w' = w := by
  unfold maxLen at hs
  go_enter Try.func125, Try.ntmps125
  go_wp2
  go_loop [3] (fun i => ∃ k : Nat, k ≤ s.size ∧ i = .int .i64 k ∧ upto (lowAt s) k = true) (fun i => s.size - (intOf i).toNat)
  case atStart => exact ⟨0, Nat.zero_le _, rfl, by simp [upto]⟩
  case round =>
    obtain ⟨k, hk, rfl, hu⟩ := hrel
    have HU := Lib.hid hu
    clear hu
    by_cases hlt : k < s.size
    · have hb := UInt8.toNat_lt s[k]
      have hL := Lib.hid (lowAt_eq hlt)
      by_cases h1 : s[k].toNat < 97
      · go_wp2
        go_ret
        exact ⟨ret_bool (Eq.symm (isWord_no hlt (by rw [hL.out]; simp; omega))), rfl⟩
      · by_cases h2 : 122 < s[k].toNat
        · go_wp2
          go_ret
          exact ⟨ret_bool (Eq.symm (isWord_no hlt (by rw [hL.out]; simp; omega))), rfl⟩
        · go_wp2
          go_round
          case rel => exact ⟨k + 1, by omega, by go_num, upto_succ HU.out (by rw [hL.out]; simp; omega)⟩
          case measure => simp [intOf]; omega
    · obtain rfl : k = s.size := by omega
      go_wp2_with (first | (go_at_call 106; refine (l1In_any _ _ _ _).mono ?_; rintro e w' ⟨rfl, rfl⟩))
      go_ret
      exact ⟨ret_bool (by unfold isWord; rw [HU.out, Bool.and_true]; rw [Bool.eq_iff_iff]; simp; omega), rfl⟩

theorem size_zero {s : ByteArray} (h : s.size = 0) : s = ⟨#[]⟩ := by
  obtain ⟨⟨l⟩⟩ := s
  cases l with
  | nil => rfl
  | cons a l => simp [ByteArray.size] at h

set_option maxHeartbeats 400000 in
theorem implIsWord_any (s : ByteArray) (w : World) (hs : s.size ≤ maxLen) :
    Calls Try.prog 102 #[.string s] w fun e w' => e = .returned (.bool (isWord s)) ∧ w' = w := by
  unfold maxLen at hs
  by_cases h0 : s.size = 0
  · obtain rfl := size_zero h0
    go_enter Try.func102, Try.ntmps102
    go_wp2
    go_ret
    exact ⟨ret_bool (by decide), rfl⟩
  · have hne : ¬ s = ⟨#[]⟩ := fun e => h0 (by rw [e]; rfl)
    have hq : s.toList.isEmpty = false := by
      rw [ByteArray.toList_eq, List.isEmpty_eq_false_iff]
      intro e
      exact h0 (by rw [← ByteArray.size_data, ← Array.length_toList, e]; rfl)
    by_cases h10 : 10 < s.size
    · have hno : isWord s = false := by unfold isWord; rw [decide_eq_false (by omega)]; rfl
      have HNO := Lib.hid hno
      clear hno hne
      go_enter Try.func102, Try.ntmps102
      go_wp2
      go_ret
      exact ⟨ret_bool HNO.out.symm, rfl⟩
    · clear hne
      go_enter Try.func102, Try.ntmps102
      go_wp2
      go_loop [13] (fun i => ∃ k : Nat, k ≤ s.size ∧ i = .int .i64 k ∧ upto (lowAt s) k = true) (fun i => s.size - (intOf i).toNat)
      case atStart => exact ⟨0, Nat.zero_le _, rfl, by simp [upto]⟩
      case round =>
        obtain ⟨k, hk, rfl, hu⟩ := hrel
        have HU := Lib.hid hu
        clear hu
        by_cases hlt : k < s.size
        · have hb := UInt8.toNat_lt s[k]
          have hL := Lib.hid (lowAt_eq hlt)
          by_cases h1 : s[k].toNat < 97
          · go_wp2
            go_ret
            exact ⟨ret_bool (Eq.symm (isWord_no hlt (by rw [hL.out]; simp; omega))), rfl⟩
          · by_cases h2 : 122 < s[k].toNat
            · go_wp2
              go_ret
              exact ⟨ret_bool (Eq.symm (isWord_no hlt (by rw [hL.out]; simp; omega))), rfl⟩
            · go_wp2
              go_round
              case rel => exact ⟨k + 1, by omega, by go_num, upto_succ HU.out (by rw [hL.out]; simp; omega)⟩
              case measure => simp [intOf]; omega
        · obtain rfl : k = s.size := by omega
          go_wp2
          go_ret
          exact ⟨ret_bool (by unfold isWord; rw [HU.out, Bool.and_true]; simp; omega), rfl⟩

theorem specFn_any (x : Fn) (w : World) (hs : x.name.size ≤ maxLen) : Calls Try.prog 103 #[.agg #[.int .i64 x.id, .int .i64 x.parent, .string x.name]] w fun e w' => e = .returned (.bool (isFn x)) ∧ Below w.heap.size w w' := by
  obtain ⟨i, p, s⟩ := x
  simp only at hs ⊢
  obtain ⟨b1, hb1⟩ : ∃ b, decide (1 ≤ i ∧ i ≤ 99) = b := ⟨_, rfl⟩
  obtain ⟨b2, hb2⟩ : ∃ b, decide (0 ≤ p ∧ p ≤ i - 1) = b := ⟨_, rfl⟩
  have HB1 := Lib.hid hb1
  have HB2 := Lib.hid hb2
  have e2 : decide (0 ≤ p ∧ p < i) = b2 := by rw [← hb2]; apply decide_eq_decide.2; omega
  have E2 := Lib.hid e2
  clear hb1 hb2 e2
  cases b1
  · go_enter Try.func103, Try.ntmps103
    go_wp2_with (first | (go_at_call 106; refine (l1In_any _ _ _ _).mono ?_; rw [HB1.out]; rintro e w' ⟨rfl, rfl⟩))
    go_ret
    exact ⟨ret_bool (Eq.symm (by simp only [isFn]; rw [HB1.out]; rfl)), below_al (Below.refl _ _) _⟩
  · have hi : IntKind.i64.wrap (i - 1) = i - 1 := Go.IntWalk.i64_in _ (by have := of_decide_eq_true HB1.out; omega)
    cases b2
    · go_enter Try.func103, Try.ntmps103
      go_wp2_with (first | (go_at_call 106; refine (l1In_any _ _ _ _).mono ?_; (first | rw [HB1.out] | rw [HB2.out]); rintro e w' ⟨rfl, rfl⟩))
      go_ret
      exact ⟨ret_bool (Eq.symm (by simp only [isFn]; rw [HB1.out, E2.out]; rfl)), below_al (Below.refl _ _) _⟩
    · go_enter Try.func103, Try.ntmps103
      go_wp2_with (first | (go_at_call 106; refine (l1In_any _ _ _ _).mono ?_; (first | rw [HB1.out] | rw [HB2.out]); rintro e w' ⟨rfl, rfl⟩) | (go_at_call 125; refine (l2Word_any _ _ hs).mono ?_; rintro e w' ⟨rfl, rfl⟩))
      go_ret
      exact ⟨ret_bool (Eq.symm (by simp only [isFn]; rw [HB1.out, E2.out]; rfl)), below_al (Below.refl _ _) _⟩

theorem implIsFn_any (x : Fn) (w : World) (hs : x.name.size ≤ maxLen) : Calls Try.prog 56 #[.agg #[.int .i64 x.id, .int .i64 x.parent, .string x.name]] w fun e w' => e = .returned (.bool (isFn x)) ∧ Below w.heap.size w w' := by
  obtain ⟨i, p, s⟩ := x
  simp only at hs ⊢
  by_cases h1 : 0 ≤ p
  · by_cases h2 : p < i
    · by_cases h3 : i ≤ 99
      · go_enter Try.func56, Try.ntmps56
        go_wp2_with (first | (go_at_call 102; refine (implIsWord_any _ _ hs).mono ?_; rintro e w' ⟨rfl, rfl⟩))
        go_ret
        exact ⟨ret_bool (Eq.symm (by simp only [isFn]; rw [decide_eq_true (show 1 ≤ i ∧ i ≤ 99 by omega), decide_eq_true (show 0 ≤ p ∧ p < i by omega)]; rfl)), below_al (Below.refl _ _) _⟩
      · go_enter Try.func56, Try.ntmps56
        go_wp2_with fail
        go_ret
        exact ⟨ret_bool (Eq.symm (by simp only [isFn]; rw [decide_eq_false (show ¬ (1 ≤ i ∧ i ≤ 99) by omega)]; rfl)), below_al (Below.refl _ _) _⟩
    · go_enter Try.func56, Try.ntmps56
      go_wp2_with fail
      go_ret
      exact ⟨ret_bool (Eq.symm (by simp only [isFn]; rw [decide_eq_false (show ¬ (0 ≤ p ∧ p < i) by omega)]; simp)), below_al (Below.refl _ _) _⟩
  · go_enter Try.func56, Try.ntmps56
    go_wp2_with fail
    go_ret
    exact ⟨ret_bool (Eq.symm (by simp only [isFn]; rw [decide_eq_false (show ¬ (0 ≤ p ∧ p < i) by omega)]; simp)), below_al (Below.refl _ _) _⟩

theorem specIsFn_any (x : Fn) (w : World) (hs : x.name.size ≤ maxLen) : Calls Try.prog 57 #[.agg #[.int .i64 x.id, .int .i64 x.parent, .string x.name]] w fun e w' => e = .returned (.bool (isFn x)) ∧ Below w.heap.size w w' := by
  go_enter Try.func57, Try.ntmps57
  go_wp2_with (first | (go_at_call 103; refine (specFn_any x _ hs).mono ?_; rintro e w' ⟨rfl, hb'⟩))
  go_ret
  exact ⟨rfl, below_chain (below_al (Below.refl _ _) _) hb'⟩
end Go.Proofs.Ytlkflnpndeeckaa
