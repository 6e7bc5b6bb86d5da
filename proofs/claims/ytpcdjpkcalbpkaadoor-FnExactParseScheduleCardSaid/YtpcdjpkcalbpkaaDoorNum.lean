/- The text of a number: the model's l1Num, and strconv.Itoa, write the same digits. -/
import Derived.Test.YtpcdjpkcalbpkaaDoorFrame
import Derived.Test.YtpcdjpkcalbpkaaDoorRowOf
import Derived.Lib.ItoaNum
import Derived.Lib.ItoaMem
import Derived.BigQuiet
import Derived.Deep.QuietTactic
import Derived.WalkSmall
import Derived.WalkSpells
import Derived.WalkLawsBesides
import Derived.Outline
namespace Go.Proofs.YtpcdjpkcalbpkaaDoor
set_option linter.unusedVariables false
open Go.RowKit

theorem decDigits_big {u : Nat} (h : 10 ≤ u) : Lib.decDigits u = Lib.decDigits (u / 10) ++ [UInt8.ofNat (48 + u % 10)] := by
  conv => lhs; rw [Lib.decDigits]
  rw [dif_neg (by omega)]
theorem decDigits_len : ∀ (k u : Nat), u ≤ 10 ^ k → (Lib.decDigits u).length ≤ k + 1
  | 0, u, h => by rw [Lib.decDigits_one (by omega)]; simp
  | k + 1, u, h => by
    by_cases hu : u < 10
    · rw [Lib.decDigits_one hu]; simp
    · rw [decDigits_big (by omega), List.length_append]
      have := decDigits_len k (u / 10) (by rw [Nat.pow_succ] at h; omega)
      simp; omega
theorem ret_str {a b : ByteArray} (h : a = b) : Ending.returned (.string a) = .returned (.string b) := by rw [h]
/-- One digit cut out of the ten. -/
theorem digit_cut (d : Nat) (h : d < 10) : (⟨#[48, 49, 50, 51, 52, 53, 54, 55, 56, 57]⟩ : ByteArray).extract d (d + 1) = ⟨#[UInt8.ofNat (48 + d)]⟩ := by
  match d, h with
  | 0, _ => rfl
  | 1, _ => rfl
  | 2, _ => rfl
  | 3, _ => rfl
  | 4, _ => rfl
  | 5, _ => rfl
  | 6, _ => rfl
  | 7, _ => rfl
  | 8, _ => rfl
  | 9, _ => rfl

theorem hl' {k u : Nat} {l : List UInt8} (ih : ∀ (u : Nat) (w : World), u ≤ k → u ≤ 1099511627776 → Calls Tryd.prog 47 #[.int .i64 u] w fun e w' => e = .returned (.string ⟨(Lib.decDigits u).toArray⟩) ∧ ∃ n, w' = w.drewN n)
    (hl : Lib.decDigits (u / 10) = l) (h : u / 10 ≤ k) (hb : u / 10 ≤ 1099511627776) (w : World) :
    Calls Tryd.prog 47 #[.int .i64 ((u : Int) / 10)] w fun e w' => e = .returned (.string ⟨l.toArray⟩) ∧ ∃ n, w' = w.drewN n := by
  have := ih (u / 10) w h hb
  rw [hl] at this
  exact this

set_option maxHeartbeats 1000000 in
theorem num_nat (k : Nat) : ∀ (u : Nat) (w : World), u ≤ k → u ≤ 1099511627776 →
    Calls Tryd.prog 47 #[.int .i64 u] w fun e w' => e = .returned (.string ⟨(Lib.decDigits u).toArray⟩) ∧ ∃ n, w' = w.drewN n := by
  induction k with
  | zero =>
    intro u w hk hb
    obtain rfl : u = 0 := by omega
    go_enter Tryd.func47, Tryd.ntmps47
    go_wp2_with fail
    go_ret
    refine ⟨?_, 0, rfl⟩
    rw [Lib.decDigits_one (by omega)]
    exact congrArg (fun x => Ending.returned (Value.string x)) (digit_cut 0 (by omega))
  | succ k ih =>
    intro u w hk hb
    have IH := Lib.hid ih
    clear ih
    by_cases hu : u < 10
    · have hd := digit_cut u hu
      have HD := Lib.hid hd
      clear hd
      go_enter Tryd.func47, Tryd.ntmps47
      go_wp2_with fail
      go_ret
      refine ⟨?_, 0, rfl⟩
      rw [Lib.decDigits_one hu]
      exact congrArg (fun x => Ending.returned (Value.string x)) HD.out
    · have hlen := decDigits_len 13 (u / 10) (by omega)
      obtain ⟨l, hl⟩ : ∃ l, Lib.decDigits (u / 10) = l := ⟨_, rfl⟩
      rw [hl] at hlen
      have HL := Lib.hid hl
      clear hl
      have hc := fun W => hl' IH.out HL.out (show u / 10 ≤ k by omega) (show u / 10 ≤ 1099511627776 by omega) W
      have HC := Lib.hid hc
      clear hc
      have h0 : (0 : Int) ≤ (u : Int) := by omega
      have h1 : (10 : Int) ≤ (u : Int) := by omega
      go_enter Tryd.func47, Tryd.ntmps47
      go_wp2_with fail
      go_quiet ((go_at_call 47; exact Calls.quiet_of (HC.out _)))
      go_wp2
      go_ret
      refine ⟨ret_str ?_, _, rfl⟩
      rw [digit_cut _ (by omega), decDigits_big (by omega), HL.out]
      exact ByteArray.ext (by simp)

set_option maxHeartbeats 1000000 in
theorem num_any (n : Int) (w : World) (h0 : -1099511627776 ≤ n) (h1 : n ≤ 1099511627776) :
    Calls Tryd.prog 47 #[.int .i64 n] w fun e w' => e = .returned (.string ⟨(Lib.itoa n).toArray⟩) ∧ ∃ k, w' = w.drewN k := by
  by_cases hn : 0 ≤ n
  · obtain ⟨u, rfl⟩ := Int.eq_ofNat_of_zero_le hn
    rw [Lib.itoa_nonneg]
    exact num_nat u u w (Nat.le_refl _) (by omega)
  · obtain ⟨u, rfl⟩ : ∃ u : Nat, n = -(u : Int) := ⟨(-n).toNat, by omega⟩
    rw [Lib.itoa_neg u (by omega)]
    have hlen := decDigits_len 13 u (by omega)
    obtain ⟨l, hl⟩ : ∃ l, Lib.decDigits u = l := ⟨_, rfl⟩
    rw [hl] at hlen
    have hc := num_nat u u w (Nat.le_refl _) (by omega)
    rw [hl] at hc
    have HL := Lib.hid hl
    have HC := Lib.hid hc
    clear hc hl
    have h2 : (0 : Int) < (u : Int) := by omega
    go_enter Tryd.func47, Tryd.ntmps47
    go_wp2_with fail
    refine HC.out.mono ?_
    rintro e w' ⟨rfl, k, rfl⟩
    go_wp2
    go_ret
    refine ⟨ret_str ?_, k, rfl⟩
    rw [HL.out]
    exact ByteArray.ext (by simp)
end Go.Proofs.YtpcdjpkcalbpkaaDoor
