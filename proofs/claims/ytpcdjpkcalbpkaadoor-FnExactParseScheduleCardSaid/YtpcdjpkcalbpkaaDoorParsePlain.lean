/- Plain facts on numbers that are read from their digits. No program is named here. -/
import Derived.Test.YtpcdjpkcalbpkaaDoorRowOf
import Derived.Lib.ItoaNum
import Derived.Lib.ItoaMem
namespace Go.Proofs.YtpcdjpkcalbpkaaDoor
set_option linter.unusedVariables false
open Go.RowKit

def isD (c : UInt8) : Prop := 48 ≤ c.toNat ∧ c.toNat ≤ 57
instance (c : UInt8) : Decidable (isD c) := inferInstanceAs (Decidable (_ ∧ _))
/-- The program's scan: it goes on while there are digits and the number is not yet too great. -/
def scan : List UInt8 → Nat → Nat
  | [], n => n
  | c :: l, n => if isD c then if 999999 < n then n else scan l (10 * n + (c.toNat - 48)) else n
/-- The number that digits tell. -/
def val (l : List UInt8) : Nat := l.foldl (fun n c => 10 * n + (c.toNat - 48)) 0
theorem val_snoc (l : List UInt8) (c : UInt8) : val (l ++ [c]) = 10 * val l + (c.toNat - 48) := by unfold val; rw [List.foldl_append]; rfl
theorem val_lt (l : List UInt8) (h : ∀ c ∈ l, isD c) : val l < 10 ^ l.length := by
  revert h
  refine snoc_ind (P := fun l => (∀ c ∈ l, isD c) → val l < 10 ^ l.length) (fun _ => by simp [val]) (fun l c ih h => ?_) l
  have h1 := ih (fun x hx => h x (List.mem_append_left _ hx))
  have h2 := h c (by simp)
  rw [val_snoc, List.length_append, List.length_singleton, Nat.pow_succ]
  unfold isD at h2
  omega
theorem dec_digits : ∀ u : Nat, (∀ c ∈ Lib.decDigits u, isD c) ∧ val (Lib.decDigits u) = u := by
  intro u
  induction u using Nat.strongRecOn with
  | ind u ih =>
    have hd : ∀ d, d < 10 → isD (UInt8.ofNat (48 + d)) ∧ (UInt8.ofNat (48 + d)).toNat = 48 + d := fun d hd => by
      have e : (UInt8.ofNat (48 + d)).toNat = 48 + d := by rw [UInt8.toNat_ofNat']; exact Nat.mod_eq_of_lt (by omega)
      exact ⟨by unfold isD; omega, e⟩
    by_cases h : u < 10
    · rw [Lib.decDigits_one h]
      refine ⟨fun c hc => by rw [List.mem_singleton.1 hc]; exact (hd u h).1, ?_⟩
      show 10 * 0 + ((UInt8.ofNat (48 + u)).toNat - 48) = u
      rw [(hd u h).2]; omega
    · have e : Lib.decDigits u = Lib.decDigits (u / 10) ++ [UInt8.ofNat (48 + u % 10)] := by
        conv => lhs; rw [Lib.decDigits]
        rw [dif_neg h]
      obtain ⟨h1, h2⟩ := ih (u / 10) (by omega)
      rw [e]
      refine ⟨fun c hc => ?_, ?_⟩
      · rcases List.mem_append.1 hc with hc | hc
        · exact h1 c hc
        · rw [List.mem_singleton.1 hc]; exact (hd _ (by omega)).1
      · rw [val_snoc, h2, (hd _ (by omega)).2]; omega
theorem dec_len : ∀ (k u : Nat), u < 10 ^ (k + 1) → 1 ≤ (Lib.decDigits u).length ∧ (Lib.decDigits u).length ≤ k + 1
  | 0, u, h => by rw [Lib.decDigits_one (by simpa using h)]; simp
  | k + 1, u, h => by
    by_cases hu : u < 10
    · rw [Lib.decDigits_one hu]; simp
    · have e : Lib.decDigits u = Lib.decDigits (u / 10) ++ [UInt8.ofNat (48 + u % 10)] := by
        conv => lhs; rw [Lib.decDigits]
        rw [dif_neg hu]
      rw [e, List.length_append]
      have := dec_len k (u / 10) (by rw [Nat.pow_succ] at h; omega)
      simp; omega
/-- A scan over digits that tell no great number reads them all. -/
theorem scan_val : ∀ (l p : List UInt8), (∀ c ∈ l, isD c) → val (p ++ l) ≤ 999999 → scan l (val p) = val (p ++ l)
  | [], p, _, _ => by simp [scan]
  | c :: l, p, h, hv => by
    have hc := h c (by simp)
    have hmono : ∀ (l p : List UInt8), val p ≤ val (p ++ l) := by
      intro l
      refine snoc_ind (P := fun l => ∀ p, val p ≤ val (p ++ l)) (fun p => by simp) (fun l c ih p => ?_) l
      rw [← List.append_assoc, val_snoc]
      have := ih p
      omega
    have h1 := hmono (c :: l) p
    rw [scan, if_pos hc, if_neg (by omega), ← val_snoc]
    have := scan_val l (p ++ [c]) (fun x hx => h x (List.mem_cons_of_mem _ hx)) (by rw [List.append_assoc]; exact hv)
    rw [this, List.append_assoc]
    rfl
theorem scan_lt : ∀ (l : List UInt8) (n : Nat), n < 10000000 + 10 → scan l n < 10000000 + 10
  | [], n, h => h
  | c :: l, n, h => by
    rw [scan]
    split
    · split
      · exact h
      · exact scan_lt l _ (by rename_i hd _; unfold isD at hd; omega)
    · exact h

/-- The text without its sign. -/
def unsign (l : List UInt8) : List UInt8 := if l.head? = some 45 then l.tail else l
/-- The number that the program reads. -/
def readN (l : List UInt8) : Int := if (unsign l).length < l.length then -(scan (unsign l) 0 : Int) else scan (unsign l) 0
theorem readN_lt (l : List UInt8) : -10000010 < readN l ∧ readN l < 10000010 := by
  have := scan_lt (unsign l) 0 (by omega)
  unfold readN
  split <;> omega
theorem unsign_dec (u : Nat) : unsign (Lib.decDigits u) = Lib.decDigits u ∧ (Lib.decDigits u).head? ≠ some 45 := by
  have h : (Lib.decDigits u).head? ≠ some 45 := fun e => by
    have := (dec_digits u).1 45 (List.mem_of_mem_head? e)
    unfold isD at this
    simp at this
  exact ⟨by unfold unsign; rw [if_neg h], h⟩
theorem readN_itoa (m : Int) (h0 : -999999 ≤ m) (h1 : m ≤ 999999) : readN (Lib.itoa m) = m := by
  by_cases h : 0 ≤ m
  · obtain ⟨u, rfl⟩ := Int.eq_ofNat_of_zero_le h
    rw [Lib.itoa_nonneg]
    unfold readN
    rw [(unsign_dec u).1, if_neg (Nat.lt_irrefl _)]
    have := scan_val (Lib.decDigits u) [] (dec_digits u).1 (by rw [List.nil_append, (dec_digits u).2]; omega)
    rw [List.nil_append, (dec_digits u).2] at this
    have e : val [] = 0 := rfl
    rw [e] at this
    rw [this]
  · obtain ⟨u, rfl⟩ : ∃ u : Nat, m = -(u : Int) := ⟨(-m).toNat, by omega⟩
    rw [Lib.itoa_neg u (by omega)]
    have hu : unsign (45 :: Lib.decDigits u) = Lib.decDigits u := by unfold unsign; simp
    unfold readN
    rw [hu, if_pos (by simp)]
    have := scan_val (Lib.decDigits u) [] (dec_digits u).1 (by rw [List.nil_append, (dec_digits u).2]; omega)
    rw [List.nil_append, (dec_digits u).2] at this
    have e : val [] = 0 := rfl
    rw [e] at this
    rw [this]

/-- The text is a number's. -/
def NumGood (l : List UInt8) : Prop := -999999 ≤ readN l ∧ readN l ≤ 999999 ∧ Lib.itoa (readN l) = l
theorem numGood_of {l : List UInt8} {m : Int} (h0 : -999999 ≤ m) (h1 : m ≤ 999999) (h : Lib.itoa m = l) : NumGood l ∧ readN l = m := by
  have e := readN_itoa m h0 h1
  rw [h] at e
  exact ⟨⟨by omega, by omega, by rw [e]; exact h⟩, e⟩
open Classical in
noncomputable def numAns (l : List UInt8) : Value := if NumGood l then .tuple #[.int .i64 (readN l), .bool true] else .tuple #[.int .i64 0, .bool false]
theorem numAns_yes {l : List UInt8} (h : NumGood l) : numAns l = .tuple #[.int .i64 (readN l), .bool true] := if_pos h
theorem numAns_no {l : List UInt8} (h : ¬ NumGood l) : numAns l = .tuple #[.int .i64 0, .bool false] := if_neg h
theorem num_shape (l : List UInt8) : ∃ n b, numAns l = .tuple #[.int .i64 n, .bool b] := by
  unfold numAns
  split
  · exact ⟨_, _, rfl⟩
  · exact ⟨_, _, rfl⟩
end Go.Proofs.YtpcdjpkcalbpkaaDoor
