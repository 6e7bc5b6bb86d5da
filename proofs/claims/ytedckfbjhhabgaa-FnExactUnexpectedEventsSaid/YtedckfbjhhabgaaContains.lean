/- slices.Contains at integers. -/
import Derived.Test.YtedckfbjhhabgaaInts
namespace Go.Proofs.Ytedckfbjhhabgaa
set_option linter.unusedVariables false
open Go.RowKit

/-- The place of a number in a list, or -1. -/
def idxI (xs : List Int) (x : Int) : Int := if x ∈ xs then (xs.findIdx (fun y => decide (y = x)) : Nat) else -1
theorem idxI_ge {xs : List Int} {x : Int} : (0 ≤ idxI xs x) ↔ x ∈ xs := by
  unfold idxI
  by_cases h : x ∈ xs
  · rw [if_pos h]; simp [h]
  · rw [if_neg h]; simp [h]
set_option maxHeartbeats 1000000 in
theorem index_any (v : Value) (xs : List Int) (x : Int) (w : World) (h : RowOf vI w v xs) :
    Calls Try.prog 85 #[v, .int .i64 x] w fun e w' => (∃ n : Int, e = .returned (.int .i64 n) ∧ (0 ≤ n ↔ x ∈ xs)) ∧ Below w.heap.size w w' := by
  have hcap := h.cap
  obtain ⟨a1, c1, rfl, hl1, hm1, r1⟩ := h
  have R1 := Lib.hid r1
  clear r1
  unfold maxLen at hm1
  go_enter Try.func85, Try.ntmps85
  go_wp2
  go_loopw [8] (fun i wr => ∃ k : Nat, k ≤ xs.length ∧ i = .int .i64 k ∧ Hid (¬ x ∈ xs.take k) ∧ Below w.heap.size w wr) (fun i _ => xs.length - (intOf i).toNat)
  case atStart => exact ⟨0, Nat.zero_le _, rfl, Lib.hid (by simp), Below.refl _ _⟩
  case round =>
    obtain ⟨k, hk, rfl, HN, hb⟩ := hrel
    by_cases hlt : k < xs.length
    · obtain ⟨b1, o1, hb1, rfl, e1⟩ := R1.out.resolve_left (fun e => by rw [e] at hlt; simp at hlt)
      obtain ⟨y, hy⟩ : ∃ s, xs[k] = s := ⟨_, rfl⟩
      have f1 := (hb.cell (p := ⟨b1, o1 + k, none⟩) hb1).trans (e1 k hlt)
      rw [hy] at f1
      simp only [vI] at f1
      have HY := Lib.hid hy
      have g0 : (0 : Int) ≤ (k : Int) := by omega
      have g1 : (k : Int) < (xs.length : Int) := by omega
      clear e1 hy
      by_cases he : x = y
      · have hq : (x == y) = true := by simp [he]
        have HE : Hid (x ∈ xs) := by rw [he, ← HY.out]; exact List.getElem_mem hlt
        clear he
        go_wp2
        go_ret
        exact ⟨⟨_, rfl, by simp [HE.out]⟩, hb⟩
      · have hq : (x == y) = false := by simp [he]
        have HE : Hid (¬ x ∈ xs.take (k + 1)) := fun h => by
          rw [List.take_succ_eq_append_getElem hlt, List.mem_append, List.mem_singleton, HY.out] at h
          exact h.elim HN.out he
        clear he
        go_wp2
        go_roundw
        case rel => exact ⟨k + 1, by omega, by go_num, HE, hb⟩
        case measure => simp [intOf]; omega
    · have hkl : k = xs.length := by omega
      have HE : Hid (¬ x ∈ xs) := by have := HN.out; rwa [hkl, List.take_length] at this
      clear hkl
      go_wp2
      go_ret
      exact ⟨⟨-1, rfl, by simp [HE.out]⟩, hb⟩
theorem contains_any (v : Value) (xs : List Int) (x : Int) (w : World) (h : RowOf vI w v xs) :
    Calls Try.prog 60 #[v, .int .i64 x] w fun e w' => e = .returned (.bool (decide (x ∈ xs))) ∧ Below w.heap.size w w' := by
  have H := Lib.hid h
  clear h
  go_enter Try.func60, Try.ntmps60
  go_wp2_with fail
  refine (index_any _ xs x _ H.out).mono ?_
  rintro e w' ⟨⟨n, rfl, hn⟩, hb⟩
  have HN := Lib.hid hn
  clear hn
  go_wp2_with fail
  go_ret
  exact ⟨ret_bool (by rw [Bool.eq_iff_iff]; simp [HN.out]), hb⟩
end Go.Proofs.Ytedckfbjhhabgaa
