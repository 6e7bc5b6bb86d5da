/- A list of Series in rising order, the program's: areSeries. -/
import Derived.Test.YtedckfbjhhabgaaFoM
import Derived.Test.YtedckfbjhhabgaaCells
import Derived.Test.YtedckfbjhhabgaaIsSer
import Derived.Test.YtedckfbjhhabgaaInts
import Derived.Lib.QuietBelow
import Derived.BigQuiet
import Derived.WalkSmall
namespace Go.Proofs.Ytedckfbjhhabgaa
set_option linter.unusedVariables false
open Go.RowKit Go.Sort

theorem ris99T_iff {xs : List Int} {k : Nat} {y p : Int} (hy : xs.getD k 0 = y) (hp : (if k = 0 then 0 else xs.getD (k - 1) 0) = p) : risAt 1 99 xs k = true ↔ p < y ∧ (1 ≤ y ∧ y ≤ 99) := by
  unfold risAt
  rw [hy]
  by_cases h0 : k = 0
  · subst h0
    simp only [if_true] at hp
    simp
    omega
  · rw [if_neg h0] at hp
    rw [hp]
    simp [h0]
    omega
def serN (n : Int) (xs : List Int) : Bool := decide ((xs.length : Int) ≤ n) && risB 1 99 xs
theorem serN_no {n : Int} {xs : List Int} {k : Nat} (hk : k < xs.length) (h : risAt 1 99 xs k = false) : serN n xs = false := by
  unfold serN risB
  rw [upto_false hk h]; simp
theorem serN_yes {n : Int} {xs : List Int} (hl : (xs.length : Int) ≤ n) (h : upto (risAt 1 99 xs) xs.length = true) : serN n xs = true := by
  unfold serN risB
  rw [h, decide_eq_true hl]; rfl
theorem serN_long {n : Int} {xs : List Int} (h : ¬ (xs.length : Int) ≤ n) : serN n xs = false := by
  unfold serN
  rw [decide_eq_false h]; rfl
set_option maxRecDepth 20000 in
set_option maxHeartbeats 2000000 in
theorem areSeries_any (v : Value) (xs : List Int) (n : Int) (w : World) (h : RowOf vI w v xs) :
    Calls Try.prog 59 #[v, .int .i64 n] w fun e w' => e = .returned (.bool (serN n xs)) ∧ Below w.heap.size w w' := by
  have hcap := h.cap
  obtain ⟨a1, c1, rfl, hl1, hm1, r1⟩ := h
  have R1 := Lib.hid r1
  clear r1
  unfold maxLen at hm1
  by_cases hL : n < (xs.length : Int)
  · have gL : n < (xs.length : Int) := by omega
    have HN : Hid (serN n xs = false) := Lib.hid (serN_long (by omega))
    clear hL
    go_enter Try.func59, Try.ntmps59
    go_wp2_with fail
    go_ret
    exact ⟨ret_bool HN.out.symm, Below.refl _ _⟩
  · have gL : (xs.length : Int) ≤ n := by omega
    have HL : Hid ((xs.length : Int) ≤ n) := Lib.hid (by omega)
    clear hL
    go_enter Try.func59, Try.ntmps59
    go_wp2_with fail
    go_loopw [5, 14] (fun b i wr => ∃ (k : Nat) (pk : Int), k ≤ xs.length ∧ i = .int .i64 k ∧ b = .int .i64 pk ∧ Hid ((if k = 0 then 0 else xs.getD (k - 1) 0) = pk) ∧ Hid (upto (risAt 1 99 xs) k = true) ∧ Below w.heap.size w wr) (fun _ i _ => xs.length - (intOf i).toNat)
    case atStart => exact ⟨0, 0, Nat.zero_le _, rfl, rfl, Lib.hid rfl, Lib.hid (by simp [upto]), Below.refl _ _⟩
    case round =>
      obtain ⟨k, pk, hk, rfl, rfl, HP, HU, hb⟩ := hrel
      have hw := hb.size
      by_cases hlt : k < xs.length
      · obtain ⟨b1, o1, hb1, rfl, e1⟩ := R1.out.resolve_left (fun e => by rw [e] at hlt; simp at hlt)
        obtain ⟨y, hy⟩ : ∃ s, xs.getD k 0 = s := ⟨_, rfl⟩
        have f1 := (hb.cell (p := ⟨b1, o1 + k, none⟩) hb1).trans (e1 k hlt)
        rw [← getI_lt hlt, hy] at f1
        simp only [vI] at f1
        have HY := Lib.hid hy
        have HAT := Lib.hid (ris99T_iff hy HP.out)
        have g0 : (0 : Int) ≤ (k : Int) := by omega
        have g1 : (k : Int) < (xs.length : Int) := by omega
        clear e1 hy
        by_cases hP : y ≤ pk
        · have HNT : Hid (serN n xs = false) := Lib.hid (serN_no hlt (by rw [Bool.eq_false_iff]; intro hc; have := (HAT.out.1 hc).1; omega))
          go_wp2_with fail
          go_ret
          exact ⟨ret_bool HNT.out.symm, hb⟩
        · have dP : decide (y ≤ pk) = false := decide_eq_false hP
          obtain ⟨bs, hbs⟩ : ∃ b, decide (1 ≤ y ∧ y ≤ 99) = b := ⟨_, rfl⟩
          have HBS := Lib.hid hbs
          clear hbs
          cases bs
          · have HNT : Hid (serN n xs = false) := Lib.hid (serN_no hlt (by rw [Bool.eq_false_iff]; intro hc; exact of_decide_eq_false HBS.out (HAT.out.1 hc).2))
            go_wp2_with (first | (go_at_call 84; refine (implIsSeriesH_any y _).mono ?_; rw [HBS.out]; rintro e w' ⟨rfl, h'⟩; subst h'))
            go_ret
            exact ⟨ret_bool HNT.out.symm, hb⟩
          · have HU2 : Hid (upto (risAt 1 99 xs) (k + 1) = true) := Lib.hid (upto_succ HU.out (HAT.out.2 ⟨by omega, of_decide_eq_true HBS.out⟩))
            go_wp2_with (first | (go_at_call 84; refine (implIsSeriesH_any y _).mono ?_; rw [HBS.out]; rintro e w' ⟨rfl, h'⟩; subst h'))
            go_roundw
            case rel => exact ⟨k + 1, y, by omega, by go_num, rfl, Lib.hid (by rw [if_neg (by omega)]; exact HY.out), HU2, hb⟩
            case measure => simp [intOf]; omega
      · have hkt : k = xs.length := by omega
        have HE : Hid (serN n xs = true) := Lib.hid (serN_yes HL.out (by have := HU.out; rwa [hkt] at this))
        clear hkt
        go_wp2_with fail
        go_ret
        exact ⟨ret_bool HE.out.symm, hb⟩
end Go.Proofs.Ytedckfbjhhabgaa
