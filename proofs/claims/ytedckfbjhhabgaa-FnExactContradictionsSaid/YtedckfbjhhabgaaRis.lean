/- Rising numbers, the model's. -/
import Derived.Test.YtedckfbjhhabgaaFoM
import Derived.Test.YtedckfbjhhabgaaCells
import Derived.Test.YtedckfbjhhabgaaL1In
import Derived.Test.YtedckfbjhhabgaaInts
import Derived.Lib.QuietBelow
import Derived.BigQuiet
import Derived.WalkSmall
namespace Go.Proofs.Ytedckfbjhhabgaa
set_option linter.unusedVariables false
open Go.RowKit Go.Sort

theorem notRis {lo hi : Int} {xs : List Int} {k : Nat} (hk : k < xs.length) (h : risAt lo hi xs k = false) : risB lo hi xs = false := by unfold risB; exact upto_false hk h

set_option maxHeartbeats 2000000 in
theorem l1Rising_any (v : Value) (xs : List Int) (lo hi : Int) (w : World) (h : RowOf vI w v xs) :
    Calls Try.prog 55 #[v, .int .i64 lo, .int .i64 hi] w fun e w' => e = .returned (.bool (risB lo hi xs)) ∧ Below w.heap.size w w' := by
  have hcap := h.cap
  obtain ⟨a1, c1, rfl, hl1, hm1, r1⟩ := h
  have R1 := Lib.hid r1
  clear r1
  unfold maxLen at hm1
  go_enter Try.func55, Try.ntmps55
  go_wp2
  go_loopw [7] (fun i wr => ∃ k : Nat, k ≤ xs.length ∧ i = .int .i64 k ∧ Hid (upto (risAt lo hi xs) k = true) ∧ Below w.heap.size w wr) (fun i _ => xs.length - (intOf i).toNat)
  case atStart => exact ⟨0, Nat.zero_le _, rfl, Lib.hid (by simp [upto]), Below.refl _ _⟩
  case round =>
    obtain ⟨k, hk, rfl, HU, hb⟩ := hrel
    have hw := hb.size
    by_cases hlt : k < xs.length
    · obtain ⟨b1, o1, hb1, rfl, e1⟩ := R1.out.resolve_left (fun e => by rw [e] at hlt; simp at hlt)
      obtain ⟨y, hy⟩ : ∃ s, xs.getD k 0 = s := ⟨_, rfl⟩
      have f1 := (hb.cell (p := ⟨b1, o1 + k, none⟩) hb1).trans (e1 k hlt)
      rw [← getI_lt hlt, hy] at f1
      simp only [vI] at f1
      have HY := Lib.hid hy
      have g0 : (0 : Int) ≤ (k : Int) := by omega
      have g1 : (k : Int) < (xs.length : Int) := by omega
      obtain ⟨bi, hbi⟩ : ∃ b, decide (lo ≤ y ∧ y ≤ hi) = b := ⟨_, rfl⟩
      have HBI := Lib.hid hbi
      have E1 := Lib.hid e1
      clear e1 hy hbi
      cases bi
      · have HNT : Hid (risB lo hi xs = false) := Lib.hid (notRis hlt (by unfold risAt; rw [HY.out, HBI.out]; rfl))
        go_wp2_with fail
        have m1 := cell_regrown f1
        have hc : ∀ d os, Calls Try.prog 73 #[.int .i64 y, .int .i64 lo, .int .i64 hi] (grow (redrawn wr d) os) fun e w'' => e = .returned (.bool false) ∧ ∃ p : Regrown, w'' = grow (redrawn wr p.d) p.os := fun d os => Calls.regrown_of ((l1In_any y lo hi _).mono (by rw [HBI.out]; rintro e w' ⟨rfl, rfl⟩; exact ⟨rfl, Below.refl _ _⟩))
        refine wp_region_quiet_below (by kernel_rfl) (by kernel_rfl) ?_
        repeat (go_big_quiet_step (first | exact hc _ _))
        refine wpQuiet_nil ?_
        intro _ hw'
        obtain ⟨⟨dq, osq⟩, hw''⟩ := hw'
        subst hw''
        have bq := below_regrown wr dq osq
        generalize grow (redrawn wr dq) osq = w2 at bq ⊢
        go_wp2
        go_ret
        exact ⟨ret_bool HNT.out.symm, hb.trans (bq.mono hw)⟩
      · rcases Nat.eq_zero_or_pos k with hk0 | hk0
        · have dk : decide ((0 : Int) < (k : Int)) = false := decide_eq_false (by omega)
          have dk2 : decide (0 < k) = false := decide_eq_false (by omega)
          have HAT : Hid (risAt lo hi xs k = true) := Lib.hid (by unfold risAt; rw [HY.out, HBI.out, decide_eq_true hk0]; rfl)
          clear hk0
          go_wp2_with fail
          have m1 := cell_regrown f1
          have hc : ∀ d os, Calls Try.prog 73 #[.int .i64 y, .int .i64 lo, .int .i64 hi] (grow (redrawn wr d) os) fun e w'' => e = .returned (.bool true) ∧ ∃ p : Regrown, w'' = grow (redrawn wr p.d) p.os := fun d os => Calls.regrown_of ((l1In_any y lo hi _).mono (by rw [HBI.out]; rintro e w' ⟨rfl, rfl⟩; exact ⟨rfl, Below.refl _ _⟩))
          refine wp_region_quiet_below (by kernel_rfl) (by kernel_rfl) ?_
          repeat (go_big_quiet_step (first | exact hc _ _))
          refine wpQuiet_nil ?_
          intro _ hw'
          obtain ⟨⟨dq, osq⟩, hw''⟩ := hw'
          subst hw''
          have bq := below_regrown wr dq osq
          generalize grow (redrawn wr dq) osq = w2 at bq ⊢
          go_wp2
          go_roundw
          case rel => exact ⟨k + 1, by omega, by go_num, Lib.hid (upto_succ HU.out HAT.out), hb.trans (bq.mono hw)⟩
          case measure => simp [intOf]; omega
        · obtain ⟨j, rfl⟩ : ∃ j, k = j + 1 := ⟨k - 1, by omega⟩
          obtain ⟨z, hz⟩ : ∃ s, xs.getD j 0 = s := ⟨_, rfl⟩
          have f2 := (hb.cell (p := ⟨b1, o1 + j, none⟩) hb1).trans (E1.out j (by omega))
          rw [← getI_lt (by omega), hz] at f2
          simp only [vI] at f2
          have HZ := Lib.hid hz
          have g2 : (j : Int) < (xs.length : Int) := by omega
          have g3 : (0 : Int) ≤ (j : Int) := by omega
          have g4 : (0 : Int) < (j : Int) + 1 := by omega
          clear hz hk0
          by_cases hP : y ≤ z
          · have HNT : Hid (risB lo hi xs = false) := Lib.hid (notRis hlt (by unfold risAt; rw [HY.out, HBI.out, show j + 1 - 1 = j by omega, HZ.out, decide_eq_false (by omega : ¬ j + 1 = 0), decide_eq_false (by omega : ¬ z < y)]; rfl))
            go_wp2_with fail
            have m1 := cell_regrown f1
            have m2 := cell_regrown f2
            have hc : ∀ d os, Calls Try.prog 73 #[.int .i64 y, .int .i64 lo, .int .i64 hi] (grow (redrawn wr d) os) fun e w'' => e = .returned (.bool true) ∧ ∃ p : Regrown, w'' = grow (redrawn wr p.d) p.os := fun d os => Calls.regrown_of ((l1In_any y lo hi _).mono (by rw [HBI.out]; rintro e w' ⟨rfl, rfl⟩; exact ⟨rfl, Below.refl _ _⟩))
            refine wp_region_quiet_below (by kernel_rfl) (by kernel_rfl) ?_
            repeat (go_big_quiet_step (first | exact hc _ _))
            refine wpQuiet_nil ?_
            intro _ hw'
            obtain ⟨⟨dq, osq⟩, hw''⟩ := hw'
            subst hw''
            have bq := below_regrown wr dq osq
            generalize grow (redrawn wr dq) osq = w2 at bq ⊢
            go_wp2
            go_ret
            exact ⟨ret_bool HNT.out.symm, hb.trans (bq.mono hw)⟩
          · have HAT : Hid (risAt lo hi xs (j + 1) = true) := Lib.hid (by unfold risAt; rw [HY.out, HBI.out, show j + 1 - 1 = j by omega, HZ.out, decide_eq_true (by omega : z < y)]; simp)
            have dP : decide (y ≤ z) = false := decide_eq_false hP
            go_wp2_with fail
            have m1 := cell_regrown f1
            have m2 := cell_regrown f2
            have hc : ∀ d os, Calls Try.prog 73 #[.int .i64 y, .int .i64 lo, .int .i64 hi] (grow (redrawn wr d) os) fun e w'' => e = .returned (.bool true) ∧ ∃ p : Regrown, w'' = grow (redrawn wr p.d) p.os := fun d os => Calls.regrown_of ((l1In_any y lo hi _).mono (by rw [HBI.out]; rintro e w' ⟨rfl, rfl⟩; exact ⟨rfl, Below.refl _ _⟩))
            refine wp_region_quiet_below (by kernel_rfl) (by kernel_rfl) ?_
            repeat (go_big_quiet_step (first | exact hc _ _))
            refine wpQuiet_nil ?_
            intro _ hw'
            obtain ⟨⟨dq, osq⟩, hw''⟩ := hw'
            subst hw''
            have bq := below_regrown wr dq osq
            generalize grow (redrawn wr dq) osq = w2 at bq ⊢
            go_wp2
            go_roundw
            case rel => exact ⟨j + 1 + 1, by omega, by go_num, Lib.hid (upto_succ HU.out HAT.out), hb.trans (bq.mono hw)⟩
            case measure => simp [intOf]; omega
    · have hkl : k = xs.length := by omega
      have HE : Hid (risB lo hi xs = true) := Lib.hid (by have := HU.out; rwa [hkl] at this)
      clear hkl
      go_wp2
      go_ret
      exact ⟨ret_bool HE.out.symm, hb⟩


end Go.Proofs.Ytedckfbjhhabgaa
