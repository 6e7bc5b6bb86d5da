/- The library's comparisons of numbers: isNaN, Compare, Or of two. -/
import Derived.Test.YtedckfbjhhabgaaInts
import Derived.Test.YtedckfbjhhabgaaCells
import Derived.Deep.RegionHeld3
import Derived.Deep.RegionLawGrows
import Derived.WalkSmall
namespace Go.Proofs.Ytedckfbjhhabgaa
set_option linter.unusedVariables false
open Go.RowKit

def cmpC (a b : Int) : Int := if a < b then -1 else if b < a then 1 else 0
theorem isNaNC_any (a : Int) (w : World) : Calls Try.prog 93 #[.int .i64 a] w fun e w' => e = .returned (.bool false) ∧ w' = w := by
  have h : (a != a) = false := by simp
  go_enter Try.func93, Try.ntmps93
  go_wp2
  go_ret
  exact ⟨ret_bool (by simp), rfl⟩
theorem compareC_any (a b : Int) (w : World) : Calls Try.prog 81 #[.int .i64 a, .int .i64 b] w fun e w' => e = .returned (.int .i64 (cmpC a b)) ∧ w' = w := by
  by_cases h1 : a < b
  · go_enter Try.func81, Try.ntmps81
    go_wp2_with (first | (go_at_call 93; refine (isNaNC_any _ _).mono ?_; rintro e w' ⟨rfl, rfl⟩))
    go_ret
    exact ⟨ret_int (by unfold cmpC; rw [if_pos h1]), rfl⟩
  · by_cases h2 : b < a
    · go_enter Try.func81, Try.ntmps81
      go_wp2_with (first | (go_at_call 93; refine (isNaNC_any _ _).mono ?_; rintro e w' ⟨rfl, rfl⟩))
      go_ret
      exact ⟨ret_int (by unfold cmpC; rw [if_neg (by omega), if_pos h2]), rfl⟩
    · go_enter Try.func81, Try.ntmps81
      go_wp2_with (first | (go_at_call 93; refine (isNaNC_any _ _).mono ?_; rintro e w' ⟨rfl, rfl⟩))
      go_ret
      exact ⟨ret_int (by unfold cmpC; rw [if_neg (by omega), if_neg (by omega)]), rfl⟩
def orC (a b : Int) : Int := if a = 0 then b else a
theorem orC_any (g : Nat) (a b : Int) (w : World) (h0 : w.cell? ⟨g, 0, none⟩ = some (.int .i64 a)) (h1 : w.cell? ⟨g, 1, none⟩ = some (.int .i64 b)) :
    Calls Try.prog 80 #[.slice (some ⟨g, 0, none⟩) 2 2] w fun e w' => e = .returned (.int .i64 (orC a b)) ∧ w' = w := by
  by_cases ha : a = 0
  · have qa : (a != 0) = false := by simp [ha]
    have HA := Lib.hid ha
    clear ha
    by_cases hb : b = 0
    · have qb : (b != 0) = false := by simp [hb]
      have HB := Lib.hid hb
      clear hb
      go_enter Try.func80, Try.ntmps80
      go_wp2_with fail
      refine wp_loop_rounds 3 ?_
      rw [rounds_succ]
      go_wp2_with fail
      rw [rounds_succ]
      go_wp2_with fail
      rw [rounds_succ]
      go_wp2_with fail
      go_ret
      exact ⟨ret_int (by unfold orC; rw [if_pos HA.out]; exact HB.out.symm), rfl⟩
    · have qb : (b != 0) = true := by simp [hb]
      clear hb
      go_enter Try.func80, Try.ntmps80
      go_wp2_with fail
      refine wp_loop_rounds 2 ?_
      rw [rounds_succ]
      go_wp2_with fail
      rw [rounds_succ]
      go_wp2_with fail
      go_ret
      exact ⟨ret_int (by unfold orC; rw [if_pos HA.out]), rfl⟩
  · have qa : (a != 0) = true := by simp [ha]
    have HA := Lib.hid ha
    clear ha
    go_enter Try.func80, Try.ntmps80
    go_wp2_with fail
    refine wp_loop_rounds 1 ?_
    rw [rounds_succ]
    go_wp2_with fail
    go_ret
    exact ⟨ret_int (by unfold orC; rw [if_neg HA.out]), rfl⟩
end Go.Proofs.Ytedckfbjhhabgaa
