/- Where a function lies in a list, by its id: the model's l3Find. -/
import Derived.Test.YtpbjddiopfkgbaaFnI
import Derived.Lib.QuietBelow
import Derived.BigQuiet
import Derived.WalkSmall
namespace Go.Proofs.Ytpbjddiopfkgbaa
set_option linter.unusedVariables false
open Go.RowKit Go.Sort

def findI (t : List Fn) (x : Int) : Int := if hasF t x = true then (placeF t x : Nat) else -1
theorem findI_yes {t : List Fn} {x : Int} (h : hasF t x = true) : findI t x = (placeF t x : Nat) := by unfold findI; rw [if_pos h]
theorem findI_no {t : List Fn} {x : Int} (h : hasF t x = false) : findI t x = -1 := by unfold findI; rw [h]; rfl
theorem findI_neg {t : List Fn} {x : Int} : (findI t x < 0) ↔ hasF t x = false := by
  rcases h : hasF t x with _ | _
  · rw [findI_no h]; simp
  · rw [findI_yes h]; simp
theorem hasF_of_find {t : List Fn} {x : Int} (h : ¬ findI t x < 0) : hasF t x = true := by
  rcases hb : hasF t x with _ | _
  · exact absurd (findI_neg.2 hb) h
  · rfl
theorem RowR.fn_take {w : World} {a : Option Addr} {n c : Nat} {t : List Fn} (h : RowR 3 rFn w (.slice a n c) t) {k : Nat} (hk : k ≤ t.length) : RowR 3 rFn w (.slice a k c) (t.take k) := by
  obtain ⟨a', cap, e, h1, h2, h3⟩ := h
  cases e
  have hl : (t.take k).length = k := by rw [List.length_take]; omega
  refine ⟨a, c, by rw [hl], by omega, h2, ?_⟩
  rcases h3 with rfl | ⟨b, off, hb, rfl, hc⟩
  · exact .inl (by simp)
  · refine .inr ⟨b, off, hb, rfl, fun i hi => ?_⟩
    obtain ⟨cs, q1, q2, q3⟩ := hc i (by omega)
    exact ⟨cs, q1, q2, by rw [List.getElem_take]; exact q3⟩

set_option maxHeartbeats 1000000 in
theorem l3Find_any (v : Value) (t : List Fn) (x : Int) (w : World) (h : RowR 3 rFn w v t) :
    Calls Try.prog 49 #[v, .int .i64 x] w fun e w' => e = .returned (.int .i64 (findI t x)) ∧ Below w.heap.size w w' := by
  have hcap := h.cap
  obtain ⟨a1, c1, rfl, hl1, hm1, r1⟩ := h.fns
  have R1 := Lib.hid r1
  clear h r1
  unfold maxLen at hm1
  go_enter Try.func49, Try.ntmps49
  go_wp2
  go_loopw [5] (fun i wr => ∃ k : Nat, k ≤ t.length ∧ i = .int .i64 k ∧ Hid (∀ j, j < k → (t.getD j fnD).id ≠ x) ∧ Below w.heap.size w wr) (fun i _ => t.length - (intOf i).toNat)
  case atStart => exact ⟨0, Nat.zero_le _, rfl, Lib.hid (fun j h => absurd h (Nat.not_lt_zero _)), Below.refl _ _⟩
  case round =>
    obtain ⟨k, hk, rfl, HN, hb⟩ := hrel
    by_cases hlt : k < t.length
    · obtain ⟨b1, o1, hb1, rfl, e1⟩ := R1.out.resolve_left (fun e => by rw [e] at hlt; simp at hlt)
      obtain ⟨f, hx⟩ : ∃ s, t.getD k fnD = s := ⟨_, rfl⟩
      obtain ⟨q0, q1, q2, hok⟩ := e1 k hlt
      rw [hx] at q0 q1 q2
      have f0 := cell_kept q0 hb
      have HX := Lib.hid hx
      have g0 : (0 : Int) ≤ (k : Int) := by omega
      have g1 : (k : Int) < (t.length : Int) := by omega
      clear q0 q1 q2 hok e1 hx
      by_cases he : f.id = x
      · have hq : (f.id == x) = true := by simp [he]
        have HE := Lib.hid he
        clear he
        go_wp2
        go_ret
        have hp : placeF t x = k := placeF_is hlt HN.out (by rw [HX.out]; exact HE.out)
        exact ⟨ret_int (by rw [findI_yes (by unfold hasF; rw [hp]; exact decide_eq_true hlt), hp]), hb⟩
      · have hq : (f.id == x) = false := by simp [he]
        have HE := Lib.hid he
        clear he
        go_wp2
        go_roundw
        case rel =>
          refine ⟨k + 1, by omega, by go_num, Lib.hid (fun j hj => ?_), hb⟩
          rcases Nat.lt_or_ge j k with h' | h'
          · exact HN.out j h'
          · obtain rfl : j = k := by omega
            rw [HX.out]
            exact HE.out
        case measure => simp [intOf]; omega
    · obtain rfl : k = t.length := by omega
      go_wp2
      go_ret
      exact ⟨ret_int (by rw [findI_no (hasF_none HN.out)]), hb⟩
end Go.Proofs.Ytpbjddiopfkgbaa
