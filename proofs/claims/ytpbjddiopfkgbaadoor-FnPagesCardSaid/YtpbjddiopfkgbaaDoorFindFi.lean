/- Where a file stands: the model's l5Find. -/
import Derived.Test.YtpbjddiopfkgbaaDoorAreFiS
namespace Go.Proofs.YtpbjddiopfkgbaaDoor
set_option linter.unusedVariables false
open Go.RowKit Go.Sort

set_option maxHeartbeats 2000000 in
theorem l5Find_any (v : Value) (t : List Fi) (x st : Int) (w : World) (h : RowR 7 rFi w v t) :
    Calls Tryd.prog 52 #[v, .int .i64 x, .int .i64 st] w fun e w' => e = .returned (.int .i64 (findFi t x st)) ∧ Below w.heap.size w w' := by
  have hcap := h.cap
  obtain ⟨bG, hbG⟩ : ∃ b, areFi t = b := ⟨_, rfl⟩
  have hcall : ∀ W : World, Below w.heap.size w W → Calls Tryd.prog 71 #[v] W fun e w' => e = .returned (.bool bG) ∧ Below W.heap.size W w' := fun W hW => by
    have := l5Good_any v t W (h.below rFi_stable hW)
    rwa [hbG] at this
  have HC := Lib.hid hcall
  have HG := Lib.hid hbG
  clear hcall hbG
  obtain ⟨a1, c1, rfl, hl1, hm1, r1⟩ := h.fis
  have R1 := Lib.hid r1
  clear h r1
  unfold maxLen at hm1
  go_enter Tryd.func52, Tryd.ntmps52
  go_wp2
  go_loopw [7] (fun i wr => ∃ k : Nat, k ≤ t.length ∧ i = .int .i64 k ∧ Hid (∀ j, j < k → hitFi x st (t.getD j fiD) = false) ∧ Below w.heap.size w wr) (fun i _ => t.length - (intOf i).toNat)
  case atStart => exact ⟨0, Nat.zero_le _, rfl, Lib.hid (fun j h => absurd h (Nat.not_lt_zero _)), Below.refl _ _⟩
  case round =>
    obtain ⟨k, hk, rfl, HN, hb⟩ := hrel
    have HB := Lib.hid hb
    have hw := hb.size
    by_cases hlt : k < t.length
    · obtain ⟨b1, o1, hb1, rfl, e1⟩ := R1.out.resolve_left (fun e => by rw [e] at hlt; simp at hlt)
      have E1 := Lib.hid e1
      have g0 : (0 : Int) ≤ (k : Int) := by omega
      have g1 : (k : Int) < (t.length : Int) := by omega
      clear e1
      cases bG
      · go_wp2_with (first | (go_at_call 71; refine (HC.out _ HB.out).mono ?_; rintro e w1 ⟨rfl, b1'⟩))
        go_ret
        exact ⟨ret_int (by rw [findFi_bad HG.out]), HB.out.trans (b1'.mono hw)⟩
      · obtain ⟨f, hx⟩ : ∃ s, t.getD k fiD = s := ⟨_, rfl⟩
        obtain ⟨q0, q1, q2, q3, q4, q5, q6, hok⟩ := E1.out k hlt
        rw [hx] at q0 q5
        have f0 := cell_kept q0 hb
        have f5 := cell_kept q5 hb
        have HX := Lib.hid hx
        clear q0 q1 q2 q3 q4 q5 q6 hok hx
        by_cases he : f.id = x
        · have hq : (f.id == x) = true := by simp [he]
          have HE := Lib.hid he
          clear he
          by_cases hs : st < 0
          · go_wp2_with (first | (go_at_call 71; refine (HC.out _ HB.out).mono ?_; rintro e w1 ⟨rfl, b1'⟩; have k0 := cell_kept f0 b1'; have k5 := cell_kept f5 b1'))
            go_ret
            exact ⟨ret_int (by rw [findFi_is HG.out hlt HN.out (by rw [HX.out, hitFi_iff]; exact ⟨HE.out, .inl hs⟩)]), HB.out.trans (b1'.mono hw)⟩
          · by_cases hp : f.state = st
            · have hpq : (f.state == st) = true := by simp [hp]
              have HP := Lib.hid hp
              clear hp
              go_wp2_with (first | (go_at_call 71; refine (HC.out _ HB.out).mono ?_; rintro e w1 ⟨rfl, b1'⟩; have k0 := cell_kept f0 b1'; have k5 := cell_kept f5 b1'))
              go_ret
              exact ⟨ret_int (by rw [findFi_is HG.out hlt HN.out (by rw [HX.out, hitFi_iff]; exact ⟨HE.out, .inr HP.out⟩)]), HB.out.trans (b1'.mono hw)⟩
            · have hpq : (f.state == st) = false := by simp [hp]
              have HP := Lib.hid hp
              clear hp
              go_wp2_with (first | (go_at_call 71; refine (HC.out _ HB.out).mono ?_; rintro e w1 ⟨rfl, b1'⟩; have k0 := cell_kept f0 b1'; have k5 := cell_kept f5 b1'))
              go_roundw
              case rel =>
                refine ⟨k + 1, by omega, by go_num, Lib.hid (fun j hj => ?_), HB.out.trans (b1'.mono hw)⟩
                rcases Nat.lt_or_ge j k with h' | h'
                · exact HN.out j h'
                · obtain rfl : j = k := by omega
                  rw [HX.out, ← Bool.not_eq_true, hitFi_iff]
                  exact fun h => h.2.elim (fun h => by omega) HP.out
              case measure => simp [intOf]; omega
        · have hq : (f.id == x) = false := by simp [he]
          have HE := Lib.hid he
          clear he
          go_wp2_with (first | (go_at_call 71; refine (HC.out _ HB.out).mono ?_; rintro e w1 ⟨rfl, b1'⟩; have k0 := cell_kept f0 b1'; have k5 := cell_kept f5 b1'))
          go_roundw
          case rel =>
            refine ⟨k + 1, by omega, by go_num, Lib.hid (fun j hj => ?_), HB.out.trans (b1'.mono hw)⟩
            rcases Nat.lt_or_ge j k with h' | h'
            · exact HN.out j h'
            · obtain rfl : j = k := by omega
              rw [HX.out, ← Bool.not_eq_true, hitFi_iff]
              exact fun h => HE.out h.1
          case measure => simp [intOf]; omega
    · obtain rfl : k = t.length := by omega
      go_wp2
      go_ret
      exact ⟨ret_int (by rw [findFi_none HN.out]), hb⟩
end Go.Proofs.YtpbjddiopfkgbaaDoor
