/- DayOf, the model's and the program's: the day of a kind in a valid record. -/
import Derived.Test.YtenjajcknmfhfaaIsRecI
import Derived.Test.YtenjajcknmfhfaaSearch
namespace Go.Proofs.Ytenjajcknmfhfaa
set_option linter.unusedVariables false
open Go.RowKit Go.Sort

/-- What DayOf answers. -/
def dayRes (r : Rec) (k : Int) : Int × Bool := if isRec r = true ∧ 0 ≤ dayOf r k then (dayOf r k, true) else (0, false)

set_option maxHeartbeats 2000000 in
theorem l2DayOf_any (v : Value) (r : Rec) (kd : Int) (w : World) (h : RecV w v r) :
    Calls Try.prog 183 #[v, .int .i64 kd] w fun e w' => e = .returned (.int .i64 (dayOf r kd)) ∧ Below w.heap.size w w' := by
  obtain ⟨s, rfl, h1, hok⟩ := h
  obtain ⟨a1, c1, rfl, hl1, hm1, r1⟩ := h1.evs
  have R1 := Lib.hid r1
  clear h1 r1
  unfold maxLen at hm1
  by_cases hk0 : kd = 0
  · subst hk0
    go_enter Try.func183, Try.ntmps183
    go_wp2_with fail
    go_ret
    exact ⟨ret_int (by rw [dayOf_zero]), below_al (Below.refl _ _) _⟩
  · have hne : (kd == 0) = false := by simp [hk0]
    have HK0 := Lib.hid hk0
    clear hk0
    go_enter Try.func183, Try.ntmps183
    go_wp2_with fail
    go_loopw [5] (fun i wr => ∃ k : Nat, k ≤ r.evs.length ∧ i = .int .i64 k ∧ Hid (∀ j, j < k → (r.evs.getD j evD).kind ≠ kd) ∧ Below w.heap.size w wr ∧ wr.cell? ⟨w.heap.size, 3, none⟩ = some (.slice a1 r.evs.length c1)) (fun i _ => r.evs.length - (intOf i).toNat)
    case atStart => exact ⟨0, Nat.zero_le _, rfl, Lib.hid (fun j hj => absurd hj (Nat.not_lt_zero _)), below_al (Below.refl _ _) _, cell_new w _ _ 3 rfl⟩
    case round =>
      obtain ⟨k, hk, rfl, I, hb, p3⟩ := hrel
      by_cases hlt : k < r.evs.length
      · obtain ⟨b1, o1, hb1, rfl, e1⟩ := R1.out.resolve_left (fun e => by rw [e] at hlt; simp at hlt)
        obtain ⟨⟨x, y⟩, hx⟩ : ∃ s, r.evs.getD k evD = s := ⟨_, rfl⟩
        obtain ⟨q1, q2, hok⟩ := e1 k hlt
        rw [hx] at q1 q2 hok
        have f1 := cell_kept q1 hb
        have f2 := cell_kept q2 hb
        simp only at f1 f2
        have HX := Lib.hid hx
        have g0 : (0 : Int) ≤ (k : Int) := by omega
        have g1 : (k : Int) < (r.evs.length : Int) := by omega
        clear q1 q2 hx e1 hok
        by_cases hq : x = kd
        · have eq1 : (x == kd) = true := by simp [hq]
          have HQ := Lib.hid hq
          clear hq
          go_wp2_with fail
          go_ret
          exact ⟨ret_int (Eq.symm (by rw [dayOf_hit HK0.out hlt I.out (by rw [HX.out]; exact HQ.out), HX.out])), hb⟩
        · have eq1 : (x == kd) = false := by simp [hq]
          have HQ := Lib.hid hq
          clear hq
          go_wp2_with fail
          go_roundw
          case rel =>
            refine ⟨k + 1, by omega, by go_num, Lib.hid (fun j hj => ?_), hb, p3⟩
            rcases Nat.lt_or_ge j k with h' | h'
            · exact I.out j h'
            · obtain rfl : j = k := by omega
              rw [HX.out]
              exact HQ.out
          case measure => simp [intOf]; omega
      · obtain rfl : k = r.evs.length := by omega
        go_wp2_with fail
        go_ret
        exact ⟨ret_int (Eq.symm (dayOf_miss HK0.out I.out)), hb⟩


end Go.Proofs.Ytenjajcknmfhfaa
