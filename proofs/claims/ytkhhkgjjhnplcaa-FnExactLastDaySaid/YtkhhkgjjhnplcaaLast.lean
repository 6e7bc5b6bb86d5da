/- LastDay, the model's and the program's: the greatest day of a valid record. -/
import Derived.Test.YtkhhkgjjhnplcaaIsRecI
namespace Go.Proofs.Ytkhhkgjjhnplcaa
set_option linter.unusedVariables false
open Go.RowKit Go.Sort

def most (a b : Int) : Int := if a < b then b else a
theorem l1Most_any (a b : Int) (w : World) : Calls Try.prog 52 #[.int .i64 a, .int .i64 b] w fun e w' => e = .returned (.int .i64 (most a b)) ∧ w' = w := by
  by_cases h : b < a
  · go_enter Try.func52, Try.ntmps52
    go_wp2
    go_ret
    exact ⟨ret_int (by unfold most; rw [if_neg (by omega)]), rfl⟩
  · go_enter Try.func52, Try.ntmps52
    go_wp2
    go_ret
    exact ⟨ret_int (by unfold most; split <;> omega), rfl⟩

/-- What LastDay answers. -/
def lastRes (r : Rec) : Int × Bool := if isRec r = true then (lastDay r r.evs.length, true) else (0, false)

set_option maxHeartbeats 2000000 in
theorem specLastDay_any (v : Value) (r : Rec) (w : World) (h : RecV w v r) (n : Int) (b : Bool) (hres : lastRes r = (n, b)) :
    Calls Try.prog 32 #[v] w fun e w' => e = .returned (.tuple #[.int .i64 n, .bool b]) ∧ Below w.heap.size w w' := by
  obtain ⟨s, rfl, h1, hok⟩ := h
  have hV : ∀ W, Below w.heap.size w W → RecV W (.agg #[.int .i64 r.id, .int .i64 r.series, .int .i64 r.made, s]) r := fun W hb => ⟨s, rfl, h1.below rEv_stable hb, hok⟩
  have HV := Lib.hid hV
  clear hV hok
  obtain ⟨a1, c1, rfl, hl1, hm1, r1⟩ := h1.evs
  have R1 := Lib.hid r1
  clear h1 r1
  unfold maxLen at hm1
  unfold lastRes at hres
  rcases hr : isRec r with _ | _
  · rw [hr, if_neg (by simp)] at hres
    obtain ⟨rfl, rfl⟩ := Prod.mk.inj hres
    have HR := Lib.hid hr
    clear hr hres
    go_enter Try.func32, Try.ntmps32
    go_wp2_with (first | (go_at_call 43; refine (l2Record_any _ r _ (HV.out _ (below_al (Below.refl _ _) _))).mono ?_; rw [HR.out]; rintro e w1 ⟨rfl, b1⟩))
    go_ret2
    exact ⟨rfl, below_chain (below_al (Below.refl _ _) _) b1⟩
  · rw [hr, if_pos rfl] at hres
    obtain ⟨rfl, rfl⟩ := Prod.mk.inj hres
    have HR := Lib.hid hr
    clear hr hres
    go_enter Try.func32, Try.ntmps32
    go_wp2_with (first | (go_at_call 43; refine (l2Record_any _ r _ (HV.out _ (below_al (Below.refl _ _) _))).mono ?_; rw [HR.out]; rintro e w1 ⟨rfl, b1⟩; have p2 := cell_kept (cell_new w _ _ 2 rfl) b1; have p3 := cell_kept (cell_new w _ _ 3 rfl) b1; replace b1 := below_chain (below_al (Below.refl w.heap.size w) _) b1))
    go_loopw [4, 5] (fun m i wr => ∃ k : Nat, k ≤ r.evs.length ∧ i = .int .i64 k ∧ m = .int .i64 (lastDay r k) ∧ Below w.heap.size w wr ∧ wr.cell? ⟨w.heap.size, 3, none⟩ = some (.slice a1 r.evs.length c1)) (fun _ i _ => r.evs.length - (intOf i).toNat)
    case atStart => exact ⟨0, Nat.zero_le _, rfl, by rw [lastDay_zero], b1, p3⟩
    case round =>
      clear p3 p2 b1
      obtain ⟨k, hk, rfl, rfl, hb, p3⟩ := hrel
      by_cases hlt : k < r.evs.length
      · obtain ⟨b1, o1, hb1, rfl, e1⟩ := R1.out.resolve_left (fun e => by rw [e] at hlt; simp at hlt)
        obtain ⟨⟨x, y⟩, hx⟩ : ∃ s, r.evs.getD k evD = s := ⟨_, rfl⟩
        obtain ⟨q1, q2, hok⟩ := e1 k hlt
        rw [hx] at q1 q2 hok
        have f1 := cell_kept q1 hb
        have f2 := cell_kept q2 hb
        have HX := Lib.hid hx
        have g0 : (0 : Int) ≤ (k : Int) := by omega
        have g1 : (k : Int) < (r.evs.length : Int) := by omega
        clear q1 q2 hx e1 hok
        go_wp2_with (first | (go_at_call 52; refine (l1Most_any _ _ _).mono ?_; rintro e w2 ⟨rfl, rfl⟩))
        go_roundw
        case rel => exact ⟨k + 1, by omega, by go_num, (by rw [lastDay_succ _ _ hlt, HX.out]; rfl), hb, p3⟩
        case measure => simp [intOf]; omega
      · obtain rfl : k = r.evs.length := by omega
        go_wp2_with fail
        go_ret2
        exact ⟨rfl, hb⟩

set_option maxHeartbeats 2000000 in
theorem implLastDay_any (v : Value) (r : Rec) (w : World) (h : RecV w v r) (n : Int) (b : Bool) (hres : lastRes r = (n, b)) :
    Calls Try.prog 33 #[v] w fun e w' => e = .returned (.tuple #[.int .i64 n, .bool b]) ∧ Below w.heap.size w w' := by
  obtain ⟨s, rfl, h1, hok⟩ := h
  have hV : ∀ W, Below w.heap.size w W → RecV W (.agg #[.int .i64 r.id, .int .i64 r.series, .int .i64 r.made, s]) r := fun W hb => ⟨s, rfl, h1.below rEv_stable hb, hok⟩
  have HV := Lib.hid hV
  clear hV hok
  obtain ⟨a1, c1, rfl, hl1, hm1, r1⟩ := h1.evs
  have R1 := Lib.hid r1
  clear h1 r1
  unfold maxLen at hm1
  unfold lastRes at hres
  rcases hr : isRec r with _ | _
  · rw [hr, if_neg (by simp)] at hres
    obtain ⟨rfl, rfl⟩ := Prod.mk.inj hres
    have HR := Lib.hid hr
    clear hr hres
    go_enter Try.func33, Try.ntmps33
    go_wp2_with (first | (go_at_call 17; refine (implIsRecord_any _ r _ (HV.out _ (below_al (Below.refl _ _) _))).mono ?_; rw [HR.out]; rintro e w1 ⟨rfl, b1⟩))
    go_ret2
    exact ⟨rfl, below_chain (below_al (Below.refl _ _) _) b1⟩
  · rw [hr, if_pos rfl] at hres
    obtain ⟨rfl, rfl⟩ := Prod.mk.inj hres
    have HR := Lib.hid hr
    clear hr hres
    go_enter Try.func33, Try.ntmps33
    go_wp2_with (first | (go_at_call 17; refine (implIsRecord_any _ r _ (HV.out _ (below_al (Below.refl _ _) _))).mono ?_; rw [HR.out]; rintro e w1 ⟨rfl, b1⟩; have p2 := cell_kept (cell_new w _ _ 2 rfl) b1; have p3 := cell_kept (cell_new w _ _ 3 rfl) b1; replace b1 := below_chain (below_al (Below.refl w.heap.size w) _) b1))
    go_loopw [4, 15] (fun m i wr => ∃ k : Nat, k ≤ r.evs.length ∧ i = .int .i64 k ∧ m = .int .i64 (lastDay r k) ∧ Below w.heap.size w wr) (fun _ i _ => r.evs.length - (intOf i).toNat)
    case atStart => exact ⟨0, Nat.zero_le _, rfl, by rw [lastDay_zero], b1⟩
    case round =>
      clear p3 p2 b1
      obtain ⟨k, hk, rfl, rfl, hb⟩ := hrel
      by_cases hlt : k < r.evs.length
      · obtain ⟨b1, o1, hb1, rfl, e1⟩ := R1.out.resolve_left (fun e => by rw [e] at hlt; simp at hlt)
        obtain ⟨⟨x, y⟩, hx⟩ : ∃ s, r.evs.getD k evD = s := ⟨_, rfl⟩
        obtain ⟨q1, q2, hok⟩ := e1 k hlt
        rw [hx] at q1 q2 hok
        have f1 := cell_kept q1 hb
        have f2 := cell_kept q2 hb
        have HX := Lib.hid hx
        have g0 : (0 : Int) ≤ (k : Int) := by omega
        have g1 : (k : Int) < (r.evs.length : Int) := by omega
        have hw := hb.size
        clear q1 q2 hx e1 hok
        go_wp2_with fail
        go_roundw
        case rel => exact ⟨k + 1, by omega, by go_num, (by rw [lastDay_succ _ _ hlt, HX.out]), hb.trans ((below_al (Below.refl wr.heap.size wr) _).mono hw)⟩
        case measure => simp [intOf]; omega
      · obtain rfl : k = r.evs.length := by omega
        go_wp2_with fail
        go_ret2
        exact ⟨rfl, hb⟩
end Go.Proofs.Ytkhhkgjjhnplcaa
