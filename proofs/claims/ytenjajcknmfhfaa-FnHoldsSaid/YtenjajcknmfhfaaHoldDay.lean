/- The draw of a day near a hold. -/
import Derived.Test.YtenjajcknmfhfaaHoldsD
import Derived.Test.YtenjajcknmfhfaaDrawRu
namespace Go.Proofs.Ytenjajcknmfhfaa
set_option linter.unusedVariables false
open Go.RowKit

theorem wrap_inH (x : Int) : inI (IntKind.i64.wrap x) := by
  unfold inI
  rw [IntKind.wrap_i64]
  omega
def NumH (w : World) (B K : Nat) (e : Ending) (w' : World) : Prop := ∃ n : Int, e = .returned (.int .i64 n) ∧ inI n ∧ Cur w' B K ∧ w.grownBy w' (some B)
set_option maxRecDepth 20000 in
set_option maxHeartbeats 8000000 in
theorem holdDay_any (B K : Nat) (v : Value) (t : List Ho) (w : World) (h : Cur w B K) (hK : K ≤ 30000) (hr : RowR 6 rHo w v t) (hBV : ∀ g, v.ownBlock = some g → g ≠ B) (hn : t.length ≤ 100) :
    Calls Try.prog 119 #[.pointer (some ⟨B, 0, none⟩), v] w (NumH w B (K + 12)) := by
  have hlt := h.lt
  obtain ⟨a, c, rfl, hl1, hm1, r1⟩ := hr.hos
  unfold maxLen at hm1
  have HD0 : Hid (Dk w w B K) := Lib.hid (Dk.start h)
  have R1 := Lib.hid r1
  clear h hr r1
  by_cases h0 : t.length = 0
  · have h1 : ((t.length : Int) == 0) = true := by simp [h0]
    go_enter Try.func119, Try.ntmps119
    go_wp2_with fail
    refine (day_any B K _ HD0.out.cur (by omega)).mono ?_
    rintro e w5 ⟨d, rfl, id, hc, hg⟩
    have HD5 := Lib.hid (HD0.out.step hc hg)
    clear hc hg
    go_wp2_with fail
    go_ret
    exact ⟨_, rfl, id, HD5.out.cur.le_K (by omega), HD5.out.gr⟩
  · have h1 : ((t.length : Int) == 0) = false := by rw [beq_eq_false_iff_ne]; omega
    go_enter Try.func119, Try.ntmps119
    go_wp2_with fail
    refine (one_any B K 3 _ HD0.out.cur (by omega) (by omega) (by omega)).mono ?_
    rintro e w1 ⟨b, rfl, hc, hg⟩
    have HD1 := Lib.hid (HD0.out.step hc hg)
    clear hc hg HD0
    cases b
    case true =>
      go_wp2_with fail
      refine (day_any B (K + 2) _ HD1.out.cur (by omega)).mono ?_
      rintro e w5 ⟨d, rfl, id, hc, hg⟩
      have HD5 := Lib.hid (HD1.out.step hc hg)
      clear hc hg
      go_wp2_with fail
      go_ret
      exact ⟨_, rfl, id, HD5.out.cur.le_K (by omega), HD5.out.gr⟩
    case false =>
      go_wp2_with fail
      refine (pick_any B (K + 2) (t.length : Int) _ HD1.out.cur (by omega) (by omega) (by omega)).mono ?_
      rintro e w2 ⟨r, rfl, hr0, hr1, hc, hg⟩
      have HD2 := Lib.hid (HD1.out.step hc hg)
      obtain ⟨k, rfl⟩ := Int.eq_ofNat_of_zero_le hr0
      have hk : k < t.length := by have : ((k : Nat) : Int) < (t.length : Int) := hr1; omega
      obtain ⟨bR, oR, hbR, rfl, e1⟩ := R1.out.resolve_left (fun e => by rw [e] at hk; simp at hk)
      obtain ⟨s, q0, q1, q2, q3, q4, q5, ⟨aS, cS, rfl, _⟩, hok⟩ := e1 k hk
      obtain ⟨nS, hnS⟩ : ∃ n, (t.getD k hoD).ser.length = n := ⟨_, rfl⟩
      rw [hnS] at q3
      have hne : ¬ bR = B := hBV bR rfl
      obtain ⟨⟨x0, x1, x2, xs, x4, x5⟩, hx⟩ : ∃ s, t.getD k hoD = s := ⟨_, rfl⟩
      rw [hx] at q0 q1 q2 q4 q5
      simp only at q0 q1 q2 q4 q5
      have f0 := HD2.out.gr.cell q0 (by simp; exact hne)
      have f1 := HD2.out.gr.cell q1 (by simp; exact hne)
      have f2 := HD2.out.gr.cell q2 (by simp; exact hne)
      have f3 := HD2.out.gr.cell q3 (by simp; exact hne)
      have f4 := HD2.out.gr.cell q4 (by simp; exact hne)
      have f5 := HD2.out.gr.cell q5 (by simp; exact hne)
      obtain ⟨G, hF⟩ : ∃ G, w2.heap.size = G := ⟨_, rfl⟩
      have hFB : B < G := by have := HD2.out.cur.lt; omega
      have HB : Hid (BxV (w2.alloc (.cells #[.int .i64 x0, .int .i64 x1, .int .i64 x2, .slice aS nS cS, .int .i64 x4, .int .i64 x5] 140 (0, 0))) G [.int .i64 x0, .int .i64 x1, .int .i64 x2, .slice aS nS cS, .int .i64 x4, .int .i64 x5]) := Lib.hid (BxV.new' hF _ _)
      have HD := Lib.hid (HD2.out.al (.cells #[.int .i64 x0, .int .i64 x1, .int .i64 x2, .slice aS nS cS, .int .i64 x4, .int .i64 x5] 140 (0, 0)))
      have g0 : (0 : Int) ≤ (k : Int) := by omega
      clear hc hg HD1 HD2 q0 q1 q2 q3 q4 q5 e1 hok hx R1
      go_upto_region 4 with fail
      try rw [hF]
      have HFE := Lib.hid hF
      clear hF
      generalize hW3 : w2.alloc (.cells #[.int .i64 x0, .int .i64 x1, .int .i64 x2, .slice aS nS cS, .int .i64 x4, .int .i64 x5] 140 (0, 0)) = W3 at *
      have HW3 := Lib.hid hW3
      clear hW3 f0 f1 f2 f3 f4 f5
      have c2 : W3.cell? ⟨G, 2, none⟩ = some (.int .i64 x2) := HB.out.cell 2
      by_cases hpos : 0 < x2
      · have d0 : decide (0 < x2) = true := decide_eq_true hpos
        go_wp2_with fail
        refine (one_any B (K + 4) 2 _ HD.out.cur (by omega) (by omega) (by omega)).mono ?_
        rintro e w4 ⟨b2, rfl, hc, hg⟩
        replace HB := Lib.hid (HB.out.grown hg (by simp; omega))
        replace HD := Lib.hid (HD.out.step hc hg)
        clear hc hg c2 d0 hpos
        cases b2
        case true =>
          have HDd : Hid (Dk w w4.drew B (K + 6)) := Lib.hid HD.out.drew
          have HBd : Hid (BxV w4.drew G [.int .i64 x0, .int .i64 x1, .int .i64 x2, .slice aS nS cS, .int .i64 x4, .int .i64 x5]) := HB
          have p1 : w4.drew.cell? ⟨G, 2, none⟩ = some (.int .i64 x2) := HBd.out.cell 2
          go_upto_region 5 with fail
          go_region_held3 (fun w' => w'.cell? ⟨G, 2, none⟩ = some (.int .i64 x2)) (first | exact p1 | exact g1 | go_keep) (first | (go_at_call 81; refine (pick_any B (K + 6) 2 _ HDd.out.cur (by omega) (by omega) (by omega)).mono ?_; rintro e wa ⟨r, rfl, ha0, ha1, hc, hg⟩; have HDa := Lib.hid (HDd.out.step hc hg); have HBa := Lib.hid (HBd.out.grown hg (by simp; omega)); have g1 : wa.cell? ⟨G, 2, none⟩ = some (.int .i64 x2) := HBa.out.cell 2; clear hc hg))
          all_goals
            go_wp2_with fail
            go_ret
            exact ⟨_, rfl, wrap_inH _, (HDa.out.le (by omega)).cur, HDa.out.gr⟩
        case false =>
          have HDd : Hid (Dk w w4.drew B (K + 6)) := Lib.hid HD.out.drew
          have HBd : Hid (BxV w4.drew G [.int .i64 x0, .int .i64 x1, .int .i64 x2, .slice aS nS cS, .int .i64 x4, .int .i64 x5]) := HB
          have p1 : w4.drew.cell? ⟨G, 1, none⟩ = some (.int .i64 x1) := HBd.out.cell 1
          go_upto_region 6 with fail
          go_region_held3 (fun w' => w'.cell? ⟨G, 1, none⟩ = some (.int .i64 x1)) (first | exact p1 | exact g1 | go_keep) (first | (go_at_call 81; refine (pick_any B (K + 6) 2 _ HDd.out.cur (by omega) (by omega) (by omega)).mono ?_; rintro e wa ⟨r, rfl, ha0, ha1, hc, hg⟩; have HDa := Lib.hid (HDd.out.step hc hg); have HBa := Lib.hid (HBd.out.grown hg (by simp; omega)); have g1 : wa.cell? ⟨G, 1, none⟩ = some (.int .i64 x1) := HBa.out.cell 1; clear hc hg))
          all_goals
            go_wp2_with fail
            go_ret
            exact ⟨_, rfl, wrap_inH _, (HDa.out.le (by omega)).cur, HDa.out.gr⟩
      · have d0 : decide (0 < x2) = false := decide_eq_false hpos
        have HP := Lib.hid hpos
        clear hpos
        have HDd : Hid (Dk w W3.drew B (K + 4)) := Lib.hid HD.out.drew
        have HBd : Hid (BxV W3.drew G [.int .i64 x0, .int .i64 x1, .int .i64 x2, .slice aS nS cS, .int .i64 x4, .int .i64 x5]) := HB
        have p1 : W3.drew.cell? ⟨G, 1, none⟩ = some (.int .i64 x1) := HBd.out.cell 1
        go_upto_region 6 with fail
        go_region_held3 (fun w' => w'.cell? ⟨G, 1, none⟩ = some (.int .i64 x1)) (first | exact p1 | exact g1 | go_keep) (first | (go_at_call 81; refine (pick_any B (K + 4) 2 _ HDd.out.cur (by omega) (by omega) (by omega)).mono ?_; rintro e wa ⟨r, rfl, ha0, ha1, hc, hg⟩; have HDa := Lib.hid (HDd.out.step hc hg); have HBa := Lib.hid (HBd.out.grown hg (by simp; omega)); have g1 : wa.cell? ⟨G, 1, none⟩ = some (.int .i64 x1) := HBa.out.cell 1; clear hc hg))
        all_goals
          go_wp2_with fail
          go_ret
          exact ⟨_, rfl, wrap_inH _, (HDa.out.le (by omega)).cur, HDa.out.gr⟩
end Go.Proofs.Ytenjajcknmfhfaa
