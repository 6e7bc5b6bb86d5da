/- Are two lists of rules the same: l8Same of the model, slices.Equal of the library. -/
import Derived.Test.YtpngmheflpbnbaaRuS
import Derived.Test.YtpngmheflpbnbaaEqRu
import Derived.Laws.StructEq
namespace Go.Proofs.Ytpngmheflpbnbaa
set_option linter.unusedVariables false
open Go.RowKit Go.Sort

theorem ruGuard (op : BinOp) (x y : Operand) (xs ys : Array Value) (w : World) : (eqGuard op 37 x y (.agg xs) (.agg ys)).run Try.prog w = .ok () w := run_eqGuard_agg w op 37 x y xs ys (by kernel_rfl)
theorem ruNe_run (x0 x1 x2 x3 y0 y1 y2 y3 : Int) (w : World) : (binOp .neq 37 (.agg #[.int .i64 x0, .int .i64 x1, .int .i64 x2, .int .i64 x3]) (.agg #[.int .i64 y0, .int .i64 y1, .int .i64 y2, .int .i64 y3])).run Try.prog w = .ok (.bool (!decide ((⟨x0, x1, x2, x3⟩ : Ru) = ⟨y0, y1, y2, y3⟩))) w := by
  have u3 := Try.underlying3
  have a3 := Try.isAgg3
  have z3 := Try.sizeOf3
  have hS : Try.prog.underlying 37 = some (.struct (Try.prog.fieldsOf 37)) := by kernel_rfl
  have hp : Try.prog.stoodInHeld 37 = false := by kernel_rfl
  rw [run_neq_struct, show (10000 : Nat) = 9999 + 1 from rfl, run_equalIn_agg w 9999 37 _ _ hS hp]
  simp only [Program.fieldsOf, Try.underlying37]
  go_simp
  by_cases h1 : x0 = y0 <;> by_cases h2 : x1 = y1 <;> by_cases h3 : x2 = y2 <;> by_cases h4 : x3 = y3 <;> simp [h1, h2, h3, h4]

set_option maxRecDepth 20000 in
set_option maxHeartbeats 4000000 in
theorem l8Same_any (v1 v2 : Value) (xs ys : List Ru) (w : World) (h1 : RowR 4 rRu w v1 xs) (h2 : RowR 4 rRu w v2 ys) :
    Calls Try.prog 66 #[v1, v2] w fun e w' => e = .returned (.bool (decide (xs = ys))) ∧ Below w.heap.size w w' := by
  have hx := h1.cap
  have hy := h2.cap
  obtain ⟨a1, c1, rfl, hl1, hm1, r1⟩ := h1.rus
  obtain ⟨a2, c2, rfl, hl2, hm2, r2⟩ := h2.rus
  unfold maxLen at hm1 hm2
  clear h1 h2
  by_cases hlen : xs.length = ys.length
  · have hLen := Lib.hid hlen
    have hne : (((xs.length : Nat) : Int) != (xs.length : Int)) = false := by simp
    rw [← hlen]
    clear hlen
    have R1 := Lib.hid r1
    have R2 := Lib.hid r2
    clear r1 r2
    go_enter Try.func66, Try.ntmps66
    go_wp2
    go_loopw [5] (fun i wr => ∃ k : Nat, k ≤ xs.length ∧ i = .int .i64 k ∧ Hid (∀ j, j < k → xs.getD j ruD = ys.getD j ruD) ∧ Below w.heap.size w wr) (fun i _ => xs.length - (intOf i).toNat)
    case atStart => exact ⟨0, Nat.zero_le _, rfl, Lib.hid (fun j h => by omega), Below.refl _ _⟩
    case round =>
      obtain ⟨k, hk, rfl, HJ, hb⟩ := hrel
      by_cases hlt : k < xs.length
      · obtain ⟨b1, o1, hb1, rfl, e1⟩ := R1.out.resolve_left (fun e => by rw [e] at hlt; simp at hlt)
        obtain ⟨b2, o2, hb2, rfl, e2⟩ := R2.out.resolve_left (fun e => by have := hLen.out; rw [e] at this; simp at this; rw [this] at hlt; simp at hlt)
        obtain ⟨q0, q1, q2, q3, _⟩ := e1 k hlt
        obtain ⟨p0, p1, p2, p3, _⟩ := e2 k (by have := hLen.out; omega)
        obtain ⟨⟨x0, x1, x2, x3⟩, hx⟩ : ∃ s, xs.getD k ruD = s := ⟨_, rfl⟩
        obtain ⟨⟨y0, y1, y2, y3⟩, hy⟩ : ∃ s, ys.getD k ruD = s := ⟨_, rfl⟩
        rw [hx] at q0 q1 q2 q3
        rw [hy] at p0 p1 p2 p3
        simp only at q0 q1 q2 q3 p0 p1 p2 p3
        have m0 := cell_regrown (cell_kept q0 hb)
        have m1 := cell_regrown (cell_kept q1 hb)
        have m2 := cell_regrown (cell_kept q2 hb)
        have m3 := cell_regrown (cell_kept q3 hb)
        have n0 := cell_regrown (cell_kept p0 hb)
        have n1 := cell_regrown (cell_kept p1 hb)
        have n2 := cell_regrown (cell_kept p2 hb)
        have n3 := cell_regrown (cell_kept p3 hb)
        have f0 := cell_kept q0 hb
        have f1 := cell_kept q1 hb
        have f2 := cell_kept q2 hb
        have f3 := cell_kept q3 hb
        have HX := Lib.hid hx
        have HY := Lib.hid hy
        have hsz := hb.size
        have g0 : (0 : Int) ≤ (k : Int) := by omega
        have g1 : (k : Int) < (xs.length : Int) := by omega
        have hwk : IntKind.i64.wrap ((k : Int) + 1) = ((k + 1 : Nat) : Int) := by rw [Go.IntWalk.i64_in _ (by omega)]; omega
        have kg := ruGuard
        obtain ⟨bb, hbb⟩ : ∃ bb, decide ((⟨x0, x1, x2, x3⟩ : Ru) = ⟨y0, y1, y2, y3⟩) = bb := ⟨_, rfl⟩
        have ke : ∀ w, (binOp .neq 37 (.agg #[.int .i64 x0, .int .i64 x1, .int .i64 x2, .int .i64 x3]) (.agg #[.int .i64 y0, .int .i64 y1, .int .i64 y2, .int .i64 y3])).run Try.prog w = .ok (.bool (!bb)) w := fun w => by rw [ruNe_run, hbb]
        have HB := Lib.hid hbb
        clear q0 q1 q2 q3 p0 p1 p2 p3 hx hy e1 e2 hbb
        cases bb
        all_goals
          simp only [Bool.not_false, Bool.not_true] at ke
          go_wp2_with fail
          refine wp_region_quiet_below (by kernel_rfl) (by kernel_rfl) ?_
          repeat (go_big_quiet_step (first | fail))
          refine wpQuiet_nil ?_
          intro _ hw'
          obtain ⟨⟨dq, osq⟩, hw''⟩ := hw'
          subst hw''
          have bq := below_regrown wr dq osq
          generalize grow (redrawn wr dq) osq = w2 at bq ⊢
          clear m0 m1 m2 m3 n0 n1 n2 n3 kg ke f0 f1 f2 f3
        · go_wp2_with fail
          go_ret
          refine ⟨ret_bool (Eq.symm (decide_eq_false fun e => ?_)), hb.trans (bq.mono hsz)⟩
          have h1 := of_decide_eq_false HB.out
          subst e
          exact h1 (HX.out.symm.trans HY.out)
        · go_wp2_with fail
          go_roundw
          case rel =>
            refine ⟨k + 1, by omega, by first | rfl | go_num, Lib.hid (fun j h => ?_), hb.trans (bq.mono hsz)⟩
            rcases Nat.lt_or_ge j k with h' | h'
            · exact HJ.out j h'
            · obtain rfl : j = k := by omega
              rw [HX.out, HY.out]
              exact of_decide_eq_true HB.out
          case measure => simp [intOf]; omega
      · go_wp2_with fail
        go_ret
        refine ⟨ret_bool (Eq.symm (decide_eq_true ?_)), hb⟩
        refine List.ext_getElem hLen.out fun i a b => ?_
        have := HJ.out i (by omega)
        rwa [getRu_lt a, getRu_lt b] at this
  · have hne : (((xs.length : Nat) : Int) != (ys.length : Int)) = true := by simp; omega
    rw [decide_eq_false (fun e => hlen (by rw [e]))]
    go_enter Try.func66, Try.ntmps66
    go_wp2
    go_ret
    exact ⟨rfl, Below.refl _ _⟩

set_option maxRecDepth 20000 in
set_option maxHeartbeats 4000000 in
theorem equalRu_any (v1 v2 : Value) (xs ys : List Ru) (w : World) (h1 : RowR 4 rRu w v1 xs) (h2 : RowR 4 rRu w v2 ys) :
    Calls Try.prog 69 #[v1, v2] w fun e w' => e = .returned (.bool (decide (xs = ys))) ∧ Below w.heap.size w w' := by
  have hx := h1.cap
  have hy := h2.cap
  obtain ⟨a1, c1, rfl, hl1, hm1, r1⟩ := h1.rus
  obtain ⟨a2, c2, rfl, hl2, hm2, r2⟩ := h2.rus
  unfold maxLen at hm1 hm2
  clear h1 h2
  by_cases hlen : xs.length = ys.length
  · have hLen := Lib.hid hlen
    have hne : (((xs.length : Nat) : Int) != (xs.length : Int)) = false := by simp
    rw [← hlen]
    clear hlen
    have R1 := Lib.hid r1
    have R2 := Lib.hid r2
    clear r1 r2
    go_enter Try.func69, Try.ntmps69
    go_wp2
    go_loopw [13] (fun i wr => ∃ k : Nat, k ≤ xs.length ∧ i = .int .i64 k ∧ Hid (∀ j, j < k → xs.getD j ruD = ys.getD j ruD) ∧ Below w.heap.size w wr) (fun i _ => xs.length - (intOf i).toNat)
    case atStart => exact ⟨0, Nat.zero_le _, rfl, Lib.hid (fun j h => by omega), Below.refl _ _⟩
    case round =>
      obtain ⟨k, hk, rfl, HJ, hb⟩ := hrel
      by_cases hlt : k < xs.length
      · obtain ⟨b1, o1, hb1, rfl, e1⟩ := R1.out.resolve_left (fun e => by rw [e] at hlt; simp at hlt)
        obtain ⟨b2, o2, hb2, rfl, e2⟩ := R2.out.resolve_left (fun e => by have := hLen.out; rw [e] at this; simp at this; rw [this] at hlt; simp at hlt)
        obtain ⟨q0, q1, q2, q3, _⟩ := e1 k hlt
        obtain ⟨p0, p1, p2, p3, _⟩ := e2 k (by have := hLen.out; omega)
        obtain ⟨⟨x0, x1, x2, x3⟩, hx⟩ : ∃ s, xs.getD k ruD = s := ⟨_, rfl⟩
        obtain ⟨⟨y0, y1, y2, y3⟩, hy⟩ : ∃ s, ys.getD k ruD = s := ⟨_, rfl⟩
        rw [hx] at q0 q1 q2 q3
        rw [hy] at p0 p1 p2 p3
        simp only at q0 q1 q2 q3 p0 p1 p2 p3
        have m0 := cell_regrown (cell_kept q0 hb)
        have m1 := cell_regrown (cell_kept q1 hb)
        have m2 := cell_regrown (cell_kept q2 hb)
        have m3 := cell_regrown (cell_kept q3 hb)
        have n0 := cell_regrown (cell_kept p0 hb)
        have n1 := cell_regrown (cell_kept p1 hb)
        have n2 := cell_regrown (cell_kept p2 hb)
        have n3 := cell_regrown (cell_kept p3 hb)
        have f0 := cell_kept q0 hb
        have f1 := cell_kept q1 hb
        have f2 := cell_kept q2 hb
        have f3 := cell_kept q3 hb
        have HX := Lib.hid hx
        have HY := Lib.hid hy
        have hsz := hb.size
        have g0 : (0 : Int) ≤ (k : Int) := by omega
        have g1 : (k : Int) < (xs.length : Int) := by omega
        have hwk : IntKind.i64.wrap ((k : Int) + 1) = ((k + 1 : Nat) : Int) := by rw [Go.IntWalk.i64_in _ (by omega)]; omega
        have kg := ruGuard
        obtain ⟨bb, hbb⟩ : ∃ bb, decide ((⟨x0, x1, x2, x3⟩ : Ru) = ⟨y0, y1, y2, y3⟩) = bb := ⟨_, rfl⟩
        have ke : ∀ w, (binOp .neq 37 (.agg #[.int .i64 x0, .int .i64 x1, .int .i64 x2, .int .i64 x3]) (.agg #[.int .i64 y0, .int .i64 y1, .int .i64 y2, .int .i64 y3])).run Try.prog w = .ok (.bool (!bb)) w := fun w => by rw [ruNe_run, hbb]
        have HB := Lib.hid hbb
        clear q0 q1 q2 q3 p0 p1 p2 p3 hx hy e1 e2 hbb
        cases bb
        all_goals
          simp only [Bool.not_false, Bool.not_true] at ke
          go_wp2_with fail
          refine wp_region_quiet_below (by kernel_rfl) (by kernel_rfl) ?_
          repeat (go_big_quiet_step (first | fail))
          refine wpQuiet_nil ?_
          intro _ hw'
          obtain ⟨⟨dq, osq⟩, hw''⟩ := hw'
          subst hw''
          have bq := below_regrown wr dq osq
          generalize grow (redrawn wr dq) osq = w2 at bq ⊢
          clear m0 m1 m2 m3 n0 n1 n2 n3 kg ke f0 f1 f2 f3
        · go_wp2_with fail
          go_ret
          refine ⟨ret_bool (Eq.symm (decide_eq_false fun e => ?_)), hb.trans (bq.mono hsz)⟩
          have h1 := of_decide_eq_false HB.out
          subst e
          exact h1 (HX.out.symm.trans HY.out)
        · go_wp2_with fail
          go_roundw
          case rel =>
            refine ⟨k + 1, by omega, by first | rfl | go_num, Lib.hid (fun j h => ?_), hb.trans (bq.mono hsz)⟩
            rcases Nat.lt_or_ge j k with h' | h'
            · exact HJ.out j h'
            · obtain rfl : j = k := by omega
              rw [HX.out, HY.out]
              exact of_decide_eq_true HB.out
          case measure => simp [intOf]; omega
      · go_wp2_with fail
        go_ret
        refine ⟨ret_bool (Eq.symm (decide_eq_true ?_)), hb⟩
        refine List.ext_getElem hLen.out fun i a b => ?_
        have := HJ.out i (by omega)
        rwa [getRu_lt a, getRu_lt b] at this
  · have hne : (((xs.length : Nat) : Int) != (ys.length : Int)) = true := by simp; omega
    rw [decide_eq_false (fun e => hlen (by rw [e]))]
    go_enter Try.func69, Try.ntmps69
    go_wp2
    go_ret
    exact ⟨rfl, Below.refl _ _⟩
end Go.Proofs.Ytpngmheflpbnbaa
