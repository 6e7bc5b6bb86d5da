/- Clerks, the model's: l11Both, l11One, IsClerk, l11On, l11Find, l11Good, AreClerks, l11Rights. -/
import Derived.Test.YtalaegkfkjpmoaaSlCk
import Derived.Test.YtalaegkfkjpmoaaL1In
import Derived.Test.YtalaegkfkjpmoaaWord
import Derived.Test.YtalaegkfkjpmoaaDayI
import Derived.Lib.QuietBelow
import Derived.BigQuiet
import Derived.WalkSmall
namespace Go.Proofs.Ytalaegkfkjpmoaa
set_option linter.unusedVariables false
open Go.RowKit Go.Sort

theorem l11Both_any (r : Int) (w : World) : Calls Try.prog 139 #[.int .i64 r] w fun e w' => e = .returned (.bool (hasR r 10)) ∧ w' = w := by
  go_enter Try.func139, Try.ntmps139
  go_wp2_with fail
  go_ret
  exact ⟨ret_bool (by rw [Bool.eq_iff_iff]; simp [hasR]), rfl⟩

set_option maxHeartbeats 2000000 in
theorem specCk_any (x : Ck) (w : World) (hs : x.name.size ≤ maxLen) : Calls Try.prog 117 #[.agg #[.int .i64 x.id, .string x.name, .int .i64 x.rights, .int .i64 x.frm, .int .i64 x.til, .int .i64 x.stands]] w fun e w' => e = .returned (.bool (ckOne x)) ∧ Below w.heap.size w w' := by
  obtain ⟨x0, x1, x2, x3, x4, x5⟩ := x
  simp only at hs
  simp only
  obtain ⟨b0, hb0⟩ : ∃ b, decide (1 ≤ x0 ∧ x0 ≤ 99) = b := ⟨_, rfl⟩
  obtain ⟨b1, hb1⟩ : ∃ b, isWord x1 = b := ⟨_, rfl⟩
  obtain ⟨b2, hb2⟩ : ∃ b, decide (0 ≤ x2 ∧ x2 ≤ 15) = b := ⟨_, rfl⟩
  obtain ⟨b3, hb3⟩ : ∃ b, hasR x2 10 = b := ⟨_, rfl⟩
  obtain ⟨b4, hb4⟩ : ∃ b, decide (0 ≤ x4 ∧ x4 ≤ 20000) = b := ⟨_, rfl⟩
  obtain ⟨b5, hb5⟩ : ∃ b, decide (0 ≤ x3 ∧ x3 ≤ x4) = b := ⟨_, rfl⟩
  obtain ⟨b6, hb6⟩ : ∃ b, decide (0 ≤ x5 ∧ x5 ≤ 99) = b := ⟨_, rfl⟩
  have hr : ckOne ⟨x0, x1, x2, x3, x4, x5⟩ = (b0 && (b1 && (b2 && (!b3 && (b4 && (b5 && (b6 && decide (¬ x5 = x0)))))))) := by
    simp only [ckOne]; rw [hb0, hb1, hb2, hb3, hb4, hb5, hb6]
  rw [hr]
  have Hb0 := Lib.hid hb0
  have Hb1 := Lib.hid hb1
  have Hb2 := Lib.hid hb2
  have Hb3 := Lib.hid hb3
  have Hb4 := Lib.hid hb4
  have Hb5 := Lib.hid hb5
  have Hb6 := Lib.hid hb6
  clear hr hb0 hb1 hb2 hb3 hb4 hb5 hb6
  cases b0
  · go_enter Try.func117, Try.ntmps117
    go_wp2_with (first | (go_at_call 112; refine (l1In_any _ _ _ _).mono ?_; (first | rw [Hb0.out] | rw [Hb2.out] | rw [Hb5.out] | rw [Hb6.out]); rintro e w' ⟨rfl, rfl⟩) | (go_at_call 122; refine (l2Word_any _ _ hs).mono ?_; rw [Hb1.out]; rintro e w' ⟨rfl, rfl⟩) | (go_at_call 139; refine (l11Both_any _ _).mono ?_; rw [Hb3.out]; rintro e w' ⟨rfl, rfl⟩) | (go_at_call 79; refine (l2Day_any _ _).mono ?_; rw [Hb4.out]; rintro e w' ⟨rfl, rfl⟩))
    go_ret
    exact ⟨rfl, below_al (Below.refl _ _) _⟩
  · cases b1
    · go_enter Try.func117, Try.ntmps117
      go_wp2_with (first | (go_at_call 112; refine (l1In_any _ _ _ _).mono ?_; (first | rw [Hb0.out] | rw [Hb2.out] | rw [Hb5.out] | rw [Hb6.out]); rintro e w' ⟨rfl, rfl⟩) | (go_at_call 122; refine (l2Word_any _ _ hs).mono ?_; rw [Hb1.out]; rintro e w' ⟨rfl, rfl⟩) | (go_at_call 139; refine (l11Both_any _ _).mono ?_; rw [Hb3.out]; rintro e w' ⟨rfl, rfl⟩) | (go_at_call 79; refine (l2Day_any _ _).mono ?_; rw [Hb4.out]; rintro e w' ⟨rfl, rfl⟩))
      go_ret
      exact ⟨rfl, below_al (Below.refl _ _) _⟩
    · cases b2
      · go_enter Try.func117, Try.ntmps117
        go_wp2_with (first | (go_at_call 112; refine (l1In_any _ _ _ _).mono ?_; (first | rw [Hb0.out] | rw [Hb2.out] | rw [Hb5.out] | rw [Hb6.out]); rintro e w' ⟨rfl, rfl⟩) | (go_at_call 122; refine (l2Word_any _ _ hs).mono ?_; rw [Hb1.out]; rintro e w' ⟨rfl, rfl⟩) | (go_at_call 139; refine (l11Both_any _ _).mono ?_; rw [Hb3.out]; rintro e w' ⟨rfl, rfl⟩) | (go_at_call 79; refine (l2Day_any _ _).mono ?_; rw [Hb4.out]; rintro e w' ⟨rfl, rfl⟩))
        go_ret
        exact ⟨rfl, below_al (Below.refl _ _) _⟩
      · cases b3
        · cases b4
          · go_enter Try.func117, Try.ntmps117
            go_wp2_with (first | (go_at_call 112; refine (l1In_any _ _ _ _).mono ?_; (first | rw [Hb0.out] | rw [Hb2.out] | rw [Hb5.out] | rw [Hb6.out]); rintro e w' ⟨rfl, rfl⟩) | (go_at_call 122; refine (l2Word_any _ _ hs).mono ?_; rw [Hb1.out]; rintro e w' ⟨rfl, rfl⟩) | (go_at_call 139; refine (l11Both_any _ _).mono ?_; rw [Hb3.out]; rintro e w' ⟨rfl, rfl⟩) | (go_at_call 79; refine (l2Day_any _ _).mono ?_; rw [Hb4.out]; rintro e w' ⟨rfl, rfl⟩))
            go_ret
            exact ⟨rfl, below_al (Below.refl _ _) _⟩
          · cases b5
            · go_enter Try.func117, Try.ntmps117
              go_wp2_with (first | (go_at_call 112; refine (l1In_any _ _ _ _).mono ?_; (first | rw [Hb0.out] | rw [Hb2.out] | rw [Hb5.out] | rw [Hb6.out]); rintro e w' ⟨rfl, rfl⟩) | (go_at_call 122; refine (l2Word_any _ _ hs).mono ?_; rw [Hb1.out]; rintro e w' ⟨rfl, rfl⟩) | (go_at_call 139; refine (l11Both_any _ _).mono ?_; rw [Hb3.out]; rintro e w' ⟨rfl, rfl⟩) | (go_at_call 79; refine (l2Day_any _ _).mono ?_; rw [Hb4.out]; rintro e w' ⟨rfl, rfl⟩))
              go_ret
              exact ⟨rfl, below_al (Below.refl _ _) _⟩
            · cases b6
              · go_enter Try.func117, Try.ntmps117
                go_wp2_with (first | (go_at_call 112; refine (l1In_any _ _ _ _).mono ?_; (first | rw [Hb0.out] | rw [Hb2.out] | rw [Hb5.out] | rw [Hb6.out]); rintro e w' ⟨rfl, rfl⟩) | (go_at_call 122; refine (l2Word_any _ _ hs).mono ?_; rw [Hb1.out]; rintro e w' ⟨rfl, rfl⟩) | (go_at_call 139; refine (l11Both_any _ _).mono ?_; rw [Hb3.out]; rintro e w' ⟨rfl, rfl⟩) | (go_at_call 79; refine (l2Day_any _ _).mono ?_; rw [Hb4.out]; rintro e w' ⟨rfl, rfl⟩))
                go_ret
                exact ⟨rfl, below_al (Below.refl _ _) _⟩
              · by_cases z5 : x5 = x0
                · have e5 : (x5 != x0) = false := by simp [z5]
                  have Z5 := Lib.hid z5
                  clear z5
                  go_enter Try.func117, Try.ntmps117
                  go_wp2_with (first | (go_at_call 112; refine (l1In_any _ _ _ _).mono ?_; (first | rw [Hb0.out] | rw [Hb2.out] | rw [Hb5.out] | rw [Hb6.out]); rintro e w' ⟨rfl, rfl⟩) | (go_at_call 122; refine (l2Word_any _ _ hs).mono ?_; rw [Hb1.out]; rintro e w' ⟨rfl, rfl⟩) | (go_at_call 139; refine (l11Both_any _ _).mono ?_; rw [Hb3.out]; rintro e w' ⟨rfl, rfl⟩) | (go_at_call 79; refine (l2Day_any _ _).mono ?_; rw [Hb4.out]; rintro e w' ⟨rfl, rfl⟩))
                  go_ret
                  exact ⟨ret_bool (by have := Z5.out; simp [this]), below_al (Below.refl _ _) _⟩
                · have e5 : (x5 != x0) = true := by simp [z5]
                  have Z5 := Lib.hid z5
                  clear z5
                  go_enter Try.func117, Try.ntmps117
                  go_wp2_with (first | (go_at_call 112; refine (l1In_any _ _ _ _).mono ?_; (first | rw [Hb0.out] | rw [Hb2.out] | rw [Hb5.out] | rw [Hb6.out]); rintro e w' ⟨rfl, rfl⟩) | (go_at_call 122; refine (l2Word_any _ _ hs).mono ?_; rw [Hb1.out]; rintro e w' ⟨rfl, rfl⟩) | (go_at_call 139; refine (l11Both_any _ _).mono ?_; rw [Hb3.out]; rintro e w' ⟨rfl, rfl⟩) | (go_at_call 79; refine (l2Day_any _ _).mono ?_; rw [Hb4.out]; rintro e w' ⟨rfl, rfl⟩))
                  go_ret
                  exact ⟨ret_bool (by have := Z5.out; simp [this]), below_al (Below.refl _ _) _⟩
        · go_enter Try.func117, Try.ntmps117
          go_wp2_with (first | (go_at_call 112; refine (l1In_any _ _ _ _).mono ?_; (first | rw [Hb0.out] | rw [Hb2.out] | rw [Hb5.out] | rw [Hb6.out]); rintro e w' ⟨rfl, rfl⟩) | (go_at_call 122; refine (l2Word_any _ _ hs).mono ?_; rw [Hb1.out]; rintro e w' ⟨rfl, rfl⟩) | (go_at_call 139; refine (l11Both_any _ _).mono ?_; rw [Hb3.out]; rintro e w' ⟨rfl, rfl⟩) | (go_at_call 79; refine (l2Day_any _ _).mono ?_; rw [Hb4.out]; rintro e w' ⟨rfl, rfl⟩))
          go_ret
          exact ⟨rfl, below_al (Below.refl _ _) _⟩

theorem specIsClerk_any (x : Ck) (w : World) (hs : x.name.size ≤ maxLen) : Calls Try.prog 65 #[.agg #[.int .i64 x.id, .string x.name, .int .i64 x.rights, .int .i64 x.frm, .int .i64 x.til, .int .i64 x.stands]] w fun e w' => e = .returned (.bool (ckOne x)) ∧ Below w.heap.size w w' := by
  go_enter Try.func65, Try.ntmps65
  go_wp2_with (first | (go_at_call 117; refine (specCk_any x _ hs).mono ?_; rintro e w' ⟨rfl, hb'⟩))
  go_ret
  exact ⟨rfl, below_chain (below_al (Below.refl _ _) _) hb'⟩

theorem l11On_any (x : Ck) (d : Int) (w : World) : Calls Try.prog 138 #[.agg #[.int .i64 x.id, .string x.name, .int .i64 x.rights, .int .i64 x.frm, .int .i64 x.til, .int .i64 x.stands], .int .i64 d] w fun e w' => e = .returned (.bool (onC x d)) ∧ Below w.heap.size w w' := by
  obtain ⟨x0, x1, x2, x3, x4, x5⟩ := x
  simp only
  have hr : onC ⟨x0, x1, x2, x3, x4, x5⟩ d = decide (x3 ≤ d ∧ d ≤ x4) := rfl
  rw [hr]
  clear hr
  go_enter Try.func138, Try.ntmps138
  go_wp2_with (first | (go_at_call 112; refine (l1In_any _ _ _ _).mono ?_; rintro e w' ⟨rfl, rfl⟩))
  go_ret
  exact ⟨ret_bool (by first | rfl | simp), below_al (Below.refl _ _) _⟩

set_option maxHeartbeats 1000000 in
theorem l11Find_any (v : Value) (t : List Ck) (x : Int) (w : World) (h : RowR 6 rCk w v t) :
    Calls Try.prog 104 #[v, .int .i64 x] w fun e w' => e = .returned (.int .i64 (ckI t x)) ∧ Below w.heap.size w w' := by
  have hcap := h.cap
  obtain ⟨a1, c1, rfl, hl1, hm1, r1⟩ := h.cks
  have R1 := Lib.hid r1
  clear h r1
  unfold maxLen at hm1
  go_enter Try.func104, Try.ntmps104
  go_wp2_with fail
  go_loopw [5] (fun i wr => ∃ k : Nat, k ≤ t.length ∧ i = .int .i64 k ∧ Hid (∀ j, j < k → ¬ (t.getD j ckD).id = x) ∧ Below w.heap.size w wr) (fun i _ => t.length - (intOf i).toNat)
  case atStart => exact ⟨0, Nat.zero_le _, rfl, Lib.hid (fun j h => absurd h (Nat.not_lt_zero _)), Below.refl _ _⟩
  case round =>
    obtain ⟨k, hk, rfl, HN, hb⟩ := hrel
    by_cases hlt : k < t.length
    · obtain ⟨b1, o1, hb1, rfl, e1⟩ := R1.out.resolve_left (fun e => by rw [e] at hlt; simp at hlt)
      obtain ⟨⟨x0, x1, x2, x3, x4, x5⟩, hx⟩ : ∃ s, t.getD k ckD = s := ⟨_, rfl⟩
      obtain ⟨q0, q1, q2, q3, q4, q5, hok_x⟩ := e1 k hlt
      rw [hx] at q0 q1 q2 q3 q4 q5 hok_x
      simp only at q0 q1 q2 q3 q4 q5
      have f0 := cell_kept q0 hb
      have HX := Lib.hid hx
      have g0 : (0 : Int) ≤ (k : Int) := by omega
      have g1 : (k : Int) < (t.length : Int) := by omega
      clear q0 q1 q2 q3 q4 q5 hok_x e1 hx
      by_cases he : x0 = x
      · have de : (x0 == x) = true := by simp [he]
        have HF : Hid (ckI t x = (k : Int)) := Lib.hid (ckI_is hlt HN.out (by rw [HX.out]; exact he))
        clear he
        go_wp2_with fail
        go_ret
        exact ⟨ret_int HF.out.symm, hb⟩
      · have de : (x0 == x) = false := by simp [he]
        have HE := Lib.hid he
        clear he
        go_wp2_with fail
        go_roundw
        case rel =>
          refine ⟨k + 1, by omega, by go_num, Lib.hid (fun j hj => ?_), hb⟩
          rcases Nat.lt_or_ge j k with h' | h'
          · exact HN.out j h'
          · obtain rfl : j = k := by omega
            rw [HX.out]
            exact HE.out
        case measure => simp [intOf]; omega
    · have HF : Hid (ckI t x = -1) := Lib.hid (ckI_none (fun j hj => HN.out j (by omega)))
      go_wp2_with fail
      go_ret
      exact ⟨ret_int HF.out.symm, hb⟩

set_option maxRecDepth 20000 in
set_option maxHeartbeats 4000000 in
theorem l11Good_any (v : Value) (t : List Ck) (w : World) (h : RowR 6 rCk w v t) :
    Calls Try.prog 99 #[v] w fun e w' => e = .returned (.bool (areCk t)) ∧ Below w.heap.size w w' := by
  have hcap := h.cap
  have H := Lib.hid h
  obtain ⟨a1, c1, rfl, hl1, hm1, r1⟩ := h.cks
  have R1 := Lib.hid r1
  clear h r1
  unfold maxLen at hm1
  go_enter Try.func99, Try.ntmps99
  go_wp2_with fail
  go_loopw [3] (fun i wr => ∃ k : Nat, k ≤ t.length ∧ k ≤ 9 ∧ i = .int .i64 k ∧ Hid (upto (ckAtB t) k = true) ∧ Below w.heap.size w wr) (fun i _ => t.length - (intOf i).toNat)
  case atStart => exact ⟨0, Nat.zero_le _, Nat.zero_le _, rfl, Lib.hid (by simp [upto]), Below.refl _ _⟩
  case round =>
    obtain ⟨k, hk, hk16, rfl, HU, hb⟩ := hrel
    by_cases hlt : k < t.length ∧ k ≤ 8
    · obtain ⟨hlt, h15⟩ := hlt
      obtain ⟨b1, o1, hb1, rfl, e1⟩ := R1.out.resolve_left (fun e => by rw [e] at hlt; simp at hlt)
      obtain ⟨⟨x0, x1, x2, x3, x4, x5⟩, hx⟩ : ∃ s, t.getD k ckD = s := ⟨_, rfl⟩
      obtain ⟨q0, q1, q2, q3, q4, q5, hok_x⟩ := e1 k hlt
      rw [hx] at q0 q1 q2 q3 q4 q5 hok_x
      simp only at q0 q1 q2 q3 q4 q5
      have f0 := cell_kept q0 hb
      have f1 := cell_kept q1 hb
      have f2 := cell_kept q2 hb
      have f3 := cell_kept q3 hb
      have f4 := cell_kept q4 hb
      have f5 := cell_kept q5 hb
      have hts : x1.size ≤ maxLen := hok_x.2.1
      have HX := Lib.hid hx
      have HAT := Lib.hid (ckAt_iff (t := t) hx)
      have E1 := Lib.hid e1
      have g0 : (0 : Int) ≤ (k : Int) := by omega
      have g1 : (k : Int) < (t.length : Int) := by omega
      have g8 : (k : Int) ≤ 8 := by omega
      have hw := hb.size
      obtain ⟨bF, hbF⟩ : ∃ b, ckOne ⟨x0, x1, x2, x3, x4, x5⟩ = b := ⟨_, rfl⟩
      have HF := Lib.hid hbF
      have hcall : ∀ W : World, Calls Try.prog 117 #[.agg #[.int .i64 x0, .string x1, .int .i64 x2, .int .i64 x3, .int .i64 x4, .int .i64 x5]] W fun e w' => e = .returned (.bool bF) ∧ Below W.heap.size W w' := fun W => by
        have := specCk_any ⟨x0, x1, x2, x3, x4, x5⟩ W hts
        rwa [hbF] at this
      have HCALL := Lib.hid hcall
      clear q0 q1 q2 q3 q4 q5 hok_x e1 hx hbF hcall
      cases bF
      · have HNT : Hid (areCk t = false) := Lib.hid (notCk hlt (fun hc => by have := (HAT.out.1 hc).1; rw [HF.out] at this; cases this))
        go_wp2_with fail
        generalize hWE : wr.alloc (.cells #[.int .i64 x0, .string x1, .int .i64 x2, .int .i64 x3, .int .i64 x4, .int .i64 x5] 65 (0, 0)) = wE
        have bE : Below wr.heap.size wr wE := by rw [← hWE]; exact below_al (Below.refl _ _) _
        have z0 : wE.cell? ⟨wr.heap.size, 0, none⟩ = some (.int .i64 x0) := by rw [← hWE]; exact cell_new wr _ _ 0 rfl
        have z1 : wE.cell? ⟨wr.heap.size, 1, none⟩ = some (.string x1) := by rw [← hWE]; exact cell_new wr _ _ 1 rfl
        have z2 : wE.cell? ⟨wr.heap.size, 2, none⟩ = some (.int .i64 x2) := by rw [← hWE]; exact cell_new wr _ _ 2 rfl
        have z3 : wE.cell? ⟨wr.heap.size, 3, none⟩ = some (.int .i64 x3) := by rw [← hWE]; exact cell_new wr _ _ 3 rfl
        have z4 : wE.cell? ⟨wr.heap.size, 4, none⟩ = some (.int .i64 x4) := by rw [← hWE]; exact cell_new wr _ _ 4 rfl
        have z5 : wE.cell? ⟨wr.heap.size, 5, none⟩ = some (.int .i64 x5) := by rw [← hWE]; exact cell_new wr _ _ 5 rfl
        clear hWE
        have m0 := cell_regrown z0
        have m1 := cell_regrown z1
        have m2 := cell_regrown z2
        have m3 := cell_regrown z3
        have m4 := cell_regrown z4
        have m5 := cell_regrown z5
        have hc : ∀ d os, Calls Try.prog 117 #[.agg #[.int .i64 x0, .string x1, .int .i64 x2, .int .i64 x3, .int .i64 x4, .int .i64 x5]] (grow (redrawn wE d) os) fun e w'' => e = .returned (.bool false) ∧ ∃ p : Regrown, w'' = grow (redrawn wE p.d) p.os := fun d os => Calls.regrown_of (HCALL.out _)
        refine wp_region_quiet_below (by kernel_rfl) (by kernel_rfl) ?_
        repeat (go_big_quiet_step (first | exact hc _ _))
        refine wpQuiet_nil ?_
        intro _ hw'
        obtain ⟨⟨dq, osq⟩, hw''⟩ := hw'
        subst hw''
        have bq := below_regrown wE dq osq
        have y5 := cell_kept z5 bq
        generalize grow (redrawn wE dq) osq = w2 at bq y5 ⊢
        have b2 : Below w.heap.size w w2 := (hb.trans (bE.mono hw)).trans (bq.mono (Nat.le_trans hw bE.size))
        have s2 := b2.size
        clear m0 z0 m1 z1 m2 z2 m3 z3 m4 z4 m5 z5 bE bq hc
        go_wp2_with fail
        go_ret
        exact ⟨ret_bool HNT.out.symm, b2⟩
      · by_cases hk0 : k = 0
        · have dk : decide ((0 : Int) < (k : Int)) = false := decide_eq_false (by omega)
          have dk2 : decide (0 < k) = false := decide_eq_false (by omega)
          have HPV : Hid (prevCk t k < x0) := Lib.hid (by rw [hk0]; exact ck_first HF.out)
          clear hk0
          go_wp2_with fail
          generalize hWE : wr.alloc (.cells #[.int .i64 x0, .string x1, .int .i64 x2, .int .i64 x3, .int .i64 x4, .int .i64 x5] 65 (0, 0)) = wE
          have bE : Below wr.heap.size wr wE := by rw [← hWE]; exact below_al (Below.refl _ _) _
          have z0 : wE.cell? ⟨wr.heap.size, 0, none⟩ = some (.int .i64 x0) := by rw [← hWE]; exact cell_new wr _ _ 0 rfl
          have z1 : wE.cell? ⟨wr.heap.size, 1, none⟩ = some (.string x1) := by rw [← hWE]; exact cell_new wr _ _ 1 rfl
          have z2 : wE.cell? ⟨wr.heap.size, 2, none⟩ = some (.int .i64 x2) := by rw [← hWE]; exact cell_new wr _ _ 2 rfl
          have z3 : wE.cell? ⟨wr.heap.size, 3, none⟩ = some (.int .i64 x3) := by rw [← hWE]; exact cell_new wr _ _ 3 rfl
          have z4 : wE.cell? ⟨wr.heap.size, 4, none⟩ = some (.int .i64 x4) := by rw [← hWE]; exact cell_new wr _ _ 4 rfl
          have z5 : wE.cell? ⟨wr.heap.size, 5, none⟩ = some (.int .i64 x5) := by rw [← hWE]; exact cell_new wr _ _ 5 rfl
          clear hWE
          have m0 := cell_regrown z0
          have m1 := cell_regrown z1
          have m2 := cell_regrown z2
          have m3 := cell_regrown z3
          have m4 := cell_regrown z4
          have m5 := cell_regrown z5
          have hc : ∀ d os, Calls Try.prog 117 #[.agg #[.int .i64 x0, .string x1, .int .i64 x2, .int .i64 x3, .int .i64 x4, .int .i64 x5]] (grow (redrawn wE d) os) fun e w'' => e = .returned (.bool true) ∧ ∃ p : Regrown, w'' = grow (redrawn wE p.d) p.os := fun d os => Calls.regrown_of (HCALL.out _)
          refine wp_region_quiet_below (by kernel_rfl) (by kernel_rfl) ?_
          repeat (go_big_quiet_step (first | exact hc _ _))
          refine wpQuiet_nil ?_
          intro _ hw'
          obtain ⟨⟨dq, osq⟩, hw''⟩ := hw'
          subst hw''
          have bq := below_regrown wE dq osq
          have y5 := cell_kept z5 bq
          generalize grow (redrawn wE dq) osq = w2 at bq y5 ⊢
          have b2 : Below w.heap.size w w2 := (hb.trans (bE.mono hw)).trans (bq.mono (Nat.le_trans hw bE.size))
          have s2 := b2.size
          clear m0 z0 m1 z1 m2 z2 m3 z3 m4 z4 m5 z5 bE bq hc
          obtain ⟨hx5, hx05⟩ : 0 ≤ x5 ∧ ¬ x5 = x0 := ⟨(ckOne_iff.1 HF.out).2.2.2.2.2.2.1.1, (ckOne_iff.1 HF.out).2.2.2.2.2.2.2⟩
          by_cases hp5 : 0 < x5
          · have dp5 : decide (0 < x5) = true := decide_eq_true hp5
            by_cases hfl : ckF t x5 < t.length
            · obtain ⟨P, hP⟩ : ∃ P, ckF t x5 = P := ⟨_, rfl⟩
              rw [hP] at hfl
              have hid := ckF_hit (t := t) (id := x5) (by rw [hP]; exact hfl)
              rw [hP] at hid
              have hPk : ¬ P = k := fun e => by rw [e, HX.out] at hid; exact hx05 hid.symm
              have HFI : Hid (ckI t x5 = (P : Int)) := Lib.hid (by rw [ckI_yes (by rw [hP]; exact hfl), hP])
              obtain ⟨s5, hs5⟩ : ∃ s, (t.getD P ckD).stands = s := ⟨_, rfl⟩
              obtain ⟨_, _, _, _, _, p5, _⟩ := E1.out P hfl
              rw [hs5] at p5
              have gP0 : (0 : Int) ≤ (P : Int) := by omega
              have gP1 : (P : Int) < (t.length : Int) := by omega
              have dPn : decide ((P : Int) < 0) = false := decide_eq_false (by omega)
              have dPk : ((P : Int) == (k : Int)) = false := by simp; omega
              have dPk2 : (P == k) = false := by simp [hPk]
              have HP := Lib.hid hP
              have HS5 := Lib.hid hs5
              have HPFL := Lib.hid hfl
              clear hP hs5 hid hPk hfl hx05 hp5
              by_cases hs0 : s5 = 0
              · have ds0 : (s5 != 0) = false := by simp [hs0]
                have HUP : Hid (upto (ckAtB t) (k + 1) = true) := Lib.hid (upto_succ HU.out (HAT.out.2 ⟨HF.out, HPV.out, stOk_iff.2 (.inr ⟨by simp only; rw [HP.out]; exact HPFL.out, by simp only; rw [HP.out, HS5.out]; exact hs0⟩)⟩))
                clear hs0
                go_wp2_with (first | (go_at_call 104; refine (l11Find_any _ t x5 _ (H.out.below rCk_stable b2)).mono ?_; rw [HFI.out]; rintro e w3 ⟨rfl, b3⟩; have y5' := cell_kept y5 b3; replace b3 := b2.trans (b3.mono s2); have p5' := cell_kept p5 b3))
                go_roundw
                case rel => exact ⟨k + 1, by omega, by omega, by go_num, HUP, b3⟩
                case measure => simp [intOf]; omega
              · have ds0 : (s5 != 0) = true := by simp [hs0]
                have HNT : Hid (areCk t = false) := Lib.hid (notCk hlt (fun hc => by
                  rcases stOk_iff.1 (HAT.out.1 hc).2.2 with h1 | h1
                  · simp only at h1; rw [h1] at dp5; simp at dp5
                  · simp only at h1; rw [HP.out, HS5.out] at h1; exact hs0 h1.2))
                clear hs0
                go_wp2_with (first | (go_at_call 104; refine (l11Find_any _ t x5 _ (H.out.below rCk_stable b2)).mono ?_; rw [HFI.out]; rintro e w3 ⟨rfl, b3⟩; have y5' := cell_kept y5 b3; replace b3 := b2.trans (b3.mono s2); have p5' := cell_kept p5 b3))
                go_ret
                exact ⟨ret_bool HNT.out.symm, b3⟩
            · have HFI : Hid (ckI t x5 = -1) := Lib.hid (ckI_no hfl)
              have HNT : Hid (areCk t = false) := Lib.hid (notCk hlt (fun hc => by
                rcases stOk_iff.1 (HAT.out.1 hc).2.2 with h1 | h1
                · simp only at h1; rw [h1] at dp5; simp at dp5
                · exact hfl h1.1))
              clear hfl hx05 hp5
              go_wp2_with (first | (go_at_call 104; refine (l11Find_any _ t x5 _ (H.out.below rCk_stable b2)).mono ?_; rw [HFI.out]; rintro e w3 ⟨rfl, b3⟩; have y5' := cell_kept y5 b3; replace b3 := b2.trans (b3.mono s2)))
              go_ret
              exact ⟨ret_bool HNT.out.symm, b3⟩
          · have dp5 : decide (0 < x5) = false := decide_eq_false hp5
            obtain ⟨ci, hci⟩ : ∃ c, ckI t x5 = c := ⟨_, rfl⟩
            have HFI := Lib.hid hci
            have HUP : Hid (upto (ckAtB t) (k + 1) = true) := Lib.hid (upto_succ HU.out (HAT.out.2 ⟨HF.out, HPV.out, stOk_iff.2 (.inl (by simp only; omega))⟩))
            clear hci hx05 hp5 hx5
            go_wp2_with (first | (go_at_call 104; refine (l11Find_any _ t x5 _ (H.out.below rCk_stable b2)).mono ?_; rw [HFI.out]; rintro e w3 ⟨rfl, b3⟩; have y5' := cell_kept y5 b3; replace b3 := b2.trans (b3.mono s2)))
            go_roundw
            case rel => exact ⟨k + 1, by omega, by omega, by go_num, HUP, b3⟩
            case measure => simp [intOf]; omega
        · obtain ⟨L, hL⟩ : ∃ L, k = L + 1 := ⟨k - 1, by omega⟩
          have dk : decide ((0 : Int) < (k : Int)) = true := decide_eq_true (by omega)
          have dk2 : decide (0 < k) = true := decide_eq_true (by omega)
          have gl : (k : Int) - 1 = (L : Int) := by omega
          have gL0 : (0 : Int) ≤ (L : Int) := by omega
          have gL1 : (L : Int) < (t.length : Int) := by omega
          obtain ⟨pv, hpv⟩ : ∃ s, (t.getD L ckD).id = s := ⟨_, rfl⟩
          obtain ⟨pq0, _⟩ := E1.out L (by omega)
          rw [hpv] at pq0
          have n0_ := cell_kept pq0 hb
          have HPE : Hid (prevCk t k = pv) := Lib.hid (by rw [hL]; exact hpv)
          clear pq0 hpv hk0 hL
          by_cases hyx : x0 ≤ pv
          · have dyx : decide (x0 ≤ pv) = true := decide_eq_true hyx
            have HNT : Hid (areCk t = false) := Lib.hid (notCk hlt (fun hc => by have := (HAT.out.1 hc).2.1; rw [HPE.out] at this; simp only at this; omega))
            clear hyx
            go_wp2_with fail
            generalize hWE : wr.alloc (.cells #[.int .i64 x0, .string x1, .int .i64 x2, .int .i64 x3, .int .i64 x4, .int .i64 x5] 65 (0, 0)) = wE
            have bE : Below wr.heap.size wr wE := by rw [← hWE]; exact below_al (Below.refl _ _) _
            have z0 : wE.cell? ⟨wr.heap.size, 0, none⟩ = some (.int .i64 x0) := by rw [← hWE]; exact cell_new wr _ _ 0 rfl
            have z1 : wE.cell? ⟨wr.heap.size, 1, none⟩ = some (.string x1) := by rw [← hWE]; exact cell_new wr _ _ 1 rfl
            have z2 : wE.cell? ⟨wr.heap.size, 2, none⟩ = some (.int .i64 x2) := by rw [← hWE]; exact cell_new wr _ _ 2 rfl
            have z3 : wE.cell? ⟨wr.heap.size, 3, none⟩ = some (.int .i64 x3) := by rw [← hWE]; exact cell_new wr _ _ 3 rfl
            have z4 : wE.cell? ⟨wr.heap.size, 4, none⟩ = some (.int .i64 x4) := by rw [← hWE]; exact cell_new wr _ _ 4 rfl
            have z5 : wE.cell? ⟨wr.heap.size, 5, none⟩ = some (.int .i64 x5) := by rw [← hWE]; exact cell_new wr _ _ 5 rfl
            clear hWE
            have m0 := cell_regrown z0
            have m1 := cell_regrown z1
            have m2 := cell_regrown z2
            have m3 := cell_regrown z3
            have m4 := cell_regrown z4
            have m5 := cell_regrown z5
            have n0 := cell_regrown (cell_kept n0_ bE)
            have hc : ∀ d os, Calls Try.prog 117 #[.agg #[.int .i64 x0, .string x1, .int .i64 x2, .int .i64 x3, .int .i64 x4, .int .i64 x5]] (grow (redrawn wE d) os) fun e w'' => e = .returned (.bool true) ∧ ∃ p : Regrown, w'' = grow (redrawn wE p.d) p.os := fun d os => Calls.regrown_of (HCALL.out _)
            refine wp_region_quiet_below (by kernel_rfl) (by kernel_rfl) ?_
            repeat (go_big_quiet_step (first | exact hc _ _))
            refine wpQuiet_nil ?_
            intro _ hw'
            obtain ⟨⟨dq, osq⟩, hw''⟩ := hw'
            subst hw''
            have bq := below_regrown wE dq osq
            have y5 := cell_kept z5 bq
            generalize grow (redrawn wE dq) osq = w2 at bq y5 ⊢
            have b2 : Below w.heap.size w w2 := (hb.trans (bE.mono hw)).trans (bq.mono (Nat.le_trans hw bE.size))
            have s2 := b2.size
            clear m0 z0 m1 z1 m2 z2 m3 z3 m4 z4 m5 z5 bE bq hc n0
            go_wp2_with fail
            go_ret
            exact ⟨ret_bool HNT.out.symm, b2⟩
          · have dyx : decide (x0 ≤ pv) = false := decide_eq_false hyx
            have HPV : Hid (prevCk t k < x0) := Lib.hid (by rw [HPE.out]; omega)
            clear hyx
            go_wp2_with fail
            generalize hWE : wr.alloc (.cells #[.int .i64 x0, .string x1, .int .i64 x2, .int .i64 x3, .int .i64 x4, .int .i64 x5] 65 (0, 0)) = wE
            have bE : Below wr.heap.size wr wE := by rw [← hWE]; exact below_al (Below.refl _ _) _
            have z0 : wE.cell? ⟨wr.heap.size, 0, none⟩ = some (.int .i64 x0) := by rw [← hWE]; exact cell_new wr _ _ 0 rfl
            have z1 : wE.cell? ⟨wr.heap.size, 1, none⟩ = some (.string x1) := by rw [← hWE]; exact cell_new wr _ _ 1 rfl
            have z2 : wE.cell? ⟨wr.heap.size, 2, none⟩ = some (.int .i64 x2) := by rw [← hWE]; exact cell_new wr _ _ 2 rfl
            have z3 : wE.cell? ⟨wr.heap.size, 3, none⟩ = some (.int .i64 x3) := by rw [← hWE]; exact cell_new wr _ _ 3 rfl
            have z4 : wE.cell? ⟨wr.heap.size, 4, none⟩ = some (.int .i64 x4) := by rw [← hWE]; exact cell_new wr _ _ 4 rfl
            have z5 : wE.cell? ⟨wr.heap.size, 5, none⟩ = some (.int .i64 x5) := by rw [← hWE]; exact cell_new wr _ _ 5 rfl
            clear hWE
            have m0 := cell_regrown z0
            have m1 := cell_regrown z1
            have m2 := cell_regrown z2
            have m3 := cell_regrown z3
            have m4 := cell_regrown z4
            have m5 := cell_regrown z5
            have n0 := cell_regrown (cell_kept n0_ bE)
            have hc : ∀ d os, Calls Try.prog 117 #[.agg #[.int .i64 x0, .string x1, .int .i64 x2, .int .i64 x3, .int .i64 x4, .int .i64 x5]] (grow (redrawn wE d) os) fun e w'' => e = .returned (.bool true) ∧ ∃ p : Regrown, w'' = grow (redrawn wE p.d) p.os := fun d os => Calls.regrown_of (HCALL.out _)
            refine wp_region_quiet_below (by kernel_rfl) (by kernel_rfl) ?_
            repeat (go_big_quiet_step (first | exact hc _ _))
            refine wpQuiet_nil ?_
            intro _ hw'
            obtain ⟨⟨dq, osq⟩, hw''⟩ := hw'
            subst hw''
            have bq := below_regrown wE dq osq
            have y5 := cell_kept z5 bq
            generalize grow (redrawn wE dq) osq = w2 at bq y5 ⊢
            have b2 : Below w.heap.size w w2 := (hb.trans (bE.mono hw)).trans (bq.mono (Nat.le_trans hw bE.size))
            have s2 := b2.size
            clear m0 z0 m1 z1 m2 z2 m3 z3 m4 z4 m5 z5 bE bq hc n0
            obtain ⟨hx5, hx05⟩ : 0 ≤ x5 ∧ ¬ x5 = x0 := ⟨(ckOne_iff.1 HF.out).2.2.2.2.2.2.1.1, (ckOne_iff.1 HF.out).2.2.2.2.2.2.2⟩
            by_cases hp5 : 0 < x5
            · have dp5 : decide (0 < x5) = true := decide_eq_true hp5
              by_cases hfl : ckF t x5 < t.length
              · obtain ⟨P, hP⟩ : ∃ P, ckF t x5 = P := ⟨_, rfl⟩
                rw [hP] at hfl
                have hid := ckF_hit (t := t) (id := x5) (by rw [hP]; exact hfl)
                rw [hP] at hid
                have hPk : ¬ P = k := fun e => by rw [e, HX.out] at hid; exact hx05 hid.symm
                have HFI : Hid (ckI t x5 = (P : Int)) := Lib.hid (by rw [ckI_yes (by rw [hP]; exact hfl), hP])
                obtain ⟨s5, hs5⟩ : ∃ s, (t.getD P ckD).stands = s := ⟨_, rfl⟩
                obtain ⟨_, _, _, _, _, p5, _⟩ := E1.out P hfl
                rw [hs5] at p5
                have gP0 : (0 : Int) ≤ (P : Int) := by omega
                have gP1 : (P : Int) < (t.length : Int) := by omega
                have dPn : decide ((P : Int) < 0) = false := decide_eq_false (by omega)
                have dPk : ((P : Int) == (k : Int)) = false := by simp; omega
                have dPk2 : (P == k) = false := by simp [hPk]
                have HP := Lib.hid hP
                have HS5 := Lib.hid hs5
                have HPFL := Lib.hid hfl
                clear hP hs5 hid hPk hfl hx05 hp5
                by_cases hs0 : s5 = 0
                · have ds0 : (s5 != 0) = false := by simp [hs0]
                  have HUP : Hid (upto (ckAtB t) (k + 1) = true) := Lib.hid (upto_succ HU.out (HAT.out.2 ⟨HF.out, HPV.out, stOk_iff.2 (.inr ⟨by simp only; rw [HP.out]; exact HPFL.out, by simp only; rw [HP.out, HS5.out]; exact hs0⟩)⟩))
                  clear hs0
                  go_wp2_with (first | (go_at_call 104; refine (l11Find_any _ t x5 _ (H.out.below rCk_stable b2)).mono ?_; rw [HFI.out]; rintro e w3 ⟨rfl, b3⟩; have y5' := cell_kept y5 b3; replace b3 := b2.trans (b3.mono s2); have p5' := cell_kept p5 b3))
                  go_roundw
                  case rel => exact ⟨k + 1, by omega, by omega, by go_num, HUP, b3⟩
                  case measure => simp [intOf]; omega
                · have ds0 : (s5 != 0) = true := by simp [hs0]
                  have HNT : Hid (areCk t = false) := Lib.hid (notCk hlt (fun hc => by
                    rcases stOk_iff.1 (HAT.out.1 hc).2.2 with h1 | h1
                    · simp only at h1; rw [h1] at dp5; simp at dp5
                    · simp only at h1; rw [HP.out, HS5.out] at h1; exact hs0 h1.2))
                  clear hs0
                  go_wp2_with (first | (go_at_call 104; refine (l11Find_any _ t x5 _ (H.out.below rCk_stable b2)).mono ?_; rw [HFI.out]; rintro e w3 ⟨rfl, b3⟩; have y5' := cell_kept y5 b3; replace b3 := b2.trans (b3.mono s2); have p5' := cell_kept p5 b3))
                  go_ret
                  exact ⟨ret_bool HNT.out.symm, b3⟩
              · have HFI : Hid (ckI t x5 = -1) := Lib.hid (ckI_no hfl)
                have HNT : Hid (areCk t = false) := Lib.hid (notCk hlt (fun hc => by
                  rcases stOk_iff.1 (HAT.out.1 hc).2.2 with h1 | h1
                  · simp only at h1; rw [h1] at dp5; simp at dp5
                  · exact hfl h1.1))
                clear hfl hx05 hp5
                go_wp2_with (first | (go_at_call 104; refine (l11Find_any _ t x5 _ (H.out.below rCk_stable b2)).mono ?_; rw [HFI.out]; rintro e w3 ⟨rfl, b3⟩; have y5' := cell_kept y5 b3; replace b3 := b2.trans (b3.mono s2)))
                go_ret
                exact ⟨ret_bool HNT.out.symm, b3⟩
            · have dp5 : decide (0 < x5) = false := decide_eq_false hp5
              obtain ⟨ci, hci⟩ : ∃ c, ckI t x5 = c := ⟨_, rfl⟩
              have HFI := Lib.hid hci
              have HUP : Hid (upto (ckAtB t) (k + 1) = true) := Lib.hid (upto_succ HU.out (HAT.out.2 ⟨HF.out, HPV.out, stOk_iff.2 (.inl (by simp only; omega))⟩))
              clear hci hx05 hp5 hx5
              go_wp2_with (first | (go_at_call 104; refine (l11Find_any _ t x5 _ (H.out.below rCk_stable b2)).mono ?_; rw [HFI.out]; rintro e w3 ⟨rfl, b3⟩; have y5' := cell_kept y5 b3; replace b3 := b2.trans (b3.mono s2)))
              go_roundw
              case rel => exact ⟨k + 1, by omega, by omega, by go_num, HUP, b3⟩
              case measure => simp [intOf]; omega
    · by_cases hl : t.length ≤ 8
      · obtain rfl : k = t.length := by omega
        have HS : Hid (areCk t = true) := Lib.hid (by rw [ck_upto HU.out]; exact decide_eq_true hl)
        have HNL := Lib.hid hlt
        clear hlt
        go_wp2
        go_ret
        exact ⟨ret_bool (by rw [HS.out]; simp; omega), hb⟩
      · obtain rfl : k = 9 := by omega
        have HS : Hid (areCk t = false) := Lib.hid (ck_long hl)
        have HL := Lib.hid hl
        have dl : decide ((t.length : Int) ≤ 8) = false := decide_eq_false (by omega)
        have HNL := Lib.hid hlt
        clear hl hlt
        go_wp2
        all_goals
          go_ret
          exact ⟨ret_bool HS.out.symm, hb⟩

theorem specAreCk_any (v : Value) (t : List Ck) (w : World) (h : RowR 6 rCk w v t) : Calls Try.prog 50 #[v] w fun e w' => e = .returned (.bool (areCk t)) ∧ Below w.heap.size w w' := by
  go_enter Try.func50, Try.ntmps50
  go_wp2_with (first | (go_at_call 99; refine (l11Good_any _ t _ h).mono ?_; rintro e w' ⟨rfl, hb'⟩))
  go_ret
  exact ⟨rfl, hb'⟩
end Go.Proofs.Ytalaegkfkjpmoaa
