/- Clerks, the program's: hasRights, excludeEachOther, isClerkId, isOnDuty, IsClerk, indexOfClerk and its closure, mayStandIn, AreClerks, placeOfClerk, rightsOf. -/
import Derived.Test.YtalaegkfkjpmoaaSlCk
import Derived.Test.YtalaegkfkjpmoaaWord
import Derived.Test.YtalaegkfkjpmoaaDayI
import Derived.Lib.QuietBelow
import Derived.BigQuiet
import Derived.WalkSmall
namespace Go.Proofs.Ytalaegkfkjpmoaa
set_option linter.unusedVariables false
open Go.RowKit Go.Sort

theorem below_drewC {n : Nat} {a b : World} (h : Below n a b) (k : Nat) : Below n a (b.drewN k) := ⟨h.os, h.tape, h.output, h.size, h.block⟩
theorem hasRights_any (r n : Int) (w : World) : Calls Try.prog 97 #[.int .i64 r, .int .i64 n] w fun e w' => e = .returned (.bool (hasR r n)) ∧ w' = w := by
  go_enter Try.func97, Try.ntmps97
  go_wp2_with fail
  go_ret
  exact ⟨ret_bool (by rw [Bool.eq_iff_iff]; simp [hasR]), rfl⟩
theorem excl_any (r : Int) (w : World) : Calls Try.prog 116 #[.int .i64 r] w fun e w' => e = .returned (.bool (hasR r 10)) ∧ w' = w := by
  go_enter Try.func116, Try.ntmps116
  go_wp2_with (first | (go_at_call 97; refine (hasRights_any _ _ _).mono ?_; rintro e w' ⟨rfl, rfl⟩))
  go_ret
  exact ⟨rfl, rfl⟩
theorem isClerkId_any (x : Int) (w : World) : Calls Try.prog 115 #[.int .i64 x] w fun e w' => e = .returned (.bool (decide (1 ≤ x ∧ x ≤ 99))) ∧ w' = w := by
  by_cases h1 : 1 ≤ x
  · by_cases h2 : x ≤ 99
    · go_enter Try.func115, Try.ntmps115
      go_wp2_with fail
      go_ret
      exact ⟨ret_bool (by first | (simp; done) | (simp; omega)), rfl⟩
    · go_enter Try.func115, Try.ntmps115
      go_wp2_with fail
      go_ret
      exact ⟨ret_bool (by first | (simp; done) | (simp; omega)), rfl⟩
  · go_enter Try.func115, Try.ntmps115
    go_wp2_with fail
    go_ret
    exact ⟨ret_bool (by first | (simp; done) | (simp; omega)), rfl⟩
theorem isOnDuty_any (x : Ck) (d : Int) (w : World) : Calls Try.prog 136 #[.agg #[.int .i64 x.id, .string x.name, .int .i64 x.rights, .int .i64 x.frm, .int .i64 x.til, .int .i64 x.stands], .int .i64 d] w fun e w' => e = .returned (.bool (onC x d)) ∧ Below w.heap.size w w' := by
  obtain ⟨x0, x1, x2, x3, x4, x5⟩ := x
  simp only
  have hr : onC ⟨x0, x1, x2, x3, x4, x5⟩ d = decide (x3 ≤ d ∧ d ≤ x4) := rfl
  rw [hr]
  clear hr
  by_cases h1 : x3 ≤ d
  · by_cases h2 : d ≤ x4
    · go_enter Try.func136, Try.ntmps136
      go_wp2_with fail
      go_ret
      exact ⟨ret_bool (by first | (simp; done) | (simp; omega)), below_al (Below.refl _ _) _⟩
    · go_enter Try.func136, Try.ntmps136
      go_wp2_with fail
      go_ret
      exact ⟨ret_bool (by first | (simp; done) | (simp; omega)), below_al (Below.refl _ _) _⟩
  · go_enter Try.func136, Try.ntmps136
    go_wp2_with fail
    go_ret
    exact ⟨ret_bool (by first | (simp; done) | (simp; omega)), below_al (Below.refl _ _) _⟩
set_option maxHeartbeats 4000000 in
theorem implCk_any (x : Ck) (w : World) (hs : x.name.size ≤ maxLen) : Calls Try.prog 64 #[.agg #[.int .i64 x.id, .string x.name, .int .i64 x.rights, .int .i64 x.frm, .int .i64 x.til, .int .i64 x.stands]] w fun e w' => e = .returned (.bool (ckOne x)) ∧ Below w.heap.size w w' := by
  obtain ⟨x0, x1, x2, x3, x4, x5⟩ := x
  simp only at hs
  simp only
  obtain ⟨b0, hb0⟩ : ∃ b, decide (1 ≤ x0 ∧ x0 ≤ 99) = b := ⟨_, rfl⟩
  obtain ⟨b1, hb1⟩ : ∃ b, isWord x1 = b := ⟨_, rfl⟩
  obtain ⟨b3, hb3⟩ : ∃ b, hasR x2 10 = b := ⟨_, rfl⟩
  obtain ⟨b4, hb4⟩ : ∃ b, decide (0 ≤ x3 ∧ x3 ≤ 20000) = b := ⟨_, rfl⟩
  obtain ⟨b5, hb5⟩ : ∃ b, decide (0 ≤ x4 ∧ x4 ≤ 20000) = b := ⟨_, rfl⟩
  obtain ⟨b6, hb6⟩ : ∃ b, decide (1 ≤ x5 ∧ x5 ≤ 99) = b := ⟨_, rfl⟩
  have hr : ckOne ⟨x0, x1, x2, x3, x4, x5⟩ = (b0 && (b1 && (decide (0 ≤ x2 ∧ x2 ≤ 15) && (!b3 && (b4 && (b5 && (decide (x3 ≤ x4) && ((decide (x5 = 0) || b6) && decide (¬ x5 = x0))))))))) := by
    rw [← hb0, ← hb1, ← hb3, ← hb4, ← hb5, ← hb6]
    rw [Bool.eq_iff_iff]
    simp only [ckOne, Bool.and_eq_true, Bool.or_eq_true, decide_eq_true_eq]
    constructor
    · rintro ⟨a0, a1, a2, a3, a4, a5, a6, a7⟩; exact ⟨a0, a1, a2, a3, by omega, a4, by omega, by omega, a7⟩
    · rintro ⟨a0, a1, a2, a3, a4, a5, a6, a7, a8⟩; exact ⟨a0, a1, a2, a3, a5, by omega, by omega, a8⟩
  rw [hr]
  have Hb0 := Lib.hid hb0
  have Hb1 := Lib.hid hb1
  have Hb3 := Lib.hid hb3
  have Hb4 := Lib.hid hb4
  have Hb5 := Lib.hid hb5
  have Hb6 := Lib.hid hb6
  clear hr hb0 hb1 hb3 hb4 hb5 hb6
  cases b0
  · go_enter Try.func64, Try.ntmps64
    go_wp2_with (first | (go_at_call 115; refine (isClerkId_any _ _).mono ?_; (first | rw [Hb0.out] | rw [Hb6.out]); rintro e w' ⟨rfl, rfl⟩) | (go_at_call 86; refine (implIsWord_any _ _ hs).mono ?_; rw [Hb1.out]; rintro e w' ⟨rfl, rfl⟩) | (go_at_call 116; refine (excl_any _ _).mono ?_; rw [Hb3.out]; rintro e w' ⟨rfl, rfl⟩) | (go_at_call 73; refine (isDay_any _ _).mono ?_; (first | rw [Hb4.out] | rw [Hb5.out]); rintro e w' ⟨rfl, rfl⟩))
    go_ret
    exact ⟨ret_bool (by first | (simp; done) | (simp; omega) | (rw [Bool.eq_iff_iff]; simp; omega)), below_al (Below.refl _ _) _⟩
  · cases b1
    · go_enter Try.func64, Try.ntmps64
      go_wp2_with (first | (go_at_call 115; refine (isClerkId_any _ _).mono ?_; (first | rw [Hb0.out] | rw [Hb6.out]); rintro e w' ⟨rfl, rfl⟩) | (go_at_call 86; refine (implIsWord_any _ _ hs).mono ?_; rw [Hb1.out]; rintro e w' ⟨rfl, rfl⟩) | (go_at_call 116; refine (excl_any _ _).mono ?_; rw [Hb3.out]; rintro e w' ⟨rfl, rfl⟩) | (go_at_call 73; refine (isDay_any _ _).mono ?_; (first | rw [Hb4.out] | rw [Hb5.out]); rintro e w' ⟨rfl, rfl⟩))
      go_ret
      exact ⟨ret_bool (by first | (simp; done) | (simp; omega) | (rw [Bool.eq_iff_iff]; simp; omega)), below_al (Below.refl _ _) _⟩
    · by_cases p2 : 0 ≤ x2
      · by_cases p3 : x2 ≤ 15
        · cases b3
          · cases b4
            · go_enter Try.func64, Try.ntmps64
              go_wp2_with (first | (go_at_call 115; refine (isClerkId_any _ _).mono ?_; (first | rw [Hb0.out] | rw [Hb6.out]); rintro e w' ⟨rfl, rfl⟩) | (go_at_call 86; refine (implIsWord_any _ _ hs).mono ?_; rw [Hb1.out]; rintro e w' ⟨rfl, rfl⟩) | (go_at_call 116; refine (excl_any _ _).mono ?_; rw [Hb3.out]; rintro e w' ⟨rfl, rfl⟩) | (go_at_call 73; refine (isDay_any _ _).mono ?_; (first | rw [Hb4.out] | rw [Hb5.out]); rintro e w' ⟨rfl, rfl⟩))
              go_ret
              exact ⟨ret_bool (by first | (simp; done) | (simp; omega) | (rw [Bool.eq_iff_iff]; simp; omega)), below_al (Below.refl _ _) _⟩
            · cases b5
              · go_enter Try.func64, Try.ntmps64
                go_wp2_with (first | (go_at_call 115; refine (isClerkId_any _ _).mono ?_; (first | rw [Hb0.out] | rw [Hb6.out]); rintro e w' ⟨rfl, rfl⟩) | (go_at_call 86; refine (implIsWord_any _ _ hs).mono ?_; rw [Hb1.out]; rintro e w' ⟨rfl, rfl⟩) | (go_at_call 116; refine (excl_any _ _).mono ?_; rw [Hb3.out]; rintro e w' ⟨rfl, rfl⟩) | (go_at_call 73; refine (isDay_any _ _).mono ?_; (first | rw [Hb4.out] | rw [Hb5.out]); rintro e w' ⟨rfl, rfl⟩))
                go_ret
                exact ⟨ret_bool (by first | (simp; done) | (simp; omega) | (rw [Bool.eq_iff_iff]; simp; omega)), below_al (Below.refl _ _) _⟩
              · by_cases p7 : x3 ≤ x4
                · by_cases z0 : x5 = 0
                  · have e0 : (x5 == 0) = true := by simp [z0]
                    have Z0 := Lib.hid z0
                    clear z0
                    by_cases z5 : x5 = x0
                    · have e5 : (x5 != x0) = false := by simp [z5]
                      have Z5 := Lib.hid z5
                      clear z5
                      go_enter Try.func64, Try.ntmps64
                      go_wp2_with (first | (go_at_call 115; refine (isClerkId_any _ _).mono ?_; (first | rw [Hb0.out] | rw [Hb6.out]); rintro e w' ⟨rfl, rfl⟩) | (go_at_call 86; refine (implIsWord_any _ _ hs).mono ?_; rw [Hb1.out]; rintro e w' ⟨rfl, rfl⟩) | (go_at_call 116; refine (excl_any _ _).mono ?_; rw [Hb3.out]; rintro e w' ⟨rfl, rfl⟩) | (go_at_call 73; refine (isDay_any _ _).mono ?_; (first | rw [Hb4.out] | rw [Hb5.out]); rintro e w' ⟨rfl, rfl⟩))
                      go_ret
                      have z5 := Z5.out
                      have z0 := Z0.out
                      exact ⟨ret_bool (by first | (simp; done) | (simp; omega) | (rw [Bool.eq_iff_iff]; simp; omega)), below_al (Below.refl _ _) _⟩
                    · have e5 : (x5 != x0) = true := by simp [z5]
                      have Z5 := Lib.hid z5
                      clear z5
                      go_enter Try.func64, Try.ntmps64
                      go_wp2_with (first | (go_at_call 115; refine (isClerkId_any _ _).mono ?_; (first | rw [Hb0.out] | rw [Hb6.out]); rintro e w' ⟨rfl, rfl⟩) | (go_at_call 86; refine (implIsWord_any _ _ hs).mono ?_; rw [Hb1.out]; rintro e w' ⟨rfl, rfl⟩) | (go_at_call 116; refine (excl_any _ _).mono ?_; rw [Hb3.out]; rintro e w' ⟨rfl, rfl⟩) | (go_at_call 73; refine (isDay_any _ _).mono ?_; (first | rw [Hb4.out] | rw [Hb5.out]); rintro e w' ⟨rfl, rfl⟩))
                      go_ret
                      have z5 := Z5.out
                      have z0 := Z0.out
                      exact ⟨ret_bool (by first | (simp; done) | (simp; omega) | (rw [Bool.eq_iff_iff]; simp; omega)), below_al (Below.refl _ _) _⟩
                  · have e0 : (x5 == 0) = false := by simp [z0]
                    have Z0 := Lib.hid z0
                    clear z0
                    cases b6
                    · go_enter Try.func64, Try.ntmps64
                      go_wp2_with (first | (go_at_call 115; refine (isClerkId_any _ _).mono ?_; (first | rw [Hb0.out] | rw [Hb6.out]); rintro e w' ⟨rfl, rfl⟩) | (go_at_call 86; refine (implIsWord_any _ _ hs).mono ?_; rw [Hb1.out]; rintro e w' ⟨rfl, rfl⟩) | (go_at_call 116; refine (excl_any _ _).mono ?_; rw [Hb3.out]; rintro e w' ⟨rfl, rfl⟩) | (go_at_call 73; refine (isDay_any _ _).mono ?_; (first | rw [Hb4.out] | rw [Hb5.out]); rintro e w' ⟨rfl, rfl⟩))
                      go_ret
                      have z0 := Z0.out
                      exact ⟨ret_bool (by first | (simp; done) | (simp; omega) | (rw [Bool.eq_iff_iff]; simp; omega)), below_al (Below.refl _ _) _⟩
                    · by_cases z5 : x5 = x0
                      · have e5 : (x5 != x0) = false := by simp [z5]
                        have Z5 := Lib.hid z5
                        clear z5
                        go_enter Try.func64, Try.ntmps64
                        go_wp2_with (first | (go_at_call 115; refine (isClerkId_any _ _).mono ?_; (first | rw [Hb0.out] | rw [Hb6.out]); rintro e w' ⟨rfl, rfl⟩) | (go_at_call 86; refine (implIsWord_any _ _ hs).mono ?_; rw [Hb1.out]; rintro e w' ⟨rfl, rfl⟩) | (go_at_call 116; refine (excl_any _ _).mono ?_; rw [Hb3.out]; rintro e w' ⟨rfl, rfl⟩) | (go_at_call 73; refine (isDay_any _ _).mono ?_; (first | rw [Hb4.out] | rw [Hb5.out]); rintro e w' ⟨rfl, rfl⟩))
                        go_ret
                        have z5 := Z5.out
                        have z0 := Z0.out
                        exact ⟨ret_bool (by first | (simp; done) | (simp; omega) | (rw [Bool.eq_iff_iff]; simp; omega)), below_al (Below.refl _ _) _⟩
                      · have e5 : (x5 != x0) = true := by simp [z5]
                        have Z5 := Lib.hid z5
                        clear z5
                        go_enter Try.func64, Try.ntmps64
                        go_wp2_with (first | (go_at_call 115; refine (isClerkId_any _ _).mono ?_; (first | rw [Hb0.out] | rw [Hb6.out]); rintro e w' ⟨rfl, rfl⟩) | (go_at_call 86; refine (implIsWord_any _ _ hs).mono ?_; rw [Hb1.out]; rintro e w' ⟨rfl, rfl⟩) | (go_at_call 116; refine (excl_any _ _).mono ?_; rw [Hb3.out]; rintro e w' ⟨rfl, rfl⟩) | (go_at_call 73; refine (isDay_any _ _).mono ?_; (first | rw [Hb4.out] | rw [Hb5.out]); rintro e w' ⟨rfl, rfl⟩))
                        go_ret
                        have z5 := Z5.out
                        have z0 := Z0.out
                        exact ⟨ret_bool (by first | (simp; done) | (simp; omega) | (rw [Bool.eq_iff_iff]; simp; omega)), below_al (Below.refl _ _) _⟩
                · go_enter Try.func64, Try.ntmps64
                  go_wp2_with (first | (go_at_call 115; refine (isClerkId_any _ _).mono ?_; (first | rw [Hb0.out] | rw [Hb6.out]); rintro e w' ⟨rfl, rfl⟩) | (go_at_call 86; refine (implIsWord_any _ _ hs).mono ?_; rw [Hb1.out]; rintro e w' ⟨rfl, rfl⟩) | (go_at_call 116; refine (excl_any _ _).mono ?_; rw [Hb3.out]; rintro e w' ⟨rfl, rfl⟩) | (go_at_call 73; refine (isDay_any _ _).mono ?_; (first | rw [Hb4.out] | rw [Hb5.out]); rintro e w' ⟨rfl, rfl⟩))
                  go_ret
                  exact ⟨ret_bool (by first | (simp; done) | (simp; omega) | (rw [Bool.eq_iff_iff]; simp; omega)), below_al (Below.refl _ _) _⟩
          · go_enter Try.func64, Try.ntmps64
            go_wp2_with (first | (go_at_call 115; refine (isClerkId_any _ _).mono ?_; (first | rw [Hb0.out] | rw [Hb6.out]); rintro e w' ⟨rfl, rfl⟩) | (go_at_call 86; refine (implIsWord_any _ _ hs).mono ?_; rw [Hb1.out]; rintro e w' ⟨rfl, rfl⟩) | (go_at_call 116; refine (excl_any _ _).mono ?_; rw [Hb3.out]; rintro e w' ⟨rfl, rfl⟩) | (go_at_call 73; refine (isDay_any _ _).mono ?_; (first | rw [Hb4.out] | rw [Hb5.out]); rintro e w' ⟨rfl, rfl⟩))
            go_ret
            exact ⟨ret_bool (by first | (simp; done) | (simp; omega) | (rw [Bool.eq_iff_iff]; simp; omega)), below_al (Below.refl _ _) _⟩
        · go_enter Try.func64, Try.ntmps64
          go_wp2_with (first | (go_at_call 115; refine (isClerkId_any _ _).mono ?_; (first | rw [Hb0.out] | rw [Hb6.out]); rintro e w' ⟨rfl, rfl⟩) | (go_at_call 86; refine (implIsWord_any _ _ hs).mono ?_; rw [Hb1.out]; rintro e w' ⟨rfl, rfl⟩) | (go_at_call 116; refine (excl_any _ _).mono ?_; rw [Hb3.out]; rintro e w' ⟨rfl, rfl⟩) | (go_at_call 73; refine (isDay_any _ _).mono ?_; (first | rw [Hb4.out] | rw [Hb5.out]); rintro e w' ⟨rfl, rfl⟩))
          go_ret
          exact ⟨ret_bool (by first | (simp; done) | (simp; omega) | (rw [Bool.eq_iff_iff]; simp; omega)), below_al (Below.refl _ _) _⟩
      · go_enter Try.func64, Try.ntmps64
        go_wp2_with (first | (go_at_call 115; refine (isClerkId_any _ _).mono ?_; (first | rw [Hb0.out] | rw [Hb6.out]); rintro e w' ⟨rfl, rfl⟩) | (go_at_call 86; refine (implIsWord_any _ _ hs).mono ?_; rw [Hb1.out]; rintro e w' ⟨rfl, rfl⟩) | (go_at_call 116; refine (excl_any _ _).mono ?_; rw [Hb3.out]; rintro e w' ⟨rfl, rfl⟩) | (go_at_call 73; refine (isDay_any _ _).mono ?_; (first | rw [Hb4.out] | rw [Hb5.out]); rintro e w' ⟨rfl, rfl⟩))
        go_ret
        exact ⟨ret_bool (by first | (simp; done) | (simp; omega) | (rw [Bool.eq_iff_iff]; simp; omega)), below_al (Below.refl _ _) _⟩

theorem byCk_any (f : Ck) (x : Int) (B : Nat) (w : World) (hB : w.cell? ⟨B, 0, none⟩ = some (.int .i64 x)) :
    Calls Try.prog 148 #[.agg #[.int .i64 f.id, .string f.name, .int .i64 f.rights, .int .i64 f.frm, .int .i64 f.til, .int .i64 f.stands], .pointer (some ⟨B, 0, none⟩)] w fun e w' => e = .returned (.bool (decide (f.id = x))) ∧ Below w.heap.size w w' := by
  obtain ⟨x0, x1, x2, x3, x4, x5⟩ := f
  have hBa := fun o : Obj => below_al_cell hB o
  by_cases h : x0 = x
  · have hq : (x0 == x) = true := by simp [h]
    simp only [decide_eq_true h]
    clear h
    go_enter Try.func148, Try.ntmps148
    go_wp2
    go_ret
    exact ⟨rfl, below_al (Below.refl _ _) _⟩
  · have hq : (x0 == x) = false := by simp [h]
    simp only [decide_eq_false h]
    clear h
    go_enter Try.func148, Try.ntmps148
    go_wp2
    go_ret
    exact ⟨rfl, below_al (Below.refl _ _) _⟩
set_option maxHeartbeats 1000000 in
theorem indexCk_any (v : Value) (t : List Ck) (x : Int) (B : Nat) (w : World) (h : RowR 6 rCk w v t) (hB : w.cell? ⟨B, 0, none⟩ = some (.int .i64 x)) :
    Calls Try.prog 147 #[v, .func (.func 148) #[] #[.pointer (some ⟨B, 0, none⟩)]] w fun e w' => e = .returned (.int .i64 (ckI t x)) ∧ Below w.heap.size w w' := by
  have hcap := h.cap
  have H := Lib.hid h
  obtain ⟨a1, c1, rfl, hl1, hm1, r1⟩ := h.cks
  have R1 := Lib.hid r1
  clear h r1
  unfold maxLen at hm1
  go_enter Try.func147, Try.ntmps147
  go_wp2
  go_loopw [8] (fun i wr => ∃ k : Nat, k ≤ t.length ∧ i = .int .i64 k ∧ Hid (∀ j, j < k → ¬ (t.getD j ckD).id = x) ∧ Below w.heap.size w wr) (fun i _ => t.length - (intOf i).toNat)
  case atStart => exact ⟨0, Nat.zero_le _, rfl, Lib.hid (fun j h => absurd h (Nat.not_lt_zero _)), Below.refl _ _⟩
  case round =>
    obtain ⟨k, hk, rfl, HN, hb⟩ := hrel
    by_cases hlt : k < t.length
    · obtain ⟨b1, o1, hb1, rfl, e1⟩ := R1.out.resolve_left (fun e => by rw [e] at hlt; simp at hlt)
      obtain ⟨⟨x0, x1, x2, x3, x4, x5⟩, hx⟩ : ∃ s, t.getD k ckD = s := ⟨_, rfl⟩
      obtain ⟨q0, q1, q2, q3, q4, q5, hok_x⟩ := e1 k hlt
      rw [hx] at q0 q1 q2 q3 q4 q5 hok_x
      simp only at q0 q1 q2 q3 q4 q5
      have f0 := cell_kept q0 hb
      have f1 := cell_kept q1 hb
      have f2 := cell_kept q2 hb
      have f3 := cell_kept q3 hb
      have f4 := cell_kept q4 hb
      have f5 := cell_kept q5 hb
      have HX := Lib.hid hx
      have g0 : (0 : Int) ≤ (k : Int) := by omega
      have g1 : (k : Int) < (t.length : Int) := by omega
      have hBr := cell_kept hB hb
      have hsz := hb.size
      clear q0 q1 q2 q3 q4 q5 hok_x e1 hx
      have hcall := byCk_any ⟨x0, x1, x2, x3, x4, x5⟩ x B wr hBr
      obtain ⟨bq, hbq⟩ : ∃ b, decide (x0 = x) = b := ⟨_, rfl⟩
      simp only [hbq] at hcall
      have HBQ := Lib.hid hbq
      have HCALL := Lib.hid hcall
      clear hbq hcall hBr
      cases bq
      · go_wp2_with (first | (go_at_call 148; refine HCALL.out.mono ?_; rintro e w2 ⟨rfl, b2⟩))
        go_roundw
        case rel =>
          refine ⟨k + 1, by omega, by go_num, Lib.hid (fun j hj => ?_), hb.trans (b2.mono hsz)⟩
          rcases Nat.lt_or_ge j k with h' | h'
          · exact HN.out j h'
          · obtain rfl : j = k := by omega
            rw [HX.out]
            exact of_decide_eq_false HBQ.out
        case measure => simp [intOf]; omega
      · go_wp2_with (first | (go_at_call 148; refine HCALL.out.mono ?_; rintro e w2 ⟨rfl, b2⟩))
        go_ret
        exact ⟨ret_int (ckI_is hlt HN.out (by rw [HX.out]; exact of_decide_eq_true HBQ.out)).symm, hb.trans (b2.mono hsz)⟩
    · have hkt : k = t.length := by omega
      have HF : Hid (ckI t x = -1) := Lib.hid (ckI_none (fun j hj => HN.out j (by omega)))
      clear hkt
      go_wp2
      go_ret
      exact ⟨ret_int HF.out.symm, hb⟩
theorem indexOfClerk_any (v : Value) (t : List Ck) (x : Int) (w : World) (h : RowR 6 rCk w v t) :
    Calls Try.prog 137 #[v, .int .i64 x] w fun e w' => e = .returned (.int .i64 (ckI t x)) ∧ Below w.heap.size w w' := by
  have H := Lib.hid h
  clear h
  go_enter Try.func137, Try.ntmps137
  go_wp2_with (first | (go_at_call 147; refine (indexCk_any _ t x _ _ (H.out.below rCk_stable (below_al (Below.refl _ _) _)) (cell_new w _ _ 0 rfl)).mono ?_; rintro e w2 ⟨rfl, b2⟩))
  go_ret
  exact ⟨rfl, below_chain (below_al (Below.refl _ _) _) b2⟩

set_option maxHeartbeats 1000000 in
theorem mayStand_any (v : Value) (t : List Ck) (x : Ck) (w : World) (h : RowR 6 rCk w v t) :
    Calls Try.prog 106 #[v, .agg #[.int .i64 x.id, .string x.name, .int .i64 x.rights, .int .i64 x.frm, .int .i64 x.til, .int .i64 x.stands]] w fun e w' => e = .returned (.bool (stOk t x)) ∧ Below w.heap.size w w' := by
  have hcap := h.cap
  have H := Lib.hid h
  obtain ⟨a1, c1, rfl, hl1, hm1, r1⟩ := h.cks
  have R1 := Lib.hid r1
  clear h r1
  unfold maxLen at hm1
  obtain ⟨x0, x1, x2, x3, x4, x5⟩ := x
  simp only
  by_cases z0 : x5 = 0
  · have e0 : (x5 == 0) = true := by simp [z0]
    have HR : Hid (stOk t ⟨x0, x1, x2, x3, x4, x5⟩ = true) := Lib.hid (stOk_iff.2 (.inl z0))
    clear z0
    go_enter Try.func106, Try.ntmps106
    go_wp2_with fail
    go_ret
    exact ⟨ret_bool HR.out.symm, below_al (Below.refl _ _) _⟩
  · have e0 : (x5 == 0) = false := by simp [z0]
    have HZ := Lib.hid z0
    by_cases hfl : ckF t x5 < t.length
    · obtain ⟨P, hP⟩ : ∃ P, ckF t x5 = P := ⟨_, rfl⟩
      have HFI : Hid (ckI t x5 = (P : Int)) := Lib.hid (by rw [ckI_yes hfl, hP])
      rw [hP] at hfl
      obtain ⟨b1, o1, hb1, rfl, e1⟩ := R1.out.resolve_left (fun e => by rw [e] at hfl; simp at hfl)
      have gP0 : (0 : Int) ≤ (P : Int) := by omega
      have gP1 : (P : Int) < (t.length : Int) := by omega
      have dPn : decide ((P : Int) < 0) = false := decide_eq_false (by omega)
      have HP := Lib.hid hP
      have HPL := Lib.hid hfl
      obtain ⟨s5, hs5⟩ : ∃ s, (t.getD P ckD).stands = s := ⟨_, rfl⟩
      obtain ⟨_, _, _, _, _, p5, _⟩ := e1 P hfl
      rw [hs5] at p5
      have HS5 := Lib.hid hs5
      clear hP hs5 hfl e1 z0
      by_cases hs0 : s5 = 0
      · have ds0 : (s5 == 0) = true := by simp [hs0]
        have HR : Hid (stOk t ⟨x0, x1, x2, x3, x4, x5⟩ = true) := Lib.hid (stOk_iff.2 (.inr ⟨by simp only; rw [HP.out]; exact HPL.out, by simp only; rw [HP.out, HS5.out]; exact hs0⟩))
        clear hs0
        go_enter Try.func106, Try.ntmps106
        go_wp2_with (first | (go_at_call 137; refine (indexOfClerk_any _ t x5 _ (H.out.below rCk_stable (below_al (Below.refl _ _) _))).mono ?_; rw [HFI.out]; rintro e w3 ⟨rfl, b3⟩; replace b3 := below_chain (below_al (Below.refl w.heap.size w) _) b3; have p5' := cell_kept p5 b3))
        go_ret
        exact ⟨ret_bool HR.out.symm, b3⟩
      · have ds0 : (s5 == 0) = false := by simp [hs0]
        have HR : Hid (stOk t ⟨x0, x1, x2, x3, x4, x5⟩ = false) := Lib.hid (by
          rcases hh : stOk t ⟨x0, x1, x2, x3, x4, x5⟩ with _ | _
          · rfl
          · rcases stOk_iff.1 hh with h1 | h1
            · exact absurd h1 HZ.out
            · simp only at h1; rw [HP.out, HS5.out] at h1; exact absurd h1.2 hs0)
        clear hs0
        go_enter Try.func106, Try.ntmps106
        go_wp2_with (first | (go_at_call 137; refine (indexOfClerk_any _ t x5 _ (H.out.below rCk_stable (below_al (Below.refl _ _) _))).mono ?_; rw [HFI.out]; rintro e w3 ⟨rfl, b3⟩; replace b3 := below_chain (below_al (Below.refl w.heap.size w) _) b3; have p5' := cell_kept p5 b3))
        go_ret
        exact ⟨ret_bool HR.out.symm, b3⟩
    · have HFI : Hid (ckI t x5 = -1) := Lib.hid (ckI_no hfl)
      have HR : Hid (stOk t ⟨x0, x1, x2, x3, x4, x5⟩ = false) := Lib.hid (by
        rcases hh : stOk t ⟨x0, x1, x2, x3, x4, x5⟩ with _ | _
        · rfl
        · rcases stOk_iff.1 hh with h1 | h1
          · exact absurd h1 HZ.out
          · exact absurd h1.1 hfl)
      clear hfl z0
      go_enter Try.func106, Try.ntmps106
      go_wp2_with (first | (go_at_call 137; refine (indexOfClerk_any _ t x5 _ (H.out.below rCk_stable (below_al (Below.refl _ _) _))).mono ?_; rw [HFI.out]; rintro e w3 ⟨rfl, b3⟩; replace b3 := below_chain (below_al (Below.refl w.heap.size w) _) b3))
      go_ret
      exact ⟨ret_bool HR.out.symm, b3⟩

set_option maxRecDepth 20000 in
set_option maxHeartbeats 4000000 in
theorem implAreCk_any (v : Value) (t : List Ck) (w : World) (h : RowR 6 rCk w v t) :
    Calls Try.prog 49 #[v] w fun e w' => e = .returned (.bool (areCk t)) ∧ Below w.heap.size w w' := by
  have hcap := h.cap
  have H := Lib.hid h
  obtain ⟨a1, c1, rfl, hl1, hm1, r1⟩ := h.cks
  have R1 := Lib.hid r1
  clear h r1
  unfold maxLen at hm1
  by_cases hL : 8 < t.length
  · have gL : (8 : Int) < t.length := by omega
    go_enter Try.func49, Try.ntmps49
    go_wp2_with fail
    go_ret
    exact ⟨ret_bool (Eq.symm (ck_long (by omega))), Below.refl _ _⟩
  · have gL : (t.length : Int) ≤ 8 := by omega
    have HL := Lib.hid hL
    clear hL
    go_enter Try.func49, Try.ntmps49
    go_wp2_with fail
    go_loopw [3, 11] (fun b i wr => ∃ (k : Nat) (pk : Int), k ≤ t.length ∧ i = .int .i64 k ∧ b = .int .i64 pk ∧ Hid (prevCk t k = pk) ∧ Hid (upto (ckAtB t) k = true) ∧ Below w.heap.size w wr) (fun _ i _ => t.length - (intOf i).toNat)
    case atStart => exact ⟨0, 0, Nat.zero_le _, rfl, rfl, Lib.hid rfl, Lib.hid (by simp [upto]), Below.refl _ _⟩
    case round =>
      obtain ⟨k, pk, hk, rfl, rfl, HP, HU, hb⟩ := hrel
      by_cases hlt : k < t.length
      · obtain ⟨b1, o1, hb1, rfl, e1⟩ := R1.out.resolve_left (fun e => by rw [e] at hlt; simp at hlt)
        obtain ⟨⟨x0, x1, x2, x3, x4, x5⟩, hx⟩ : ∃ s, t.getD k ckD = s := ⟨_, rfl⟩
        obtain ⟨q0, q1, q2, q3, q4, q5, hok_x⟩ := e1 k hlt
        rw [hx] at q0 q1 q2 q3 q4 q5 hok_x
        simp only at q0 q1 q2 q3 q4 q5
        have f0 := cell_kept q0 hb
        have f1 := cell_kept q1 hb
        have f2 := cell_kept q2 hb
        have f3 := cell_kept q3 hb
        have f4 := cell_kept q4 hb
        have f5 := cell_kept q5 hb
        have hts : x1.size ≤ maxLen := hok_x.2.1
        have HX := Lib.hid hx
        have HAT := Lib.hid (ckAt_iff (t := t) hx)
        have g0 : (0 : Int) ≤ (k : Int) := by omega
        have g1 : (k : Int) < (t.length : Int) := by omega
        have hw := hb.size
        obtain ⟨bF, hbF⟩ : ∃ b, ckOne ⟨x0, x1, x2, x3, x4, x5⟩ = b := ⟨_, rfl⟩
        obtain ⟨bT, hbT⟩ : ∃ b, stOk t ⟨x0, x1, x2, x3, x4, x5⟩ = b := ⟨_, rfl⟩
        have hcall : ∀ W : World, Calls Try.prog 64 #[.agg #[.int .i64 x0, .string x1, .int .i64 x2, .int .i64 x3, .int .i64 x4, .int .i64 x5]] W fun e w' => e = .returned (.bool bF) ∧ Below W.heap.size W w' := fun W => by
          have := implCk_any ⟨x0, x1, x2, x3, x4, x5⟩ W hts
          rwa [hbF] at this
        have hfind : ∀ W : World, Below wr.heap.size wr W → Calls Try.prog 106 #[.slice (some ⟨b1, o1, none⟩) t.length c1, .agg #[.int .i64 x0, .string x1, .int .i64 x2, .int .i64 x3, .int .i64 x4, .int .i64 x5]] W fun e w' => e = .returned (.bool bT) ∧ Below W.heap.size W w' := fun W hW => by
          have := mayStand_any _ t ⟨x0, x1, x2, x3, x4, x5⟩ _ ((H.out.below rCk_stable hb).below rCk_stable hW)
          rwa [hbT] at this
        have HF := Lib.hid hbF
        have HT := Lib.hid hbT
        have HCALL := Lib.hid hcall
        have HFIND := Lib.hid hfind
        clear q0 q1 q2 q3 q4 q5 hok_x e1 hx hbF hbT hfind hcall
        cases bF
        · have HNT : Hid (areCk t = false) := Lib.hid (notCk hlt (fun hc => by have := (HAT.out.1 hc).1; rw [HF.out] at this; cases this))
          go_wp2_with (first | (go_at_call 64; refine (HCALL.out _).mono ?_; rintro e w2 ⟨rfl, b2⟩; have y0 := cell_kept (cell_new wr _ _ 0 rfl) b2; have y1 := cell_kept (cell_new wr _ _ 1 rfl) b2; have y2 := cell_kept (cell_new wr _ _ 2 rfl) b2; have y3 := cell_kept (cell_new wr _ _ 3 rfl) b2; have y4 := cell_kept (cell_new wr _ _ 4 rfl) b2; have y5 := cell_kept (cell_new wr _ _ 5 rfl) b2; replace b2 := below_chain (below_al (Below.refl wr.heap.size wr) _) b2; have bL := b2))
          go_ret
          exact ⟨ret_bool HNT.out.symm, hb.trans (bL.mono hw)⟩
        · by_cases hP : x0 ≤ pk
          · have HNT : Hid (areCk t = false) := Lib.hid (notCk hlt (fun hc => by have := (HAT.out.1 hc).2.1; rw [HP.out] at this; simp only at this; omega))
            go_wp2_with (first | (go_at_call 64; refine (HCALL.out _).mono ?_; rintro e w2 ⟨rfl, b2⟩; have y0 := cell_kept (cell_new wr _ _ 0 rfl) b2; have y1 := cell_kept (cell_new wr _ _ 1 rfl) b2; have y2 := cell_kept (cell_new wr _ _ 2 rfl) b2; have y3 := cell_kept (cell_new wr _ _ 3 rfl) b2; have y4 := cell_kept (cell_new wr _ _ 4 rfl) b2; have y5 := cell_kept (cell_new wr _ _ 5 rfl) b2; replace b2 := below_chain (below_al (Below.refl wr.heap.size wr) _) b2; have bL := b2))
            go_ret
            exact ⟨ret_bool HNT.out.symm, hb.trans (bL.mono hw)⟩
          · have dP : decide (x0 ≤ pk) = false := decide_eq_false hP
            cases bT
            · have HNT : Hid (areCk t = false) := Lib.hid (notCk hlt (fun hc => by have := (HAT.out.1 hc).2.2; rw [HT.out] at this; cases this))
              go_wp2_with (first | (go_at_call 64; refine (HCALL.out _).mono ?_; rintro e w2 ⟨rfl, b2⟩; have y0 := cell_kept (cell_new wr _ _ 0 rfl) b2; have y1 := cell_kept (cell_new wr _ _ 1 rfl) b2; have y2 := cell_kept (cell_new wr _ _ 2 rfl) b2; have y3 := cell_kept (cell_new wr _ _ 3 rfl) b2; have y4 := cell_kept (cell_new wr _ _ 4 rfl) b2; have y5 := cell_kept (cell_new wr _ _ 5 rfl) b2; replace b2 := below_chain (below_al (Below.refl wr.heap.size wr) _) b2; have bL := b2) | (go_at_call 106; refine (HFIND.out _ b2).mono ?_; rintro e w3 ⟨rfl, b3⟩; replace y0 := cell_kept y0 b3; replace b3 := b2.trans (b3.mono b2.size); have bL := b3))
              go_ret
              exact ⟨ret_bool HNT.out.symm, hb.trans (bL.mono hw)⟩
            · have HUP : Hid (upto (ckAtB t) (k + 1) = true) := Lib.hid (upto_succ HU.out (HAT.out.2 ⟨HF.out, by rw [HP.out]; simp only; omega, HT.out⟩))
              go_wp2_with (first | (go_at_call 64; refine (HCALL.out _).mono ?_; rintro e w2 ⟨rfl, b2⟩; have y0 := cell_kept (cell_new wr _ _ 0 rfl) b2; have y1 := cell_kept (cell_new wr _ _ 1 rfl) b2; have y2 := cell_kept (cell_new wr _ _ 2 rfl) b2; have y3 := cell_kept (cell_new wr _ _ 3 rfl) b2; have y4 := cell_kept (cell_new wr _ _ 4 rfl) b2; have y5 := cell_kept (cell_new wr _ _ 5 rfl) b2; replace b2 := below_chain (below_al (Below.refl wr.heap.size wr) _) b2; have bL := b2) | (go_at_call 106; refine (HFIND.out _ b2).mono ?_; rintro e w3 ⟨rfl, b3⟩; replace y0 := cell_kept y0 b3; replace b3 := b2.trans (b3.mono b2.size); have bL := b3))
              go_roundw
              case rel => exact ⟨k + 1, x0, by omega, by go_num, rfl, Lib.hid (by rw [prevCk, HX.out]), HUP, hb.trans (bL.mono hw)⟩
              case measure => simp [intOf]; omega
      · have hkt : k = t.length := by omega
        have HT : Hid (areCk t = true) := Lib.hid (by rw [ck_upto (by have := HU.out; rw [hkt] at this; exact this)]; exact decide_eq_true (by have := HL.out; omega))
        clear hkt
        go_wp2_with fail
        go_ret
        exact ⟨ret_bool HT.out.symm, hb⟩

theorem placeCk_bad (v : Value) (t : List Ck) (x : Int) (w : World) (h : RowR 6 rCk w v t) (ht : areCk t = false) :
    Calls Try.prog 102 #[v, .int .i64 x] w fun e w' => e = .returned (.tuple #[.int .i64 0, .bool false]) ∧ Below w.heap.size w w' := by
  have H := Lib.hid h
  have HT := Lib.hid ht
  clear h ht
  go_enter Try.func102, Try.ntmps102
  go_wp2_with (first | (go_at_call 49; refine (implAreCk_any _ t _ H.out).mono ?_; rw [HT.out]; rintro e w1 ⟨rfl, b1⟩))
  go_ret2
  exact ⟨rfl, b1⟩
theorem placeCk_no (v : Value) (t : List Ck) (x : Int) (w : World) (h : RowR 6 rCk w v t) (ht : areCk t = true) (hf : ¬ ckF t x < t.length) :
    Calls Try.prog 102 #[v, .int .i64 x] w fun e w' => e = .returned (.tuple #[.int .i64 (-1), .bool false]) ∧ Below w.heap.size w w' := by
  have H := Lib.hid h
  have HT := Lib.hid ht
  have HC : Hid (ckI t x = -1) := Lib.hid (ckI_no hf)
  clear h ht hf
  go_enter Try.func102, Try.ntmps102
  go_wp2_with (first | (go_at_call 49; refine (implAreCk_any _ t _ H.out).mono ?_; rw [HT.out]; rintro e w1 ⟨rfl, b1⟩) | (go_at_call 137; refine (indexOfClerk_any _ t x _ (H.out.below rCk_stable b1)).mono ?_; rw [HC.out]; rintro e w2 ⟨rfl, b2⟩))
  go_ret2
  exact ⟨rfl, below_chain b1 b2⟩
theorem placeCk_yes (v : Value) (t : List Ck) (x : Int) (w : World) (h : RowR 6 rCk w v t) (ht : areCk t = true) (P : Nat) (hf : P < t.length) (hP : ckF t x = P) :
    Calls Try.prog 102 #[v, .int .i64 x] w fun e w' => e = .returned (.tuple #[.int .i64 P, .bool true]) ∧ Below w.heap.size w w' := by
  have H := Lib.hid h
  have HT := Lib.hid ht
  have HC : Hid (ckI t x = (P : Int)) := Lib.hid (by rw [ckI_yes (by omega), hP])
  have gP : (0 : Int) ≤ (P : Int) := by omega
  clear h ht hf hP
  go_enter Try.func102, Try.ntmps102
  go_wp2_with (first | (go_at_call 49; refine (implAreCk_any _ t _ H.out).mono ?_; rw [HT.out]; rintro e w1 ⟨rfl, b1⟩) | (go_at_call 137; refine (indexOfClerk_any _ t x _ (H.out.below rCk_stable b1)).mono ?_; rw [HC.out]; rintro e w2 ⟨rfl, b2⟩))
  go_ret2
  exact ⟨rfl, below_chain b1 b2⟩

set_option maxRecDepth 20000 in
set_option maxHeartbeats 2000000 in
theorem rightsOf_any (v : Value) (t : List Ck) (x : Ck) (d : Int) (w : World) (h : RowR 6 rCk w v t) :
    Calls Try.prog 98 #[v, .agg #[.int .i64 x.id, .string x.name, .int .i64 x.rights, .int .i64 x.frm, .int .i64 x.til, .int .i64 x.stands], .int .i64 d] w fun e w' => e = .returned (.int .i64 (rightsC t x d)) ∧ Below w.heap.size w w' := by
  have hcap := h.cap
  have H := Lib.hid h
  obtain ⟨a1, c1, rfl, hl1, hm1, r1⟩ := h.cks
  have R1 := Lib.hid r1
  clear h r1
  unfold maxLen at hm1
  obtain ⟨x0, x1, x2, x3, x4, x5⟩ := x
  simp only
  obtain ⟨bO, hbO⟩ : ∃ b, onC ⟨x0, x1, x2, x3, x4, x5⟩ d = b := ⟨_, rfl⟩
  have HO := Lib.hid hbO
  cases bO
  · have HR : Hid (rightsC t ⟨x0, x1, x2, x3, x4, x5⟩ d = 0) := Lib.hid (rights_off hbO)
    clear hbO
    go_enter Try.func98, Try.ntmps98
    go_wp2_with (first | (go_at_call 136; with_reducible refine (isOnDuty_any ⟨x0, x1, x2, x3, x4, x5⟩ d _).mono ?_; rw [HO.out]; rintro e w1 ⟨rfl, b1⟩; have c2 := cell_kept (cell_new w _ _ 2 rfl) b1; have c5 := cell_kept (cell_new w _ _ 5 rfl) b1; replace b1 := below_chain (below_al (Below.refl w.heap.size w) _) b1))
    go_ret
    exact ⟨ret_int HR.out.symm, b1⟩
  · by_cases hfl : ckF t x5 < t.length
    · have hflk := hfl
      obtain ⟨P, hP⟩ : ∃ P, ckF t x5 = P := ⟨_, rfl⟩
      have HFI : Hid (ckI t x5 = (P : Int)) := Lib.hid (by rw [ckI_yes hfl, hP])
      rw [hP] at hfl
      obtain ⟨b1, o1, hb1, rfl, e1⟩ := R1.out.resolve_left (fun e => by rw [e] at hfl; simp at hfl)
      have gP0 : (0 : Int) ≤ (P : Int) := by omega
      have gP1 : (P : Int) < (t.length : Int) := by omega
      have dPn : decide ((P : Int) < 0) = false := decide_eq_false (by omega)
      have HP := Lib.hid hP
      have HPL := Lib.hid hfl
      obtain ⟨⟨y0, y1, y2, y3, y4, y5⟩, hy⟩ : ∃ s, t.getD P ckD = s := ⟨_, rfl⟩
      obtain ⟨p0, p1, p2, p3, p4, p5, _⟩ := e1 P hfl
      rw [hy] at p0 p1 p2 p3 p4 p5
      simp only at p0 p1 p2 p3 p4 p5
      obtain ⟨bQ, hbQ⟩ : ∃ b, onC ⟨y0, y1, y2, y3, y4, y5⟩ d = b := ⟨_, rfl⟩
      have HQ := Lib.hid hbQ
      have hyk : t.getD (ckF t x5) ckD = ⟨y0, y1, y2, y3, y4, y5⟩ := by rw [hP]; exact hy
      cases bQ
      · obtain ⟨bE, hbE⟩ : ∃ b, hasR (bits .or .i64 x2 y2) 10 = b := ⟨_, rfl⟩
        have HE := Lib.hid hbE
        cases bE
        · have HR : Hid (rightsC t ⟨x0, x1, x2, x3, x4, x5⟩ d = bits .or .i64 x2 y2) := Lib.hid (by have := rights_both (t := t) (x := ⟨x0, x1, x2, x3, x4, x5⟩) hbO hflk (by simp only; rw [hyk]; exact hbQ) (by simp only; rw [hyk]; exact hbE); simp only at this; rw [this]; rw [hyk])
          clear hbO hbQ hyk hy hfl hflk hP e1 hbE
          go_enter Try.func98, Try.ntmps98
          go_wp2_with (first | (go_at_call 136; with_reducible refine (isOnDuty_any ⟨x0, x1, x2, x3, x4, x5⟩ d _).mono ?_; rw [HO.out]; rintro e w1 ⟨rfl, b1⟩; have c2 := cell_kept (cell_new w _ _ 2 rfl) b1; have c5 := cell_kept (cell_new w _ _ 5 rfl) b1; replace b1 := below_chain (below_al (Below.refl w.heap.size w) _) b1) | (go_at_call 137; refine (indexOfClerk_any _ t x5 _ (H.out.below rCk_stable b1)).mono ?_; rw [HFI.out]; rintro e w3 ⟨rfl, b3⟩; replace c2 := cell_kept c2 b3; replace b3 := b1.trans (b3.mono b1.size); have p0' := cell_kept p0 b3; have p1' := cell_kept p1 b3; have p2' := cell_kept p2 b3; have p3' := cell_kept p3 b3; have p4' := cell_kept p4 b3; have p5' := cell_kept p5 b3) | (go_at_call 136; with_reducible refine (isOnDuty_any ⟨y0, y1, y2, y3, y4, y5⟩ d _).mono ?_; rw [HQ.out]; rintro e w4 ⟨rfl, b4⟩; replace c2 := cell_kept c2 b4; have p2'' := cell_kept p2' b4; replace b4 := b3.trans (b4.mono b3.size)))
          go_quiet (fail)
          go_wp2_with (first | (go_at_call 116; refine (excl_any _ _).mono ?_; rw [HE.out]; rintro e w' ⟨rfl, rfl⟩))
          go_ret
          exact ⟨ret_int HR.out.symm, below_drewC b4 _⟩
        · have HR : Hid (rightsC t ⟨x0, x1, x2, x3, x4, x5⟩ d = x2) := Lib.hid (by have := rights_ex (t := t) (x := ⟨x0, x1, x2, x3, x4, x5⟩) hbO hflk (by simp only; rw [hyk]; exact hbQ) (by simp only; rw [hyk]; exact hbE); simp only at this; rw [this])
          clear hbO hbQ hyk hy hfl hflk hP e1 hbE
          go_enter Try.func98, Try.ntmps98
          go_wp2_with (first | (go_at_call 136; with_reducible refine (isOnDuty_any ⟨x0, x1, x2, x3, x4, x5⟩ d _).mono ?_; rw [HO.out]; rintro e w1 ⟨rfl, b1⟩; have c2 := cell_kept (cell_new w _ _ 2 rfl) b1; have c5 := cell_kept (cell_new w _ _ 5 rfl) b1; replace b1 := below_chain (below_al (Below.refl w.heap.size w) _) b1) | (go_at_call 137; refine (indexOfClerk_any _ t x5 _ (H.out.below rCk_stable b1)).mono ?_; rw [HFI.out]; rintro e w3 ⟨rfl, b3⟩; replace c2 := cell_kept c2 b3; replace b3 := b1.trans (b3.mono b1.size); have p0' := cell_kept p0 b3; have p1' := cell_kept p1 b3; have p2' := cell_kept p2 b3; have p3' := cell_kept p3 b3; have p4' := cell_kept p4 b3; have p5' := cell_kept p5 b3) | (go_at_call 136; with_reducible refine (isOnDuty_any ⟨y0, y1, y2, y3, y4, y5⟩ d _).mono ?_; rw [HQ.out]; rintro e w4 ⟨rfl, b4⟩; replace c2 := cell_kept c2 b4; have p2'' := cell_kept p2' b4; replace b4 := b3.trans (b4.mono b3.size)))
          go_quiet (fail)
          go_wp2_with (first | (go_at_call 116; refine (excl_any _ _).mono ?_; rw [HE.out]; rintro e w' ⟨rfl, rfl⟩))
          go_ret
          exact ⟨ret_int HR.out.symm, below_drewC b4 _⟩
      · have HR : Hid (rightsC t ⟨x0, x1, x2, x3, x4, x5⟩ d = x2) := Lib.hid (rights_own hbO (.inr (by simp only; rw [hyk]; exact hbQ)))
        clear hbO hbQ hyk hy hfl hflk hP e1
        go_enter Try.func98, Try.ntmps98
        go_wp2_with (first | (go_at_call 136; with_reducible refine (isOnDuty_any ⟨x0, x1, x2, x3, x4, x5⟩ d _).mono ?_; rw [HO.out]; rintro e w1 ⟨rfl, b1⟩; have c2 := cell_kept (cell_new w _ _ 2 rfl) b1; have c5 := cell_kept (cell_new w _ _ 5 rfl) b1; replace b1 := below_chain (below_al (Below.refl w.heap.size w) _) b1) | (go_at_call 137; refine (indexOfClerk_any _ t x5 _ (H.out.below rCk_stable b1)).mono ?_; rw [HFI.out]; rintro e w3 ⟨rfl, b3⟩; replace c2 := cell_kept c2 b3; replace b3 := b1.trans (b3.mono b1.size); have p0' := cell_kept p0 b3; have p1' := cell_kept p1 b3; have p2' := cell_kept p2 b3; have p3' := cell_kept p3 b3; have p4' := cell_kept p4 b3; have p5' := cell_kept p5 b3) | (go_at_call 136; with_reducible refine (isOnDuty_any ⟨y0, y1, y2, y3, y4, y5⟩ d _).mono ?_; rw [HQ.out]; rintro e w4 ⟨rfl, b4⟩; replace c2 := cell_kept c2 b4; have p2'' := cell_kept p2' b4; replace b4 := b3.trans (b4.mono b3.size)))
        go_ret
        exact ⟨ret_int HR.out.symm, b4⟩
    · have HFI : Hid (ckI t x5 = -1) := Lib.hid (ckI_no hfl)
      have HR : Hid (rightsC t ⟨x0, x1, x2, x3, x4, x5⟩ d = x2) := Lib.hid (rights_own hbO (.inl hfl))
      clear hbO hfl
      go_enter Try.func98, Try.ntmps98
      go_wp2_with (first | (go_at_call 136; with_reducible refine (isOnDuty_any ⟨x0, x1, x2, x3, x4, x5⟩ d _).mono ?_; rw [HO.out]; rintro e w1 ⟨rfl, b1⟩; have c2 := cell_kept (cell_new w _ _ 2 rfl) b1; have c5 := cell_kept (cell_new w _ _ 5 rfl) b1; replace b1 := below_chain (below_al (Below.refl w.heap.size w) _) b1) | (go_at_call 137; refine (indexOfClerk_any _ t x5 _ (H.out.below rCk_stable b1)).mono ?_; rw [HFI.out]; rintro e w3 ⟨rfl, b3⟩; replace c2 := cell_kept c2 b3; replace b3 := b1.trans (b3.mono b1.size)))
      go_ret
      exact ⟨ret_int HR.out.symm, b3⟩
end Go.Proofs.Ytalaegkfkjpmoaa
