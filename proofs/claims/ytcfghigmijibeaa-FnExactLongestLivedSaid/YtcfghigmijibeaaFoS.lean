/- Formats, the model's: where one lies, rising numbers, what a list of formats is. -/
import Derived.Test.YtcfghigmijibeaaTyFo
import Derived.Test.YtcfghigmijibeaaCells
import Derived.Test.YtcfghigmijibeaaL1In
import Derived.Test.YtcfghigmijibeaaDayI
import Derived.Test.YtcfghigmijibeaaWord
import Derived.Test.YtcfghigmijibeaaHas
import Derived.Test.YtcfghigmijibeaaBytesNe
import Derived.Lib.QuietBelow
import Derived.BigQuiet
import Derived.WalkSmall
namespace Go.Proofs.Ytcfghigmijibeaa
set_option linter.unusedVariables false
open Go.RowKit Go.Sort

theorem l7Find_any (v : Value) (t : List Fo) (x : Int) (w : World) (h : RowR 4 rFo w v t) :
    Calls Try.prog 57 #[v, .int .i64 x] w fun e w' => e = .returned (.int .i64 (foI t x)) ∧ w' = w := by
  have hcap := h.cap
  obtain ⟨a1, c1, rfl, hl1, hm1, r1⟩ := h.fos
  have R1 := Lib.hid r1
  clear h r1
  unfold maxLen at hm1
  go_enter Try.func57, Try.ntmps57
  go_wp2
  go_loop [5] (fun i => ∃ k : Nat, k ≤ t.length ∧ i = .int .i64 k ∧ Hid (∀ j, j < k → (t.getD j foD).id ≠ x)) (fun i => t.length - (intOf i).toNat)
  case atStart => exact ⟨0, Nat.zero_le _, rfl, Lib.hid (fun j h => absurd h (Nat.not_lt_zero _))⟩
  case round =>
    obtain ⟨k, hk, rfl, HN⟩ := hrel
    by_cases hlt : k < t.length
    · obtain ⟨b1, o1, hb1, rfl, e1⟩ := R1.out.resolve_left (fun e => by rw [e] at hlt; simp at hlt)
      obtain ⟨s, q0, q1, q2, q3, hr, hok⟩ := e1 k hlt
      obtain ⟨y, hy⟩ : ∃ y, (t.getD k foD).id = y := ⟨_, rfl⟩
      rw [hy] at q0
      have HY := Lib.hid hy
      have g0 : (0 : Int) ≤ (k : Int) := by omega
      have g1 : (k : Int) < (t.length : Int) := by omega
      clear q1 q2 q3 hr hok e1 hy
      by_cases he : y = x
      · have hq : (y == x) = true := by simp [he]
        have HE := Lib.hid he
        clear he
        go_wp2
        go_ret
        exact ⟨ret_int (Eq.symm (gIdx_is (d := foD) hlt (fun j hj => decide_eq_false (HN.out j hj)) (decide_eq_true (HY.out.trans HE.out)))), rfl⟩
      · have hq : (y == x) = false := by simp [he]
        have HE := Lib.hid he
        clear he
        go_wp2
        go_round
        case rel =>
          refine ⟨k + 1, by omega, by go_num, Lib.hid (fun j hj => ?_)⟩
          rcases Nat.lt_or_ge j k with h' | h'
          · exact HN.out j h'
          · obtain rfl : j = k := by omega
            rw [HY.out]; exact HE.out
        case measure => simp [intOf]; omega
    · have hkl : k = t.length := by omega
      have HE : Hid (foI t x = -1) := Lib.hid (gIdx_none (d := foD) (fun j hj => decide_eq_false (HN.out j (by omega))))
      clear hkl
      go_wp2
      go_ret
      exact ⟨ret_int HE.out.symm, rfl⟩

theorem notRis {lo hi : Int} {xs : List Int} {k : Nat} (hk : k < xs.length) (h : risAt lo hi xs k = false) : risB lo hi xs = false := by unfold risB; exact upto_false hk h

set_option maxHeartbeats 2000000 in
theorem l1Rising_any (v : Value) (xs : List Int) (lo hi : Int) (w : World) (h : RowOf vI w v xs) :
    Calls Try.prog 73 #[v, .int .i64 lo, .int .i64 hi] w fun e w' => e = .returned (.bool (risB lo hi xs)) ∧ Below w.heap.size w w' := by
  have hcap := h.cap
  obtain ⟨a1, c1, rfl, hl1, hm1, r1⟩ := h
  have R1 := Lib.hid r1
  clear r1
  unfold maxLen at hm1
  go_enter Try.func73, Try.ntmps73
  go_wp2
  go_loopw [7] (fun i wr => ∃ k : Nat, k ≤ xs.length ∧ i = .int .i64 k ∧ Hid (upto (risAt lo hi xs) k = true) ∧ Below w.heap.size w wr) (fun i _ => xs.length - (intOf i).toNat)
  case atStart => exact ⟨0, Nat.zero_le _, rfl, Lib.hid (by simp [upto]), Below.refl _ _⟩
  case round =>
    obtain ⟨k, hk, rfl, HU, hb⟩ := hrel
    have hw := hb.size
    by_cases hlt : k < xs.length
    · obtain ⟨b1, o1, hb1, rfl, e1⟩ := R1.out.resolve_left (fun e => by rw [e] at hlt; simp at hlt)
      obtain ⟨y, hy⟩ : ∃ s, xs.getD k 0 = s := ⟨_, rfl⟩
      have f1 := (hb.cell (p := ⟨b1, o1 + k, none⟩) hb1).trans (e1 k hlt)
      rw [← getI_lt hlt, hy] at f1
      simp only [vI] at f1
      have HY := Lib.hid hy
      have g0 : (0 : Int) ≤ (k : Int) := by omega
      have g1 : (k : Int) < (xs.length : Int) := by omega
      obtain ⟨bi, hbi⟩ : ∃ b, decide (lo ≤ y ∧ y ≤ hi) = b := ⟨_, rfl⟩
      have HBI := Lib.hid hbi
      have E1 := Lib.hid e1
      clear e1 hy hbi
      cases bi
      · have HNT : Hid (risB lo hi xs = false) := Lib.hid (notRis hlt (by unfold risAt; rw [HY.out, HBI.out]; rfl))
        go_wp2_with fail
        have m1 := cell_regrown f1
        have hc : ∀ d os, Calls Try.prog 71 #[.int .i64 y, .int .i64 lo, .int .i64 hi] (grow (redrawn wr d) os) fun e w'' => e = .returned (.bool false) ∧ ∃ p : Regrown, w'' = grow (redrawn wr p.d) p.os := fun d os => Calls.regrown_of ((l1In_any y lo hi _).mono (by rw [HBI.out]; rintro e w' ⟨rfl, rfl⟩; exact ⟨rfl, Below.refl _ _⟩))
        refine wp_region_quiet_below (by kernel_rfl) (by kernel_rfl) ?_
        repeat (go_big_quiet_step (first | exact hc _ _))
        refine wpQuiet_nil ?_
        intro _ hw'
        obtain ⟨⟨dq, osq⟩, hw''⟩ := hw'
        subst hw''
        have bq := below_regrown wr dq osq
        generalize grow (redrawn wr dq) osq = w2 at bq ⊢
        go_wp2
        go_ret
        exact ⟨ret_bool HNT.out.symm, hb.trans (bq.mono hw)⟩
      · rcases Nat.eq_zero_or_pos k with hk0 | hk0
        · have dk : decide ((0 : Int) < (k : Int)) = false := decide_eq_false (by omega)
          have dk2 : decide (0 < k) = false := decide_eq_false (by omega)
          have HAT : Hid (risAt lo hi xs k = true) := Lib.hid (by unfold risAt; rw [HY.out, HBI.out, decide_eq_true hk0]; rfl)
          clear hk0
          go_wp2_with fail
          have m1 := cell_regrown f1
          have hc : ∀ d os, Calls Try.prog 71 #[.int .i64 y, .int .i64 lo, .int .i64 hi] (grow (redrawn wr d) os) fun e w'' => e = .returned (.bool true) ∧ ∃ p : Regrown, w'' = grow (redrawn wr p.d) p.os := fun d os => Calls.regrown_of ((l1In_any y lo hi _).mono (by rw [HBI.out]; rintro e w' ⟨rfl, rfl⟩; exact ⟨rfl, Below.refl _ _⟩))
          refine wp_region_quiet_below (by kernel_rfl) (by kernel_rfl) ?_
          repeat (go_big_quiet_step (first | exact hc _ _))
          refine wpQuiet_nil ?_
          intro _ hw'
          obtain ⟨⟨dq, osq⟩, hw''⟩ := hw'
          subst hw''
          have bq := below_regrown wr dq osq
          generalize grow (redrawn wr dq) osq = w2 at bq ⊢
          go_wp2
          go_roundw
          case rel => exact ⟨k + 1, by omega, by go_num, Lib.hid (upto_succ HU.out HAT.out), hb.trans (bq.mono hw)⟩
          case measure => simp [intOf]; omega
        · obtain ⟨j, rfl⟩ : ∃ j, k = j + 1 := ⟨k - 1, by omega⟩
          obtain ⟨z, hz⟩ : ∃ s, xs.getD j 0 = s := ⟨_, rfl⟩
          have f2 := (hb.cell (p := ⟨b1, o1 + j, none⟩) hb1).trans (E1.out j (by omega))
          rw [← getI_lt (by omega), hz] at f2
          simp only [vI] at f2
          have HZ := Lib.hid hz
          have g2 : (j : Int) < (xs.length : Int) := by omega
          have g3 : (0 : Int) ≤ (j : Int) := by omega
          have g4 : (0 : Int) < (j : Int) + 1 := by omega
          clear hz hk0
          by_cases hP : y ≤ z
          · have HNT : Hid (risB lo hi xs = false) := Lib.hid (notRis hlt (by unfold risAt; rw [HY.out, HBI.out, show j + 1 - 1 = j by omega, HZ.out, decide_eq_false (by omega : ¬ j + 1 = 0), decide_eq_false (by omega : ¬ z < y)]; rfl))
            go_wp2_with fail
            have m1 := cell_regrown f1
            have m2 := cell_regrown f2
            have hc : ∀ d os, Calls Try.prog 71 #[.int .i64 y, .int .i64 lo, .int .i64 hi] (grow (redrawn wr d) os) fun e w'' => e = .returned (.bool true) ∧ ∃ p : Regrown, w'' = grow (redrawn wr p.d) p.os := fun d os => Calls.regrown_of ((l1In_any y lo hi _).mono (by rw [HBI.out]; rintro e w' ⟨rfl, rfl⟩; exact ⟨rfl, Below.refl _ _⟩))
            refine wp_region_quiet_below (by kernel_rfl) (by kernel_rfl) ?_
            repeat (go_big_quiet_step (first | exact hc _ _))
            refine wpQuiet_nil ?_
            intro _ hw'
            obtain ⟨⟨dq, osq⟩, hw''⟩ := hw'
            subst hw''
            have bq := below_regrown wr dq osq
            generalize grow (redrawn wr dq) osq = w2 at bq ⊢
            go_wp2
            go_ret
            exact ⟨ret_bool HNT.out.symm, hb.trans (bq.mono hw)⟩
          · have HAT : Hid (risAt lo hi xs (j + 1) = true) := Lib.hid (by unfold risAt; rw [HY.out, HBI.out, show j + 1 - 1 = j by omega, HZ.out, decide_eq_true (by omega : z < y)]; simp)
            have dP : decide (y ≤ z) = false := decide_eq_false hP
            go_wp2_with fail
            have m1 := cell_regrown f1
            have m2 := cell_regrown f2
            have hc : ∀ d os, Calls Try.prog 71 #[.int .i64 y, .int .i64 lo, .int .i64 hi] (grow (redrawn wr d) os) fun e w'' => e = .returned (.bool true) ∧ ∃ p : Regrown, w'' = grow (redrawn wr p.d) p.os := fun d os => Calls.regrown_of ((l1In_any y lo hi _).mono (by rw [HBI.out]; rintro e w' ⟨rfl, rfl⟩; exact ⟨rfl, Below.refl _ _⟩))
            refine wp_region_quiet_below (by kernel_rfl) (by kernel_rfl) ?_
            repeat (go_big_quiet_step (first | exact hc _ _))
            refine wpQuiet_nil ?_
            intro _ hw'
            obtain ⟨⟨dq, osq⟩, hw''⟩ := hw'
            subst hw''
            have bq := below_regrown wr dq osq
            generalize grow (redrawn wr dq) osq = w2 at bq ⊢
            go_wp2
            go_roundw
            case rel => exact ⟨j + 1 + 1, by omega, by go_num, Lib.hid (upto_succ HU.out HAT.out), hb.trans (bq.mono hw)⟩
            case measure => simp [intOf]; omega
    · have hkl : k = xs.length := by omega
      have HE : Hid (risB lo hi xs = true) := Lib.hid (by have := HU.out; rwa [hkl] at this)
      clear hkl
      go_wp2
      go_ret
      exact ⟨ret_bool HE.out.symm, hb⟩


set_option maxRecDepth 20000 in
set_option maxHeartbeats 8000000 in
theorem l7Good_any (v : Value) (t : List Fo) (w : World) (h : RowR 4 rFo w v t) :
    Calls Try.prog 45 #[v] w fun e w' => e = .returned (.bool (areFo t)) ∧ Below w.heap.size w w' := by
  have hcap := h.cap
  have HR := Lib.hid h
  obtain ⟨a1, c1, rfl, hl1, hm1, r1⟩ := h.fos
  have R1 := Lib.hid r1
  clear h r1
  unfold maxLen at hm1
  go_enter Try.func45, Try.ntmps45
  go_wp2
  go_loopw [3] (fun i wr => ∃ k : Nat, k ≤ t.length ∧ k ≤ 11 ∧ i = .int .i64 k ∧ Hid (upto (foAtB t) k = true) ∧ Below w.heap.size w wr) (fun i _ => t.length - (intOf i).toNat)
  case atStart => exact ⟨0, Nat.zero_le _, Nat.zero_le _, rfl, Lib.hid (by simp [upto]), Below.refl _ _⟩
  case round =>
    obtain ⟨k, hk, hk11, rfl, HU, hb⟩ := hrel
    obtain ⟨wo, hwo⟩ : ∃ x, x = wr := ⟨_, rfl⟩
    subst hwo
    by_cases hlt : k < t.length ∧ k ≤ 10
    · obtain ⟨hlt, h10⟩ := hlt
      obtain ⟨b1, o1, hb1, rfl, e1⟩ := R1.out.resolve_left (fun e => by rw [e] at hlt; simp at hlt)
      obtain ⟨⟨x0, x1, x2, x3⟩, hx⟩ : ∃ s, t.getD k foD = s := ⟨_, rfl⟩
      obtain ⟨s, q0, q1, q2, q3, hr, hok⟩ := e1 k hlt
      rw [hx] at q0 q1 q2 hr hok
      simp only at q0 q1 q2 hr
      have f0 := cell_kept q0 hb
      have f1 := cell_kept q1 hb
      have f2 := cell_kept q2 hb
      have f3 := cell_kept q3 hb
      have HS := Lib.hid (hr.below hb)
      obtain ⟨sa, sc, rfl, hsl, hsm, _⟩ := hr
      unfold maxLen at hsm
      have hts : x1.size ≤ maxLen := hok.2.1
      have HX := Lib.hid hx
      have E1 := Lib.hid e1
      have HAT := Lib.hid (foAt_iff hx)
      have g0 : (0 : Int) ≤ (k : Int) := by omega
      have g1 : (k : Int) < (t.length : Int) := by omega
      have hw := hb.size
      clear q0 q1 q2 q3 hok e1 hx
      obtain ⟨b1', hb1'⟩ : ∃ b, decide ((1 : Int) ≤ x0 ∧ x0 ≤ 50) = b := ⟨_, rfl⟩
      obtain ⟨b2', hb2'⟩ : ∃ b, isWord x1 = b := ⟨_, rfl⟩
      obtain ⟨b3', hb3'⟩ : ∃ b, decide ((0 : Int) ≤ x2 ∧ x2 ≤ 20000) = b := ⟨_, rfl⟩
      obtain ⟨b5', hb5'⟩ : ∃ b, risB 1 50 x3 = b := ⟨_, rfl⟩
      obtain ⟨b6', hb6'⟩ : ∃ b, decide (x0 ∈ x3) = b := ⟨_, rfl⟩
      have H1 := Lib.hid hb1'
      have H2 := Lib.hid hb2'
      have H3 := Lib.hid hb3'
      have H5 := Lib.hid hb5'
      have H6 := Lib.hid hb6'
      clear hb1' hb2' hb3' hb5' hb6'
      cases b1'
      · have HNT : Hid (areFo t = false) := Lib.hid (notFo hlt (by rw [Bool.eq_false_iff]; intro hc; have hh := HAT.out.1 hc; have := of_decide_eq_false H1.out; exact this hh.1.1))
        go_wp2_with fail
        generalize hWE : wo.alloc (.cells #[.int .i64 x0, .string x1, .int .i64 x2, .slice sa x3.length sc] 60 (0, 0)) = wE
        have bE : Below wo.heap.size wo wE := by rw [← hWE]; exact below_al (Below.refl _ _) _
        have z0 : wE.cell? ⟨wo.heap.size, 0, none⟩ = some (.int .i64 x0) := by rw [← hWE]; exact cell_new wo _ _ 0 rfl
        have z1 : wE.cell? ⟨wo.heap.size, 1, none⟩ = some (.string x1) := by rw [← hWE]; exact cell_new wo _ _ 1 rfl
        have z2 : wE.cell? ⟨wo.heap.size, 2, none⟩ = some (.int .i64 x2) := by rw [← hWE]; exact cell_new wo _ _ 2 rfl
        have z3 : wE.cell? ⟨wo.heap.size, 3, none⟩ = some (.slice sa x3.length sc) := by rw [← hWE]; exact cell_new wo _ _ 3 rfl
        clear hWE
        refine (l1In_any _ _ _ _).mono ?_
        rw [H1.out]
        rintro e w' ⟨rfl, rfl⟩
        go_wp2_with fail
        go_ret
        exact ⟨ret_bool HNT.out.symm, hb.trans (bE.mono hw)⟩
      · cases b2'
        · have HNT : Hid (areFo t = false) := Lib.hid (notFo hlt (by rw [Bool.eq_false_iff]; intro hc; have hh := HAT.out.1 hc; have := H2.out; rw [hh.1.2.1] at this; cases this))
          go_wp2_with fail
          generalize hWE : wo.alloc (.cells #[.int .i64 x0, .string x1, .int .i64 x2, .slice sa x3.length sc] 60 (0, 0)) = wE
          have bE : Below wo.heap.size wo wE := by rw [← hWE]; exact below_al (Below.refl _ _) _
          have z0 : wE.cell? ⟨wo.heap.size, 0, none⟩ = some (.int .i64 x0) := by rw [← hWE]; exact cell_new wo _ _ 0 rfl
          have z1 : wE.cell? ⟨wo.heap.size, 1, none⟩ = some (.string x1) := by rw [← hWE]; exact cell_new wo _ _ 1 rfl
          have z2 : wE.cell? ⟨wo.heap.size, 2, none⟩ = some (.int .i64 x2) := by rw [← hWE]; exact cell_new wo _ _ 2 rfl
          have z3 : wE.cell? ⟨wo.heap.size, 3, none⟩ = some (.slice sa x3.length sc) := by rw [← hWE]; exact cell_new wo _ _ 3 rfl
          clear hWE
          refine (l1In_any _ _ _ _).mono ?_
          rw [H1.out]
          rintro e w' ⟨rfl, rfl⟩
          go_wp2_with fail
          refine (l2Word_any _ _ hts).mono ?_
          rw [H2.out]
          rintro e w' ⟨rfl, rfl⟩
          go_wp2_with fail
          go_ret
          exact ⟨ret_bool HNT.out.symm, hb.trans (bE.mono hw)⟩
        · cases b3'
          · have HNT : Hid (areFo t = false) := Lib.hid (notFo hlt (by rw [Bool.eq_false_iff]; intro hc; have hh := HAT.out.1 hc; have := of_decide_eq_false H3.out; exact this hh.1.2.2.1))
            go_wp2_with fail
            generalize hWE : wo.alloc (.cells #[.int .i64 x0, .string x1, .int .i64 x2, .slice sa x3.length sc] 60 (0, 0)) = wE
            have bE : Below wo.heap.size wo wE := by rw [← hWE]; exact below_al (Below.refl _ _) _
            have z0 : wE.cell? ⟨wo.heap.size, 0, none⟩ = some (.int .i64 x0) := by rw [← hWE]; exact cell_new wo _ _ 0 rfl
            have z1 : wE.cell? ⟨wo.heap.size, 1, none⟩ = some (.string x1) := by rw [← hWE]; exact cell_new wo _ _ 1 rfl
            have z2 : wE.cell? ⟨wo.heap.size, 2, none⟩ = some (.int .i64 x2) := by rw [← hWE]; exact cell_new wo _ _ 2 rfl
            have z3 : wE.cell? ⟨wo.heap.size, 3, none⟩ = some (.slice sa x3.length sc) := by rw [← hWE]; exact cell_new wo _ _ 3 rfl
            clear hWE
            refine (l1In_any _ _ _ _).mono ?_
            rw [H1.out]
            rintro e w' ⟨rfl, rfl⟩
            go_wp2_with fail
            refine (l2Word_any _ _ hts).mono ?_
            rw [H2.out]
            rintro e w' ⟨rfl, rfl⟩
            go_wp2_with fail
            refine (l2Day_any _ _).mono ?_
            rw [H3.out]
            rintro e w' ⟨rfl, rfl⟩
            go_wp2_with fail
            go_ret
            exact ⟨ret_bool HNT.out.symm, hb.trans (bE.mono hw)⟩
          · by_cases h4 : 10 < x3.length
            · have HNT : Hid (areFo t = false) := Lib.hid (notFo hlt (by rw [Bool.eq_false_iff]; intro hc; have hh := HAT.out.1 hc; have := hh.1.2.2.2.1; first | omega | (simp only at this; omega)))
              have g4 : (10 : Int) < (x3.length : Int) := by omega
              go_wp2_with fail
              generalize hWE : wo.alloc (.cells #[.int .i64 x0, .string x1, .int .i64 x2, .slice sa x3.length sc] 60 (0, 0)) = wE
              have bE : Below wo.heap.size wo wE := by rw [← hWE]; exact below_al (Below.refl _ _) _
              have z0 : wE.cell? ⟨wo.heap.size, 0, none⟩ = some (.int .i64 x0) := by rw [← hWE]; exact cell_new wo _ _ 0 rfl
              have z1 : wE.cell? ⟨wo.heap.size, 1, none⟩ = some (.string x1) := by rw [← hWE]; exact cell_new wo _ _ 1 rfl
              have z2 : wE.cell? ⟨wo.heap.size, 2, none⟩ = some (.int .i64 x2) := by rw [← hWE]; exact cell_new wo _ _ 2 rfl
              have z3 : wE.cell? ⟨wo.heap.size, 3, none⟩ = some (.slice sa x3.length sc) := by rw [← hWE]; exact cell_new wo _ _ 3 rfl
              clear hWE
              refine (l1In_any _ _ _ _).mono ?_
              rw [H1.out]
              rintro e w' ⟨rfl, rfl⟩
              go_wp2_with fail
              refine (l2Word_any _ _ hts).mono ?_
              rw [H2.out]
              rintro e w' ⟨rfl, rfl⟩
              go_wp2_with fail
              refine (l2Day_any _ _).mono ?_
              rw [H3.out]
              rintro e w' ⟨rfl, rfl⟩
              go_wp2_with fail
              go_ret
              exact ⟨ret_bool HNT.out.symm, hb.trans (bE.mono hw)⟩
            · have g4 : (x3.length : Int) ≤ 10 := by omega
              have HL4 := Lib.hid h4
              clear h4
              cases b5'
              · have HNT : Hid (areFo t = false) := Lib.hid (notFo hlt (by rw [Bool.eq_false_iff]; intro hc; have hh := HAT.out.1 hc; have := H5.out; rw [hh.1.2.2.2.2] at this; cases this))
                go_wp2_with fail
                generalize hWE : wo.alloc (.cells #[.int .i64 x0, .string x1, .int .i64 x2, .slice sa x3.length sc] 60 (0, 0)) = wE
                have bE : Below wo.heap.size wo wE := by rw [← hWE]; exact below_al (Below.refl _ _) _
                have z0 : wE.cell? ⟨wo.heap.size, 0, none⟩ = some (.int .i64 x0) := by rw [← hWE]; exact cell_new wo _ _ 0 rfl
                have z1 : wE.cell? ⟨wo.heap.size, 1, none⟩ = some (.string x1) := by rw [← hWE]; exact cell_new wo _ _ 1 rfl
                have z2 : wE.cell? ⟨wo.heap.size, 2, none⟩ = some (.int .i64 x2) := by rw [← hWE]; exact cell_new wo _ _ 2 rfl
                have z3 : wE.cell? ⟨wo.heap.size, 3, none⟩ = some (.slice sa x3.length sc) := by rw [← hWE]; exact cell_new wo _ _ 3 rfl
                clear hWE
                refine (l1In_any _ _ _ _).mono ?_
                rw [H1.out]
                rintro e w' ⟨rfl, rfl⟩
                go_wp2_with fail
                refine (l2Word_any _ _ hts).mono ?_
                rw [H2.out]
                rintro e w' ⟨rfl, rfl⟩
                go_wp2_with fail
                refine (l2Day_any _ _).mono ?_
                rw [H3.out]
                rintro e w' ⟨rfl, rfl⟩
                go_wp2_with fail
                refine (l1Rising_any _ x3 _ _ _ (HS.out.below bE)).mono ?_
                rw [H5.out]
                rintro e w2 ⟨rfl, b2⟩
                go_wp2_with fail
                go_ret
                exact ⟨ret_bool HNT.out.symm, (hb.trans (bE.mono hw)).trans (b2.mono (Nat.le_trans hw bE.size))⟩
              · go_wp2_with fail
                generalize hWE : wo.alloc (.cells #[.int .i64 x0, .string x1, .int .i64 x2, .slice sa x3.length sc] 60 (0, 0)) = wE
                have bE : Below wo.heap.size wo wE := by rw [← hWE]; exact below_al (Below.refl _ _) _
                have z0 : wE.cell? ⟨wo.heap.size, 0, none⟩ = some (.int .i64 x0) := by rw [← hWE]; exact cell_new wo _ _ 0 rfl
                have z1 : wE.cell? ⟨wo.heap.size, 1, none⟩ = some (.string x1) := by rw [← hWE]; exact cell_new wo _ _ 1 rfl
                have z2 : wE.cell? ⟨wo.heap.size, 2, none⟩ = some (.int .i64 x2) := by rw [← hWE]; exact cell_new wo _ _ 2 rfl
                have z3 : wE.cell? ⟨wo.heap.size, 3, none⟩ = some (.slice sa x3.length sc) := by rw [← hWE]; exact cell_new wo _ _ 3 rfl
                clear hWE
                refine (l1In_any _ _ _ _).mono ?_
                rw [H1.out]
                rintro e w' ⟨rfl, rfl⟩
                go_wp2_with fail
                refine (l2Word_any _ _ hts).mono ?_
                rw [H2.out]
                rintro e w' ⟨rfl, rfl⟩
                go_wp2_with fail
                refine (l2Day_any _ _).mono ?_
                rw [H3.out]
                rintro e w' ⟨rfl, rfl⟩
                go_wp2_with fail
                refine (l1Rising_any _ x3 _ _ _ (HS.out.below bE)).mono ?_
                rw [H5.out]
                rintro e w2 ⟨rfl, b2⟩
                have y0 := cell_kept z0 b2
                have y1 := cell_kept z1 b2
                have y2 := cell_kept z2 b2
                have y3 := cell_kept z3 b2
                clear z0 z1 z2 z3
                replace b2 := bE.trans (b2.mono bE.size)
                have hw2 := b2.size
                clear bE
                rcases Nat.eq_zero_or_pos k with hk0 | hk0
                · have dk : decide ((0 : Int) < (k : Int)) = false := decide_eq_false (by omega)
                  have dk2 : decide (0 < k) = false := decide_eq_false (by omega)
                  have HPV : Hid (k = 0 ∨ prevFo t k < x0) := Lib.hid (.inl hk0)
                  clear hk0
                  cases b6'
                  · have m0 := cell_regrown y0
                    have m3 := cell_regrown y3
                    have hc : ∀ d os, Calls Try.prog 60 #[.slice sa x3.length sc, .int .i64 x0] (grow (redrawn w2 d) os) fun e w'' => e = .returned (.bool false) ∧ ∃ p : Regrown, w'' = grow (redrawn w2 p.d) p.os := fun d os => Calls.regrown_of (by have := l1Has_any _ x3 x0 (grow (redrawn w2 d) os) ((HS.out.below b2).below (below_regrown w2 d os)); rwa [H6.out] at this)
                    go_wp2_with fail
                    refine wp_region_quiet_below (by kernel_rfl) (by kernel_rfl) ?_
                    repeat (go_big_quiet_step (first | exact hc _ _))
                    refine wpQuiet_nil ?_
                    intro _ hw'
                    obtain ⟨⟨dq, osq⟩, hw''⟩ := hw'
                    subst hw''
                    have bq := below_regrown w2 dq osq
                    have cu0 := cell_kept y0 bq
                    have cu1 := cell_kept y1 bq
                    have cu2 := cell_kept y2 bq
                    have cu3 := cell_kept y3 bq
                    generalize grow (redrawn w2 dq) osq = w3 at bq cu0 cu1 cu2 cu3 ⊢
                    clear hc m0 m3 y0 y1 y2 y3
                    replace bq := b2.trans (bq.mono hw2)
                    have hw3 := bq.size
                    clear b2 hw2
                    go_wp2
                    have B3 : Below w.heap.size w w3 := hb.trans (bq.mono hw)
                    have hw3' := B3.size
                    have S3 := Lib.hid (HS.out.below bq)
                    clear bq f0 f1 f2 f3
                    go_loopw [5] (fun i2 wr2 => ∃ m : Nat, m ≤ k ∧ i2 = .int .i64 m ∧ Hid (∀ l, l < m → (t.getD l foD).name ≠ x1) ∧ Below w3.heap.size w3 wr2) (fun i2 _ => k - (intOf i2).toNat)
                    case atStart => exact ⟨0, Nat.zero_le _, rfl, Lib.hid (fun l h => absurd h (Nat.not_lt_zero _)), Below.refl _ _⟩
                    case round =>
                      obtain ⟨m, hm, rfl, HM, hb2⟩ := hrel
                      have b3 := B3.trans (hb2.mono hw3')
                      by_cases hmk : m < k
                      · obtain ⟨nm, hgx⟩ : ∃ s, (t.getD m foD).name = s := ⟨_, rfl⟩
                        obtain ⟨s', r0, r1, r2, r3, _, _⟩ := E1.out m (by omega)
                        rw [hgx] at r1
                        have c1' := cell_kept r1 b3
                        have c2' := cell_kept cu1 hb2
                        have HGX := Lib.hid hgx
                        have h0m : (0 : Int) ≤ (m : Int) := by omega
                        have h1m : (m : Int) < (t.length : Int) := by omega
                        have h2m : (m : Int) < (k : Int) := by omega
                        clear r0 r1 r2 r3 hgx
                        by_cases hss : nm = x1
                        · have dss : (nm.toList == x1.toList) = true := by simp [hss]
                          have HNT : Hid (areFo t = false) := Lib.hid (notFo hlt (by rw [Bool.eq_false_iff]; intro hc; have hh := (HAT.out.1 hc).2.2.2.1; rw [Bool.eq_false_iff] at hh; exact hh (twinN_iff.2 ⟨t.getD m foD, by rw [List.mem_take_iff_getElem]; exact ⟨m, by omega, by rw [getFo_lt (by omega)]⟩, by rw [HGX.out]; exact hss⟩)))
                          clear hss
                          go_wp2_with fail
                          go_quiet (fail)
                          go_wp2_with fail
                          go_ret
                          exact ⟨ret_bool HNT.out.symm, below_drewN b3 _⟩
                        · have dss := beq_bytes_ne hss
                          have HSS := Lib.hid hss
                          clear hss
                          go_wp2_with fail
                          go_quiet (fail)
                          go_wp2_with fail
                          go_roundw
                          case rel =>
                            refine ⟨m + 1, by omega, by go_num, Lib.hid (fun l hl => ?_), below_drewN hb2 _⟩
                            rcases Nat.lt_or_ge l m with h' | h'
                            · exact HM.out l h'
                            · obtain rfl : l = m := by omega
                              rw [HGX.out]
                              exact HSS.out
                          case measure => simp [intOf]; omega
                      · have HN : Hid (twinN (t.take (k)) x1 = false) := Lib.hid (by
                          rw [Bool.eq_false_iff]
                          intro hc
                          obtain ⟨g, hg, hn⟩ := twinN_iff.1 hc
                          obtain ⟨l, hl, rfl⟩ := List.mem_take_iff_getElem.1 hg
                          exact HM.out l (by omega) (by rw [getFo_lt (by omega)]; exact hn))
                        have v3 := cell_kept cu3 hb2
                        have S4 := Lib.hid (S3.out.below hb2)
                        have h2m : (k : Int) ≤ (m : Int) := by omega
                        obtain ⟨w4, hw4⟩ : ∃ x, x = wr := ⟨_, rfl⟩
                        subst hw4
                        have hw4 := b3.size
                        clear HM cu0 cu1 cu2 cu3 hb2 S3
                        go_wp2_with fail
                        go_loopw [6] (fun i2 wr2 => ∃ m2 : Nat, m2 ≤ x3.length ∧ i2 = .int .i64 m2 ∧ Hid (∀ l, l < m2 → hasId t (x3.getD l 0) = true) ∧ wr2 = w4) (fun i2 _ => x3.length - (intOf i2).toNat)
                        case atStart => exact ⟨0, Nat.zero_le _, rfl, Lib.hid (fun l h => absurd h (Nat.not_lt_zero _)), rfl⟩
                        case round =>
                          obtain ⟨m2, hm2, rfl, HM2, hwr⟩ := hrel
                          subst hwr
                          by_cases hmx : m2 < x3.length
                          · obtain ⟨y, hy⟩ : ∃ y, x3.getD m2 0 = y := ⟨_, rfl⟩
                            have hS := S4.out
                            obtain ⟨sa', sc', hsl', hS1, hS2, hS3⟩ := hS
                            obtain ⟨b5, o5, hb5, hsa, e5⟩ := hS3.resolve_left (fun e => by rw [e] at hmx; simp at hmx)
                            cases hsl'
                            subst hsa
                            have fy := e5 m2 hmx
                            rw [← getI_lt hmx, hy] at fy
                            simp only [vI] at fy
                            have HY := Lib.hid hy
                            have h0m2 : (0 : Int) ≤ (m2 : Int) := by omega
                            have h1m2 : (m2 : Int) < (x3.length : Int) := by omega
                            obtain ⟨bh, hbh⟩ : ∃ b, hasId t y = b := ⟨_, rfl⟩
                            have HB := Lib.hid hbh
                            obtain ⟨c, hc⟩ : ∃ c, foI t y = c := ⟨_, rfl⟩
                            have hcn : decide (c < 0) = !bh := by rw [← hc, foI_neg, hbh]
                            have HC := Lib.hid hc
                            clear e5 hy hbh hc hS1 hS2 hS3
                            cases bh
                            · have hcn' : c < 0 := by simpa using hcn
                              have HNT : Hid (areFo t = false) := Lib.hid (notFo hlt (by rw [Bool.eq_false_iff]; intro hc; have hh := all_getD.1 (HAT.out.1 hc).2.2.2.2 m2 hmx; simp only at hh; rw [HY.out, HB.out] at hh; cases hh))
                              clear hcn
                              go_wp2_with fail
                              refine (l7Find_any _ t _ _ (HR.out.below rFo_stable b3)).mono ?_
                              rw [HC.out]
                              rintro e w5 ⟨rfl, rfl⟩
                              go_wp2_with fail
                              go_ret
                              exact ⟨ret_bool HNT.out.symm, b3⟩
                            · have hcn' : 0 ≤ c := by simpa using hcn
                              clear hcn
                              go_wp2_with fail
                              refine (l7Find_any _ t _ _ (HR.out.below rFo_stable b3)).mono ?_
                              rw [HC.out]
                              rintro e w5 ⟨rfl, rfl⟩
                              go_wp2_with fail
                              go_roundw
                              case rel =>
                                refine ⟨m2 + 1, by omega, by go_num, Lib.hid (fun l hl => ?_), trivial⟩
                                rcases Nat.lt_or_ge l m2 with h' | h'
                                · exact HM2.out l h'
                                · obtain rfl : l = m2 := by omega
                                  rw [HY.out]; exact HB.out
                              case measure => simp [intOf]; omega
                          · have HAL : Hid (foAtB t (k) = true) := Lib.hid (HAT.out.2 ⟨⟨of_decide_eq_true H1.out, H2.out, of_decide_eq_true H3.out, by have := HL4.out; first | omega | (simp only; omega), H5.out⟩, HPV.out, of_decide_eq_false H6.out, HN.out, all_getD.2 (fun i hi => HM2.out i (by simp only at hi; omega))⟩)
                            have h1m2 : (x3.length : Int) ≤ (m2 : Int) := by omega
                            go_wp2_with fail
                            go_roundw
                            case rel => exact ⟨k + 1, by omega, by omega, by go_num, Lib.hid (upto_succ HU.out HAL.out), b3⟩
                            case measure => simp [intOf]; omega
                  · have HNT : Hid (areFo t = false) := Lib.hid (notFo hlt (by rw [Bool.eq_false_iff]; intro hc; have hh := HAT.out.1 hc; have := of_decide_eq_true H6.out; exact hh.2.2.1 this))
                    have m0 := cell_regrown y0
                    have m3 := cell_regrown y3
                    have hc : ∀ d os, Calls Try.prog 60 #[.slice sa x3.length sc, .int .i64 x0] (grow (redrawn w2 d) os) fun e w'' => e = .returned (.bool true) ∧ ∃ p : Regrown, w'' = grow (redrawn w2 p.d) p.os := fun d os => Calls.regrown_of (by have := l1Has_any _ x3 x0 (grow (redrawn w2 d) os) ((HS.out.below b2).below (below_regrown w2 d os)); rwa [H6.out] at this)
                    go_wp2_with fail
                    refine wp_region_quiet_below (by kernel_rfl) (by kernel_rfl) ?_
                    repeat (go_big_quiet_step (first | exact hc _ _))
                    refine wpQuiet_nil ?_
                    intro _ hw'
                    obtain ⟨⟨dq, osq⟩, hw''⟩ := hw'
                    subst hw''
                    have bq := below_regrown w2 dq osq
                    have cu0 := cell_kept y0 bq
                    have cu1 := cell_kept y1 bq
                    have cu2 := cell_kept y2 bq
                    have cu3 := cell_kept y3 bq
                    generalize grow (redrawn w2 dq) osq = w3 at bq cu0 cu1 cu2 cu3 ⊢
                    clear hc m0 m3 y0 y1 y2 y3
                    replace bq := b2.trans (bq.mono hw2)
                    have hw3 := bq.size
                    clear b2 hw2
                    go_wp2
                    go_ret
                    exact ⟨ret_bool HNT.out.symm, hb.trans (bq.mono hw)⟩
                · obtain ⟨j, rfl⟩ : ∃ j, k = j + 1 := ⟨k - 1, by omega⟩
                  obtain ⟨pv, hpv⟩ : ∃ y, (t.getD j foD).id = y := ⟨_, rfl⟩
                  obtain ⟨s', r0, r1, r2, r3, _, _⟩ := E1.out j (by omega)
                  rw [hpv] at r0
                  have f4 := cell_kept r0 (hb.trans (b2.mono hw))
                  have hpk : prevFo t (j + 1) = pv := by rw [prevFo, hpv]
                  have HPK := Lib.hid hpk
                  have g2 : (j : Int) < (t.length : Int) := by omega
                  have g3 : (0 : Int) ≤ (j : Int) := by omega
                  have g4' : (0 : Int) < (j : Int) + 1 := by omega
                  clear r0 r1 r2 r3 hk0 hpv hpk
                  by_cases hP : x0 ≤ pv
                  · have HNT : Hid (areFo t = false) := Lib.hid (notFo hlt (by rw [Bool.eq_false_iff]; intro hc; have hh := HAT.out.1 hc; have := hh.2.1.resolve_left (by omega); rw [HPK.out] at this; first | omega | (simp only at this; omega)))
                    have m4 := cell_regrown f4
                    have m0 := cell_regrown y0
                    have m3 := cell_regrown y3
                    have hc : ∀ d os, Calls Try.prog 60 #[.slice sa x3.length sc, .int .i64 x0] (grow (redrawn w2 d) os) fun e w'' => e = .returned (.bool b6') ∧ ∃ p : Regrown, w'' = grow (redrawn w2 p.d) p.os := fun d os => Calls.regrown_of (by have := l1Has_any _ x3 x0 (grow (redrawn w2 d) os) ((HS.out.below b2).below (below_regrown w2 d os)); rwa [H6.out] at this)
                    go_wp2_with fail
                    refine wp_region_quiet_below (by kernel_rfl) (by kernel_rfl) ?_
                    repeat (go_big_quiet_step (first | exact hc _ _))
                    refine wpQuiet_nil ?_
                    intro _ hw'
                    obtain ⟨⟨dq, osq⟩, hw''⟩ := hw'
                    subst hw''
                    have bq := below_regrown w2 dq osq
                    have cu0 := cell_kept y0 bq
                    have cu1 := cell_kept y1 bq
                    have cu2 := cell_kept y2 bq
                    have cu3 := cell_kept y3 bq
                    generalize grow (redrawn w2 dq) osq = w3 at bq cu0 cu1 cu2 cu3 ⊢
                    clear hc m4 m0 m3 y0 y1 y2 y3
                    replace bq := b2.trans (bq.mono hw2)
                    have hw3 := bq.size
                    clear b2 hw2
                    go_wp2
                    go_ret
                    exact ⟨ret_bool HNT.out.symm, hb.trans (bq.mono hw)⟩
                  · have dP : decide (x0 ≤ pv) = false := decide_eq_false hP
                    have HPV : Hid (j + 1 = 0 ∨ prevFo t (j + 1) < x0) := Lib.hid (.inr (by rw [HPK.out]; omega))
                    have m4 := cell_regrown f4
                    cases b6'
                    · have m0 := cell_regrown y0
                      have m3 := cell_regrown y3
                      have hc : ∀ d os, Calls Try.prog 60 #[.slice sa x3.length sc, .int .i64 x0] (grow (redrawn w2 d) os) fun e w'' => e = .returned (.bool false) ∧ ∃ p : Regrown, w'' = grow (redrawn w2 p.d) p.os := fun d os => Calls.regrown_of (by have := l1Has_any _ x3 x0 (grow (redrawn w2 d) os) ((HS.out.below b2).below (below_regrown w2 d os)); rwa [H6.out] at this)
                      go_wp2_with fail
                      refine wp_region_quiet_below (by kernel_rfl) (by kernel_rfl) ?_
                      repeat (go_big_quiet_step (first | exact hc _ _))
                      refine wpQuiet_nil ?_
                      intro _ hw'
                      obtain ⟨⟨dq, osq⟩, hw''⟩ := hw'
                      subst hw''
                      have bq := below_regrown w2 dq osq
                      have cu0 := cell_kept y0 bq
                      have cu1 := cell_kept y1 bq
                      have cu2 := cell_kept y2 bq
                      have cu3 := cell_kept y3 bq
                      generalize grow (redrawn w2 dq) osq = w3 at bq cu0 cu1 cu2 cu3 ⊢
                      clear hc m4 m0 m3 y0 y1 y2 y3
                      replace bq := b2.trans (bq.mono hw2)
                      have hw3 := bq.size
                      clear b2 hw2
                      go_wp2
                      have B3 : Below w.heap.size w w3 := hb.trans (bq.mono hw)
                      have hw3' := B3.size
                      have S3 := Lib.hid (HS.out.below bq)
                      clear bq f0 f1 f2 f3
                      go_loopw [5] (fun i2 wr2 => ∃ m : Nat, m ≤ j + 1 ∧ i2 = .int .i64 m ∧ Hid (∀ l, l < m → (t.getD l foD).name ≠ x1) ∧ Below w3.heap.size w3 wr2) (fun i2 _ => j + 1 - (intOf i2).toNat)
                      case atStart => exact ⟨0, Nat.zero_le _, rfl, Lib.hid (fun l h => absurd h (Nat.not_lt_zero _)), Below.refl _ _⟩
                      case round =>
                        obtain ⟨m, hm, rfl, HM, hb2⟩ := hrel
                        have b3 := B3.trans (hb2.mono hw3')
                        by_cases hmk : m < j + 1
                        · obtain ⟨nm, hgx⟩ : ∃ s, (t.getD m foD).name = s := ⟨_, rfl⟩
                          obtain ⟨s', r0, r1, r2, r3, _, _⟩ := E1.out m (by omega)
                          rw [hgx] at r1
                          have c1' := cell_kept r1 b3
                          have c2' := cell_kept cu1 hb2
                          have HGX := Lib.hid hgx
                          have h0m : (0 : Int) ≤ (m : Int) := by omega
                          have h1m : (m : Int) < (t.length : Int) := by omega
                          have h2m : (m : Int) < ((j : Int) + 1) := by omega
                          clear r0 r1 r2 r3 hgx
                          by_cases hss : nm = x1
                          · have dss : (nm.toList == x1.toList) = true := by simp [hss]
                            have HNT : Hid (areFo t = false) := Lib.hid (notFo hlt (by rw [Bool.eq_false_iff]; intro hc; have hh := (HAT.out.1 hc).2.2.2.1; rw [Bool.eq_false_iff] at hh; exact hh (twinN_iff.2 ⟨t.getD m foD, by rw [List.mem_take_iff_getElem]; exact ⟨m, by omega, by rw [getFo_lt (by omega)]⟩, by rw [HGX.out]; exact hss⟩)))
                            clear hss
                            go_wp2_with fail
                            go_quiet (fail)
                            go_wp2_with fail
                            go_ret
                            exact ⟨ret_bool HNT.out.symm, below_drewN b3 _⟩
                          · have dss := beq_bytes_ne hss
                            have HSS := Lib.hid hss
                            clear hss
                            go_wp2_with fail
                            go_quiet (fail)
                            go_wp2_with fail
                            go_roundw
                            case rel =>
                              refine ⟨m + 1, by omega, by go_num, Lib.hid (fun l hl => ?_), below_drewN hb2 _⟩
                              rcases Nat.lt_or_ge l m with h' | h'
                              · exact HM.out l h'
                              · obtain rfl : l = m := by omega
                                rw [HGX.out]
                                exact HSS.out
                            case measure => simp [intOf]; omega
                        · have HN : Hid (twinN (t.take (j + 1)) x1 = false) := Lib.hid (by
                            rw [Bool.eq_false_iff]
                            intro hc
                            obtain ⟨g, hg, hn⟩ := twinN_iff.1 hc
                            obtain ⟨l, hl, rfl⟩ := List.mem_take_iff_getElem.1 hg
                            exact HM.out l (by omega) (by rw [getFo_lt (by omega)]; exact hn))
                          have v3 := cell_kept cu3 hb2
                          have S4 := Lib.hid (S3.out.below hb2)
                          have h2m : ((j : Int) + 1) ≤ (m : Int) := by omega
                          obtain ⟨w4, hw4⟩ : ∃ x, x = wr := ⟨_, rfl⟩
                          subst hw4
                          have hw4 := b3.size
                          clear HM cu0 cu1 cu2 cu3 hb2 S3
                          go_wp2_with fail
                          go_loopw [6] (fun i2 wr2 => ∃ m2 : Nat, m2 ≤ x3.length ∧ i2 = .int .i64 m2 ∧ Hid (∀ l, l < m2 → hasId t (x3.getD l 0) = true) ∧ wr2 = w4) (fun i2 _ => x3.length - (intOf i2).toNat)
                          case atStart => exact ⟨0, Nat.zero_le _, rfl, Lib.hid (fun l h => absurd h (Nat.not_lt_zero _)), rfl⟩
                          case round =>
                            obtain ⟨m2, hm2, rfl, HM2, hwr⟩ := hrel
                            subst hwr
                            by_cases hmx : m2 < x3.length
                            · obtain ⟨y, hy⟩ : ∃ y, x3.getD m2 0 = y := ⟨_, rfl⟩
                              have hS := S4.out
                              obtain ⟨sa', sc', hsl', hS1, hS2, hS3⟩ := hS
                              obtain ⟨b5, o5, hb5, hsa, e5⟩ := hS3.resolve_left (fun e => by rw [e] at hmx; simp at hmx)
                              cases hsl'
                              subst hsa
                              have fy := e5 m2 hmx
                              rw [← getI_lt hmx, hy] at fy
                              simp only [vI] at fy
                              have HY := Lib.hid hy
                              have h0m2 : (0 : Int) ≤ (m2 : Int) := by omega
                              have h1m2 : (m2 : Int) < (x3.length : Int) := by omega
                              obtain ⟨bh, hbh⟩ : ∃ b, hasId t y = b := ⟨_, rfl⟩
                              have HB := Lib.hid hbh
                              obtain ⟨c, hc⟩ : ∃ c, foI t y = c := ⟨_, rfl⟩
                              have hcn : decide (c < 0) = !bh := by rw [← hc, foI_neg, hbh]
                              have HC := Lib.hid hc
                              clear e5 hy hbh hc hS1 hS2 hS3
                              cases bh
                              · have hcn' : c < 0 := by simpa using hcn
                                have HNT : Hid (areFo t = false) := Lib.hid (notFo hlt (by rw [Bool.eq_false_iff]; intro hc; have hh := all_getD.1 (HAT.out.1 hc).2.2.2.2 m2 hmx; simp only at hh; rw [HY.out, HB.out] at hh; cases hh))
                                clear hcn
                                go_wp2_with fail
                                refine (l7Find_any _ t _ _ (HR.out.below rFo_stable b3)).mono ?_
                                rw [HC.out]
                                rintro e w5 ⟨rfl, rfl⟩
                                go_wp2_with fail
                                go_ret
                                exact ⟨ret_bool HNT.out.symm, b3⟩
                              · have hcn' : 0 ≤ c := by simpa using hcn
                                clear hcn
                                go_wp2_with fail
                                refine (l7Find_any _ t _ _ (HR.out.below rFo_stable b3)).mono ?_
                                rw [HC.out]
                                rintro e w5 ⟨rfl, rfl⟩
                                go_wp2_with fail
                                go_roundw
                                case rel =>
                                  refine ⟨m2 + 1, by omega, by go_num, Lib.hid (fun l hl => ?_), trivial⟩
                                  rcases Nat.lt_or_ge l m2 with h' | h'
                                  · exact HM2.out l h'
                                  · obtain rfl : l = m2 := by omega
                                    rw [HY.out]; exact HB.out
                                case measure => simp [intOf]; omega
                            · have HAL : Hid (foAtB t (j + 1) = true) := Lib.hid (HAT.out.2 ⟨⟨of_decide_eq_true H1.out, H2.out, of_decide_eq_true H3.out, by have := HL4.out; first | omega | (simp only; omega), H5.out⟩, HPV.out, of_decide_eq_false H6.out, HN.out, all_getD.2 (fun i hi => HM2.out i (by simp only at hi; omega))⟩)
                              have h1m2 : (x3.length : Int) ≤ (m2 : Int) := by omega
                              go_wp2_with fail
                              go_roundw
                              case rel => exact ⟨j + 1 + 1, by omega, by omega, by go_num, Lib.hid (upto_succ HU.out HAL.out), b3⟩
                              case measure => simp [intOf]; omega
                    · have HNT : Hid (areFo t = false) := Lib.hid (notFo hlt (by rw [Bool.eq_false_iff]; intro hc; have hh := HAT.out.1 hc; have := of_decide_eq_true H6.out; exact hh.2.2.1 this))
                      have m0 := cell_regrown y0
                      have m3 := cell_regrown y3
                      have hc : ∀ d os, Calls Try.prog 60 #[.slice sa x3.length sc, .int .i64 x0] (grow (redrawn w2 d) os) fun e w'' => e = .returned (.bool true) ∧ ∃ p : Regrown, w'' = grow (redrawn w2 p.d) p.os := fun d os => Calls.regrown_of (by have := l1Has_any _ x3 x0 (grow (redrawn w2 d) os) ((HS.out.below b2).below (below_regrown w2 d os)); rwa [H6.out] at this)
                      go_wp2_with fail
                      refine wp_region_quiet_below (by kernel_rfl) (by kernel_rfl) ?_
                      repeat (go_big_quiet_step (first | exact hc _ _))
                      refine wpQuiet_nil ?_
                      intro _ hw'
                      obtain ⟨⟨dq, osq⟩, hw''⟩ := hw'
                      subst hw''
                      have bq := below_regrown w2 dq osq
                      have cu0 := cell_kept y0 bq
                      have cu1 := cell_kept y1 bq
                      have cu2 := cell_kept y2 bq
                      have cu3 := cell_kept y3 bq
                      generalize grow (redrawn w2 dq) osq = w3 at bq cu0 cu1 cu2 cu3 ⊢
                      clear hc m4 m0 m3 y0 y1 y2 y3
                      replace bq := b2.trans (bq.mono hw2)
                      have hw3 := bq.size
                      clear b2 hw2
                      go_wp2
                      go_ret
                      exact ⟨ret_bool HNT.out.symm, hb.trans (bq.mono hw)⟩

    · have HUU := HU.out
      by_cases hlt' : k < t.length
      · obtain rfl : k = 11 := by omega
        have HF : Hid (areFo t = false) := Lib.hid (fo_long (by omega))
        have gL : (11 : Int) < (t.length : Int) := by omega
        clear hlt HUU
        go_wp2
        go_ret
        exact ⟨ret_bool (by rw [HF.out]; exact decide_eq_false (by omega)), hb⟩
      · have hkt : k = t.length := by omega
        have HF : Hid (areFo t = decide (t.length ≤ 10)) := Lib.hid (fo_upto (by rw [hkt] at HUU; exact HUU))
        clear hlt HUU
        have gL : (t.length : Int) ≤ (k : Int) := by omega
        clear hkt
        go_wp2
        go_ret
        exact ⟨ret_bool (by rw [HF.out, Bool.eq_iff_iff]; simp; omega), hb⟩

theorem specAreFo_any (v : Value) (t : List Fo) (w : World) (h : RowR 4 rFo w v t) : Calls Try.prog 14 #[v] w fun e w' => e = .returned (.bool (areFo t)) ∧ Below w.heap.size w w' := by
  have H := Lib.hid h
  clear h
  go_enter Try.func14, Try.ntmps14
  go_wp2_with fail
  refine (l7Good_any _ t _ H.out).mono ?_
  rintro e w' ⟨rfl, hb⟩
  go_wp2_with fail
  go_ret
  exact ⟨rfl, hb⟩
end Go.Proofs.Ytcfghigmijibeaa
