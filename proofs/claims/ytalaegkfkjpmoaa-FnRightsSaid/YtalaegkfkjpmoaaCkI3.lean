/- Clerks, the program's: GiveRight, TakeRight, StandFor. -/
import Derived.Test.YtalaegkfkjpmoaaCkW2
namespace Go.Proofs.Ytalaegkfkjpmoaa
set_option linter.unusedVariables false
open Go.RowKit Go.Sort

theorem isOneRight_any (r : Int) (w : World) : Calls Try.prog 108 #[.int .i64 r] w fun e w' => e = .returned (.bool (oneR r)) ∧ w' = w := by
  have hr : oneR r = decide (r = 1 ∨ r = 2 ∨ r = 4 ∨ r = 8) := rfl
  rw [hr]
  clear hr
  by_cases h1 : r = 1
  · subst h1
    go_enter Try.func108, Try.ntmps108
    go_wp2_with fail
    go_ret
    exact ⟨ret_bool (by simp), rfl⟩
  · have e1 : (r == 1) = false := by simp [h1]
    have H1 := Lib.hid h1
    clear h1
    by_cases h2 : r = 2
    · subst h2
      go_enter Try.func108, Try.ntmps108
      go_wp2_with fail
      go_ret
      exact ⟨ret_bool (by simp), rfl⟩
    · have e2 : (r == 2) = false := by simp [h2]
      have H2 := Lib.hid h2
      clear h2
      by_cases h4 : r = 4
      · subst h4
        go_enter Try.func108, Try.ntmps108
        go_wp2_with fail
        go_ret
        exact ⟨ret_bool (by simp), rfl⟩
      · have e4 : (r == 4) = false := by simp [h4]
        have H4 := Lib.hid h4
        clear h4
        by_cases h8 : r = 8
        · subst h8
          go_enter Try.func108, Try.ntmps108
          go_wp2_with fail
          go_ret
          exact ⟨ret_bool (by simp), rfl⟩
        · have e8 : (r == 8) = false := by simp [h8]
          have H8 := Lib.hid h8
          clear h8
          go_enter Try.func108, Try.ntmps108
          go_wp2_with fail
          go_ret
          exact ⟨ret_bool (by have h1 := H1.out; have h2 := H2.out; have h4 := H4.out; have h8 := H8.out; simp; omega), rfl⟩

set_option maxRecDepth 20000 in
set_option maxHeartbeats 4000000 in
theorem implGive_any (v : Value) (t : List Ck) (x r : Int) (w : World) (h : RowR 6 rCk w v t) (xs : List Ck) (b : Bool) (hres : giveRes t x r = (xs, b)) :
    Calls Try.prog 55 #[v, .int .i64 x, .int .i64 r] w fun e w' => ∃ v', e = .returned (.tuple #[v', .bool b]) ∧ CksO w.heap.size w'.heap.size w' v' xs ∧ Below w.heap.size w w' := by
  have H := Lib.hid h
  obtain ⟨bA, hbA⟩ : ∃ b, areCk t = b := ⟨_, rfl⟩
  obtain ⟨bO, hbO⟩ : ∃ b, oneR r = b := ⟨_, rfl⟩
  have HbA := Lib.hid hbA
  have HbO := Lib.hid hbO
  cases bA
  · rw [give_no (by rw [hbA]; simp)] at hres
    obtain ⟨rfl, rfl⟩ := Prod.mk.inj hres
    try clear hbA; try clear hbO; try clear hci; try clear hfl
    clear h
    go_enter Try.func55, Try.ntmps55
    go_wp2_with (first | (go_at_call 102; refine (placeCk_bad _ t x _ H.out HbA.out).mono ?_; rintro e w2 ⟨rfl, b2⟩))
    go_ret2
    exact ⟨_, rfl, CksO.nil _ _ _, b2⟩
  · by_cases hfl : ckF t x < t.length
    · obtain ⟨P, hP⟩ : ∃ P, ckF t x = P := ⟨_, rfl⟩
      have hflk := hfl
      rw [hP] at hfl
      have HP := Lib.hid hP
      have HPL := Lib.hid hfl
      have HCI : Hid (ckI t x = (P : Int)) := Lib.hid (by rw [ckI_yes hflk, hP])
      have g0 : (0 : Int) ≤ (P : Int) := by omega
      have gn : decide ((P : Int) < 0) = false := decide_eq_false (by omega)
      have g1 : (P : Int) < (t.length : Int) := by omega
      have h8 := ck_len hbA
      have hone := ckOne_iff.1 (ck_at hbA hfl).1
      obtain ⟨a1, c1, rfl, hl1, hm1, r1⟩ := h.cks
      obtain ⟨b1, o1, hb1, rfl, e1⟩ := r1.resolve_left (fun e => by rw [e] at hfl; simp at hfl)
      unfold maxLen at hm1
      obtain ⟨⟨x0, x1, x2, x3, x4, x5⟩, hx⟩ : ∃ s, t.getD P ckD = s := ⟨_, rfl⟩
      obtain ⟨q0, q1, q2, q3, q4, q5, hok_x⟩ := e1 P hfl
      rw [hx] at q0 q1 q2 q3 q4 q5 hok_x
      simp only at q0 q1 q2 q3 q4 q5
      have hyk : (t.getD (ckF t x) ckD) = ⟨x0, x1, x2, x3, x4, x5⟩ := by rw [hP]; exact hx
      rw [hx] at hone
      simp only at hone
      obtain ⟨_, _, hone2, _⟩ := hone
      cases bO
      · rw [give_no (by rw [hbO]; simp)] at hres
        obtain ⟨rfl, rfl⟩ := Prod.mk.inj hres
        clear hbA hbO hP hfl hflk h r1 e1 hx hyk hok_x hone2 q0 q1 q2 q3 q4 q5
        go_enter Try.func55, Try.ntmps55
        go_wp2_with (first | (go_at_call 102; refine (placeCk_yes _ t x _ H.out HbA.out P HPL.out HP.out).mono ?_; rintro e w2 ⟨rfl, b2⟩) | (go_at_call 108; refine (isOneRight_any _ _).mono ?_; rw [HbO.out]; rintro e w' ⟨rfl, rfl⟩))
        go_ret2
        exact ⟨_, rfl, CksO.nil _ _ _, b2⟩
      · rw [give_yes hbA hfl hP hx hbO] at hres
        simp only at hres
        have HB := Lib.hid hres
        have HOK : Hid (Ck.ok ⟨x0, x1, (bits .or .i64 x2 r), x3, x4, x5⟩) := Lib.hid ⟨hok_x.1, hok_x.2.1, by have := or_in hone2 (oneR_in hbO); show inI (bits .or .i64 x2 r); unfold inI; omega, hok_x.2.2.2⟩
        clear hres hok_x hone2
        clear hbA hbO hP hfl hflk h r1 e1 hx hyk
        go_enter Try.func55, Try.ntmps55
        go_wp2_with (first | (go_at_call 102; refine (placeCk_yes _ t x _ H.out HbA.out P HPL.out HP.out).mono ?_; rintro e w2 ⟨rfl, b2⟩; have f0 := cell_kept q0 b2; have f1 := cell_kept q1 b2; have f2 := cell_kept q2 b2; have f3 := cell_kept q3 b2; have f4 := cell_kept q4 b2; have f5 := cell_kept q5 b2) | (go_at_call 108; refine (isOneRight_any _ _).mono ?_; rw [HbO.out]; rintro e w' ⟨rfl, rfl⟩) | (go_at_call 109; refine (putClerk_any _ t P ⟨x0, x1, (bits .or .i64 x2 r), x3, x4, x5⟩ _ (H.out.below rCk_stable (by first | exact below_al b2 _ | exact (below_al b2 _).drew)) HPL.out (by omega) HOK.out xs b HB.out).mono ?_; rintro e w5 ⟨v5, rfl, hO5, b5⟩; replace b5 := (below_al b2 _).trans (b5.mono (below_al b2 _).size)))
        go_ret2
        exact ⟨_, rfl, hO5.wide (below_al b2 _).size (Nat.le_refl _), b5⟩
    · rw [give_no (fun hh => hfl (hh.2.1))] at hres
      obtain ⟨rfl, rfl⟩ := Prod.mk.inj hres
      have HFL := Lib.hid hfl
      try clear hbA; try clear hbO; try clear hci; try clear hfl
      clear h
      go_enter Try.func55, Try.ntmps55
      go_wp2_with (first | (go_at_call 102; refine (placeCk_no _ t x _ H.out HbA.out HFL.out).mono ?_; rintro e w2 ⟨rfl, b2⟩))
      go_ret2
      exact ⟨_, rfl, CksO.nil _ _ _, b2⟩

set_option maxRecDepth 20000 in
set_option maxHeartbeats 4000000 in
theorem implTake_any (v : Value) (t : List Ck) (x r : Int) (w : World) (h : RowR 6 rCk w v t) (xs : List Ck) (b : Bool) (hres : takeRes t x r = (xs, b)) :
    Calls Try.prog 52 #[v, .int .i64 x, .int .i64 r] w fun e w' => ∃ v', e = .returned (.tuple #[v', .bool b]) ∧ CksO w.heap.size w'.heap.size w' v' xs ∧ Below w.heap.size w w' := by
  have H := Lib.hid h
  obtain ⟨bA, hbA⟩ : ∃ b, areCk t = b := ⟨_, rfl⟩
  obtain ⟨bO, hbO⟩ : ∃ b, oneR r = b := ⟨_, rfl⟩
  have HbA := Lib.hid hbA
  have HbO := Lib.hid hbO
  cases bA
  · rw [take_no (by rw [hbA]; simp)] at hres
    obtain ⟨rfl, rfl⟩ := Prod.mk.inj hres
    try clear hbA; try clear hbO; try clear hci; try clear hfl
    clear h
    go_enter Try.func52, Try.ntmps52
    go_wp2_with (first | (go_at_call 102; refine (placeCk_bad _ t x _ H.out HbA.out).mono ?_; rintro e w2 ⟨rfl, b2⟩))
    go_ret2
    exact ⟨_, rfl, CksO.nil _ _ _, b2⟩
  · by_cases hfl : ckF t x < t.length
    · obtain ⟨P, hP⟩ : ∃ P, ckF t x = P := ⟨_, rfl⟩
      have hflk := hfl
      rw [hP] at hfl
      have HP := Lib.hid hP
      have HPL := Lib.hid hfl
      have HCI : Hid (ckI t x = (P : Int)) := Lib.hid (by rw [ckI_yes hflk, hP])
      have g0 : (0 : Int) ≤ (P : Int) := by omega
      have gn : decide ((P : Int) < 0) = false := decide_eq_false (by omega)
      have g1 : (P : Int) < (t.length : Int) := by omega
      have h8 := ck_len hbA
      have hone := ckOne_iff.1 (ck_at hbA hfl).1
      obtain ⟨a1, c1, rfl, hl1, hm1, r1⟩ := h.cks
      obtain ⟨b1, o1, hb1, rfl, e1⟩ := r1.resolve_left (fun e => by rw [e] at hfl; simp at hfl)
      unfold maxLen at hm1
      obtain ⟨⟨x0, x1, x2, x3, x4, x5⟩, hx⟩ : ∃ s, t.getD P ckD = s := ⟨_, rfl⟩
      obtain ⟨q0, q1, q2, q3, q4, q5, hok_x⟩ := e1 P hfl
      rw [hx] at q0 q1 q2 q3 q4 q5 hok_x
      simp only at q0 q1 q2 q3 q4 q5
      have hyk : (t.getD (ckF t x) ckD) = ⟨x0, x1, x2, x3, x4, x5⟩ := by rw [hP]; exact hx
      rw [hx] at hone
      simp only at hone
      obtain ⟨_, _, hone2, _⟩ := hone
      cases bO
      · rw [take_no (by rw [hbO]; simp)] at hres
        obtain ⟨rfl, rfl⟩ := Prod.mk.inj hres
        clear hbA hbO hP hfl hflk h r1 e1 hx hyk hok_x hone2 q0 q1 q2 q3 q4 q5
        go_enter Try.func52, Try.ntmps52
        go_wp2_with (first | (go_at_call 102; refine (placeCk_yes _ t x _ H.out HbA.out P HPL.out HP.out).mono ?_; rintro e w2 ⟨rfl, b2⟩) | (go_at_call 108; refine (isOneRight_any _ _).mono ?_; rw [HbO.out]; rintro e w' ⟨rfl, rfl⟩))
        go_ret2
        exact ⟨_, rfl, CksO.nil _ _ _, b2⟩
      · obtain ⟨bT, hbT⟩ : ∃ b, hasR x2 r = b := ⟨_, rfl⟩
        have ht0 := (take_is hone2 hbO).2
        have HbT := Lib.hid hbT
        cases bT
        · rw [take_no (by rw [hyk]; simp only; rw [hbT]; simp)] at hres
          obtain ⟨rfl, rfl⟩ := Prod.mk.inj hres
          clear ht0 hbT
          clear hbA hbO hP hfl hflk h r1 e1 hx hyk hok_x hone2
          go_enter Try.func52, Try.ntmps52
          go_wp2_with (first | (go_at_call 102; refine (placeCk_yes _ t x _ H.out HbA.out P HPL.out HP.out).mono ?_; rintro e w2 ⟨rfl, b2⟩; have f0 := cell_kept q0 b2; have f1 := cell_kept q1 b2; have f2 := cell_kept q2 b2; have f3 := cell_kept q3 b2; have f4 := cell_kept q4 b2; have f5 := cell_kept q5 b2) | (go_at_call 108; refine (isOneRight_any _ _).mono ?_; rw [HbO.out]; rintro e w' ⟨rfl, rfl⟩) | (go_at_call 97; refine (hasRights_any _ _ _).mono ?_; rw [HbT.out]; rintro e w' ⟨rfl, rfl⟩))
          go_ret2
          exact ⟨_, rfl, CksO.nil _ _ _, b2⟩
        · clear ht0
          rw [take_yes hbA hfl hP hx hbO hbT] at hres
          simp only at hres
          have HB := Lib.hid hres
          have htk := (take_is hone2 hbO).1 hbT
          have HOK : Hid (Ck.ok ⟨x0, x1, (bits .andNot .i64 x2 r), x3, x4, x5⟩) := Lib.hid ⟨hok_x.1, hok_x.2.1, by have := oneR_in hbO; show inI (bits .andNot .i64 x2 r); rw [htk]; unfold inI; omega, hok_x.2.2.2⟩
          clear htk
          clear hbT
          clear hres hok_x hone2
          clear hbA hbO hP hfl hflk h r1 e1 hx hyk
          go_enter Try.func52, Try.ntmps52
          go_wp2_with (first | (go_at_call 102; refine (placeCk_yes _ t x _ H.out HbA.out P HPL.out HP.out).mono ?_; rintro e w2 ⟨rfl, b2⟩; have f0 := cell_kept q0 b2; have f1 := cell_kept q1 b2; have f2 := cell_kept q2 b2; have f3 := cell_kept q3 b2; have f4 := cell_kept q4 b2; have f5 := cell_kept q5 b2) | (go_at_call 108; refine (isOneRight_any _ _).mono ?_; rw [HbO.out]; rintro e w' ⟨rfl, rfl⟩) | (go_at_call 97; refine (hasRights_any _ _ _).mono ?_; rw [HbT.out]; rintro e w' ⟨rfl, rfl⟩) | (go_at_call 109; refine (putClerk_any _ t P ⟨x0, x1, (bits .andNot .i64 x2 r), x3, x4, x5⟩ _ (H.out.below rCk_stable (by first | exact below_al b2 _ | exact (below_al b2 _).drew)) HPL.out (by omega) HOK.out xs b HB.out).mono ?_; rintro e w5 ⟨v5, rfl, hO5, b5⟩; replace b5 := (below_al b2 _).trans (b5.mono (below_al b2 _).size)))
          go_ret2
          exact ⟨_, rfl, hO5.wide (below_al b2 _).size (Nat.le_refl _), b5⟩
    · rw [take_no (fun hh => hfl (hh.2.1))] at hres
      obtain ⟨rfl, rfl⟩ := Prod.mk.inj hres
      have HFL := Lib.hid hfl
      try clear hbA; try clear hbO; try clear hci; try clear hfl
      clear h
      go_enter Try.func52, Try.ntmps52
      go_wp2_with (first | (go_at_call 102; refine (placeCk_no _ t x _ H.out HbA.out HFL.out).mono ?_; rintro e w2 ⟨rfl, b2⟩))
      go_ret2
      exact ⟨_, rfl, CksO.nil _ _ _, b2⟩

set_option maxRecDepth 20000 in
set_option maxHeartbeats 4000000 in
theorem implStand_any (v : Value) (t : List Ck) (x r : Int) (w : World) (h : RowR 6 rCk w v t) (ho : inI r) (xs : List Ck) (b : Bool) (hres : staRes t x r = (xs, b)) :
    Calls Try.prog 61 #[v, .int .i64 x, .int .i64 r] w fun e w' => ∃ v', e = .returned (.tuple #[v', .bool b]) ∧ CksO w.heap.size w'.heap.size w' v' xs ∧ Below w.heap.size w w' := by
  have H := Lib.hid h
  obtain ⟨bA, hbA⟩ : ∃ b, areCk t = b := ⟨_, rfl⟩
  have HbA := Lib.hid hbA
  cases bA
  · rw [sta_no (by rw [hbA]; simp)] at hres
    obtain ⟨rfl, rfl⟩ := Prod.mk.inj hres
    try clear hbA; try clear hci; try clear hfl
    clear h
    go_enter Try.func61, Try.ntmps61
    go_wp2_with (first | (go_at_call 102; refine (placeCk_bad _ t x _ H.out HbA.out).mono ?_; rintro e w2 ⟨rfl, b2⟩))
    go_ret2
    exact ⟨_, rfl, CksO.nil _ _ _, b2⟩
  · by_cases hfl : ckF t x < t.length
    · obtain ⟨P, hP⟩ : ∃ P, ckF t x = P := ⟨_, rfl⟩
      have hflk := hfl
      rw [hP] at hfl
      have HP := Lib.hid hP
      have HPL := Lib.hid hfl
      have HCI : Hid (ckI t x = (P : Int)) := Lib.hid (by rw [ckI_yes hflk, hP])
      have g0 : (0 : Int) ≤ (P : Int) := by omega
      have gn : decide ((P : Int) < 0) = false := decide_eq_false (by omega)
      have g1 : (P : Int) < (t.length : Int) := by omega
      have h8 := ck_len hbA
      have hone := ckOne_iff.1 (ck_at hbA hfl).1
      obtain ⟨a1, c1, rfl, hl1, hm1, r1⟩ := h.cks
      obtain ⟨b1, o1, hb1, rfl, e1⟩ := r1.resolve_left (fun e => by rw [e] at hfl; simp at hfl)
      unfold maxLen at hm1
      obtain ⟨⟨x0, x1, x2, x3, x4, x5⟩, hx⟩ : ∃ s, t.getD P ckD = s := ⟨_, rfl⟩
      obtain ⟨q0, q1, q2, q3, q4, q5, hok_x⟩ := e1 P hfl
      rw [hx] at q0 q1 q2 q3 q4 q5 hok_x
      simp only at q0 q1 q2 q3 q4 q5
      have hyk : (t.getD (ckF t x) ckD) = ⟨x0, x1, x2, x3, x4, x5⟩ := by rw [hP]; exact hx
      rw [hx] at hone
      simp only at hone
      obtain ⟨_, _, hone2, _⟩ := hone
      rw [sta_yes hbA hfl hP hx] at hres
      simp only at hres
      have HB := Lib.hid hres
      have HOK : Hid (Ck.ok ⟨x0, x1, x2, x3, x4, r⟩) := Lib.hid ⟨hok_x.1, hok_x.2.1, hok_x.2.2.1, hok_x.2.2.2.1, hok_x.2.2.2.2.1, ho⟩
      clear hres hok_x hone2
      clear hbA hP hfl hflk h r1 e1 hx hyk
      go_enter Try.func61, Try.ntmps61
      go_wp2_with (first | (go_at_call 102; refine (placeCk_yes _ t x _ H.out HbA.out P HPL.out HP.out).mono ?_; rintro e w2 ⟨rfl, b2⟩; have f0 := cell_kept q0 b2; have f1 := cell_kept q1 b2; have f2 := cell_kept q2 b2; have f3 := cell_kept q3 b2; have f4 := cell_kept q4 b2; have f5 := cell_kept q5 b2) | (go_at_call 109; refine (putClerk_any _ t P ⟨x0, x1, x2, x3, x4, r⟩ _ (H.out.below rCk_stable (by first | exact below_al b2 _ | exact (below_al b2 _).drew)) HPL.out (by omega) HOK.out xs b HB.out).mono ?_; rintro e w5 ⟨v5, rfl, hO5, b5⟩; replace b5 := (below_al b2 _).trans (b5.mono (below_al b2 _).size)))
      go_ret2
      exact ⟨_, rfl, hO5.wide (below_al b2 _).size (Nat.le_refl _), b5⟩
    · rw [sta_no (fun hh => hfl (hh.2))] at hres
      obtain ⟨rfl, rfl⟩ := Prod.mk.inj hres
      have HFL := Lib.hid hfl
      try clear hbA; try clear hci; try clear hfl
      clear h
      go_enter Try.func61, Try.ntmps61
      go_wp2_with (first | (go_at_call 102; refine (placeCk_no _ t x _ H.out HbA.out HFL.out).mono ?_; rintro e w2 ⟨rfl, b2⟩))
      go_ret2
      exact ⟨_, rfl, CksO.nil _ _ _, b2⟩

end Go.Proofs.Ytalaegkfkjpmoaa
