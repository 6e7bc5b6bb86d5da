/- Clerks, the model's: l11Rights, l11Sum, RightsOn, MayDo, l11Who, WhoMay, PairFor, DaysWithout. -/
import Derived.Test.YtalaegkfkjpmoaaCkS
import Derived.Test.YtalaegkfkjpmoaaIntsV
namespace Go.Proofs.Ytalaegkfkjpmoaa
set_option linter.unusedVariables false
open Go.RowKit Go.Sort

theorem l11Sum_any (r : Int) (w : World) : Calls Try.prog 100 #[.int .i64 r] w fun e w' => e = .returned (.bool (sumB r)) ∧ w' = w := by
  have hr : sumB r = decide (1 ≤ r ∧ r ≤ 15) := rfl
  rw [hr]
  clear hr
  go_enter Try.func100, Try.ntmps100
  go_wp2_with (first | (go_at_call 112; refine (l1In_any _ _ _ _).mono ?_; rintro e w' ⟨rfl, rfl⟩))
  go_ret
  exact ⟨ret_bool (by first | rfl | simp), rfl⟩
theorem l2DayB_any (d : Int) (w : World) : Calls Try.prog 79 #[.int .i64 d] w fun e w' => e = .returned (.bool (dayB d)) ∧ w' = w := l2Day_any d w

set_option maxRecDepth 20000 in
set_option maxHeartbeats 4000000 in
theorem l11Rights_any (v : Value) (t : List Ck) (P : Nat) (d : Int) (w : World) (h : RowR 6 rCk w v t) (ht : areCk t = true) (hp : P < t.length) :
    Calls Try.prog 105 #[v, .int .i64 P, .int .i64 d] w fun e w' => e = .returned (.int .i64 (rightsC t (t.getD P ckD) d)) ∧ Below w.heap.size w w' := by
  have hcap := h.cap
  have H := Lib.hid h
  obtain ⟨a1, c1, rfl, hl1, hm1, r1⟩ := h.cks
  have R1 := Lib.hid r1
  clear h r1
  unfold maxLen at hm1
  obtain ⟨b1, o1, hb1, rfl, e1⟩ := R1.out.resolve_left (fun e => by rw [e] at hp; simp at hp)
  have hst := ck_stands ht hp
  have hone := ckOne_iff.1 (ck_at ht hp).1
  obtain ⟨⟨x0, x1, x2, x3, x4, x5⟩, hx⟩ : ∃ s, t.getD P ckD = s := ⟨_, rfl⟩
  obtain ⟨q0, q1, q2, q3, q4, q5, hok_x⟩ := e1 P hp
  rw [hx] at q0 q1 q2 q3 q4 q5 hok_x
  simp only at q0 q1 q2 q3 q4 q5
  have f0 := cell_kept q0 (Below.refl w.heap.size w)
  have f1 := cell_kept q1 (Below.refl w.heap.size w)
  have f2 := cell_kept q2 (Below.refl w.heap.size w)
  have f3 := cell_kept q3 (Below.refl w.heap.size w)
  have f4 := cell_kept q4 (Below.refl w.heap.size w)
  have f5 := cell_kept q5 (Below.refl w.heap.size w)
  rw [hx] at hst hone ⊢
  simp only at hst hone
  have g0 : (0 : Int) ≤ (P : Int) := by omega
  have g1 : (P : Int) < (t.length : Int) := by omega
  obtain ⟨bO, hbO⟩ : ∃ b, onC ⟨x0, x1, x2, x3, x4, x5⟩ d = b := ⟨_, rfl⟩
  have HbO := Lib.hid hbO
  cases bO
  · have HR : Hid (rightsC t ⟨x0, x1, x2, x3, x4, x5⟩ d = 0) := Lib.hid (rights_off hbO)
    clear q0 q1 q2 q3 q4 q5 hok_x hx hst hone hbO e1
    go_enter Try.func105, Try.ntmps105
    go_wp2_with (first | (go_at_call 138; with_reducible refine (l11On_any ⟨x0, x1, x2, x3, x4, x5⟩ d _).mono ?_; rw [HbO.out]; rintro e w1 ⟨rfl, b1⟩; have c2 := cell_kept (cell_new w _ _ 2 rfl) b1; have c5 := cell_kept (cell_new w _ _ 5 rfl) b1; replace b1 := below_chain (below_al (Below.refl w.heap.size w) _) b1))
    go_ret
    exact ⟨ret_int HR.out.symm, b1⟩
  · by_cases h5 : 0 < x5
    · have d5 : decide (0 < x5) = true := decide_eq_true h5
      have hfl := hst.2 h5
      obtain ⟨Q, hQ⟩ : ∃ Q, ckF t x5 = Q := ⟨_, rfl⟩
      have HFI : Hid (ckI t x5 = (Q : Int)) := Lib.hid (by rw [ckI_yes hfl, hQ])
      have hflk := hfl
      rw [hQ] at hfl
      have gQ0 : (0 : Int) ≤ (Q : Int) := by omega
      have gQ1 : (Q : Int) < (t.length : Int) := by omega
      have dQn : decide ((Q : Int) < 0) = false := decide_eq_false (by omega)
      obtain ⟨⟨y0, y1, y2, y3, y4, y5⟩, hy⟩ : ∃ s, t.getD Q ckD = s := ⟨_, rfl⟩
      obtain ⟨p0, p1, p2, p3, p4, p5, _⟩ := e1 Q hfl
      rw [hy] at p0 p1 p2 p3 p4 p5
      simp only at p0 p1 p2 p3 p4 p5
      obtain ⟨bQ, hbQ⟩ : ∃ b, onC ⟨y0, y1, y2, y3, y4, y5⟩ d = b := ⟨_, rfl⟩
      have HbQ := Lib.hid hbQ
      have hyk : t.getD (ckF t x5) ckD = ⟨y0, y1, y2, y3, y4, y5⟩ := by rw [hQ]; exact hy
      cases bQ
      · obtain ⟨bE, hbE⟩ : ∃ b, hasR (bits .or .i64 x2 y2) 10 = b := ⟨_, rfl⟩
        have HbE := Lib.hid hbE
        cases bE
        · have HR : Hid (rightsC t ⟨x0, x1, x2, x3, x4, x5⟩ d = bits .or .i64 x2 y2) := Lib.hid (by have := rights_both (t := t) (x := ⟨x0, x1, x2, x3, x4, x5⟩) hbO hflk (by simp only; rw [hyk]; exact hbQ) (by simp only; rw [hyk]; exact hbE); simp only at this; rw [this]; rw [hyk])
          clear q0 q1 q2 q3 q4 q5 hok_x hx hst hone hbO hbQ hyk hy hfl hflk hQ e1 h5 hbE
          go_enter Try.func105, Try.ntmps105
          go_wp2_with (first | (go_at_call 138; with_reducible refine (l11On_any ⟨x0, x1, x2, x3, x4, x5⟩ d _).mono ?_; rw [HbO.out]; rintro e w1 ⟨rfl, b1⟩; have c2 := cell_kept (cell_new w _ _ 2 rfl) b1; have c5 := cell_kept (cell_new w _ _ 5 rfl) b1; replace b1 := below_chain (below_al (Below.refl w.heap.size w) _) b1) | (go_at_call 104; refine (l11Find_any _ t x5 _ (H.out.below rCk_stable b1)).mono ?_; rw [HFI.out]; rintro e w3 ⟨rfl, b3⟩; replace c2 := cell_kept c2 b3; replace b3 := b1.trans (b3.mono b1.size); have r0 := cell_kept p0 b3; have r1 := cell_kept p1 b3; have r2 := cell_kept p2 b3; have r3 := cell_kept p3 b3; have r4 := cell_kept p4 b3; have r5 := cell_kept p5 b3; have c2a := fun o : Obj => below_al_cell c2 o) | (go_at_call 138; with_reducible refine (l11On_any ⟨y0, y1, y2, y3, y4, y5⟩ d _).mono ?_; rw [HbQ.out]; rintro e w4 ⟨rfl, b4⟩; have c2b := cell_kept (c2a _) b4; replace b4 := (below_al b3 _).trans (b4.mono (below_al b3 _).size)) | (go_at_call 139; refine (l11Both_any _ _).mono ?_; rw [HbE.out]; rintro e w' ⟨rfl, rfl⟩))
          go_ret
          exact ⟨ret_int HR.out.symm, b4⟩
        · have HR : Hid (rightsC t ⟨x0, x1, x2, x3, x4, x5⟩ d = x2) := Lib.hid (by have := rights_ex (t := t) (x := ⟨x0, x1, x2, x3, x4, x5⟩) hbO hflk (by simp only; rw [hyk]; exact hbQ) (by simp only; rw [hyk]; exact hbE); simp only at this; rw [this])
          clear q0 q1 q2 q3 q4 q5 hok_x hx hst hone hbO hbQ hyk hy hfl hflk hQ e1 h5 hbE
          go_enter Try.func105, Try.ntmps105
          go_wp2_with (first | (go_at_call 138; with_reducible refine (l11On_any ⟨x0, x1, x2, x3, x4, x5⟩ d _).mono ?_; rw [HbO.out]; rintro e w1 ⟨rfl, b1⟩; have c2 := cell_kept (cell_new w _ _ 2 rfl) b1; have c5 := cell_kept (cell_new w _ _ 5 rfl) b1; replace b1 := below_chain (below_al (Below.refl w.heap.size w) _) b1) | (go_at_call 104; refine (l11Find_any _ t x5 _ (H.out.below rCk_stable b1)).mono ?_; rw [HFI.out]; rintro e w3 ⟨rfl, b3⟩; replace c2 := cell_kept c2 b3; replace b3 := b1.trans (b3.mono b1.size); have r0 := cell_kept p0 b3; have r1 := cell_kept p1 b3; have r2 := cell_kept p2 b3; have r3 := cell_kept p3 b3; have r4 := cell_kept p4 b3; have r5 := cell_kept p5 b3; have c2a := fun o : Obj => below_al_cell c2 o) | (go_at_call 138; with_reducible refine (l11On_any ⟨y0, y1, y2, y3, y4, y5⟩ d _).mono ?_; rw [HbQ.out]; rintro e w4 ⟨rfl, b4⟩; have c2b := cell_kept (c2a _) b4; replace b4 := (below_al b3 _).trans (b4.mono (below_al b3 _).size)) | (go_at_call 139; refine (l11Both_any _ _).mono ?_; rw [HbE.out]; rintro e w' ⟨rfl, rfl⟩))
          go_ret
          exact ⟨ret_int HR.out.symm, b4⟩
      · have HR : Hid (rightsC t ⟨x0, x1, x2, x3, x4, x5⟩ d = x2) := Lib.hid (rights_own hbO (.inr (by simp only; rw [hyk]; exact hbQ)))
        clear q0 q1 q2 q3 q4 q5 hok_x hx hst hone hbO hbQ hyk hy hfl hflk hQ e1 h5
        go_enter Try.func105, Try.ntmps105
        go_wp2_with (first | (go_at_call 138; with_reducible refine (l11On_any ⟨x0, x1, x2, x3, x4, x5⟩ d _).mono ?_; rw [HbO.out]; rintro e w1 ⟨rfl, b1⟩; have c2 := cell_kept (cell_new w _ _ 2 rfl) b1; have c5 := cell_kept (cell_new w _ _ 5 rfl) b1; replace b1 := below_chain (below_al (Below.refl w.heap.size w) _) b1) | (go_at_call 104; refine (l11Find_any _ t x5 _ (H.out.below rCk_stable b1)).mono ?_; rw [HFI.out]; rintro e w3 ⟨rfl, b3⟩; replace c2 := cell_kept c2 b3; replace b3 := b1.trans (b3.mono b1.size); have r0 := cell_kept p0 b3; have r1 := cell_kept p1 b3; have r2 := cell_kept p2 b3; have r3 := cell_kept p3 b3; have r4 := cell_kept p4 b3; have r5 := cell_kept p5 b3; have c2a := fun o : Obj => below_al_cell c2 o) | (go_at_call 138; with_reducible refine (l11On_any ⟨y0, y1, y2, y3, y4, y5⟩ d _).mono ?_; rw [HbQ.out]; rintro e w4 ⟨rfl, b4⟩; have c2b := cell_kept (c2a _) b4; replace b4 := (below_al b3 _).trans (b4.mono (below_al b3 _).size)))
        go_ret
        exact ⟨ret_int HR.out.symm, b4⟩
    · have d5 : decide (0 < x5) = false := decide_eq_false h5
      have HR : Hid (rightsC t ⟨x0, x1, x2, x3, x4, x5⟩ d = x2) := Lib.hid (rights_own hbO (.inl (fun hh => h5 (hst.1 hh))))
      clear q0 q1 q2 q3 q4 q5 hok_x hx hst hone hbO e1 h5
      go_enter Try.func105, Try.ntmps105
      go_wp2_with (first | (go_at_call 138; with_reducible refine (l11On_any ⟨x0, x1, x2, x3, x4, x5⟩ d _).mono ?_; rw [HbO.out]; rintro e w1 ⟨rfl, b1⟩; have c2 := cell_kept (cell_new w _ _ 2 rfl) b1; have c5 := cell_kept (cell_new w _ _ 5 rfl) b1; replace b1 := below_chain (below_al (Below.refl w.heap.size w) _) b1))
      go_ret
      exact ⟨ret_int HR.out.symm, b1⟩

set_option maxRecDepth 20000 in
set_option maxHeartbeats 4000000 in
theorem specRightsOn_any (v : Value) (t : List Ck) (x d : Int) (w : World) (h : RowR 6 rCk w v t) (c : Int) (b : Bool) (hres : rOnRes t x d = (c, b)) :
    Calls Try.prog 48 #[v, .int .i64 x, .int .i64 d] w fun e w' => e = .returned (.tuple #[.int .i64 c, .bool b]) ∧ Below w.heap.size w w' := by
  have H := Lib.hid h
  clear h
  obtain ⟨bA, hbA⟩ : ∃ b, areCk t = b := ⟨_, rfl⟩
  obtain ⟨bD, hbD⟩ : ∃ b, dayB d = b := ⟨_, rfl⟩
  have HbA := Lib.hid hbA
  have HbD := Lib.hid hbD
  cases bA
  · rw [rOn_bad hbA] at hres
    obtain ⟨rfl, rfl⟩ := Prod.mk.inj hres
    obtain ⟨ci, hci⟩ : ∃ c, ckI t x = c := ⟨_, rfl⟩
    have HCI := Lib.hid hci
    try clear hbA
    try clear hbD
    try clear hci
    try clear hfl
    go_enter Try.func48, Try.ntmps48
    go_wp2_with (first | (go_at_call 104; refine (l11Find_any _ t x _ H.out).mono ?_; rw [HCI.out]; rintro e w1 ⟨rfl, b1⟩) | (go_at_call 99; refine (l11Good_any _ t _ (H.out.below rCk_stable b1)).mono ?_; rw [HbA.out]; rintro e w2 ⟨rfl, b2⟩; replace b2 := b1.trans (b2.mono b1.size)))
    go_ret2
    exact ⟨rfl, b2⟩
  · by_cases hfl : ckF t x < t.length
    · obtain ⟨P, hP⟩ : ∃ P, ckF t x = P := ⟨_, rfl⟩
      have hflk := hfl
      rw [hP] at hfl
      have hci : ckI t x = (P : Int) := by rw [ckI_yes hflk, hP]
      have gP : decide ((P : Int) < 0) = false := decide_eq_false (by omega)
      have HPL := Lib.hid hfl
      cases bD
      · rw [rOn_day hbD] at hres
        obtain ⟨rfl, rfl⟩ := Prod.mk.inj hres
        have HCI : Hid (ckI t x = (P : Int)) := Lib.hid (by first | exact hci | exact ckI_no hfl)
        try clear hbA
        try clear hbD
        try clear hci
        try clear hfl
        go_enter Try.func48, Try.ntmps48
        go_wp2_with (first | (go_at_call 104; refine (l11Find_any _ t x _ H.out).mono ?_; rw [HCI.out]; rintro e w1 ⟨rfl, b1⟩) | (go_at_call 99; refine (l11Good_any _ t _ (H.out.below rCk_stable b1)).mono ?_; rw [HbA.out]; rintro e w2 ⟨rfl, b2⟩; replace b2 := b1.trans (b2.mono b1.size)) | (go_at_call 79; refine (l2DayB_any _ _).mono ?_; rw [HbD.out]; rintro e w' ⟨rfl, rfl⟩))
        go_ret2
        exact ⟨rfl, b2⟩
      · rw [rOn_yes hbA hflk hbD, hP] at hres
        obtain ⟨rfl, rfl⟩ := Prod.mk.inj hres
        obtain ⟨R, hR⟩ : ∃ R, rightsC t (t.getD P ckD) d = R := ⟨_, rfl⟩
        rw [hR]
        have HR := Lib.hid hR
        clear hR
        have HCI : Hid (ckI t x = (P : Int)) := Lib.hid (by first | exact hci | exact ckI_no hfl)
        try clear hbA
        try clear hbD
        try clear hci
        try clear hfl
        go_enter Try.func48, Try.ntmps48
        go_wp2_with (first | (go_at_call 104; refine (l11Find_any _ t x _ H.out).mono ?_; rw [HCI.out]; rintro e w1 ⟨rfl, b1⟩) | (go_at_call 99; refine (l11Good_any _ t _ (H.out.below rCk_stable b1)).mono ?_; rw [HbA.out]; rintro e w2 ⟨rfl, b2⟩; replace b2 := b1.trans (b2.mono b1.size)) | (go_at_call 79; refine (l2DayB_any _ _).mono ?_; rw [HbD.out]; rintro e w' ⟨rfl, rfl⟩) | (go_at_call 105; refine (l11Rights_any _ t P d _ (H.out.below rCk_stable b2) HbA.out HPL.out).mono ?_; rw [HR.out]; rintro e w3 ⟨rfl, b3⟩; replace b3 := b2.trans (b3.mono b2.size)))
        go_ret2
        exact ⟨rfl, b3⟩
    · rw [rOn_no hfl] at hres
      obtain ⟨rfl, rfl⟩ := Prod.mk.inj hres
      have HCI : Hid (ckI t x = -1) := Lib.hid (by first | exact hci | exact ckI_no hfl)
      try clear hbA
      try clear hbD
      try clear hci
      try clear hfl
      go_enter Try.func48, Try.ntmps48
      go_wp2_with (first | (go_at_call 104; refine (l11Find_any _ t x _ H.out).mono ?_; rw [HCI.out]; rintro e w1 ⟨rfl, b1⟩) | (go_at_call 99; refine (l11Good_any _ t _ (H.out.below rCk_stable b1)).mono ?_; rw [HbA.out]; rintro e w2 ⟨rfl, b2⟩; replace b2 := b1.trans (b2.mono b1.size)))
      go_ret2
      exact ⟨rfl, b2⟩

set_option maxRecDepth 20000 in
set_option maxHeartbeats 4000000 in
theorem specMayDo_any (v : Value) (t : List Ck) (x r d : Int) (w : World) (h : RowR 6 rCk w v t) (c b : Bool) (hres : mayRes t x r d = (c, b)) :
    Calls Try.prog 46 #[v, .int .i64 x, .int .i64 r, .int .i64 d] w fun e w' => e = .returned (.tuple #[.bool c, .bool b]) ∧ Below w.heap.size w w' := by
  have H := Lib.hid h
  clear h
  obtain ⟨rc, rb, hro⟩ : ∃ c b, rOnRes t x d = (c, b) := ⟨_, _, rfl⟩
  rw [may_is hro] at hres
  obtain ⟨bS, hbS⟩ : ∃ b, sumB r = b := ⟨_, rfl⟩
  obtain ⟨bC, hbC⟩ : ∃ b, hasR rc r = b := ⟨_, rfl⟩
  have dC : (bits .and .i64 rc r == r) = bC := by rw [← hbC, Bool.eq_iff_iff]; simp [hasR]
  rw [hbS, hbC] at hres
  have HbS := Lib.hid hbS
  have HbC := Lib.hid hbC
  have HRO := Lib.hid hro
  clear hbS hbC hro
  cases rb
  · rw [if_neg (by simp)] at hres
    obtain ⟨rfl, rfl⟩ := Prod.mk.inj hres
    go_enter Try.func46, Try.ntmps46
    go_wp2_with (first | (go_at_call 48; refine (specRightsOn_any _ t x d _ H.out _ _ HRO.out).mono ?_; rintro e w1 ⟨rfl, b1⟩))
    go_ret2
    exact ⟨rfl, b1⟩
  · cases bS
    · rw [if_neg (by simp)] at hres
      obtain ⟨rfl, rfl⟩ := Prod.mk.inj hres
      go_enter Try.func46, Try.ntmps46
      go_wp2_with (first | (go_at_call 48; refine (specRightsOn_any _ t x d _ H.out _ _ HRO.out).mono ?_; rintro e w1 ⟨rfl, b1⟩) | (go_at_call 100; refine (l11Sum_any _ _).mono ?_; rw [HbS.out]; rintro e w' ⟨rfl, rfl⟩))
      go_ret2
      exact ⟨rfl, b1⟩
    · rw [if_pos ⟨rfl, rfl⟩] at hres
      obtain ⟨rfl, rfl⟩ := Prod.mk.inj hres
      go_enter Try.func46, Try.ntmps46
      go_wp2_with (first | (go_at_call 48; refine (specRightsOn_any _ t x d _ H.out _ _ HRO.out).mono ?_; rintro e w1 ⟨rfl, b1⟩) | (go_at_call 100; refine (l11Sum_any _ _).mono ?_; rw [HbS.out]; rintro e w' ⟨rfl, rfl⟩))
      go_ret2
      exact ⟨rfl, b1⟩

set_option maxRecDepth 20000 in
set_option maxHeartbeats 4000000 in
theorem l11Who_any (v : Value) (t : List Ck) (r d : Int) (w : World) (h : RowR 6 rCk w v t) (ht : areCk t = true) :
    Calls Try.prog 101 #[v, .int .i64 r, .int .i64 d] w fun e w' => ∃ v', e = .returned v' ∧ IntsO w.heap.size w'.heap.size w' v' (whoF t r d t) ∧ Below w.heap.size w w' := by
  obtain ⟨i0, hi, hz0, hz1, hz2⟩ := info_parts Try.info_intI
  have hcap := h.cap
  have H := Lib.hid h
  obtain ⟨a1, c1, rfl, hl1, hm1, r1⟩ := h.cks
  have R1 := Lib.hid r1
  clear h r1
  unfold maxLen at hm1
  have HT := Lib.hid ht
  have h8 := ck_len ht
  clear ht
  have HI0 := Lib.hid (ints_newK w).1
  go_enter Try.func101, Try.ntmps101
  go_wp2_with fail
  go_loopw [7, 8] (fun o i wr => ∃ k : Nat, k ≤ t.length ∧ i = .int .i64 k ∧ wr.ownsRow w.heap.size 3 1 o (whoF t r d (t.take k)).length ((whoF t r d (t.take k)).map vI) ∧ Below w.heap.size w wr) (fun _ i _ => t.length - (intOf i).toNat)
  case atStart => exact ⟨0, Nat.zero_le _, rfl, by have h0 := HI0.out; simpa [whoF] using h0, below_al (Below.refl _ _) _⟩
  case round =>
    obtain ⟨k, hk, rfl, hO, hb⟩ := hrel
    have hsz := hb.size
    by_cases hlt : k < t.length
    · obtain ⟨b1, o1, hb1, rfl, e1⟩ := R1.out.resolve_left (fun e => by rw [e] at hlt; simp at hlt)
      obtain ⟨⟨x0, x1, x2, x3, x4, x5⟩, hx⟩ : ∃ s, t.getD k ckD = s := ⟨_, rfl⟩
      obtain ⟨q0, q1, q2, q3, q4, q5, hok_x⟩ := e1 k hlt
      rw [hx] at q0 q1 q2 q3 q4 q5 hok_x
      simp only at q0 q1 q2 q3 q4 q5
      have f0 := cell_kept q0 hb
      have f1 := cell_kept q1 hb
      have f2 := cell_kept q2 hb
      have f3 := cell_kept q3 hb
      have f4 := cell_kept q4 hb
      have f5 := cell_kept q5 hb
      have hlen := whoF_len t r d (t.take k)
      rw [List.length_take] at hlen
      obtain ⟨R, hR⟩ : ∃ R, rightsC t (t.getD k ckD) d = R := ⟨_, rfl⟩
      obtain ⟨bC, hbC⟩ : ∃ b, hasR R r = b := ⟨_, rfl⟩
      have dC : (bits .and .i64 R r == r) = bC := by rw [← hbC, Bool.eq_iff_iff]; simp [hasR]
      have hsy := whoF_yes (t := t) (r := r) (d := d) hlt
      have hsn := whoF_no (t := t) (r := r) (d := d) hlt
      rw [hR, hbC, hx] at hsy
      rw [hR, hbC] at hsn
      obtain ⟨Pp, hP⟩ : ∃ P, whoF t r d (t.take k) = P := ⟨_, rfl⟩
      rw [hP] at hO hlen hsy hsn
      have HSY := Lib.hid hsy
      have HSN := Lib.hid hsn
      have HO := Lib.hid hO
      have HbC := Lib.hid hbC
      have HR := Lib.hid hR
      have HLT := Lib.hid hlt
      have g0 : (0 : Int) ≤ (k : Int) := by omega
      have g1 : (k : Int) < (t.length : Int) := by omega
      clear q0 q1 q2 q3 q4 q5 hok_x hx e1 hsy hsn hP hbC hO hR
      cases bC
      · have HSU2 := Lib.hid (HSN.out rfl)
        go_wp2_with (first | (go_at_call 105; refine (l11Rights_any _ t k d _ (H.out.below rCk_stable hb) HT.out HLT.out).mono ?_; rw [HR.out]; rintro e w6 ⟨rfl, b6⟩; replace f0 := cell_kept f0 b6; have f0' := (fun o : Obj => below_al_cell f0 o); have HO6 := Lib.hid (ownsRow_below HO.out b6); have hb6 := hb.trans (b6.mono hsz); have hs6 := hb6.size))
        go_roundw
        case rel => exact ⟨k + 1, by omega, by go_num, (by rw [HSU2.out]; exact HO6.out), hb6⟩
        case measure => simp [intOf]; omega
      · have HSU2 := Lib.hid (HSY.out rfl)
        go_wp2_with (first | (go_at_call 105; refine (l11Rights_any _ t k d _ (H.out.below rCk_stable hb) HT.out HLT.out).mono ?_; rw [HR.out]; rintro e w6 ⟨rfl, b6⟩; replace f0 := cell_kept f0 b6; have f0' := (fun o : Obj => below_al_cell f0 o); have HO6 := Lib.hid (ownsRow_below HO.out b6); have hb6 := hb.trans (b6.mono hsz); have hs6 := hb6.size) | (at_builtin; refine wpList_append_own _ rfl _ _ 34 rfl w.heap.size 3 i0 (.int .i64 0) 1 8 Try.underlying34 hi hz0 hz1 hz2 rfl (by decide) _ _ _ rfl (HO6.out.alloc _) ⟨w6.heap.size, 0, none⟩ 1 1 [.int .i64 x0] rfl rfl (cell_oneI _ _ _ (by simp)) (by simp [Value.oneCell']) (by unfold maxLen; omega) (by omega) (by simp; omega) ?_; intro v' w7 hown' hgrow _))
        have HOWN := Lib.hid hown'
        have HB7 := Lib.hid (below_app hb6 (Nat.le_refl _) HO6.out hgrow)
        clear hown' hgrow
        go_wp2_with fail
        go_roundw
        case rel => exact ⟨k + 1, by omega, by go_num, (by rw [HSU2.out]; simpa [vI] using HOWN.out), HB7.out⟩
        case measure => simp [intOf]; omega
    · obtain rfl : k = t.length := by omega
      rw [List.take_length] at hO
      have HO := Lib.hid hO
      clear hO
      go_wp2_with fail
      go_ret
      exact ⟨_, rfl, ints_rowK HO.out rfl, hb⟩

set_option maxRecDepth 20000 in
set_option maxHeartbeats 4000000 in
theorem specWhoMay_any (v : Value) (t : List Ck) (r d : Int) (w : World) (h : RowR 6 rCk w v t) (xs : List Int) (b : Bool) (hres : whoRes t r d = (xs, b)) :
    Calls Try.prog 39 #[v, .int .i64 r, .int .i64 d] w fun e w' => ∃ v', e = .returned (.tuple #[v', .bool b]) ∧ IntsO w.heap.size w'.heap.size w' v' xs ∧ Below w.heap.size w w' := by
  have H := Lib.hid h
  clear h
  obtain ⟨bA, hbA⟩ : ∃ b, areCk t = b := ⟨_, rfl⟩
  obtain ⟨bS, hbS⟩ : ∃ b, sumB r = b := ⟨_, rfl⟩
  obtain ⟨bD, hbD⟩ : ∃ b, dayB d = b := ⟨_, rfl⟩
  have HbA := Lib.hid hbA
  have HbS := Lib.hid hbS
  have HbD := Lib.hid hbD
  cases bA
  · rw [who_no (by rw [hbA, hbS, hbD]; simp)] at hres
    obtain ⟨rfl, rfl⟩ := Prod.mk.inj hres
    clear hbA hbS hbD
    go_enter Try.func39, Try.ntmps39
    go_wp2_with (first | (go_at_call 99; refine (l11Good_any _ t _ H.out).mono ?_; rw [HbA.out]; rintro e w1 ⟨rfl, b1⟩))
    go_ret2
    exact ⟨_, rfl, (ints_newK _).wide b1.size (Nat.le_refl _), below_al b1 _⟩
  · cases bS
    · rw [who_no (by rw [hbA, hbS, hbD]; simp)] at hres
      obtain ⟨rfl, rfl⟩ := Prod.mk.inj hres
      clear hbA hbS hbD
      go_enter Try.func39, Try.ntmps39
      go_wp2_with (first | (go_at_call 99; refine (l11Good_any _ t _ H.out).mono ?_; rw [HbA.out]; rintro e w1 ⟨rfl, b1⟩) | (go_at_call 100; refine (l11Sum_any _ _).mono ?_; rw [HbS.out]; rintro e w' ⟨rfl, rfl⟩))
      go_ret2
      exact ⟨_, rfl, (ints_newK _).wide b1.size (Nat.le_refl _), below_al b1 _⟩
    · cases bD
      · rw [who_no (by rw [hbA, hbS, hbD]; simp)] at hres
        obtain ⟨rfl, rfl⟩ := Prod.mk.inj hres
        clear hbA hbS hbD
        go_enter Try.func39, Try.ntmps39
        go_wp2_with (first | (go_at_call 99; refine (l11Good_any _ t _ H.out).mono ?_; rw [HbA.out]; rintro e w1 ⟨rfl, b1⟩) | (go_at_call 100; refine (l11Sum_any _ _).mono ?_; rw [HbS.out]; rintro e w' ⟨rfl, rfl⟩) | (go_at_call 79; refine (l2DayB_any _ _).mono ?_; rw [HbD.out]; rintro e w' ⟨rfl, rfl⟩))
        go_ret2
        exact ⟨_, rfl, (ints_newK _).wide b1.size (Nat.le_refl _), below_al b1 _⟩
      · rw [who_yes hbA hbS hbD] at hres
        obtain ⟨rfl, rfl⟩ := Prod.mk.inj hres
        clear hbA hbS hbD
        go_enter Try.func39, Try.ntmps39
        go_wp2_with (first | (go_at_call 99; refine (l11Good_any _ t _ H.out).mono ?_; rw [HbA.out]; rintro e w1 ⟨rfl, b1⟩) | (go_at_call 100; refine (l11Sum_any _ _).mono ?_; rw [HbS.out]; rintro e w' ⟨rfl, rfl⟩) | (go_at_call 79; refine (l2DayB_any _ _).mono ?_; rw [HbD.out]; rintro e w' ⟨rfl, rfl⟩) | (go_at_call 101; refine (l11Who_any _ t r d _ (H.out.below rCk_stable b1) HbA.out).mono ?_; rintro e w2 ⟨v2, rfl, hi2, b2⟩))
        go_ret2
        exact ⟨_, rfl, hi2.wide b1.size (Nat.le_refl _), below_chain b1 b2⟩

theorem below_drewS {n : Nat} {a b : World} (h : Below n a b) (k : Nat) : Below n a (b.drewN k) := ⟨h.os, h.tape, h.output, h.size, h.block⟩
set_option maxRecDepth 20000 in
set_option maxHeartbeats 4000000 in
theorem specPairFor_any (v : Value) (t : List Ck) (d : Int) (w : World) (h : RowR 6 rCk w v t) (c1' c2' : Int) (b : Bool) (hres : pairRes t d = (c1', c2', b)) :
    Calls Try.prog 44 #[v, .int .i64 d] w fun e w' => e = .returned (.tuple #[.int .i64 c1', .int .i64 c2', .bool b]) ∧ Below w.heap.size w w' := by
  have H := Lib.hid h
  clear h
  obtain ⟨bA, hbA⟩ : ∃ b, areCk t = b := ⟨_, rfl⟩
  obtain ⟨bD, hbD⟩ : ∃ b, dayB d = b := ⟨_, rfl⟩
  have HbA := Lib.hid hbA
  have HbD := Lib.hid hbD
  cases bA
  · rw [pair_no (by rw [hbA, hbD]; simp)] at hres
    obtain ⟨rfl, hres2⟩ := Prod.mk.inj hres
    obtain ⟨rfl, rfl⟩ := Prod.mk.inj hres2
    clear hbA hbD
    go_enter Try.func44, Try.ntmps44
    go_wp2_with (first | (go_at_call 99; refine (l11Good_any _ t _ H.out).mono ?_; rw [HbA.out]; rintro e w1 ⟨rfl, b1⟩))
    go_ret3
    exact ⟨rfl, b1⟩
  · cases bD
    · rw [pair_no (by rw [hbA, hbD]; simp)] at hres
      obtain ⟨rfl, hres2⟩ := Prod.mk.inj hres
      obtain ⟨rfl, rfl⟩ := Prod.mk.inj hres2
      clear hbA hbD
      go_enter Try.func44, Try.ntmps44
      go_wp2_with (first | (go_at_call 99; refine (l11Good_any _ t _ H.out).mono ?_; rw [HbA.out]; rintro e w1 ⟨rfl, b1⟩) | (go_at_call 79; refine (l2DayB_any _ _).mono ?_; rw [HbD.out]; rintro e w' ⟨rfl, rfl⟩))
      go_ret3
      exact ⟨rfl, b1⟩
    · obtain ⟨X, hX⟩ : ∃ X, whoF t 2 d t = X := ⟨_, rfl⟩
      obtain ⟨Y, hY⟩ : ∃ Y, whoF t 8 d t = Y := ⟨_, rfl⟩
      have hl2 := whoF_len t 2 d t
      have hl8 := whoF_len t 8 d t
      rw [hX] at hl2
      rw [hY] at hl8
      have HX := Lib.hid hX
      have HY := Lib.hid hY
      rcases X with _ | ⟨x, XX⟩
      · rw [pair_a hX] at hres
        obtain ⟨rfl, hres2⟩ := Prod.mk.inj hres
        obtain ⟨rfl, rfl⟩ := Prod.mk.inj hres2
        clear hbA hbD hX hY
        go_enter Try.func44, Try.ntmps44
        go_wp2_with (first | (go_at_call 99; refine (l11Good_any _ t _ H.out).mono ?_; rw [HbA.out]; rintro e w1 ⟨rfl, b1⟩) | (go_at_call 79; refine (l2DayB_any _ _).mono ?_; rw [HbD.out]; rintro e w' ⟨rfl, rfl⟩) | (go_at_call 101; with_reducible refine (l11Who_any _ t 2 d _ (H.out.below rCk_stable b1) HbA.out).mono ?_; rw [HX.out]; rintro e w2 ⟨v2, rfl, hi2, b2⟩; replace b2 := b1.trans (b2.mono b1.size); obtain ⟨la2, lc2, rfl⟩ := hi2.len) | (go_at_call 101; with_reducible refine (l11Who_any _ t 8 d _ (H.out.below rCk_stable b2) HbA.out).mono ?_; rw [HY.out]; rintro e w3 ⟨v3, rfl, hi3, b3⟩; skip; replace b3 := b2.trans (b3.mono b2.size); have hi3L := hi3.len; obtain ⟨la3, lc3, rfl⟩ := hi3L))
        go_ret3
        exact ⟨rfl, b3⟩
      · have gx : ((XX.length : Int) + 1 == 0) = false := by simp; omega
        have gx2 : (0 : Int) < (XX.length : Int) + 1 := by omega
        rcases Y with _ | ⟨y, YY⟩
        · rw [pair_b hY] at hres
          obtain ⟨rfl, hres2⟩ := Prod.mk.inj hres
          obtain ⟨rfl, rfl⟩ := Prod.mk.inj hres2
          clear hbA hbD hX hY
          go_enter Try.func44, Try.ntmps44
          go_wp2_with (first | (go_at_call 99; refine (l11Good_any _ t _ H.out).mono ?_; rw [HbA.out]; rintro e w1 ⟨rfl, b1⟩) | (go_at_call 79; refine (l2DayB_any _ _).mono ?_; rw [HbD.out]; rintro e w' ⟨rfl, rfl⟩) | (go_at_call 101; with_reducible refine (l11Who_any _ t 2 d _ (H.out.below rCk_stable b1) HbA.out).mono ?_; rw [HX.out]; rintro e w2 ⟨v2, rfl, hi2, b2⟩; replace b2 := b1.trans (b2.mono b1.size); obtain ⟨lg2, lc2, rfl, lx2⟩ := hi2.head) | (go_at_call 101; with_reducible refine (l11Who_any _ t 8 d _ (H.out.below rCk_stable b2) HbA.out).mono ?_; rw [HY.out]; rintro e w3 ⟨v3, rfl, hi3, b3⟩; replace lx2 := cell_kept lx2 b3; replace b3 := b2.trans (b3.mono b2.size); obtain ⟨la3, lc3, rfl⟩ := hi3.len))
          go_ret3
          exact ⟨rfl, b3⟩
        · have gy : ((YY.length : Int) + 1 == 0) = false := by simp; omega
          have gy2 : (0 : Int) < (YY.length : Int) + 1 := by omega
          rw [pair_yes hbA hbD hX hY] at hres
          obtain ⟨rfl, hres2⟩ := Prod.mk.inj hres
          obtain ⟨rfl, rfl⟩ := Prod.mk.inj hres2
          clear hbA hbD hX hY
          go_enter Try.func44, Try.ntmps44
          go_wp2_with (first | (go_at_call 99; refine (l11Good_any _ t _ H.out).mono ?_; rw [HbA.out]; rintro e w1 ⟨rfl, b1⟩) | (go_at_call 79; refine (l2DayB_any _ _).mono ?_; rw [HbD.out]; rintro e w' ⟨rfl, rfl⟩) | (go_at_call 101; with_reducible refine (l11Who_any _ t 2 d _ (H.out.below rCk_stable b1) HbA.out).mono ?_; rw [HX.out]; rintro e w2 ⟨v2, rfl, hi2, b2⟩; replace b2 := b1.trans (b2.mono b1.size); obtain ⟨lg2, lc2, rfl, lx2⟩ := hi2.head) | (go_at_call 101; with_reducible refine (l11Who_any _ t 8 d _ (H.out.below rCk_stable b2) HbA.out).mono ?_; rw [HY.out]; rintro e w3 ⟨v3, rfl, hi3, b3⟩; replace lx2 := cell_kept lx2 b3; replace b3 := b2.trans (b3.mono b2.size); obtain ⟨lg3, lc3, rfl, lx3⟩ := hi3.head))
          go_quiet (fail)
          go_wp2_with fail
          go_ret3
          exact ⟨rfl, below_drewS b3 _⟩

set_option maxRecDepth 20000 in
set_option maxHeartbeats 8000000 in
theorem specDays_any (v : Value) (t : List Ck) (r a fin : Int) (w : World) (h : RowR 6 rCk w v t) (xs : List Int) (b : Bool) (hres : daysRes t r a fin = (xs, b)) :
    Calls Try.prog 59 #[v, .int .i64 r, .int .i64 a, .int .i64 fin] w fun e w' => ∃ v', e = .returned (.tuple #[v', .bool b]) ∧ IntsO w.heap.size w'.heap.size w' v' xs ∧ Below w.heap.size w w' := by
  obtain ⟨i0, hi, hz0, hz1, hz2⟩ := info_parts Try.info_intI
  have H := Lib.hid h
  have hcap := h.cap
  clear h
  obtain ⟨bA, hbA⟩ : ∃ b, areCk t = b := ⟨_, rfl⟩
  obtain ⟨bS, hbS⟩ : ∃ b, sumB r = b := ⟨_, rfl⟩
  obtain ⟨bD, hbD⟩ : ∃ b, decide (0 ≤ fin ∧ fin ≤ 20000) = b := ⟨_, rfl⟩
  obtain ⟨bI, hbI⟩ : ∃ b, decide (0 ≤ a ∧ a ≤ fin) = b := ⟨_, rfl⟩
  have HbA := Lib.hid hbA
  have HbS := Lib.hid hbS
  have HbD := Lib.hid hbD
  have HbI := Lib.hid hbI
  cases bA
  · rw [days_no (by unfold spanB; rw [hbA, hbS, hbD, hbI]; simp)] at hres
    obtain ⟨rfl, rfl⟩ := Prod.mk.inj hres
    clear hbA hbS hbD hbI
    go_enter Try.func59, Try.ntmps59
    go_wp2_with (first | (go_at_call 99; refine (l11Good_any _ t _ (H.out.below rCk_stable (below_al (Below.refl _ _) _))).mono ?_; rw [HbA.out]; rintro e w1 ⟨rfl, b1⟩; have HI1 := Lib.hid (((ints_newK w).below b1).wide (Nat.le_refl _) b1.size); replace b1 := below_chain (below_al (Below.refl w.heap.size w) _) b1))
    go_ret2
    exact ⟨_, rfl, HI1.out, b1⟩
  · cases bS
    · rw [days_no (by unfold spanB; rw [hbA, hbS, hbD, hbI]; simp)] at hres
      obtain ⟨rfl, rfl⟩ := Prod.mk.inj hres
      clear hbA hbS hbD hbI
      go_enter Try.func59, Try.ntmps59
      go_wp2_with (first | (go_at_call 99; refine (l11Good_any _ t _ (H.out.below rCk_stable (below_al (Below.refl _ _) _))).mono ?_; rw [HbA.out]; rintro e w1 ⟨rfl, b1⟩; have HI1 := Lib.hid (((ints_newK w).below b1).wide (Nat.le_refl _) b1.size); replace b1 := below_chain (below_al (Below.refl w.heap.size w) _) b1) | (go_at_call 100; refine (l11Sum_any _ _).mono ?_; rw [HbS.out]; rintro e w' ⟨rfl, rfl⟩))
      go_ret2
      exact ⟨_, rfl, HI1.out, b1⟩
    · cases bD
      · rw [days_no (by unfold spanB; rw [hbA, hbS, hbD, hbI]; simp)] at hres
        obtain ⟨rfl, rfl⟩ := Prod.mk.inj hres
        clear hbA hbS hbD hbI
        go_enter Try.func59, Try.ntmps59
        go_wp2_with (first | (go_at_call 99; refine (l11Good_any _ t _ (H.out.below rCk_stable (below_al (Below.refl _ _) _))).mono ?_; rw [HbA.out]; rintro e w1 ⟨rfl, b1⟩; have HI1 := Lib.hid (((ints_newK w).below b1).wide (Nat.le_refl _) b1.size); replace b1 := below_chain (below_al (Below.refl w.heap.size w) _) b1) | (go_at_call 100; refine (l11Sum_any _ _).mono ?_; rw [HbS.out]; rintro e w' ⟨rfl, rfl⟩) | (go_at_call 79; refine (l2Day_any _ _).mono ?_; rw [HbD.out]; rintro e w' ⟨rfl, rfl⟩))
        go_ret2
        exact ⟨_, rfl, HI1.out, b1⟩
      · cases bI
        · rw [days_no (by unfold spanB; rw [hbA, hbS, hbD, hbI]; simp)] at hres
          obtain ⟨rfl, rfl⟩ := Prod.mk.inj hres
          clear hbA hbS hbD hbI
          go_enter Try.func59, Try.ntmps59
          go_wp2_with (first | (go_at_call 99; refine (l11Good_any _ t _ (H.out.below rCk_stable (below_al (Below.refl _ _) _))).mono ?_; rw [HbA.out]; rintro e w1 ⟨rfl, b1⟩; have HI1 := Lib.hid (((ints_newK w).below b1).wide (Nat.le_refl _) b1.size); replace b1 := below_chain (below_al (Below.refl w.heap.size w) _) b1) | (go_at_call 100; refine (l11Sum_any _ _).mono ?_; rw [HbS.out]; rintro e w' ⟨rfl, rfl⟩) | (go_at_call 79; refine (l2Day_any _ _).mono ?_; rw [HbD.out]; rintro e w' ⟨rfl, rfl⟩) | (go_at_call 112; refine (l1In_any _ _ _ _).mono ?_; rw [HbI.out]; rintro e w' ⟨rfl, rfl⟩))
          go_ret2
          exact ⟨_, rfl, HI1.out, b1⟩
        · have hin := of_decide_eq_true hbI
          have hfi := of_decide_eq_true hbD
          have wsub : IntKind.i64.wrap (fin - a) = fin - a := Go.IntWalk.i64_in _ (by omega)
          by_cases h200 : fin - a ≤ 200
          · have d200 : decide (200 < fin - a) = false := decide_eq_false (by omega)
            rw [days_yes hbA hbS (by unfold spanB; rw [hbD, hbI, decide_eq_true h200]; rfl)] at hres
            obtain ⟨rfl, rfl⟩ := Prod.mk.inj hres
            have h8 := ck_len hbA
            clear hbA hbS hbD hbI
            go_enter Try.func59, Try.ntmps59
            go_wp2_with (first | (go_at_call 99; refine (l11Good_any _ t _ (H.out.below rCk_stable (below_al (Below.refl _ _) _))).mono ?_; rw [HbA.out]; rintro e w1 ⟨rfl, b1⟩; have HI1 := Lib.hid (((ints_newK w).below b1).wide (Nat.le_refl _) b1.size); replace b1 := below_chain (below_al (Below.refl w.heap.size w) _) b1) | (go_at_call 100; refine (l11Sum_any _ _).mono ?_; rw [HbS.out]; rintro e w' ⟨rfl, rfl⟩) | (go_at_call 79; refine (l2Day_any _ _).mono ?_; rw [HbD.out]; rintro e w' ⟨rfl, rfl⟩) | (go_at_call 112; refine (l1In_any _ _ _ _).mono ?_; rw [HbI.out]; rintro e w' ⟨rfl, rfl⟩))
            go_loopw [10, 11] (fun o i wr => ∃ k : Nat, (k : Int) ≤ fin - a + 1 ∧ i = .int .i64 (a + (k : Int)) ∧ wr.ownsRow w.heap.size 3 1 o (daysF t r a k).length ((daysF t r a k).map vI) ∧ Below w.heap.size w wr) (fun _ i _ => (fin + 1 - intOf i).toNat)
            case atStart => exact ⟨0, by omega, by simp, by have h0 := HI1.out.1; simpa [daysF] using h0, b1⟩
            case round =>
              obtain ⟨k, hk, rfl, hO, hb⟩ := hrel
              have hsz := hb.size
              obtain ⟨Pp, hP⟩ : ∃ P, daysF t r a k = P := ⟨_, rfl⟩
              have hlen := daysF_len t r a k
              rw [hP] at hlen
              by_cases hlt : a + (k : Int) ≤ fin
              · have hsy := daysF_yes (t := t) (r := r) (a := a) (n := k)
                have hsn := daysF_no (t := t) (r := r) (a := a) (n := k)
                rw [hP] at hO hsy hsn
                obtain ⟨X, hX⟩ : ∃ X, whoF t r (a + (k : Int)) t = X := ⟨_, rfl⟩
                rw [hX] at hsy hsn
                have hl2 := whoF_len t r (a + (k : Int)) t
                rw [hX] at hl2
                have HX := Lib.hid hX
                have HO := Lib.hid hO
                obtain ⟨D, hD⟩ : ∃ D, a + (k : Int) = D := ⟨_, rfl⟩
                rw [hD] at HX hsy hlt ⊢
                have HD := Lib.hid hD
                have hDr : 0 ≤ D ∧ D ≤ 20000 := by omega
                clear hX hP hO
                rcases X with _ | ⟨x, XX⟩
                · have HSU2 := Lib.hid (hsy rfl)
                  clear hsy hsn hD
                  go_wp2_with (first | (go_at_call 101; refine (l11Who_any _ t r D _ (H.out.below rCk_stable hb) HbA.out).mono ?_; rw [HX.out]; rintro e w6 ⟨v6, rfl, hi2, b6⟩; have HO6 := Lib.hid (ownsRow_below HO.out b6); have hb6 := hb.trans (b6.mono hsz); have hs6 := hb6.size; obtain ⟨la2, lc2, rfl⟩ := hi2.len) | (at_builtin; refine wpList_append_own _ rfl _ _ 34 rfl w.heap.size 3 i0 (.int .i64 0) 1 8 Try.underlying34 hi hz0 hz1 hz2 rfl (by decide) _ _ _ rfl (HO6.out.alloc _) ⟨w6.heap.size, 0, none⟩ 1 1 [.int .i64 D] rfl rfl (cell_oneI _ _ _ (by simp)) (by simp [Value.oneCell']) (by unfold maxLen; omega) (by omega) (by simp; omega) ?_; intro v' w7 hown' hgrow _))
                  have HOWN := Lib.hid hown'
                  have HB7 := Lib.hid (below_app hb6 (Nat.le_refl _) HO6.out hgrow)
                  clear hown' hgrow
                  go_wp2_with fail
                  go_roundw
                  case rel => exact ⟨k + 1, by have := HD.out; omega, by have := HD.out; go_num, (by rw [HSU2.out]; simpa [vI] using HOWN.out), HB7.out⟩
                  case measure => simp [intOf]; omega
                · have gx : ((XX.length : Int) + 1 == 0) = false := by simp; omega
                  have HSU2 := Lib.hid (hsn (by simp))
                  clear hsy hsn hD
                  go_wp2_with (first | (go_at_call 101; refine (l11Who_any _ t r D _ (H.out.below rCk_stable hb) HbA.out).mono ?_; rw [HX.out]; rintro e w6 ⟨v6, rfl, hi2, b6⟩; have HO6 := Lib.hid (ownsRow_below HO.out b6); have hb6 := hb.trans (b6.mono hsz); have hs6 := hb6.size; obtain ⟨lg2, lc2, rfl, lx2⟩ := hi2.head))
                  go_roundw
                  case rel => exact ⟨k + 1, by have := HD.out; omega, by have := HD.out; go_num, (by rw [HSU2.out]; exact HO6.out), hb6⟩
                  case measure => simp [intOf]; omega
              · have hkn : k = (fin - a + 1).toNat := by omega
                have HKN := Lib.hid hkn
                have HO := Lib.hid hO
                clear hO hkn hP
                go_wp2_with fail
                go_ret2
                exact ⟨_, rfl, by rw [← HKN.out]; exact ints_rowK HO.out rfl, hb⟩
          · have d200 : decide (200 < fin - a) = true := decide_eq_true (by omega)
            rw [days_no (by unfold spanB; rw [hbA, hbS, hbD, hbI, decide_eq_false h200]; simp)] at hres
            obtain ⟨rfl, rfl⟩ := Prod.mk.inj hres
            clear hbA hbS hbD hbI
            go_enter Try.func59, Try.ntmps59
            go_wp2_with (first | (go_at_call 99; refine (l11Good_any _ t _ (H.out.below rCk_stable (below_al (Below.refl _ _) _))).mono ?_; rw [HbA.out]; rintro e w1 ⟨rfl, b1⟩; have HI1 := Lib.hid (((ints_newK w).below b1).wide (Nat.le_refl _) b1.size); replace b1 := below_chain (below_al (Below.refl w.heap.size w) _) b1) | (go_at_call 100; refine (l11Sum_any _ _).mono ?_; rw [HbS.out]; rintro e w' ⟨rfl, rfl⟩) | (go_at_call 79; refine (l2Day_any _ _).mono ?_; rw [HbD.out]; rintro e w' ⟨rfl, rfl⟩) | (go_at_call 112; refine (l1In_any _ _ _ _).mono ?_; rw [HbI.out]; rintro e w' ⟨rfl, rfl⟩))
            go_ret2
            exact ⟨_, rfl, HI1.out, b1⟩

end Go.Proofs.Ytalaegkfkjpmoaa
