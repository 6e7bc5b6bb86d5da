/- Clerks, the program's: areNeeded, RightsOn, MayDo, WhoMay, PairFor, DaysWithout. -/
import Derived.Test.YtalaegkfkjpmoaaCkI
import Derived.Test.YtalaegkfkjpmoaaIntsV
namespace Go.Proofs.Ytalaegkfkjpmoaa
set_option linter.unusedVariables false
open Go.RowKit Go.Sort

/-- What PairFor answers, after the lists of who may. -/
def pairOf : List Int → List Int → Int × Int × Bool
  | a :: _, b :: _ => (a, b, true)
  | _, _ => (0, 0, false)
theorem pair_who {t : List Ck} {d : Int} {X Y : List Int} {bx by_ : Bool} (hX : whoRes t 2 d = (X, bx)) (hY : whoRes t 8 d = (Y, by_)) : pairRes t d = pairOf X Y := by
  by_cases h : areCk t = true ∧ dayB d = true
  · rw [who_yes h.1 (by decide) h.2] at hX hY
    obtain ⟨rfl, _⟩ := Prod.mk.inj hX
    obtain ⟨rfl, _⟩ := Prod.mk.inj hY
    rcases h3 : whoF t 2 d t with _ | ⟨a, r⟩
    · rw [pair_a h3]; rfl
    · rcases h4 : whoF t 8 d t with _ | ⟨b, s⟩
      · rw [pair_b h4]; rfl
      · rw [pair_yes h.1 h.2 h3 h4]; rfl
  · rw [who_no (fun hh => h ⟨hh.1, hh.2.2⟩)] at hX
    obtain ⟨rfl, _⟩ := Prod.mk.inj hX
    rw [pair_no h]; rfl

theorem areNeeded_any (r : Int) (w : World) : Calls Try.prog 96 #[.int .i64 r] w fun e w' => e = .returned (.bool (sumB r)) ∧ w' = w := by
  have hr : sumB r = decide (1 ≤ r ∧ r ≤ 15) := rfl
  rw [hr]
  clear hr
  by_cases h1 : 1 ≤ r
  · by_cases h2 : r ≤ 15
    · go_enter Try.func96, Try.ntmps96
      go_wp2_with fail
      go_ret
      exact ⟨ret_bool (by first | (simp; done) | (simp; omega)), rfl⟩
    · go_enter Try.func96, Try.ntmps96
      go_wp2_with fail
      go_ret
      exact ⟨ret_bool (by first | (simp; done) | (simp; omega)), rfl⟩
  · go_enter Try.func96, Try.ntmps96
    go_wp2_with fail
    go_ret
    exact ⟨ret_bool (by first | (simp; done) | (simp; omega)), rfl⟩
theorem isDayB_any (d : Int) (w : World) : Calls Try.prog 73 #[.int .i64 d] w fun e w' => e = .returned (.bool (dayB d)) ∧ w' = w := isDay_any d w

set_option maxRecDepth 20000 in
set_option maxHeartbeats 4000000 in
theorem implRightsOn_any (v : Value) (t : List Ck) (x d : Int) (w : World) (h : RowR 6 rCk w v t) (c : Int) (b : Bool) (hres : rOnRes t x d = (c, b)) :
    Calls Try.prog 40 #[v, .int .i64 x, .int .i64 d] w fun e w' => e = .returned (.tuple #[.int .i64 c, .bool b]) ∧ Below w.heap.size w w' := by
  have H := Lib.hid h
  obtain ⟨bA, hbA⟩ : ∃ b, areCk t = b := ⟨_, rfl⟩
  obtain ⟨bD, hbD⟩ : ∃ b, dayB d = b := ⟨_, rfl⟩
  have HbA := Lib.hid hbA
  have HbD := Lib.hid hbD
  cases bA
  · rw [rOn_bad hbA] at hres
    obtain ⟨rfl, rfl⟩ := Prod.mk.inj hres
    clear hbA hbD h
    go_enter Try.func40, Try.ntmps40
    go_wp2_with (first | (go_at_call 102; refine (placeCk_bad _ t x _ H.out HbA.out).mono ?_; rintro e w2 ⟨rfl, b2⟩))
    go_ret2
    exact ⟨rfl, b2⟩
  · by_cases hfl : ckF t x < t.length
    · obtain ⟨P, hP⟩ : ∃ P, ckF t x = P := ⟨_, rfl⟩
      have hflk := hfl
      rw [hP] at hfl
      have HP := Lib.hid hP
      have HPL := Lib.hid hfl
      have g0 : (0 : Int) ≤ (P : Int) := by omega
      have g1 : (P : Int) < (t.length : Int) := by omega
      obtain ⟨a1, c1, rfl, hl1, hm1, r1⟩ := h.cks
      obtain ⟨b1, o1, hb1, rfl, e1⟩ := r1.resolve_left (fun e => by rw [e] at hfl; simp at hfl)
      unfold maxLen at hm1
      obtain ⟨⟨x0, x1, x2, x3, x4, x5⟩, hx⟩ : ∃ s, t.getD P ckD = s := ⟨_, rfl⟩
      obtain ⟨q0, q1, q2, q3, q4, q5, hok_x⟩ := e1 P hfl
      rw [hx] at q0 q1 q2 q3 q4 q5 hok_x
      simp only at q0 q1 q2 q3 q4 q5
      cases bD
      · rw [rOn_day hbD] at hres
        obtain ⟨rfl, rfl⟩ := Prod.mk.inj hres
        clear hbA hbD hP hfl hflk h r1 e1 hx hok_x
        go_enter Try.func40, Try.ntmps40
        go_wp2_with (first | (go_at_call 102; refine (placeCk_yes _ t x _ H.out HbA.out P HPL.out HP.out).mono ?_; rintro e w2 ⟨rfl, b2⟩; have f0 := cell_kept q0 b2; have f1 := cell_kept q1 b2; have f2 := cell_kept q2 b2; have f3 := cell_kept q3 b2; have f4 := cell_kept q4 b2; have f5 := cell_kept q5 b2) | (go_at_call 73; refine (isDayB_any _ _).mono ?_; rw [HbD.out]; rintro e w' ⟨rfl, rfl⟩))
        go_ret2
        exact ⟨rfl, b2⟩
      · rw [rOn_yes hbA hflk hbD, hP, hx] at hres
        obtain ⟨rfl, rfl⟩ := Prod.mk.inj hres
        obtain ⟨R, hR⟩ : ∃ R, rightsC t ⟨x0, x1, x2, x3, x4, x5⟩ d = R := ⟨_, rfl⟩
        rw [hR]
        have HR := Lib.hid hR
        clear hbA hbD hP hfl hflk h r1 e1 hx hR hok_x
        go_enter Try.func40, Try.ntmps40
        go_wp2_with (first | (go_at_call 102; refine (placeCk_yes _ t x _ H.out HbA.out P HPL.out HP.out).mono ?_; rintro e w2 ⟨rfl, b2⟩; have f0 := cell_kept q0 b2; have f1 := cell_kept q1 b2; have f2 := cell_kept q2 b2; have f3 := cell_kept q3 b2; have f4 := cell_kept q4 b2; have f5 := cell_kept q5 b2) | (go_at_call 73; refine (isDayB_any _ _).mono ?_; rw [HbD.out]; rintro e w' ⟨rfl, rfl⟩) | (go_at_call 98; refine (rightsOf_any _ t ⟨x0, x1, x2, x3, x4, x5⟩ d _ (H.out.below rCk_stable b2)).mono ?_; rw [HR.out]; rintro e w3 ⟨rfl, b3⟩; replace b3 := b2.trans (b3.mono b2.size)))
        go_ret2
        exact ⟨rfl, b3⟩
    · rw [rOn_no hfl] at hres
      obtain ⟨rfl, rfl⟩ := Prod.mk.inj hres
      have HFL := Lib.hid hfl
      clear hbA hbD h hfl
      go_enter Try.func40, Try.ntmps40
      go_wp2_with (first | (go_at_call 102; refine (placeCk_no _ t x _ H.out HbA.out HFL.out).mono ?_; rintro e w2 ⟨rfl, b2⟩))
      go_ret2
      exact ⟨rfl, b2⟩

set_option maxRecDepth 20000 in
set_option maxHeartbeats 4000000 in
theorem implMayDo_any (v : Value) (t : List Ck) (x r d : Int) (w : World) (h : RowR 6 rCk w v t) (c b : Bool) (hres : mayRes t x r d = (c, b)) :
    Calls Try.prog 41 #[v, .int .i64 x, .int .i64 r, .int .i64 d] w fun e w' => e = .returned (.tuple #[.bool c, .bool b]) ∧ Below w.heap.size w w' := by
  have H := Lib.hid h
  clear h
  obtain ⟨rc, rb, hro⟩ : ∃ c b, rOnRes t x d = (c, b) := ⟨_, _, rfl⟩
  rw [may_is hro] at hres
  obtain ⟨bS, hbS⟩ : ∃ b, sumB r = b := ⟨_, rfl⟩
  obtain ⟨bC, hbC⟩ : ∃ b, hasR rc r = b := ⟨_, rfl⟩
  have dC : (bits .and .i64 rc r == r) = bC := by rw [← hbC, Bool.eq_iff_iff]; simp [hasR]
  rw [hbS, hbC] at hres
  have HbS := Lib.hid hbS
  have HbC := Lib.hid hbC
  have HRO := Lib.hid hro
  clear hbS hbC hro
  cases rb
  · rw [if_neg (by simp)] at hres
    obtain ⟨rfl, rfl⟩ := Prod.mk.inj hres
    go_enter Try.func41, Try.ntmps41
    go_wp2_with (first | (go_at_call 40; refine (implRightsOn_any _ t x d _ H.out _ _ HRO.out).mono ?_; rintro e w1 ⟨rfl, b1⟩))
    go_ret2
    exact ⟨rfl, b1⟩
  · cases bS
    · rw [if_neg (by simp)] at hres
      obtain ⟨rfl, rfl⟩ := Prod.mk.inj hres
      go_enter Try.func41, Try.ntmps41
      go_wp2_with (first | (go_at_call 40; refine (implRightsOn_any _ t x d _ H.out _ _ HRO.out).mono ?_; rintro e w1 ⟨rfl, b1⟩) | (go_at_call 96; refine (areNeeded_any _ _).mono ?_; rw [HbS.out]; rintro e w' ⟨rfl, rfl⟩))
      go_ret2
      exact ⟨rfl, b1⟩
    · rw [if_pos ⟨rfl, rfl⟩] at hres
      obtain ⟨rfl, rfl⟩ := Prod.mk.inj hres
      go_enter Try.func41, Try.ntmps41
      go_wp2_with (first | (go_at_call 40; refine (implRightsOn_any _ t x d _ H.out _ _ HRO.out).mono ?_; rintro e w1 ⟨rfl, b1⟩) | (go_at_call 96; refine (areNeeded_any _ _).mono ?_; rw [HbS.out]; rintro e w' ⟨rfl, rfl⟩) | (go_at_call 97; refine (hasRights_any _ _ _).mono ?_; rw [HbC.out]; rintro e w' ⟨rfl, rfl⟩))
      go_ret2
      exact ⟨rfl, b1⟩

set_option maxRecDepth 20000 in
set_option maxHeartbeats 4000000 in
theorem implWhoMay_any (v : Value) (t : List Ck) (r d : Int) (w : World) (h : RowR 6 rCk w v t) (xs : List Int) (b : Bool) (hres : whoRes t r d = (xs, b)) :
    Calls Try.prog 38 #[v, .int .i64 r, .int .i64 d] w fun e w' => ∃ v', e = .returned (.tuple #[v', .bool b]) ∧ IntsO w.heap.size w'.heap.size w' v' xs ∧ Below w.heap.size w w' := by
  obtain ⟨i0, hi, hz0, hz1, hz2⟩ := info_parts Try.info_intI
  have hcap := h.cap
  have H := Lib.hid h
  obtain ⟨a1, c1, rfl, hl1, hm1, r1⟩ := h.cks
  have R1 := Lib.hid r1
  clear h r1
  unfold maxLen at hm1
  obtain ⟨bA, hbA⟩ : ∃ b, areCk t = b := ⟨_, rfl⟩
  obtain ⟨bS, hbS⟩ : ∃ b, sumB r = b := ⟨_, rfl⟩
  obtain ⟨bD, hbD⟩ : ∃ b, dayB d = b := ⟨_, rfl⟩
  have HbA := Lib.hid hbA
  have HbS := Lib.hid hbS
  have HbD := Lib.hid hbD
  cases bA
  · rw [who_no (by rw [hbA, hbS, hbD]; simp)] at hres
    obtain ⟨rfl, rfl⟩ := Prod.mk.inj hres
    clear hbA hbS hbD
    go_enter Try.func38, Try.ntmps38
    go_wp2_with (first | (go_at_call 49; refine (implAreCk_any _ t _ H.out).mono ?_; rw [HbA.out]; rintro e w1 ⟨rfl, b1⟩))
    go_ret2
    exact ⟨_, rfl, ints_nilK _ _ _, b1⟩
  · cases bS
    · rw [who_no (by rw [hbA, hbS, hbD]; simp)] at hres
      obtain ⟨rfl, rfl⟩ := Prod.mk.inj hres
      clear hbA hbS hbD
      go_enter Try.func38, Try.ntmps38
      go_wp2_with (first | (go_at_call 49; refine (implAreCk_any _ t _ H.out).mono ?_; rw [HbA.out]; rintro e w1 ⟨rfl, b1⟩) | (go_at_call 96; refine (areNeeded_any _ _).mono ?_; rw [HbS.out]; rintro e w' ⟨rfl, rfl⟩))
      go_ret2
      exact ⟨_, rfl, ints_nilK _ _ _, b1⟩
    · cases bD
      · rw [who_no (by rw [hbA, hbS, hbD]; simp)] at hres
        obtain ⟨rfl, rfl⟩ := Prod.mk.inj hres
        clear hbA hbS hbD
        go_enter Try.func38, Try.ntmps38
        go_wp2_with (first | (go_at_call 49; refine (implAreCk_any _ t _ H.out).mono ?_; rw [HbA.out]; rintro e w1 ⟨rfl, b1⟩) | (go_at_call 96; refine (areNeeded_any _ _).mono ?_; rw [HbS.out]; rintro e w' ⟨rfl, rfl⟩) | (go_at_call 73; refine (isDayB_any _ _).mono ?_; rw [HbD.out]; rintro e w' ⟨rfl, rfl⟩))
        go_ret2
        exact ⟨_, rfl, ints_nilK _ _ _, b1⟩
      · rw [who_yes hbA hbS hbD] at hres
        obtain ⟨rfl, rfl⟩ := Prod.mk.inj hres
        have h8 := ck_len hbA
        clear hbA hbS hbD
        go_enter Try.func38, Try.ntmps38
        go_wp2_with (first | (go_at_call 49; refine (implAreCk_any _ t _ H.out).mono ?_; rw [HbA.out]; rintro e w1 ⟨rfl, b1⟩) | (go_at_call 96; refine (areNeeded_any _ _).mono ?_; rw [HbS.out]; rintro e w' ⟨rfl, rfl⟩) | (go_at_call 73; refine (isDayB_any _ _).mono ?_; rw [HbD.out]; rintro e w' ⟨rfl, rfl⟩))
        go_loopw [8, 26] (fun o i wr => ∃ k : Nat, k ≤ t.length ∧ i = .int .i64 k ∧ wr.ownsRow w.heap.size 3 1 o (whoF t r d (t.take k)).length ((whoF t r d (t.take k)).map vI) ∧ Below w.heap.size w wr) (fun _ i _ => t.length - (intOf i).toNat)
        case atStart => exact ⟨0, Nat.zero_le _, rfl, by simpa [whoF] using World.ownsRow_nil _ _ _ _, b1⟩
        case round =>
          obtain ⟨k, hk, rfl, hO, hb⟩ := hrel
          have hsz := hb.size
          by_cases hlt : k < t.length
          · obtain ⟨b1, o1, hb1, rfl, e1⟩ := R1.out.resolve_left (fun e => by rw [e] at hlt; simp at hlt)
            obtain ⟨⟨x0, x1, x2, x3, x4, x5⟩, hx⟩ : ∃ s, t.getD k ckD = s := ⟨_, rfl⟩
            obtain ⟨q0, q1, q2, q3, q4, q5, hok_x⟩ := e1 k hlt
            rw [hx] at q0 q1 q2 q3 q4 q5 hok_x
            simp only at q0 q1 q2 q3 q4 q5
            have f0 := cell_kept q0 hb
            have f1 := cell_kept q1 hb
            have f2 := cell_kept q2 hb
            have f3 := cell_kept q3 hb
            have f4 := cell_kept q4 hb
            have f5 := cell_kept q5 hb
            have hlen := whoF_len t r d (t.take k)
            rw [List.length_take] at hlen
            obtain ⟨R, hR⟩ : ∃ R, rightsC t (t.getD k ckD) d = R := ⟨_, rfl⟩
            obtain ⟨bC, hbC⟩ : ∃ b, hasR R r = b := ⟨_, rfl⟩
            have dC : (bits .and .i64 R r == r) = bC := by rw [← hbC, Bool.eq_iff_iff]; simp [hasR]
            have hsy := whoF_yes (t := t) (r := r) (d := d) hlt
            have hsn := whoF_no (t := t) (r := r) (d := d) hlt
            rw [hR, hbC, hx] at hsy
            rw [hR, hbC] at hsn
            obtain ⟨Pp, hP⟩ : ∃ P, whoF t r d (t.take k) = P := ⟨_, rfl⟩
            rw [hP] at hO hlen hsy hsn
            have HSY := Lib.hid hsy
            have HSN := Lib.hid hsn
            have HO := Lib.hid hO
            have HbC := Lib.hid hbC
            rw [hx] at hR
            have HR := Lib.hid hR
            have HLT := Lib.hid hlt
            have g0 : (0 : Int) ≤ (k : Int) := by omega
            have g1 : (k : Int) < (t.length : Int) := by omega
            clear q0 q1 q2 q3 q4 q5 hok_x hx e1 hsy hsn hP hbC hO hR
            cases bC
            · have HSU2 := Lib.hid (HSN.out rfl)
              go_wp2_with (first | (go_at_call 98; refine (rightsOf_any _ t ⟨x0, x1, x2, x3, x4, x5⟩ d _ (H.out.below rCk_stable (hb.trans ((below_al (Below.refl wr.heap.size wr) _).mono hsz)))).mono ?_; rw [HR.out]; rintro e w6 ⟨rfl, b6⟩; have c0 := cell_kept (cell_new wr _ _ 0 rfl) b6; have c0' := (fun o : Obj => below_al_cell c0 o); have HO6 := Lib.hid (ownsRow_below (HO.out.alloc _) b6); replace b6 := below_chain (below_al (Below.refl wr.heap.size wr) _) b6; have hb6 := hb.trans (b6.mono hsz); have hs6 := hb6.size) | (go_at_call 97; refine (hasRights_any _ _ _).mono ?_; rw [HbC.out]; rintro e w9 ⟨rfl, hw9⟩; subst w9))
              go_roundw
              case rel => exact ⟨k + 1, by omega, by go_num, (by rw [HSU2.out]; exact HO6.out), hb6⟩
              case measure => simp [intOf]; omega
            · have HSU2 := Lib.hid (HSY.out rfl)
              go_wp2_with (first | (go_at_call 98; refine (rightsOf_any _ t ⟨x0, x1, x2, x3, x4, x5⟩ d _ (H.out.below rCk_stable (hb.trans ((below_al (Below.refl wr.heap.size wr) _).mono hsz)))).mono ?_; rw [HR.out]; rintro e w6 ⟨rfl, b6⟩; have c0 := cell_kept (cell_new wr _ _ 0 rfl) b6; have c0' := (fun o : Obj => below_al_cell c0 o); have HO6 := Lib.hid (ownsRow_below (HO.out.alloc _) b6); replace b6 := below_chain (below_al (Below.refl wr.heap.size wr) _) b6; have hb6 := hb.trans (b6.mono hsz); have hs6 := hb6.size) | (go_at_call 97; refine (hasRights_any _ _ _).mono ?_; rw [HbC.out]; rintro e w9 ⟨rfl, hw9⟩; subst w9) | (at_builtin; refine wpList_append_own _ rfl _ _ 34 rfl w.heap.size 3 i0 (.int .i64 0) 1 8 Try.underlying34 hi hz0 hz1 hz2 rfl (by decide) _ _ _ rfl (HO6.out.alloc _) ⟨w6.heap.size, 0, none⟩ 1 1 [.int .i64 x0] rfl rfl (cell_oneI _ _ _ (by simp)) (by simp [Value.oneCell']) (by unfold maxLen; omega) (by omega) (by simp; omega) ?_; intro v' w7 hown' hgrow _))
              have HOWN := Lib.hid hown'
              have HB7 := Lib.hid (below_app hb6 (Nat.le_refl _) HO6.out hgrow)
              clear hown' hgrow
              go_wp2_with fail
              go_roundw
              case rel => exact ⟨k + 1, by omega, by go_num, (by rw [HSU2.out]; simpa [vI] using HOWN.out), HB7.out⟩
              case measure => simp [intOf]; omega
          · obtain rfl : k = t.length := by omega
            rw [List.take_length] at hO
            have HO := Lib.hid hO
            clear hO
            go_wp2_with fail
            go_ret2
            exact ⟨_, rfl, ints_rowK HO.out rfl, hb⟩

theorem below_drewI {n : Nat} {a b : World} (h : Below n a b) (k : Nat) : Below n a (b.drewN k) := ⟨h.os, h.tape, h.output, h.size, h.block⟩
set_option maxRecDepth 20000 in
set_option maxHeartbeats 4000000 in
theorem implPairFor_any (v : Value) (t : List Ck) (d : Int) (w : World) (h : RowR 6 rCk w v t) (c1' c2' : Int) (b : Bool) (hres : pairRes t d = (c1', c2', b)) :
    Calls Try.prog 43 #[v, .int .i64 d] w fun e w' => e = .returned (.tuple #[.int .i64 c1', .int .i64 c2', .bool b]) ∧ Below w.heap.size w w' := by
  have H := Lib.hid h
  clear h
  obtain ⟨X, bx, hX⟩ : ∃ X b, whoRes t 2 d = (X, b) := ⟨_, _, rfl⟩
  obtain ⟨Y, by_, hY⟩ : ∃ Y b, whoRes t 8 d = (Y, b) := ⟨_, _, rfl⟩
  have hl2 := whoRes_len hX
  have hl8 := whoRes_len hY
  rw [pair_who hX hY] at hres
  have HX := Lib.hid hX
  have HY := Lib.hid hY
  clear hX hY
  rcases X with _ | ⟨x, XX⟩
  · simp only [pairOf] at hres
    obtain ⟨rfl, hres2⟩ := Prod.mk.inj hres
    obtain ⟨rfl, rfl⟩ := Prod.mk.inj hres2
    go_enter Try.func43, Try.ntmps43
    go_wp2_with (first | (go_at_call 38; with_reducible refine (implWhoMay_any _ t 2 d _ H.out _ _ HX.out).mono ?_; rintro e w2 ⟨v2, rfl, hi2, b2⟩; obtain ⟨la2, lc2, rfl⟩ := hi2.len) | (go_at_call 38; with_reducible refine (implWhoMay_any _ t 8 d _ (H.out.below rCk_stable b2) _ _ HY.out).mono ?_; rintro e w3 ⟨v3, rfl, hi3, b3⟩; skip; replace b3 := b2.trans (b3.mono b2.size); have hi3L := hi3.len; obtain ⟨la3, lc3, rfl⟩ := hi3L))
    go_ret3
    exact ⟨rfl, b3⟩
  · have gx : ((XX.length : Int) + 1 == 0) = false := by simp; omega
    have gx2 : (0 : Int) < (XX.length : Int) + 1 := by omega
    rcases Y with _ | ⟨y, YY⟩
    · simp only [pairOf] at hres
      obtain ⟨rfl, hres2⟩ := Prod.mk.inj hres
      obtain ⟨rfl, rfl⟩ := Prod.mk.inj hres2
      go_enter Try.func43, Try.ntmps43
      go_wp2_with (first | (go_at_call 38; with_reducible refine (implWhoMay_any _ t 2 d _ H.out _ _ HX.out).mono ?_; rintro e w2 ⟨v2, rfl, hi2, b2⟩; obtain ⟨lg2, lc2, rfl, lx2⟩ := hi2.head) | (go_at_call 38; with_reducible refine (implWhoMay_any _ t 8 d _ (H.out.below rCk_stable b2) _ _ HY.out).mono ?_; rintro e w3 ⟨v3, rfl, hi3, b3⟩; replace lx2 := cell_kept lx2 b3; replace b3 := b2.trans (b3.mono b2.size); obtain ⟨la3, lc3, rfl⟩ := hi3.len))
      go_ret3
      exact ⟨rfl, b3⟩
    · have gy : ((YY.length : Int) + 1 == 0) = false := by simp; omega
      have gy2 : (0 : Int) < (YY.length : Int) + 1 := by omega
      simp only [pairOf] at hres
      obtain ⟨rfl, hres2⟩ := Prod.mk.inj hres
      obtain ⟨rfl, rfl⟩ := Prod.mk.inj hres2
      go_enter Try.func43, Try.ntmps43
      go_wp2_with (first | (go_at_call 38; with_reducible refine (implWhoMay_any _ t 2 d _ H.out _ _ HX.out).mono ?_; rintro e w2 ⟨v2, rfl, hi2, b2⟩; obtain ⟨lg2, lc2, rfl, lx2⟩ := hi2.head) | (go_at_call 38; with_reducible refine (implWhoMay_any _ t 8 d _ (H.out.below rCk_stable b2) _ _ HY.out).mono ?_; rintro e w3 ⟨v3, rfl, hi3, b3⟩; replace lx2 := cell_kept lx2 b3; replace b3 := b2.trans (b3.mono b2.size); obtain ⟨lg3, lc3, rfl, lx3⟩ := hi3.head))
      go_quiet (fail)
      go_wp2_with fail
      go_ret3
      exact ⟨rfl, below_drewI b3 _⟩

set_option maxRecDepth 20000 in
set_option maxHeartbeats 8000000 in
theorem implDays_any (v : Value) (t : List Ck) (r a fin : Int) (w : World) (h : RowR 6 rCk w v t) (xs : List Int) (b : Bool) (hres : daysRes t r a fin = (xs, b)) :
    Calls Try.prog 58 #[v, .int .i64 r, .int .i64 a, .int .i64 fin] w fun e w' => ∃ v', e = .returned (.tuple #[v', .bool b]) ∧ IntsO w.heap.size w'.heap.size w' v' xs ∧ Below w.heap.size w w' := by
  obtain ⟨i0, hi, hz0, hz1, hz2⟩ := info_parts Try.info_intI
  have H := Lib.hid h
  have hcap := h.cap
  clear h
  obtain ⟨bA, hbA⟩ : ∃ b, areCk t = b := ⟨_, rfl⟩
  obtain ⟨bS, hbS⟩ : ∃ b, sumB r = b := ⟨_, rfl⟩
  obtain ⟨bD, hbD⟩ : ∃ b, decide (0 ≤ fin ∧ fin ≤ 20000) = b := ⟨_, rfl⟩
  obtain ⟨bI, hbI⟩ : ∃ b, decide (0 ≤ a ∧ a ≤ 20000) = b := ⟨_, rfl⟩
  have HbA := Lib.hid hbA
  have HbS := Lib.hid hbS
  have HbD := Lib.hid hbD
  have HbI := Lib.hid hbI
  cases bI
  · rw [days_no (fun hh => by have hs := spanB_iff.1 hh.2.2; have := of_decide_eq_false hbI; omega)] at hres
    obtain ⟨rfl, rfl⟩ := Prod.mk.inj hres
    clear hbA hbS hbD hbI
    go_enter Try.func58, Try.ntmps58
    go_wp2_with (first | (go_at_call 73; refine (isDay_any _ _).mono ?_; (first | rw [HbI.out] | rw [HbD.out]); rintro e w9 ⟨rfl, hw9⟩; subst w9))
    go_ret2
    exact ⟨_, rfl, ints_nilK _ _ _, Below.refl _ _⟩
  · cases bD
    · rw [days_no (fun hh => by have hs := spanB_iff.1 hh.2.2; have := of_decide_eq_false hbD; omega)] at hres
      obtain ⟨rfl, rfl⟩ := Prod.mk.inj hres
      clear hbA hbS hbD hbI
      go_enter Try.func58, Try.ntmps58
      go_wp2_with (first | (go_at_call 73; refine (isDay_any _ _).mono ?_; (first | rw [HbI.out] | rw [HbD.out]); rintro e w9 ⟨rfl, hw9⟩; subst w9))
      go_ret2
      exact ⟨_, rfl, ints_nilK _ _ _, Below.refl _ _⟩
    · have hai := of_decide_eq_true hbI
      have hfi := of_decide_eq_true hbD
      by_cases hle : a ≤ fin
      · have dle : decide (fin < a) = false := decide_eq_false (by omega)
        have wsub : IntKind.i64.wrap (fin - a) = fin - a := Go.IntWalk.i64_in _ (by omega)
        by_cases h200 : fin - a ≤ 200
        · have d200 : decide (200 < fin - a) = false := decide_eq_false (by omega)
          have hsp : spanB a fin = true := spanB_iff.2 ⟨hfi, ⟨hai.1, hle⟩, h200⟩
          obtain ⟨bAS, hbAS⟩ : ∃ b, (bA && bS) = b := ⟨_, rfl⟩
          cases bAS
          · rw [← hbA, ← hbS] at hbAS
            rw [days_no (fun hh => by rw [hh.1, hh.2.1] at hbAS; cases hbAS)] at hres
            obtain ⟨rfl, rfl⟩ := Prod.mk.inj hres
            have hno : whoRes t r a = ([], false) := who_no (fun hh => by rw [hh.1, hh.2.1] at hbAS; cases hbAS)
            have HNO := Lib.hid hno
            clear hno hbA hbS hbD hbI hbAS hfi hai
            go_enter Try.func58, Try.ntmps58
            go_wp2_with (first | (go_at_call 73; refine (isDay_any _ _).mono ?_; (first | rw [HbI.out] | rw [HbD.out]); rintro e w9 ⟨rfl, hw9⟩; subst w9))
            go_loopw [10, 11] (fun o i wr => i = .int .i64 a ∧ Below w.heap.size w wr) (fun _ i _ => 0)
            case atStart => exact ⟨rfl, Below.refl _ _⟩
            case round =>
              obtain ⟨rfl, hb⟩ := hrel
              have hsz := hb.size
              go_wp2_with (first | (go_at_call 38; refine (implWhoMay_any _ t r a _ (H.out.below rCk_stable hb) _ _ HNO.out).mono ?_; rintro e w6 ⟨v6, rfl, hi2, b6⟩; have hb6 := hb.trans (b6.mono hsz)))
              go_ret2
              exact ⟨_, rfl, ints_nilK _ _ _, hb6⟩
          · obtain ⟨rfl, rfl⟩ : bA = true ∧ bS = true := by revert hbAS; cases bA <;> cases bS <;> simp
            rw [days_yes hbA hbS hsp] at hres
            obtain ⟨rfl, rfl⟩ := Prod.mk.inj hres
            have h8 := ck_len hbA
            clear hbA hbS hbD hbI hbAS hsp
            go_enter Try.func58, Try.ntmps58
            go_wp2_with (first | (go_at_call 73; refine (isDay_any _ _).mono ?_; (first | rw [HbI.out] | rw [HbD.out]); rintro e w9 ⟨rfl, hw9⟩; subst w9))
            go_loopw [10, 11] (fun o i wr => ∃ k : Nat, (k : Int) ≤ fin - a + 1 ∧ i = .int .i64 (a + (k : Int)) ∧ wr.ownsRow w.heap.size 3 1 o (daysF t r a k).length ((daysF t r a k).map vI) ∧ Below w.heap.size w wr) (fun _ i _ => (fin + 1 - intOf i).toNat)
            case atStart => exact ⟨0, by omega, by simp, by simpa [daysF] using World.ownsRow_nil _ _ _ _, Below.refl _ _⟩
            case round =>
              obtain ⟨k, hk, rfl, hO, hb⟩ := hrel
              have hsz := hb.size
              obtain ⟨Pp, hP⟩ : ∃ P, daysF t r a k = P := ⟨_, rfl⟩
              have hlen := daysF_len t r a k
              rw [hP] at hlen
              by_cases hlt : a + (k : Int) ≤ fin
              · have hsy := daysF_yes (t := t) (r := r) (a := a) (n := k)
                have hsn := daysF_no (t := t) (r := r) (a := a) (n := k)
                rw [hP] at hO hsy hsn
                obtain ⟨X, hX⟩ : ∃ X, whoF t r (a + (k : Int)) t = X := ⟨_, rfl⟩
                rw [hX] at hsy hsn
                have hl2 := whoF_len t r (a + (k : Int)) t
                rw [hX] at hl2
                have HX := Lib.hid hX
                have HO := Lib.hid hO
                obtain ⟨D, hD⟩ : ∃ D, a + (k : Int) = D := ⟨_, rfl⟩
                rw [hD] at HX hsy hlt ⊢
                have HD := Lib.hid hD
                have hDr : 0 ≤ D ∧ D ≤ 20000 := by omega
                have HW := Lib.hid (show whoRes t r D = (X, true) by rw [who_yes HbA.out HbS.out (show dayB D = true from decide_eq_true hDr), HX.out])
                clear hX hP hO
                rcases X with _ | ⟨x, XX⟩
                · have HSU2 := Lib.hid (hsy rfl)
                  clear hsy hsn hD
                  go_wp2_with (first | (go_at_call 38; refine (implWhoMay_any _ t r D _ (H.out.below rCk_stable hb) _ _ HW.out).mono ?_; rintro e w6 ⟨v6, rfl, hi2, b6⟩; have HO6 := Lib.hid (ownsRow_below HO.out b6); have hb6 := hb.trans (b6.mono hsz); have hs6 := hb6.size; obtain ⟨la2, lc2, rfl⟩ := hi2.len) | (at_builtin; refine wpList_append_own _ rfl _ _ 34 rfl w.heap.size 3 i0 (.int .i64 0) 1 8 Try.underlying34 hi hz0 hz1 hz2 rfl (by decide) _ _ _ rfl (HO6.out.alloc _) ⟨w6.heap.size, 0, none⟩ 1 1 [.int .i64 D] rfl rfl (cell_oneI _ _ _ (by simp)) (by simp [Value.oneCell']) (by unfold maxLen; omega) (by omega) (by simp; omega) ?_; intro v' w7 hown' hgrow _))
                  have HOWN := Lib.hid hown'
                  have HB7 := Lib.hid (below_app hb6 (Nat.le_refl _) HO6.out hgrow)
                  clear hown' hgrow
                  go_wp2_with fail
                  go_roundw
                  case rel => exact ⟨k + 1, by have := HD.out; omega, by have := HD.out; go_num, (by rw [HSU2.out]; simpa [vI] using HOWN.out), HB7.out⟩
                  case measure => simp [intOf]; omega
                · have gx : ((XX.length : Int) + 1 == 0) = false := by simp; omega
                  have HSU2 := Lib.hid (hsn (by simp))
                  clear hsy hsn hD
                  go_wp2_with (first | (go_at_call 38; refine (implWhoMay_any _ t r D _ (H.out.below rCk_stable hb) _ _ HW.out).mono ?_; rintro e w6 ⟨v6, rfl, hi2, b6⟩; have HO6 := Lib.hid (ownsRow_below HO.out b6); have hb6 := hb.trans (b6.mono hsz); have hs6 := hb6.size; obtain ⟨lg2, lc2, rfl, lx2⟩ := hi2.head))
                  go_roundw
                  case rel => exact ⟨k + 1, by have := HD.out; omega, by have := HD.out; go_num, (by rw [HSU2.out]; exact HO6.out), hb6⟩
                  case measure => simp [intOf]; omega
              · have hkn : k = (fin - a + 1).toNat := by omega
                have HKN := Lib.hid hkn
                have HO := Lib.hid hO
                clear hO hkn hP
                go_wp2_with fail
                go_ret2
                exact ⟨_, rfl, by rw [← HKN.out]; exact ints_rowK HO.out rfl, hb⟩
        · have d200 : decide (200 < fin - a) = true := decide_eq_true (by omega)
          rw [days_no (fun hh => by have hs := spanB_iff.1 hh.2.2; omega)] at hres
          obtain ⟨rfl, rfl⟩ := Prod.mk.inj hres
          clear hbA hbS hbD hbI
          go_enter Try.func58, Try.ntmps58
          go_wp2_with (first | (go_at_call 73; refine (isDay_any _ _).mono ?_; (first | rw [HbI.out] | rw [HbD.out]); rintro e w9 ⟨rfl, hw9⟩; subst w9))
          go_ret2
          exact ⟨_, rfl, ints_nilK _ _ _, Below.refl _ _⟩
      · have dle : decide (fin < a) = true := decide_eq_true (by omega)
        rw [days_no (fun hh => by have hs := spanB_iff.1 hh.2.2; omega)] at hres
        obtain ⟨rfl, rfl⟩ := Prod.mk.inj hres
        clear hbA hbS hbD hbI
        go_enter Try.func58, Try.ntmps58
        go_wp2_with (first | (go_at_call 73; refine (isDay_any _ _).mono ?_; (first | rw [HbI.out] | rw [HbD.out]); rintro e w9 ⟨rfl, hw9⟩; subst w9))
        go_ret2
        exact ⟨_, rfl, ints_nilK _ _ _, Below.refl _ _⟩

end Go.Proofs.Ytalaegkfkjpmoaa
