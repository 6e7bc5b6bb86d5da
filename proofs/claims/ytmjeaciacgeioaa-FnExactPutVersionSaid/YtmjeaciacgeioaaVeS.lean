/- Versions, the model's: l8Good, AreVersions, l8On, VersionOn, l8Asked. -/
import Derived.Test.YtmjeaciacgeioaaTyVe
import Derived.Test.YtmjeaciacgeioaaRuS
import Derived.Test.YtmjeaciacgeioaaIsRec
import Derived.Test.YtmjeaciacgeioaaBox4
import Derived.Test.YtmjeaciacgeioaaPerS
import Derived.Lib.QuietBelow
import Derived.BigQuiet
import Derived.WalkSmall
namespace Go.Proofs.Ytmjeaciacgeioaa
set_option linter.unusedVariables false
open Go.RowKit Go.Sort
set_option maxRecDepth 20000 in
set_option maxHeartbeats 4000000 in
theorem l8Good_any (v : Value) (t : List Ve) (w : World) (h : RowR 2 rVe w v t) :
    Calls Try.prog 54 #[v] w fun e w' => e = .returned (.bool (areVe t)) ∧ Below w.heap.size w w' := by
  have hcap := h.cap
  obtain ⟨a1, c1, hv, hl1, hm1, r1⟩ := h.ves
  subst hv
  have R1 := Lib.hid r1
  clear h r1
  unfold maxLen at hm1
  go_enter Try.func54, Try.ntmps54
  go_wp2
  go_loopw [3] (fun i wr => ∃ k : Nat, k ≤ t.length ∧ i = .int .i64 k ∧ Hid (upto (veAtB t) k = true) ∧ Below w.heap.size w wr) (fun i _ => t.length - (intOf i).toNat)
  case atStart => exact ⟨0, Nat.zero_le _, rfl, Lib.hid (by simp [upto]), Below.refl _ _⟩
  case round =>
    obtain ⟨k, hk, rfl, HU, hb⟩ := hrel
    by_cases hlt : k < t.length
    · obtain ⟨b1, o1, hb1, rfl, e1⟩ := R1.out.resolve_left (fun e => by rw [e] at hlt; simp at hlt)
      obtain ⟨⟨x0, x1⟩, hx⟩ : ∃ s, t.getD k veD = s := ⟨_, rfl⟩
      obtain ⟨s, q0, q1, hr, hok⟩ := e1 k hlt
      rw [hx] at q0 hr hok
      simp only at q0 hr
      have f0 := cell_kept q0 hb
      have f1 := cell_kept q1 hb
      have HX := Lib.hid hx
      have HR := Lib.hid (hr.below rRu_stable hb)
      have g0 : (0 : Int) ≤ (k : Int) := by omega
      have g1 : (k : Int) < (t.length : Int) := by omega
      have hw := hb.size
      obtain ⟨bD, hbD⟩ : ∃ b, decide ((0 : Int) ≤ x0 ∧ x0 ≤ 20000) = b := ⟨_, rfl⟩
      obtain ⟨bS, hbS⟩ : ∃ b, isSch x1 = b := ⟨_, rfl⟩
      have HDD := Lib.hid hbD
      have HSS := Lib.hid hbS
      have m0 := cell_regrown f0
      have m1 := cell_regrown f1
      have hc : ∀ d os, Calls Try.prog 62 #[.int .i64 x0] (grow (redrawn wr d) os) fun e w'' => e = .returned (.bool bD) ∧ ∃ p : Regrown, w'' = grow (redrawn wr p.d) p.os := fun d os => Calls.regrown_of (by have := l2Day_any x0 (grow (redrawn wr d) os); rw [hbD] at this; exact this.mono (fun e w' ⟨q1, q2⟩ => ⟨q1, by subst q2; exact Below.refl _ _⟩))
      have hd : ∀ d os, Calls Try.prog 73 #[s] (grow (redrawn wr d) os) fun e w'' => e = .returned (.bool bS) ∧ ∃ p : Regrown, w'' = grow (redrawn wr p.d) p.os := fun d os => Calls.regrown_of (by have := l4Good_any s x1 (grow (redrawn wr d) os) (HR.out.below rRu_stable (below_regrown wr d os)); rwa [hbS] at this)
      clear q0 q1 hok hx hbD hbS hr
      cases bD
      · have HNT := Lib.hid (notVe hlt (veAt_no HX.out (.inl (of_decide_eq_false HDD.out))))
        go_wp2_with fail
        refine wp_region_quiet_below (by kernel_rfl) (by kernel_rfl) ?_
        repeat (go_big_quiet_step (first | exact hc _ _ | exact hd _ _))
        refine wpQuiet_nil ?_
        intro _ hw'
        obtain ⟨⟨dq, osq⟩, hw''⟩ := hw'
        subst hw''
        have bq := below_regrown wr dq osq
        generalize grow (redrawn wr dq) osq = w2 at bq ⊢
        go_wp2
        go_ret
        exact ⟨ret_bool HNT.out.symm, hb.trans (bq.mono hw)⟩
      · cases bS
        · have HNT := Lib.hid (notVe hlt (veAt_no HX.out (.inr (.inl HSS.out))))
          go_wp2_with fail
          refine wp_region_quiet_below (by kernel_rfl) (by kernel_rfl) ?_
          repeat (go_big_quiet_step (first | exact hc _ _ | exact hd _ _))
          refine wpQuiet_nil ?_
          intro _ hw'
          obtain ⟨⟨dq, osq⟩, hw''⟩ := hw'
          subst hw''
          have bq := below_regrown wr dq osq
          generalize grow (redrawn wr dq) osq = w2 at bq ⊢
          go_wp2
          go_ret
          exact ⟨ret_bool HNT.out.symm, hb.trans (bq.mono hw)⟩
        · by_cases hk0 : k = 0
          · have dk : decide ((0 : Int) < (k : Int)) = false := decide_eq_false (by omega)
            have dk2 : decide (0 < k) = false := decide_eq_false (by omega)
            have HU2 := Lib.hid (upto_succ HU.out ((veAt_iff HX.out).2 ⟨of_decide_eq_true HDD.out, HSS.out, by subst hk0; have := of_decide_eq_true HDD.out; simp only [prevV]; omega⟩))
            clear hk0
            go_wp2_with fail
            refine wp_region_quiet_below (by kernel_rfl) (by kernel_rfl) ?_
            repeat (go_big_quiet_step (first | exact hc _ _ | exact hd _ _))
            refine wpQuiet_nil ?_
            intro _ hw'
            obtain ⟨⟨dq, osq⟩, hw''⟩ := hw'
            subst hw''
            have bq := below_regrown wr dq osq
            generalize grow (redrawn wr dq) osq = w2 at bq ⊢
            go_wp2
            go_roundw
            case rel => exact ⟨k + 1, by omega, by go_num, HU2, hb.trans (bq.mono hw)⟩
            case measure => simp [intOf]; omega
          · obtain ⟨L, hL⟩ : ∃ L, k = L + 1 := ⟨k - 1, by omega⟩
            have dk : decide ((0 : Int) < (k : Int)) = true := decide_eq_true (by omega)
            have dk2 : decide (0 < k) = true := decide_eq_true (by omega)
            have gl : (k : Int) - 1 = (L : Int) := by omega
            have gL0 : (0 : Int) ≤ (L : Int) := by omega
            have gL1 : (L : Int) < (t.length : Int) := by omega
            obtain ⟨⟨y0, y1⟩, hy⟩ : ∃ s, t.getD L veD = s := ⟨_, rfl⟩
            obtain ⟨s2, p0, _, _, _⟩ := e1 L (by omega)
            rw [hy] at p0
            simp only at p0
            have n0 := cell_regrown (cell_kept p0 hb)
            have hpv : prevV t k = y0 := by rw [hL]; show (t.getD L veD).frm = y0; rw [hy]
            have HPV := Lib.hid hpv
            clear p0 hy hpv e1 hL hk0
            by_cases hxy : x0 ≤ y0
            · have HNT := Lib.hid (notVe hlt (veAt_no HX.out (.inr (.inr (by rw [HPV.out]; simp only; omega)))))
              have dxy : decide (x0 ≤ y0) = true := decide_eq_true hxy
              go_wp2_with fail
              refine wp_region_quiet_below (by kernel_rfl) (by kernel_rfl) ?_
              repeat (go_big_quiet_step (first | exact hc _ _ | exact hd _ _))
              refine wpQuiet_nil ?_
              intro _ hw'
              obtain ⟨⟨dq, osq⟩, hw''⟩ := hw'
              subst hw''
              have bq := below_regrown wr dq osq
              generalize grow (redrawn wr dq) osq = w2 at bq ⊢
              go_wp2
              go_ret
              exact ⟨ret_bool HNT.out.symm, hb.trans (bq.mono hw)⟩
            · have HU2 := Lib.hid (upto_succ HU.out ((veAt_iff HX.out).2 ⟨of_decide_eq_true HDD.out, HSS.out, by rw [HPV.out]; simp only; omega⟩))
              have dxy : decide (x0 ≤ y0) = false := decide_eq_false hxy
              go_wp2_with fail
              refine wp_region_quiet_below (by kernel_rfl) (by kernel_rfl) ?_
              repeat (go_big_quiet_step (first | exact hc _ _ | exact hd _ _))
              refine wpQuiet_nil ?_
              intro _ hw'
              obtain ⟨⟨dq, osq⟩, hw''⟩ := hw'
              subst hw''
              have bq := below_regrown wr dq osq
              generalize grow (redrawn wr dq) osq = w2 at bq ⊢
              go_wp2
              go_roundw
              case rel => exact ⟨k + 1, by omega, by go_num, HU2, hb.trans (bq.mono hw)⟩
              case measure => simp [intOf]; omega
    · obtain rfl : k = t.length := by omega
      have hs := ve_upto HU.out
      have HS := Lib.hid hs
      clear hs
      go_wp2
      go_ret
      exact ⟨ret_bool (by rw [HS.out]; exact decide_eq_decide.2 (by omega)), hb⟩


theorem onN_succ (t : List Ve) (d : Int) (k : Nat) : onN t d (k + 1) = if (t.getD k veD).frm ≤ d then (k : Int) else onN t d k := rfl
set_option maxRecDepth 20000 in
set_option maxHeartbeats 4000000 in
theorem l8On_any (v : Value) (t : List Ve) (d : Int) (w : World) (h : RowR 2 rVe w v t) :
    Calls Try.prog 63 #[v, .int .i64 d] w fun e w' => e = .returned (.int .i64 (onV t d)) ∧ Below w.heap.size w w' := by
  have hcap := h.cap
  obtain ⟨a1, c1, hv, hl1, hm1, r1⟩ := h.ves
  subst hv
  have R1 := Lib.hid r1
  clear h r1
  unfold maxLen at hm1
  go_enter Try.func63, Try.ntmps63
  go_wp2
  go_loopw [5, 6] (fun at_ i wr => ∃ k : Nat, k ≤ t.length ∧ i = .int .i64 k ∧ at_ = .int .i64 (onN t d k) ∧ Below w.heap.size w wr) (fun _ i _ => t.length - (intOf i).toNat)
  case atStart => exact ⟨0, Nat.zero_le _, rfl, rfl, Below.refl _ _⟩
  case round =>
    obtain ⟨k, hk, rfl, rfl, hb⟩ := hrel
    by_cases hlt : k < t.length
    · obtain ⟨b1, o1, hb1, rfl, e1⟩ := R1.out.resolve_left (fun e => by rw [e] at hlt; simp at hlt)
      obtain ⟨⟨x0, x1⟩, hx⟩ : ∃ s, t.getD k veD = s := ⟨_, rfl⟩
      obtain ⟨s, q0, q1, hr, hok⟩ := e1 k hlt
      rw [hx] at q0
      simp only at q0
      have f0 := cell_kept q0 hb
      have HX := Lib.hid hx
      have g0 : (0 : Int) ≤ (k : Int) := by omega
      have g1 : (k : Int) < (t.length : Int) := by omega
      obtain ⟨N, hN⟩ : ∃ N, onN t d k = N := ⟨_, rfl⟩
      have HN := Lib.hid hN
      rw [hN]
      clear q0 q1 hok hx hr e1 hN
      by_cases hxd : x0 ≤ d
      · go_wp2_with fail
        go_roundw
        case rel => exact ⟨k + 1, by omega, by go_num, by rw [onN_succ, HX.out, if_pos hxd], hb⟩
        case measure => simp [intOf]; omega
      · go_wp2_with fail
        go_roundw
        case rel => exact ⟨k + 1, by omega, by go_num, by rw [onN_succ, HX.out, if_neg hxd, HN.out], hb⟩
        case measure => simp [intOf]; omega
    · obtain rfl : k = t.length := by omega
      go_wp2
      go_ret
      exact ⟨rfl, hb⟩

set_option maxHeartbeats 1000000 in
theorem specVersionOn_any (v : Value) (t : List Ve) (d : Int) (w : World) (h : RowR 2 rVe w v t) (n : Int) (b : Bool) (hres : onRes t d = (n, b)) :
    Calls Try.prog 17 #[v, .int .i64 d] w fun e w' => e = .returned (.tuple #[.int .i64 n, .bool b]) ∧ Below w.heap.size w w' := by
  have H := Lib.hid h
  obtain ⟨bA, hA⟩ : ∃ b, areVe t = b := ⟨_, rfl⟩
  obtain ⟨bD, hD⟩ : ∃ b, decide ((0 : Int) ≤ d ∧ d ≤ 20000) = b := ⟨_, rfl⟩
  obtain ⟨N, hN⟩ : ∃ N, onV t d = N := ⟨_, rfl⟩
  have HA := Lib.hid hA
  have HD := Lib.hid hD
  have HN := Lib.hid hN
  unfold onRes at hres
  rw [hN, hA] at hres
  cases bA
  · rw [if_neg (by simp)] at hres
    cases hres
    clear h hA hD hN
    go_enter Try.func17, Try.ntmps17
    go_wp2_with (first | (go_at_call 54; refine (l8Good_any _ t _ H.out).mono ?_; rw [HA.out]; rintro e w1 ⟨rfl, b1⟩))
    go_ret2
    exact ⟨rfl, b1⟩
  · cases bD
    · rw [if_neg (fun e => of_decide_eq_false hD e.1.2)] at hres
      cases hres
      clear h hA hD hN
      go_enter Try.func17, Try.ntmps17
      go_wp2_with (first | (go_at_call 54; refine (l8Good_any _ t _ H.out).mono ?_; rw [HA.out]; rintro e w1 ⟨rfl, b1⟩) | (go_at_call 62; refine (l2Day_any _ _).mono ?_; rw [HD.out]; rintro e w2 ⟨rfl, rfl⟩))
      go_ret2
      exact ⟨rfl, b1⟩
    · by_cases hneg : N < 0
      · rw [if_neg (fun e => by have := e.2; omega)] at hres
        cases hres
        clear h hA hD hN
        go_enter Try.func17, Try.ntmps17
        go_wp2_with (first | (go_at_call 54; refine (l8Good_any _ t _ H.out).mono ?_; rw [HA.out]; rintro e w1 ⟨rfl, b1⟩) | (go_at_call 62; refine (l2Day_any _ _).mono ?_; rw [HD.out]; rintro e w2 ⟨rfl, h2⟩; subst w2) | (go_at_call 63; refine (l8On_any _ t d _ (H.out.below rVe_stable b1)).mono ?_; rw [HN.out]; rintro e w3 ⟨rfl, b3⟩; replace b3 := below_chain b1 b3))
        go_ret2
        exact ⟨rfl, b3⟩
      · rw [if_pos ⟨⟨rfl, of_decide_eq_true hD⟩, by omega⟩] at hres
        cases hres
        clear h hA hD hN
        go_enter Try.func17, Try.ntmps17
        go_wp2_with (first | (go_at_call 54; refine (l8Good_any _ t _ H.out).mono ?_; rw [HA.out]; rintro e w1 ⟨rfl, b1⟩) | (go_at_call 62; refine (l2Day_any _ _).mono ?_; rw [HD.out]; rintro e w2 ⟨rfl, h2⟩; subst w2))
        refine (l8On_any _ t d _ (H.out.below rVe_stable b1)).mono ?_
        rw [HN.out]
        rintro e w3 ⟨rfl, b3⟩
        replace b3 := below_chain b1 b3
        go_wp2_with fail
        refine (l8On_any _ t d _ (H.out.below rVe_stable b3)).mono ?_
        rw [HN.out]
        rintro e w4 ⟨rfl, b4⟩
        go_wp2_with fail
        go_ret2
        exact ⟨rfl, below_chain b3 b4⟩

theorem l8Asked_any (v v1 : Value) (t : List Ve) (r : Rec) (d : Int) (w : World) (h : RowR 2 rVe w v t) (h1 : RecV w v1 r) :
    Calls Try.prog 124 #[v, v1, .int .i64 d] w fun e w' => e = .returned (.bool (askV t r d)) ∧ Below w.heap.size w w' := by
  obtain ⟨s, rfl, h0, hok⟩ := h1
  have HV := Lib.hid (show ∀ W, Below w.heap.size w W → RecV W (.agg #[.int .i64 r.id, .int .i64 r.series, .int .i64 r.made, s]) r from fun W hb => ⟨s, rfl, h0.below rEv_stable hb, hok⟩)
  have H := Lib.hid h
  have b0 := below_al (Below.refl w.heap.size w) (RBOX r s 48)
  have HC0 := Lib.hid (Box4.new w r s 48)
  obtain ⟨bA, hA⟩ : ∃ b, areVe t = b := ⟨_, rfl⟩
  obtain ⟨bR, hR⟩ : ∃ b, isRec r = b := ⟨_, rfl⟩
  obtain ⟨bD, hD⟩ : ∃ b, decide ((0 : Int) ≤ d ∧ d ≤ 20000) = b := ⟨_, rfl⟩
  have hall : askV t r d = (bA && (bR && bD)) := by unfold askV; rw [hA, hR, hD]
  rw [hall]
  have HA := Lib.hid hA
  have HR := Lib.hid hR
  have HD := Lib.hid hD
  clear h0 hok h hA hR hD hall
  cases bA
  · go_enter Try.func124, Try.ntmps124
    go_wp2_with (first | (go_at_call 54; refine (l8Good_any _ t _ (H.out.below rVe_stable b0)).mono ?_; rw [HA.out]; rintro e w1 ⟨rfl, b1⟩; replace b1 := below_chain b0 b1))
    go_ret
    exact ⟨rfl, b1⟩
  · cases bR
    · go_enter Try.func124, Try.ntmps124
      go_wp2_with (first | (go_at_call 54; refine (l8Good_any _ t _ (H.out.below rVe_stable b0)).mono ?_; rw [HA.out]; rintro e w1 ⟨rfl, b1⟩; obtain ⟨c0, c1, c2, c3⟩ := HC0.out.kept b1; replace b1 := below_chain b0 b1) | (go_at_call 108; refine (l2Record_any _ r _ (HV.out _ b1)).mono ?_; rw [HR.out]; rintro e w2 ⟨rfl, b2⟩; replace b2 := below_chain b1 b2))
      go_ret
      exact ⟨rfl, b2⟩
    · cases bD
      all_goals
        go_enter Try.func124, Try.ntmps124
        go_wp2_with (first | (go_at_call 54; refine (l8Good_any _ t _ (H.out.below rVe_stable b0)).mono ?_; rw [HA.out]; rintro e w1 ⟨rfl, b1⟩; obtain ⟨c0, c1, c2, c3⟩ := HC0.out.kept b1; replace b1 := below_chain b0 b1) | (go_at_call 108; refine (l2Record_any _ r _ (HV.out _ b1)).mono ?_; rw [HR.out]; rintro e w2 ⟨rfl, b2⟩; replace b2 := below_chain b1 b2) | (go_at_call 62; refine (l2Day_any _ _).mono ?_; rw [HD.out]; rintro e w3 ⟨rfl, h3⟩; subst w3))
        go_ret
        exact ⟨rfl, b2⟩
end Go.Proofs.Ytmjeaciacgeioaa
