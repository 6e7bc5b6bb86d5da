/- What a valid list of files is: the model's l5Good. -/
import Derived.Test.YtpbjddiopfkgbaaDoorFiS
namespace Go.Proofs.YtpbjddiopfkgbaaDoor
set_option linter.unusedVariables false
open Go.RowKit Go.Sort

set_option maxRecDepth 20000 in
set_option maxHeartbeats 4000000 in
theorem l5Good_any (v : Value) (t : List Fi) (w : World) (h : RowR 7 rFi w v t) :
    Calls Tryd.prog 71 #[v] w fun e w' => e = .returned (.bool (areFi t)) ∧ Below w.heap.size w w' := by
  have hcap := h.cap
  obtain ⟨a1, c1, hv, hl1, hm1, r1⟩ := h.fis
  subst hv
  have R1 := Lib.hid r1
  clear h r1
  unfold maxLen at hm1
  go_enter Tryd.func71, Tryd.ntmps71
  go_wp2
  go_loopw [3] (fun i wr => ∃ k : Nat, k ≤ t.length ∧ k ≤ 11 ∧ i = .int .i64 k ∧ Hid (upto (fiAtB t) k = true) ∧ Below w.heap.size w wr) (fun i _ => t.length - (intOf i).toNat)
  case atStart => exact ⟨0, Nat.zero_le _, Nat.zero_le _, rfl, Lib.hid (by simp [upto]), Below.refl _ _⟩
  case round =>
    obtain ⟨k, hk, hk16, rfl, HU, hb⟩ := hrel
    by_cases hlt : k < t.length ∧ k ≤ 10
    · obtain ⟨hlt, h15⟩ := hlt
      obtain ⟨b1, o1, hb1, rfl, e1⟩ := R1.out.resolve_left (fun e => by rw [e] at hlt; simp at hlt)
      obtain ⟨f, hx⟩ : ∃ s, t.getD k fiD = s := ⟨_, rfl⟩
      obtain ⟨q0, q1, q2, q3, q4, q5, q6, hok⟩ := e1 k hlt
      rw [hx] at q0 q1 q2 q3 q4 q5 q6 hok
      obtain ⟨x0, x1, x2, x3, x4, x5, x6⟩ := f
      simp only at q0 q1 q2 q3 q4 q5 q6
      have f0 := cell_kept q0 hb
      have f1 := cell_kept q1 hb
      have f2 := cell_kept q2 hb
      have f3 := cell_kept q3 hb
      have f4 := cell_kept q4 hb
      have f5 := cell_kept q5 hb
      have f6 := cell_kept q6 hb
      have HX := Lib.hid hx
      have E1 := Lib.hid e1
      have g0 : (0 : Int) ≤ (k : Int) := by omega
      have g1 : (k : Int) < (t.length : Int) := by omega
      have hw := hb.size
      obtain ⟨bF, hbF⟩ : ∃ b, isFi ⟨x0, x1, x2, x3, x4, x5, x6⟩ = b := ⟨_, rfl⟩
      have HF := Lib.hid hbF
      have m0 := cell_regrown f0
      have m1 := cell_regrown f1
      have m2 := cell_regrown f2
      have m3 := cell_regrown f3
      have m4 := cell_regrown f4
      have m5 := cell_regrown f5
      have m6 := cell_regrown f6
      have hts : x2.size ≤ maxLen := hok.2.2.1
      have hc : ∀ d os, Calls Tryd.prog 68 #[.agg #[.int .i64 x0, .int .i64 x1, .string x2, .int .i64 x3, .int .i64 x4, .int .i64 x5, .int .i64 x6]] (grow (redrawn wr d) os) fun e w'' => e = .returned (.bool bF) ∧ ∃ p : Regrown, w'' = grow (redrawn wr p.d) p.os := fun d os => Calls.regrown_of (by have := specFi_any ⟨x0, x1, x2, x3, x4, x5, x6⟩ (grow (redrawn wr d) os) hts; rwa [hbF] at this)
      clear q0 q1 q2 q3 q4 q5 q6 hok e1 hx hbF
      cases bF
      · have hnt := notFi hlt (fiAt_no1 HX.out HF.out)
        have HNT := Lib.hid hnt
        clear hnt
        go_wp2_with fail
        refine wp_region_quiet_below (by kernel_rfl) (by kernel_rfl) ?_
        repeat (go_big_quiet_step (first | exact hc _ _))
        refine wpQuiet_nil ?_
        intro _ hw'
        obtain ⟨⟨dq, osq⟩, hw''⟩ := hw'
        subst hw''
        have bq := below_regrown wr dq osq
        generalize grow (redrawn wr dq) osq = w2 at bq ⊢
        go_wp2
        go_ret
        exact ⟨ret_bool HNT.out.symm, hb.trans (bq.mono hw)⟩
      · by_cases hk0 : k = 0
        · have dk : decide ((0 : Int) < (k : Int)) = false := decide_eq_false (by omega)
          have dk2 : decide (0 < k) = false := decide_eq_false (by omega)
          have hpv : prevFi t k < x0 := by rw [hk0]; exact first_fi HF.out
          have HPV := Lib.hid hpv
          clear hk0 hpv
          go_wp2_with fail
          refine wp_region_quiet_below (by kernel_rfl) (by kernel_rfl) ?_
          repeat (go_big_quiet_step (first | exact hc _ _))
          refine wpQuiet_nil ?_
          intro _ hw'
          obtain ⟨⟨dq, osq⟩, hw''⟩ := hw'
          subst hw''
          have bq := below_regrown wr dq osq
          generalize grow (redrawn wr dq) osq = w2 at bq ⊢
          go_wp2
          have b2 : Below w.heap.size w w2 := hb.trans (bq.mono hw)
          have s2 := b2.size
          clear m0 m1 m2 m3 m4 m5 m6 hc bq
          go_loopw [4] (fun i2 wr2 => ∃ m : Nat, m ≤ k ∧ i2 = .int .i64 m ∧ Hid (∀ l, l < m → ¬ ((t.getD l fiD).series = x1 ∧ (t.getD l fiD).title = x2)) ∧ Below w2.heap.size w2 wr2) (fun i2 _ => k - (intOf i2).toNat)
          case atStart => exact ⟨0, Nat.zero_le _, rfl, Lib.hid (fun l h => absurd h (Nat.not_lt_zero _)), Below.refl _ _⟩
          case round =>
            obtain ⟨m, hm, rfl, HM, hb2⟩ := hrel
            have b3 := b2.trans (hb2.mono s2)
            by_cases hmk : m < k
            · obtain ⟨q, hgx⟩ : ∃ s, t.getD m fiD = s := ⟨_, rfl⟩
              obtain ⟨r0, r1, r2, _⟩ := E1.out m (by omega)
              obtain ⟨s0, s1, s2', _⟩ := E1.out k hlt
              rw [hgx] at r1 r2
              rw [HX.out] at s1 s2'
              obtain ⟨g0', gs, gt, g3, g4, g5, g6⟩ := q
              simp only at r1 r2 s1 s2'
              have c1' := cell_kept r1 b3
              have c2' := cell_kept r2 b3
              have d1 := cell_kept s1 b3
              have d2 := cell_kept s2' b3
              have HGX := Lib.hid hgx
              have h0m : (0 : Int) ≤ (m : Int) := by omega
              have h1m : (m : Int) < (t.length : Int) := by omega
              have h2m : (m : Int) < (k : Int) := by omega
              clear r0 r1 r2 s0 s1 s2' hgx f0 f1 f2 f3 f4 f5 f6
              by_cases hpp : gs = x1
              · have dpp : (gs == x1) = true := by simp [hpp]
                have HPP := Lib.hid hpp
                clear hpp
                by_cases hss : gt = x2
                · have dss : (gt.toList == x2.toList) = true := by simp [hss]
                  have hnt := notFi hlt (fiAt_no3 (j := m) HX.out (by omega) hlt (by rw [HGX.out]; exact ⟨HPP.out, hss⟩))
                  have HNT := Lib.hid hnt
                  clear hnt hss
                  go_wp2_with fail
                  go_quiet (fail)
                  go_wp2_with fail
                  go_ret
                  exact ⟨ret_bool HNT.out.symm, below_drewN b3 _⟩
                · have dss := beq_bytes_ne hss
                  have HSS := Lib.hid hss
                  clear hss
                  go_wp2_with fail
                  go_quiet (fail)
                  go_wp2_with fail
                  go_roundw
                  case rel =>
                    refine ⟨m + 1, by omega, by go_num, Lib.hid (fun l hl => ?_), below_drewN hb2 _⟩
                    rcases Nat.lt_or_ge l m with h' | h'
                    · exact HM.out l h'
                    · obtain rfl : l = m := by omega
                      rw [HGX.out]
                      exact fun h => HSS.out h.2
                  case measure => simp [intOf]; omega
              · have dpp : (gs == x1) = false := by simp [hpp]
                have HPP := Lib.hid hpp
                clear hpp
                go_wp2_with fail
                go_quiet (fail)
                go_wp2_with fail
                go_roundw
                case rel =>
                  refine ⟨m + 1, by omega, by go_num, Lib.hid (fun l hl => ?_), below_drewN hb2 _⟩
                  rcases Nat.lt_or_ge l m with h' | h'
                  · exact HM.out l h'
                  · obtain rfl : l = m := by omega
                    rw [HGX.out]
                    exact fun h => HPP.out h.1
                case measure => simp [intOf]; omega
            · have hmK : m = k := by omega
              have HM2 : Hid (∀ l, l < k → ¬ ((t.getD l fiD).series = x1 ∧ (t.getD l fiD).title = x2)) := by rw [← hmK]; exact HM
              clear hmK
              go_wp2_with fail
              go_roundw
              case rel => exact ⟨k + 1, by omega, by omega, by go_num, Lib.hid (upto_succ HU.out (fiAt_yes hlt HX.out HF.out HPV.out HM2.out)), b3⟩
              case measure => simp [intOf]; omega
        · obtain ⟨L, hL⟩ : ∃ L, k = L + 1 := ⟨k - 1, by omega⟩
          have dk : decide ((0 : Int) < (k : Int)) = true := decide_eq_true (by omega)
          have dk2 : decide (0 < k) = true := decide_eq_true (by omega)
          have gl : (k : Int) - 1 = (L : Int) := by omega
          have gL0 : (0 : Int) ≤ (L : Int) := by omega
          have gL1 : (L : Int) < (t.length : Int) := by omega
          obtain ⟨⟨y0, y1, y2, y3, y4, y5, y6⟩, hy⟩ : ∃ s, t.getD L fiD = s := ⟨_, rfl⟩
          obtain ⟨p0, _⟩ := E1.out L (by omega)
          rw [hy] at p0
          simp only at p0
          have n0 := cell_regrown (cell_kept p0 hb)
          have hpe : prevFi t k = y0 := by rw [hL]; simp only [prevFi]; rw [hy]
          have HPE := Lib.hid hpe
          clear p0 hy hpe hk0 hL
          by_cases hyx : x0 ≤ y0
          · have dyx : decide (x0 ≤ y0) = true := decide_eq_true hyx
            have hnt := notFi hlt (fiAt_no2 HX.out (by rw [HPE.out]; simp only; omega))
            have HNT := Lib.hid hnt
            clear hnt
            go_wp2_with fail
            refine wp_region_quiet_below (by kernel_rfl) (by kernel_rfl) ?_
            repeat (go_big_quiet_step (first | exact hc _ _))
            refine wpQuiet_nil ?_
            intro _ hw'
            obtain ⟨⟨dq, osq⟩, hw''⟩ := hw'
            subst hw''
            have bq := below_regrown wr dq osq
            generalize grow (redrawn wr dq) osq = w2 at bq ⊢
            go_wp2
            go_ret
            exact ⟨ret_bool HNT.out.symm, hb.trans (bq.mono hw)⟩
          · have dyx : decide (x0 ≤ y0) = false := decide_eq_false hyx
            have HPV : Hid (prevFi t k < x0) := Lib.hid (by rw [HPE.out]; omega)
            go_wp2_with fail
            refine wp_region_quiet_below (by kernel_rfl) (by kernel_rfl) ?_
            repeat (go_big_quiet_step (first | exact hc _ _))
            refine wpQuiet_nil ?_
            intro _ hw'
            obtain ⟨⟨dq, osq⟩, hw''⟩ := hw'
            subst hw''
            have bq := below_regrown wr dq osq
            generalize grow (redrawn wr dq) osq = w2 at bq ⊢
            go_wp2
            have b2 : Below w.heap.size w w2 := hb.trans (bq.mono hw)
            have s2 := b2.size
            clear m0 m1 m2 m3 m4 m5 m6 hc bq
            go_loopw [4] (fun i2 wr2 => ∃ m : Nat, m ≤ k ∧ i2 = .int .i64 m ∧ Hid (∀ l, l < m → ¬ ((t.getD l fiD).series = x1 ∧ (t.getD l fiD).title = x2)) ∧ Below w2.heap.size w2 wr2) (fun i2 _ => k - (intOf i2).toNat)
            case atStart => exact ⟨0, Nat.zero_le _, rfl, Lib.hid (fun l h => absurd h (Nat.not_lt_zero _)), Below.refl _ _⟩
            case round =>
              obtain ⟨m, hm, rfl, HM, hb2⟩ := hrel
              have b3 := b2.trans (hb2.mono s2)
              by_cases hmk : m < k
              · obtain ⟨q, hgx⟩ : ∃ s, t.getD m fiD = s := ⟨_, rfl⟩
                obtain ⟨r0, r1, r2, _⟩ := E1.out m (by omega)
                obtain ⟨s0, s1, s2', _⟩ := E1.out k hlt
                rw [hgx] at r1 r2
                rw [HX.out] at s1 s2'
                obtain ⟨g0', gs, gt, g3, g4, g5, g6⟩ := q
                simp only at r1 r2 s1 s2'
                have c1' := cell_kept r1 b3
                have c2' := cell_kept r2 b3
                have d1 := cell_kept s1 b3
                have d2 := cell_kept s2' b3
                have HGX := Lib.hid hgx
                have h0m : (0 : Int) ≤ (m : Int) := by omega
                have h1m : (m : Int) < (t.length : Int) := by omega
                have h2m : (m : Int) < (k : Int) := by omega
                clear r0 r1 r2 s0 s1 s2' hgx f0 f1 f2 f3 f4 f5 f6
                by_cases hpp : gs = x1
                · have dpp : (gs == x1) = true := by simp [hpp]
                  have HPP := Lib.hid hpp
                  clear hpp
                  by_cases hss : gt = x2
                  · have dss : (gt.toList == x2.toList) = true := by simp [hss]
                    have hnt := notFi hlt (fiAt_no3 (j := m) HX.out (by omega) hlt (by rw [HGX.out]; exact ⟨HPP.out, hss⟩))
                    have HNT := Lib.hid hnt
                    clear hnt hss
                    go_wp2_with fail
                    go_quiet (fail)
                    go_wp2_with fail
                    go_ret
                    exact ⟨ret_bool HNT.out.symm, below_drewN b3 _⟩
                  · have dss := beq_bytes_ne hss
                    have HSS := Lib.hid hss
                    clear hss
                    go_wp2_with fail
                    go_quiet (fail)
                    go_wp2_with fail
                    go_roundw
                    case rel =>
                      refine ⟨m + 1, by omega, by go_num, Lib.hid (fun l hl => ?_), below_drewN hb2 _⟩
                      rcases Nat.lt_or_ge l m with h' | h'
                      · exact HM.out l h'
                      · obtain rfl : l = m := by omega
                        rw [HGX.out]
                        exact fun h => HSS.out h.2
                    case measure => simp [intOf]; omega
                · have dpp : (gs == x1) = false := by simp [hpp]
                  have HPP := Lib.hid hpp
                  clear hpp
                  go_wp2_with fail
                  go_quiet (fail)
                  go_wp2_with fail
                  go_roundw
                  case rel =>
                    refine ⟨m + 1, by omega, by go_num, Lib.hid (fun l hl => ?_), below_drewN hb2 _⟩
                    rcases Nat.lt_or_ge l m with h' | h'
                    · exact HM.out l h'
                    · obtain rfl : l = m := by omega
                      rw [HGX.out]
                      exact fun h => HPP.out h.1
                  case measure => simp [intOf]; omega
              · have hmK : m = k := by omega
                have HM2 : Hid (∀ l, l < k → ¬ ((t.getD l fiD).series = x1 ∧ (t.getD l fiD).title = x2)) := by rw [← hmK]; exact HM
                clear hmK
                go_wp2_with fail
                go_roundw
                case rel => exact ⟨k + 1, by omega, by omega, by go_num, Lib.hid (upto_succ HU.out (fiAt_yes hlt HX.out HF.out HPV.out HM2.out)), b3⟩
                case measure => simp [intOf]; omega
    · by_cases hl : t.length ≤ 10
      · obtain rfl : k = t.length := by omega
        have hs := fi_all hl HU.out
        have HS := Lib.hid hs
        clear hs
        have HNL := Lib.hid hlt
        clear hlt
        go_wp2
        go_ret
        exact ⟨ret_bool (by rw [HS.out]; simp; omega), hb⟩
      · obtain rfl : k = 11 := by omega
        have hs := fi_long hl
        have HS := Lib.hid hs
        clear hs
        have HL := Lib.hid hl
        have dl : decide ((t.length : Int) ≤ 10) = false := decide_eq_false (by omega)
        have HNL := Lib.hid hlt
        clear hl hlt
        go_wp2
        all_goals
          go_ret
          exact ⟨ret_bool HS.out.symm, hb⟩

end Go.Proofs.YtpbjddiopfkgbaaDoor
