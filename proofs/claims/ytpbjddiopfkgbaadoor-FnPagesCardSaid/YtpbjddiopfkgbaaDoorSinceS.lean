/- ClosedSince, the model's. -/
import Derived.Test.YtpbjddiopfkgbaaDoorSinceC
import Derived.Test.YtpbjddiopfkgbaaDoorAreFiS
import Derived.Test.YtpbjddiopfkgbaaDoorSlFi
import Derived.Test.YtpbjddiopfkgbaaDoorPuts
import Derived.Test.YtpbjddiopfkgbaaDoorInSer1
import Derived.Test.YtpbjddiopfkgbaaDoorDayI
import Derived.BigQuiet
import Derived.Lib.QuietBelow
import Derived.Maps.AppendAt
import Derived.Deep.RegionLaw
import Derived.Deep.RegionHeld3
namespace Go.Proofs.YtpbjddiopfkgbaaDoor
set_option linter.unusedVariables false
open Go.RowKit Go.Sort

set_option maxRecDepth 20000 in
set_option maxHeartbeats 8000000 in
theorem specClosedSince_any (v : Value) (t : List Fi) (a b : Int) (w : World) (h : RowR 7 rFi w v t) (xs : List Int) (c : Bool) (hres : sinceRes t a b = (xs, c)) :
    Calls Tryd.prog 35 #[v, .int .i64 a, .int .i64 b] w fun e w' => ∃ v', e = .returned (.tuple #[v', .bool c]) ∧ IntsO w.heap.size w'.heap.size w' v' xs ∧ Below w.heap.size w w' := by
  obtain ⟨i0, hi, hz0, hz1, hz2⟩ := info_parts Tryd.info_fi
  obtain ⟨j0, hj, hy0, hy1, hy2⟩ := info_parts Tryd.info_intI
  have H := Lib.hid h
  have hok := h.fis_ok
  obtain ⟨a1, c1, hv, hl1, hm1, r1⟩ := h.fis
  subst hv
  have R1 := Lib.hid r1
  have HOK := Lib.hid hok
  unfold maxLen at hm1
  obtain ⟨bs, hs⟩ : ∃ x, areFi t = x := ⟨_, rfl⟩
  obtain ⟨ba, hba⟩ : ∃ x, decide (0 ≤ a ∧ a ≤ b) = x := ⟨_, rfl⟩
  obtain ⟨bb, hbb⟩ : ∃ x, decide (0 ≤ b ∧ b ≤ 20000) = x := ⟨_, rfl⟩
  have HS := Lib.hid hs
  have HA := Lib.hid hba
  have HB := Lib.hid hbb
  have HRES := Lib.hid hres
  clear h r1 hok hres
  cases bs
  · obtain ⟨rfl, rfl⟩ := since_no HRES.out (fun q => by rw [hs] at q; exact absurd q.1 (by simp))
    clear hs hba hbb
    go_enter Tryd.func35, Tryd.ntmps35
    go_wp2_with (first | (go_at_call 71; refine (l5Good_any _ t _ (H.out.below rFi_stable (below_al (Below.refl _ _) _))).mono ?_; rw [HS.out]; rintro e w1 ⟨rfl, b1⟩) | (go_at_call 61; refine (l2Day_any b _).mono ?_; rw [HB.out]; rintro e w1 ⟨rfl, rfl⟩) | (go_at_call 70; refine (l1In_any _ _ _ _).mono ?_; rw [HA.out]; rintro e w1 ⟨rfl, rfl⟩))
    go_ret2
    exact ⟨_, rfl, ⟨ownsRow_below (World.ownsRow_made w #[] 0 (Nat.le_refl _) (Nat.zero_le _) rfl) b1, fun g hg => by have := b1.size; simp at this; simp [Value.ownBlock] at hg; omega⟩, below_chain (below_al (Below.refl _ _) _) b1⟩
  · cases bb
    · obtain ⟨rfl, rfl⟩ := since_no HRES.out (fun q => of_decide_eq_false hbb q.2.1)
      clear hs hba hbb
      go_enter Tryd.func35, Tryd.ntmps35
      go_wp2_with (first | (go_at_call 71; refine (l5Good_any _ t _ (H.out.below rFi_stable (below_al (Below.refl _ _) _))).mono ?_; rw [HS.out]; rintro e w1 ⟨rfl, b1⟩) | (go_at_call 61; refine (l2Day_any b _).mono ?_; rw [HB.out]; rintro e w1 ⟨rfl, rfl⟩) | (go_at_call 70; refine (l1In_any _ _ _ _).mono ?_; rw [HA.out]; rintro e w1 ⟨rfl, rfl⟩))
      go_ret2
      exact ⟨_, rfl, ⟨ownsRow_below (World.ownsRow_made w #[] 0 (Nat.le_refl _) (Nat.zero_le _) rfl) b1, fun g hg => by have := b1.size; simp at this; simp [Value.ownBlock] at hg; omega⟩, below_chain (below_al (Below.refl _ _) _) b1⟩
    · cases ba
      · obtain ⟨rfl, rfl⟩ := since_no HRES.out (fun q => of_decide_eq_false hba q.2.2)
        clear hs hba hbb
        go_enter Tryd.func35, Tryd.ntmps35
        go_wp2_with (first | (go_at_call 71; refine (l5Good_any _ t _ (H.out.below rFi_stable (below_al (Below.refl _ _) _))).mono ?_; rw [HS.out]; rintro e w1 ⟨rfl, b1⟩) | (go_at_call 61; refine (l2Day_any b _).mono ?_; rw [HB.out]; rintro e w1 ⟨rfl, rfl⟩) | (go_at_call 70; refine (l1In_any _ _ _ _).mono ?_; rw [HA.out]; rintro e w1 ⟨rfl, rfl⟩))
        go_ret2
        exact ⟨_, rfl, ⟨ownsRow_below (World.ownsRow_made w #[] 0 (Nat.le_refl _) (Nat.zero_le _) rfl) b1, fun g hg => by have := b1.size; simp at this; simp [Value.ownBlock] at hg; omega⟩, below_chain (below_al (Below.refl _ _) _) b1⟩
      · obtain ⟨rfl, rfl⟩ := since_yes HRES.out ⟨hs, of_decide_eq_true hbb, of_decide_eq_true hba⟩
        have hten := fi_len hs
        unfold sinceF
        obtain ⟨L, hL⟩ : ∃ L, ordF (t.filter (sinceB a b)) = L := ⟨_, rfl⟩
        rw [hL]
        have HLE := Lib.hid hL
        clear hs hba hbb HRES hL
        go_enter Tryd.func35, Tryd.ntmps35
        go_wp2_with (first | (go_at_call 71; refine (l5Good_any _ t _ (H.out.below rFi_stable (below_al (Below.refl _ _) _))).mono ?_; rw [HS.out]; rintro e w1 ⟨rfl, b1'⟩) | (go_at_call 61; refine (l2Day_any b _).mono ?_; rw [HB.out]; rintro e w1 ⟨rfl, rfl⟩) | (go_at_call 70; refine (l1In_any _ _ _ _).mono ?_; rw [HA.out]; rintro e w1 ⟨rfl, rfl⟩))
        go_loopw [9, 10] (fun o i wr => ∃ p og oc : Nat, p ≤ t.length ∧ i = .int .i64 p ∧ o = .slice (some ⟨og, 0, none⟩) (ordF ((t.take p).filter (sinceB a b))).length oc ∧ wr.ownsRow w1.heap.size 43 7 o (ordF ((t.take p).filter (sinceB a b))).length (((ordF ((t.take p).filter (sinceB a b))).map fiC).flatten) ∧ Below w1.heap.size w1 wr) (fun _ i _ => t.length - (intOf i).toNat)
        case atStart => exact ⟨0, w1.heap.size, 0, Nat.zero_le _, rfl, rfl, World.ownsRow_made w1 #[] 0 (Nat.le_refl _) (Nat.zero_le _) rfl, below_al (Below.refl _ _) _⟩
        case round =>
          obtain ⟨p, g, cD1, hp, rfl, hov, hO, hb⟩ := hrel
          obtain ⟨wo, hwo⟩ : ∃ x, x = wr := ⟨_, rfl⟩
          subst hwo
          subst hov
          obtain ⟨D, hD⟩ : ∃ D, ordF ((t.take p).filter (sinceB a b)) = D := ⟨_, rfl⟩
          rw [hD] at hO
          have hDl : D.length ≤ p := by
            rw [← hD, ordF_length]
            have := List.length_filter_le (sinceB a b) (t.take p)
            rw [List.length_take] at this
            omega
          have hDok : ∀ f ∈ D, f.ok := fun f hf => by
            rw [← hD] at hf
            exact HOK.out f (List.mem_of_mem_take (List.mem_filter.1 (mem_ordF.1 hf)).1)
          try rw [hD]
          have HD := Lib.hid hD
          have HO3 : Hid (FisO w1.heap.size wo.heap.size wo (.slice (some ⟨g, 0, none⟩) D.length cD1) D) := Lib.hid (FisO.of_row hO rfl hDok)
          have HB3 := Lib.hid hb
          have hszr := hb.size
          have HDK := Lib.hid hDok
          clear hO hb hDok hD
          obtain ⟨aD, cD, eD, hl2, hm2, rD⟩ := HO3.out.row.fis
          cases eD
          have RD := Lib.hid rD
          unfold maxLen at hm2
          clear rD
          by_cases hpt : p < t.length
          · obtain ⟨b1, o1, hb1, rfl, e1⟩ := R1.out.resolve_left (fun e => by rw [e] at hpt; simp at hpt)
            obtain ⟨q0, q1, q2, q3, q4, q5, q6, hok⟩ := e1 p hpt
            obtain ⟨⟨x0, x1, x2, x3, x4, x5, x6⟩, hx⟩ : ∃ s, t.getD p fiD = s := ⟨_, rfl⟩
            rw [hx] at q0 q1 q2 q3 q4 q5 q6
            simp only at q0 q1 q2 q3 q4 q5 q6
            have hbw : Below w.heap.size w wo := (below_chain (below_al (Below.refl w.heap.size w) (.cells #[] 3 (0, 0))) b1').trans (HB3.out.mono (by have := b1'.size; simp at this; omega))
            have f0 := cell_kept q0 hbw
            have F0 := Lib.hid f0
            have f1 := cell_kept q1 hbw
            have F1 := Lib.hid f1
            have f2 := cell_kept q2 hbw
            have F2 := Lib.hid f2
            have f3 := cell_kept q3 hbw
            have F3 := Lib.hid f3
            have f4 := cell_kept q4 hbw
            have F4 := Lib.hid f4
            have f5 := cell_kept q5 hbw
            have F5 := Lib.hid f5
            have f6 := cell_kept q6 hbw
            have F6 := Lib.hid f6
            have HX := Lib.hid hx
            have g0 : (0 : Int) ≤ (p : Int) := by omega
            have g1 : (p : Int) < (t.length : Int) := by omega
            clear q0 q1 q2 q3 q4 q5 q6 hok e1 hx hbw
            by_cases s0 : x5 = 0
            · subst s0
              have HT := Lib.hid (since_skip hpt HX.out HD.out (by simp [sinceB]))
              go_wp2_with fail
              go_roundw
              case rel => exact ⟨p + 1, g, cD1, by omega, by go_num, (by rw [HT.out]), (by rw [HT.out]; have := HO3.out.1.1; rw [List.length_map] at this; exact this), HB3.out⟩
              case measure => first | (simp [intOf]; done) | (simp [intOf]; omega)
            · have hq : (x5 == 0) = false := by simp [s0]
              obtain ⟨bi, hbi⟩ : ∃ x, decide (a ≤ x4 ∧ x4 ≤ b) = x := ⟨_, rfl⟩
              have HIN := Lib.hid hbi
              cases bi
              · have HT := Lib.hid (since_skip hpt HX.out HD.out (by have := of_decide_eq_false hbi; first | (simp [sinceB, s0]; done) | (simp [sinceB, s0]; omega)))
                clear hbi
                go_wp2_with (first | (go_at_call 70; refine (l1In_any _ _ _ _).mono ?_; rw [HIN.out]; rintro e wo ⟨rfl, rfl⟩))
                go_roundw
                case rel => exact ⟨p + 1, g, cD1, by omega, by go_num, (by rw [HT.out]), (by rw [HT.out]; have := HO3.out.1.1; rw [List.length_map] at this; exact this), HB3.out⟩
                case measure => first | (simp [intOf]; done) | (simp [intOf]; omega)
              · have HY : Hid (sinceB a b ⟨x0, x1, x2, x3, x4, x5, x6⟩ = true) := Lib.hid (by have := of_decide_eq_true hbi; first | (simp [sinceB, s0]; done) | (simp [sinceB, s0]; omega))
                clear hbi
                go_wp2_with (first | (go_at_call 70; refine (l1In_any _ _ _ _).mono ?_; rw [HIN.out]; rintro e wo ⟨rfl, rfl⟩))
                go_loopw [11] (fun i w4 => ∃ k : Nat, k ≤ D.length ∧ i = .int .i64 k ∧ Hid (scanF D x4 D.length = scanF D x4 k) ∧ Below wo.heap.size wo w4) (fun i _ => (intOf i).toNat)
                case atStart => exact ⟨D.length, Nat.le_refl _, rfl, Lib.hid rfl, Below.refl _ _⟩
                case round =>
                  obtain ⟨k, hk, rfl, HSC, hb4⟩ := hrel
                  obtain ⟨w4, hw4⟩ : ∃ x, x = wr := ⟨_, rfl⟩
                  subst hw4
                  have hDten : D.length ≤ 10 := by omega
                  by_cases hk0 : 0 < k
                  · obtain ⟨m, hm⟩ : ∃ m, k = m + 1 := ⟨k - 1, by omega⟩
                    obtain ⟨bD, oD, hbD, eeD, e1⟩ := RD.out.resolve_left (fun e => by rw [e] at hk; simp at hk; omega)
                    cases eeD
                    obtain ⟨q0, q1, q2, q3, q4, q5, q6, hok⟩ := e1 m (by omega)
                    obtain ⟨⟨z0, z1, z2, z3, z4, z5, z6⟩, hz⟩ : ∃ s, D.getD m fiD = s := ⟨_, rfl⟩
                    rw [hz] at q4
                    simp only [Nat.zero_add] at q4
                    have d4 := cell_kept q4 hb4
                    have fq4 := cell_kept F4.out hb4
                    have r0 : (0 : Int) ≤ (m : Int) := by omega
                    have r1 : (m : Int) < (D.length : Int) := by omega
                    have r2 : (0 : Int) < (k : Int) := by omega
                    have r3 : decide ((0 : Int) < (k : Int)) = true := decide_eq_true r2
                    have r4 : IntKind.i64.wrap ((k : Int) - 1) = (m : Int) := by rw [show (k : Int) - 1 = (m : Int) by omega]; exact Go.IntWalk.i64_in _ (by omega)
                    have HM := Lib.hid hm
                    have rk2 : ((m : Int)).toNat = m := by omega
                    have HZ := Lib.hid hz
                    have md := cell_regrown d4
                    have mf := cell_regrown fq4
                    clear q0 q1 q2 q3 q4 q5 q6 hok e1 hz hm
                    by_cases hcl : x4 < z4
                    · have hc2 : decide (x4 < z4) = true := decide_eq_true hcl
                      have HSC2 : Hid (scanF D x4 D.length = scanF D x4 m) := Lib.hid (HSC.out.trans (by rw [HM.out, scanF, HZ.out, if_pos hcl]))
                      go_wp2_with fail
                      refine wp_region_quiet_below (by kernel_rfl) (by kernel_rfl) ?_
                      repeat (go_big_quiet_step (fail))
                      refine wpQuiet_nil ?_
                      intro _ hw'
                      obtain ⟨⟨dq, osq⟩, hw''⟩ := hw'
                      subst hw''
                      have hb4 := hb4.trans ((below_regrown w4 dq osq).mono hb4.size)
                      generalize grow (redrawn w4 dq) osq = w4 at *
                      go_wp2_with fail
                      go_roundw
                      case rel => exact ⟨m, by omega, by go_num, HSC2, hb4⟩
                      case measure =>
                        have := HM.out
                        simp [intOf]
                        omega
                    · have hc2 : decide (x4 < z4) = false := decide_eq_false hcl
                      have HSK : Hid (scanF D x4 k = k) := Lib.hid (by rw [HM.out, scanF, HZ.out, if_neg hcl])
                      have HT := Lib.hid (since_step hpt HX.out HD.out HY.out HSC.out HSK.out)
                      clear HZ HSC HSK
                      go_wp2_with fail
                      refine wp_region_quiet_below (by kernel_rfl) (by kernel_rfl) ?_
                      repeat (go_big_quiet_step (fail))
                      refine wpQuiet_nil ?_
                      intro _ hw'
                      obtain ⟨⟨dq, osq⟩, hw''⟩ := hw'
                      subst hw''
                      have hb4 := hb4.trans ((below_regrown w4 dq osq).mono hb4.size)
                      generalize grow (redrawn w4 dq) osq = w4 at *
                      have hO4 := HO3.out.below hb4
                      have hcells := fis_cells hO4.row
                      obtain ⟨NEWS1, hN1⟩ : ∃ N, ((D.take k).map fiC).flatten = N := ⟨_, rfl⟩
                      obtain ⟨NEWS2, hN2⟩ : ∃ N, ((D.drop k).map fiC).flatten = N := ⟨_, rfl⟩
                      have HL1 : Hid (NEWS1.length = k * 7) := Lib.hid (by rw [← hN1, flat_map_len fiC_len, List.length_take, Nat.min_eq_left hk])
                      have HL2 : Hid (NEWS2.length = (D.length - k) * 7) := Lib.hid (by rw [← hN2, flat_map_len fiC_len, List.length_drop])
                      have HO1 : Hid (∀ u ∈ NEWS1, u.oneCell' = true) := Lib.hid (by rw [← hN1]; exact flat_one fiC_one _)
                      have HO2 : Hid (∀ u ∈ NEWS2, u.oneCell' = true) := Lib.hid (by rw [← hN2]; exact flat_one fiC_one _)
                      have HN1 : Hid (∀ W, Below w4.heap.size w4 W → ∀ j u, NEWS1[j]? = some u → W.cell? ((⟨g, 0, none⟩ : Addr).add j) = some u) := Lib.hid (fun W hW j u hj => by
                        refine hcells W hW j u ?_
                        rw [← hN1, ← flatC_take fiC_len, List.getElem?_take] at hj
                        split at hj
                        · exact hj
                        · cases hj)
                      obtain ⟨adr, hA, hN2c⟩ : ∃ A : Addr, (if cD1 = k then some (⟨g, 0, none⟩ : Addr) else some ⟨g, k * 7, none⟩) = some A ∧ Hid (∀ W, Below w4.heap.size w4 W → ∀ j u, NEWS2[j]? = some u → W.cell? (A.add j) = some u) := by
                        by_cases hc : cD1 = k
                        · refine ⟨⟨g, 0, none⟩, by simp [hc], Lib.hid (fun W hW j u hj => ?_)⟩
                          have h0 : NEWS2.length = 0 := by rw [HL2.out]; omega
                          rw [List.length_eq_zero_iff.1 h0] at hj
                          simp at hj
                        · refine ⟨⟨g, k * 7, none⟩, by simp [hc], Lib.hid (fun W hW j u hj => ?_)⟩
                          rw [Addr.add_lit]
                          have := hcells W hW (k * 7 + j) u (by rw [← dropC_at fiC_len hk, hN2]; exact hj)
                          rw [Addr.add_lit, Nat.zero_add] at this
                          exact this
                      have HN2 := hN2c
                      have HN1E := Lib.hid hN1
                      have HN2E := Lib.hid hN2
                      have y0 := cell_kept F0.out hb4
                      have Y0 := Lib.hid y0
                      have y1 := cell_kept F1.out hb4
                      have Y1 := Lib.hid y1
                      have y2 := cell_kept F2.out hb4
                      have Y2 := Lib.hid y2
                      have y3 := cell_kept F3.out hb4
                      have Y3 := Lib.hid y3
                      have y4 := cell_kept F4.out hb4
                      have Y4 := Lib.hid y4
                      have y5 := cell_kept F5.out hb4
                      have Y5 := Lib.hid y5
                      have y6 := cell_kept F6.out hb4
                      have Y6 := Lib.hid y6
                      have s34 := hb4.size
                      have b0 : Below w4.heap.size w4 w4.drew := (Below.refl _ _).drew
                      have kI0 : (0 : Int) ≤ (k : Int) := by omega
                      have kI1 : (k : Int) ≤ (D.length : Int) := by omega
                      have kc : k ≤ cD1 := by omega
                      clear hN1 hN2 hN2c hcells hO4
                      go_wp2_with fail
                      go_region_held3 (fun w' => w'.cell? ⟨b1, o1 + p * 7, none⟩ = some (.int .i64 x0) ∧ w'.cell? ⟨b1, o1 + p * 7 + 1, none⟩ = some (.int .i64 x1) ∧ w'.cell? ⟨b1, o1 + p * 7 + 2, none⟩ = some (.string x2) ∧ w'.cell? ⟨b1, o1 + p * 7 + 3, none⟩ = some (.int .i64 x3) ∧ w'.cell? ⟨b1, o1 + p * 7 + 4, none⟩ = some (.int .i64 x4) ∧ w'.cell? ⟨b1, o1 + p * 7 + 5, none⟩ = some (.int .i64 x5) ∧ w'.cell? ⟨b1, o1 + p * 7 + 6, none⟩ = some (.int .i64 x6)) (first | exact ⟨y0, y1, y2, y3, y4, y5, y6⟩ | go_keep) (first | (rw [if_pos (by rfl)]; refine wp_append_own _ _ _ _ rfl w4.heap.size 43 i0 (.agg #[.int .i64 0, .int .i64 0, .string ⟨#[]⟩, .int .i64 0, .int .i64 0, .int .i64 0, .int .i64 0]) 7 64 Tryd.underlying24 hi hz0 hz1 hz2 rfl (by decide) (.slice (some ⟨w4.heap.size, 0, none⟩) 0 0) 0 [] (by rfl) (by first | exact World.ownsRow_made w4.drew #[] 0 (Nat.le_refl _) (Nat.zero_le _) rfl | exact World.ownsRow.alloc (World.ownsRow_made w4.drew #[] 0 (Nat.le_refl _) (Nat.zero_le _) rfl) _) ⟨g, 0, none⟩ k cD1 NEWS1 (by rfl) HL1.out (by exact HN1.out _ (by first | exact below_al b0 _ | exact below_al (below_al b0 _) _)) HO1.out (by unfold maxLen; omega) (by omega) (by (first | omega | (simp; done) | (simp; omega))) ?_; intro v5 w5 hown5 hg5 _; have b5 : Below w4.heap.size w4 w5 := Below.grown (by first | exact below_al b0 _ | exact below_al (below_al b0 _) _) hg5 (by (first | omega | (simp; done) | (simp; omega))) (by intro kk hk; cases hk; exact Nat.le_refl _); have s5 := b5.size; replace y0 := cell_kept Y0.out b5; replace y1 := cell_kept Y1.out b5; replace y2 := cell_kept Y2.out b5; replace y3 := cell_kept Y3.out b5; replace y4 := cell_kept Y4.out b5; replace y5 := cell_kept Y5.out b5; replace y6 := cell_kept Y6.out b5) | (rw [if_pos (by rfl)]; refine wp_append_own _ _ _ _ rfl w4.heap.size 43 i0 (.agg #[.int .i64 0, .int .i64 0, .string ⟨#[]⟩, .int .i64 0, .int .i64 0, .int .i64 0, .int .i64 0]) 7 64 Tryd.underlying24 hi hz0 hz1 hz2 rfl (by decide) (.slice (some ⟨w4.heap.size + 1, 0, none⟩) 0 0) 0 [] (by rfl) (by have hh := World.ownsRow_made (base := w4.heap.size) (e := 43) (size := 7) (w4.drew.alloc (.cells #[.int .i64 x0, .int .i64 x1, .string x2, .int .i64 x3, .int .i64 x4, .int .i64 x5, .int .i64 x6] 43 (0, 0))) #[] 0 (by simp) (Nat.zero_le _) rfl; rw [show (w4.drew.alloc (.cells #[.int .i64 x0, .int .i64 x1, .string x2, .int .i64 x3, .int .i64 x4, .int .i64 x5, .int .i64 x6] 43 (0, 0))).heap.size = w4.heap.size + 1 by simp] at hh; exact hh) ⟨g, 0, none⟩ k cD1 NEWS1 (by rfl) HL1.out (by exact HN1.out _ (by first | exact below_al b0 _ | exact below_al (below_al b0 _) _)) HO1.out (by unfold maxLen; omega) (by omega) (by (first | omega | (simp; done) | (simp; omega))) ?_; intro v5 w5 hown5 hg5 _; have b5 : Below w4.heap.size w4 w5 := Below.grown (by first | exact below_al b0 _ | exact below_al (below_al b0 _) _) hg5 (by (first | omega | (simp; done) | (simp; omega))) (by intro kk hk; cases hk; exact Nat.le_succ _); have s5 := b5.size; replace y0 := cell_kept Y0.out b5; replace y1 := cell_kept Y1.out b5; replace y2 := cell_kept Y2.out b5; replace y3 := cell_kept Y3.out b5; replace y4 := cell_kept Y4.out b5; replace y5 := cell_kept Y5.out b5; replace y6 := cell_kept Y6.out b5) | (rw [if_pos (by rfl)]; refine wp_append_own _ _ _ _ rfl w4.heap.size 43 i0 (.agg #[.int .i64 0, .int .i64 0, .string ⟨#[]⟩, .int .i64 0, .int .i64 0, .int .i64 0, .int .i64 0]) 7 64 Tryd.underlying24 hi hz0 hz1 hz2 rfl (by decide) v5 (0 + k) ([] ++ NEWS1) (by rfl) (by exact hown5.alloc _) ⟨w5.heap.size, 0, none⟩ 1 1 [.int .i64 x0, .int .i64 x1, .string x2, .int .i64 x3, .int .i64 x4, .int .i64 x5, .int .i64 x6] (by rfl) rfl (by exact cells7_new' _ _ _ _ _ _ _ _ _ rfl) (by simp [Value.oneCell']) (by unfold maxLen; omega) (by omega) (by (first | omega | (simp; done) | (simp; omega))) ?_; intro v6 w6 hown6 hg6 _; have b6 : Below w4.heap.size w4 w6 := Below.grown (by first | exact b5 | exact below_al b5 _) hg6 (by (first | omega | (simp; done) | (simp; omega))) (by exact fun kk hk => (hown5.lt kk hk).1); have s6 := b6.size; replace y0 := cell_kept Y0.out b6; replace y1 := cell_kept Y1.out b6; replace y2 := cell_kept Y2.out b6; replace y3 := cell_kept Y3.out b6; replace y4 := cell_kept Y4.out b6; replace y5 := cell_kept Y5.out b6; replace y6 := cell_kept Y6.out b6) | (rw [if_pos (by rfl)]; refine wp_append_own _ _ _ _ rfl w4.heap.size 43 i0 (.agg #[.int .i64 0, .int .i64 0, .string ⟨#[]⟩, .int .i64 0, .int .i64 0, .int .i64 0, .int .i64 0]) 7 64 Tryd.underlying24 hi hz0 hz1 hz2 rfl (by decide) v5 (0 + k) ([] ++ NEWS1) (by rfl) (by exact hown5) ⟨w4.heap.size + 1, 0, none⟩ 1 1 [.int .i64 x0, .int .i64 x1, .string x2, .int .i64 x3, .int .i64 x4, .int .i64 x5, .int .i64 x6] (by rfl) rfl (by exact cells_grownF hg5 (cells7_new' _ _ _ _ _ _ _ _ _ (by simp)) (by simp [Value.ownBlock])) (by simp [Value.oneCell']) (by unfold maxLen; omega) (by omega) (by (first | omega | (simp; done) | (simp; omega))) ?_; intro v6 w6 hown6 hg6 _; have b6 : Below w4.heap.size w4 w6 := Below.grown (by first | exact b5 | exact below_al b5 _) hg6 (by (first | omega | (simp; done) | (simp; omega))) (by exact fun kk hk => (hown5.lt kk hk).1); have s6 := b6.size; replace y0 := cell_kept Y0.out b6; replace y1 := cell_kept Y1.out b6; replace y2 := cell_kept Y2.out b6; replace y3 := cell_kept Y3.out b6; replace y4 := cell_kept Y4.out b6; replace y5 := cell_kept Y5.out b6; replace y6 := cell_kept Y6.out b6) | (rw [if_pos (by rfl)]; refine wp_append_own _ _ _ _ rfl w4.heap.size 43 i0 (.agg #[.int .i64 0, .int .i64 0, .string ⟨#[]⟩, .int .i64 0, .int .i64 0, .int .i64 0, .int .i64 0]) 7 64 Tryd.underlying24 hi hz0 hz1 hz2 rfl (by decide) v5 (0 + k) ([] ++ NEWS1) (by rfl) (by exact hown5) ⟨w4.heap.size, 0, none⟩ 1 1 [.int .i64 x0, .int .i64 x1, .string x2, .int .i64 x3, .int .i64 x4, .int .i64 x5, .int .i64 x6] (by rfl) rfl (by exact cells_grownF hg5 (fun j u hj => below_al_cell (cells7_new' _ _ _ _ _ _ _ _ _ rfl j u hj) _) (by simp [Value.ownBlock])) (by simp [Value.oneCell']) (by unfold maxLen; omega) (by omega) (by (first | omega | (simp; done) | (simp; omega))) ?_; intro v6 w6 hown6 hg6 _; have b6 : Below w4.heap.size w4 w6 := Below.grown (by first | exact b5 | exact below_al b5 _) hg6 (by (first | omega | (simp; done) | (simp; omega))) (by exact fun kk hk => (hown5.lt kk hk).1); have s6 := b6.size; replace y0 := cell_kept Y0.out b6; replace y1 := cell_kept Y1.out b6; replace y2 := cell_kept Y2.out b6; replace y3 := cell_kept Y3.out b6; replace y4 := cell_kept Y4.out b6; replace y5 := cell_kept Y5.out b6; replace y6 := cell_kept Y6.out b6) | (rw [if_pos (by rfl)]; refine wp_append_own _ _ _ _ rfl w4.heap.size 43 i0 (.agg #[.int .i64 0, .int .i64 0, .string ⟨#[]⟩, .int .i64 0, .int .i64 0, .int .i64 0, .int .i64 0]) 7 64 Tryd.underlying24 hi hz0 hz1 hz2 rfl (by decide) v6 (0 + k + 1) ([] ++ NEWS1 ++ [.int .i64 x0, .int .i64 x1, .string x2, .int .i64 x3, .int .i64 x4, .int .i64 x5, .int .i64 x6]) (by rfl) (by exact hown6) adr (D.length - k) (cD1 - k) NEWS2 (by rfl) HL2.out (by exact HN2.out _ b6) HO2.out (by unfold maxLen; omega) (by omega) (by (first | omega | (simp; done) | (simp; omega))) ?_; intro v7 w7 hown7 hg7 _; have b7 : Below w4.heap.size w4 w7 := Below.grown (by exact b6) hg7 (by (first | omega | (simp; done) | (simp; omega))) (by exact fun kk hk => (hown6.lt kk hk).1); have s7 := b7.size; replace y0 := cell_kept Y0.out b7; replace y1 := cell_kept Y1.out b7; replace y2 := cell_kept Y2.out b7; replace y3 := cell_kept Y3.out b7; replace y4 := cell_kept Y4.out b7; replace y5 := cell_kept Y5.out b7; replace y6 := cell_kept Y6.out b7))
                      all_goals
                        have e : ((D.take k ++ (⟨x0, x1, x2, x3, x4, x5, x6⟩ : Fi) :: D.drop k).map fiC).flatten = ([] ++ NEWS1 ++ [.int .i64 x0, .int .i64 x1, .string x2, .int .i64 x3, .int .i64 x4, .int .i64 x5, .int .i64 x6] ++ NEWS2 : List Value) := by
                          rw [List.map_append, List.flatten_append, List.map_cons, List.flatten_cons, HN1E.out, HN2E.out]
                          simp [fiC]
                        have el : (D.take k ++ (⟨x0, x1, x2, x3, x4, x5, x6⟩ : Fi) :: D.drop k).length = 0 + k + 1 + (D.length - k) := by rw [List.length_append, List.length_cons, List.length_take, List.length_drop]; omega
                        have hown8 := ownsRow_base_a' hown7 (base' := w1.heap.size) (by omega)
                        rw [← e] at hown8
                        obtain ⟨gn, gc, hv7⟩ := own_formF hown8 (by omega)
                        subst hv7
                        have HF : Hid (w7.ownsRow w1.heap.size 43 7 (.slice (some ⟨gn, 0, none⟩) (0 + k + 1 + (D.length - k)) gc) (0 + k + 1 + (D.length - k)) (((D.take k ++ (⟨x0, x1, x2, x3, x4, x5, x6⟩ : Fi) :: D.drop k).map fiC).flatten)) := Lib.hid hown8
                        have hb7 : Below w1.heap.size w1 w7 := HB3.out.trans ((hb4.trans (b7.mono s34)).mono HB3.out.size)
                        have HB7 := Lib.hid hb7
                        have HEL := Lib.hid el
                        clear hown8 hown7 hown6 hown5 hg5 hg6 hg7 b5 b6 b7 s5 s6 y0 y1 y2 y3 y4 y5 y6 Y0 Y1 Y2 Y3 Y4 Y5 Y6 hb7 HN1 HN2 hA HL1 HL2 HO1 HO2 e el
                        go_wp2_with fail
                        go_roundw
                        case rel => exact ⟨p + 1, gn, gc, by omega, by go_num, (by rw [HT.out, HEL.out]), (by rw [HT.out, HEL.out]; exact HF.out), HB7.out⟩
                        case measure => first | (simp [intOf]; done) | (simp [intOf]; omega)
                  · have hk1 : k = 0 := by omega
                    have r2 : ¬ ((0 : Int) < (k : Int)) := by omega
                    have r3 : decide ((0 : Int) < (k : Int)) = false := decide_eq_false r2
                    have HSK : Hid (scanF D x4 k = k) := Lib.hid (by rw [hk1]; rfl)
                    have HT := Lib.hid (since_step hpt HX.out HD.out HY.out HSC.out HSK.out)
                    clear HSC HSK hk1
                    go_wp2_with fail
                    refine wp_region_quiet_below (by kernel_rfl) (by kernel_rfl) ?_
                    repeat (go_big_quiet_step (fail))
                    refine wpQuiet_nil ?_
                    intro _ hw'
                    obtain ⟨⟨dq, osq⟩, hw''⟩ := hw'
                    subst hw''
                    have hb4 := hb4.trans ((below_regrown w4 dq osq).mono hb4.size)
                    generalize grow (redrawn w4 dq) osq = w4 at *
                    have hO4 := HO3.out.below hb4
                    have hcells := fis_cells hO4.row
                    obtain ⟨NEWS1, hN1⟩ : ∃ N, ((D.take k).map fiC).flatten = N := ⟨_, rfl⟩
                    obtain ⟨NEWS2, hN2⟩ : ∃ N, ((D.drop k).map fiC).flatten = N := ⟨_, rfl⟩
                    have HL1 : Hid (NEWS1.length = k * 7) := Lib.hid (by rw [← hN1, flat_map_len fiC_len, List.length_take, Nat.min_eq_left hk])
                    have HL2 : Hid (NEWS2.length = (D.length - k) * 7) := Lib.hid (by rw [← hN2, flat_map_len fiC_len, List.length_drop])
                    have HO1 : Hid (∀ u ∈ NEWS1, u.oneCell' = true) := Lib.hid (by rw [← hN1]; exact flat_one fiC_one _)
                    have HO2 : Hid (∀ u ∈ NEWS2, u.oneCell' = true) := Lib.hid (by rw [← hN2]; exact flat_one fiC_one _)
                    have HN1 : Hid (∀ W, Below w4.heap.size w4 W → ∀ j u, NEWS1[j]? = some u → W.cell? ((⟨g, 0, none⟩ : Addr).add j) = some u) := Lib.hid (fun W hW j u hj => by
                      refine hcells W hW j u ?_
                      rw [← hN1, ← flatC_take fiC_len, List.getElem?_take] at hj
                      split at hj
                      · exact hj
                      · cases hj)
                    obtain ⟨adr, hA, hN2c⟩ : ∃ A : Addr, (if cD1 = k then some (⟨g, 0, none⟩ : Addr) else some ⟨g, k * 7, none⟩) = some A ∧ Hid (∀ W, Below w4.heap.size w4 W → ∀ j u, NEWS2[j]? = some u → W.cell? (A.add j) = some u) := by
                      by_cases hc : cD1 = k
                      · refine ⟨⟨g, 0, none⟩, by simp [hc], Lib.hid (fun W hW j u hj => ?_)⟩
                        have h0 : NEWS2.length = 0 := by rw [HL2.out]; omega
                        rw [List.length_eq_zero_iff.1 h0] at hj
                        simp at hj
                      · refine ⟨⟨g, k * 7, none⟩, by simp [hc], Lib.hid (fun W hW j u hj => ?_)⟩
                        rw [Addr.add_lit]
                        have := hcells W hW (k * 7 + j) u (by rw [← dropC_at fiC_len hk, hN2]; exact hj)
                        rw [Addr.add_lit, Nat.zero_add] at this
                        exact this
                    have HN2 := hN2c
                    have HN1E := Lib.hid hN1
                    have HN2E := Lib.hid hN2
                    have y0 := cell_kept F0.out hb4
                    have Y0 := Lib.hid y0
                    have y1 := cell_kept F1.out hb4
                    have Y1 := Lib.hid y1
                    have y2 := cell_kept F2.out hb4
                    have Y2 := Lib.hid y2
                    have y3 := cell_kept F3.out hb4
                    have Y3 := Lib.hid y3
                    have y4 := cell_kept F4.out hb4
                    have Y4 := Lib.hid y4
                    have y5 := cell_kept F5.out hb4
                    have Y5 := Lib.hid y5
                    have y6 := cell_kept F6.out hb4
                    have Y6 := Lib.hid y6
                    have s34 := hb4.size
                    have b0 : Below w4.heap.size w4 w4.drew := (Below.refl _ _).drew
                    have kI0 : (0 : Int) ≤ (k : Int) := by omega
                    have kI1 : (k : Int) ≤ (D.length : Int) := by omega
                    have kc : k ≤ cD1 := by omega
                    clear hN1 hN2 hN2c hcells hO4
                    go_wp2_with fail
                    go_region_held3 (fun w' => w'.cell? ⟨b1, o1 + p * 7, none⟩ = some (.int .i64 x0) ∧ w'.cell? ⟨b1, o1 + p * 7 + 1, none⟩ = some (.int .i64 x1) ∧ w'.cell? ⟨b1, o1 + p * 7 + 2, none⟩ = some (.string x2) ∧ w'.cell? ⟨b1, o1 + p * 7 + 3, none⟩ = some (.int .i64 x3) ∧ w'.cell? ⟨b1, o1 + p * 7 + 4, none⟩ = some (.int .i64 x4) ∧ w'.cell? ⟨b1, o1 + p * 7 + 5, none⟩ = some (.int .i64 x5) ∧ w'.cell? ⟨b1, o1 + p * 7 + 6, none⟩ = some (.int .i64 x6)) (first | exact ⟨y0, y1, y2, y3, y4, y5, y6⟩ | go_keep) (first | (rw [if_pos (by rfl)]; refine wp_append_own _ _ _ _ rfl w4.heap.size 43 i0 (.agg #[.int .i64 0, .int .i64 0, .string ⟨#[]⟩, .int .i64 0, .int .i64 0, .int .i64 0, .int .i64 0]) 7 64 Tryd.underlying24 hi hz0 hz1 hz2 rfl (by decide) (.slice (some ⟨w4.heap.size, 0, none⟩) 0 0) 0 [] (by rfl) (by first | exact World.ownsRow_made w4.drew #[] 0 (Nat.le_refl _) (Nat.zero_le _) rfl | exact World.ownsRow.alloc (World.ownsRow_made w4.drew #[] 0 (Nat.le_refl _) (Nat.zero_le _) rfl) _) ⟨g, 0, none⟩ k cD1 NEWS1 (by rfl) HL1.out (by exact HN1.out _ (by first | exact below_al b0 _ | exact below_al (below_al b0 _) _)) HO1.out (by unfold maxLen; omega) (by omega) (by (first | omega | (simp; done) | (simp; omega))) ?_; intro v5 w5 hown5 hg5 _; have b5 : Below w4.heap.size w4 w5 := Below.grown (by first | exact below_al b0 _ | exact below_al (below_al b0 _) _) hg5 (by (first | omega | (simp; done) | (simp; omega))) (by intro kk hk; cases hk; exact Nat.le_refl _); have s5 := b5.size; replace y0 := cell_kept Y0.out b5; replace y1 := cell_kept Y1.out b5; replace y2 := cell_kept Y2.out b5; replace y3 := cell_kept Y3.out b5; replace y4 := cell_kept Y4.out b5; replace y5 := cell_kept Y5.out b5; replace y6 := cell_kept Y6.out b5) | (rw [if_pos (by rfl)]; refine wp_append_own _ _ _ _ rfl w4.heap.size 43 i0 (.agg #[.int .i64 0, .int .i64 0, .string ⟨#[]⟩, .int .i64 0, .int .i64 0, .int .i64 0, .int .i64 0]) 7 64 Tryd.underlying24 hi hz0 hz1 hz2 rfl (by decide) (.slice (some ⟨w4.heap.size + 1, 0, none⟩) 0 0) 0 [] (by rfl) (by have hh := World.ownsRow_made (base := w4.heap.size) (e := 43) (size := 7) (w4.drew.alloc (.cells #[.int .i64 x0, .int .i64 x1, .string x2, .int .i64 x3, .int .i64 x4, .int .i64 x5, .int .i64 x6] 43 (0, 0))) #[] 0 (by simp) (Nat.zero_le _) rfl; rw [show (w4.drew.alloc (.cells #[.int .i64 x0, .int .i64 x1, .string x2, .int .i64 x3, .int .i64 x4, .int .i64 x5, .int .i64 x6] 43 (0, 0))).heap.size = w4.heap.size + 1 by simp] at hh; exact hh) ⟨g, 0, none⟩ k cD1 NEWS1 (by rfl) HL1.out (by exact HN1.out _ (by first | exact below_al b0 _ | exact below_al (below_al b0 _) _)) HO1.out (by unfold maxLen; omega) (by omega) (by (first | omega | (simp; done) | (simp; omega))) ?_; intro v5 w5 hown5 hg5 _; have b5 : Below w4.heap.size w4 w5 := Below.grown (by first | exact below_al b0 _ | exact below_al (below_al b0 _) _) hg5 (by (first | omega | (simp; done) | (simp; omega))) (by intro kk hk; cases hk; exact Nat.le_succ _); have s5 := b5.size; replace y0 := cell_kept Y0.out b5; replace y1 := cell_kept Y1.out b5; replace y2 := cell_kept Y2.out b5; replace y3 := cell_kept Y3.out b5; replace y4 := cell_kept Y4.out b5; replace y5 := cell_kept Y5.out b5; replace y6 := cell_kept Y6.out b5) | (rw [if_pos (by rfl)]; refine wp_append_own _ _ _ _ rfl w4.heap.size 43 i0 (.agg #[.int .i64 0, .int .i64 0, .string ⟨#[]⟩, .int .i64 0, .int .i64 0, .int .i64 0, .int .i64 0]) 7 64 Tryd.underlying24 hi hz0 hz1 hz2 rfl (by decide) v5 (0 + k) ([] ++ NEWS1) (by rfl) (by exact hown5.alloc _) ⟨w5.heap.size, 0, none⟩ 1 1 [.int .i64 x0, .int .i64 x1, .string x2, .int .i64 x3, .int .i64 x4, .int .i64 x5, .int .i64 x6] (by rfl) rfl (by exact cells7_new' _ _ _ _ _ _ _ _ _ rfl) (by simp [Value.oneCell']) (by unfold maxLen; omega) (by omega) (by (first | omega | (simp; done) | (simp; omega))) ?_; intro v6 w6 hown6 hg6 _; have b6 : Below w4.heap.size w4 w6 := Below.grown (by first | exact b5 | exact below_al b5 _) hg6 (by (first | omega | (simp; done) | (simp; omega))) (by exact fun kk hk => (hown5.lt kk hk).1); have s6 := b6.size; replace y0 := cell_kept Y0.out b6; replace y1 := cell_kept Y1.out b6; replace y2 := cell_kept Y2.out b6; replace y3 := cell_kept Y3.out b6; replace y4 := cell_kept Y4.out b6; replace y5 := cell_kept Y5.out b6; replace y6 := cell_kept Y6.out b6) | (rw [if_pos (by rfl)]; refine wp_append_own _ _ _ _ rfl w4.heap.size 43 i0 (.agg #[.int .i64 0, .int .i64 0, .string ⟨#[]⟩, .int .i64 0, .int .i64 0, .int .i64 0, .int .i64 0]) 7 64 Tryd.underlying24 hi hz0 hz1 hz2 rfl (by decide) v5 (0 + k) ([] ++ NEWS1) (by rfl) (by exact hown5) ⟨w4.heap.size + 1, 0, none⟩ 1 1 [.int .i64 x0, .int .i64 x1, .string x2, .int .i64 x3, .int .i64 x4, .int .i64 x5, .int .i64 x6] (by rfl) rfl (by exact cells_grownF hg5 (cells7_new' _ _ _ _ _ _ _ _ _ (by simp)) (by simp [Value.ownBlock])) (by simp [Value.oneCell']) (by unfold maxLen; omega) (by omega) (by (first | omega | (simp; done) | (simp; omega))) ?_; intro v6 w6 hown6 hg6 _; have b6 : Below w4.heap.size w4 w6 := Below.grown (by first | exact b5 | exact below_al b5 _) hg6 (by (first | omega | (simp; done) | (simp; omega))) (by exact fun kk hk => (hown5.lt kk hk).1); have s6 := b6.size; replace y0 := cell_kept Y0.out b6; replace y1 := cell_kept Y1.out b6; replace y2 := cell_kept Y2.out b6; replace y3 := cell_kept Y3.out b6; replace y4 := cell_kept Y4.out b6; replace y5 := cell_kept Y5.out b6; replace y6 := cell_kept Y6.out b6) | (rw [if_pos (by rfl)]; refine wp_append_own _ _ _ _ rfl w4.heap.size 43 i0 (.agg #[.int .i64 0, .int .i64 0, .string ⟨#[]⟩, .int .i64 0, .int .i64 0, .int .i64 0, .int .i64 0]) 7 64 Tryd.underlying24 hi hz0 hz1 hz2 rfl (by decide) v5 (0 + k) ([] ++ NEWS1) (by rfl) (by exact hown5) ⟨w4.heap.size, 0, none⟩ 1 1 [.int .i64 x0, .int .i64 x1, .string x2, .int .i64 x3, .int .i64 x4, .int .i64 x5, .int .i64 x6] (by rfl) rfl (by exact cells_grownF hg5 (fun j u hj => below_al_cell (cells7_new' _ _ _ _ _ _ _ _ _ rfl j u hj) _) (by simp [Value.ownBlock])) (by simp [Value.oneCell']) (by unfold maxLen; omega) (by omega) (by (first | omega | (simp; done) | (simp; omega))) ?_; intro v6 w6 hown6 hg6 _; have b6 : Below w4.heap.size w4 w6 := Below.grown (by first | exact b5 | exact below_al b5 _) hg6 (by (first | omega | (simp; done) | (simp; omega))) (by exact fun kk hk => (hown5.lt kk hk).1); have s6 := b6.size; replace y0 := cell_kept Y0.out b6; replace y1 := cell_kept Y1.out b6; replace y2 := cell_kept Y2.out b6; replace y3 := cell_kept Y3.out b6; replace y4 := cell_kept Y4.out b6; replace y5 := cell_kept Y5.out b6; replace y6 := cell_kept Y6.out b6) | (rw [if_pos (by rfl)]; refine wp_append_own _ _ _ _ rfl w4.heap.size 43 i0 (.agg #[.int .i64 0, .int .i64 0, .string ⟨#[]⟩, .int .i64 0, .int .i64 0, .int .i64 0, .int .i64 0]) 7 64 Tryd.underlying24 hi hz0 hz1 hz2 rfl (by decide) v6 (0 + k + 1) ([] ++ NEWS1 ++ [.int .i64 x0, .int .i64 x1, .string x2, .int .i64 x3, .int .i64 x4, .int .i64 x5, .int .i64 x6]) (by rfl) (by exact hown6) adr (D.length - k) (cD1 - k) NEWS2 (by rfl) HL2.out (by exact HN2.out _ b6) HO2.out (by unfold maxLen; omega) (by omega) (by (first | omega | (simp; done) | (simp; omega))) ?_; intro v7 w7 hown7 hg7 _; have b7 : Below w4.heap.size w4 w7 := Below.grown (by exact b6) hg7 (by (first | omega | (simp; done) | (simp; omega))) (by exact fun kk hk => (hown6.lt kk hk).1); have s7 := b7.size; replace y0 := cell_kept Y0.out b7; replace y1 := cell_kept Y1.out b7; replace y2 := cell_kept Y2.out b7; replace y3 := cell_kept Y3.out b7; replace y4 := cell_kept Y4.out b7; replace y5 := cell_kept Y5.out b7; replace y6 := cell_kept Y6.out b7))
                    all_goals
                      have e : ((D.take k ++ (⟨x0, x1, x2, x3, x4, x5, x6⟩ : Fi) :: D.drop k).map fiC).flatten = ([] ++ NEWS1 ++ [.int .i64 x0, .int .i64 x1, .string x2, .int .i64 x3, .int .i64 x4, .int .i64 x5, .int .i64 x6] ++ NEWS2 : List Value) := by
                        rw [List.map_append, List.flatten_append, List.map_cons, List.flatten_cons, HN1E.out, HN2E.out]
                        simp [fiC]
                      have el : (D.take k ++ (⟨x0, x1, x2, x3, x4, x5, x6⟩ : Fi) :: D.drop k).length = 0 + k + 1 + (D.length - k) := by rw [List.length_append, List.length_cons, List.length_take, List.length_drop]; omega
                      have hown8 := ownsRow_base_a' hown7 (base' := w1.heap.size) (by omega)
                      rw [← e] at hown8
                      obtain ⟨gn, gc, hv7⟩ := own_formF hown8 (by omega)
                      subst hv7
                      have HF : Hid (w7.ownsRow w1.heap.size 43 7 (.slice (some ⟨gn, 0, none⟩) (0 + k + 1 + (D.length - k)) gc) (0 + k + 1 + (D.length - k)) (((D.take k ++ (⟨x0, x1, x2, x3, x4, x5, x6⟩ : Fi) :: D.drop k).map fiC).flatten)) := Lib.hid hown8
                      have hb7 : Below w1.heap.size w1 w7 := HB3.out.trans ((hb4.trans (b7.mono s34)).mono HB3.out.size)
                      have HB7 := Lib.hid hb7
                      have HEL := Lib.hid el
                      clear hown8 hown7 hown6 hown5 hg5 hg6 hg7 b5 b6 b7 s5 s6 y0 y1 y2 y3 y4 y5 y6 Y0 Y1 Y2 Y3 Y4 Y5 Y6 hb7 HN1 HN2 hA HL1 HL2 HO1 HO2 e el
                      go_wp2_with fail
                      go_roundw
                      case rel => exact ⟨p + 1, gn, gc, by omega, by go_num, (by rw [HT.out, HEL.out]), (by rw [HT.out, HEL.out]; exact HF.out), HB7.out⟩
                      case measure => first | (simp [intOf]; done) | (simp [intOf]; omega)
          · obtain rfl : p = t.length := by omega
            rw [List.take_length] at HD
            have hDL : D = L := HD.out.symm.trans HLE.out
            subst hDL
            have hgE : w1.heap.size ≤ g := (HO3.out.1.1.lt g rfl).1
            have hs1 := b1'.size
            simp only [World.size_alloc] at hs1
            have hO0 := ownsRow_below (ownsRow_below (World.ownsRow_made (e := 3) (size := 1) w #[] 0 (Nat.le_refl _) (Nat.zero_le _) rfl) b1') HB3.out
            have hbw : Below w.heap.size w wo := (below_chain (below_al (Below.refl w.heap.size w) (.cells #[] 3 (0, 0))) b1').trans (HB3.out.mono (by omega))
            have hOD : wo.ownsRow w1.heap.size 43 7 (.slice (some ⟨g, 0, none⟩) D.length cD1) D.length ((D.map fiC).flatten) := by have := HO3.out.1.1; rw [List.length_map] at this; exact this
            have HO0 := Lib.hid hO0
            have HBW := Lib.hid hbw
            have HOD := Lib.hid hOD
            have hDten : D.length ≤ 10 := by omega
            have hgw : w.heap.size < g := by omega
            clear hO0 hbw hOD HO3 HB3 RD HD HLE hgE hs1 b1' hszr hDl
            go_wp2_with fail
            go_loopw [8, 12] (fun o i wr => ∃ k : Nat, k ≤ D.length ∧ i = .int .i64 k ∧ o.ownBlock ≠ some g ∧ wr.ownsRow w.heap.size 3 1 o k (((D.take k).map (·.id)).map vI) ∧ wr.ownsRow w1.heap.size 43 7 (.slice (some ⟨g, 0, none⟩) D.length cD1) D.length ((D.map fiC).flatten) ∧ Below w.heap.size w wr) (fun _ i _ => D.length - (intOf i).toNat)
            case atStart => exact ⟨0, Nat.zero_le _, rfl, (by simp [Value.ownBlock]; omega), HO0.out, HOD.out, HBW.out⟩
            case round =>
              clear HO0 HBW HOD
              obtain ⟨k, hk, rfl, hog, hO, hOD, hb⟩ := hrel
              by_cases hkt : k < D.length
              · obtain ⟨aE, cE, eE, _, _, rE⟩ := (FisO.of_row hOD rfl HDK.out).row.fis
                cases eE
                obtain ⟨bD, oD, hbD, eeD, e1⟩ := rE.resolve_left (fun e => by rw [e] at hkt; simp at hkt)
                cases eeD
                obtain ⟨q0, q1, q2, q3, q4, q5, q6, hok⟩ := e1 k hkt
                obtain ⟨⟨z0, z1, z2, z3, z4, z5, z6⟩, hz⟩ : ∃ s, D.getD k fiD = s := ⟨_, rfl⟩
                have hsucc : ((D.take (k + 1)).map (·.id)).map vI = ((D.take k).map (·.id)).map vI ++ [.int .i64 (D.getD k fiD).id] := by
                  have e3 : D.take (k + 1) = D.take k ++ [D.getD k fiD] := by rw [List.take_add_one, List.getElem?_eq_getElem hkt, getFi_lt hkt]; rfl
                  rw [e3, List.map_append, List.map_append]
                  rfl
                rw [hz] at q0 hsucc
                simp only [Nat.zero_add] at q0 hsucc
                have g0 : (0 : Int) ≤ (k : Int) := by omega
                have g1 : (k : Int) < (D.length : Int) := by omega
                have HSU := Lib.hid hsucc
                have HOD := Lib.hid hOD
                have HOG := Lib.hid hog
                have hsz := hb.size
                clear q1 q2 q3 q4 q5 q6 hok e1 hz hsucc rE hOD hog
                go_wp2_with (first | (at_builtin; refine wpList_append_own_at _ rfl _ _ 31 rfl w.heap.size 3 j0 (.int .i64 0) 1 8 Tryd.underlying31 hj hy0 hy1 hy2 rfl (by decide) _ _ _ rfl (hO.alloc _) ⟨wr.heap.size, 0, none⟩ 1 1 [.int .i64 z0] rfl rfl (cell_oneI _ _ _ (by simp)) (by simp [Value.oneCell']) (by unfold maxLen; omega) (by omega) (by simp; omega) ?_; intro v' w4 hown' hgrow _ hat'))
                have HOWN := Lib.hid hown'
                have HBB := Lib.hid (below_app hb (Nat.le_refl _) hO hgrow)
                have HOD4 := Lib.hid ((World.ownsRow.alloc HOD.out _).kept hgrow (.inr (fun e => HOG.out e.symm)))
                have HOG4 : Hid (v'.ownBlock ≠ some g) := Lib.hid (fun e => by
                  rcases hat' with h | h
                  · exact HOG.out (h.symm.trans e)
                  · rw [h] at e
                    have := Option.some.inj e
                    simp at this
                    omega)
                clear hown' hgrow hO hat'
                go_wp2_with fail
                go_roundw
                case rel => exact ⟨k + 1, by omega, by go_num, HOG4.out, (by rw [HSU.out]; exact HOWN.out), HOD4.out, HBB.out⟩
                case measure => simp [intOf]; omega
              · obtain rfl : k = D.length := by omega
                rw [List.take_length] at hO
                have HO := Lib.hid hO
                clear hO hOD
                go_wp2_with fail
                go_ret2
                exact ⟨_, rfl, ⟨by simpa using HO.out, fun g hg => (HO.out.lt g hg).2⟩, hb⟩
end Go.Proofs.YtpbjddiopfkgbaaDoor
