/- What a tree is: the model's l3Good. -/
import Derived.Test.YtpbjddiopfkgbaaFindF
namespace Go.Proofs.Ytpbjddiopfkgbaa
set_option linter.unusedVariables false
open Go.RowKit Go.Sort

theorem fnAt_no1 {t : List Fn} {k : Nat} {f : Fn} (hx : t.getD k fnD = f) (h : isFn f = false) : fnAtB t k = false := by unfold fnAtB; rw [hx, h]; rfl
theorem fnAt_no2 {t : List Fn} {k : Nat} {f : Fn} (hx : t.getD k fnD = f) (h : ¬ prevF t k < f.id) : fnAtB t k = false := by unfold fnAtB; rw [hx, decide_eq_false h]; simp
theorem fnAt_no3 {t : List Fn} {k : Nat} {f : Fn} (hx : t.getD k fnD = f) (h0 : ¬ f.parent = 0) (h : hasF (t.take k) f.parent = false) : fnAtB t k = false := by unfold fnAtB; rw [hx, decide_eq_false h0, h]; simp
theorem fnAt_no4 {t : List Fn} {k j : Nat} {f : Fn} (hx : t.getD k fnD = f) (hj : j < k) (hk : k < t.length) (h : (t.getD j fnD).parent = f.parent ∧ (t.getD j fnD).name = f.name) : fnAtB t k = false := by
  have : sibF (t.take k) f = true := sibF_iff.2 ⟨t.getD j fnD, by rw [List.mem_take_iff_getElem]; exact ⟨j, by omega, by rw [getF_lt (by omega)]⟩, h⟩
  unfold fnAtB; rw [hx, this]; simp
theorem fnAt_yes {t : List Fn} {k : Nat} {f : Fn} (hk : k < t.length) (hx : t.getD k fnD = f) (h1 : isFn f = true) (h2 : prevF t k < f.id) (h3 : f.parent = 0 ∨ hasF (t.take k) f.parent = true) (h4 : ∀ j, j < k → ¬ ((t.getD j fnD).parent = f.parent ∧ (t.getD j fnD).name = f.name)) : fnAtB t k = true := by
  rw [fnAtB_iff, hx]
  refine ⟨h1, h2, h3, ?_⟩
  rcases hb : sibF (t.take k) f with _ | _
  · rfl
  · obtain ⟨g, hg, he⟩ := sibF_iff.1 hb
    rw [List.mem_take_iff_getElem] at hg
    obtain ⟨j, hj, rfl⟩ := hg
    exact absurd (by rw [getF_lt (by omega)]; exact he) (h4 j (by omega))
theorem tree_long {t : List Fn} (h : ¬ t.length ≤ 15) : isTree t = false := by unfold isTree; rw [decide_eq_false h]; rfl
theorem tree_all {t : List Fn} (h : t.length ≤ 15) (hu : upto (fnAtB t) t.length = true) : isTree t = true := by unfold isTree; rw [decide_eq_true h, hu]; rfl

set_option maxHeartbeats 2000000 in
theorem l3Good_any (v : Value) (t : List Fn) (w : World) (h : RowR 3 rFn w v t) :
    Calls Try.prog 48 #[v] w fun e w' => e = .returned (.bool (isTree t)) ∧ Below w.heap.size w w' := by
  have hcap := h.cap
  obtain ⟨a1, c1, hv, hl1, hm1, r1⟩ := h.fns
  subst hv
  have H := Lib.hid h
  have R1 := Lib.hid r1
  clear h r1
  unfold maxLen at hm1
  go_enter Try.func48, Try.ntmps48
  go_wp2
  go_loopw [3] (fun i wr => ∃ k : Nat, k ≤ t.length ∧ k ≤ 16 ∧ i = .int .i64 k ∧ Hid (upto (fnAtB t) k = true) ∧ Below w.heap.size w wr) (fun i _ => t.length - (intOf i).toNat)
  case atStart => exact ⟨0, Nat.zero_le _, Nat.zero_le _, rfl, Lib.hid (by simp [upto]), Below.refl _ _⟩
  case round =>
    obtain ⟨k, hk, hk16, rfl, HU, hb⟩ := hrel
    by_cases hlt : k < t.length ∧ k ≤ 15
    · obtain ⟨hlt, h15⟩ := hlt
      obtain ⟨b1, o1, hb1, rfl, e1⟩ := R1.out.resolve_left (fun e => by rw [e] at hlt; simp at hlt)
      obtain ⟨f, hx⟩ : ∃ s, t.getD k fnD = s := ⟨_, rfl⟩
      obtain ⟨q0, q1, q2, hok⟩ := e1 k hlt
      rw [hx] at q0 q1 q2 hok
      obtain ⟨fi, fp, fs⟩ := f
      simp only at q0 q1 q2
      have f0 := cell_kept q0 hb
      have f1 := cell_kept q1 hb
      have f2 := cell_kept q2 hb
      have HX := Lib.hid hx
      have E1 := Lib.hid e1
      have g0 : (0 : Int) ≤ (k : Int) := by omega
      have g1 : (k : Int) < (t.length : Int) := by omega
      have hw := hb.size
      obtain ⟨bF, hbF⟩ : ∃ b, isFn ⟨fi, fp, fs⟩ = b := ⟨_, rfl⟩
      have hcall : ∀ W : World, Calls Try.prog 83 #[.agg #[.int .i64 fi, .int .i64 fp, .string fs]] W fun e w' => e = .returned (.bool bF) ∧ Below W.heap.size W w' := fun W => by
        have := specFn_any ⟨fi, fp, fs⟩ W hok.2.2
        rwa [hbF] at this
      have HF := Lib.hid hbF
      have hfind : ∀ W : World, Below wr.heap.size wr W → Calls Try.prog 49 #[.slice (some ⟨b1, o1, none⟩) k c1, .int .i64 fp] W fun e w' => e = .returned (.int .i64 (findI (t.take k) fp)) ∧ Below W.heap.size W w' := fun W hW =>
        l3Find_any _ _ _ _ (((H.out.below rFn_stable hb).below rFn_stable hW).fn_take hk)
      obtain ⟨cF, hcF⟩ : ∃ c, findI (t.take k) fp = c := ⟨_, rfl⟩
      rw [hcF] at hfind
      have HCF := Lib.hid hcF
      have HFIND := Lib.hid hfind
      clear q0 q1 q2 hok e1 hx hbF hcF hfind
      cases bF
      · have hnt := notTree hlt (fnAt_no1 HX.out HF.out)
        have HNT := Lib.hid hnt
        clear hnt
        go_wp2_with fail
        generalize hWE : wr.alloc (.cells #[.int .i64 fi, .int .i64 fp, .string fs] 36 (0, 0)) = wE
        have bE : Below wr.heap.size wr wE := by rw [← hWE]; exact below_al (Below.refl _ _) _
        have z0 : wE.cell? ⟨wr.heap.size, 0, none⟩ = some (.int .i64 fi) := by rw [← hWE]; exact cell_new wr _ _ 0 rfl
        have z1 : wE.cell? ⟨wr.heap.size, 1, none⟩ = some (.int .i64 fp) := by rw [← hWE]; exact cell_new wr _ _ 1 rfl
        have z2 : wE.cell? ⟨wr.heap.size, 2, none⟩ = some (.string fs) := by rw [← hWE]; exact cell_new wr _ _ 2 rfl
        have m0 := cell_regrown z0
        have m1 := cell_regrown z1
        have m2 := cell_regrown z2
        have hc : ∀ d os, Calls Try.prog 83 #[.agg #[.int .i64 fi, .int .i64 fp, .string fs]] (grow (redrawn wE d) os) fun e w'' => e = .returned (.bool false) ∧ ∃ p : Regrown, w'' = grow (redrawn wE p.d) p.os := fun d os => Calls.regrown_of (hcall _)
        refine wp_region_quiet_below (by kernel_rfl) (by kernel_rfl) ?_
        repeat (go_big_quiet_step (first | exact hc _ _))
        refine wpQuiet_nil ?_
        intro _ hw'
        obtain ⟨⟨dq, osq⟩, hw''⟩ := hw'
        subst hw''
        have bq := below_regrown wE dq osq
        generalize grow (redrawn wE dq) osq = w2 at bq ⊢
        go_wp2
        go_ret
        exact ⟨ret_bool HNT.out.symm, (hb.trans (bE.mono hw)).trans (bq.mono (Nat.le_trans hw bE.size))⟩
      · have hfn := isFn_iff.1 HF.out
        simp only at hfn
        obtain ⟨hfi, hfp, hfw⟩ := hfn
        have HFW := Lib.hid hfw
        clear hfw
        rcases Nat.eq_zero_or_pos k with hk0 | hk0
        · have dk : decide ((0 : Int) < (k : Int)) = false := decide_eq_false (by omega)
          have dk2 : decide (0 < k) = false := decide_eq_false (by omega)
          have hpv : prevF t k < fi := by rw [hk0]; simp only [prevF]; omega
          have HPV := Lib.hid hpv
          have HK0 := Lib.hid hk0
          clear hk0 hpv
          by_cases hp0 : fp = 0
          · have dp0 : decide (0 < fp) = false := decide_eq_false (by omega)
            have HP3 : Hid (fp = 0 ∨ hasF (t.take k) fp = true) := .inl hp0
            have HP0 := Lib.hid hp0
            clear hp0
            go_wp2_with fail
            generalize hWE : wr.alloc (.cells #[.int .i64 fi, .int .i64 fp, .string fs] 36 (0, 0)) = wE
            have bE : Below wr.heap.size wr wE := by rw [← hWE]; exact below_al (Below.refl _ _) _
            have z0 : wE.cell? ⟨wr.heap.size, 0, none⟩ = some (.int .i64 fi) := by rw [← hWE]; exact cell_new wr _ _ 0 rfl
            have z1 : wE.cell? ⟨wr.heap.size, 1, none⟩ = some (.int .i64 fp) := by rw [← hWE]; exact cell_new wr _ _ 1 rfl
            have z2 : wE.cell? ⟨wr.heap.size, 2, none⟩ = some (.string fs) := by rw [← hWE]; exact cell_new wr _ _ 2 rfl
            have m0 := cell_regrown z0
            have m1 := cell_regrown z1
            have m2 := cell_regrown z2
            have hc : ∀ d os, Calls Try.prog 83 #[.agg #[.int .i64 fi, .int .i64 fp, .string fs]] (grow (redrawn wE d) os) fun e w'' => e = .returned (.bool true) ∧ ∃ p : Regrown, w'' = grow (redrawn wE p.d) p.os := fun d os => Calls.regrown_of (hcall _)
            refine wp_region_quiet_below (by kernel_rfl) (by kernel_rfl) ?_
            repeat (go_big_quiet_step (first | exact hc _ _))
            refine wpQuiet_nil ?_
            intro _ hw'
            obtain ⟨⟨dq, osq⟩, hw''⟩ := hw'
            subst hw''
            have bq := below_regrown wE dq osq
            generalize grow (redrawn wE dq) osq = w2 at bq ⊢
            go_wp2
            have y1 := cell_kept z1 bq
            have y2 := cell_kept z2 bq
            have b2 : Below w.heap.size w w2 := (hb.trans (bE.mono hw)).trans (bq.mono (Nat.le_trans hw bE.size))
            have s2 := b2.size
            clear z0 z1 z2 m0 m1 m2 hc bq bE hWE
            go_loopw [5] (fun i2 wr2 => ∃ m : Nat, m ≤ k ∧ i2 = .int .i64 m ∧ Hid (∀ l, l < m → ¬ ((t.getD l fnD).parent = fp ∧ (t.getD l fnD).name = fs)) ∧ Below w2.heap.size w2 wr2) (fun i2 _ => k - (intOf i2).toNat)
            case atStart => exact ⟨0, Nat.zero_le _, rfl, Lib.hid (fun l h => absurd h (Nat.not_lt_zero _)), Below.refl _ _⟩
            case round =>
              obtain ⟨m, hm, rfl, HM, hb2⟩ := hrel
              have b3 := b2.trans (hb2.mono s2)
              by_cases hmk : m < k
              · obtain ⟨⟨gi, gp, gs⟩, hgx⟩ : ∃ s, t.getD m fnD = s := ⟨_, rfl⟩
                obtain ⟨p0, p1, p2, _⟩ := E1.out m (by omega)
                rw [hgx] at p1 p2
                simp only at p1 p2
                have c1 := cell_kept p1 b3
                have c2 := cell_kept p2 b3
                have x1 := cell_kept y1 hb2
                have x2 := cell_kept y2 hb2
                have HGX := Lib.hid hgx
                have h0m : (0 : Int) ≤ (m : Int) := by omega
                have h1m : (m : Int) < (t.length : Int) := by omega
                have h2m : (m : Int) < (k : Int) := by omega
                clear p0 p1 p2 hgx
                by_cases hpp : gp = fp
                · have dpp : (gp == fp) = true := by simp [hpp]
                  have HPP := Lib.hid hpp
                  clear hpp
                  by_cases hss : gs = fs
                  · have dss : (gs.toList == fs.toList) = true := by simp [hss]
                    have hnt := notTree hlt (fnAt_no4 (j := m) HX.out (by omega) hlt (by rw [HGX.out]; exact ⟨HPP.out, hss⟩))
                    have HNT := Lib.hid hnt
                    clear hnt hss
                    go_wp2_with fail
                    go_quiet (fail)
                    go_wp2_with fail
                    go_ret
                    exact ⟨ret_bool HNT.out.symm, below_drewN b3 _⟩
                  · have dss := beq_bytes_ne hss
                    have HSS := Lib.hid hss
                    clear hss
                    go_wp2_with fail
                    go_quiet (fail)
                    go_wp2_with fail
                    go_roundw
                    case rel =>
                      refine ⟨m + 1, by omega, by go_num, Lib.hid (fun l hl => ?_), below_drewN hb2 _⟩
                      rcases Nat.lt_or_ge l m with h' | h'
                      · exact HM.out l h'
                      · obtain rfl : l = m := by omega
                        rw [HGX.out]
                        exact fun h => HSS.out h.2
                    case measure => simp [intOf]; omega
                · have dpp : (gp == fp) = false := by simp [hpp]
                  have HPP := Lib.hid hpp
                  clear hpp
                  go_wp2_with fail
                  go_quiet (fail)
                  go_wp2_with fail
                  go_roundw
                  case rel =>
                    refine ⟨m + 1, by omega, by go_num, Lib.hid (fun l hl => ?_), below_drewN hb2 _⟩
                    rcases Nat.lt_or_ge l m with h' | h'
                    · exact HM.out l h'
                    · obtain rfl : l = m := by omega
                      rw [HGX.out]
                      exact fun h => HPP.out h.1
                  case measure => simp [intOf]; omega
              · have hmK : m = k := by omega
                have HM2 : Hid (∀ l, l < k → ¬ ((t.getD l fnD).parent = fp ∧ (t.getD l fnD).name = fs)) := by rw [← hmK]; exact HM
                clear hmK
                go_wp2_with fail
                go_roundw
                case rel => exact ⟨k + 1, by omega, by omega, by go_num, Lib.hid (upto_succ HU.out (fnAt_yes hlt HX.out HF.out HPV.out HP3.out HM2.out)), b3⟩
                case measure => simp [intOf]; omega
          · have dp0 : decide (0 < fp) = true := decide_eq_true (by omega)
            by_cases hcn : cF < 0
            · have hnt := notTree hlt (fnAt_no3 HX.out hp0 (findI_neg.1 (by rw [HCF.out]; exact hcn)))
              have HNT := Lib.hid hnt
              clear hnt
              go_wp2_with fail
              generalize hWE : wr.alloc (.cells #[.int .i64 fi, .int .i64 fp, .string fs] 36 (0, 0)) = wE
              have bE : Below wr.heap.size wr wE := by rw [← hWE]; exact below_al (Below.refl _ _) _
              have z0 : wE.cell? ⟨wr.heap.size, 0, none⟩ = some (.int .i64 fi) := by rw [← hWE]; exact cell_new wr _ _ 0 rfl
              have z1 : wE.cell? ⟨wr.heap.size, 1, none⟩ = some (.int .i64 fp) := by rw [← hWE]; exact cell_new wr _ _ 1 rfl
              have z2 : wE.cell? ⟨wr.heap.size, 2, none⟩ = some (.string fs) := by rw [← hWE]; exact cell_new wr _ _ 2 rfl
              have m0 := cell_regrown z0
              have m1 := cell_regrown z1
              have m2 := cell_regrown z2
              have hc : ∀ d os, Calls Try.prog 83 #[.agg #[.int .i64 fi, .int .i64 fp, .string fs]] (grow (redrawn wE d) os) fun e w'' => e = .returned (.bool true) ∧ ∃ p : Regrown, w'' = grow (redrawn wE p.d) p.os := fun d os => Calls.regrown_of (hcall _)
              have hd : ∀ d os, Calls Try.prog 49 #[.slice (some ⟨b1, o1, none⟩) k c1, .int .i64 fp] (grow (redrawn wE d) os) fun e w'' => e = .returned (.int .i64 cF) ∧ ∃ p : Regrown, w'' = grow (redrawn wE p.d) p.os := fun d os => Calls.regrown_of (HFIND.out _ (bE.trans ((below_regrown wE d os).mono bE.size)))
              refine wp_region_quiet_below (by kernel_rfl) (by kernel_rfl) ?_
              repeat (go_big_quiet_step (first | exact hc _ _ | exact hd _ _))
              refine wpQuiet_nil ?_
              intro _ hw'
              obtain ⟨⟨dq, osq⟩, hw''⟩ := hw'
              subst hw''
              have bq := below_regrown wE dq osq
              generalize grow (redrawn wE dq) osq = w2 at bq ⊢
              go_wp2
              go_ret
              exact ⟨ret_bool HNT.out.symm, (hb.trans (bE.mono hw)).trans (bq.mono (Nat.le_trans hw bE.size))⟩
            · have dcn : decide (cF < 0) = false := decide_eq_false hcn
              have HP3 : Hid (fp = 0 ∨ hasF (t.take k) fp = true) := .inr (hasF_of_find (by rw [HCF.out]; exact hcn))
              go_wp2_with fail
              generalize hWE : wr.alloc (.cells #[.int .i64 fi, .int .i64 fp, .string fs] 36 (0, 0)) = wE
              have bE : Below wr.heap.size wr wE := by rw [← hWE]; exact below_al (Below.refl _ _) _
              have z0 : wE.cell? ⟨wr.heap.size, 0, none⟩ = some (.int .i64 fi) := by rw [← hWE]; exact cell_new wr _ _ 0 rfl
              have z1 : wE.cell? ⟨wr.heap.size, 1, none⟩ = some (.int .i64 fp) := by rw [← hWE]; exact cell_new wr _ _ 1 rfl
              have z2 : wE.cell? ⟨wr.heap.size, 2, none⟩ = some (.string fs) := by rw [← hWE]; exact cell_new wr _ _ 2 rfl
              have m0 := cell_regrown z0
              have m1 := cell_regrown z1
              have m2 := cell_regrown z2
              have hc : ∀ d os, Calls Try.prog 83 #[.agg #[.int .i64 fi, .int .i64 fp, .string fs]] (grow (redrawn wE d) os) fun e w'' => e = .returned (.bool true) ∧ ∃ p : Regrown, w'' = grow (redrawn wE p.d) p.os := fun d os => Calls.regrown_of (hcall _)
              have hd : ∀ d os, Calls Try.prog 49 #[.slice (some ⟨b1, o1, none⟩) k c1, .int .i64 fp] (grow (redrawn wE d) os) fun e w'' => e = .returned (.int .i64 cF) ∧ ∃ p : Regrown, w'' = grow (redrawn wE p.d) p.os := fun d os => Calls.regrown_of (HFIND.out _ (bE.trans ((below_regrown wE d os).mono bE.size)))
              refine wp_region_quiet_below (by kernel_rfl) (by kernel_rfl) ?_
              repeat (go_big_quiet_step (first | exact hc _ _ | exact hd _ _))
              refine wpQuiet_nil ?_
              intro _ hw'
              obtain ⟨⟨dq, osq⟩, hw''⟩ := hw'
              subst hw''
              have bq := below_regrown wE dq osq
              generalize grow (redrawn wE dq) osq = w2 at bq ⊢
              go_wp2
              have y1 := cell_kept z1 bq
              have y2 := cell_kept z2 bq
              have b2 : Below w.heap.size w w2 := (hb.trans (bE.mono hw)).trans (bq.mono (Nat.le_trans hw bE.size))
              have s2 := b2.size
              clear z0 z1 z2 m0 m1 m2 hc bq bE hWE
              go_loopw [5] (fun i2 wr2 => ∃ m : Nat, m ≤ k ∧ i2 = .int .i64 m ∧ Hid (∀ l, l < m → ¬ ((t.getD l fnD).parent = fp ∧ (t.getD l fnD).name = fs)) ∧ Below w2.heap.size w2 wr2) (fun i2 _ => k - (intOf i2).toNat)
              case atStart => exact ⟨0, Nat.zero_le _, rfl, Lib.hid (fun l h => absurd h (Nat.not_lt_zero _)), Below.refl _ _⟩
              case round =>
                obtain ⟨m, hm, rfl, HM, hb2⟩ := hrel
                have b3 := b2.trans (hb2.mono s2)
                by_cases hmk : m < k
                · obtain ⟨⟨gi, gp, gs⟩, hgx⟩ : ∃ s, t.getD m fnD = s := ⟨_, rfl⟩
                  obtain ⟨p0, p1, p2, _⟩ := E1.out m (by omega)
                  rw [hgx] at p1 p2
                  simp only at p1 p2
                  have c1 := cell_kept p1 b3
                  have c2 := cell_kept p2 b3
                  have x1 := cell_kept y1 hb2
                  have x2 := cell_kept y2 hb2
                  have HGX := Lib.hid hgx
                  have h0m : (0 : Int) ≤ (m : Int) := by omega
                  have h1m : (m : Int) < (t.length : Int) := by omega
                  have h2m : (m : Int) < (k : Int) := by omega
                  clear p0 p1 p2 hgx
                  by_cases hpp : gp = fp
                  · have dpp : (gp == fp) = true := by simp [hpp]
                    have HPP := Lib.hid hpp
                    clear hpp
                    by_cases hss : gs = fs
                    · have dss : (gs.toList == fs.toList) = true := by simp [hss]
                      have hnt := notTree hlt (fnAt_no4 (j := m) HX.out (by omega) hlt (by rw [HGX.out]; exact ⟨HPP.out, hss⟩))
                      have HNT := Lib.hid hnt
                      clear hnt hss
                      go_wp2_with fail
                      go_quiet (fail)
                      go_wp2_with fail
                      go_ret
                      exact ⟨ret_bool HNT.out.symm, below_drewN b3 _⟩
                    · have dss := beq_bytes_ne hss
                      have HSS := Lib.hid hss
                      clear hss
                      go_wp2_with fail
                      go_quiet (fail)
                      go_wp2_with fail
                      go_roundw
                      case rel =>
                        refine ⟨m + 1, by omega, by go_num, Lib.hid (fun l hl => ?_), below_drewN hb2 _⟩
                        rcases Nat.lt_or_ge l m with h' | h'
                        · exact HM.out l h'
                        · obtain rfl : l = m := by omega
                          rw [HGX.out]
                          exact fun h => HSS.out h.2
                      case measure => simp [intOf]; omega
                  · have dpp : (gp == fp) = false := by simp [hpp]
                    have HPP := Lib.hid hpp
                    clear hpp
                    go_wp2_with fail
                    go_quiet (fail)
                    go_wp2_with fail
                    go_roundw
                    case rel =>
                      refine ⟨m + 1, by omega, by go_num, Lib.hid (fun l hl => ?_), below_drewN hb2 _⟩
                      rcases Nat.lt_or_ge l m with h' | h'
                      · exact HM.out l h'
                      · obtain rfl : l = m := by omega
                        rw [HGX.out]
                        exact fun h => HPP.out h.1
                    case measure => simp [intOf]; omega
                · have hmK : m = k := by omega
                  have HM2 : Hid (∀ l, l < k → ¬ ((t.getD l fnD).parent = fp ∧ (t.getD l fnD).name = fs)) := by rw [← hmK]; exact HM
                  clear hmK
                  go_wp2_with fail
                  go_roundw
                  case rel => exact ⟨k + 1, by omega, by omega, by go_num, Lib.hid (upto_succ HU.out (fnAt_yes hlt HX.out HF.out HPV.out HP3.out HM2.out)), b3⟩
                  case measure => simp [intOf]; omega
        · obtain ⟨j, rfl⟩ : ∃ j, k = j + 1 := ⟨k - 1, by omega⟩
          clear hk0
          obtain ⟨pf, hpf⟩ : ∃ s, t.getD j fnD = s := ⟨_, rfl⟩
          obtain ⟨q3, _⟩ := E1.out j (by omega)
          rw [hpf] at q3
          have f3 := cell_kept q3 hb
          have hpk : prevF t (j + 1) = pf.id := by rw [prevF, hpf]
          have HPK := Lib.hid hpk
          have g2 : (j : Int) < (t.length : Int) := by omega
          have g3 : (0 : Int) ≤ (j : Int) := by omega
          have g4 : (0 : Int) < (j : Int) + 1 := by omega
          clear q3 hpf hpk
          by_cases hP : fi ≤ pf.id
          · have hnt := notTree hlt (fnAt_no2 HX.out (by rw [HPK.out]; simp only; omega))
            have HNT := Lib.hid hnt
            clear hnt
            go_wp2_with fail
            generalize hWE : wr.alloc (.cells #[.int .i64 fi, .int .i64 fp, .string fs] 36 (0, 0)) = wE
            have bE : Below wr.heap.size wr wE := by rw [← hWE]; exact below_al (Below.refl _ _) _
            have z0 : wE.cell? ⟨wr.heap.size, 0, none⟩ = some (.int .i64 fi) := by rw [← hWE]; exact cell_new wr _ _ 0 rfl
            have z1 : wE.cell? ⟨wr.heap.size, 1, none⟩ = some (.int .i64 fp) := by rw [← hWE]; exact cell_new wr _ _ 1 rfl
            have z2 : wE.cell? ⟨wr.heap.size, 2, none⟩ = some (.string fs) := by rw [← hWE]; exact cell_new wr _ _ 2 rfl
            have m0 := cell_regrown z0
            have m1 := cell_regrown z1
            have m2 := cell_regrown z2
            have m3 := cell_regrown (cell_kept f3 bE)
            have hc : ∀ d os, Calls Try.prog 83 #[.agg #[.int .i64 fi, .int .i64 fp, .string fs]] (grow (redrawn wE d) os) fun e w'' => e = .returned (.bool true) ∧ ∃ p : Regrown, w'' = grow (redrawn wE p.d) p.os := fun d os => Calls.regrown_of (hcall _)
            refine wp_region_quiet_below (by kernel_rfl) (by kernel_rfl) ?_
            repeat (go_big_quiet_step (first | exact hc _ _))
            refine wpQuiet_nil ?_
            intro _ hw'
            obtain ⟨⟨dq, osq⟩, hw''⟩ := hw'
            subst hw''
            have bq := below_regrown wE dq osq
            generalize grow (redrawn wE dq) osq = w2 at bq ⊢
            go_wp2
            go_ret
            exact ⟨ret_bool HNT.out.symm, (hb.trans (bE.mono hw)).trans (bq.mono (Nat.le_trans hw bE.size))⟩
          · have dP : decide (fi ≤ pf.id) = false := decide_eq_false hP
            have hpv : prevF t (j + 1) < fi := by rw [HPK.out]; omega
            have HPV := Lib.hid hpv
            clear hpv
            by_cases hp0 : fp = 0
            · have dp0 : decide (0 < fp) = false := decide_eq_false (by omega)
              have HP3 : Hid (fp = 0 ∨ hasF (t.take (j + 1)) fp = true) := .inl hp0
              have HP0 := Lib.hid hp0
              clear hp0
              go_wp2_with fail
              generalize hWE : wr.alloc (.cells #[.int .i64 fi, .int .i64 fp, .string fs] 36 (0, 0)) = wE
              have bE : Below wr.heap.size wr wE := by rw [← hWE]; exact below_al (Below.refl _ _) _
              have z0 : wE.cell? ⟨wr.heap.size, 0, none⟩ = some (.int .i64 fi) := by rw [← hWE]; exact cell_new wr _ _ 0 rfl
              have z1 : wE.cell? ⟨wr.heap.size, 1, none⟩ = some (.int .i64 fp) := by rw [← hWE]; exact cell_new wr _ _ 1 rfl
              have z2 : wE.cell? ⟨wr.heap.size, 2, none⟩ = some (.string fs) := by rw [← hWE]; exact cell_new wr _ _ 2 rfl
              have m0 := cell_regrown z0
              have m1 := cell_regrown z1
              have m2 := cell_regrown z2
              have m3 := cell_regrown (cell_kept f3 bE)
              have hc : ∀ d os, Calls Try.prog 83 #[.agg #[.int .i64 fi, .int .i64 fp, .string fs]] (grow (redrawn wE d) os) fun e w'' => e = .returned (.bool true) ∧ ∃ p : Regrown, w'' = grow (redrawn wE p.d) p.os := fun d os => Calls.regrown_of (hcall _)
              refine wp_region_quiet_below (by kernel_rfl) (by kernel_rfl) ?_
              repeat (go_big_quiet_step (first | exact hc _ _))
              refine wpQuiet_nil ?_
              intro _ hw'
              obtain ⟨⟨dq, osq⟩, hw''⟩ := hw'
              subst hw''
              have bq := below_regrown wE dq osq
              generalize grow (redrawn wE dq) osq = w2 at bq ⊢
              go_wp2
              have y1 := cell_kept z1 bq
              have y2 := cell_kept z2 bq
              have b2 : Below w.heap.size w w2 := (hb.trans (bE.mono hw)).trans (bq.mono (Nat.le_trans hw bE.size))
              have s2 := b2.size
              clear z0 z1 z2 m0 m1 m2 hc bq bE hWE m3
              go_loopw [5] (fun i2 wr2 => ∃ m : Nat, m ≤ (j + 1) ∧ i2 = .int .i64 m ∧ Hid (∀ l, l < m → ¬ ((t.getD l fnD).parent = fp ∧ (t.getD l fnD).name = fs)) ∧ Below w2.heap.size w2 wr2) (fun i2 _ => (j + 1) - (intOf i2).toNat)
              case atStart => exact ⟨0, Nat.zero_le _, rfl, Lib.hid (fun l h => absurd h (Nat.not_lt_zero _)), Below.refl _ _⟩
              case round =>
                obtain ⟨m, hm, rfl, HM, hb2⟩ := hrel
                have b3 := b2.trans (hb2.mono s2)
                by_cases hmk : m < (j + 1)
                · obtain ⟨⟨gi, gp, gs⟩, hgx⟩ : ∃ s, t.getD m fnD = s := ⟨_, rfl⟩
                  obtain ⟨p0, p1, p2, _⟩ := E1.out m (by omega)
                  rw [hgx] at p1 p2
                  simp only at p1 p2
                  have c1 := cell_kept p1 b3
                  have c2 := cell_kept p2 b3
                  have x1 := cell_kept y1 hb2
                  have x2 := cell_kept y2 hb2
                  have HGX := Lib.hid hgx
                  have h0m : (0 : Int) ≤ (m : Int) := by omega
                  have h1m : (m : Int) < (t.length : Int) := by omega
                  have h2m : (m : Int) < ((j : Int) + 1) := by omega
                  clear p0 p1 p2 hgx
                  by_cases hpp : gp = fp
                  · have dpp : (gp == fp) = true := by simp [hpp]
                    have HPP := Lib.hid hpp
                    clear hpp
                    by_cases hss : gs = fs
                    · have dss : (gs.toList == fs.toList) = true := by simp [hss]
                      have hnt := notTree hlt (fnAt_no4 (j := m) HX.out (by omega) hlt (by rw [HGX.out]; exact ⟨HPP.out, hss⟩))
                      have HNT := Lib.hid hnt
                      clear hnt hss
                      go_wp2_with fail
                      go_quiet (fail)
                      go_wp2_with fail
                      go_ret
                      exact ⟨ret_bool HNT.out.symm, below_drewN b3 _⟩
                    · have dss := beq_bytes_ne hss
                      have HSS := Lib.hid hss
                      clear hss
                      go_wp2_with fail
                      go_quiet (fail)
                      go_wp2_with fail
                      go_roundw
                      case rel =>
                        refine ⟨m + 1, by omega, by go_num, Lib.hid (fun l hl => ?_), below_drewN hb2 _⟩
                        rcases Nat.lt_or_ge l m with h' | h'
                        · exact HM.out l h'
                        · obtain rfl : l = m := by omega
                          rw [HGX.out]
                          exact fun h => HSS.out h.2
                      case measure => simp [intOf]; omega
                  · have dpp : (gp == fp) = false := by simp [hpp]
                    have HPP := Lib.hid hpp
                    clear hpp
                    go_wp2_with fail
                    go_quiet (fail)
                    go_wp2_with fail
                    go_roundw
                    case rel =>
                      refine ⟨m + 1, by omega, by go_num, Lib.hid (fun l hl => ?_), below_drewN hb2 _⟩
                      rcases Nat.lt_or_ge l m with h' | h'
                      · exact HM.out l h'
                      · obtain rfl : l = m := by omega
                        rw [HGX.out]
                        exact fun h => HPP.out h.1
                    case measure => simp [intOf]; omega
                · have hmK : m = (j + 1) := by omega
                  have HM2 : Hid (∀ l, l < (j + 1) → ¬ ((t.getD l fnD).parent = fp ∧ (t.getD l fnD).name = fs)) := by rw [← hmK]; exact HM
                  clear hmK
                  go_wp2_with fail
                  go_roundw
                  case rel => exact ⟨(j + 1) + 1, by omega, by omega, by go_num, Lib.hid (upto_succ HU.out (fnAt_yes hlt HX.out HF.out HPV.out HP3.out HM2.out)), b3⟩
                  case measure => simp [intOf]; omega
            · have dp0 : decide (0 < fp) = true := decide_eq_true (by omega)
              by_cases hcn : cF < 0
              · have hnt := notTree hlt (fnAt_no3 HX.out hp0 (findI_neg.1 (by rw [HCF.out]; exact hcn)))
                have HNT := Lib.hid hnt
                clear hnt
                go_wp2_with fail
                generalize hWE : wr.alloc (.cells #[.int .i64 fi, .int .i64 fp, .string fs] 36 (0, 0)) = wE
                have bE : Below wr.heap.size wr wE := by rw [← hWE]; exact below_al (Below.refl _ _) _
                have z0 : wE.cell? ⟨wr.heap.size, 0, none⟩ = some (.int .i64 fi) := by rw [← hWE]; exact cell_new wr _ _ 0 rfl
                have z1 : wE.cell? ⟨wr.heap.size, 1, none⟩ = some (.int .i64 fp) := by rw [← hWE]; exact cell_new wr _ _ 1 rfl
                have z2 : wE.cell? ⟨wr.heap.size, 2, none⟩ = some (.string fs) := by rw [← hWE]; exact cell_new wr _ _ 2 rfl
                have m0 := cell_regrown z0
                have m1 := cell_regrown z1
                have m2 := cell_regrown z2
                have m3 := cell_regrown (cell_kept f3 bE)
                have hc : ∀ d os, Calls Try.prog 83 #[.agg #[.int .i64 fi, .int .i64 fp, .string fs]] (grow (redrawn wE d) os) fun e w'' => e = .returned (.bool true) ∧ ∃ p : Regrown, w'' = grow (redrawn wE p.d) p.os := fun d os => Calls.regrown_of (hcall _)
                have hd : ∀ d os, Calls Try.prog 49 #[.slice (some ⟨b1, o1, none⟩) (j + 1) c1, .int .i64 fp] (grow (redrawn wE d) os) fun e w'' => e = .returned (.int .i64 cF) ∧ ∃ p : Regrown, w'' = grow (redrawn wE p.d) p.os := fun d os => Calls.regrown_of (HFIND.out _ (bE.trans ((below_regrown wE d os).mono bE.size)))
                refine wp_region_quiet_below (by kernel_rfl) (by kernel_rfl) ?_
                repeat (go_big_quiet_step (first | exact hc _ _ | exact hd _ _))
                refine wpQuiet_nil ?_
                intro _ hw'
                obtain ⟨⟨dq, osq⟩, hw''⟩ := hw'
                subst hw''
                have bq := below_regrown wE dq osq
                generalize grow (redrawn wE dq) osq = w2 at bq ⊢
                go_wp2
                go_ret
                exact ⟨ret_bool HNT.out.symm, (hb.trans (bE.mono hw)).trans (bq.mono (Nat.le_trans hw bE.size))⟩
              · have dcn : decide (cF < 0) = false := decide_eq_false hcn
                have HP3 : Hid (fp = 0 ∨ hasF (t.take (j + 1)) fp = true) := .inr (hasF_of_find (by rw [HCF.out]; exact hcn))
                go_wp2_with fail
                generalize hWE : wr.alloc (.cells #[.int .i64 fi, .int .i64 fp, .string fs] 36 (0, 0)) = wE
                have bE : Below wr.heap.size wr wE := by rw [← hWE]; exact below_al (Below.refl _ _) _
                have z0 : wE.cell? ⟨wr.heap.size, 0, none⟩ = some (.int .i64 fi) := by rw [← hWE]; exact cell_new wr _ _ 0 rfl
                have z1 : wE.cell? ⟨wr.heap.size, 1, none⟩ = some (.int .i64 fp) := by rw [← hWE]; exact cell_new wr _ _ 1 rfl
                have z2 : wE.cell? ⟨wr.heap.size, 2, none⟩ = some (.string fs) := by rw [← hWE]; exact cell_new wr _ _ 2 rfl
                have m0 := cell_regrown z0
                have m1 := cell_regrown z1
                have m2 := cell_regrown z2
                have m3 := cell_regrown (cell_kept f3 bE)
                have hc : ∀ d os, Calls Try.prog 83 #[.agg #[.int .i64 fi, .int .i64 fp, .string fs]] (grow (redrawn wE d) os) fun e w'' => e = .returned (.bool true) ∧ ∃ p : Regrown, w'' = grow (redrawn wE p.d) p.os := fun d os => Calls.regrown_of (hcall _)
                have hd : ∀ d os, Calls Try.prog 49 #[.slice (some ⟨b1, o1, none⟩) (j + 1) c1, .int .i64 fp] (grow (redrawn wE d) os) fun e w'' => e = .returned (.int .i64 cF) ∧ ∃ p : Regrown, w'' = grow (redrawn wE p.d) p.os := fun d os => Calls.regrown_of (HFIND.out _ (bE.trans ((below_regrown wE d os).mono bE.size)))
                refine wp_region_quiet_below (by kernel_rfl) (by kernel_rfl) ?_
                repeat (go_big_quiet_step (first | exact hc _ _ | exact hd _ _))
                refine wpQuiet_nil ?_
                intro _ hw'
                obtain ⟨⟨dq, osq⟩, hw''⟩ := hw'
                subst hw''
                have bq := below_regrown wE dq osq
                generalize grow (redrawn wE dq) osq = w2 at bq ⊢
                go_wp2
                have y1 := cell_kept z1 bq
                have y2 := cell_kept z2 bq
                have b2 : Below w.heap.size w w2 := (hb.trans (bE.mono hw)).trans (bq.mono (Nat.le_trans hw bE.size))
                have s2 := b2.size
                clear z0 z1 z2 m0 m1 m2 hc bq bE hWE m3
                go_loopw [5] (fun i2 wr2 => ∃ m : Nat, m ≤ (j + 1) ∧ i2 = .int .i64 m ∧ Hid (∀ l, l < m → ¬ ((t.getD l fnD).parent = fp ∧ (t.getD l fnD).name = fs)) ∧ Below w2.heap.size w2 wr2) (fun i2 _ => (j + 1) - (intOf i2).toNat)
                case atStart => exact ⟨0, Nat.zero_le _, rfl, Lib.hid (fun l h => absurd h (Nat.not_lt_zero _)), Below.refl _ _⟩
                case round =>
                  obtain ⟨m, hm, rfl, HM, hb2⟩ := hrel
                  have b3 := b2.trans (hb2.mono s2)
                  by_cases hmk : m < (j + 1)
                  · obtain ⟨⟨gi, gp, gs⟩, hgx⟩ : ∃ s, t.getD m fnD = s := ⟨_, rfl⟩
                    obtain ⟨p0, p1, p2, _⟩ := E1.out m (by omega)
                    rw [hgx] at p1 p2
                    simp only at p1 p2
                    have c1 := cell_kept p1 b3
                    have c2 := cell_kept p2 b3
                    have x1 := cell_kept y1 hb2
                    have x2 := cell_kept y2 hb2
                    have HGX := Lib.hid hgx
                    have h0m : (0 : Int) ≤ (m : Int) := by omega
                    have h1m : (m : Int) < (t.length : Int) := by omega
                    have h2m : (m : Int) < ((j : Int) + 1) := by omega
                    clear p0 p1 p2 hgx
                    by_cases hpp : gp = fp
                    · have dpp : (gp == fp) = true := by simp [hpp]
                      have HPP := Lib.hid hpp
                      clear hpp
                      by_cases hss : gs = fs
                      · have dss : (gs.toList == fs.toList) = true := by simp [hss]
                        have hnt := notTree hlt (fnAt_no4 (j := m) HX.out (by omega) hlt (by rw [HGX.out]; exact ⟨HPP.out, hss⟩))
                        have HNT := Lib.hid hnt
                        clear hnt hss
                        go_wp2_with fail
                        go_quiet (fail)
                        go_wp2_with fail
                        go_ret
                        exact ⟨ret_bool HNT.out.symm, below_drewN b3 _⟩
                      · have dss := beq_bytes_ne hss
                        have HSS := Lib.hid hss
                        clear hss
                        go_wp2_with fail
                        go_quiet (fail)
                        go_wp2_with fail
                        go_roundw
                        case rel =>
                          refine ⟨m + 1, by omega, by go_num, Lib.hid (fun l hl => ?_), below_drewN hb2 _⟩
                          rcases Nat.lt_or_ge l m with h' | h'
                          · exact HM.out l h'
                          · obtain rfl : l = m := by omega
                            rw [HGX.out]
                            exact fun h => HSS.out h.2
                        case measure => simp [intOf]; omega
                    · have dpp : (gp == fp) = false := by simp [hpp]
                      have HPP := Lib.hid hpp
                      clear hpp
                      go_wp2_with fail
                      go_quiet (fail)
                      go_wp2_with fail
                      go_roundw
                      case rel =>
                        refine ⟨m + 1, by omega, by go_num, Lib.hid (fun l hl => ?_), below_drewN hb2 _⟩
                        rcases Nat.lt_or_ge l m with h' | h'
                        · exact HM.out l h'
                        · obtain rfl : l = m := by omega
                          rw [HGX.out]
                          exact fun h => HPP.out h.1
                      case measure => simp [intOf]; omega
                  · have hmK : m = (j + 1) := by omega
                    have HM2 : Hid (∀ l, l < (j + 1) → ¬ ((t.getD l fnD).parent = fp ∧ (t.getD l fnD).name = fs)) := by rw [← hmK]; exact HM
                    clear hmK
                    go_wp2_with fail
                    go_roundw
                    case rel => exact ⟨(j + 1) + 1, by omega, by omega, by go_num, Lib.hid (upto_succ HU.out (fnAt_yes hlt HX.out HF.out HPV.out HP3.out HM2.out)), b3⟩
                    case measure => simp [intOf]; omega
    · have hko : k = t.length ∨ k = 16 := by omega
      by_cases hL : t.length ≤ 15
      · have hkt : k = t.length := by omega
        have HT : Hid (isTree t = true) := tree_all hL (by have := HU.out; rw [hkt] at this; exact this)
        clear hkt
        go_wp2_with fail
        go_ret
        exact ⟨ret_bool (by rw [HT.out]; simp; omega), hb⟩
      · have HT : Hid (isTree t = false) := tree_long hL
        rcases hko with hko | hko
        all_goals
          go_wp2_with fail
          all_goals
            go_ret
            exact ⟨ret_bool (by rw [HT.out]; simp; omega), hb⟩
end Go.Proofs.Ytpbjddiopfkgbaa
