/- The functions that say what a record and what records are: they answer isRec and areRecs. -/
import Derived.Test.YtenjajcknmfhfaaRecM
import Derived.Test.YtenjajcknmfhfaaToRec
import Derived.Lib.QuietBelow
import Derived.BigQuiet
import Derived.WalkSmall
namespace Go.Proofs.Ytenjajcknmfhfaa
set_option linter.unusedVariables false
open Go.RowKit Go.Sort

/-- Events that are read: where they lie. -/
theorem RowR.evs {w : World} {v : Value} {xs : List Ev} (h : RowR 2 rEv w v xs) : ∃ a cap, v = .slice a xs.length cap ∧ xs.length ≤ cap ∧ cap ≤ maxLen ∧
    (xs = [] ∨ ∃ b off, b < w.heap.size ∧ a = some ⟨b, off, none⟩ ∧ ∀ i, i < xs.length → w.cell? ⟨b, off + i * 2, none⟩ = some (.int .i64 (xs.getD i evD).kind) ∧ w.cell? ⟨b, off + i * 2 + 1, none⟩ = some (.int .i64 (xs.getD i evD).day) ∧ (xs.getD i evD).ok) := by
  obtain ⟨a, cap, rfl, h1, h2, h3⟩ := h
  refine ⟨a, cap, rfl, h1, h2, h3.imp id ?_⟩
  rintro ⟨b, off, hlt, rfl, hc⟩
  refine ⟨b, off, hlt, rfl, fun i hi => ?_⟩
  obtain ⟨cs, hl, hcs, rfl, hok⟩ := hc i hi
  have f1 := hcs 0 (by omega)
  have f2 := hcs 1 (by omega)
  simp only [evC, List.getElem_cons_zero, List.getElem_cons_succ, Nat.add_zero] at f1 f2
  rw [getD_lt hi]
  exact ⟨f1, f2, hok⟩

theorem notRec {id series made : Int} {evs : List Ev} {k : Nat} (hk : k < evs.length) (h : evAtB made evs k = false) : isRec ⟨id, series, made, evs⟩ = false := by
  simp only [isRec]
  rw [upto_false hk h]
  simp

set_option maxHeartbeats 1000000 in
theorem l2Record_any (v : Value) (r : Rec) (w : World) (h : RecV w v r) :
    Calls Try.prog 158 #[v] w fun e w' => e = .returned (.bool (isRec r)) ∧ Below w.heap.size w w' := by
  obtain ⟨s, rfl, h1, hok⟩ := h
  obtain ⟨id, series, made, evs⟩ := r
  obtain ⟨o1, o2, o3⟩ := hok
  simp only [inI] at o1 o2 o3
  obtain ⟨a1, c1, rfl, hl1, hm1, r1⟩ := h1.evs
  have R1 := Lib.hid r1
  clear h1 r1
  unfold maxLen at hm1
  simp only at hl1 hm1 ⊢
  go_enter Try.func158, Try.ntmps158
  go_wp2
  go_loopw [3] (fun i wr => ∃ k : Nat, k ≤ evs.length ∧ i = .int .i64 k ∧ upto (evAtB made evs) k = true ∧ Below w.heap.size w wr ∧
      wr.cell? ⟨w.heap.size, 0, none⟩ = some (.int .i64 id) ∧ wr.cell? ⟨w.heap.size, 1, none⟩ = some (.int .i64 series) ∧ wr.cell? ⟨w.heap.size, 2, none⟩ = some (.int .i64 made) ∧ wr.cell? ⟨w.heap.size, 3, none⟩ = some (.slice a1 evs.length c1)) (fun i _ => evs.length - (intOf i).toNat)
  case atStart => exact ⟨0, Nat.zero_le _, rfl, by simp [upto], below_al (Below.refl _ _) _, cell_new w _ _ 0 rfl, cell_new w _ _ 1 rfl, cell_new w _ _ 2 rfl, cell_new w _ _ 3 rfl⟩
  case round =>
    obtain ⟨k, hk, rfl, hu, hb, p0, p1, p2, p3⟩ := hrel
    have HU := Lib.hid hu
    clear hu
    by_cases hlt : k < evs.length
    · obtain ⟨b1, o1, hb1, rfl, e1⟩ := R1.out.resolve_left (fun e => by rw [e] at hlt; simp at hlt)
      obtain ⟨⟨x, y⟩, hx⟩ : ∃ s, evs.getD k evD = s := ⟨_, rfl⟩
      obtain ⟨q1, q2, hok⟩ := e1 k hlt
      rw [hx] at q1 q2 hok
      have f1 := cell_kept q1 hb
      have f2 := cell_kept q2 hb
      have HX := Lib.hid hx
      have g0 : (0 : Int) ≤ (k : Int) := by omega
      have g1 : (k : Int) < (evs.length : Int) := by omega
      have E1 := Lib.hid e1
      clear q1 q2 hx e1 hok
      obtain ⟨bE, hbE⟩ : ∃ b, isEv ⟨x, y⟩ = b := ⟨_, rfl⟩
      have hcall : ∀ W : World, Calls Try.prog 182 #[.agg #[.int .i64 x, .int .i64 y]] W fun e w' => e = .returned (.bool bE) ∧ Below W.heap.size W w' := fun W => by
        have := l2Event_any ⟨x, y⟩ W
        rwa [hbE] at this
      have HE := Lib.hid hbE
      clear hbE
      have hw := hb.size
      cases bE
      · go_wp2_with fail
        generalize hWE : wr.alloc (.cells #[.int .i64 x, .int .i64 y] 174 (0, 0)) = wE
        have bE : Below wr.heap.size wr wE := by rw [← hWE]; exact below_al (Below.refl _ _) _
        have k0 := cell_regrown (by rw [← hWE]; exact cell_new wr _ _ 0 rfl : wE.cell? ⟨wr.heap.size, 0, none⟩ = some (.int .i64 x))
        have k1 := cell_regrown (by rw [← hWE]; exact cell_new wr _ _ 1 rfl : wE.cell? ⟨wr.heap.size, 1, none⟩ = some (.int .i64 y))
        have k2 := cell_regrown (cell_kept p2 bE)
        have k3 := cell_regrown (cell_kept p3 bE)
        have hc : ∀ d os, Calls Try.prog 182 #[.agg #[.int .i64 x, .int .i64 y]] (grow (redrawn wE d) os) fun e w'' => e = .returned (.bool false) ∧ ∃ p : Regrown, w'' = grow (redrawn wE p.d) p.os := fun d os => Calls.regrown_of (hcall _)
        refine wp_region_quiet_below (by kernel_rfl) (by kernel_rfl) ?_
        repeat (go_big_quiet_step (first | exact hc _ _))
        refine wpQuiet_nil ?_
        intro _ hw'
        obtain ⟨⟨dq, osq⟩, hw''⟩ := hw'
        subst hw''
        have bq := below_regrown wE dq osq
        generalize grow (redrawn wE dq) osq = w2 at bq ⊢
        go_wp2
        go_ret
        exact ⟨ret_bool (Eq.symm (notRec hlt (by rw [evAtB, HX.out, HE.out]; rfl))), (hb.trans (bE.mono hw)).trans (bq.mono (Nat.le_trans hw bE.size))⟩
      · by_cases hD : y < made
        · go_wp2_with fail
          generalize hWE : wr.alloc (.cells #[.int .i64 x, .int .i64 y] 174 (0, 0)) = wE
          have bE : Below wr.heap.size wr wE := by rw [← hWE]; exact below_al (Below.refl _ _) _
          have k0 := cell_regrown (by rw [← hWE]; exact cell_new wr _ _ 0 rfl : wE.cell? ⟨wr.heap.size, 0, none⟩ = some (.int .i64 x))
          have k1 := cell_regrown (by rw [← hWE]; exact cell_new wr _ _ 1 rfl : wE.cell? ⟨wr.heap.size, 1, none⟩ = some (.int .i64 y))
          have k2 := cell_regrown (cell_kept p2 bE)
          have k3 := cell_regrown (cell_kept p3 bE)
          have hc : ∀ d os, Calls Try.prog 182 #[.agg #[.int .i64 x, .int .i64 y]] (grow (redrawn wE d) os) fun e w'' => e = .returned (.bool true) ∧ ∃ p : Regrown, w'' = grow (redrawn wE p.d) p.os := fun d os => Calls.regrown_of (hcall _)
          refine wp_region_quiet_below (by kernel_rfl) (by kernel_rfl) ?_
          repeat (go_big_quiet_step (first | exact hc _ _))
          refine wpQuiet_nil ?_
          intro _ hw'
          obtain ⟨⟨dq, osq⟩, hw''⟩ := hw'
          subst hw''
          have bq := below_regrown wE dq osq
          generalize grow (redrawn wE dq) osq = w2 at bq ⊢
          go_wp2
          go_ret
          exact ⟨ret_bool (Eq.symm (notRec hlt (by rw [evAtB, HX.out, HE.out, decide_eq_false (show ¬ made ≤ y by omega)]; rfl))), (hb.trans (bE.mono hw)).trans (bq.mono (Nat.le_trans hw bE.size))⟩
        · have dD : decide (y < made) = false := decide_eq_false hD
          have dD' : decide (made ≤ y) = true := decide_eq_true (by omega)
          rcases Nat.eq_zero_or_pos k with hk0 | hk0
          · have d0 : 0 < x := by have := (isEv_iff.1 HE.out).1; simp only at this; omega
            have D0 := Lib.hid d0
            clear d0
            have dk : decide ((0 : Int) < (k : Int)) = false := decide_eq_false (by omega)
            have dk2 : decide (0 < k) = false := decide_eq_false (by omega)
            have HK0 := Lib.hid hk0
            clear hk0
            go_wp2_with fail
            generalize hWE : wr.alloc (.cells #[.int .i64 x, .int .i64 y] 174 (0, 0)) = wE
            have bE : Below wr.heap.size wr wE := by rw [← hWE]; exact below_al (Below.refl _ _) _
            have k0 := cell_regrown (by rw [← hWE]; exact cell_new wr _ _ 0 rfl : wE.cell? ⟨wr.heap.size, 0, none⟩ = some (.int .i64 x))
            have k1 := cell_regrown (by rw [← hWE]; exact cell_new wr _ _ 1 rfl : wE.cell? ⟨wr.heap.size, 1, none⟩ = some (.int .i64 y))
            have k2 := cell_regrown (cell_kept p2 bE)
            have k3 := cell_regrown (cell_kept p3 bE)
            have hc : ∀ d os, Calls Try.prog 182 #[.agg #[.int .i64 x, .int .i64 y]] (grow (redrawn wE d) os) fun e w'' => e = .returned (.bool true) ∧ ∃ p : Regrown, w'' = grow (redrawn wE p.d) p.os := fun d os => Calls.regrown_of (hcall _)
            refine wp_region_quiet_below (by kernel_rfl) (by kernel_rfl) ?_
            repeat (go_big_quiet_step (first | exact hc _ _))
            refine wpQuiet_nil ?_
            intro _ hw'
            obtain ⟨⟨dq, osq⟩, hw''⟩ := hw'
            subst hw''
            have bq := below_regrown wE dq osq
            generalize grow (redrawn wE dq) osq = w2 at bq ⊢
            go_wp2
            go_roundw
            case rel => exact ⟨k + 1, by omega, by go_num, upto_succ HU.out (by rw [evAtB, HX.out, HE.out, dD', HK0.out]; exact decide_eq_true D0.out), (hb.trans (bE.mono hw)).trans (bq.mono (Nat.le_trans hw bE.size)), cell_kept (cell_kept p0 bE) bq, cell_kept (cell_kept p1 bE) bq, cell_kept (cell_kept p2 bE) bq, cell_kept (cell_kept p3 bE) bq⟩
            case measure => simp [intOf]; omega
          · obtain ⟨j, rfl⟩ : ∃ j, k = j + 1 := ⟨k - 1, by omega⟩
            clear hk0
            obtain ⟨⟨px, py⟩, hpx⟩ : ∃ s, evs.getD j evD = s := ⟨_, rfl⟩
            obtain ⟨q3, _, _⟩ := E1.out j (by omega)
            rw [hpx] at q3
            have f3 := cell_kept q3 hb
            have HPX := Lib.hid hpx
            have hpk : prevK evs (j + 1) = px := by rw [prevK, hpx]
            have HPK := Lib.hid hpk
            have g2 : (j : Int) < (evs.length : Int) := by omega
            have g3 : (0 : Int) ≤ (j : Int) := by omega
            have g4 : (0 : Int) < (j : Int) + 1 := by omega
            clear q3 hpx hpk
            by_cases hP : x ≤ px
            · go_wp2_with fail
              generalize hWE : wr.alloc (.cells #[.int .i64 x, .int .i64 y] 174 (0, 0)) = wE
              have bE : Below wr.heap.size wr wE := by rw [← hWE]; exact below_al (Below.refl _ _) _
              have k0 := cell_regrown (by rw [← hWE]; exact cell_new wr _ _ 0 rfl : wE.cell? ⟨wr.heap.size, 0, none⟩ = some (.int .i64 x))
              have k1 := cell_regrown (by rw [← hWE]; exact cell_new wr _ _ 1 rfl : wE.cell? ⟨wr.heap.size, 1, none⟩ = some (.int .i64 y))
              have k2 := cell_regrown (cell_kept p2 bE)
              have k3 := cell_regrown (cell_kept p3 bE)
              have k4 := cell_regrown (cell_kept f3 bE)
              have hc : ∀ d os, Calls Try.prog 182 #[.agg #[.int .i64 x, .int .i64 y]] (grow (redrawn wE d) os) fun e w'' => e = .returned (.bool true) ∧ ∃ p : Regrown, w'' = grow (redrawn wE p.d) p.os := fun d os => Calls.regrown_of (hcall _)
              refine wp_region_quiet_below (by kernel_rfl) (by kernel_rfl) ?_
              repeat (go_big_quiet_step (first | exact hc _ _))
              refine wpQuiet_nil ?_
              intro _ hw'
              obtain ⟨⟨dq, osq⟩, hw''⟩ := hw'
              subst hw''
              have bq := below_regrown wE dq osq
              generalize grow (redrawn wE dq) osq = w2 at bq ⊢
              go_wp2
              go_ret
              exact ⟨ret_bool (Eq.symm (notRec hlt (by rw [evAtB, HX.out, HPK.out, decide_eq_false (show ¬ px < x by omega)]; simp))), (hb.trans (bE.mono hw)).trans (bq.mono (Nat.le_trans hw bE.size))⟩
            · have dP : decide (x ≤ px) = false := decide_eq_false hP
              go_wp2_with fail
              generalize hWE : wr.alloc (.cells #[.int .i64 x, .int .i64 y] 174 (0, 0)) = wE
              have bE : Below wr.heap.size wr wE := by rw [← hWE]; exact below_al (Below.refl _ _) _
              have k0 := cell_regrown (by rw [← hWE]; exact cell_new wr _ _ 0 rfl : wE.cell? ⟨wr.heap.size, 0, none⟩ = some (.int .i64 x))
              have k1 := cell_regrown (by rw [← hWE]; exact cell_new wr _ _ 1 rfl : wE.cell? ⟨wr.heap.size, 1, none⟩ = some (.int .i64 y))
              have k2 := cell_regrown (cell_kept p2 bE)
              have k3 := cell_regrown (cell_kept p3 bE)
              have k4 := cell_regrown (cell_kept f3 bE)
              have hc : ∀ d os, Calls Try.prog 182 #[.agg #[.int .i64 x, .int .i64 y]] (grow (redrawn wE d) os) fun e w'' => e = .returned (.bool true) ∧ ∃ p : Regrown, w'' = grow (redrawn wE p.d) p.os := fun d os => Calls.regrown_of (hcall _)
              refine wp_region_quiet_below (by kernel_rfl) (by kernel_rfl) ?_
              repeat (go_big_quiet_step (first | exact hc _ _))
              refine wpQuiet_nil ?_
              intro _ hw'
              obtain ⟨⟨dq, osq⟩, hw''⟩ := hw'
              subst hw''
              have bq := below_regrown wE dq osq
              generalize grow (redrawn wE dq) osq = w2 at bq ⊢
              go_wp2
              go_roundw
              case rel => exact ⟨j + 1 + 1, by omega, by go_num, upto_succ HU.out (by rw [evAtB, HX.out, HE.out, dD', HPK.out]; exact decide_eq_true (by omega)), (hb.trans (bE.mono hw)).trans (bq.mono (Nat.le_trans hw bE.size)), cell_kept (cell_kept p0 bE) bq, cell_kept (cell_kept p1 bE) bq, cell_kept (cell_kept p2 bE) bq, cell_kept (cell_kept p3 bE) bq⟩
              case measure => simp [intOf]; omega
    · obtain rfl : k = evs.length := by omega
      obtain ⟨bi, hbi⟩ : ∃ b, decide (1 ≤ id ∧ id ≤ 999) = b := ⟨_, rfl⟩
      obtain ⟨bs, hbs⟩ : ∃ b, decide (1 ≤ series ∧ series ≤ 99) = b := ⟨_, rfl⟩
      obtain ⟨bm, hbm⟩ : ∃ b, decide (0 ≤ made ∧ made ≤ 20000) = b := ⟨_, rfl⟩
      have HI := Lib.hid hbi
      have HS := Lib.hid hbs
      have HM := Lib.hid hbm
      clear hbi hbs hbm
      cases bi
      · go_wp2_with (first | (go_at_call 79; refine (l1In_any _ _ _ _).mono ?_; (first | rw [HI.out] | rw [HS.out]); rintro e w2 ⟨rfl, rfl⟩) | (go_at_call 115; refine (l2Day_any _ _).mono ?_; rw [HM.out]; rintro e w2 ⟨rfl, rfl⟩))
        go_ret
        exact ⟨ret_bool (Eq.symm (by simp only [isRec]; rw [HI.out]; rfl)), hb⟩
      · cases bs
        · go_wp2_with (first | (go_at_call 79; refine (l1In_any _ _ _ _).mono ?_; (first | rw [HI.out] | rw [HS.out]); rintro e w2 ⟨rfl, rfl⟩) | (go_at_call 115; refine (l2Day_any _ _).mono ?_; rw [HM.out]; rintro e w2 ⟨rfl, rfl⟩))
          go_ret
          exact ⟨ret_bool (Eq.symm (by simp only [isRec]; rw [HI.out, HS.out]; rfl)), hb⟩
        · cases bm
          · go_wp2_with (first | (go_at_call 79; refine (l1In_any _ _ _ _).mono ?_; (first | rw [HI.out] | rw [HS.out]); rintro e w2 ⟨rfl, rfl⟩) | (go_at_call 115; refine (l2Day_any _ _).mono ?_; rw [HM.out]; rintro e w2 ⟨rfl, rfl⟩))
            go_ret
            exact ⟨ret_bool (Eq.symm (by simp only [isRec]; rw [HI.out, HS.out, HM.out]; rfl)), hb⟩
          · by_cases hL : evs.length ≤ 6
            · have gL : (evs.length : Int) ≤ 6 := by omega
              go_wp2_with (first | (go_at_call 79; refine (l1In_any _ _ _ _).mono ?_; (first | rw [HI.out] | rw [HS.out]); rintro e w2 ⟨rfl, rfl⟩) | (go_at_call 115; refine (l2Day_any _ _).mono ?_; rw [HM.out]; rintro e w2 ⟨rfl, rfl⟩))
              go_ret
              exact ⟨ret_bool (Eq.symm (by simp only [isRec]; rw [HI.out, HS.out, HM.out, HU.out, decide_eq_true hL]; rfl)), hb⟩
            · have gL : decide ((evs.length : Int) ≤ 6) = false := decide_eq_false (by omega)
              go_wp2_with (first | (go_at_call 79; refine (l1In_any _ _ _ _).mono ?_; (first | rw [HI.out] | rw [HS.out]); rintro e w2 ⟨rfl, rfl⟩) | (go_at_call 115; refine (l2Day_any _ _).mono ?_; rw [HM.out]; rintro e w2 ⟨rfl, rfl⟩))
              go_ret
              exact ⟨ret_bool (Eq.symm (by simp only [isRec]; rw [HI.out, HS.out, HM.out, HU.out, decide_eq_false hL]; rfl)), hb⟩
end Go.Proofs.Ytenjajcknmfhfaa
