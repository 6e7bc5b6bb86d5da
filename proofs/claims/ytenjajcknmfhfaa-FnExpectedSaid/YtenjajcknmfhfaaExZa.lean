/- IsRec, IsRecI, Search, DayOf, Add, AddX, Gen, DrawRe, DrawIr, in one text. -/
import Derived.Test.YtenjajcknmfhfaaRecM
import Derived.Test.YtenjajcknmfhfaaToRec
import Derived.Lib.QuietBelow
import Derived.BigQuiet
import Derived.WalkSmall
import Derived.ArgAppend
import Derived.Deep.RegionLawGrows
import Derived.Deep.RegionHeld3
import Derived.Deep.RegionLaw
import Derived.Laws.AppendOwnNone
import Derived.Maps.AppendAt
import Derived.Test.YtenjajcknmfhfaaDrwZ
import Derived.Test.YtenjajcknmfhfaaDrawRu
import Derived.BigRegion
namespace Go.Proofs.Ytenjajcknmfhfaa
set_option linter.unusedVariables false
open Go.RowKit Go.Sort

theorem RowR.evs {w : World} {v : Value} {xs : List Ev} (h : RowR 2 rEv w v xs) : ∃ a cap, v = .slice a xs.length cap ∧ xs.length ≤ cap ∧ cap ≤ maxLen ∧
    (xs = [] ∨ ∃ b off, b < w.heap.size ∧ a = some ⟨b, off, none⟩ ∧ ∀ i, i < xs.length → w.cell? ⟨b, off + i * 2, none⟩ = some (.int .i64 (xs.getD i evD).kind) ∧ w.cell? ⟨b, off + i * 2 + 1, none⟩ = some (.int .i64 (xs.getD i evD).day) ∧ (xs.getD i evD).ok) := by
  obtain ⟨a, cap, rfl, h1, h2, h3⟩ := h
  refine ⟨a, cap, rfl, h1, h2, h3.imp id ?_⟩
  rintro ⟨b, off, hlt, rfl, hc⟩
  refine ⟨b, off, hlt, rfl, fun i hi => ?_⟩
  obtain ⟨cs, hl, hcs, rfl, hok⟩ := hc i hi
  have f1 := hcs 0 (by omega)
  have f2 := hcs 1 (by omega)
  simp only [evC, List.getElem_cons_zero, List.getElem_cons_succ, Nat.add_zero] at f1 f2
  rw [getD_lt hi]
  exact ⟨f1, f2, hok⟩

theorem notRec {id series made : Int} {evs : List Ev} {k : Nat} (hk : k < evs.length) (h : evAtB made evs k = false) : isRec ⟨id, series, made, evs⟩ = false := by
  simp only [isRec]
  rw [upto_false hk h]
  simp

set_option maxHeartbeats 1000000 in
theorem l2Record_any (v : Value) (r : Rec) (w : World) (h : RecV w v r) :
    Calls Try.prog 158 #[v] w fun e w' => e = .returned (.bool (isRec r)) ∧ Below w.heap.size w w' := by
  obtain ⟨s, rfl, h1, hok⟩ := h
  obtain ⟨id, series, made, evs⟩ := r
  obtain ⟨o1, o2, o3⟩ := hok
  simp only [inI] at o1 o2 o3
  obtain ⟨a1, c1, rfl, hl1, hm1, r1⟩ := h1.evs
  have R1 := Lib.hid r1
  clear h1 r1
  unfold maxLen at hm1
  simp only at hl1 hm1 ⊢
  go_enter Try.func158, Try.ntmps158
  go_wp2
  go_loopw [3] (fun i wr => ∃ k : Nat, k ≤ evs.length ∧ i = .int .i64 k ∧ upto (evAtB made evs) k = true ∧ Below w.heap.size w wr ∧
      wr.cell? ⟨w.heap.size, 0, none⟩ = some (.int .i64 id) ∧ wr.cell? ⟨w.heap.size, 1, none⟩ = some (.int .i64 series) ∧ wr.cell? ⟨w.heap.size, 2, none⟩ = some (.int .i64 made) ∧ wr.cell? ⟨w.heap.size, 3, none⟩ = some (.slice a1 evs.length c1)) (fun i _ => evs.length - (intOf i).toNat)
  case atStart => exact ⟨0, Nat.zero_le _, rfl, by simp [upto], below_al (Below.refl _ _) _, cell_new w _ _ 0 rfl, cell_new w _ _ 1 rfl, cell_new w _ _ 2 rfl, cell_new w _ _ 3 rfl⟩
  case round =>
    obtain ⟨k, hk, rfl, hu, hb, p0, p1, p2, p3⟩ := hrel
    have HU := Lib.hid hu
    clear hu
    by_cases hlt : k < evs.length
    · obtain ⟨b1, o1, hb1, rfl, e1⟩ := R1.out.resolve_left (fun e => by rw [e] at hlt; simp at hlt)
      obtain ⟨⟨x, y⟩, hx⟩ : ∃ s, evs.getD k evD = s := ⟨_, rfl⟩
      obtain ⟨q1, q2, hok⟩ := e1 k hlt
      rw [hx] at q1 q2 hok
      have f1 := cell_kept q1 hb
      have f2 := cell_kept q2 hb
      have HX := Lib.hid hx
      have g0 : (0 : Int) ≤ (k : Int) := by omega
      have g1 : (k : Int) < (evs.length : Int) := by omega
      have E1 := Lib.hid e1
      clear q1 q2 hx e1 hok
      obtain ⟨bE, hbE⟩ : ∃ b, isEv ⟨x, y⟩ = b := ⟨_, rfl⟩
      have hcall : ∀ W : World, Calls Try.prog 182 #[.agg #[.int .i64 x, .int .i64 y]] W fun e w' => e = .returned (.bool bE) ∧ Below W.heap.size W w' := fun W => by
        have := l2Event_any ⟨x, y⟩ W
        rwa [hbE] at this
      have HE := Lib.hid hbE
      clear hbE
      have hw := hb.size
      cases bE
      · go_wp2_with fail
        generalize hWE : wr.alloc (.cells #[.int .i64 x, .int .i64 y] 174 (0, 0)) = wE
        have bE : Below wr.heap.size wr wE := by rw [← hWE]; exact below_al (Below.refl _ _) _
        have k0 := cell_regrown (by rw [← hWE]; exact cell_new wr _ _ 0 rfl : wE.cell? ⟨wr.heap.size, 0, none⟩ = some (.int .i64 x))
        have k1 := cell_regrown (by rw [← hWE]; exact cell_new wr _ _ 1 rfl : wE.cell? ⟨wr.heap.size, 1, none⟩ = some (.int .i64 y))
        have k2 := cell_regrown (cell_kept p2 bE)
        have k3 := cell_regrown (cell_kept p3 bE)
        have hc : ∀ d os, Calls Try.prog 182 #[.agg #[.int .i64 x, .int .i64 y]] (grow (redrawn wE d) os) fun e w'' => e = .returned (.bool false) ∧ ∃ p : Regrown, w'' = grow (redrawn wE p.d) p.os := fun d os => Calls.regrown_of (hcall _)
        refine wp_region_quiet_below (by kernel_rfl) (by kernel_rfl) ?_
        repeat (go_big_quiet_step (first | exact hc _ _))
        refine wpQuiet_nil ?_
        intro _ hw'
        obtain ⟨⟨dq, osq⟩, hw''⟩ := hw'
        subst hw''
        have bq := below_regrown wE dq osq
        generalize grow (redrawn wE dq) osq = w2 at bq ⊢
        go_wp2
        go_ret
        exact ⟨ret_bool (Eq.symm (notRec hlt (by rw [evAtB, HX.out, HE.out]; rfl))), (hb.trans (bE.mono hw)).trans (bq.mono (Nat.le_trans hw bE.size))⟩
      · by_cases hD : y < made
        · go_wp2_with fail
          generalize hWE : wr.alloc (.cells #[.int .i64 x, .int .i64 y] 174 (0, 0)) = wE
          have bE : Below wr.heap.size wr wE := by rw [← hWE]; exact below_al (Below.refl _ _) _
          have k0 := cell_regrown (by rw [← hWE]; exact cell_new wr _ _ 0 rfl : wE.cell? ⟨wr.heap.size, 0, none⟩ = some (.int .i64 x))
          have k1 := cell_regrown (by rw [← hWE]; exact cell_new wr _ _ 1 rfl : wE.cell? ⟨wr.heap.size, 1, none⟩ = some (.int .i64 y))
          have k2 := cell_regrown (cell_kept p2 bE)
          have k3 := cell_regrown (cell_kept p3 bE)
          have hc : ∀ d os, Calls Try.prog 182 #[.agg #[.int .i64 x, .int .i64 y]] (grow (redrawn wE d) os) fun e w'' => e = .returned (.bool true) ∧ ∃ p : Regrown, w'' = grow (redrawn wE p.d) p.os := fun d os => Calls.regrown_of (hcall _)
          refine wp_region_quiet_below (by kernel_rfl) (by kernel_rfl) ?_
          repeat (go_big_quiet_step (first | exact hc _ _))
          refine wpQuiet_nil ?_
          intro _ hw'
          obtain ⟨⟨dq, osq⟩, hw''⟩ := hw'
          subst hw''
          have bq := below_regrown wE dq osq
          generalize grow (redrawn wE dq) osq = w2 at bq ⊢
          go_wp2
          go_ret
          exact ⟨ret_bool (Eq.symm (notRec hlt (by rw [evAtB, HX.out, HE.out, decide_eq_false (show ¬ made ≤ y by omega)]; rfl))), (hb.trans (bE.mono hw)).trans (bq.mono (Nat.le_trans hw bE.size))⟩
        · have dD : decide (y < made) = false := decide_eq_false hD
          have dD' : decide (made ≤ y) = true := decide_eq_true (by omega)
          rcases Nat.eq_zero_or_pos k with hk0 | hk0
          · have d0 : 0 < x := by have := (isEv_iff.1 HE.out).1; simp only at this; omega
            have D0 := Lib.hid d0
            clear d0
            have dk : decide ((0 : Int) < (k : Int)) = false := decide_eq_false (by omega)
            have dk2 : decide (0 < k) = false := decide_eq_false (by omega)
            have HK0 := Lib.hid hk0
            clear hk0
            go_wp2_with fail
            generalize hWE : wr.alloc (.cells #[.int .i64 x, .int .i64 y] 174 (0, 0)) = wE
            have bE : Below wr.heap.size wr wE := by rw [← hWE]; exact below_al (Below.refl _ _) _
            have k0 := cell_regrown (by rw [← hWE]; exact cell_new wr _ _ 0 rfl : wE.cell? ⟨wr.heap.size, 0, none⟩ = some (.int .i64 x))
            have k1 := cell_regrown (by rw [← hWE]; exact cell_new wr _ _ 1 rfl : wE.cell? ⟨wr.heap.size, 1, none⟩ = some (.int .i64 y))
            have k2 := cell_regrown (cell_kept p2 bE)
            have k3 := cell_regrown (cell_kept p3 bE)
            have hc : ∀ d os, Calls Try.prog 182 #[.agg #[.int .i64 x, .int .i64 y]] (grow (redrawn wE d) os) fun e w'' => e = .returned (.bool true) ∧ ∃ p : Regrown, w'' = grow (redrawn wE p.d) p.os := fun d os => Calls.regrown_of (hcall _)
            refine wp_region_quiet_below (by kernel_rfl) (by kernel_rfl) ?_
            repeat (go_big_quiet_step (first | exact hc _ _))
            refine wpQuiet_nil ?_
            intro _ hw'
            obtain ⟨⟨dq, osq⟩, hw''⟩ := hw'
            subst hw''
            have bq := below_regrown wE dq osq
            generalize grow (redrawn wE dq) osq = w2 at bq ⊢
            go_wp2
            go_roundw
            case rel => exact ⟨k + 1, by omega, by go_num, upto_succ HU.out (by rw [evAtB, HX.out, HE.out, dD', HK0.out]; exact decide_eq_true D0.out), (hb.trans (bE.mono hw)).trans (bq.mono (Nat.le_trans hw bE.size)), cell_kept (cell_kept p0 bE) bq, cell_kept (cell_kept p1 bE) bq, cell_kept (cell_kept p2 bE) bq, cell_kept (cell_kept p3 bE) bq⟩
            case measure => simp [intOf]; omega
          · obtain ⟨j, rfl⟩ : ∃ j, k = j + 1 := ⟨k - 1, by omega⟩
            clear hk0
            obtain ⟨⟨px, py⟩, hpx⟩ : ∃ s, evs.getD j evD = s := ⟨_, rfl⟩
            obtain ⟨q3, _, _⟩ := E1.out j (by omega)
            rw [hpx] at q3
            have f3 := cell_kept q3 hb
            have HPX := Lib.hid hpx
            have hpk : prevK evs (j + 1) = px := by rw [prevK, hpx]
            have HPK := Lib.hid hpk
            have g2 : (j : Int) < (evs.length : Int) := by omega
            have g3 : (0 : Int) ≤ (j : Int) := by omega
            have g4 : (0 : Int) < (j : Int) + 1 := by omega
            clear q3 hpx hpk
            by_cases hP : x ≤ px
            · go_wp2_with fail
              generalize hWE : wr.alloc (.cells #[.int .i64 x, .int .i64 y] 174 (0, 0)) = wE
              have bE : Below wr.heap.size wr wE := by rw [← hWE]; exact below_al (Below.refl _ _) _
              have k0 := cell_regrown (by rw [← hWE]; exact cell_new wr _ _ 0 rfl : wE.cell? ⟨wr.heap.size, 0, none⟩ = some (.int .i64 x))
              have k1 := cell_regrown (by rw [← hWE]; exact cell_new wr _ _ 1 rfl : wE.cell? ⟨wr.heap.size, 1, none⟩ = some (.int .i64 y))
              have k2 := cell_regrown (cell_kept p2 bE)
              have k3 := cell_regrown (cell_kept p3 bE)
              have k4 := cell_regrown (cell_kept f3 bE)
              have hc : ∀ d os, Calls Try.prog 182 #[.agg #[.int .i64 x, .int .i64 y]] (grow (redrawn wE d) os) fun e w'' => e = .returned (.bool true) ∧ ∃ p : Regrown, w'' = grow (redrawn wE p.d) p.os := fun d os => Calls.regrown_of (hcall _)
              refine wp_region_quiet_below (by kernel_rfl) (by kernel_rfl) ?_
              repeat (go_big_quiet_step (first | exact hc _ _))
              refine wpQuiet_nil ?_
              intro _ hw'
              obtain ⟨⟨dq, osq⟩, hw''⟩ := hw'
              subst hw''
              have bq := below_regrown wE dq osq
              generalize grow (redrawn wE dq) osq = w2 at bq ⊢
              go_wp2
              go_ret
              exact ⟨ret_bool (Eq.symm (notRec hlt (by rw [evAtB, HX.out, HPK.out, decide_eq_false (show ¬ px < x by omega)]; simp))), (hb.trans (bE.mono hw)).trans (bq.mono (Nat.le_trans hw bE.size))⟩
            · have dP : decide (x ≤ px) = false := decide_eq_false hP
              go_wp2_with fail
              generalize hWE : wr.alloc (.cells #[.int .i64 x, .int .i64 y] 174 (0, 0)) = wE
              have bE : Below wr.heap.size wr wE := by rw [← hWE]; exact below_al (Below.refl _ _) _
              have k0 := cell_regrown (by rw [← hWE]; exact cell_new wr _ _ 0 rfl : wE.cell? ⟨wr.heap.size, 0, none⟩ = some (.int .i64 x))
              have k1 := cell_regrown (by rw [← hWE]; exact cell_new wr _ _ 1 rfl : wE.cell? ⟨wr.heap.size, 1, none⟩ = some (.int .i64 y))
              have k2 := cell_regrown (cell_kept p2 bE)
              have k3 := cell_regrown (cell_kept p3 bE)
              have k4 := cell_regrown (cell_kept f3 bE)
              have hc : ∀ d os, Calls Try.prog 182 #[.agg #[.int .i64 x, .int .i64 y]] (grow (redrawn wE d) os) fun e w'' => e = .returned (.bool true) ∧ ∃ p : Regrown, w'' = grow (redrawn wE p.d) p.os := fun d os => Calls.regrown_of (hcall _)
              refine wp_region_quiet_below (by kernel_rfl) (by kernel_rfl) ?_
              repeat (go_big_quiet_step (first | exact hc _ _))
              refine wpQuiet_nil ?_
              intro _ hw'
              obtain ⟨⟨dq, osq⟩, hw''⟩ := hw'
              subst hw''
              have bq := below_regrown wE dq osq
              generalize grow (redrawn wE dq) osq = w2 at bq ⊢
              go_wp2
              go_roundw
              case rel => exact ⟨j + 1 + 1, by omega, by go_num, upto_succ HU.out (by rw [evAtB, HX.out, HE.out, dD', HPK.out]; exact decide_eq_true (by omega)), (hb.trans (bE.mono hw)).trans (bq.mono (Nat.le_trans hw bE.size)), cell_kept (cell_kept p0 bE) bq, cell_kept (cell_kept p1 bE) bq, cell_kept (cell_kept p2 bE) bq, cell_kept (cell_kept p3 bE) bq⟩
              case measure => simp [intOf]; omega
    · obtain rfl : k = evs.length := by omega
      obtain ⟨bi, hbi⟩ : ∃ b, decide (1 ≤ id ∧ id ≤ 999) = b := ⟨_, rfl⟩
      obtain ⟨bs, hbs⟩ : ∃ b, decide (1 ≤ series ∧ series ≤ 99) = b := ⟨_, rfl⟩
      obtain ⟨bm, hbm⟩ : ∃ b, decide (0 ≤ made ∧ made ≤ 20000) = b := ⟨_, rfl⟩
      have HI := Lib.hid hbi
      have HS := Lib.hid hbs
      have HM := Lib.hid hbm
      clear hbi hbs hbm
      cases bi
      · go_wp2_with (first | (go_at_call 79; refine (l1In_any _ _ _ _).mono ?_; (first | rw [HI.out] | rw [HS.out]); rintro e w2 ⟨rfl, rfl⟩) | (go_at_call 115; refine (l2Day_any _ _).mono ?_; rw [HM.out]; rintro e w2 ⟨rfl, rfl⟩))
        go_ret
        exact ⟨ret_bool (Eq.symm (by simp only [isRec]; rw [HI.out]; rfl)), hb⟩
      · cases bs
        · go_wp2_with (first | (go_at_call 79; refine (l1In_any _ _ _ _).mono ?_; (first | rw [HI.out] | rw [HS.out]); rintro e w2 ⟨rfl, rfl⟩) | (go_at_call 115; refine (l2Day_any _ _).mono ?_; rw [HM.out]; rintro e w2 ⟨rfl, rfl⟩))
          go_ret
          exact ⟨ret_bool (Eq.symm (by simp only [isRec]; rw [HI.out, HS.out]; rfl)), hb⟩
        · cases bm
          · go_wp2_with (first | (go_at_call 79; refine (l1In_any _ _ _ _).mono ?_; (first | rw [HI.out] | rw [HS.out]); rintro e w2 ⟨rfl, rfl⟩) | (go_at_call 115; refine (l2Day_any _ _).mono ?_; rw [HM.out]; rintro e w2 ⟨rfl, rfl⟩))
            go_ret
            exact ⟨ret_bool (Eq.symm (by simp only [isRec]; rw [HI.out, HS.out, HM.out]; rfl)), hb⟩
          · by_cases hL : evs.length ≤ 6
            · have gL : (evs.length : Int) ≤ 6 := by omega
              go_wp2_with (first | (go_at_call 79; refine (l1In_any _ _ _ _).mono ?_; (first | rw [HI.out] | rw [HS.out]); rintro e w2 ⟨rfl, rfl⟩) | (go_at_call 115; refine (l2Day_any _ _).mono ?_; rw [HM.out]; rintro e w2 ⟨rfl, rfl⟩))
              go_ret
              exact ⟨ret_bool (Eq.symm (by simp only [isRec]; rw [HI.out, HS.out, HM.out, HU.out, decide_eq_true hL]; rfl)), hb⟩
            · have gL : decide ((evs.length : Int) ≤ 6) = false := decide_eq_false (by omega)
              go_wp2_with (first | (go_at_call 79; refine (l1In_any _ _ _ _).mono ?_; (first | rw [HI.out] | rw [HS.out]); rintro e w2 ⟨rfl, rfl⟩) | (go_at_call 115; refine (l2Day_any _ _).mono ?_; rw [HM.out]; rintro e w2 ⟨rfl, rfl⟩))
              go_ret
              exact ⟨ret_bool (Eq.symm (by simp only [isRec]; rw [HI.out, HS.out, HM.out, HU.out, decide_eq_false hL]; rfl)), hb⟩
end Go.Proofs.Ytenjajcknmfhfaa

namespace Go.Proofs.Ytenjajcknmfhfaa
set_option linter.unusedVariables false
open Go.RowKit Go.Sort

set_option maxHeartbeats 2000000 in
theorem implIsRecord_any (v : Value) (r : Rec) (w : World) (h : RecV w v r) :
    Calls Try.prog 128 #[v] w fun e w' => e = .returned (.bool (isRec r)) ∧ Below w.heap.size w w' := by
  obtain ⟨s, rfl, h1, hok⟩ := h
  obtain ⟨id, series, made, evs⟩ := r
  obtain ⟨o1, o2, o3⟩ := hok
  simp only [inI] at o1 o2 o3
  obtain ⟨a1, c1, rfl, hl1, hm1, r1⟩ := h1.evs
  have R1 := Lib.hid r1
  clear h1 r1
  unfold maxLen at hm1
  simp only at hl1 hm1 ⊢
  obtain ⟨bs, hbs⟩ : ∃ b, decide (1 ≤ series ∧ series ≤ 99) = b := ⟨_, rfl⟩
  obtain ⟨bm, hbm⟩ : ∃ b, decide (0 ≤ made ∧ made ≤ 20000) = b := ⟨_, rfl⟩
  have HS := Lib.hid hbs
  have HM := Lib.hid hbm
  clear hbs hbm
  have hrec : isRec ⟨id, series, made, evs⟩ = (decide (1 ≤ id ∧ id ≤ 999) && (bs && (bm && (decide (evs.length ≤ 6) && upto (evAtB made evs) evs.length)))) := by simp only [isRec]; rw [HS.out, HM.out]
  have HR := Lib.hid hrec
  clear hrec
  by_cases h1 : id < 1
  · go_enter Try.func128, Try.ntmps128
    go_wp2_with (first | (go_at_call 90; refine (isSeries_any _ _).mono ?_; rw [HS.out]; rintro e w2 ⟨rfl, rfl⟩) | (go_at_call 111; refine (isDay_any _ _).mono ?_; rw [HM.out]; rintro e w2 ⟨rfl, rfl⟩))
    go_ret
    exact ⟨ret_bool (by rw [HR.out]; rw [decide_eq_false (by omega)]; rfl), below_al (Below.refl _ _) _⟩
  by_cases h2 : 999 < id
  · go_enter Try.func128, Try.ntmps128
    go_wp2_with (first | (go_at_call 90; refine (isSeries_any _ _).mono ?_; rw [HS.out]; rintro e w2 ⟨rfl, rfl⟩) | (go_at_call 111; refine (isDay_any _ _).mono ?_; rw [HM.out]; rintro e w2 ⟨rfl, rfl⟩))
    go_ret
    exact ⟨ret_bool (by rw [HR.out]; rw [decide_eq_false (by omega)]; rfl), below_al (Below.refl _ _) _⟩
  cases bs
  · go_enter Try.func128, Try.ntmps128
    go_wp2_with (first | (go_at_call 90; refine (isSeries_any _ _).mono ?_; rw [HS.out]; rintro e w2 ⟨rfl, rfl⟩) | (go_at_call 111; refine (isDay_any _ _).mono ?_; rw [HM.out]; rintro e w2 ⟨rfl, rfl⟩))
    go_ret
    exact ⟨ret_bool (by rw [HR.out]; simp), below_al (Below.refl _ _) _⟩
  cases bm
  · go_enter Try.func128, Try.ntmps128
    go_wp2_with (first | (go_at_call 90; refine (isSeries_any _ _).mono ?_; rw [HS.out]; rintro e w2 ⟨rfl, rfl⟩) | (go_at_call 111; refine (isDay_any _ _).mono ?_; rw [HM.out]; rintro e w2 ⟨rfl, rfl⟩))
    go_ret
    exact ⟨ret_bool (by rw [HR.out]; simp), below_al (Below.refl _ _) _⟩
  by_cases hL : 6 < evs.length
  · have gL : (6 : Int) < evs.length := by omega
    go_enter Try.func128, Try.ntmps128
    go_wp2_with (first | (go_at_call 90; refine (isSeries_any _ _).mono ?_; rw [HS.out]; rintro e w2 ⟨rfl, rfl⟩) | (go_at_call 111; refine (isDay_any _ _).mono ?_; rw [HM.out]; rintro e w2 ⟨rfl, rfl⟩))
    go_ret
    exact ⟨ret_bool (by rw [HR.out]; rw [decide_eq_false (show ¬ evs.length ≤ 6 by omega)]; simp), below_al (Below.refl _ _) _⟩
  have g1 : (1 : Int) ≤ id := by omega
  have g2 : id ≤ 999 := by omega
  have gL : (evs.length : Int) ≤ 6 := by omega
  go_enter Try.func128, Try.ntmps128
  go_wp2_with (first | (go_at_call 90; refine (isSeries_any _ _).mono ?_; rw [HS.out]; rintro e w2 ⟨rfl, rfl⟩) | (go_at_call 111; refine (isDay_any _ _).mono ?_; rw [HM.out]; rintro e w2 ⟨rfl, rfl⟩))
  go_loopw [3, 35] (fun b i wr => ∃ (k : Nat) (pk : Int), k ≤ evs.length ∧ i = .int .i64 k ∧ b = .int .i64 pk ∧ Hid (prevK evs k = pk) ∧ upto (evAtB made evs) k = true ∧ Below w.heap.size w wr ∧ wr.cell? ⟨w.heap.size, 2, none⟩ = some (.int .i64 made)) (fun _ i _ => evs.length - (intOf i).toNat)
  case atStart => exact ⟨0, 0, Nat.zero_le _, rfl, rfl, rfl, by simp [upto], below_al (Below.refl _ _) _, cell_new w _ _ 2 rfl⟩
  case round =>
    obtain ⟨k, pk, hk, rfl, rfl, HP, hu, hb, p2⟩ := hrel
    have HU := Lib.hid hu
    clear hu
    by_cases hlt : k < evs.length
    · obtain ⟨b1, o1, hb1, rfl, e1⟩ := R1.out.resolve_left (fun e => by rw [e] at hlt; simp at hlt)
      obtain ⟨⟨x, y⟩, hx⟩ : ∃ s, evs.getD k evD = s := ⟨_, rfl⟩
      obtain ⟨q1, q2, hok⟩ := e1 k hlt
      rw [hx] at q1 q2 hok
      have f1 := cell_kept q1 hb
      have f2 := cell_kept q2 hb
      have HX := Lib.hid hx
      have g0 : (0 : Int) ≤ (k : Int) := by omega
      have g1 : (k : Int) < (evs.length : Int) := by omega
      clear q1 q2 hx e1 hok
      obtain ⟨bE, hbE⟩ : ∃ b, isEv ⟨x, y⟩ = b := ⟨_, rfl⟩
      have hcall : ∀ W : World, Calls Try.prog 162 #[.agg #[.int .i64 x, .int .i64 y]] W fun e w' => e = .returned (.bool bE) ∧ Below W.heap.size W w' := fun W => by
        have := implIsEvent_any ⟨x, y⟩ W
        rwa [hbE] at this
      have HE := Lib.hid hbE
      clear hbE
      have hw := hb.size
      cases bE
      · go_wp2_with (first | (go_at_call 162; refine (hcall _).mono ?_; rintro e w2 ⟨rfl, bq⟩; have k0 := cell_kept (cell_new wr _ _ 0 rfl) bq; have k1 := cell_kept (cell_new wr _ _ 1 rfl) bq; have k2 := cell_kept (cell_kept p2 (below_al (Below.refl _ _) _)) bq; have bb := below_chain (below_al (Below.refl wr.heap.size wr) _) bq))
        go_ret
        exact ⟨ret_bool (Eq.symm (notRec hlt (by rw [evAtB, HX.out, HE.out]; rfl))), hb.trans (bb.mono hw)⟩
      · by_cases hP : x ≤ pk
        · go_wp2_with (first | (go_at_call 162; refine (hcall _).mono ?_; rintro e w2 ⟨rfl, bq⟩; have k0 := cell_kept (cell_new wr _ _ 0 rfl) bq; have k1 := cell_kept (cell_new wr _ _ 1 rfl) bq; have k2 := cell_kept (cell_kept p2 (below_al (Below.refl _ _) _)) bq; have bb := below_chain (below_al (Below.refl wr.heap.size wr) _) bq))
          go_ret
          exact ⟨ret_bool (Eq.symm (notRec hlt (by rw [evAtB, HX.out, HP.out, decide_eq_false (show ¬ pk < x by omega)]; simp))), hb.trans (bb.mono hw)⟩
        · by_cases hD : y < made
          · go_wp2_with (first | (go_at_call 162; refine (hcall _).mono ?_; rintro e w2 ⟨rfl, bq⟩; have k0 := cell_kept (cell_new wr _ _ 0 rfl) bq; have k1 := cell_kept (cell_new wr _ _ 1 rfl) bq; have k2 := cell_kept (cell_kept p2 (below_al (Below.refl _ _) _)) bq; have bb := below_chain (below_al (Below.refl wr.heap.size wr) _) bq))
            go_ret
            exact ⟨ret_bool (Eq.symm (notRec hlt (by rw [evAtB, HX.out, HE.out, decide_eq_false (show ¬ made ≤ y by omega)]; rfl))), hb.trans (bb.mono hw)⟩
          · go_wp2_with (first | (go_at_call 162; refine (hcall _).mono ?_; rintro e w2 ⟨rfl, bq⟩; have k0 := cell_kept (cell_new wr _ _ 0 rfl) bq; have k1 := cell_kept (cell_new wr _ _ 1 rfl) bq; have k2 := cell_kept (cell_kept p2 (below_al (Below.refl _ _) _)) bq; have bb := below_chain (below_al (Below.refl wr.heap.size wr) _) bq))
            go_roundw
            case rel => exact ⟨k + 1, x, by omega, by go_num, rfl, (show prevK evs (k + 1) = x by rw [prevK, HX.out]), upto_succ HU.out (by rw [evAtB, HX.out, HE.out, HP.out, decide_eq_true (show made ≤ y by omega)]; exact decide_eq_true (by omega)), hb.trans (bb.mono hw), k2⟩
            case measure => simp [intOf]; omega
    · obtain rfl : k = evs.length := by omega
      go_wp2_with fail
      go_ret
      exact ⟨ret_bool (by rw [HR.out, HU.out, decide_eq_true (show evs.length ≤ 6 by omega), decide_eq_true (show 1 ≤ id ∧ id ≤ 999 by omega)]; rfl), hb⟩
end Go.Proofs.Ytenjajcknmfhfaa

namespace Go.Proofs.Ytenjajcknmfhfaa
set_option linter.unusedVariables false
open Go.RowKit Go.Sort

def cmpI (a b : Int) : Int := if a < b then -1 else if b < a then 1 else 0
theorem cmpI_ge {a b : Int} (h : ¬ a < b) : 0 ≤ cmpI a b := by
  unfold cmpI
  rw [if_neg h]
  split <;> omega
theorem cmpI_ne {a b : Int} (h : ¬ a = b) : cmpI a b ≠ 0 := by
  unfold cmpI
  split
  · omega
  · split <;> omega
theorem isNaN_any (a : Int) (w : World) : Calls Try.prog 164 #[.int .i64 a] w fun e w' => e = .returned (.bool false) ∧ w' = w := by
  have h : (a != a) = false := by simp
  go_enter Try.func164, Try.ntmps164
  go_wp2
  go_ret
  exact ⟨ret_bool (by simp), rfl⟩
theorem compare_any (a b : Int) (w : World) : Calls Try.prog 136 #[.int .i64 a, .int .i64 b] w fun e w' => e = .returned (.int .i64 (cmpI a b)) ∧ w' = w := by
  by_cases h1 : a < b
  · go_enter Try.func136, Try.ntmps136
    go_wp2_with (first | (go_at_call 164; refine (isNaN_any _ _).mono ?_; rintro e w' ⟨rfl, rfl⟩))
    go_ret
    exact ⟨ret_int (by unfold cmpI; rw [if_pos h1]), rfl⟩
  · by_cases h2 : b < a
    · go_enter Try.func136, Try.ntmps136
      go_wp2_with (first | (go_at_call 164; refine (isNaN_any _ _).mono ?_; rintro e w' ⟨rfl, rfl⟩))
      go_ret
      exact ⟨ret_int (by unfold cmpI; rw [if_neg (by omega), if_pos h2]), rfl⟩
    · go_enter Try.func136, Try.ntmps136
      go_wp2_with (first | (go_at_call 164; refine (isNaN_any _ _).mono ?_; rintro e w' ⟨rfl, rfl⟩))
      go_ret
      exact ⟨ret_int (by unfold cmpI; rw [if_neg (by omega), if_neg (by omega)]), rfl⟩


end Go.Proofs.Ytenjajcknmfhfaa

namespace Go.Proofs.Ytenjajcknmfhfaa
set_option linter.unusedVariables false
open Go.RowKit Go.Sort

def dayRes (r : Rec) (k : Int) : Int × Bool := if isRec r = true ∧ 0 ≤ dayOf r k then (dayOf r k, true) else (0, false)

set_option maxHeartbeats 2000000 in
theorem l2DayOf_any (v : Value) (r : Rec) (kd : Int) (w : World) (h : RecV w v r) :
    Calls Try.prog 183 #[v, .int .i64 kd] w fun e w' => e = .returned (.int .i64 (dayOf r kd)) ∧ Below w.heap.size w w' := by
  obtain ⟨s, rfl, h1, hok⟩ := h
  obtain ⟨a1, c1, rfl, hl1, hm1, r1⟩ := h1.evs
  have R1 := Lib.hid r1
  clear h1 r1
  unfold maxLen at hm1
  by_cases hk0 : kd = 0
  · subst hk0
    go_enter Try.func183, Try.ntmps183
    go_wp2_with fail
    go_ret
    exact ⟨ret_int (by rw [dayOf_zero]), below_al (Below.refl _ _) _⟩
  · have hne : (kd == 0) = false := by simp [hk0]
    have HK0 := Lib.hid hk0
    clear hk0
    go_enter Try.func183, Try.ntmps183
    go_wp2_with fail
    go_loopw [5] (fun i wr => ∃ k : Nat, k ≤ r.evs.length ∧ i = .int .i64 k ∧ Hid (∀ j, j < k → (r.evs.getD j evD).kind ≠ kd) ∧ Below w.heap.size w wr ∧ wr.cell? ⟨w.heap.size, 3, none⟩ = some (.slice a1 r.evs.length c1)) (fun i _ => r.evs.length - (intOf i).toNat)
    case atStart => exact ⟨0, Nat.zero_le _, rfl, Lib.hid (fun j hj => absurd hj (Nat.not_lt_zero _)), below_al (Below.refl _ _) _, cell_new w _ _ 3 rfl⟩
    case round =>
      obtain ⟨k, hk, rfl, I, hb, p3⟩ := hrel
      by_cases hlt : k < r.evs.length
      · obtain ⟨b1, o1, hb1, rfl, e1⟩ := R1.out.resolve_left (fun e => by rw [e] at hlt; simp at hlt)
        obtain ⟨⟨x, y⟩, hx⟩ : ∃ s, r.evs.getD k evD = s := ⟨_, rfl⟩
        obtain ⟨q1, q2, hok⟩ := e1 k hlt
        rw [hx] at q1 q2 hok
        have f1 := cell_kept q1 hb
        have f2 := cell_kept q2 hb
        simp only at f1 f2
        have HX := Lib.hid hx
        have g0 : (0 : Int) ≤ (k : Int) := by omega
        have g1 : (k : Int) < (r.evs.length : Int) := by omega
        clear q1 q2 hx e1 hok
        by_cases hq : x = kd
        · have eq1 : (x == kd) = true := by simp [hq]
          have HQ := Lib.hid hq
          clear hq
          go_wp2_with fail
          go_ret
          exact ⟨ret_int (Eq.symm (by rw [dayOf_hit HK0.out hlt I.out (by rw [HX.out]; exact HQ.out), HX.out])), hb⟩
        · have eq1 : (x == kd) = false := by simp [hq]
          have HQ := Lib.hid hq
          clear hq
          go_wp2_with fail
          go_roundw
          case rel =>
            refine ⟨k + 1, by omega, by go_num, Lib.hid (fun j hj => ?_), hb, p3⟩
            rcases Nat.lt_or_ge j k with h' | h'
            · exact I.out j h'
            · obtain rfl : j = k := by omega
              rw [HX.out]
              exact HQ.out
          case measure => simp [intOf]; omega
      · obtain rfl : k = r.evs.length := by omega
        go_wp2_with fail
        go_ret
        exact ⟨ret_int (Eq.symm (dayOf_miss HK0.out I.out)), hb⟩


end Go.Proofs.Ytenjajcknmfhfaa

namespace Go.Proofs.Ytenjajcknmfhfaa
set_option linter.unusedVariables false
open Go.RowKit Go.Sort

def addRes (r : Rec) (e : Ev) : Rec × Bool := if isRec r = true ∧ isRec { r with evs := insEv r.evs e } = true then ({ r with evs := insEv r.evs e }, true) else (recD, false)
theorem box_new (w : World) (o : Obj) : (w.alloc o).heap[w.heap.size]? = some o := heap_alloc_new w o
theorem evs_one (xs : List Ev) : ∀ u ∈ (xs.map evC).flatten, u.oneCell' = true := by
  intro u hu
  obtain ⟨l, hl, hu⟩ := List.mem_flatten.1 hu
  obtain ⟨e, _, rfl⟩ := List.mem_map.1 hl
  simp [evC] at hu
  rcases hu with rfl | rfl <;> rfl
theorem setCell_other {w : World} {a b : Addr} (v : Value) (h : a ≠ b) : (w.setCell a v).cell? b = w.cell? b := by
  apply World.cell?_setCell_other
  exact h
theorem setCell_same {w : World} {a : Addr} {u : Value} (v : Value) (h : w.cell? a = some u) : (w.setCell a v).cell? a = some v := by
  apply World.cell?_setCell_same
  exact h
theorem wp_append_own_nil {P : Program} {w : World} {o : Oper} {a : Act} {K : Act → World → Prop} {Q : Exit → Act → World → Prop} (s x : Operand) (t : TypeId)
    (ho : o.op = .call { callee := .builtin .append, args := #[s, x], argTypes := #[t, t] })
    (base : Nat) (e : TypeId) (i : TypeInfo) (size : Nat) (ht : P.underlying t = some (.slice e)) (hi : P.info? e = some i)
    (v : Value) (n : Nat) (xs : List Value) (hs : a.eval s = v) (hown : w.ownsRow base e size v n xs) (hx : a.eval x = .slice none 0 0)
    (h : ∀ v' w', w'.ownsRow base e size v' n xs → w.grownBy w' v.ownBlock → K (a.put o.dst v') w') : o.wp P a w K Q := by
  have hrun := run_append_owned_none (P := P) (w := w) base t o.type e i size ht hi v n xs hown
  unfold Oper.wp
  simp [execOp, ho, resolve, invoke, builtin, hs, hx, hrun, Result.andThen]
  exact h v w hown (World.grownBy.refl _ _)
theorem own_form {lo e size n : Nat} {w : World} {v : Value} {xs : List Value} (h : w.ownsRow lo e size v n xs) (hn : 0 < n) : ∃ g cap, v = .slice (some ⟨g, 0, none⟩) n cap ∧ lo ≤ g := by
  rcases h.2 with ⟨_, h0⟩ | ⟨g, cap, cur, rfl, hg, _⟩
  · omega
  · exact ⟨g, cap, rfl, hg⟩
theorem rec0 (lo hi : Nat) (w : World) : RecO lo hi w (.agg #[.int .i64 0, .int .i64 0, .int .i64 0, .slice none 0 0]) recD :=
  ⟨_, rfl, ⟨Own.nil _ _ _ _, by simp [recD], Under.nil _ _ _⟩, by simp [recD, Rec.ok, inI]⟩

theorem cells_flat {w : World} {b o : Nat} {xs : List Ev} (hcs : ∀ i, i < xs.length → w.cell? ⟨b, o + i * 2, none⟩ = some (.int .i64 (xs.getD i evD).kind) ∧ w.cell? ⟨b, o + i * 2 + 1, none⟩ = some (.int .i64 (xs.getD i evD).day)) :
    ∀ j u, (xs.map evC).flatten[j]? = some u → w.cell? ⟨b, o + j, none⟩ = some u := by
  intro j u h
  have hk : j = j / 2 * 2 + j % 2 := by omega
  have hall : ∀ cs ∈ xs.map evC, cs.length = 2 := by simp [evC]
  rw [hk, flat_get _ (j / 2) (j % 2) hall (by omega)] at h
  rcases Nat.lt_or_ge (j / 2) xs.length with hl | hl
  · obtain ⟨f1, f2⟩ := hcs (j / 2) hl
    rw [List.getElem?_map, List.getElem?_eq_getElem hl, Option.map_some, Option.bind_some, ← getD_lt hl] at h
    rcases Nat.mod_two_eq_zero_or_one j with h2 | h2
    · rw [h2] at h
      simp [evC] at h
      rw [hk, h2, ← h]
      simpa using f1
    · rw [h2] at h
      simp [evC] at h
      rw [hk, h2, ← h, ← Nat.add_assoc]
      exact f2
  · rw [List.getElem?_map, List.getElem?_eq_none hl] at h
    cases h
theorem flat_evs_len (xs : List Ev) : (xs.map evC).flatten.length = xs.length * 2 := by
  rw [flat_len (size := 2) _ (by simp [evC]), List.length_map]
theorem getD_take {xs : List Ev} {p i : Nat} (h : i < p) : (xs.take p).getD i evD = xs.getD i evD := by
  simp [List.getD, List.getElem?_take_of_lt h]
theorem getD_drop {xs : List Ev} {p i : Nat} : (xs.drop p).getD i evD = xs.getD (p + i) evD := by
  simp [List.getD, List.getElem?_drop]


end Go.Proofs.Ytenjajcknmfhfaa

namespace Go.Proofs.Ytenjajcknmfhfaa
set_option linter.unusedVariables false
open Go.RowKit Go.Sort

theorem wp_append_at {P : Program} (w : World) {o : Oper} {a : Act} {K : Act → World → Prop} {Q : Exit → Act → World → Prop} (s x : Operand) (t : TypeId)
    (ho : o.op = .call { callee := .builtin .append, args := #[s, x], argTypes := #[t, t] })
    (base : Nat) (e : TypeId) (i : TypeInfo) (z : Value) (size bytes : Nat) (ht : P.underlying t = some (.slice e)) (hi : P.info? e = some i) (hz : i.zero = some z)
    (hsize : i.size = size) (hby : i.bytes = bytes) (hzs : z.cells.size = size) (hsz : 0 < size)
    (v : Value) (n : Nat) (xs : List Value) (hs : a.eval s = v) (hown : w.ownsRow base e size v n xs)
    (ad : Addr) (m c : Nat) (news : List Value) (hx : a.eval x = .slice (some ad) m c) (hl : news.length = m * size) (hnews : ∀ j u, news[j]? = some u → w.cell? (ad.add j) = some u) (h1 : ∀ u ∈ news, u.oneCell' = true)
    (h63 : n + m ≤ maxLen) (hbytes : (n + m) * bytes ≤ 140737488355328) (hbase : base ≤ w.heap.size)
    (h : ∀ v' w', w'.ownsRow base e size v' (n + m) (xs ++ news) → w.grownBy w' v.ownBlock → (v'.ownBlock = v.ownBlock ∨ v'.ownBlock = some w.heap.size) → K (a.put o.dst v') w') : o.wp P a w K Q := by
  obtain ⟨v', w', hr, h2, h3, _, h5⟩ := run_append_own_at (P := P) w base t o.type e i z size bytes ht hi hz hsize hby hzs hsz v n xs hown ad m c news hl hnews h1 h63 hbytes hbase
  unfold Oper.wp execOp
  simp only [ho, resolve, invoke, builtin, Sem.run_bind, Sem.run_pure, Result.andThen_ok, List.map_toArray, List.map_cons, List.map_nil, hs, hx, hr]
  exact h v' w' h2 h3 h5
theorem own_made {W : World} {base e size h : Nat} (hh : W.heap.size = h) (hb : base ≤ h) : (W.alloc (.cells #[] e (0, 0))).ownsRow base e size (.slice (some ⟨h, 0, none⟩) 0 0) 0 [] := by
  subst hh
  exact World.ownsRow_made W #[] 0 hb (Nat.zero_le _) (by simp)
theorem heap_al0 {W : World} {o : Obj} {h : Nat} (hh : W.heap.size = h) : (W.alloc o).heap[h]? = some o := by
  subst hh
  exact heap_alloc_new W o
theorem heap_al1 {W : World} {o : Obj} {g : Nat} (h : W.heap[g]? = some o) (o' : Obj) : (W.alloc o').heap[g]? = some o :=
  box_al h o'
theorem cells_al {W : World} {ad : Addr} {cs : List Value} (h : ∀ j u, cs[j]? = some u → W.cell? (ad.add j) = some u) (o : Obj) : ∀ j u, cs[j]? = some u → (W.alloc o).cell? (ad.add j) = some u := fun j u hj => below_al_cell (h j u hj) o
theorem two_new {W : World} {a b : Value} {t : TypeId} {h : Nat} (hh : W.heap.size = h) : ∀ j u, [a, b][j]? = some u → (W.alloc (.cells #[a, b] t (0, 0))).cell? ((⟨h, 0, none⟩ : Addr).add j) = some u := by
  subst hh
  intro j u hj
  rw [Addr.add_lit]
  exact (blk_cell (box_new W _) _).trans (by simpa using hj)
theorem own_drew {W : World} {base e size n : Nat} {v : Value} {xs : List Value} (h : W.ownsRow base e size v n xs) : W.drew.ownsRow base e size v n xs := h
theorem heap_drew {W : World} {g : Nat} {o : Obj} (h : W.heap[g]? = some o) : W.drew.heap[g]? = some o := h
theorem drew_cell {W : World} {a : Addr} {u : Value} (h : W.cell? a = some u) : W.drew.cell? a = some u := h
def Off (w : World) (v : Value) (G : Nat) (O : Obj) : Prop := w.heap[G]? = some O ∧ v.ownBlock ≠ some G
theorem off_new {W : World} {v : Value} {O : Obj} {h : Nat} (hh : W.heap.size = h) (hv : ∀ k, v.ownBlock = some k → k < h) : Off (W.alloc O) v h O :=
  ⟨heap_al0 hh, fun e => absurd (hv h e) (Nat.lt_irrefl _)⟩
theorem off_al {W : World} {v : Value} {G : Nat} {O : Obj} (h : Off W v G O) (o : Obj) : Off (W.alloc o) v G O := ⟨heap_al1 h.1 o, h.2⟩
theorem off_row {W : World} {L n c G : Nat} {O : Obj} (h : W.heap[G]? = some O) (hn : L ≠ G) : Off W (.slice (some ⟨L, 0, none⟩) n c) G O := ⟨h, fun e => hn (by simpa [Value.ownBlock] using e)⟩
theorem off_app {W w' : World} {v v' : Value} {G : Nat} {O : Obj} (h : Off W v G O) (hg : W.grownBy w' v.ownBlock) (hat : v'.ownBlock = v.ownBlock ∨ v'.ownBlock = some W.heap.size) : Off w' v' G O := by
  have hlt := (Array.getElem?_eq_some_iff.1 h.1).1
  refine ⟨(hg.block G hlt (fun e => h.2 e.symm)).trans h.1, fun e => ?_⟩
  rcases hat with a | a
  · exact h.2 (a ▸ e)
  · rw [a] at e
    have := Option.some.inj e
    omega
theorem off_cells2 {W : World} {v a b : Value} {t : TypeId} {G : Nat} (h : Off W v G (.cells #[a, b] t (0, 0))) : ∀ j u, [a, b][j]? = some u → W.cell? ((⟨G, 0, none⟩ : Addr).add j) = some u := by
  intro j u hj
  rw [Addr.add_lit]
  exact (blk_cell h.1 _).trans (by simpa using hj)
theorem setCell_grown' (w : World) (g j : Nat) (u : Value) : w.grownBy (w.setCell ⟨g, j, none⟩ u) (some g) :=
  ⟨rfl, rfl, rfl, by simp, fun k hk hne => Below.heap_setCell w ⟨g, j, none⟩ u k (fun e => hne (by rw [e]))⟩
theorem EvsO.off {lo hi G j : Nat} {w : World} {v u : Value} {xs : List Ev} (h : EvsO lo hi w v xs) (hn : v.ownBlock ≠ some G) : EvsO lo hi (w.setCell ⟨G, j, none⟩ u) v xs :=
  ⟨⟨h.1.1.kept (setCell_grown' w G j u) (.inr hn), h.1.2⟩, h.2⟩
/-- The events with one more, out of the row that the three appends leave. -/
theorem evs_ins {W : World} {lo B k n : Nat} {v : Value} {xs : List Ev} {ek ed : Int} {N1 N2 : List Value} (h : W.ownsRow B 174 2 v n ([] ++ N1 ++ [.int .i64 ek, .int .i64 ed] ++ N2)) (hn : n = xs.length + 1)
    (h1 : ((xs.take k).map evC).flatten = N1) (h2 : ((xs.drop k).map evC).flatten = N2) (hp : placeK xs ek = k) (hl : lo ≤ B) (hok : ∀ a ∈ xs, a.ok) (he : Ev.ok ⟨ek, ed⟩) : EvsO lo W.heap.size W v (insEv xs ⟨ek, ed⟩) := by
  have hown : Own lo 174 2 W v ((insEv xs ⟨ek, ed⟩).map evC) := by
    refine ⟨?_, by simp [evC]⟩
    have e : ((insEv xs ⟨ek, ed⟩).map evC).flatten = [] ++ N1 ++ [.int .i64 ek, .int .i64 ed] ++ N2 := by
      unfold insEv
      rw [hp, List.map_append, List.flatten_append, List.map_cons, List.flatten_cons, h1, h2]
      simp [evC]
    rw [e, List.length_map, insEv_len, ← hn]
    exact ownsRow_base_a' h hl
  exact ⟨hown, ins_all hok he, hown.under⟩
def Lit (w V : World) (G n g cap : Nat) (xs : List Ev) (x y z : Value) (zb : Nat) (O : Obj) : Prop :=
  EvsO (w.heap.size + 3) V.heap.size V (.slice (some ⟨g, 0, none⟩) n cap) xs ∧ Below w.heap.size w V ∧ V.heap[zb]? = some O ∧ w.heap.size + 3 ≤ V.heap.size ∧
  V.cell? ⟨G, 0, none⟩ = some x ∧ V.cell? ⟨G, 1, none⟩ = some y ∧ V.cell? ⟨G, 2, none⟩ = some z ∧ V.cell? ⟨G, 3, none⟩ = some (.slice (some ⟨g, 0, none⟩) n cap)
theorem lit_a {w W : World} {G n g cap zb : Nat} {xs : List Ev} {a b c d x y z : Value} {t : TypeId} {O : Obj} (hE : EvsO (w.heap.size + 3) W.heap.size W (.slice (some ⟨g, 0, none⟩) n cap) xs) (hO : Off W (.slice (some ⟨g, 0, none⟩) n cap) G (.cells #[a, b, c, d] t (0, 0)))
    (hB : Below w.heap.size w W) (hG : w.heap.size ≤ G) (hz : W.heap[zb]? = some O) (hne : zb ≠ G) (hs : w.heap.size + 3 ≤ W.heap.size) :
    Lit w ((((W.setCell ⟨G, 0, none⟩ x).setCell ⟨G, 1, none⟩ y).setCell ⟨G, 2, none⟩ z).setCell ⟨G, 3, none⟩ (.slice (some ⟨g, 0, none⟩) n cap)) G n g cap xs x y z zb O := by
  have c0 := box_cell hO.1 0 rfl
  have c1 := box_cell hO.1 1 rfl
  have c2 := box_cell hO.1 2 rfl
  have c3 := box_cell hO.1 3 rfl
  have n01 : (⟨G, 0, none⟩ : Addr) ≠ ⟨G, 1, none⟩ := by simp
  have n02 : (⟨G, 0, none⟩ : Addr) ≠ ⟨G, 2, none⟩ := by simp
  have n03 : (⟨G, 0, none⟩ : Addr) ≠ ⟨G, 3, none⟩ := by simp
  have n12 : (⟨G, 1, none⟩ : Addr) ≠ ⟨G, 2, none⟩ := by simp
  have n13 : (⟨G, 1, none⟩ : Addr) ≠ ⟨G, 3, none⟩ := by simp
  have n23 : (⟨G, 2, none⟩ : Addr) ≠ ⟨G, 3, none⟩ := by simp
  refine ⟨((((hE.off hO.2).off hO.2).off hO.2).off hO.2).wide (Nat.le_refl _) (by simp), (((hB.setCell hG _).setCell hG _).setCell hG _).setCell hG _, ?_, by simp; omega, ?_, ?_, ?_, ?_⟩
  · rw [Below.heap_setCell _ _ _ _ hne, Below.heap_setCell _ _ _ _ hne, Below.heap_setCell _ _ _ _ hne, Below.heap_setCell _ _ _ _ hne]
    exact hz
  · rw [setCell_other _ n03.symm, setCell_other _ n02.symm, setCell_other _ n01.symm]
    exact setCell_same _ c0
  · rw [setCell_other _ n13.symm, setCell_other _ n12.symm]
    exact setCell_same (u := b) _ (by rw [setCell_other _ n01]; exact c1)
  · rw [setCell_other _ n23.symm]
    exact setCell_same (u := c) _ (by rw [setCell_other _ n12, setCell_other _ n02]; exact c2)
  · exact setCell_same (u := d) _ (by rw [setCell_other _ n23, setCell_other _ n13, setCell_other _ n03]; exact c3)
theorem lit_b {w W : World} {n g cap zb : Nat} {xs : List Ev} {x y z : Value} {t : TypeId} {O : Obj} (hE : EvsO (w.heap.size + 3) W.heap.size W (.slice (some ⟨g, 0, none⟩) n cap) xs)
    (hB : Below w.heap.size w W) (hz : W.heap[zb]? = some O) (hs : w.heap.size + 3 ≤ W.heap.size) :
    Lit w (W.alloc (.cells #[x, y, z, .slice (some ⟨g, 0, none⟩) n cap] t (0, 0))) W.heap.size n g cap xs x y z zb O :=
  ⟨(hE.alloc _).wide (Nat.le_refl _) (by simp), below_al hB _, heap_al1 hz _, by simp; omega, cell_new W _ _ 0 rfl, cell_new W _ _ 1 rfl, cell_new W _ _ 2 rfl, cell_new W _ _ 3 rfl⟩
end Go.Proofs.Ytenjajcknmfhfaa

namespace Go.Proofs.Ytenjajcknmfhfaa
set_option linter.unusedVariables false
open Go.RowKit
def NL (W : World) (gb : Nat) (L : List Int) : Prop := ∀ i (hi : i < L.length), W.cell? ⟨gb, 0 + i, none⟩ = some (.int .i64 L[i])
theorem NL.al {W : World} {gb : Nat} {L : List Int} (h : NL W gb L) (o : Obj) : NL (W.alloc o) gb L := fun i hi => below_al_cell (h i hi) o
theorem NL.grown {W W' : World} {gb B : Nat} {L : List Int} (h : NL W gb L) (hg : W.grownBy W' (some B)) (hn : gb ≠ B) : NL W' gb L := fun i hi => hg.cell (h i hi) (by simpa using hn)
theorem gen_dr {G : World → Prop} {W : World} (k : ∀ Wn, Wn = W.drew → Wn.heap.size = W.heap.size → G Wn) : G W.drew := k _ rfl rfl
theorem gen_al {G : World → Prop} {W : World} {o : Obj} (k : ∀ Wn, Wn = W.alloc o → G Wn) : G (W.alloc o) := k _ rfl
end Go.Proofs.Ytenjajcknmfhfaa

namespace Go.Proofs.Ytenjajcknmfhfaa
set_option linter.unusedVariables false
set_option linter.unusedSimpArgs false
open Go.RowKit Go.Sort

def RecordDrawn (w : World) (B K : Nat) (e : Ending) (w' : World) : Prop := ∃ (r : Rec) (g c : Nat), e = .returned (.agg #[.int .i64 r.id, .int .i64 r.series, .int .i64 r.made, .slice (some ⟨g, 0, none⟩) r.evs.length c]) ∧ r.ok ∧ (-1 ≤ r.made ∧ r.made ≤ 20001) ∧ r.evs.length ≤ 8 ∧
  EvsO w.heap.size w'.heap.size w' (.slice (some ⟨g, 0, none⟩) r.evs.length c) r.evs ∧ Cur w' B K ∧ w.grownBy w' (some B)
theorem EvsO.empty' {lo L : Nat} {w : World} (hL : w.heap.size = L) (h : lo ≤ L) : EvsO lo (w.alloc (.cells #[] 174 (0, 0))).heap.size (w.alloc (.cells #[] 174 (0, 0))) (.slice (some ⟨L, 0, none⟩) 0 0) [] := by
  subst hL
  have := World.ownsRow_made (base := lo) (e := 174) (size := 2) w #[] 0 h (Nat.zero_le _) rfl
  exact ⟨⟨by simpa using this, by simp⟩, by simp, fun g hg => by simp [Value.ownBlock] at hg; subst hg; simp⟩
theorem EvsO.ofRow {lo n : Nat} {w : World} {v : Value} {t : List Ev} (h : w.ownsRow lo 174 2 v n ((t.map evC).flatten)) (hn : n = t.length) (hok : ∀ f ∈ t, f.ok) : EvsO lo w.heap.size w v t :=
  ⟨⟨by rw [List.length_map, ← hn]; exact h, fun cs hc => by obtain ⟨x, _, rfl⟩ := List.mem_map.1 hc; rfl⟩, hok, fun g hg => (h.lt g hg).2⟩
theorem EvsO.ownR {lo hi : Nat} {w : World} {v : Value} {t : List Ev} (h : EvsO lo hi w v t) : w.ownsRow lo 174 2 v t.length ((t.map evC).flatten) := by
  have := h.1.1
  rwa [List.length_map] at this
theorem ev_snoc {lo n : Nat} {w : World} {v : Value} {t : List Ev} {a b : Int} (hown : w.ownsRow lo 174 2 v n ((t.map evC).flatten ++ [.int .i64 a, .int .i64 b])) (hn : n = t.length + 1) (hok : ∀ f ∈ t, f.ok) (ha : inI a) (hb : inI b) : EvsO lo w.heap.size w v (t ++ [⟨a, b⟩]) := by
  refine EvsO.ofRow (n := n) ?_ (by simp [hn]) (fun f hf => ?_)
  · have e : ((t ++ [(⟨a, b⟩ : Ev)]).map evC).flatten = ((t.map evC).flatten ++ [.int .i64 a, .int .i64 b] : List Value) := by
      rw [List.map_append, List.flatten_append]
      simp [evC]
    rw [e]; exact hown
  · rcases List.mem_append.1 hf with h | h
    · exact hok f h
    · rw [List.mem_singleton.1 h]; exact ⟨ha, hb⟩
structure RSt (w wx : World) (B K R F : Nat) (x0 x1 x2 : Int) (g c : Nat) (xs : List Ev) : Prop where
  dk : Dk w wx B K
  res : BxV wx R [.int .i64 0, .int .i64 0, .int .i64 0, .slice none 0 0]
  box : BxV wx F [.int .i64 x0, .int .i64 x1, .int .i64 x2, .slice (some ⟨g, 0, none⟩) xs.length c]
  evs : EvsO w.heap.size wx.heap.size wx (.slice (some ⟨g, 0, none⟩) xs.length c) xs
  gF : g ≠ F
  gR : g ≠ R
theorem RSt.step {w wx w' : World} {B K K' R F : Nat} {x0 x1 x2 : Int} {g c : Nat} {xs : List Ev} (h : RSt w wx B K R F x0 x1 x2 g c xs) (hB : B < w.heap.size) (hR : w.heap.size ≤ R) (hF : w.heap.size ≤ F) (hc : Cur w' B K') (hg : wx.grownBy w' (some B)) : RSt w w' B K' R F x0 x1 x2 g c xs :=
  ⟨h.dk.step hc hg, h.res.grown hg (by simp; omega), h.box.grown hg (by simp; omega), (h.evs.grown hg hB).wide (Nat.le_refl _) hg.size, h.gF, h.gR⟩
theorem RSt.below {w wx w' : World} {B K R F : Nat} {x0 x1 x2 : Int} {g c : Nat} {xs : List Ev} (h : RSt w wx B K R F x0 x1 x2 g c xs) (hb : Below wx.heap.size wx w') : RSt w w' B K R F x0 x1 x2 g c xs :=
  ⟨h.dk.below hb, h.res.below hb, h.box.below hb, (h.evs.below hb).wide (Nat.le_refl _) hb.size, h.gF, h.gR⟩
theorem RSt.al {w wx : World} {B K R F : Nat} {x0 x1 x2 : Int} {g c : Nat} {xs : List Ev} (h : RSt w wx B K R F x0 x1 x2 g c xs) (o : Obj) : RSt w (wx.alloc o) B K R F x0 x1 x2 g c xs := h.below (below_al (Below.refl _ _) o)
theorem RSt.drew {w wx : World} {B K R F : Nat} {x0 x1 x2 : Int} {g c : Nat} {xs : List Ev} (h : RSt w wx B K R F x0 x1 x2 g c xs) : RSt w wx.drew B K R F x0 x1 x2 g c xs := h.below (Below.refl _ _).drew
theorem RSt.le {w wx : World} {B K K' R F : Nat} {x0 x1 x2 : Int} {g c : Nat} {xs : List Ev} (h : RSt w wx B K R F x0 x1 x2 g c xs) (hk : K ≤ K') : RSt w wx B K' R F x0 x1 x2 g c xs := ⟨h.dk.le hk, h.res, h.box, h.evs, h.gF, h.gR⟩
theorem RSt.put1 {w wx : World} {B K R F : Nat} {x0 x1 x2 y : Int} {g c : Nat} {xs : List Ev} (h : RSt w wx B K R F x0 x1 x2 g c xs) (hF : w.heap.size ≤ F) (hB : B < F) (hR : R ≠ F) : RSt w (wx.setCell ⟨F, 1, none⟩ (.int .i64 y)) B K R F x0 y x2 g c xs :=
  ⟨h.dk.set hF hB, h.res.other hR, h.box.set 1 _ rfl, by have := h.evs.setOther (G := F) (j := 1) (x := .int .i64 y) (fun k hk => by simp [Value.ownBlock] at hk; subst hk; exact h.gF); simpa using this, h.gF, h.gR⟩
theorem RSt.put2 {w wx : World} {B K R F : Nat} {x0 x1 x2 y : Int} {g c : Nat} {xs : List Ev} (h : RSt w wx B K R F x0 x1 x2 g c xs) (hF : w.heap.size ≤ F) (hB : B < F) (hR : R ≠ F) : RSt w (wx.setCell ⟨F, 2, none⟩ (.int .i64 y)) B K R F x0 x1 y g c xs :=
  ⟨h.dk.set hF hB, h.res.other hR, h.box.set 2 _ rfl, by have := h.evs.setOther (G := F) (j := 2) (x := .int .i64 y) (fun k hk => by simp [Value.ownBlock] at hk; subst hk; exact h.gF); simpa using this, h.gF, h.gR⟩
theorem RSt.f3 {w wx : World} {B K R F : Nat} {x0 x1 x2 : Int} {g c : Nat} {xs : List Ev} (h : RSt w wx B K R F x0 x1 x2 g c xs) : wx.cell? ⟨F, 3, none⟩ = some (.slice (some ⟨g, 0, none⟩) xs.length c) := by have := h.box.cell 3; simpa using this
/-- One event more: the append, and the store into the box. -/
theorem RSt.fin {w wx w7 : World} {B K R F : Nat} {x0 x1 x2 a b : Int} {g c g' c' : Nat} {xs : List Ev} (h : RSt w wx B K R F x0 x1 x2 g c xs) (hB : B < w.heap.size) (hF : w.heap.size ≤ F) (hRF : R ≠ F)
    (hown : w7.ownsRow w.heap.size 174 2 (.slice (some ⟨g', 0, none⟩) (xs.length + 1) c') (xs.length + 1) ((xs.map evC).flatten ++ [.int .i64 a, .int .i64 b])) (hg : wx.grownBy w7 (Value.slice (some ⟨g, 0, none⟩) xs.length c).ownBlock) (hat : g' = g ∨ g' = wx.heap.size) (ha : inI a) (hb : inI b) :
    RSt w (w7.setCell ⟨F, 3, none⟩ (.slice (some ⟨g', 0, none⟩) (xs.length + 1) c')) B K R F x0 x1 x2 g' c' (xs ++ [⟨a, b⟩]) ∧ BxV w7 F [.int .i64 x0, .int .i64 x1, .int .i64 x2, .slice (some ⟨g, 0, none⟩) xs.length c] := by
  have hgF : g' ≠ F := by rcases hat with e | e; · rw [e]; exact h.gF
                          · have := h.box.lt; omega
  have hgR : g' ≠ R := by rcases hat with e | e; · rw [e]; exact h.gR
                          · have := h.res.lt; omega
  have hge : w.heap.size ≤ g := (h.evs.1.ge g rfl)
  have hb7 : BxV w7 F [.int .i64 x0, .int .i64 x1, .int .i64 x2, .slice (some ⟨g, 0, none⟩) xs.length c] := h.box.grown hg (by simp [Value.ownBlock]; exact fun e => h.gF e.symm)
  have hr7 : BxV w7 R [.int .i64 0, .int .i64 0, .int .i64 0, .slice none 0 0] := h.res.grown hg (by simp [Value.ownBlock]; exact fun e => h.gR e.symm)
  have hd7 : Dk w w7 B K := h.dk.app hg (fun k hk => by simp [Value.ownBlock] at hk; omega) hB
  have he7 := ev_snoc hown rfl h.evs.2.1 ha hb
  refine ⟨⟨hd7.set hF (by omega), hr7.other hRF, ?_, ?_, hgF, hgR⟩, hb7⟩
  · have := hb7.set (cs' := [.int .i64 x0, .int .i64 x1, .int .i64 x2, .slice (some ⟨g', 0, none⟩) (xs.length + 1) c']) 3 (.slice (some ⟨g', 0, none⟩) (xs.length + 1) c') rfl
    simpa using this
  · have := he7.setOther (G := F) (j := 3) (x := .slice (some ⟨g', 0, none⟩) (xs.length + 1) c') (fun k hk => by simp [Value.ownBlock] at hk; subst hk; exact hgF)
    simpa using this
set_option maxRecDepth 20000 in
set_option maxHeartbeats 8000000 in
theorem record_any (B K : Nat) (id : Int) (w : World) (h : Cur w B K) (hK : K ≤ 40000) (hid : inI id) :
    Calls Try.prog 101 #[.pointer (some ⟨B, 0, none⟩), .int .i64 id] w (RecordDrawn w B (K + 60)) := by
  obtain ⟨i0, hi, hz0, hz1, hz2⟩ := info_parts Try.info_event
  have hlt := h.lt
  obtain ⟨R, hR⟩ : ∃ R, w.heap.size = R := ⟨_, rfl⟩
  have HD0 : Hid (Dk w (w.alloc (.cells #[.int .i64 0, .int .i64 0, .int .i64 0, .slice none 0 0] 63 (0, 0))) B K) := Lib.hid ((Dk.start h).al _)
  have HR0 : Hid (BxV (w.alloc (.cells #[.int .i64 0, .int .i64 0, .int .i64 0, .slice none 0 0] 63 (0, 0))) R [.int .i64 0, .int .i64 0, .int .i64 0, .slice none 0 0]) := Lib.hid (BxV.new' hR _ _)
  have hRB : B < R := by omega
  have hwR : w.heap.size ≤ R := by omega
  clear h
  have HRE := Lib.hid hR
  clear hR
  go_enter Try.func101, Try.ntmps101
  go_upto_region 1 with fail
  try rw [HRE.out]
  generalize hW0 : w.alloc (.cells #[.int .i64 0, .int .i64 0, .int .i64 0, .slice none 0 0] 63 (0, 0)) = W0 at *
  have HW0 := Lib.hid hW0
  clear hW0
  go_wp2_with fail
  refine (amongZ_any B (K + 0) W0.heap.size 0 6 6 [1, 2, 3, 3, 7, 99] _ (HD0.out.al (.cells (([1, 2, 3, 3, 7, 99] : List Int).map (Value.int .i64)).toArray 3)).cur (by omega) rfl (by omega) (by omega) (by have := HD0.out.cur.lt; omega) (new_nums W0 [1, 2, 3, 3, 7, 99] 3 _ rfl)).mono ?_
  rintro e w1 ⟨x1, rfl, mx1, hc, hg⟩
  have HD1 := Lib.hid ((HD0.out.al (.cells (([1, 2, 3, 3, 7, 99] : List Int).map (Value.int .i64)).toArray 3)).step hc hg)
  have HR0_1 := Lib.hid ((HR0.out.al (.cells (([1, 2, 3, 3, 7, 99] : List Int).map (Value.int .i64)).toArray 3)).grown hg (by simp; omega))
  clear hc hg HD0 HR0
  have bx1 : 1 ≤ x1 ∧ x1 ≤ 99 := by simp at mx1; omega
  have ix1 : inI x1 := by unfold inI; omega
  clear mx1
  go_wp2_with fail
  refine (amongZ_any B (K + 2) w1.heap.size 0 5 5 [0, 100, 100, 500, 3000] _ (HD1.out.al (.cells (([0, 100, 100, 500, 3000] : List Int).map (Value.int .i64)).toArray 3)).cur (by omega) rfl (by omega) (by omega) (by have := HD1.out.cur.lt; omega) (new_nums w1 [0, 100, 100, 500, 3000] 3 _ rfl)).mono ?_
  rintro e w2 ⟨x2, rfl, mx2, hc, hg⟩
  have HD2 := Lib.hid ((HD1.out.al (.cells (([0, 100, 100, 500, 3000] : List Int).map (Value.int .i64)).toArray 3)).step hc hg)
  have HR0_2 := Lib.hid ((HR0_1.out.al (.cells (([0, 100, 100, 500, 3000] : List Int).map (Value.int .i64)).toArray 3)).grown hg (by simp; omega))
  clear hc hg HD1 HR0_1
  have bx2 : 0 ≤ x2 ∧ x2 ≤ 3000 := by simp at mx2; omega
  have ix2 : inI x2 := by unfold inI; omega
  clear mx2
  obtain ⟨L, hL⟩ : ∃ L, w2.heap.size = L := ⟨_, rfl⟩
  obtain ⟨F, hF⟩ : ∃ F, L + 1 = F := ⟨_, rfl⟩
  have hwL : w.heap.size ≤ L := by rw [← hL]; exact HD2.out.sz
  have hRL : R < L := by rw [← hL]; exact HR0_2.out.lt
  have hwF : w.heap.size ≤ F := by omega
  have hRF : R ≠ F := by omega
  have hBF : B < F := by omega
  have hs1 : (w2.alloc (.cells #[] 174 (0, 0))).heap.size = F := by rw [← hF, ← hL]; simp
  have HS9 : Hid (RSt w ((w2.alloc (.cells #[] 174 (0, 0))).alloc (.cells #[.int .i64 id, .int .i64 x1, .int .i64 x2, .slice (some ⟨L, 0, none⟩) 0 0] 63 (0, 0))) B (K + 4) R F id x1 x2 L 0 []) := Lib.hid ⟨(HD2.out.al _).al _, (HR0_2.out.al _).al _, BxV.new' hs1 _ _, by
    have h1 := (EvsO.empty' (lo := w.heap.size) hL hwL).below (below_al (Below.refl _ _) (.cells #[.int .i64 id, .int .i64 x1, .int .i64 x2, .slice (some ⟨L, 0, none⟩) 0 0] 63 (0, 0)))
    exact h1.wide (Nat.le_refl _) (by simp), by omega, by omega⟩
  clear HD2 HR0_2 hs1
  go_upto_region 2 with fail
  try rw [hL]
  try rw [hF]
  have HLE := Lib.hid hL
  clear hL
  generalize hW9 : (w2.alloc (.cells #[] 174 (0, 0))).alloc (.cells #[.int .i64 id, .int .i64 x1, .int .i64 x2, .slice (some ⟨L, 0, none⟩) 0 0] 63 (0, 0)) = W9 at *
  have HW9 := Lib.hid hW9
  clear hW9
  go_wp2_with fail
  go_loopw [6] (fun kk wr => ∃ (k g c : Nat) (xs : List Ev), 1 ≤ k ∧ k ≤ 7 ∧ kk = .int .i64 k ∧ xs.length + 1 ≤ k ∧ Hid (RSt w wr B (K + 4 + 4 * k) R F id x1 x2 g c xs)) (fun kk _ => 7 - (intOf kk).toNat)
  case atStart => exact ⟨1, L, 0, [], by omega, by omega, rfl, by simp, Lib.hid (HS9.out.le (by omega))⟩
  case round =>
    clear HS9
    obtain ⟨k, g, c, xs, hk1, hk7, rfl, hxl, HS⟩ := hrel
    have hkp : IntKind.i64.wrap ((k : Int) + 1) = (k : Int) + 1 := Go.IntWalk.i64_in _ (by omega)
    by_cases hq : k ≤ 6
    · have hq1 : decide ((k : Int) ≤ 6) = true := decide_eq_true (by omega)
      have hq2 : (k : Int) ≤ 6 := by omega
      go_wp2_with fail
      refine (one_any B (K + 4 + 4 * k) 3 _ HS.out.dk.cur (by omega) (by omega) (by omega)).mono ?_
      rintro e w2 ⟨b, rfl, hc, hg⟩
      have HS2 := Lib.hid (HS.out.step hlt hwR hwF hc hg)
      clear hc hg HS
      cases b
      · go_wp2_with fail
        go_roundw
        case rel => exact ⟨k + 1, g, c, xs, by omega, by omega, by go_num, by omega, Lib.hid (HS2.out.le (by omega))⟩
        case measure => simp [intOf]; omega
      · have HSd := Lib.hid HS2.out.drew
        have f2 := HS2.out.box.cell 2
        have f3 := HS2.out.box.cell 3
        have ff := HS2.out.box.frozen 3
        simp at f2 f3
        have f2x : ∀ o, (w2.alloc o).cell? ⟨F, 2, none⟩ = some (.int .i64 x2) := fun o => below_al_cell f2 o
        have f3x : ∀ o, (w2.alloc o).cell? ⟨F, 3, none⟩ = some (.slice (some ⟨g, 0, none⟩) xs.length c) := fun o => below_al_cell f3 o
        go_upto_region 6 with fail
        go_region_law (first | (go_simp; go_at_call 77; refine (amongZ_any B (K + 4 + 4 * k + 2 + 0) w2.heap.size 0 5 5 [0, 1, 30, 365, 1000] _ ((HS2.out.al (.cells (([0, 1, 30, 365, 1000] : List Int).map (Value.int .i64)).toArray 3)).drew).dk.cur (by omega) rfl (by omega) (by omega) (by have := HS2.out.dk.cur.lt; have := HS2.out.dk.sz; omega) (new_nums w2 [0, 1, 30, 365, 1000] 3 _ rfl)).mono ?_; rintro e wa1 ⟨r, rfl, mr, hc, hg⟩; have HS1_ := Lib.hid (((HS2.out.al (.cells (([0, 1, 30, 365, 1000] : List Int).map (Value.int .i64)).toArray 3)).drew).step hlt hwR hwF hc hg); have br : 0 ≤ r ∧ r ≤ 1000 := (by simp at mr; omega); have g2_1 := HS1_.out.box.cell 2; have g3_1 := HS1_.out.box.cell 3; have gf_1 := HS1_.out.box.frozen 3; simp at g2_1 g3_1; have g2x_1 : ∀ o, (wa1.alloc o).cell? ⟨F, 2, none⟩ = some (.int .i64 x2) := (fun o => below_al_cell g2_1 o); have g3x_1 : ∀ o, (wa1.alloc o).cell? ⟨F, 3, none⟩ = some (.slice (some ⟨g, 0, none⟩) xs.length c) := (fun o => below_al_cell g3_1 o); have hwr : IntKind.i64.wrap (x2 + r) = x2 + r := Go.IntWalk.i64_in _ (by omega); clear hc hg mr) | (rw [if_pos (by rfl)]; refine wp_append_at _ _ _ _ rfl w.heap.size 174 i0 (.agg #[.int .i64 0, .int .i64 0]) 2 16 Try.underlying61 hi hz0 hz1 hz2 rfl (by decide) (.slice (some ⟨g, 0, none⟩) xs.length c) xs.length ((xs.map evC).flatten) (by rfl) (by exact (HS1_.out.al (.cells #[.int .i64 ((k : Int)), .int .i64 (x2 + r)] 174 (0, 0))).evs.ownR) ⟨wa1.heap.size, 0, none⟩ 1 1 [.int .i64 ((k : Int)), .int .i64 (x2 + r)] (by rfl) rfl (by exact two_new rfl) (by simp [Value.oneCell']) (by unfold maxLen; omega) (by omega) (by have := HS1_.out.dk.sz; simp; omega) ?_; intro v' w7 hown' hgrow hat; obtain ⟨g', c', rfl, hge⟩ := own_form hown' (Nat.succ_pos _); have hat2 : g' = g ∨ g' = (wa1.alloc (.cells #[.int .i64 ((k : Int)), .int .i64 (x2 + r)] 174 (0, 0))).heap.size := (by simpa [Value.ownBlock] using hat); have HZ := Lib.hid ((HS1_.out.al (.cells #[.int .i64 ((k : Int)), .int .i64 (x2 + r)] 174 (0, 0))).fin hlt hwF hRF hown' hgrow hat2 (by unfold inI; omega) (by unfold inI; omega)); have h2_7 := HZ.out.2.cell 2; have h3_7 := HZ.out.2.cell 3; have hf_7 := HZ.out.2.frozen 3; simp at h2_7 h3_7; clear hown' hgrow hat hat2))
        all_goals
          go_wp2_with fail
          go_roundw
          case rel => exact ⟨k + 1, g', c', xs ++ [⟨(k : Int), x2 + r⟩], by omega, by omega, by go_num, by simp; omega, Lib.hid (HZ.out.1.le (K' := K + 4 + 4 * (k + 1)) (by omega))⟩
          case measure => simp [intOf]; omega
    · obtain ⟨M, hM⟩ : ∃ M, K + 4 + 4 * k = M := ⟨_, rfl⟩
      rw [hM] at HS
      have hM2 : M ≤ K + 40 := by omega
      clear hM hkp
      have hq3 : ¬ (k : Int) ≤ 6 := by omega
      have hq4 : decide ((k : Int) ≤ 6) = false := decide_eq_false hq3
      have hxl6 : xs.length ≤ 6 := by omega
      clear hxl hk1 hk7 hq
      go_upto_block 2 with (first | (go_at_call 81; refine (pick_any B M 48 _ HS.out.dk.cur (by omega) (by omega) (by omega)).mono ?_; rintro e w2 ⟨m, rfl, hm0, hm1, hc, hg⟩; have HS2 := Lib.hid (HS.out.step hlt hwR hwF hc hg); clear hc hg HS))
      go_cut [5] from 6 to 63 (fun q wx => q = .pointer (some ⟨F, 0, none⟩) ∧ ∃ (y1 y2 : Int) (g c : Nat) (xs : List Ev), xs.length ≤ 7 ∧ inI y1 ∧ (-1 ≤ y2 ∧ y2 ≤ 20001) ∧ Hid (RSt w wx B (M + 8) R F id y1 y2 g c xs))
      case first =>
        by_cases e0 : m = 0
        · subst e0
          go_wp2_with fail
          refine (amongZ_any B (M + 2) w2.heap.size 0 2 2 [0, 100] _ (HS2.out.al (.cells (([0, 100] : List Int).map (Value.int .i64)).toArray 3)).dk.cur (by omega) rfl (by omega) (by omega) (by have := HS2.out.dk.cur.lt; have := HS2.out.dk.sz; omega) (new_nums w2 [0, 100] 3 _ rfl)).mono ?_
          rintro e w3 ⟨r, rfl, mr, hc, hg⟩
          have HS3 := Lib.hid ((HS2.out.al (.cells (([0, 100] : List Int).map (Value.int .i64)).toArray 3)).step hlt hwR hwF hc hg)
          have br : 0 ≤ r ∧ r ≤ 100 := by simp at mr; omega
          have fc := HS3.out.box.cell 1
          have ff := HS3.out.box.frozen 1
          simp at fc
          clear hc hg mr HS2
          go_wp2_with fail
          go_meet
          exact ⟨rfl, r, x2, g, c, xs, by omega, by unfold inI; omega, by omega, Lib.hid ((HS3.out.put1 hwF hBF hRF).le (by omega))⟩
        · have b0 : (m == 0) = false := beq_eq_false_iff_ne.2 e0
          by_cases e1 : m = 1
          · subst e1
            go_wp2_with fail
            refine (amongZ_any B (M + 2) w2.heap.size 0 3 3 [-1, 20001, 19999] _ (HS2.out.al (.cells (([-1, 20001, 19999] : List Int).map (Value.int .i64)).toArray 3)).dk.cur (by omega) rfl (by omega) (by omega) (by have := HS2.out.dk.cur.lt; have := HS2.out.dk.sz; omega) (new_nums w2 [-1, 20001, 19999] 3 _ rfl)).mono ?_
            rintro e w3 ⟨r, rfl, mr, hc, hg⟩
            have HS3 := Lib.hid ((HS2.out.al (.cells (([-1, 20001, 19999] : List Int).map (Value.int .i64)).toArray 3)).step hlt hwR hwF hc hg)
            have br : -1 ≤ r ∧ r ≤ 20001 := by simp at mr; omega
            have fc := HS3.out.box.cell 2
            have ff := HS3.out.box.frozen 2
            simp at fc
            clear hc hg mr HS2
            go_wp2_with fail
            go_meet
            exact ⟨rfl, x1, r, g, c, xs, by omega, ix1, by omega, Lib.hid ((HS3.out.put2 hwF hBF hRF).le (by omega))⟩
          · have b1 : (m == 1) = false := beq_eq_false_iff_ne.2 e1
            by_cases e2 : m = 2
            · subst e2
              go_upto_region 13 with fail
              have HSd := Lib.hid HS2.out.drew
              refine wp_region_held_drew (S := (fun _ : World => True)) (by kernel_rfl) trivial (fun hHeld => ?_)
              refine gen_dr (W := w2) ?_
              intro V0 hV0 hz0
              have HS0_ := Lib.hid (by rw [hV0]; exact HSd.out : RSt w V0 B (M + 2 + 0) R F id x1 x2 g c xs)
              replace hHeld : (fun _ : World => True) V0 := trivial
              clear hV0 hz0 HSd HS2
              refine wpAnyH_take (i := 0) (v := ?_) rfl (by kernel_rfl) (by kernel_rfl) (by kernel_rfl) (fun _ _ _ h => h) (Or.inl ⟨by rfl, ?_⟩) (by assumption) ?_
              rotate_left
              · (intro w hSw; (try dsimp only at hSw); go_simp; first | done | with_reducible rfl)
              (try simp only [Act.put, List.setIfInBounds_toArray, List.set_cons_zero, List.set_cons_succ, List.getElem_toArray, List.getElem_cons_succ, List.getElem_cons_zero])
              refine wpAnyH_take (i := 2) (v := ?_) rfl (by kernel_rfl) (by kernel_rfl) (by kernel_rfl) (fun _ _ _ h => h) (Or.inl ⟨by rfl, ?_⟩) (by assumption) ?_
              rotate_left
              · (intro w hSw; (try dsimp only at hSw); go_simp; first | done | with_reducible rfl)
              (try simp only [Act.put, List.setIfInBounds_toArray, List.set_cons_zero, List.set_cons_succ, List.getElem_toArray, List.getElem_cons_succ, List.getElem_cons_zero])
              refine wpAnyH_take (i := 5) (v := ?_) rfl (by kernel_rfl) (by kernel_rfl) (by kernel_rfl) (fun _ _ _ h => h) (Or.inl ⟨by rfl, ?_⟩) (by assumption) ?_
              rotate_left
              · (intro w hSw; (try dsimp only at hSw); go_simp; first | done | with_reducible rfl)
              (try simp only [Act.put, List.setIfInBounds_toArray, List.set_cons_zero, List.set_cons_succ, List.getElem_toArray, List.getElem_cons_succ, List.getElem_cons_zero])
              refine wpAnyH_ready (rs := [1, 3, 6]) (by kernel_rfl) (by simp) ?_
              refine AllReadyH.cons rfl (fun K hK => ?_) (AllReadyH.cons rfl (fun K hK => ?_) (AllReadyH.cons rfl (fun K hK => ?_) AllReadyH.nil))
              · have f3_1 := HS0_.out.f3
                go_simp
                refine hK.out _ _ trivial (fun hHeld => ?_)
                clear hK K f3_1
                (try simp only [Act.put, List.setIfInBounds_toArray, List.set_cons_zero, List.set_cons_succ, List.getElem_toArray, List.getElem_cons_succ, List.getElem_cons_zero])
                refine wpAnyH_ready (rs := [3, 6]) (by kernel_rfl) (by simp) ?_
                refine AllReadyH.cons rfl (fun K hK => ?_) (AllReadyH.cons rfl (fun K hK => ?_) AllReadyH.nil)
                · go_simp
                  refine hK.out _ _ trivial (fun hHeld => ?_)
                  clear hK K hHeld
                  (try simp only [Act.put, List.setIfInBounds_toArray, List.set_cons_zero, List.set_cons_succ, List.getElem_toArray, List.getElem_cons_succ, List.getElem_cons_zero])
                  refine gen_al (W := V0) ?_
                  intro V2 hWn
                  have HS2_ := Lib.hid (by rw [hWn]; exact HS0_.out.al _ : RSt w V2 B (M + 2 + 0) R F id x1 x2 g c xs)
                  have HL2_3 : Hid (NL V2 V0.heap.size [1, 9, 10]) := Lib.hid (by rw [hWn]; exact new_nums V0 [1, 9, 10] 3 _ rfl)
                  have HN2_3 : Hid (V0.heap.size ≠ B) := Lib.hid (by have := HS0_.out.dk.cur.lt; omega)
                  have hHeld : (fun _ : World => True) V2 := trivial
                  clear hWn HS0_
                  refine wpAnyH_ready (rs := [4, 6]) (by kernel_rfl) (by simp) ?_
                  refine AllReadyH.cons rfl (fun K hK => ?_) (AllReadyH.cons rfl (fun K hK => ?_) AllReadyH.nil)
                  · go_simp
                    go_at_call 77
                    refine (amongZ_any B (M + 2 + 0) V0.heap.size 0 3 3 [1, 9, 10] _ HS2_.out.dk.cur (by omega) rfl (by omega) (by omega) HN2_3.out HL2_3.out).mono ?_
                    rintro e V3 ⟨ra, rfl, mra, hc, hg⟩
                    have bra : 1 ≤ ra ∧ ra ≤ 10 := by simp at mra; omega
                    clear mra
                    have HS3_ := Lib.hid (HS2_.out.step hlt hwR hwF hc hg)
                    clear hc hg HS2_ HL2_3
                    (try go_wp2_with fail)
                    refine hK.out _ _ trivial (fun hHeld => ?_)
                    clear hK K
                    (try simp only [Act.put, List.setIfInBounds_toArray, List.set_cons_zero, List.set_cons_succ, List.getElem_toArray, List.getElem_cons_succ, List.getElem_cons_zero])
                    refine wpAnyH_ready (rs := [6]) (by kernel_rfl) (by simp) ?_
                    refine AllReadyH.cons rfl (fun K hK => ?_) AllReadyH.nil
                    · go_simp
                      refine hK.out _ _ trivial (fun hHeld => ?_)
                      clear hK K hHeld
                      (try simp only [Act.put, List.setIfInBounds_toArray, List.set_cons_zero, List.set_cons_succ, List.getElem_toArray, List.getElem_cons_succ, List.getElem_cons_zero])
                      refine gen_al (W := V3) ?_
                      intro V4 hWn
                      have HS4_ := Lib.hid (by rw [hWn]; exact HS3_.out.al _ : RSt w V4 B (M + 2 + 2) R F id x1 x2 g c xs)
                      have HL4_6 : Hid (NL V4 V3.heap.size [0, 20000]) := Lib.hid (by rw [hWn]; exact new_nums V3 [0, 20000] 3 _ rfl)
                      have HN4_6 : Hid (V3.heap.size ≠ B) := Lib.hid (by have := HS3_.out.dk.cur.lt; omega)
                      have hHeld : (fun _ : World => True) V4 := trivial
                      clear hWn HS3_
                      refine wpAnyH_ready (rs := [7]) (by kernel_rfl) (by simp) ?_
                      refine AllReadyH.cons rfl (fun K hK => ?_) AllReadyH.nil
                      · go_simp
                        go_at_call 77
                        refine (amongZ_any B (M + 2 + 2) V3.heap.size 0 2 2 [0, 20000] _ HS4_.out.dk.cur (by omega) rfl (by omega) (by omega) HN4_6.out HL4_6.out).mono ?_
                        rintro e V5 ⟨rb, rfl, mrb, hc, hg⟩
                        have brb : 0 ≤ rb ∧ rb ≤ 20000 := by simp at mrb; omega
                        clear mrb
                        have HS5_ := Lib.hid (HS4_.out.step hlt hwR hwF hc hg)
                        clear hc hg HS4_ HL4_6
                        (try go_wp2_with fail)
                        refine hK.out _ _ trivial (fun hHeld => ?_)
                        clear hK K
                        (try simp only [Act.put, List.setIfInBounds_toArray, List.set_cons_zero, List.set_cons_succ, List.getElem_toArray, List.getElem_cons_succ, List.getElem_cons_zero])
                        refine wpAnyH_take (i := 8) (v := ?_) rfl (by kernel_rfl) (by kernel_rfl) (by kernel_rfl) (fun _ _ _ h => h) (Or.inl ⟨by rfl, ?_⟩) (by assumption) ?_
                        rotate_left
                        · (intro w hSw; (try dsimp only at hSw); go_simp; first | done | with_reducible rfl)
                        (try simp only [Act.put, List.setIfInBounds_toArray, List.set_cons_zero, List.set_cons_succ, List.getElem_toArray, List.getElem_cons_succ, List.getElem_cons_zero])
                        refine wpAnyH_ready (rs := [9]) (by kernel_rfl) (by simp) ?_
                        refine AllReadyH.cons rfl (fun K hK => ?_) AllReadyH.nil
                        · go_simp
                          refine hK.out _ _ trivial (fun hHeld => ?_)
                          clear hK K hHeld
                          (try simp only [Act.put, List.setIfInBounds_toArray, List.set_cons_zero, List.set_cons_succ, List.getElem_toArray, List.getElem_cons_succ, List.getElem_cons_zero])
                          refine gen_al (W := V5) ?_
                          intro V6 hWn
                          have HS6_ := Lib.hid (by rw [hWn]; exact HS5_.out.al _ : RSt w V6 B (M + 2 + 4) R F id x1 x2 g c xs)
                          have HE6 : Hid (∀ j u, ([.int .i64 ra, .int .i64 rb] : List Value)[j]? = some u → V6.cell? ((⟨V5.heap.size, 0, none⟩ : Addr).add j) = some u) := Lib.hid (by rw [hWn]; exact two_new rfl)
                          have hHeld : (fun _ : World => True) V6 := trivial
                          clear hWn HS5_
                          refine wpAnyH_ready (rs := [10]) (by kernel_rfl) (by simp) ?_
                          refine AllReadyH.cons rfl (fun K hK => ?_) AllReadyH.nil
                          rw [if_pos (by rfl)]
                          refine wp_append_at _ _ _ _ rfl w.heap.size 174 i0 (.agg #[.int .i64 0, .int .i64 0]) 2 16 Try.underlying61 hi hz0 hz1 hz2 rfl (by decide) (.slice (some ⟨g, 0, none⟩) xs.length c) xs.length ((xs.map evC).flatten) (by rfl) (by exact HS6_.out.evs.ownR) ⟨V5.heap.size, 0, none⟩ 1 1 [.int .i64 ra, .int .i64 rb] (by rfl) rfl HE6.out (by simp [Value.oneCell']) (by unfold maxLen; omega) (by omega) (by have := HS6_.out.dk.sz; omega) ?_
                          intro v' w7 hown' hgrow hat
                          obtain ⟨g', c', rfl, hge⟩ := own_form hown' (Nat.succ_pos _)
                          have hat2 : g' = g ∨ g' = V6.heap.size := by simpa [Value.ownBlock] using hat
                          have HZ := Lib.hid (HS6_.out.fin hlt hwF hRF hown' hgrow hat2 (by unfold inI; omega) (by unfold inI; omega))
                          have h2_7 := HZ.out.2.cell 2
                          have h3_7 := HZ.out.2.cell 3
                          have hf_7 := HZ.out.2.frozen 3
                          simp at h2_7 h3_7
                          clear hown' hgrow hat hat2
                          refine hK.out _ _ trivial (fun hHeld => ?_)
                          clear hK K
                          (try simp only [Act.put, List.setIfInBounds_toArray, List.set_cons_zero, List.set_cons_succ, List.getElem_toArray, List.getElem_cons_succ, List.getElem_cons_zero])
                          refine wpAnyH_take (i := 11) (v := ?_) rfl (by kernel_rfl) (by kernel_rfl) (by kernel_rfl) (fun _ _ _ h => h) (Or.inl ⟨by rfl, ?_⟩) (by assumption) ?_
                          rotate_left
                          · (intro w hSw; (try dsimp only at hSw); go_simp; first | done | with_reducible rfl)
                          (try simp only [Act.put, List.setIfInBounds_toArray, List.set_cons_zero, List.set_cons_succ, List.getElem_toArray, List.getElem_cons_succ, List.getElem_cons_zero])
                          refine wpAnyH_ready (rs := [12]) (by kernel_rfl) (by simp) ?_
                          refine AllReadyH.cons rfl (fun K hK => ?_) AllReadyH.nil
                          go_simp
                          refine hK.out _ _ trivial (fun hHeld => ?_)
                          clear hK K
                          (try simp only [Act.put, List.setIfInBounds_toArray, List.set_cons_zero, List.set_cons_succ, List.getElem_toArray, List.getElem_cons_succ, List.getElem_cons_zero])
                          refine wpAnyH_done (by kernel_rfl) ?_ _
                          (try go_wp2_with fail)
                          go_meet
                          exact ⟨rfl, x1, x2, g', c', xs ++ [⟨ra, rb⟩], by simp; omega, ix1, by omega, Lib.hid (HZ.out.1.le (by omega))⟩
                  · go_simp
                    refine hK.out _ _ trivial (fun hHeld => ?_)
                    clear hK K hHeld
                    (try simp only [Act.put, List.setIfInBounds_toArray, List.set_cons_zero, List.set_cons_succ, List.getElem_toArray, List.getElem_cons_succ, List.getElem_cons_zero])
                    refine gen_al (W := V2) ?_
                    intro V7 hWn
                    have HS7_ := Lib.hid (by rw [hWn]; exact HS2_.out.al _ : RSt w V7 B (M + 2 + 0) R F id x1 x2 g c xs)
                    have HL7_3 : Hid (NL V7 V0.heap.size [1, 9, 10]) := Lib.hid (by rw [hWn]; exact HL2_3.out.al _)
                    have HL7_6 : Hid (NL V7 V2.heap.size [0, 20000]) := Lib.hid (by rw [hWn]; exact new_nums V2 [0, 20000] 3 _ rfl)
                    have HN7_6 : Hid (V2.heap.size ≠ B) := Lib.hid (by have := HS2_.out.dk.cur.lt; omega)
                    have hHeld : (fun _ : World => True) V7 := trivial
                    clear hWn HS2_ HL2_3
                    refine wpAnyH_ready (rs := [4]) (by kernel_rfl) (by simp) ?_
                    refine AllReadyH.cons rfl (fun K hK => ?_) AllReadyH.nil
                    · go_simp
                      go_at_call 77
                      refine (amongZ_any B (M + 2 + 0) V0.heap.size 0 3 3 [1, 9, 10] _ HS7_.out.dk.cur (by omega) rfl (by omega) (by omega) HN2_3.out HL7_3.out).mono ?_
                      rintro e V8 ⟨ra, rfl, mra, hc, hg⟩
                      have bra : 1 ≤ ra ∧ ra ≤ 10 := by simp at mra; omega
                      clear mra
                      have HS8_ := Lib.hid (HS7_.out.step hlt hwR hwF hc hg)
                      have HL8_6 : Hid (NL V8 V2.heap.size [0, 20000]) := Lib.hid (HL7_6.out.grown hg HN7_6.out)
                      clear hc hg HS7_ HL7_3 HL7_6
                      (try go_wp2_with fail)
                      refine hK.out _ _ trivial (fun hHeld => ?_)
                      clear hK K
                      (try simp only [Act.put, List.setIfInBounds_toArray, List.set_cons_zero, List.set_cons_succ, List.getElem_toArray, List.getElem_cons_succ, List.getElem_cons_zero])
                      refine wpAnyH_ready (rs := [7]) (by kernel_rfl) (by simp) ?_
                      refine AllReadyH.cons rfl (fun K hK => ?_) AllReadyH.nil
                      · go_simp
                        go_at_call 77
                        refine (amongZ_any B (M + 2 + 2) V2.heap.size 0 2 2 [0, 20000] _ HS8_.out.dk.cur (by omega) rfl (by omega) (by omega) HN7_6.out HL8_6.out).mono ?_
                        rintro e V9 ⟨rb, rfl, mrb, hc, hg⟩
                        have brb : 0 ≤ rb ∧ rb ≤ 20000 := by simp at mrb; omega
                        clear mrb
                        have HS9_ := Lib.hid (HS8_.out.step hlt hwR hwF hc hg)
                        clear hc hg HS8_ HL8_6
                        (try go_wp2_with fail)
                        refine hK.out _ _ trivial (fun hHeld => ?_)
                        clear hK K
                        (try simp only [Act.put, List.setIfInBounds_toArray, List.set_cons_zero, List.set_cons_succ, List.getElem_toArray, List.getElem_cons_succ, List.getElem_cons_zero])
                        refine wpAnyH_take (i := 8) (v := ?_) rfl (by kernel_rfl) (by kernel_rfl) (by kernel_rfl) (fun _ _ _ h => h) (Or.inl ⟨by rfl, ?_⟩) (by assumption) ?_
                        rotate_left
                        · (intro w hSw; (try dsimp only at hSw); go_simp; first | done | with_reducible rfl)
                        (try simp only [Act.put, List.setIfInBounds_toArray, List.set_cons_zero, List.set_cons_succ, List.getElem_toArray, List.getElem_cons_succ, List.getElem_cons_zero])
                        refine wpAnyH_ready (rs := [9]) (by kernel_rfl) (by simp) ?_
                        refine AllReadyH.cons rfl (fun K hK => ?_) AllReadyH.nil
                        · go_simp
                          refine hK.out _ _ trivial (fun hHeld => ?_)
                          clear hK K hHeld
                          (try simp only [Act.put, List.setIfInBounds_toArray, List.set_cons_zero, List.set_cons_succ, List.getElem_toArray, List.getElem_cons_succ, List.getElem_cons_zero])
                          refine gen_al (W := V9) ?_
                          intro V10 hWn
                          have HS10_ := Lib.hid (by rw [hWn]; exact HS9_.out.al _ : RSt w V10 B (M + 2 + 4) R F id x1 x2 g c xs)
                          have HE10 : Hid (∀ j u, ([.int .i64 ra, .int .i64 rb] : List Value)[j]? = some u → V10.cell? ((⟨V9.heap.size, 0, none⟩ : Addr).add j) = some u) := Lib.hid (by rw [hWn]; exact two_new rfl)
                          have hHeld : (fun _ : World => True) V10 := trivial
                          clear hWn HS9_
                          refine wpAnyH_ready (rs := [10]) (by kernel_rfl) (by simp) ?_
                          refine AllReadyH.cons rfl (fun K hK => ?_) AllReadyH.nil
                          rw [if_pos (by rfl)]
                          refine wp_append_at _ _ _ _ rfl w.heap.size 174 i0 (.agg #[.int .i64 0, .int .i64 0]) 2 16 Try.underlying61 hi hz0 hz1 hz2 rfl (by decide) (.slice (some ⟨g, 0, none⟩) xs.length c) xs.length ((xs.map evC).flatten) (by rfl) (by exact HS10_.out.evs.ownR) ⟨V9.heap.size, 0, none⟩ 1 1 [.int .i64 ra, .int .i64 rb] (by rfl) rfl HE10.out (by simp [Value.oneCell']) (by unfold maxLen; omega) (by omega) (by have := HS10_.out.dk.sz; omega) ?_
                          intro v' w7 hown' hgrow hat
                          obtain ⟨g', c', rfl, hge⟩ := own_form hown' (Nat.succ_pos _)
                          have hat2 : g' = g ∨ g' = V10.heap.size := by simpa [Value.ownBlock] using hat
                          have HZ := Lib.hid (HS10_.out.fin hlt hwF hRF hown' hgrow hat2 (by unfold inI; omega) (by unfold inI; omega))
                          have h2_7 := HZ.out.2.cell 2
                          have h3_7 := HZ.out.2.cell 3
                          have hf_7 := HZ.out.2.frozen 3
                          simp at h2_7 h3_7
                          clear hown' hgrow hat hat2
                          refine hK.out _ _ trivial (fun hHeld => ?_)
                          clear hK K
                          (try simp only [Act.put, List.setIfInBounds_toArray, List.set_cons_zero, List.set_cons_succ, List.getElem_toArray, List.getElem_cons_succ, List.getElem_cons_zero])
                          refine wpAnyH_take (i := 11) (v := ?_) rfl (by kernel_rfl) (by kernel_rfl) (by kernel_rfl) (fun _ _ _ h => h) (Or.inl ⟨by rfl, ?_⟩) (by assumption) ?_
                          rotate_left
                          · (intro w hSw; (try dsimp only at hSw); go_simp; first | done | with_reducible rfl)
                          (try simp only [Act.put, List.setIfInBounds_toArray, List.set_cons_zero, List.set_cons_succ, List.getElem_toArray, List.getElem_cons_succ, List.getElem_cons_zero])
                          refine wpAnyH_ready (rs := [12]) (by kernel_rfl) (by simp) ?_
                          refine AllReadyH.cons rfl (fun K hK => ?_) AllReadyH.nil
                          go_simp
                          refine hK.out _ _ trivial (fun hHeld => ?_)
                          clear hK K
                          (try simp only [Act.put, List.setIfInBounds_toArray, List.set_cons_zero, List.set_cons_succ, List.getElem_toArray, List.getElem_cons_succ, List.getElem_cons_zero])
                          refine wpAnyH_done (by kernel_rfl) ?_ _
                          (try go_wp2_with fail)
                          go_meet
                          exact ⟨rfl, x1, x2, g', c', xs ++ [⟨ra, rb⟩], by simp; omega, ix1, by omega, Lib.hid (HZ.out.1.le (by omega))⟩
                · go_simp
                  refine hK.out _ _ trivial (fun hHeld => ?_)
                  clear hK K hHeld
                  (try simp only [Act.put, List.setIfInBounds_toArray, List.set_cons_zero, List.set_cons_succ, List.getElem_toArray, List.getElem_cons_succ, List.getElem_cons_zero])
                  refine gen_al (W := V0) ?_
                  intro V11 hWn
                  have HS11_ := Lib.hid (by rw [hWn]; exact HS0_.out.al _ : RSt w V11 B (M + 2 + 0) R F id x1 x2 g c xs)
                  have HL11_6 : Hid (NL V11 V0.heap.size [0, 20000]) := Lib.hid (by rw [hWn]; exact new_nums V0 [0, 20000] 3 _ rfl)
                  have HN11_6 : Hid (V0.heap.size ≠ B) := Lib.hid (by have := HS0_.out.dk.cur.lt; omega)
                  have hHeld : (fun _ : World => True) V11 := trivial
                  clear hWn HS0_
                  refine wpAnyH_ready (rs := [3]) (by kernel_rfl) (by simp) ?_
                  refine AllReadyH.cons rfl (fun K hK => ?_) AllReadyH.nil
                  · go_simp
                    refine hK.out _ _ trivial (fun hHeld => ?_)
                    clear hK K hHeld
                    (try simp only [Act.put, List.setIfInBounds_toArray, List.set_cons_zero, List.set_cons_succ, List.getElem_toArray, List.getElem_cons_succ, List.getElem_cons_zero])
                    refine gen_al (W := V11) ?_
                    intro V12 hWn
                    have HS12_ := Lib.hid (by rw [hWn]; exact HS11_.out.al _ : RSt w V12 B (M + 2 + 0) R F id x1 x2 g c xs)
                    have HL12_6 : Hid (NL V12 V0.heap.size [0, 20000]) := Lib.hid (by rw [hWn]; exact HL11_6.out.al _)
                    have HL12_3 : Hid (NL V12 V11.heap.size [1, 9, 10]) := Lib.hid (by rw [hWn]; exact new_nums V11 [1, 9, 10] 3 _ rfl)
                    have HN12_3 : Hid (V11.heap.size ≠ B) := Lib.hid (by have := HS11_.out.dk.cur.lt; omega)
                    have hHeld : (fun _ : World => True) V12 := trivial
                    clear hWn HS11_ HL11_6
                    refine wpAnyH_ready (rs := [4]) (by kernel_rfl) (by simp) ?_
                    refine AllReadyH.cons rfl (fun K hK => ?_) AllReadyH.nil
                    · go_simp
                      go_at_call 77
                      refine (amongZ_any B (M + 2 + 0) V11.heap.size 0 3 3 [1, 9, 10] _ HS12_.out.dk.cur (by omega) rfl (by omega) (by omega) HN12_3.out HL12_3.out).mono ?_
                      rintro e V13 ⟨ra, rfl, mra, hc, hg⟩
                      have bra : 1 ≤ ra ∧ ra ≤ 10 := by simp at mra; omega
                      clear mra
                      have HS13_ := Lib.hid (HS12_.out.step hlt hwR hwF hc hg)
                      have HL13_6 : Hid (NL V13 V0.heap.size [0, 20000]) := Lib.hid (HL12_6.out.grown hg HN11_6.out)
                      clear hc hg HS12_ HL12_3 HL12_6
                      (try go_wp2_with fail)
                      refine hK.out _ _ trivial (fun hHeld => ?_)
                      clear hK K
                      (try simp only [Act.put, List.setIfInBounds_toArray, List.set_cons_zero, List.set_cons_succ, List.getElem_toArray, List.getElem_cons_succ, List.getElem_cons_zero])
                      refine wpAnyH_ready (rs := [7]) (by kernel_rfl) (by simp) ?_
                      refine AllReadyH.cons rfl (fun K hK => ?_) AllReadyH.nil
                      · go_simp
                        go_at_call 77
                        refine (amongZ_any B (M + 2 + 2) V0.heap.size 0 2 2 [0, 20000] _ HS13_.out.dk.cur (by omega) rfl (by omega) (by omega) HN11_6.out HL13_6.out).mono ?_
                        rintro e V14 ⟨rb, rfl, mrb, hc, hg⟩
                        have brb : 0 ≤ rb ∧ rb ≤ 20000 := by simp at mrb; omega
                        clear mrb
                        have HS14_ := Lib.hid (HS13_.out.step hlt hwR hwF hc hg)
                        clear hc hg HS13_ HL13_6
                        (try go_wp2_with fail)
                        refine hK.out _ _ trivial (fun hHeld => ?_)
                        clear hK K
                        (try simp only [Act.put, List.setIfInBounds_toArray, List.set_cons_zero, List.set_cons_succ, List.getElem_toArray, List.getElem_cons_succ, List.getElem_cons_zero])
                        refine wpAnyH_take (i := 8) (v := ?_) rfl (by kernel_rfl) (by kernel_rfl) (by kernel_rfl) (fun _ _ _ h => h) (Or.inl ⟨by rfl, ?_⟩) (by assumption) ?_
                        rotate_left
                        · (intro w hSw; (try dsimp only at hSw); go_simp; first | done | with_reducible rfl)
                        (try simp only [Act.put, List.setIfInBounds_toArray, List.set_cons_zero, List.set_cons_succ, List.getElem_toArray, List.getElem_cons_succ, List.getElem_cons_zero])
                        refine wpAnyH_ready (rs := [9]) (by kernel_rfl) (by simp) ?_
                        refine AllReadyH.cons rfl (fun K hK => ?_) AllReadyH.nil
                        · go_simp
                          refine hK.out _ _ trivial (fun hHeld => ?_)
                          clear hK K hHeld
                          (try simp only [Act.put, List.setIfInBounds_toArray, List.set_cons_zero, List.set_cons_succ, List.getElem_toArray, List.getElem_cons_succ, List.getElem_cons_zero])
                          refine gen_al (W := V14) ?_
                          intro V15 hWn
                          have HS15_ := Lib.hid (by rw [hWn]; exact HS14_.out.al _ : RSt w V15 B (M + 2 + 4) R F id x1 x2 g c xs)
                          have HE15 : Hid (∀ j u, ([.int .i64 ra, .int .i64 rb] : List Value)[j]? = some u → V15.cell? ((⟨V14.heap.size, 0, none⟩ : Addr).add j) = some u) := Lib.hid (by rw [hWn]; exact two_new rfl)
                          have hHeld : (fun _ : World => True) V15 := trivial
                          clear hWn HS14_
                          refine wpAnyH_ready (rs := [10]) (by kernel_rfl) (by simp) ?_
                          refine AllReadyH.cons rfl (fun K hK => ?_) AllReadyH.nil
                          rw [if_pos (by rfl)]
                          refine wp_append_at _ _ _ _ rfl w.heap.size 174 i0 (.agg #[.int .i64 0, .int .i64 0]) 2 16 Try.underlying61 hi hz0 hz1 hz2 rfl (by decide) (.slice (some ⟨g, 0, none⟩) xs.length c) xs.length ((xs.map evC).flatten) (by rfl) (by exact HS15_.out.evs.ownR) ⟨V14.heap.size, 0, none⟩ 1 1 [.int .i64 ra, .int .i64 rb] (by rfl) rfl HE15.out (by simp [Value.oneCell']) (by unfold maxLen; omega) (by omega) (by have := HS15_.out.dk.sz; omega) ?_
                          intro v' w7 hown' hgrow hat
                          obtain ⟨g', c', rfl, hge⟩ := own_form hown' (Nat.succ_pos _)
                          have hat2 : g' = g ∨ g' = V15.heap.size := by simpa [Value.ownBlock] using hat
                          have HZ := Lib.hid (HS15_.out.fin hlt hwF hRF hown' hgrow hat2 (by unfold inI; omega) (by unfold inI; omega))
                          have h2_7 := HZ.out.2.cell 2
                          have h3_7 := HZ.out.2.cell 3
                          have hf_7 := HZ.out.2.frozen 3
                          simp at h2_7 h3_7
                          clear hown' hgrow hat hat2
                          refine hK.out _ _ trivial (fun hHeld => ?_)
                          clear hK K
                          (try simp only [Act.put, List.setIfInBounds_toArray, List.set_cons_zero, List.set_cons_succ, List.getElem_toArray, List.getElem_cons_succ, List.getElem_cons_zero])
                          refine wpAnyH_take (i := 11) (v := ?_) rfl (by kernel_rfl) (by kernel_rfl) (by kernel_rfl) (fun _ _ _ h => h) (Or.inl ⟨by rfl, ?_⟩) (by assumption) ?_
                          rotate_left
                          · (intro w hSw; (try dsimp only at hSw); go_simp; first | done | with_reducible rfl)
                          (try simp only [Act.put, List.setIfInBounds_toArray, List.set_cons_zero, List.set_cons_succ, List.getElem_toArray, List.getElem_cons_succ, List.getElem_cons_zero])
                          refine wpAnyH_ready (rs := [12]) (by kernel_rfl) (by simp) ?_
                          refine AllReadyH.cons rfl (fun K hK => ?_) AllReadyH.nil
                          go_simp
                          refine hK.out _ _ trivial (fun hHeld => ?_)
                          clear hK K
                          (try simp only [Act.put, List.setIfInBounds_toArray, List.set_cons_zero, List.set_cons_succ, List.getElem_toArray, List.getElem_cons_succ, List.getElem_cons_zero])
                          refine wpAnyH_done (by kernel_rfl) ?_ _
                          (try go_wp2_with fail)
                          go_meet
                          exact ⟨rfl, x1, x2, g', c', xs ++ [⟨ra, rb⟩], by simp; omega, ix1, by omega, Lib.hid (HZ.out.1.le (by omega))⟩
              · go_simp
                refine hK.out _ _ trivial (fun hHeld => ?_)
                clear hK K hHeld
                (try simp only [Act.put, List.setIfInBounds_toArray, List.set_cons_zero, List.set_cons_succ, List.getElem_toArray, List.getElem_cons_succ, List.getElem_cons_zero])
                refine gen_al (W := V0) ?_
                intro V16 hWn
                have HS16_ := Lib.hid (by rw [hWn]; exact HS0_.out.al _ : RSt w V16 B (M + 2 + 0) R F id x1 x2 g c xs)
                have HL16_3 : Hid (NL V16 V0.heap.size [1, 9, 10]) := Lib.hid (by rw [hWn]; exact new_nums V0 [1, 9, 10] 3 _ rfl)
                have HN16_3 : Hid (V0.heap.size ≠ B) := Lib.hid (by have := HS0_.out.dk.cur.lt; omega)
                have hHeld : (fun _ : World => True) V16 := trivial
                clear hWn HS0_
                refine wpAnyH_ready (rs := [1, 4, 6]) (by kernel_rfl) (by simp) ?_
                refine AllReadyH.cons rfl (fun K hK => ?_) (AllReadyH.cons rfl (fun K hK => ?_) (AllReadyH.cons rfl (fun K hK => ?_) AllReadyH.nil))
                · have f3_17 := HS16_.out.f3
                  go_simp
                  refine hK.out _ _ trivial (fun hHeld => ?_)
                  clear hK K f3_17
                  (try simp only [Act.put, List.setIfInBounds_toArray, List.set_cons_zero, List.set_cons_succ, List.getElem_toArray, List.getElem_cons_succ, List.getElem_cons_zero])
                  refine wpAnyH_ready (rs := [4, 6]) (by kernel_rfl) (by simp) ?_
                  refine AllReadyH.cons rfl (fun K hK => ?_) (AllReadyH.cons rfl (fun K hK => ?_) AllReadyH.nil)
                  · go_simp
                    go_at_call 77
                    refine (amongZ_any B (M + 2 + 0) V0.heap.size 0 3 3 [1, 9, 10] _ HS16_.out.dk.cur (by omega) rfl (by omega) (by omega) HN16_3.out HL16_3.out).mono ?_
                    rintro e V18 ⟨ra, rfl, mra, hc, hg⟩
                    have bra : 1 ≤ ra ∧ ra ≤ 10 := by simp at mra; omega
                    clear mra
                    have HS18_ := Lib.hid (HS16_.out.step hlt hwR hwF hc hg)
                    clear hc hg HS16_ HL16_3
                    (try go_wp2_with fail)
                    refine hK.out _ _ trivial (fun hHeld => ?_)
                    clear hK K
                    (try simp only [Act.put, List.setIfInBounds_toArray, List.set_cons_zero, List.set_cons_succ, List.getElem_toArray, List.getElem_cons_succ, List.getElem_cons_zero])
                    refine wpAnyH_ready (rs := [6]) (by kernel_rfl) (by simp) ?_
                    refine AllReadyH.cons rfl (fun K hK => ?_) AllReadyH.nil
                    · go_simp
                      refine hK.out _ _ trivial (fun hHeld => ?_)
                      clear hK K hHeld
                      (try simp only [Act.put, List.setIfInBounds_toArray, List.set_cons_zero, List.set_cons_succ, List.getElem_toArray, List.getElem_cons_succ, List.getElem_cons_zero])
                      refine gen_al (W := V18) ?_
                      intro V19 hWn
                      have HS19_ := Lib.hid (by rw [hWn]; exact HS18_.out.al _ : RSt w V19 B (M + 2 + 2) R F id x1 x2 g c xs)
                      have HL19_6 : Hid (NL V19 V18.heap.size [0, 20000]) := Lib.hid (by rw [hWn]; exact new_nums V18 [0, 20000] 3 _ rfl)
                      have HN19_6 : Hid (V18.heap.size ≠ B) := Lib.hid (by have := HS18_.out.dk.cur.lt; omega)
                      have hHeld : (fun _ : World => True) V19 := trivial
                      clear hWn HS18_
                      refine wpAnyH_ready (rs := [7]) (by kernel_rfl) (by simp) ?_
                      refine AllReadyH.cons rfl (fun K hK => ?_) AllReadyH.nil
                      · go_simp
                        go_at_call 77
                        refine (amongZ_any B (M + 2 + 2) V18.heap.size 0 2 2 [0, 20000] _ HS19_.out.dk.cur (by omega) rfl (by omega) (by omega) HN19_6.out HL19_6.out).mono ?_
                        rintro e V20 ⟨rb, rfl, mrb, hc, hg⟩
                        have brb : 0 ≤ rb ∧ rb ≤ 20000 := by simp at mrb; omega
                        clear mrb
                        have HS20_ := Lib.hid (HS19_.out.step hlt hwR hwF hc hg)
                        clear hc hg HS19_ HL19_6
                        (try go_wp2_with fail)
                        refine hK.out _ _ trivial (fun hHeld => ?_)
                        clear hK K
                        (try simp only [Act.put, List.setIfInBounds_toArray, List.set_cons_zero, List.set_cons_succ, List.getElem_toArray, List.getElem_cons_succ, List.getElem_cons_zero])
                        refine wpAnyH_take (i := 8) (v := ?_) rfl (by kernel_rfl) (by kernel_rfl) (by kernel_rfl) (fun _ _ _ h => h) (Or.inl ⟨by rfl, ?_⟩) (by assumption) ?_
                        rotate_left
                        · (intro w hSw; (try dsimp only at hSw); go_simp; first | done | with_reducible rfl)
                        (try simp only [Act.put, List.setIfInBounds_toArray, List.set_cons_zero, List.set_cons_succ, List.getElem_toArray, List.getElem_cons_succ, List.getElem_cons_zero])
                        refine wpAnyH_ready (rs := [9]) (by kernel_rfl) (by simp) ?_
                        refine AllReadyH.cons rfl (fun K hK => ?_) AllReadyH.nil
                        · go_simp
                          refine hK.out _ _ trivial (fun hHeld => ?_)
                          clear hK K hHeld
                          (try simp only [Act.put, List.setIfInBounds_toArray, List.set_cons_zero, List.set_cons_succ, List.getElem_toArray, List.getElem_cons_succ, List.getElem_cons_zero])
                          refine gen_al (W := V20) ?_
                          intro V21 hWn
                          have HS21_ := Lib.hid (by rw [hWn]; exact HS20_.out.al _ : RSt w V21 B (M + 2 + 4) R F id x1 x2 g c xs)
                          have HE21 : Hid (∀ j u, ([.int .i64 ra, .int .i64 rb] : List Value)[j]? = some u → V21.cell? ((⟨V20.heap.size, 0, none⟩ : Addr).add j) = some u) := Lib.hid (by rw [hWn]; exact two_new rfl)
                          have hHeld : (fun _ : World => True) V21 := trivial
                          clear hWn HS20_
                          refine wpAnyH_ready (rs := [10]) (by kernel_rfl) (by simp) ?_
                          refine AllReadyH.cons rfl (fun K hK => ?_) AllReadyH.nil
                          rw [if_pos (by rfl)]
                          refine wp_append_at _ _ _ _ rfl w.heap.size 174 i0 (.agg #[.int .i64 0, .int .i64 0]) 2 16 Try.underlying61 hi hz0 hz1 hz2 rfl (by decide) (.slice (some ⟨g, 0, none⟩) xs.length c) xs.length ((xs.map evC).flatten) (by rfl) (by exact HS21_.out.evs.ownR) ⟨V20.heap.size, 0, none⟩ 1 1 [.int .i64 ra, .int .i64 rb] (by rfl) rfl HE21.out (by simp [Value.oneCell']) (by unfold maxLen; omega) (by omega) (by have := HS21_.out.dk.sz; omega) ?_
                          intro v' w7 hown' hgrow hat
                          obtain ⟨g', c', rfl, hge⟩ := own_form hown' (Nat.succ_pos _)
                          have hat2 : g' = g ∨ g' = V21.heap.size := by simpa [Value.ownBlock] using hat
                          have HZ := Lib.hid (HS21_.out.fin hlt hwF hRF hown' hgrow hat2 (by unfold inI; omega) (by unfold inI; omega))
                          have h2_7 := HZ.out.2.cell 2
                          have h3_7 := HZ.out.2.cell 3
                          have hf_7 := HZ.out.2.frozen 3
                          simp at h2_7 h3_7
                          clear hown' hgrow hat hat2
                          refine hK.out _ _ trivial (fun hHeld => ?_)
                          clear hK K
                          (try simp only [Act.put, List.setIfInBounds_toArray, List.set_cons_zero, List.set_cons_succ, List.getElem_toArray, List.getElem_cons_succ, List.getElem_cons_zero])
                          refine wpAnyH_take (i := 11) (v := ?_) rfl (by kernel_rfl) (by kernel_rfl) (by kernel_rfl) (fun _ _ _ h => h) (Or.inl ⟨by rfl, ?_⟩) (by assumption) ?_
                          rotate_left
                          · (intro w hSw; (try dsimp only at hSw); go_simp; first | done | with_reducible rfl)
                          (try simp only [Act.put, List.setIfInBounds_toArray, List.set_cons_zero, List.set_cons_succ, List.getElem_toArray, List.getElem_cons_succ, List.getElem_cons_zero])
                          refine wpAnyH_ready (rs := [12]) (by kernel_rfl) (by simp) ?_
                          refine AllReadyH.cons rfl (fun K hK => ?_) AllReadyH.nil
                          go_simp
                          refine hK.out _ _ trivial (fun hHeld => ?_)
                          clear hK K
                          (try simp only [Act.put, List.setIfInBounds_toArray, List.set_cons_zero, List.set_cons_succ, List.getElem_toArray, List.getElem_cons_succ, List.getElem_cons_zero])
                          refine wpAnyH_done (by kernel_rfl) ?_ _
                          (try go_wp2_with fail)
                          go_meet
                          exact ⟨rfl, x1, x2, g', c', xs ++ [⟨ra, rb⟩], by simp; omega, ix1, by omega, Lib.hid (HZ.out.1.le (by omega))⟩
                  · go_simp
                    refine hK.out _ _ trivial (fun hHeld => ?_)
                    clear hK K hHeld
                    (try simp only [Act.put, List.setIfInBounds_toArray, List.set_cons_zero, List.set_cons_succ, List.getElem_toArray, List.getElem_cons_succ, List.getElem_cons_zero])
                    refine gen_al (W := V16) ?_
                    intro V22 hWn
                    have HS22_ := Lib.hid (by rw [hWn]; exact HS16_.out.al _ : RSt w V22 B (M + 2 + 0) R F id x1 x2 g c xs)
                    have HL22_3 : Hid (NL V22 V0.heap.size [1, 9, 10]) := Lib.hid (by rw [hWn]; exact HL16_3.out.al _)
                    have HL22_6 : Hid (NL V22 V16.heap.size [0, 20000]) := Lib.hid (by rw [hWn]; exact new_nums V16 [0, 20000] 3 _ rfl)
                    have HN22_6 : Hid (V16.heap.size ≠ B) := Lib.hid (by have := HS16_.out.dk.cur.lt; omega)
                    have hHeld : (fun _ : World => True) V22 := trivial
                    clear hWn HS16_ HL16_3
                    refine wpAnyH_ready (rs := [4]) (by kernel_rfl) (by simp) ?_
                    refine AllReadyH.cons rfl (fun K hK => ?_) AllReadyH.nil
                    · go_simp
                      go_at_call 77
                      refine (amongZ_any B (M + 2 + 0) V0.heap.size 0 3 3 [1, 9, 10] _ HS22_.out.dk.cur (by omega) rfl (by omega) (by omega) HN16_3.out HL22_3.out).mono ?_
                      rintro e V23 ⟨ra, rfl, mra, hc, hg⟩
                      have bra : 1 ≤ ra ∧ ra ≤ 10 := by simp at mra; omega
                      clear mra
                      have HS23_ := Lib.hid (HS22_.out.step hlt hwR hwF hc hg)
                      have HL23_6 : Hid (NL V23 V16.heap.size [0, 20000]) := Lib.hid (HL22_6.out.grown hg HN22_6.out)
                      clear hc hg HS22_ HL22_3 HL22_6
                      (try go_wp2_with fail)
                      refine hK.out _ _ trivial (fun hHeld => ?_)
                      clear hK K
                      (try simp only [Act.put, List.setIfInBounds_toArray, List.set_cons_zero, List.set_cons_succ, List.getElem_toArray, List.getElem_cons_succ, List.getElem_cons_zero])
                      refine wpAnyH_ready (rs := [7]) (by kernel_rfl) (by simp) ?_
                      refine AllReadyH.cons rfl (fun K hK => ?_) AllReadyH.nil
                      · go_simp
                        go_at_call 77
                        refine (amongZ_any B (M + 2 + 2) V16.heap.size 0 2 2 [0, 20000] _ HS23_.out.dk.cur (by omega) rfl (by omega) (by omega) HN22_6.out HL23_6.out).mono ?_
                        rintro e V24 ⟨rb, rfl, mrb, hc, hg⟩
                        have brb : 0 ≤ rb ∧ rb ≤ 20000 := by simp at mrb; omega
                        clear mrb
                        have HS24_ := Lib.hid (HS23_.out.step hlt hwR hwF hc hg)
                        clear hc hg HS23_ HL23_6
                        (try go_wp2_with fail)
                        refine hK.out _ _ trivial (fun hHeld => ?_)
                        clear hK K
                        (try simp only [Act.put, List.setIfInBounds_toArray, List.set_cons_zero, List.set_cons_succ, List.getElem_toArray, List.getElem_cons_succ, List.getElem_cons_zero])
                        refine wpAnyH_take (i := 8) (v := ?_) rfl (by kernel_rfl) (by kernel_rfl) (by kernel_rfl) (fun _ _ _ h => h) (Or.inl ⟨by rfl, ?_⟩) (by assumption) ?_
                        rotate_left
                        · (intro w hSw; (try dsimp only at hSw); go_simp; first | done | with_reducible rfl)
                        (try simp only [Act.put, List.setIfInBounds_toArray, List.set_cons_zero, List.set_cons_succ, List.getElem_toArray, List.getElem_cons_succ, List.getElem_cons_zero])
                        refine wpAnyH_ready (rs := [9]) (by kernel_rfl) (by simp) ?_
                        refine AllReadyH.cons rfl (fun K hK => ?_) AllReadyH.nil
                        · go_simp
                          refine hK.out _ _ trivial (fun hHeld => ?_)
                          clear hK K hHeld
                          (try simp only [Act.put, List.setIfInBounds_toArray, List.set_cons_zero, List.set_cons_succ, List.getElem_toArray, List.getElem_cons_succ, List.getElem_cons_zero])
                          refine gen_al (W := V24) ?_
                          intro V25 hWn
                          have HS25_ := Lib.hid (by rw [hWn]; exact HS24_.out.al _ : RSt w V25 B (M + 2 + 4) R F id x1 x2 g c xs)
                          have HE25 : Hid (∀ j u, ([.int .i64 ra, .int .i64 rb] : List Value)[j]? = some u → V25.cell? ((⟨V24.heap.size, 0, none⟩ : Addr).add j) = some u) := Lib.hid (by rw [hWn]; exact two_new rfl)
                          have hHeld : (fun _ : World => True) V25 := trivial
                          clear hWn HS24_
                          refine wpAnyH_ready (rs := [10]) (by kernel_rfl) (by simp) ?_
                          refine AllReadyH.cons rfl (fun K hK => ?_) AllReadyH.nil
                          rw [if_pos (by rfl)]
                          refine wp_append_at _ _ _ _ rfl w.heap.size 174 i0 (.agg #[.int .i64 0, .int .i64 0]) 2 16 Try.underlying61 hi hz0 hz1 hz2 rfl (by decide) (.slice (some ⟨g, 0, none⟩) xs.length c) xs.length ((xs.map evC).flatten) (by rfl) (by exact HS25_.out.evs.ownR) ⟨V24.heap.size, 0, none⟩ 1 1 [.int .i64 ra, .int .i64 rb] (by rfl) rfl HE25.out (by simp [Value.oneCell']) (by unfold maxLen; omega) (by omega) (by have := HS25_.out.dk.sz; omega) ?_
                          intro v' w7 hown' hgrow hat
                          obtain ⟨g', c', rfl, hge⟩ := own_form hown' (Nat.succ_pos _)
                          have hat2 : g' = g ∨ g' = V25.heap.size := by simpa [Value.ownBlock] using hat
                          have HZ := Lib.hid (HS25_.out.fin hlt hwF hRF hown' hgrow hat2 (by unfold inI; omega) (by unfold inI; omega))
                          have h2_7 := HZ.out.2.cell 2
                          have h3_7 := HZ.out.2.cell 3
                          have hf_7 := HZ.out.2.frozen 3
                          simp at h2_7 h3_7
                          clear hown' hgrow hat hat2
                          refine hK.out _ _ trivial (fun hHeld => ?_)
                          clear hK K
                          (try simp only [Act.put, List.setIfInBounds_toArray, List.set_cons_zero, List.set_cons_succ, List.getElem_toArray, List.getElem_cons_succ, List.getElem_cons_zero])
                          refine wpAnyH_take (i := 11) (v := ?_) rfl (by kernel_rfl) (by kernel_rfl) (by kernel_rfl) (fun _ _ _ h => h) (Or.inl ⟨by rfl, ?_⟩) (by assumption) ?_
                          rotate_left
                          · (intro w hSw; (try dsimp only at hSw); go_simp; first | done | with_reducible rfl)
                          (try simp only [Act.put, List.setIfInBounds_toArray, List.set_cons_zero, List.set_cons_succ, List.getElem_toArray, List.getElem_cons_succ, List.getElem_cons_zero])
                          refine wpAnyH_ready (rs := [12]) (by kernel_rfl) (by simp) ?_
                          refine AllReadyH.cons rfl (fun K hK => ?_) AllReadyH.nil
                          go_simp
                          refine hK.out _ _ trivial (fun hHeld => ?_)
                          clear hK K
                          (try simp only [Act.put, List.setIfInBounds_toArray, List.set_cons_zero, List.set_cons_succ, List.getElem_toArray, List.getElem_cons_succ, List.getElem_cons_zero])
                          refine wpAnyH_done (by kernel_rfl) ?_ _
                          (try go_wp2_with fail)
                          go_meet
                          exact ⟨rfl, x1, x2, g', c', xs ++ [⟨ra, rb⟩], by simp; omega, ix1, by omega, Lib.hid (HZ.out.1.le (by omega))⟩
                · go_simp
                  go_at_call 77
                  refine (amongZ_any B (M + 2 + 0) V0.heap.size 0 3 3 [1, 9, 10] _ HS16_.out.dk.cur (by omega) rfl (by omega) (by omega) HN16_3.out HL16_3.out).mono ?_
                  rintro e V26 ⟨ra, rfl, mra, hc, hg⟩
                  have bra : 1 ≤ ra ∧ ra ≤ 10 := by simp at mra; omega
                  clear mra
                  have HS26_ := Lib.hid (HS16_.out.step hlt hwR hwF hc hg)
                  clear hc hg HS16_ HL16_3
                  (try go_wp2_with fail)
                  refine hK.out _ _ trivial (fun hHeld => ?_)
                  clear hK K
                  (try simp only [Act.put, List.setIfInBounds_toArray, List.set_cons_zero, List.set_cons_succ, List.getElem_toArray, List.getElem_cons_succ, List.getElem_cons_zero])
                  refine wpAnyH_ready (rs := [1, 6]) (by kernel_rfl) (by simp) ?_
                  refine AllReadyH.cons rfl (fun K hK => ?_) (AllReadyH.cons rfl (fun K hK => ?_) AllReadyH.nil)
                  · have f3_27 := HS26_.out.f3
                    go_simp
                    refine hK.out _ _ trivial (fun hHeld => ?_)
                    clear hK K f3_27
                    (try simp only [Act.put, List.setIfInBounds_toArray, List.set_cons_zero, List.set_cons_succ, List.getElem_toArray, List.getElem_cons_succ, List.getElem_cons_zero])
                    refine wpAnyH_ready (rs := [6]) (by kernel_rfl) (by simp) ?_
                    refine AllReadyH.cons rfl (fun K hK => ?_) AllReadyH.nil
                    · go_simp
                      refine hK.out _ _ trivial (fun hHeld => ?_)
                      clear hK K hHeld
                      (try simp only [Act.put, List.setIfInBounds_toArray, List.set_cons_zero, List.set_cons_succ, List.getElem_toArray, List.getElem_cons_succ, List.getElem_cons_zero])
                      refine gen_al (W := V26) ?_
                      intro V28 hWn
                      have HS28_ := Lib.hid (by rw [hWn]; exact HS26_.out.al _ : RSt w V28 B (M + 2 + 2) R F id x1 x2 g c xs)
                      have HL28_6 : Hid (NL V28 V26.heap.size [0, 20000]) := Lib.hid (by rw [hWn]; exact new_nums V26 [0, 20000] 3 _ rfl)
                      have HN28_6 : Hid (V26.heap.size ≠ B) := Lib.hid (by have := HS26_.out.dk.cur.lt; omega)
                      have hHeld : (fun _ : World => True) V28 := trivial
                      clear hWn HS26_
                      refine wpAnyH_ready (rs := [7]) (by kernel_rfl) (by simp) ?_
                      refine AllReadyH.cons rfl (fun K hK => ?_) AllReadyH.nil
                      · go_simp
                        go_at_call 77
                        refine (amongZ_any B (M + 2 + 2) V26.heap.size 0 2 2 [0, 20000] _ HS28_.out.dk.cur (by omega) rfl (by omega) (by omega) HN28_6.out HL28_6.out).mono ?_
                        rintro e V29 ⟨rb, rfl, mrb, hc, hg⟩
                        have brb : 0 ≤ rb ∧ rb ≤ 20000 := by simp at mrb; omega
                        clear mrb
                        have HS29_ := Lib.hid (HS28_.out.step hlt hwR hwF hc hg)
                        clear hc hg HS28_ HL28_6
                        (try go_wp2_with fail)
                        refine hK.out _ _ trivial (fun hHeld => ?_)
                        clear hK K
                        (try simp only [Act.put, List.setIfInBounds_toArray, List.set_cons_zero, List.set_cons_succ, List.getElem_toArray, List.getElem_cons_succ, List.getElem_cons_zero])
                        refine wpAnyH_take (i := 8) (v := ?_) rfl (by kernel_rfl) (by kernel_rfl) (by kernel_rfl) (fun _ _ _ h => h) (Or.inl ⟨by rfl, ?_⟩) (by assumption) ?_
                        rotate_left
                        · (intro w hSw; (try dsimp only at hSw); go_simp; first | done | with_reducible rfl)
                        (try simp only [Act.put, List.setIfInBounds_toArray, List.set_cons_zero, List.set_cons_succ, List.getElem_toArray, List.getElem_cons_succ, List.getElem_cons_zero])
                        refine wpAnyH_ready (rs := [9]) (by kernel_rfl) (by simp) ?_
                        refine AllReadyH.cons rfl (fun K hK => ?_) AllReadyH.nil
                        · go_simp
                          refine hK.out _ _ trivial (fun hHeld => ?_)
                          clear hK K hHeld
                          (try simp only [Act.put, List.setIfInBounds_toArray, List.set_cons_zero, List.set_cons_succ, List.getElem_toArray, List.getElem_cons_succ, List.getElem_cons_zero])
                          refine gen_al (W := V29) ?_
                          intro V30 hWn
                          have HS30_ := Lib.hid (by rw [hWn]; exact HS29_.out.al _ : RSt w V30 B (M + 2 + 4) R F id x1 x2 g c xs)
                          have HE30 : Hid (∀ j u, ([.int .i64 ra, .int .i64 rb] : List Value)[j]? = some u → V30.cell? ((⟨V29.heap.size, 0, none⟩ : Addr).add j) = some u) := Lib.hid (by rw [hWn]; exact two_new rfl)
                          have hHeld : (fun _ : World => True) V30 := trivial
                          clear hWn HS29_
                          refine wpAnyH_ready (rs := [10]) (by kernel_rfl) (by simp) ?_
                          refine AllReadyH.cons rfl (fun K hK => ?_) AllReadyH.nil
                          rw [if_pos (by rfl)]
                          refine wp_append_at _ _ _ _ rfl w.heap.size 174 i0 (.agg #[.int .i64 0, .int .i64 0]) 2 16 Try.underlying61 hi hz0 hz1 hz2 rfl (by decide) (.slice (some ⟨g, 0, none⟩) xs.length c) xs.length ((xs.map evC).flatten) (by rfl) (by exact HS30_.out.evs.ownR) ⟨V29.heap.size, 0, none⟩ 1 1 [.int .i64 ra, .int .i64 rb] (by rfl) rfl HE30.out (by simp [Value.oneCell']) (by unfold maxLen; omega) (by omega) (by have := HS30_.out.dk.sz; omega) ?_
                          intro v' w7 hown' hgrow hat
                          obtain ⟨g', c', rfl, hge⟩ := own_form hown' (Nat.succ_pos _)
                          have hat2 : g' = g ∨ g' = V30.heap.size := by simpa [Value.ownBlock] using hat
                          have HZ := Lib.hid (HS30_.out.fin hlt hwF hRF hown' hgrow hat2 (by unfold inI; omega) (by unfold inI; omega))
                          have h2_7 := HZ.out.2.cell 2
                          have h3_7 := HZ.out.2.cell 3
                          have hf_7 := HZ.out.2.frozen 3
                          simp at h2_7 h3_7
                          clear hown' hgrow hat hat2
                          refine hK.out _ _ trivial (fun hHeld => ?_)
                          clear hK K
                          (try simp only [Act.put, List.setIfInBounds_toArray, List.set_cons_zero, List.set_cons_succ, List.getElem_toArray, List.getElem_cons_succ, List.getElem_cons_zero])
                          refine wpAnyH_take (i := 11) (v := ?_) rfl (by kernel_rfl) (by kernel_rfl) (by kernel_rfl) (fun _ _ _ h => h) (Or.inl ⟨by rfl, ?_⟩) (by assumption) ?_
                          rotate_left
                          · (intro w hSw; (try dsimp only at hSw); go_simp; first | done | with_reducible rfl)
                          (try simp only [Act.put, List.setIfInBounds_toArray, List.set_cons_zero, List.set_cons_succ, List.getElem_toArray, List.getElem_cons_succ, List.getElem_cons_zero])
                          refine wpAnyH_ready (rs := [12]) (by kernel_rfl) (by simp) ?_
                          refine AllReadyH.cons rfl (fun K hK => ?_) AllReadyH.nil
                          go_simp
                          refine hK.out _ _ trivial (fun hHeld => ?_)
                          clear hK K
                          (try simp only [Act.put, List.setIfInBounds_toArray, List.set_cons_zero, List.set_cons_succ, List.getElem_toArray, List.getElem_cons_succ, List.getElem_cons_zero])
                          refine wpAnyH_done (by kernel_rfl) ?_ _
                          (try go_wp2_with fail)
                          go_meet
                          exact ⟨rfl, x1, x2, g', c', xs ++ [⟨ra, rb⟩], by simp; omega, ix1, by omega, Lib.hid (HZ.out.1.le (by omega))⟩
                  · go_simp
                    refine hK.out _ _ trivial (fun hHeld => ?_)
                    clear hK K hHeld
                    (try simp only [Act.put, List.setIfInBounds_toArray, List.set_cons_zero, List.set_cons_succ, List.getElem_toArray, List.getElem_cons_succ, List.getElem_cons_zero])
                    refine gen_al (W := V26) ?_
                    intro V31 hWn
                    have HS31_ := Lib.hid (by rw [hWn]; exact HS26_.out.al _ : RSt w V31 B (M + 2 + 2) R F id x1 x2 g c xs)
                    have HL31_6 : Hid (NL V31 V26.heap.size [0, 20000]) := Lib.hid (by rw [hWn]; exact new_nums V26 [0, 20000] 3 _ rfl)
                    have HN31_6 : Hid (V26.heap.size ≠ B) := Lib.hid (by have := HS26_.out.dk.cur.lt; omega)
                    have hHeld : (fun _ : World => True) V31 := trivial
                    clear hWn HS26_
                    refine wpAnyH_ready (rs := [1, 7]) (by kernel_rfl) (by simp) ?_
                    refine AllReadyH.cons rfl (fun K hK => ?_) (AllReadyH.cons rfl (fun K hK => ?_) AllReadyH.nil)
                    · have f3_32 := HS31_.out.f3
                      go_simp
                      refine hK.out _ _ trivial (fun hHeld => ?_)
                      clear hK K f3_32
                      (try simp only [Act.put, List.setIfInBounds_toArray, List.set_cons_zero, List.set_cons_succ, List.getElem_toArray, List.getElem_cons_succ, List.getElem_cons_zero])
                      refine wpAnyH_ready (rs := [7]) (by kernel_rfl) (by simp) ?_
                      refine AllReadyH.cons rfl (fun K hK => ?_) AllReadyH.nil
                      · go_simp
                        go_at_call 77
                        refine (amongZ_any B (M + 2 + 2) V26.heap.size 0 2 2 [0, 20000] _ HS31_.out.dk.cur (by omega) rfl (by omega) (by omega) HN31_6.out HL31_6.out).mono ?_
                        rintro e V33 ⟨rb, rfl, mrb, hc, hg⟩
                        have brb : 0 ≤ rb ∧ rb ≤ 20000 := by simp at mrb; omega
                        clear mrb
                        have HS33_ := Lib.hid (HS31_.out.step hlt hwR hwF hc hg)
                        clear hc hg HS31_ HL31_6
                        (try go_wp2_with fail)
                        refine hK.out _ _ trivial (fun hHeld => ?_)
                        clear hK K
                        (try simp only [Act.put, List.setIfInBounds_toArray, List.set_cons_zero, List.set_cons_succ, List.getElem_toArray, List.getElem_cons_succ, List.getElem_cons_zero])
                        refine wpAnyH_take (i := 8) (v := ?_) rfl (by kernel_rfl) (by kernel_rfl) (by kernel_rfl) (fun _ _ _ h => h) (Or.inl ⟨by rfl, ?_⟩) (by assumption) ?_
                        rotate_left
                        · (intro w hSw; (try dsimp only at hSw); go_simp; first | done | with_reducible rfl)
                        (try simp only [Act.put, List.setIfInBounds_toArray, List.set_cons_zero, List.set_cons_succ, List.getElem_toArray, List.getElem_cons_succ, List.getElem_cons_zero])
                        refine wpAnyH_ready (rs := [9]) (by kernel_rfl) (by simp) ?_
                        refine AllReadyH.cons rfl (fun K hK => ?_) AllReadyH.nil
                        · go_simp
                          refine hK.out _ _ trivial (fun hHeld => ?_)
                          clear hK K hHeld
                          (try simp only [Act.put, List.setIfInBounds_toArray, List.set_cons_zero, List.set_cons_succ, List.getElem_toArray, List.getElem_cons_succ, List.getElem_cons_zero])
                          refine gen_al (W := V33) ?_
                          intro V34 hWn
                          have HS34_ := Lib.hid (by rw [hWn]; exact HS33_.out.al _ : RSt w V34 B (M + 2 + 4) R F id x1 x2 g c xs)
                          have HE34 : Hid (∀ j u, ([.int .i64 ra, .int .i64 rb] : List Value)[j]? = some u → V34.cell? ((⟨V33.heap.size, 0, none⟩ : Addr).add j) = some u) := Lib.hid (by rw [hWn]; exact two_new rfl)
                          have hHeld : (fun _ : World => True) V34 := trivial
                          clear hWn HS33_
                          refine wpAnyH_ready (rs := [10]) (by kernel_rfl) (by simp) ?_
                          refine AllReadyH.cons rfl (fun K hK => ?_) AllReadyH.nil
                          rw [if_pos (by rfl)]
                          refine wp_append_at _ _ _ _ rfl w.heap.size 174 i0 (.agg #[.int .i64 0, .int .i64 0]) 2 16 Try.underlying61 hi hz0 hz1 hz2 rfl (by decide) (.slice (some ⟨g, 0, none⟩) xs.length c) xs.length ((xs.map evC).flatten) (by rfl) (by exact HS34_.out.evs.ownR) ⟨V33.heap.size, 0, none⟩ 1 1 [.int .i64 ra, .int .i64 rb] (by rfl) rfl HE34.out (by simp [Value.oneCell']) (by unfold maxLen; omega) (by omega) (by have := HS34_.out.dk.sz; omega) ?_
                          intro v' w7 hown' hgrow hat
                          obtain ⟨g', c', rfl, hge⟩ := own_form hown' (Nat.succ_pos _)
                          have hat2 : g' = g ∨ g' = V34.heap.size := by simpa [Value.ownBlock] using hat
                          have HZ := Lib.hid (HS34_.out.fin hlt hwF hRF hown' hgrow hat2 (by unfold inI; omega) (by unfold inI; omega))
                          have h2_7 := HZ.out.2.cell 2
                          have h3_7 := HZ.out.2.cell 3
                          have hf_7 := HZ.out.2.frozen 3
                          simp at h2_7 h3_7
                          clear hown' hgrow hat hat2
                          refine hK.out _ _ trivial (fun hHeld => ?_)
                          clear hK K
                          (try simp only [Act.put, List.setIfInBounds_toArray, List.set_cons_zero, List.set_cons_succ, List.getElem_toArray, List.getElem_cons_succ, List.getElem_cons_zero])
                          refine wpAnyH_take (i := 11) (v := ?_) rfl (by kernel_rfl) (by kernel_rfl) (by kernel_rfl) (fun _ _ _ h => h) (Or.inl ⟨by rfl, ?_⟩) (by assumption) ?_
                          rotate_left
                          · (intro w hSw; (try dsimp only at hSw); go_simp; first | done | with_reducible rfl)
                          (try simp only [Act.put, List.setIfInBounds_toArray, List.set_cons_zero, List.set_cons_succ, List.getElem_toArray, List.getElem_cons_succ, List.getElem_cons_zero])
                          refine wpAnyH_ready (rs := [12]) (by kernel_rfl) (by simp) ?_
                          refine AllReadyH.cons rfl (fun K hK => ?_) AllReadyH.nil
                          go_simp
                          refine hK.out _ _ trivial (fun hHeld => ?_)
                          clear hK K
                          (try simp only [Act.put, List.setIfInBounds_toArray, List.set_cons_zero, List.set_cons_succ, List.getElem_toArray, List.getElem_cons_succ, List.getElem_cons_zero])
                          refine wpAnyH_done (by kernel_rfl) ?_ _
                          (try go_wp2_with fail)
                          go_meet
                          exact ⟨rfl, x1, x2, g', c', xs ++ [⟨ra, rb⟩], by simp; omega, ix1, by omega, Lib.hid (HZ.out.1.le (by omega))⟩
                    · go_simp
                      go_at_call 77
                      refine (amongZ_any B (M + 2 + 2) V26.heap.size 0 2 2 [0, 20000] _ HS31_.out.dk.cur (by omega) rfl (by omega) (by omega) HN31_6.out HL31_6.out).mono ?_
                      rintro e V35 ⟨rb, rfl, mrb, hc, hg⟩
                      have brb : 0 ≤ rb ∧ rb ≤ 20000 := by simp at mrb; omega
                      clear mrb
                      have HS35_ := Lib.hid (HS31_.out.step hlt hwR hwF hc hg)
                      clear hc hg HS31_ HL31_6
                      (try go_wp2_with fail)
                      refine hK.out _ _ trivial (fun hHeld => ?_)
                      clear hK K
                      (try simp only [Act.put, List.setIfInBounds_toArray, List.set_cons_zero, List.set_cons_succ, List.getElem_toArray, List.getElem_cons_succ, List.getElem_cons_zero])
                      refine wpAnyH_take (i := 8) (v := ?_) rfl (by kernel_rfl) (by kernel_rfl) (by kernel_rfl) (fun _ _ _ h => h) (Or.inl ⟨by rfl, ?_⟩) (by assumption) ?_
                      rotate_left
                      · (intro w hSw; (try dsimp only at hSw); go_simp; first | done | with_reducible rfl)
                      (try simp only [Act.put, List.setIfInBounds_toArray, List.set_cons_zero, List.set_cons_succ, List.getElem_toArray, List.getElem_cons_succ, List.getElem_cons_zero])
                      refine wpAnyH_ready (rs := [1, 9]) (by kernel_rfl) (by simp) ?_
                      refine AllReadyH.cons rfl (fun K hK => ?_) (AllReadyH.cons rfl (fun K hK => ?_) AllReadyH.nil)
                      · have f3_36 := HS35_.out.f3
                        go_simp
                        refine hK.out _ _ trivial (fun hHeld => ?_)
                        clear hK K f3_36
                        (try simp only [Act.put, List.setIfInBounds_toArray, List.set_cons_zero, List.set_cons_succ, List.getElem_toArray, List.getElem_cons_succ, List.getElem_cons_zero])
                        refine wpAnyH_ready (rs := [9]) (by kernel_rfl) (by simp) ?_
                        refine AllReadyH.cons rfl (fun K hK => ?_) AllReadyH.nil
                        · go_simp
                          refine hK.out _ _ trivial (fun hHeld => ?_)
                          clear hK K hHeld
                          (try simp only [Act.put, List.setIfInBounds_toArray, List.set_cons_zero, List.set_cons_succ, List.getElem_toArray, List.getElem_cons_succ, List.getElem_cons_zero])
                          refine gen_al (W := V35) ?_
                          intro V37 hWn
                          have HS37_ := Lib.hid (by rw [hWn]; exact HS35_.out.al _ : RSt w V37 B (M + 2 + 4) R F id x1 x2 g c xs)
                          have HE37 : Hid (∀ j u, ([.int .i64 ra, .int .i64 rb] : List Value)[j]? = some u → V37.cell? ((⟨V35.heap.size, 0, none⟩ : Addr).add j) = some u) := Lib.hid (by rw [hWn]; exact two_new rfl)
                          have hHeld : (fun _ : World => True) V37 := trivial
                          clear hWn HS35_
                          refine wpAnyH_ready (rs := [10]) (by kernel_rfl) (by simp) ?_
                          refine AllReadyH.cons rfl (fun K hK => ?_) AllReadyH.nil
                          rw [if_pos (by rfl)]
                          refine wp_append_at _ _ _ _ rfl w.heap.size 174 i0 (.agg #[.int .i64 0, .int .i64 0]) 2 16 Try.underlying61 hi hz0 hz1 hz2 rfl (by decide) (.slice (some ⟨g, 0, none⟩) xs.length c) xs.length ((xs.map evC).flatten) (by rfl) (by exact HS37_.out.evs.ownR) ⟨V35.heap.size, 0, none⟩ 1 1 [.int .i64 ra, .int .i64 rb] (by rfl) rfl HE37.out (by simp [Value.oneCell']) (by unfold maxLen; omega) (by omega) (by have := HS37_.out.dk.sz; omega) ?_
                          intro v' w7 hown' hgrow hat
                          obtain ⟨g', c', rfl, hge⟩ := own_form hown' (Nat.succ_pos _)
                          have hat2 : g' = g ∨ g' = V37.heap.size := by simpa [Value.ownBlock] using hat
                          have HZ := Lib.hid (HS37_.out.fin hlt hwF hRF hown' hgrow hat2 (by unfold inI; omega) (by unfold inI; omega))
                          have h2_7 := HZ.out.2.cell 2
                          have h3_7 := HZ.out.2.cell 3
                          have hf_7 := HZ.out.2.frozen 3
                          simp at h2_7 h3_7
                          clear hown' hgrow hat hat2
                          refine hK.out _ _ trivial (fun hHeld => ?_)
                          clear hK K
                          (try simp only [Act.put, List.setIfInBounds_toArray, List.set_cons_zero, List.set_cons_succ, List.getElem_toArray, List.getElem_cons_succ, List.getElem_cons_zero])
                          refine wpAnyH_take (i := 11) (v := ?_) rfl (by kernel_rfl) (by kernel_rfl) (by kernel_rfl) (fun _ _ _ h => h) (Or.inl ⟨by rfl, ?_⟩) (by assumption) ?_
                          rotate_left
                          · (intro w hSw; (try dsimp only at hSw); go_simp; first | done | with_reducible rfl)
                          (try simp only [Act.put, List.setIfInBounds_toArray, List.set_cons_zero, List.set_cons_succ, List.getElem_toArray, List.getElem_cons_succ, List.getElem_cons_zero])
                          refine wpAnyH_ready (rs := [12]) (by kernel_rfl) (by simp) ?_
                          refine AllReadyH.cons rfl (fun K hK => ?_) AllReadyH.nil
                          go_simp
                          refine hK.out _ _ trivial (fun hHeld => ?_)
                          clear hK K
                          (try simp only [Act.put, List.setIfInBounds_toArray, List.set_cons_zero, List.set_cons_succ, List.getElem_toArray, List.getElem_cons_succ, List.getElem_cons_zero])
                          refine wpAnyH_done (by kernel_rfl) ?_ _
                          (try go_wp2_with fail)
                          go_meet
                          exact ⟨rfl, x1, x2, g', c', xs ++ [⟨ra, rb⟩], by simp; omega, ix1, by omega, Lib.hid (HZ.out.1.le (by omega))⟩
                      · go_simp
                        refine hK.out _ _ trivial (fun hHeld => ?_)
                        clear hK K hHeld
                        (try simp only [Act.put, List.setIfInBounds_toArray, List.set_cons_zero, List.set_cons_succ, List.getElem_toArray, List.getElem_cons_succ, List.getElem_cons_zero])
                        refine gen_al (W := V35) ?_
                        intro V38 hWn
                        have HS38_ := Lib.hid (by rw [hWn]; exact HS35_.out.al _ : RSt w V38 B (M + 2 + 4) R F id x1 x2 g c xs)
                        have HE38 : Hid (∀ j u, ([.int .i64 ra, .int .i64 rb] : List Value)[j]? = some u → V38.cell? ((⟨V35.heap.size, 0, none⟩ : Addr).add j) = some u) := Lib.hid (by rw [hWn]; exact two_new rfl)
                        have hHeld : (fun _ : World => True) V38 := trivial
                        clear hWn HS35_
                        refine wpAnyH_ready (rs := [1]) (by kernel_rfl) (by simp) ?_
                        refine AllReadyH.cons rfl (fun K hK => ?_) AllReadyH.nil
                        · have f3_39 := HS38_.out.f3
                          go_simp
                          refine hK.out _ _ trivial (fun hHeld => ?_)
                          clear hK K f3_39
                          (try simp only [Act.put, List.setIfInBounds_toArray, List.set_cons_zero, List.set_cons_succ, List.getElem_toArray, List.getElem_cons_succ, List.getElem_cons_zero])
                          refine wpAnyH_ready (rs := [10]) (by kernel_rfl) (by simp) ?_
                          refine AllReadyH.cons rfl (fun K hK => ?_) AllReadyH.nil
                          rw [if_pos (by rfl)]
                          refine wp_append_at _ _ _ _ rfl w.heap.size 174 i0 (.agg #[.int .i64 0, .int .i64 0]) 2 16 Try.underlying61 hi hz0 hz1 hz2 rfl (by decide) (.slice (some ⟨g, 0, none⟩) xs.length c) xs.length ((xs.map evC).flatten) (by rfl) (by exact HS38_.out.evs.ownR) ⟨V35.heap.size, 0, none⟩ 1 1 [.int .i64 ra, .int .i64 rb] (by rfl) rfl HE38.out (by simp [Value.oneCell']) (by unfold maxLen; omega) (by omega) (by have := HS38_.out.dk.sz; omega) ?_
                          intro v' w7 hown' hgrow hat
                          obtain ⟨g', c', rfl, hge⟩ := own_form hown' (Nat.succ_pos _)
                          have hat2 : g' = g ∨ g' = V38.heap.size := by simpa [Value.ownBlock] using hat
                          have HZ := Lib.hid (HS38_.out.fin hlt hwF hRF hown' hgrow hat2 (by unfold inI; omega) (by unfold inI; omega))
                          have h2_7 := HZ.out.2.cell 2
                          have h3_7 := HZ.out.2.cell 3
                          have hf_7 := HZ.out.2.frozen 3
                          simp at h2_7 h3_7
                          clear hown' hgrow hat hat2
                          refine hK.out _ _ trivial (fun hHeld => ?_)
                          clear hK K
                          (try simp only [Act.put, List.setIfInBounds_toArray, List.set_cons_zero, List.set_cons_succ, List.getElem_toArray, List.getElem_cons_succ, List.getElem_cons_zero])
                          refine wpAnyH_take (i := 11) (v := ?_) rfl (by kernel_rfl) (by kernel_rfl) (by kernel_rfl) (fun _ _ _ h => h) (Or.inl ⟨by rfl, ?_⟩) (by assumption) ?_
                          rotate_left
                          · (intro w hSw; (try dsimp only at hSw); go_simp; first | done | with_reducible rfl)
                          (try simp only [Act.put, List.setIfInBounds_toArray, List.set_cons_zero, List.set_cons_succ, List.getElem_toArray, List.getElem_cons_succ, List.getElem_cons_zero])
                          refine wpAnyH_ready (rs := [12]) (by kernel_rfl) (by simp) ?_
                          refine AllReadyH.cons rfl (fun K hK => ?_) AllReadyH.nil
                          go_simp
                          refine hK.out _ _ trivial (fun hHeld => ?_)
                          clear hK K
                          (try simp only [Act.put, List.setIfInBounds_toArray, List.set_cons_zero, List.set_cons_succ, List.getElem_toArray, List.getElem_cons_succ, List.getElem_cons_zero])
                          refine wpAnyH_done (by kernel_rfl) ?_ _
                          (try go_wp2_with fail)
                          go_meet
                          exact ⟨rfl, x1, x2, g', c', xs ++ [⟨ra, rb⟩], by simp; omega, ix1, by omega, Lib.hid (HZ.out.1.le (by omega))⟩
                · go_simp
                  refine hK.out _ _ trivial (fun hHeld => ?_)
                  clear hK K hHeld
                  (try simp only [Act.put, List.setIfInBounds_toArray, List.set_cons_zero, List.set_cons_succ, List.getElem_toArray, List.getElem_cons_succ, List.getElem_cons_zero])
                  refine gen_al (W := V16) ?_
                  intro V40 hWn
                  have HS40_ := Lib.hid (by rw [hWn]; exact HS16_.out.al _ : RSt w V40 B (M + 2 + 0) R F id x1 x2 g c xs)
                  have HL40_3 : Hid (NL V40 V0.heap.size [1, 9, 10]) := Lib.hid (by rw [hWn]; exact HL16_3.out.al _)
                  have HL40_6 : Hid (NL V40 V16.heap.size [0, 20000]) := Lib.hid (by rw [hWn]; exact new_nums V16 [0, 20000] 3 _ rfl)
                  have HN40_6 : Hid (V16.heap.size ≠ B) := Lib.hid (by have := HS16_.out.dk.cur.lt; omega)
                  have hHeld : (fun _ : World => True) V40 := trivial
                  clear hWn HS16_ HL16_3
                  refine wpAnyH_ready (rs := [1, 4]) (by kernel_rfl) (by simp) ?_
                  refine AllReadyH.cons rfl (fun K hK => ?_) (AllReadyH.cons rfl (fun K hK => ?_) AllReadyH.nil)
                  · have f3_41 := HS40_.out.f3
                    go_simp
                    refine hK.out _ _ trivial (fun hHeld => ?_)
                    clear hK K f3_41
                    (try simp only [Act.put, List.setIfInBounds_toArray, List.set_cons_zero, List.set_cons_succ, List.getElem_toArray, List.getElem_cons_succ, List.getElem_cons_zero])
                    refine wpAnyH_ready (rs := [4]) (by kernel_rfl) (by simp) ?_
                    refine AllReadyH.cons rfl (fun K hK => ?_) AllReadyH.nil
                    · go_simp
                      go_at_call 77
                      refine (amongZ_any B (M + 2 + 0) V0.heap.size 0 3 3 [1, 9, 10] _ HS40_.out.dk.cur (by omega) rfl (by omega) (by omega) HN16_3.out HL40_3.out).mono ?_
                      rintro e V42 ⟨ra, rfl, mra, hc, hg⟩
                      have bra : 1 ≤ ra ∧ ra ≤ 10 := by simp at mra; omega
                      clear mra
                      have HS42_ := Lib.hid (HS40_.out.step hlt hwR hwF hc hg)
                      have HL42_6 : Hid (NL V42 V16.heap.size [0, 20000]) := Lib.hid (HL40_6.out.grown hg HN40_6.out)
                      clear hc hg HS40_ HL40_3 HL40_6
                      (try go_wp2_with fail)
                      refine hK.out _ _ trivial (fun hHeld => ?_)
                      clear hK K
                      (try simp only [Act.put, List.setIfInBounds_toArray, List.set_cons_zero, List.set_cons_succ, List.getElem_toArray, List.getElem_cons_succ, List.getElem_cons_zero])
                      refine wpAnyH_ready (rs := [7]) (by kernel_rfl) (by simp) ?_
                      refine AllReadyH.cons rfl (fun K hK => ?_) AllReadyH.nil
                      · go_simp
                        go_at_call 77
                        refine (amongZ_any B (M + 2 + 2) V16.heap.size 0 2 2 [0, 20000] _ HS42_.out.dk.cur (by omega) rfl (by omega) (by omega) HN40_6.out HL42_6.out).mono ?_
                        rintro e V43 ⟨rb, rfl, mrb, hc, hg⟩
                        have brb : 0 ≤ rb ∧ rb ≤ 20000 := by simp at mrb; omega
                        clear mrb
                        have HS43_ := Lib.hid (HS42_.out.step hlt hwR hwF hc hg)
                        clear hc hg HS42_ HL42_6
                        (try go_wp2_with fail)
                        refine hK.out _ _ trivial (fun hHeld => ?_)
                        clear hK K
                        (try simp only [Act.put, List.setIfInBounds_toArray, List.set_cons_zero, List.set_cons_succ, List.getElem_toArray, List.getElem_cons_succ, List.getElem_cons_zero])
                        refine wpAnyH_take (i := 8) (v := ?_) rfl (by kernel_rfl) (by kernel_rfl) (by kernel_rfl) (fun _ _ _ h => h) (Or.inl ⟨by rfl, ?_⟩) (by assumption) ?_
                        rotate_left
                        · (intro w hSw; (try dsimp only at hSw); go_simp; first | done | with_reducible rfl)
                        (try simp only [Act.put, List.setIfInBounds_toArray, List.set_cons_zero, List.set_cons_succ, List.getElem_toArray, List.getElem_cons_succ, List.getElem_cons_zero])
                        refine wpAnyH_ready (rs := [9]) (by kernel_rfl) (by simp) ?_
                        refine AllReadyH.cons rfl (fun K hK => ?_) AllReadyH.nil
                        · go_simp
                          refine hK.out _ _ trivial (fun hHeld => ?_)
                          clear hK K hHeld
                          (try simp only [Act.put, List.setIfInBounds_toArray, List.set_cons_zero, List.set_cons_succ, List.getElem_toArray, List.getElem_cons_succ, List.getElem_cons_zero])
                          refine gen_al (W := V43) ?_
                          intro V44 hWn
                          have HS44_ := Lib.hid (by rw [hWn]; exact HS43_.out.al _ : RSt w V44 B (M + 2 + 4) R F id x1 x2 g c xs)
                          have HE44 : Hid (∀ j u, ([.int .i64 ra, .int .i64 rb] : List Value)[j]? = some u → V44.cell? ((⟨V43.heap.size, 0, none⟩ : Addr).add j) = some u) := Lib.hid (by rw [hWn]; exact two_new rfl)
                          have hHeld : (fun _ : World => True) V44 := trivial
                          clear hWn HS43_
                          refine wpAnyH_ready (rs := [10]) (by kernel_rfl) (by simp) ?_
                          refine AllReadyH.cons rfl (fun K hK => ?_) AllReadyH.nil
                          rw [if_pos (by rfl)]
                          refine wp_append_at _ _ _ _ rfl w.heap.size 174 i0 (.agg #[.int .i64 0, .int .i64 0]) 2 16 Try.underlying61 hi hz0 hz1 hz2 rfl (by decide) (.slice (some ⟨g, 0, none⟩) xs.length c) xs.length ((xs.map evC).flatten) (by rfl) (by exact HS44_.out.evs.ownR) ⟨V43.heap.size, 0, none⟩ 1 1 [.int .i64 ra, .int .i64 rb] (by rfl) rfl HE44.out (by simp [Value.oneCell']) (by unfold maxLen; omega) (by omega) (by have := HS44_.out.dk.sz; omega) ?_
                          intro v' w7 hown' hgrow hat
                          obtain ⟨g', c', rfl, hge⟩ := own_form hown' (Nat.succ_pos _)
                          have hat2 : g' = g ∨ g' = V44.heap.size := by simpa [Value.ownBlock] using hat
                          have HZ := Lib.hid (HS44_.out.fin hlt hwF hRF hown' hgrow hat2 (by unfold inI; omega) (by unfold inI; omega))
                          have h2_7 := HZ.out.2.cell 2
                          have h3_7 := HZ.out.2.cell 3
                          have hf_7 := HZ.out.2.frozen 3
                          simp at h2_7 h3_7
                          clear hown' hgrow hat hat2
                          refine hK.out _ _ trivial (fun hHeld => ?_)
                          clear hK K
                          (try simp only [Act.put, List.setIfInBounds_toArray, List.set_cons_zero, List.set_cons_succ, List.getElem_toArray, List.getElem_cons_succ, List.getElem_cons_zero])
                          refine wpAnyH_take (i := 11) (v := ?_) rfl (by kernel_rfl) (by kernel_rfl) (by kernel_rfl) (fun _ _ _ h => h) (Or.inl ⟨by rfl, ?_⟩) (by assumption) ?_
                          rotate_left
                          · (intro w hSw; (try dsimp only at hSw); go_simp; first | done | with_reducible rfl)
                          (try simp only [Act.put, List.setIfInBounds_toArray, List.set_cons_zero, List.set_cons_succ, List.getElem_toArray, List.getElem_cons_succ, List.getElem_cons_zero])
                          refine wpAnyH_ready (rs := [12]) (by kernel_rfl) (by simp) ?_
                          refine AllReadyH.cons rfl (fun K hK => ?_) AllReadyH.nil
                          go_simp
                          refine hK.out _ _ trivial (fun hHeld => ?_)
                          clear hK K
                          (try simp only [Act.put, List.setIfInBounds_toArray, List.set_cons_zero, List.set_cons_succ, List.getElem_toArray, List.getElem_cons_succ, List.getElem_cons_zero])
                          refine wpAnyH_done (by kernel_rfl) ?_ _
                          (try go_wp2_with fail)
                          go_meet
                          exact ⟨rfl, x1, x2, g', c', xs ++ [⟨ra, rb⟩], by simp; omega, ix1, by omega, Lib.hid (HZ.out.1.le (by omega))⟩
                  · go_simp
                    go_at_call 77
                    refine (amongZ_any B (M + 2 + 0) V0.heap.size 0 3 3 [1, 9, 10] _ HS40_.out.dk.cur (by omega) rfl (by omega) (by omega) HN16_3.out HL40_3.out).mono ?_
                    rintro e V45 ⟨ra, rfl, mra, hc, hg⟩
                    have bra : 1 ≤ ra ∧ ra ≤ 10 := by simp at mra; omega
                    clear mra
                    have HS45_ := Lib.hid (HS40_.out.step hlt hwR hwF hc hg)
                    have HL45_6 : Hid (NL V45 V16.heap.size [0, 20000]) := Lib.hid (HL40_6.out.grown hg HN40_6.out)
                    clear hc hg HS40_ HL40_3 HL40_6
                    (try go_wp2_with fail)
                    refine hK.out _ _ trivial (fun hHeld => ?_)
                    clear hK K
                    (try simp only [Act.put, List.setIfInBounds_toArray, List.set_cons_zero, List.set_cons_succ, List.getElem_toArray, List.getElem_cons_succ, List.getElem_cons_zero])
                    refine wpAnyH_ready (rs := [1, 7]) (by kernel_rfl) (by simp) ?_
                    refine AllReadyH.cons rfl (fun K hK => ?_) (AllReadyH.cons rfl (fun K hK => ?_) AllReadyH.nil)
                    · have f3_46 := HS45_.out.f3
                      go_simp
                      refine hK.out _ _ trivial (fun hHeld => ?_)
                      clear hK K f3_46
                      (try simp only [Act.put, List.setIfInBounds_toArray, List.set_cons_zero, List.set_cons_succ, List.getElem_toArray, List.getElem_cons_succ, List.getElem_cons_zero])
                      refine wpAnyH_ready (rs := [7]) (by kernel_rfl) (by simp) ?_
                      refine AllReadyH.cons rfl (fun K hK => ?_) AllReadyH.nil
                      · go_simp
                        go_at_call 77
                        refine (amongZ_any B (M + 2 + 2) V16.heap.size 0 2 2 [0, 20000] _ HS45_.out.dk.cur (by omega) rfl (by omega) (by omega) HN40_6.out HL45_6.out).mono ?_
                        rintro e V47 ⟨rb, rfl, mrb, hc, hg⟩
                        have brb : 0 ≤ rb ∧ rb ≤ 20000 := by simp at mrb; omega
                        clear mrb
                        have HS47_ := Lib.hid (HS45_.out.step hlt hwR hwF hc hg)
                        clear hc hg HS45_ HL45_6
                        (try go_wp2_with fail)
                        refine hK.out _ _ trivial (fun hHeld => ?_)
                        clear hK K
                        (try simp only [Act.put, List.setIfInBounds_toArray, List.set_cons_zero, List.set_cons_succ, List.getElem_toArray, List.getElem_cons_succ, List.getElem_cons_zero])
                        refine wpAnyH_take (i := 8) (v := ?_) rfl (by kernel_rfl) (by kernel_rfl) (by kernel_rfl) (fun _ _ _ h => h) (Or.inl ⟨by rfl, ?_⟩) (by assumption) ?_
                        rotate_left
                        · (intro w hSw; (try dsimp only at hSw); go_simp; first | done | with_reducible rfl)
                        (try simp only [Act.put, List.setIfInBounds_toArray, List.set_cons_zero, List.set_cons_succ, List.getElem_toArray, List.getElem_cons_succ, List.getElem_cons_zero])
                        refine wpAnyH_ready (rs := [9]) (by kernel_rfl) (by simp) ?_
                        refine AllReadyH.cons rfl (fun K hK => ?_) AllReadyH.nil
                        · go_simp
                          refine hK.out _ _ trivial (fun hHeld => ?_)
                          clear hK K hHeld
                          (try simp only [Act.put, List.setIfInBounds_toArray, List.set_cons_zero, List.set_cons_succ, List.getElem_toArray, List.getElem_cons_succ, List.getElem_cons_zero])
                          refine gen_al (W := V47) ?_
                          intro V48 hWn
                          have HS48_ := Lib.hid (by rw [hWn]; exact HS47_.out.al _ : RSt w V48 B (M + 2 + 4) R F id x1 x2 g c xs)
                          have HE48 : Hid (∀ j u, ([.int .i64 ra, .int .i64 rb] : List Value)[j]? = some u → V48.cell? ((⟨V47.heap.size, 0, none⟩ : Addr).add j) = some u) := Lib.hid (by rw [hWn]; exact two_new rfl)
                          have hHeld : (fun _ : World => True) V48 := trivial
                          clear hWn HS47_
                          refine wpAnyH_ready (rs := [10]) (by kernel_rfl) (by simp) ?_
                          refine AllReadyH.cons rfl (fun K hK => ?_) AllReadyH.nil
                          rw [if_pos (by rfl)]
                          refine wp_append_at _ _ _ _ rfl w.heap.size 174 i0 (.agg #[.int .i64 0, .int .i64 0]) 2 16 Try.underlying61 hi hz0 hz1 hz2 rfl (by decide) (.slice (some ⟨g, 0, none⟩) xs.length c) xs.length ((xs.map evC).flatten) (by rfl) (by exact HS48_.out.evs.ownR) ⟨V47.heap.size, 0, none⟩ 1 1 [.int .i64 ra, .int .i64 rb] (by rfl) rfl HE48.out (by simp [Value.oneCell']) (by unfold maxLen; omega) (by omega) (by have := HS48_.out.dk.sz; omega) ?_
                          intro v' w7 hown' hgrow hat
                          obtain ⟨g', c', rfl, hge⟩ := own_form hown' (Nat.succ_pos _)
                          have hat2 : g' = g ∨ g' = V48.heap.size := by simpa [Value.ownBlock] using hat
                          have HZ := Lib.hid (HS48_.out.fin hlt hwF hRF hown' hgrow hat2 (by unfold inI; omega) (by unfold inI; omega))
                          have h2_7 := HZ.out.2.cell 2
                          have h3_7 := HZ.out.2.cell 3
                          have hf_7 := HZ.out.2.frozen 3
                          simp at h2_7 h3_7
                          clear hown' hgrow hat hat2
                          refine hK.out _ _ trivial (fun hHeld => ?_)
                          clear hK K
                          (try simp only [Act.put, List.setIfInBounds_toArray, List.set_cons_zero, List.set_cons_succ, List.getElem_toArray, List.getElem_cons_succ, List.getElem_cons_zero])
                          refine wpAnyH_take (i := 11) (v := ?_) rfl (by kernel_rfl) (by kernel_rfl) (by kernel_rfl) (fun _ _ _ h => h) (Or.inl ⟨by rfl, ?_⟩) (by assumption) ?_
                          rotate_left
                          · (intro w hSw; (try dsimp only at hSw); go_simp; first | done | with_reducible rfl)
                          (try simp only [Act.put, List.setIfInBounds_toArray, List.set_cons_zero, List.set_cons_succ, List.getElem_toArray, List.getElem_cons_succ, List.getElem_cons_zero])
                          refine wpAnyH_ready (rs := [12]) (by kernel_rfl) (by simp) ?_
                          refine AllReadyH.cons rfl (fun K hK => ?_) AllReadyH.nil
                          go_simp
                          refine hK.out _ _ trivial (fun hHeld => ?_)
                          clear hK K
                          (try simp only [Act.put, List.setIfInBounds_toArray, List.set_cons_zero, List.set_cons_succ, List.getElem_toArray, List.getElem_cons_succ, List.getElem_cons_zero])
                          refine wpAnyH_done (by kernel_rfl) ?_ _
                          (try go_wp2_with fail)
                          go_meet
                          exact ⟨rfl, x1, x2, g', c', xs ++ [⟨ra, rb⟩], by simp; omega, ix1, by omega, Lib.hid (HZ.out.1.le (by omega))⟩
                    · go_simp
                      go_at_call 77
                      refine (amongZ_any B (M + 2 + 2) V16.heap.size 0 2 2 [0, 20000] _ HS45_.out.dk.cur (by omega) rfl (by omega) (by omega) HN40_6.out HL45_6.out).mono ?_
                      rintro e V49 ⟨rb, rfl, mrb, hc, hg⟩
                      have brb : 0 ≤ rb ∧ rb ≤ 20000 := by simp at mrb; omega
                      clear mrb
                      have HS49_ := Lib.hid (HS45_.out.step hlt hwR hwF hc hg)
                      clear hc hg HS45_ HL45_6
                      (try go_wp2_with fail)
                      refine hK.out _ _ trivial (fun hHeld => ?_)
                      clear hK K
                      (try simp only [Act.put, List.setIfInBounds_toArray, List.set_cons_zero, List.set_cons_succ, List.getElem_toArray, List.getElem_cons_succ, List.getElem_cons_zero])
                      refine wpAnyH_take (i := 8) (v := ?_) rfl (by kernel_rfl) (by kernel_rfl) (by kernel_rfl) (fun _ _ _ h => h) (Or.inl ⟨by rfl, ?_⟩) (by assumption) ?_
                      rotate_left
                      · (intro w hSw; (try dsimp only at hSw); go_simp; first | done | with_reducible rfl)
                      (try simp only [Act.put, List.setIfInBounds_toArray, List.set_cons_zero, List.set_cons_succ, List.getElem_toArray, List.getElem_cons_succ, List.getElem_cons_zero])
                      refine wpAnyH_ready (rs := [1, 9]) (by kernel_rfl) (by simp) ?_
                      refine AllReadyH.cons rfl (fun K hK => ?_) (AllReadyH.cons rfl (fun K hK => ?_) AllReadyH.nil)
                      · have f3_50 := HS49_.out.f3
                        go_simp
                        refine hK.out _ _ trivial (fun hHeld => ?_)
                        clear hK K f3_50
                        (try simp only [Act.put, List.setIfInBounds_toArray, List.set_cons_zero, List.set_cons_succ, List.getElem_toArray, List.getElem_cons_succ, List.getElem_cons_zero])
                        refine wpAnyH_ready (rs := [9]) (by kernel_rfl) (by simp) ?_
                        refine AllReadyH.cons rfl (fun K hK => ?_) AllReadyH.nil
                        · go_simp
                          refine hK.out _ _ trivial (fun hHeld => ?_)
                          clear hK K hHeld
                          (try simp only [Act.put, List.setIfInBounds_toArray, List.set_cons_zero, List.set_cons_succ, List.getElem_toArray, List.getElem_cons_succ, List.getElem_cons_zero])
                          refine gen_al (W := V49) ?_
                          intro V51 hWn
                          have HS51_ := Lib.hid (by rw [hWn]; exact HS49_.out.al _ : RSt w V51 B (M + 2 + 4) R F id x1 x2 g c xs)
                          have HE51 : Hid (∀ j u, ([.int .i64 ra, .int .i64 rb] : List Value)[j]? = some u → V51.cell? ((⟨V49.heap.size, 0, none⟩ : Addr).add j) = some u) := Lib.hid (by rw [hWn]; exact two_new rfl)
                          have hHeld : (fun _ : World => True) V51 := trivial
                          clear hWn HS49_
                          refine wpAnyH_ready (rs := [10]) (by kernel_rfl) (by simp) ?_
                          refine AllReadyH.cons rfl (fun K hK => ?_) AllReadyH.nil
                          rw [if_pos (by rfl)]
                          refine wp_append_at _ _ _ _ rfl w.heap.size 174 i0 (.agg #[.int .i64 0, .int .i64 0]) 2 16 Try.underlying61 hi hz0 hz1 hz2 rfl (by decide) (.slice (some ⟨g, 0, none⟩) xs.length c) xs.length ((xs.map evC).flatten) (by rfl) (by exact HS51_.out.evs.ownR) ⟨V49.heap.size, 0, none⟩ 1 1 [.int .i64 ra, .int .i64 rb] (by rfl) rfl HE51.out (by simp [Value.oneCell']) (by unfold maxLen; omega) (by omega) (by have := HS51_.out.dk.sz; omega) ?_
                          intro v' w7 hown' hgrow hat
                          obtain ⟨g', c', rfl, hge⟩ := own_form hown' (Nat.succ_pos _)
                          have hat2 : g' = g ∨ g' = V51.heap.size := by simpa [Value.ownBlock] using hat
                          have HZ := Lib.hid (HS51_.out.fin hlt hwF hRF hown' hgrow hat2 (by unfold inI; omega) (by unfold inI; omega))
                          have h2_7 := HZ.out.2.cell 2
                          have h3_7 := HZ.out.2.cell 3
                          have hf_7 := HZ.out.2.frozen 3
                          simp at h2_7 h3_7
                          clear hown' hgrow hat hat2
                          refine hK.out _ _ trivial (fun hHeld => ?_)
                          clear hK K
                          (try simp only [Act.put, List.setIfInBounds_toArray, List.set_cons_zero, List.set_cons_succ, List.getElem_toArray, List.getElem_cons_succ, List.getElem_cons_zero])
                          refine wpAnyH_take (i := 11) (v := ?_) rfl (by kernel_rfl) (by kernel_rfl) (by kernel_rfl) (fun _ _ _ h => h) (Or.inl ⟨by rfl, ?_⟩) (by assumption) ?_
                          rotate_left
                          · (intro w hSw; (try dsimp only at hSw); go_simp; first | done | with_reducible rfl)
                          (try simp only [Act.put, List.setIfInBounds_toArray, List.set_cons_zero, List.set_cons_succ, List.getElem_toArray, List.getElem_cons_succ, List.getElem_cons_zero])
                          refine wpAnyH_ready (rs := [12]) (by kernel_rfl) (by simp) ?_
                          refine AllReadyH.cons rfl (fun K hK => ?_) AllReadyH.nil
                          go_simp
                          refine hK.out _ _ trivial (fun hHeld => ?_)
                          clear hK K
                          (try simp only [Act.put, List.setIfInBounds_toArray, List.set_cons_zero, List.set_cons_succ, List.getElem_toArray, List.getElem_cons_succ, List.getElem_cons_zero])
                          refine wpAnyH_done (by kernel_rfl) ?_ _
                          (try go_wp2_with fail)
                          go_meet
                          exact ⟨rfl, x1, x2, g', c', xs ++ [⟨ra, rb⟩], by simp; omega, ix1, by omega, Lib.hid (HZ.out.1.le (by omega))⟩
                      · go_simp
                        refine hK.out _ _ trivial (fun hHeld => ?_)
                        clear hK K hHeld
                        (try simp only [Act.put, List.setIfInBounds_toArray, List.set_cons_zero, List.set_cons_succ, List.getElem_toArray, List.getElem_cons_succ, List.getElem_cons_zero])
                        refine gen_al (W := V49) ?_
                        intro V52 hWn
                        have HS52_ := Lib.hid (by rw [hWn]; exact HS49_.out.al _ : RSt w V52 B (M + 2 + 4) R F id x1 x2 g c xs)
                        have HE52 : Hid (∀ j u, ([.int .i64 ra, .int .i64 rb] : List Value)[j]? = some u → V52.cell? ((⟨V49.heap.size, 0, none⟩ : Addr).add j) = some u) := Lib.hid (by rw [hWn]; exact two_new rfl)
                        have hHeld : (fun _ : World => True) V52 := trivial
                        clear hWn HS49_
                        refine wpAnyH_ready (rs := [1]) (by kernel_rfl) (by simp) ?_
                        refine AllReadyH.cons rfl (fun K hK => ?_) AllReadyH.nil
                        · have f3_53 := HS52_.out.f3
                          go_simp
                          refine hK.out _ _ trivial (fun hHeld => ?_)
                          clear hK K f3_53
                          (try simp only [Act.put, List.setIfInBounds_toArray, List.set_cons_zero, List.set_cons_succ, List.getElem_toArray, List.getElem_cons_succ, List.getElem_cons_zero])
                          refine wpAnyH_ready (rs := [10]) (by kernel_rfl) (by simp) ?_
                          refine AllReadyH.cons rfl (fun K hK => ?_) AllReadyH.nil
                          rw [if_pos (by rfl)]
                          refine wp_append_at _ _ _ _ rfl w.heap.size 174 i0 (.agg #[.int .i64 0, .int .i64 0]) 2 16 Try.underlying61 hi hz0 hz1 hz2 rfl (by decide) (.slice (some ⟨g, 0, none⟩) xs.length c) xs.length ((xs.map evC).flatten) (by rfl) (by exact HS52_.out.evs.ownR) ⟨V49.heap.size, 0, none⟩ 1 1 [.int .i64 ra, .int .i64 rb] (by rfl) rfl HE52.out (by simp [Value.oneCell']) (by unfold maxLen; omega) (by omega) (by have := HS52_.out.dk.sz; omega) ?_
                          intro v' w7 hown' hgrow hat
                          obtain ⟨g', c', rfl, hge⟩ := own_form hown' (Nat.succ_pos _)
                          have hat2 : g' = g ∨ g' = V52.heap.size := by simpa [Value.ownBlock] using hat
                          have HZ := Lib.hid (HS52_.out.fin hlt hwF hRF hown' hgrow hat2 (by unfold inI; omega) (by unfold inI; omega))
                          have h2_7 := HZ.out.2.cell 2
                          have h3_7 := HZ.out.2.cell 3
                          have hf_7 := HZ.out.2.frozen 3
                          simp at h2_7 h3_7
                          clear hown' hgrow hat hat2
                          refine hK.out _ _ trivial (fun hHeld => ?_)
                          clear hK K
                          (try simp only [Act.put, List.setIfInBounds_toArray, List.set_cons_zero, List.set_cons_succ, List.getElem_toArray, List.getElem_cons_succ, List.getElem_cons_zero])
                          refine wpAnyH_take (i := 11) (v := ?_) rfl (by kernel_rfl) (by kernel_rfl) (by kernel_rfl) (fun _ _ _ h => h) (Or.inl ⟨by rfl, ?_⟩) (by assumption) ?_
                          rotate_left
                          · (intro w hSw; (try dsimp only at hSw); go_simp; first | done | with_reducible rfl)
                          (try simp only [Act.put, List.setIfInBounds_toArray, List.set_cons_zero, List.set_cons_succ, List.getElem_toArray, List.getElem_cons_succ, List.getElem_cons_zero])
                          refine wpAnyH_ready (rs := [12]) (by kernel_rfl) (by simp) ?_
                          refine AllReadyH.cons rfl (fun K hK => ?_) AllReadyH.nil
                          go_simp
                          refine hK.out _ _ trivial (fun hHeld => ?_)
                          clear hK K
                          (try simp only [Act.put, List.setIfInBounds_toArray, List.set_cons_zero, List.set_cons_succ, List.getElem_toArray, List.getElem_cons_succ, List.getElem_cons_zero])
                          refine wpAnyH_done (by kernel_rfl) ?_ _
                          (try go_wp2_with fail)
                          go_meet
                          exact ⟨rfl, x1, x2, g', c', xs ++ [⟨ra, rb⟩], by simp; omega, ix1, by omega, Lib.hid (HZ.out.1.le (by omega))⟩
              · go_simp
                refine hK.out _ _ trivial (fun hHeld => ?_)
                clear hK K hHeld
                (try simp only [Act.put, List.setIfInBounds_toArray, List.set_cons_zero, List.set_cons_succ, List.getElem_toArray, List.getElem_cons_succ, List.getElem_cons_zero])
                refine gen_al (W := V0) ?_
                intro V54 hWn
                have HS54_ := Lib.hid (by rw [hWn]; exact HS0_.out.al _ : RSt w V54 B (M + 2 + 0) R F id x1 x2 g c xs)
                have HL54_6 : Hid (NL V54 V0.heap.size [0, 20000]) := Lib.hid (by rw [hWn]; exact new_nums V0 [0, 20000] 3 _ rfl)
                have HN54_6 : Hid (V0.heap.size ≠ B) := Lib.hid (by have := HS0_.out.dk.cur.lt; omega)
                have hHeld : (fun _ : World => True) V54 := trivial
                clear hWn HS0_
                refine wpAnyH_ready (rs := [1, 3]) (by kernel_rfl) (by simp) ?_
                refine AllReadyH.cons rfl (fun K hK => ?_) (AllReadyH.cons rfl (fun K hK => ?_) AllReadyH.nil)
                · have f3_55 := HS54_.out.f3
                  go_simp
                  refine hK.out _ _ trivial (fun hHeld => ?_)
                  clear hK K f3_55
                  (try simp only [Act.put, List.setIfInBounds_toArray, List.set_cons_zero, List.set_cons_succ, List.getElem_toArray, List.getElem_cons_succ, List.getElem_cons_zero])
                  refine wpAnyH_ready (rs := [3]) (by kernel_rfl) (by simp) ?_
                  refine AllReadyH.cons rfl (fun K hK => ?_) AllReadyH.nil
                  · go_simp
                    refine hK.out _ _ trivial (fun hHeld => ?_)
                    clear hK K hHeld
                    (try simp only [Act.put, List.setIfInBounds_toArray, List.set_cons_zero, List.set_cons_succ, List.getElem_toArray, List.getElem_cons_succ, List.getElem_cons_zero])
                    refine gen_al (W := V54) ?_
                    intro V56 hWn
                    have HS56_ := Lib.hid (by rw [hWn]; exact HS54_.out.al _ : RSt w V56 B (M + 2 + 0) R F id x1 x2 g c xs)
                    have HL56_6 : Hid (NL V56 V0.heap.size [0, 20000]) := Lib.hid (by rw [hWn]; exact HL54_6.out.al _)
                    have HL56_3 : Hid (NL V56 V54.heap.size [1, 9, 10]) := Lib.hid (by rw [hWn]; exact new_nums V54 [1, 9, 10] 3 _ rfl)
                    have HN56_3 : Hid (V54.heap.size ≠ B) := Lib.hid (by have := HS54_.out.dk.cur.lt; omega)
                    have hHeld : (fun _ : World => True) V56 := trivial
                    clear hWn HS54_ HL54_6
                    refine wpAnyH_ready (rs := [4]) (by kernel_rfl) (by simp) ?_
                    refine AllReadyH.cons rfl (fun K hK => ?_) AllReadyH.nil
                    · go_simp
                      go_at_call 77
                      refine (amongZ_any B (M + 2 + 0) V54.heap.size 0 3 3 [1, 9, 10] _ HS56_.out.dk.cur (by omega) rfl (by omega) (by omega) HN56_3.out HL56_3.out).mono ?_
                      rintro e V57 ⟨ra, rfl, mra, hc, hg⟩
                      have bra : 1 ≤ ra ∧ ra ≤ 10 := by simp at mra; omega
                      clear mra
                      have HS57_ := Lib.hid (HS56_.out.step hlt hwR hwF hc hg)
                      have HL57_6 : Hid (NL V57 V0.heap.size [0, 20000]) := Lib.hid (HL56_6.out.grown hg HN54_6.out)
                      clear hc hg HS56_ HL56_3 HL56_6
                      (try go_wp2_with fail)
                      refine hK.out _ _ trivial (fun hHeld => ?_)
                      clear hK K
                      (try simp only [Act.put, List.setIfInBounds_toArray, List.set_cons_zero, List.set_cons_succ, List.getElem_toArray, List.getElem_cons_succ, List.getElem_cons_zero])
                      refine wpAnyH_ready (rs := [7]) (by kernel_rfl) (by simp) ?_
                      refine AllReadyH.cons rfl (fun K hK => ?_) AllReadyH.nil
                      · go_simp
                        go_at_call 77
                        refine (amongZ_any B (M + 2 + 2) V0.heap.size 0 2 2 [0, 20000] _ HS57_.out.dk.cur (by omega) rfl (by omega) (by omega) HN54_6.out HL57_6.out).mono ?_
                        rintro e V58 ⟨rb, rfl, mrb, hc, hg⟩
                        have brb : 0 ≤ rb ∧ rb ≤ 20000 := by simp at mrb; omega
                        clear mrb
                        have HS58_ := Lib.hid (HS57_.out.step hlt hwR hwF hc hg)
                        clear hc hg HS57_ HL57_6
                        (try go_wp2_with fail)
                        refine hK.out _ _ trivial (fun hHeld => ?_)
                        clear hK K
                        (try simp only [Act.put, List.setIfInBounds_toArray, List.set_cons_zero, List.set_cons_succ, List.getElem_toArray, List.getElem_cons_succ, List.getElem_cons_zero])
                        refine wpAnyH_take (i := 8) (v := ?_) rfl (by kernel_rfl) (by kernel_rfl) (by kernel_rfl) (fun _ _ _ h => h) (Or.inl ⟨by rfl, ?_⟩) (by assumption) ?_
                        rotate_left
                        · (intro w hSw; (try dsimp only at hSw); go_simp; first | done | with_reducible rfl)
                        (try simp only [Act.put, List.setIfInBounds_toArray, List.set_cons_zero, List.set_cons_succ, List.getElem_toArray, List.getElem_cons_succ, List.getElem_cons_zero])
                        refine wpAnyH_ready (rs := [9]) (by kernel_rfl) (by simp) ?_
                        refine AllReadyH.cons rfl (fun K hK => ?_) AllReadyH.nil
                        · go_simp
                          refine hK.out _ _ trivial (fun hHeld => ?_)
                          clear hK K hHeld
                          (try simp only [Act.put, List.setIfInBounds_toArray, List.set_cons_zero, List.set_cons_succ, List.getElem_toArray, List.getElem_cons_succ, List.getElem_cons_zero])
                          refine gen_al (W := V58) ?_
                          intro V59 hWn
                          have HS59_ := Lib.hid (by rw [hWn]; exact HS58_.out.al _ : RSt w V59 B (M + 2 + 4) R F id x1 x2 g c xs)
                          have HE59 : Hid (∀ j u, ([.int .i64 ra, .int .i64 rb] : List Value)[j]? = some u → V59.cell? ((⟨V58.heap.size, 0, none⟩ : Addr).add j) = some u) := Lib.hid (by rw [hWn]; exact two_new rfl)
                          have hHeld : (fun _ : World => True) V59 := trivial
                          clear hWn HS58_
                          refine wpAnyH_ready (rs := [10]) (by kernel_rfl) (by simp) ?_
                          refine AllReadyH.cons rfl (fun K hK => ?_) AllReadyH.nil
                          rw [if_pos (by rfl)]
                          refine wp_append_at _ _ _ _ rfl w.heap.size 174 i0 (.agg #[.int .i64 0, .int .i64 0]) 2 16 Try.underlying61 hi hz0 hz1 hz2 rfl (by decide) (.slice (some ⟨g, 0, none⟩) xs.length c) xs.length ((xs.map evC).flatten) (by rfl) (by exact HS59_.out.evs.ownR) ⟨V58.heap.size, 0, none⟩ 1 1 [.int .i64 ra, .int .i64 rb] (by rfl) rfl HE59.out (by simp [Value.oneCell']) (by unfold maxLen; omega) (by omega) (by have := HS59_.out.dk.sz; omega) ?_
                          intro v' w7 hown' hgrow hat
                          obtain ⟨g', c', rfl, hge⟩ := own_form hown' (Nat.succ_pos _)
                          have hat2 : g' = g ∨ g' = V59.heap.size := by simpa [Value.ownBlock] using hat
                          have HZ := Lib.hid (HS59_.out.fin hlt hwF hRF hown' hgrow hat2 (by unfold inI; omega) (by unfold inI; omega))
                          have h2_7 := HZ.out.2.cell 2
                          have h3_7 := HZ.out.2.cell 3
                          have hf_7 := HZ.out.2.frozen 3
                          simp at h2_7 h3_7
                          clear hown' hgrow hat hat2
                          refine hK.out _ _ trivial (fun hHeld => ?_)
                          clear hK K
                          (try simp only [Act.put, List.setIfInBounds_toArray, List.set_cons_zero, List.set_cons_succ, List.getElem_toArray, List.getElem_cons_succ, List.getElem_cons_zero])
                          refine wpAnyH_take (i := 11) (v := ?_) rfl (by kernel_rfl) (by kernel_rfl) (by kernel_rfl) (fun _ _ _ h => h) (Or.inl ⟨by rfl, ?_⟩) (by assumption) ?_
                          rotate_left
                          · (intro w hSw; (try dsimp only at hSw); go_simp; first | done | with_reducible rfl)
                          (try simp only [Act.put, List.setIfInBounds_toArray, List.set_cons_zero, List.set_cons_succ, List.getElem_toArray, List.getElem_cons_succ, List.getElem_cons_zero])
                          refine wpAnyH_ready (rs := [12]) (by kernel_rfl) (by simp) ?_
                          refine AllReadyH.cons rfl (fun K hK => ?_) AllReadyH.nil
                          go_simp
                          refine hK.out _ _ trivial (fun hHeld => ?_)
                          clear hK K
                          (try simp only [Act.put, List.setIfInBounds_toArray, List.set_cons_zero, List.set_cons_succ, List.getElem_toArray, List.getElem_cons_succ, List.getElem_cons_zero])
                          refine wpAnyH_done (by kernel_rfl) ?_ _
                          (try go_wp2_with fail)
                          go_meet
                          exact ⟨rfl, x1, x2, g', c', xs ++ [⟨ra, rb⟩], by simp; omega, ix1, by omega, Lib.hid (HZ.out.1.le (by omega))⟩
                · go_simp
                  refine hK.out _ _ trivial (fun hHeld => ?_)
                  clear hK K hHeld
                  (try simp only [Act.put, List.setIfInBounds_toArray, List.set_cons_zero, List.set_cons_succ, List.getElem_toArray, List.getElem_cons_succ, List.getElem_cons_zero])
                  refine gen_al (W := V54) ?_
                  intro V60 hWn
                  have HS60_ := Lib.hid (by rw [hWn]; exact HS54_.out.al _ : RSt w V60 B (M + 2 + 0) R F id x1 x2 g c xs)
                  have HL60_6 : Hid (NL V60 V0.heap.size [0, 20000]) := Lib.hid (by rw [hWn]; exact HL54_6.out.al _)
                  have HL60_3 : Hid (NL V60 V54.heap.size [1, 9, 10]) := Lib.hid (by rw [hWn]; exact new_nums V54 [1, 9, 10] 3 _ rfl)
                  have HN60_3 : Hid (V54.heap.size ≠ B) := Lib.hid (by have := HS54_.out.dk.cur.lt; omega)
                  have hHeld : (fun _ : World => True) V60 := trivial
                  clear hWn HS54_ HL54_6
                  refine wpAnyH_ready (rs := [1, 4]) (by kernel_rfl) (by simp) ?_
                  refine AllReadyH.cons rfl (fun K hK => ?_) (AllReadyH.cons rfl (fun K hK => ?_) AllReadyH.nil)
                  · have f3_61 := HS60_.out.f3
                    go_simp
                    refine hK.out _ _ trivial (fun hHeld => ?_)
                    clear hK K f3_61
                    (try simp only [Act.put, List.setIfInBounds_toArray, List.set_cons_zero, List.set_cons_succ, List.getElem_toArray, List.getElem_cons_succ, List.getElem_cons_zero])
                    refine wpAnyH_ready (rs := [4]) (by kernel_rfl) (by simp) ?_
                    refine AllReadyH.cons rfl (fun K hK => ?_) AllReadyH.nil
                    · go_simp
                      go_at_call 77
                      refine (amongZ_any B (M + 2 + 0) V54.heap.size 0 3 3 [1, 9, 10] _ HS60_.out.dk.cur (by omega) rfl (by omega) (by omega) HN60_3.out HL60_3.out).mono ?_
                      rintro e V62 ⟨ra, rfl, mra, hc, hg⟩
                      have bra : 1 ≤ ra ∧ ra ≤ 10 := by simp at mra; omega
                      clear mra
                      have HS62_ := Lib.hid (HS60_.out.step hlt hwR hwF hc hg)
                      have HL62_6 : Hid (NL V62 V0.heap.size [0, 20000]) := Lib.hid (HL60_6.out.grown hg HN54_6.out)
                      clear hc hg HS60_ HL60_3 HL60_6
                      (try go_wp2_with fail)
                      refine hK.out _ _ trivial (fun hHeld => ?_)
                      clear hK K
                      (try simp only [Act.put, List.setIfInBounds_toArray, List.set_cons_zero, List.set_cons_succ, List.getElem_toArray, List.getElem_cons_succ, List.getElem_cons_zero])
                      refine wpAnyH_ready (rs := [7]) (by kernel_rfl) (by simp) ?_
                      refine AllReadyH.cons rfl (fun K hK => ?_) AllReadyH.nil
                      · go_simp
                        go_at_call 77
                        refine (amongZ_any B (M + 2 + 2) V0.heap.size 0 2 2 [0, 20000] _ HS62_.out.dk.cur (by omega) rfl (by omega) (by omega) HN54_6.out HL62_6.out).mono ?_
                        rintro e V63 ⟨rb, rfl, mrb, hc, hg⟩
                        have brb : 0 ≤ rb ∧ rb ≤ 20000 := by simp at mrb; omega
                        clear mrb
                        have HS63_ := Lib.hid (HS62_.out.step hlt hwR hwF hc hg)
                        clear hc hg HS62_ HL62_6
                        (try go_wp2_with fail)
                        refine hK.out _ _ trivial (fun hHeld => ?_)
                        clear hK K
                        (try simp only [Act.put, List.setIfInBounds_toArray, List.set_cons_zero, List.set_cons_succ, List.getElem_toArray, List.getElem_cons_succ, List.getElem_cons_zero])
                        refine wpAnyH_take (i := 8) (v := ?_) rfl (by kernel_rfl) (by kernel_rfl) (by kernel_rfl) (fun _ _ _ h => h) (Or.inl ⟨by rfl, ?_⟩) (by assumption) ?_
                        rotate_left
                        · (intro w hSw; (try dsimp only at hSw); go_simp; first | done | with_reducible rfl)
                        (try simp only [Act.put, List.setIfInBounds_toArray, List.set_cons_zero, List.set_cons_succ, List.getElem_toArray, List.getElem_cons_succ, List.getElem_cons_zero])
                        refine wpAnyH_ready (rs := [9]) (by kernel_rfl) (by simp) ?_
                        refine AllReadyH.cons rfl (fun K hK => ?_) AllReadyH.nil
                        · go_simp
                          refine hK.out _ _ trivial (fun hHeld => ?_)
                          clear hK K hHeld
                          (try simp only [Act.put, List.setIfInBounds_toArray, List.set_cons_zero, List.set_cons_succ, List.getElem_toArray, List.getElem_cons_succ, List.getElem_cons_zero])
                          refine gen_al (W := V63) ?_
                          intro V64 hWn
                          have HS64_ := Lib.hid (by rw [hWn]; exact HS63_.out.al _ : RSt w V64 B (M + 2 + 4) R F id x1 x2 g c xs)
                          have HE64 : Hid (∀ j u, ([.int .i64 ra, .int .i64 rb] : List Value)[j]? = some u → V64.cell? ((⟨V63.heap.size, 0, none⟩ : Addr).add j) = some u) := Lib.hid (by rw [hWn]; exact two_new rfl)
                          have hHeld : (fun _ : World => True) V64 := trivial
                          clear hWn HS63_
                          refine wpAnyH_ready (rs := [10]) (by kernel_rfl) (by simp) ?_
                          refine AllReadyH.cons rfl (fun K hK => ?_) AllReadyH.nil
                          rw [if_pos (by rfl)]
                          refine wp_append_at _ _ _ _ rfl w.heap.size 174 i0 (.agg #[.int .i64 0, .int .i64 0]) 2 16 Try.underlying61 hi hz0 hz1 hz2 rfl (by decide) (.slice (some ⟨g, 0, none⟩) xs.length c) xs.length ((xs.map evC).flatten) (by rfl) (by exact HS64_.out.evs.ownR) ⟨V63.heap.size, 0, none⟩ 1 1 [.int .i64 ra, .int .i64 rb] (by rfl) rfl HE64.out (by simp [Value.oneCell']) (by unfold maxLen; omega) (by omega) (by have := HS64_.out.dk.sz; omega) ?_
                          intro v' w7 hown' hgrow hat
                          obtain ⟨g', c', rfl, hge⟩ := own_form hown' (Nat.succ_pos _)
                          have hat2 : g' = g ∨ g' = V64.heap.size := by simpa [Value.ownBlock] using hat
                          have HZ := Lib.hid (HS64_.out.fin hlt hwF hRF hown' hgrow hat2 (by unfold inI; omega) (by unfold inI; omega))
                          have h2_7 := HZ.out.2.cell 2
                          have h3_7 := HZ.out.2.cell 3
                          have hf_7 := HZ.out.2.frozen 3
                          simp at h2_7 h3_7
                          clear hown' hgrow hat hat2
                          refine hK.out _ _ trivial (fun hHeld => ?_)
                          clear hK K
                          (try simp only [Act.put, List.setIfInBounds_toArray, List.set_cons_zero, List.set_cons_succ, List.getElem_toArray, List.getElem_cons_succ, List.getElem_cons_zero])
                          refine wpAnyH_take (i := 11) (v := ?_) rfl (by kernel_rfl) (by kernel_rfl) (by kernel_rfl) (fun _ _ _ h => h) (Or.inl ⟨by rfl, ?_⟩) (by assumption) ?_
                          rotate_left
                          · (intro w hSw; (try dsimp only at hSw); go_simp; first | done | with_reducible rfl)
                          (try simp only [Act.put, List.setIfInBounds_toArray, List.set_cons_zero, List.set_cons_succ, List.getElem_toArray, List.getElem_cons_succ, List.getElem_cons_zero])
                          refine wpAnyH_ready (rs := [12]) (by kernel_rfl) (by simp) ?_
                          refine AllReadyH.cons rfl (fun K hK => ?_) AllReadyH.nil
                          go_simp
                          refine hK.out _ _ trivial (fun hHeld => ?_)
                          clear hK K
                          (try simp only [Act.put, List.setIfInBounds_toArray, List.set_cons_zero, List.set_cons_succ, List.getElem_toArray, List.getElem_cons_succ, List.getElem_cons_zero])
                          refine wpAnyH_done (by kernel_rfl) ?_ _
                          (try go_wp2_with fail)
                          go_meet
                          exact ⟨rfl, x1, x2, g', c', xs ++ [⟨ra, rb⟩], by simp; omega, ix1, by omega, Lib.hid (HZ.out.1.le (by omega))⟩
                  · go_simp
                    go_at_call 77
                    refine (amongZ_any B (M + 2 + 0) V54.heap.size 0 3 3 [1, 9, 10] _ HS60_.out.dk.cur (by omega) rfl (by omega) (by omega) HN60_3.out HL60_3.out).mono ?_
                    rintro e V65 ⟨ra, rfl, mra, hc, hg⟩
                    have bra : 1 ≤ ra ∧ ra ≤ 10 := by simp at mra; omega
                    clear mra
                    have HS65_ := Lib.hid (HS60_.out.step hlt hwR hwF hc hg)
                    have HL65_6 : Hid (NL V65 V0.heap.size [0, 20000]) := Lib.hid (HL60_6.out.grown hg HN54_6.out)
                    clear hc hg HS60_ HL60_3 HL60_6
                    (try go_wp2_with fail)
                    refine hK.out _ _ trivial (fun hHeld => ?_)
                    clear hK K
                    (try simp only [Act.put, List.setIfInBounds_toArray, List.set_cons_zero, List.set_cons_succ, List.getElem_toArray, List.getElem_cons_succ, List.getElem_cons_zero])
                    refine wpAnyH_ready (rs := [1, 7]) (by kernel_rfl) (by simp) ?_
                    refine AllReadyH.cons rfl (fun K hK => ?_) (AllReadyH.cons rfl (fun K hK => ?_) AllReadyH.nil)
                    · have f3_66 := HS65_.out.f3
                      go_simp
                      refine hK.out _ _ trivial (fun hHeld => ?_)
                      clear hK K f3_66
                      (try simp only [Act.put, List.setIfInBounds_toArray, List.set_cons_zero, List.set_cons_succ, List.getElem_toArray, List.getElem_cons_succ, List.getElem_cons_zero])
                      refine wpAnyH_ready (rs := [7]) (by kernel_rfl) (by simp) ?_
                      refine AllReadyH.cons rfl (fun K hK => ?_) AllReadyH.nil
                      · go_simp
                        go_at_call 77
                        refine (amongZ_any B (M + 2 + 2) V0.heap.size 0 2 2 [0, 20000] _ HS65_.out.dk.cur (by omega) rfl (by omega) (by omega) HN54_6.out HL65_6.out).mono ?_
                        rintro e V67 ⟨rb, rfl, mrb, hc, hg⟩
                        have brb : 0 ≤ rb ∧ rb ≤ 20000 := by simp at mrb; omega
                        clear mrb
                        have HS67_ := Lib.hid (HS65_.out.step hlt hwR hwF hc hg)
                        clear hc hg HS65_ HL65_6
                        (try go_wp2_with fail)
                        refine hK.out _ _ trivial (fun hHeld => ?_)
                        clear hK K
                        (try simp only [Act.put, List.setIfInBounds_toArray, List.set_cons_zero, List.set_cons_succ, List.getElem_toArray, List.getElem_cons_succ, List.getElem_cons_zero])
                        refine wpAnyH_take (i := 8) (v := ?_) rfl (by kernel_rfl) (by kernel_rfl) (by kernel_rfl) (fun _ _ _ h => h) (Or.inl ⟨by rfl, ?_⟩) (by assumption) ?_
                        rotate_left
                        · (intro w hSw; (try dsimp only at hSw); go_simp; first | done | with_reducible rfl)
                        (try simp only [Act.put, List.setIfInBounds_toArray, List.set_cons_zero, List.set_cons_succ, List.getElem_toArray, List.getElem_cons_succ, List.getElem_cons_zero])
                        refine wpAnyH_ready (rs := [9]) (by kernel_rfl) (by simp) ?_
                        refine AllReadyH.cons rfl (fun K hK => ?_) AllReadyH.nil
                        · go_simp
                          refine hK.out _ _ trivial (fun hHeld => ?_)
                          clear hK K hHeld
                          (try simp only [Act.put, List.setIfInBounds_toArray, List.set_cons_zero, List.set_cons_succ, List.getElem_toArray, List.getElem_cons_succ, List.getElem_cons_zero])
                          refine gen_al (W := V67) ?_
                          intro V68 hWn
                          have HS68_ := Lib.hid (by rw [hWn]; exact HS67_.out.al _ : RSt w V68 B (M + 2 + 4) R F id x1 x2 g c xs)
                          have HE68 : Hid (∀ j u, ([.int .i64 ra, .int .i64 rb] : List Value)[j]? = some u → V68.cell? ((⟨V67.heap.size, 0, none⟩ : Addr).add j) = some u) := Lib.hid (by rw [hWn]; exact two_new rfl)
                          have hHeld : (fun _ : World => True) V68 := trivial
                          clear hWn HS67_
                          refine wpAnyH_ready (rs := [10]) (by kernel_rfl) (by simp) ?_
                          refine AllReadyH.cons rfl (fun K hK => ?_) AllReadyH.nil
                          rw [if_pos (by rfl)]
                          refine wp_append_at _ _ _ _ rfl w.heap.size 174 i0 (.agg #[.int .i64 0, .int .i64 0]) 2 16 Try.underlying61 hi hz0 hz1 hz2 rfl (by decide) (.slice (some ⟨g, 0, none⟩) xs.length c) xs.length ((xs.map evC).flatten) (by rfl) (by exact HS68_.out.evs.ownR) ⟨V67.heap.size, 0, none⟩ 1 1 [.int .i64 ra, .int .i64 rb] (by rfl) rfl HE68.out (by simp [Value.oneCell']) (by unfold maxLen; omega) (by omega) (by have := HS68_.out.dk.sz; omega) ?_
                          intro v' w7 hown' hgrow hat
                          obtain ⟨g', c', rfl, hge⟩ := own_form hown' (Nat.succ_pos _)
                          have hat2 : g' = g ∨ g' = V68.heap.size := by simpa [Value.ownBlock] using hat
                          have HZ := Lib.hid (HS68_.out.fin hlt hwF hRF hown' hgrow hat2 (by unfold inI; omega) (by unfold inI; omega))
                          have h2_7 := HZ.out.2.cell 2
                          have h3_7 := HZ.out.2.cell 3
                          have hf_7 := HZ.out.2.frozen 3
                          simp at h2_7 h3_7
                          clear hown' hgrow hat hat2
                          refine hK.out _ _ trivial (fun hHeld => ?_)
                          clear hK K
                          (try simp only [Act.put, List.setIfInBounds_toArray, List.set_cons_zero, List.set_cons_succ, List.getElem_toArray, List.getElem_cons_succ, List.getElem_cons_zero])
                          refine wpAnyH_take (i := 11) (v := ?_) rfl (by kernel_rfl) (by kernel_rfl) (by kernel_rfl) (fun _ _ _ h => h) (Or.inl ⟨by rfl, ?_⟩) (by assumption) ?_
                          rotate_left
                          · (intro w hSw; (try dsimp only at hSw); go_simp; first | done | with_reducible rfl)
                          (try simp only [Act.put, List.setIfInBounds_toArray, List.set_cons_zero, List.set_cons_succ, List.getElem_toArray, List.getElem_cons_succ, List.getElem_cons_zero])
                          refine wpAnyH_ready (rs := [12]) (by kernel_rfl) (by simp) ?_
                          refine AllReadyH.cons rfl (fun K hK => ?_) AllReadyH.nil
                          go_simp
                          refine hK.out _ _ trivial (fun hHeld => ?_)
                          clear hK K
                          (try simp only [Act.put, List.setIfInBounds_toArray, List.set_cons_zero, List.set_cons_succ, List.getElem_toArray, List.getElem_cons_succ, List.getElem_cons_zero])
                          refine wpAnyH_done (by kernel_rfl) ?_ _
                          (try go_wp2_with fail)
                          go_meet
                          exact ⟨rfl, x1, x2, g', c', xs ++ [⟨ra, rb⟩], by simp; omega, ix1, by omega, Lib.hid (HZ.out.1.le (by omega))⟩
                    · go_simp
                      go_at_call 77
                      refine (amongZ_any B (M + 2 + 2) V0.heap.size 0 2 2 [0, 20000] _ HS65_.out.dk.cur (by omega) rfl (by omega) (by omega) HN54_6.out HL65_6.out).mono ?_
                      rintro e V69 ⟨rb, rfl, mrb, hc, hg⟩
                      have brb : 0 ≤ rb ∧ rb ≤ 20000 := by simp at mrb; omega
                      clear mrb
                      have HS69_ := Lib.hid (HS65_.out.step hlt hwR hwF hc hg)
                      clear hc hg HS65_ HL65_6
                      (try go_wp2_with fail)
                      refine hK.out _ _ trivial (fun hHeld => ?_)
                      clear hK K
                      (try simp only [Act.put, List.setIfInBounds_toArray, List.set_cons_zero, List.set_cons_succ, List.getElem_toArray, List.getElem_cons_succ, List.getElem_cons_zero])
                      refine wpAnyH_take (i := 8) (v := ?_) rfl (by kernel_rfl) (by kernel_rfl) (by kernel_rfl) (fun _ _ _ h => h) (Or.inl ⟨by rfl, ?_⟩) (by assumption) ?_
                      rotate_left
                      · (intro w hSw; (try dsimp only at hSw); go_simp; first | done | with_reducible rfl)
                      (try simp only [Act.put, List.setIfInBounds_toArray, List.set_cons_zero, List.set_cons_succ, List.getElem_toArray, List.getElem_cons_succ, List.getElem_cons_zero])
                      refine wpAnyH_ready (rs := [1, 9]) (by kernel_rfl) (by simp) ?_
                      refine AllReadyH.cons rfl (fun K hK => ?_) (AllReadyH.cons rfl (fun K hK => ?_) AllReadyH.nil)
                      · have f3_70 := HS69_.out.f3
                        go_simp
                        refine hK.out _ _ trivial (fun hHeld => ?_)
                        clear hK K f3_70
                        (try simp only [Act.put, List.setIfInBounds_toArray, List.set_cons_zero, List.set_cons_succ, List.getElem_toArray, List.getElem_cons_succ, List.getElem_cons_zero])
                        refine wpAnyH_ready (rs := [9]) (by kernel_rfl) (by simp) ?_
                        refine AllReadyH.cons rfl (fun K hK => ?_) AllReadyH.nil
                        · go_simp
                          refine hK.out _ _ trivial (fun hHeld => ?_)
                          clear hK K hHeld
                          (try simp only [Act.put, List.setIfInBounds_toArray, List.set_cons_zero, List.set_cons_succ, List.getElem_toArray, List.getElem_cons_succ, List.getElem_cons_zero])
                          refine gen_al (W := V69) ?_
                          intro V71 hWn
                          have HS71_ := Lib.hid (by rw [hWn]; exact HS69_.out.al _ : RSt w V71 B (M + 2 + 4) R F id x1 x2 g c xs)
                          have HE71 : Hid (∀ j u, ([.int .i64 ra, .int .i64 rb] : List Value)[j]? = some u → V71.cell? ((⟨V69.heap.size, 0, none⟩ : Addr).add j) = some u) := Lib.hid (by rw [hWn]; exact two_new rfl)
                          have hHeld : (fun _ : World => True) V71 := trivial
                          clear hWn HS69_
                          refine wpAnyH_ready (rs := [10]) (by kernel_rfl) (by simp) ?_
                          refine AllReadyH.cons rfl (fun K hK => ?_) AllReadyH.nil
                          rw [if_pos (by rfl)]
                          refine wp_append_at _ _ _ _ rfl w.heap.size 174 i0 (.agg #[.int .i64 0, .int .i64 0]) 2 16 Try.underlying61 hi hz0 hz1 hz2 rfl (by decide) (.slice (some ⟨g, 0, none⟩) xs.length c) xs.length ((xs.map evC).flatten) (by rfl) (by exact HS71_.out.evs.ownR) ⟨V69.heap.size, 0, none⟩ 1 1 [.int .i64 ra, .int .i64 rb] (by rfl) rfl HE71.out (by simp [Value.oneCell']) (by unfold maxLen; omega) (by omega) (by have := HS71_.out.dk.sz; omega) ?_
                          intro v' w7 hown' hgrow hat
                          obtain ⟨g', c', rfl, hge⟩ := own_form hown' (Nat.succ_pos _)
                          have hat2 : g' = g ∨ g' = V71.heap.size := by simpa [Value.ownBlock] using hat
                          have HZ := Lib.hid (HS71_.out.fin hlt hwF hRF hown' hgrow hat2 (by unfold inI; omega) (by unfold inI; omega))
                          have h2_7 := HZ.out.2.cell 2
                          have h3_7 := HZ.out.2.cell 3
                          have hf_7 := HZ.out.2.frozen 3
                          simp at h2_7 h3_7
                          clear hown' hgrow hat hat2
                          refine hK.out _ _ trivial (fun hHeld => ?_)
                          clear hK K
                          (try simp only [Act.put, List.setIfInBounds_toArray, List.set_cons_zero, List.set_cons_succ, List.getElem_toArray, List.getElem_cons_succ, List.getElem_cons_zero])
                          refine wpAnyH_take (i := 11) (v := ?_) rfl (by kernel_rfl) (by kernel_rfl) (by kernel_rfl) (fun _ _ _ h => h) (Or.inl ⟨by rfl, ?_⟩) (by assumption) ?_
                          rotate_left
                          · (intro w hSw; (try dsimp only at hSw); go_simp; first | done | with_reducible rfl)
                          (try simp only [Act.put, List.setIfInBounds_toArray, List.set_cons_zero, List.set_cons_succ, List.getElem_toArray, List.getElem_cons_succ, List.getElem_cons_zero])
                          refine wpAnyH_ready (rs := [12]) (by kernel_rfl) (by simp) ?_
                          refine AllReadyH.cons rfl (fun K hK => ?_) AllReadyH.nil
                          go_simp
                          refine hK.out _ _ trivial (fun hHeld => ?_)
                          clear hK K
                          (try simp only [Act.put, List.setIfInBounds_toArray, List.set_cons_zero, List.set_cons_succ, List.getElem_toArray, List.getElem_cons_succ, List.getElem_cons_zero])
                          refine wpAnyH_done (by kernel_rfl) ?_ _
                          (try go_wp2_with fail)
                          go_meet
                          exact ⟨rfl, x1, x2, g', c', xs ++ [⟨ra, rb⟩], by simp; omega, ix1, by omega, Lib.hid (HZ.out.1.le (by omega))⟩
                      · go_simp
                        refine hK.out _ _ trivial (fun hHeld => ?_)
                        clear hK K hHeld
                        (try simp only [Act.put, List.setIfInBounds_toArray, List.set_cons_zero, List.set_cons_succ, List.getElem_toArray, List.getElem_cons_succ, List.getElem_cons_zero])
                        refine gen_al (W := V69) ?_
                        intro V72 hWn
                        have HS72_ := Lib.hid (by rw [hWn]; exact HS69_.out.al _ : RSt w V72 B (M + 2 + 4) R F id x1 x2 g c xs)
                        have HE72 : Hid (∀ j u, ([.int .i64 ra, .int .i64 rb] : List Value)[j]? = some u → V72.cell? ((⟨V69.heap.size, 0, none⟩ : Addr).add j) = some u) := Lib.hid (by rw [hWn]; exact two_new rfl)
                        have hHeld : (fun _ : World => True) V72 := trivial
                        clear hWn HS69_
                        refine wpAnyH_ready (rs := [1]) (by kernel_rfl) (by simp) ?_
                        refine AllReadyH.cons rfl (fun K hK => ?_) AllReadyH.nil
                        · have f3_73 := HS72_.out.f3
                          go_simp
                          refine hK.out _ _ trivial (fun hHeld => ?_)
                          clear hK K f3_73
                          (try simp only [Act.put, List.setIfInBounds_toArray, List.set_cons_zero, List.set_cons_succ, List.getElem_toArray, List.getElem_cons_succ, List.getElem_cons_zero])
                          refine wpAnyH_ready (rs := [10]) (by kernel_rfl) (by simp) ?_
                          refine AllReadyH.cons rfl (fun K hK => ?_) AllReadyH.nil
                          rw [if_pos (by rfl)]
                          refine wp_append_at _ _ _ _ rfl w.heap.size 174 i0 (.agg #[.int .i64 0, .int .i64 0]) 2 16 Try.underlying61 hi hz0 hz1 hz2 rfl (by decide) (.slice (some ⟨g, 0, none⟩) xs.length c) xs.length ((xs.map evC).flatten) (by rfl) (by exact HS72_.out.evs.ownR) ⟨V69.heap.size, 0, none⟩ 1 1 [.int .i64 ra, .int .i64 rb] (by rfl) rfl HE72.out (by simp [Value.oneCell']) (by unfold maxLen; omega) (by omega) (by have := HS72_.out.dk.sz; omega) ?_
                          intro v' w7 hown' hgrow hat
                          obtain ⟨g', c', rfl, hge⟩ := own_form hown' (Nat.succ_pos _)
                          have hat2 : g' = g ∨ g' = V72.heap.size := by simpa [Value.ownBlock] using hat
                          have HZ := Lib.hid (HS72_.out.fin hlt hwF hRF hown' hgrow hat2 (by unfold inI; omega) (by unfold inI; omega))
                          have h2_7 := HZ.out.2.cell 2
                          have h3_7 := HZ.out.2.cell 3
                          have hf_7 := HZ.out.2.frozen 3
                          simp at h2_7 h3_7
                          clear hown' hgrow hat hat2
                          refine hK.out _ _ trivial (fun hHeld => ?_)
                          clear hK K
                          (try simp only [Act.put, List.setIfInBounds_toArray, List.set_cons_zero, List.set_cons_succ, List.getElem_toArray, List.getElem_cons_succ, List.getElem_cons_zero])
                          refine wpAnyH_take (i := 11) (v := ?_) rfl (by kernel_rfl) (by kernel_rfl) (by kernel_rfl) (fun _ _ _ h => h) (Or.inl ⟨by rfl, ?_⟩) (by assumption) ?_
                          rotate_left
                          · (intro w hSw; (try dsimp only at hSw); go_simp; first | done | with_reducible rfl)
                          (try simp only [Act.put, List.setIfInBounds_toArray, List.set_cons_zero, List.set_cons_succ, List.getElem_toArray, List.getElem_cons_succ, List.getElem_cons_zero])
                          refine wpAnyH_ready (rs := [12]) (by kernel_rfl) (by simp) ?_
                          refine AllReadyH.cons rfl (fun K hK => ?_) AllReadyH.nil
                          go_simp
                          refine hK.out _ _ trivial (fun hHeld => ?_)
                          clear hK K
                          (try simp only [Act.put, List.setIfInBounds_toArray, List.set_cons_zero, List.set_cons_succ, List.getElem_toArray, List.getElem_cons_succ, List.getElem_cons_zero])
                          refine wpAnyH_done (by kernel_rfl) ?_ _
                          (try go_wp2_with fail)
                          go_meet
                          exact ⟨rfl, x1, x2, g', c', xs ++ [⟨ra, rb⟩], by simp; omega, ix1, by omega, Lib.hid (HZ.out.1.le (by omega))⟩
            · have b2 : (m == 2) = false := beq_eq_false_iff_ne.2 e2
              go_wp2_with fail
              go_meet
              exact ⟨rfl, x1, x2, g, c, xs, by omega, ix1, by omega, Lib.hid (HS2.out.le (by omega))⟩
      case rest =>
        obtain ⟨rfl, y1, y2, g, c, xs, hxl, iy1, hy2, HS⟩ := hcut
        clear HS2 hxl6
        obtain ⟨W11, hW11⟩ : ∃ x, x = wc := ⟨_, rfl⟩
        subst hW11
        have f0 := HS.out.box.cell 0
        have f1 := HS.out.box.cell 1
        have f2 := HS.out.box.cell 2
        have f3 := HS.out.box.cell 3
        have r0 := HS.out.res.cell 0
        have r1 := HS.out.res.cell 1
        have r2 := HS.out.res.cell 2
        have r3 := HS.out.res.cell 3
        have t0 := HS.out.res.frozen 0
        have t1 := HS.out.res.frozen 1
        have t2 := HS.out.res.frozen 2
        have t3 := HS.out.res.frozen 3
        simp at f0 f1 f2 f3 r0 r1 r2 r3
        go_wp2_with fail
        refine bodyPost_ret (v := .agg #[.int .i64 id, .int .i64 y1, .int .i64 y2, .slice (some ⟨g, 0, none⟩) xs.length c]) (by simp [results, Try.results101, go_sem, r0, r1, r2, r3]) rfl ?_
        have hD := (((HS.out.dk.set (F := R) (j := 0) (u := .int .i64 id) hwR hRB).set (F := R) (j := 1) (u := .int .i64 y1) hwR hRB).set (F := R) (j := 2) (u := .int .i64 y2) hwR hRB).set (F := R) (j := 3) (u := .slice (some ⟨g, 0, none⟩) xs.length c) hwR hRB
        have hne : ∀ k, Value.ownBlock (.slice (some ⟨g, 0, none⟩) xs.length c) = some k → k ≠ R := fun k hk => by simp [Value.ownBlock] at hk; subst hk; exact HS.out.gR
        have hE := (((HS.out.evs.setOther (G := R) (j := 0) (x := .int .i64 id) hne).setOther (G := R) (j := 1) (x := .int .i64 y1) hne).setOther (G := R) (j := 2) (x := .int .i64 y2) hne).setOther (G := R) (j := 3) (x := .slice (some ⟨g, 0, none⟩) xs.length c) hne
        exact ⟨⟨id, y1, y2, xs⟩, g, c, rfl, ⟨hid, iy1, by unfold inI; simp only; omega⟩, hy2, by simp only; omega, hE.wide (Nat.le_refl _) (by simp), hD.cur.le_K (by omega), hD.gr⟩
  end Go.Proofs.Ytenjajcknmfhfaa

namespace Go.Proofs.Ytenjajcknmfhfaa
set_option linter.unusedVariables false
set_option linter.unusedSimpArgs false
open Go.RowKit

theorem isRow_afterI {k : IntKind} {w w' : World} {a : Option Addr} {len cap : Nat} {zs : List Int} (h : IsRow k w a len cap zs) (hb : Below w.heap.size w w') : IsRow k w' a len cap zs := by
  refine h.imp id ?_
  rintro ⟨x, rfl, hl, hm, hz, hc, hw⟩
  refine ⟨x, rfl, hl, hm, hz, fun i hi => ?_, hw⟩
  have := hc i hi
  exact (hb.cell (World.block_lt_of_cell? w _ this)).trans this
def IrDrawn (w : World) (e : Ending) (w' : World) : Prop := ∃ (r : Rec) (g c : Nat), e = .returned (.agg #[.int .i64 r.id, .int .i64 r.series, .int .i64 r.made, .slice (some ⟨g, 0, none⟩) r.evs.length c]) ∧ r.ok ∧ EvsO w.heap.size w'.heap.size w' (.slice (some ⟨g, 0, none⟩) r.evs.length c) r.evs ∧ Below w.heap.size w w'
set_option maxRecDepth 20000 in
set_option maxHeartbeats 8000000 in
theorem drawIsRec_any (a : Option Addr) (len cap : Nat) (zs : List Int) (w : World) (h : IsRow .u8 w a len cap zs) (hl : len ≤ 1099511627776) :
    Calls Try.prog 40 #[.slice a len cap] w (IrDrawn w) := by
  obtain ⟨R, hR⟩ : ∃ R, w.heap.size = R := ⟨_, rfl⟩
  obtain ⟨B, hB⟩ : ∃ B, R + 1 = B := ⟨_, rfl⟩
  have hRB : R < B := by omega
  have hwR : w.heap.size ≤ R := by omega
  have hs0 : (w.alloc (.cells #[.int .i64 0, .int .i64 0, .int .i64 0, .slice none 0 0] 63 (0, 0))).heap.size = B := by simp; omega
  have hs1 : ((w.alloc (.cells #[.int .i64 0, .int .i64 0, .int .i64 0, .slice none 0 0] 63 (0, 0))).alloc (.cells #[.slice a len cap, .int .i64 0, .int .u64 0] 104 (0, 0))).heap.size = B + 1 := by simp; omega
  have hcur := cur_new (isRow_afterI h (below_al (Below.refl _ _) (.cells #[.int .i64 0, .int .i64 0, .int .i64 0, .slice none 0 0] 63 (0, 0)))) hl 104
  rw [hs0] at hcur
  have HD0 : Hid (Dk w ((w.alloc (.cells #[.int .i64 0, .int .i64 0, .int .i64 0, .slice none 0 0] 63 (0, 0))).alloc (.cells #[.slice a len cap, .int .i64 0, .int .u64 0] 104 (0, 0))) B 0) := Lib.hid ⟨hcur, grownBy_of_below (below_al (below_al (Below.refl _ _) _) _) _⟩
  have HR0 : Hid (BxV ((w.alloc (.cells #[.int .i64 0, .int .i64 0, .int .i64 0, .slice none 0 0] 63 (0, 0))).alloc (.cells #[.slice a len cap, .int .i64 0, .int .u64 0] 104 (0, 0))) R [.int .i64 0, .int .i64 0, .int .i64 0, .slice none 0 0]) := Lib.hid ((BxV.new' hR _ _).al _)
  have HS1 := Lib.hid hs1
  clear h hcur hs0 hs1
  have HRE := Lib.hid hR
  have HBE := Lib.hid hB
  clear hR hB
  go_enter Try.func40, Try.ntmps40
  go_upto_region 2 with fail
  try rw [HRE.out]
  try rw [HBE.out]
  generalize hW1 : (w.alloc (.cells #[.int .i64 0, .int .i64 0, .int .i64 0, .slice none 0 0] 63 (0, 0))).alloc (.cells #[.slice a len cap, .int .i64 0, .int .u64 0] 104 (0, 0)) = W1 at *
  have HW1 := Lib.hid hW1
  clear hW1
  go_wp2_with fail
  refine (amongZ_any B 0 W1.heap.size 0 5 5 [1, 12, 999, 0, 1000] _ (HD0.out.al (.cells (([1, 12, 999, 0, 1000] : List Int).map (Value.int .i64)).toArray 3)).cur (by omega) rfl (by omega) (by omega) (by have := HD0.out.cur.lt; omega) (new_nums W1 [1, 12, 999, 0, 1000] 3 _ rfl)).mono ?_
  rintro e w2 ⟨n, rfl, mn, hc, hg⟩
  have i_n : inI n := by simp at mn; unfold inI; omega
  have HD2 := Lib.hid ((HD0.out.al (.cells (([1, 12, 999, 0, 1000] : List Int).map (Value.int .i64)).toArray 3)).step hc hg)
  have HR2 := Lib.hid ((HR0.out.al (.cells (([1, 12, 999, 0, 1000] : List Int).map (Value.int .i64)).toArray 3)).grown hg (by simp; omega))
  have hsz2 : B < w2.heap.size := hc.lt
  clear hc hg HD0 HR0 mn
  go_wp2_with fail
  refine (record_any B 2 n _ HD2.out.cur (by omega) i_n).mono ?_
  rintro e w3 ⟨⟨id, se, ma, xs⟩, g, c, rfl, hok, hma, hxl, he, hc, hg⟩
  (try dsimp only at hok hma hxl he)
  (try dsimp only)
  have HD3 := Lib.hid (HD2.out.step hc hg)
  have HR3 := Lib.hid (HR2.out.grown hg (by simp; omega))
  have HE3 := Lib.hid he
  clear hc hg he HD2 HR2
  have r0 := HR3.out.cell 0
  have r1 := HR3.out.cell 1
  have r2 := HR3.out.cell 2
  have r3 := HR3.out.cell 3
  simp at r0 r1 r2 r3
  have q0 := HR3.out.frozen 0
  have q1 := HR3.out.frozen 1
  have q2 := HR3.out.frozen 2
  have q3 := HR3.out.frozen 3
  have hw3 := HR3.out.lt
  go_wp2_with fail
  refine bodyPost_ret (v := .agg #[.int .i64 id, .int .i64 se, .int .i64 ma, .slice (some ⟨g, 0, none⟩) xs.length c]) (by simp [results, Try.results40, go_sem, r0, r1, r2, r3]) rfl ?_
  have hne : ∀ k, Value.ownBlock (.slice (some ⟨g, 0, none⟩) xs.length c) = some k → k ≠ R := fun k hk => by have := HE3.out.1.ge k hk; omega
  have hE := (((HE3.out.setOther (G := R) (j := 0) (x := .int .i64 id) hne).setOther (G := R) (j := 1) (x := .int .i64 se) hne).setOther (G := R) (j := 2) (x := .int .i64 ma) hne).setOther (G := R) (j := 3) (x := (.slice (some ⟨g, 0, none⟩) xs.length c)) hne
  have hb4 : Below w.heap.size w w3 := below_of_grownBy HD3.out.gr (Nat.le_refl _) (fun k e => by cases e; omega)
  have hb := (((hb4.setCell (p := ⟨R, 0, none⟩) hwR (.int .i64 id)).setCell (p := ⟨R, 1, none⟩) hwR (.int .i64 se)).setCell (p := ⟨R, 2, none⟩) hwR (.int .i64 ma)).setCell (p := ⟨R, 3, none⟩) hwR (.slice (some ⟨g, 0, none⟩) xs.length c)
  exact ⟨⟨id, se, ma, xs⟩, g, c, rfl, hok, hE.wide (by omega) (by simp), hb⟩
end Go.Proofs.Ytenjajcknmfhfaa
