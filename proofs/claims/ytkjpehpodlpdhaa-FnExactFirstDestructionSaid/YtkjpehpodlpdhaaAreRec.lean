/- What records are: the model's and the program's answer areRecs. -/
import Derived.Test.YtkjpehpodlpdhaaRecs
import Derived.Test.YtkjpehpodlpdhaaIsRecI
namespace Go.Proofs.Ytkjpehpodlpdhaa
set_option linter.unusedVariables false
open Go.RowKit Go.Sort

theorem notRecs {rs : List Rec} {k : Nat} (hk : k < rs.length) (h : recAtB rs k = false) : areRecs rs = false := by
  simp only [areRecs]
  rw [upto_false hk h]
  simp

set_option maxHeartbeats 1000000 in
theorem l2Records_any (v : Value) (rs : List Rec) (w : World) (h : RowR 4 rRec w v rs) :
    Calls Try.prog 98 #[v] w fun e w' => e = .returned (.bool (areRecs rs)) ∧ Below w.heap.size w w' := by
  have hcap := h.cap
  obtain ⟨a1, c1, rfl, hl1, hm1, r1⟩ := h.recs
  have R1 := Lib.hid r1
  clear h r1
  unfold maxLen at hm1
  go_enter Try.func98, Try.ntmps98
  go_wp2
  go_loopw [3] (fun i wr => ∃ k : Nat, k ≤ rs.length ∧ i = .int .i64 k ∧ upto (recAtB rs) k = true ∧ Below w.heap.size w wr) (fun i _ => rs.length - (intOf i).toNat)
  case atStart => exact ⟨0, Nat.zero_le _, rfl, by simp [upto], Below.refl _ _⟩
  case round =>
    obtain ⟨k, hk, rfl, hu, hb⟩ := hrel
    have HU := Lib.hid hu
    clear hu
    by_cases hlt : k < rs.length
    · obtain ⟨b1, o1, hb1, rfl, e1⟩ := R1.out.resolve_left (fun e => by rw [e] at hlt; simp at hlt)
      obtain ⟨s, q0, q1, q2, q3, hr, hok⟩ := e1 k hlt
      obtain ⟨r, hx⟩ : ∃ s, rs.getD k recD = s := ⟨_, rfl⟩
      rw [hx] at q0 q1 q2 hr hok
      have f0 := cell_kept q0 hb
      have f1 := cell_kept q1 hb
      have f2 := cell_kept q2 hb
      have f3 := cell_kept q3 hb
      have HX := Lib.hid hx
      have E1 := Lib.hid e1
      obtain ⟨bR, hbR⟩ : ∃ b, isRec r = b := ⟨_, rfl⟩
      have hcall : ∀ W : World, Below wr.heap.size wr W → Calls Try.prog 144 #[.agg #[.int .i64 r.id, .int .i64 r.series, .int .i64 r.made, s]] W fun e w' => e = .returned (.bool bR) ∧ Below W.heap.size W w' := fun W hW => by
        have := l2Record_any _ r W ⟨s, rfl, (hr.below rEv_stable hb).below rEv_stable hW, hok⟩
        rwa [hbR] at this
      have HE := Lib.hid hbR
      have g0 : (0 : Int) ≤ (k : Int) := by omega
      have g1 : (k : Int) < (rs.length : Int) := by omega
      have hw := hb.size
      have hid : isRec r = true → 1 ≤ r.id := fun h => (isRec_iff.1 h).1.1
      have HID := Lib.hid hid
      clear q0 q1 q2 q3 hr hx e1 hbR hid
      cases bR
      · go_wp2_with fail
        have k0 := cell_regrown f0
        have k1 := cell_regrown f1
        have k2 := cell_regrown f2
        have k3 := cell_regrown f3
        have hc : ∀ d os, Calls Try.prog 144 #[.agg #[.int .i64 r.id, .int .i64 r.series, .int .i64 r.made, s]] (grow (redrawn wr d) os) fun e w'' => e = .returned (.bool false) ∧ ∃ p : Regrown, w'' = grow (redrawn wr p.d) p.os := fun d os => Calls.regrown_of (hcall _ (below_regrown wr d os))
        refine wp_region_quiet_below (by kernel_rfl) (by kernel_rfl) ?_
        repeat (go_big_quiet_step (first | exact hc _ _))
        refine wpQuiet_nil ?_
        intro _ hw'
        obtain ⟨⟨dq, osq⟩, hw''⟩ := hw'
        subst hw''
        have bq := below_regrown wr dq osq
        generalize grow (redrawn wr dq) osq = w2 at bq ⊢
        go_wp2
        go_ret
        exact ⟨ret_bool (Eq.symm (notRecs hlt (by rw [recAtB, HX.out, HE.out]; rfl))), hb.trans (bq.mono hw)⟩
      · rcases Nat.eq_zero_or_pos k with hk0 | hk0
        · have dk : decide ((0 : Int) < (k : Int)) = false := decide_eq_false (by omega)
          have dk2 : decide (0 < k) = false := decide_eq_false (by omega)
          have HK0 := Lib.hid hk0
          clear hk0
          go_wp2_with fail
          have k0 := cell_regrown f0
          have k1 := cell_regrown f1
          have k2 := cell_regrown f2
          have k3 := cell_regrown f3
          have hc : ∀ d os, Calls Try.prog 144 #[.agg #[.int .i64 r.id, .int .i64 r.series, .int .i64 r.made, s]] (grow (redrawn wr d) os) fun e w'' => e = .returned (.bool true) ∧ ∃ p : Regrown, w'' = grow (redrawn wr p.d) p.os := fun d os => Calls.regrown_of (hcall _ (below_regrown wr d os))
          refine wp_region_quiet_below (by kernel_rfl) (by kernel_rfl) ?_
          repeat (go_big_quiet_step (first | exact hc _ _))
          refine wpQuiet_nil ?_
          intro _ hw'
          obtain ⟨⟨dq, osq⟩, hw''⟩ := hw'
          subst hw''
          have bq := below_regrown wr dq osq
          generalize grow (redrawn wr dq) osq = w2 at bq ⊢
          go_wp2
          go_roundw
          case rel => exact ⟨k + 1, by omega, by go_num, upto_succ HU.out (by rw [recAtB, HX.out, HE.out, HK0.out]; exact decide_eq_true (by have := HID.out HE.out; simp only [prevI]; omega)), hb.trans (bq.mono hw)⟩
          case measure => simp [intOf]; omega
        · obtain ⟨j, rfl⟩ : ∃ j, k = j + 1 := ⟨k - 1, by omega⟩
          clear hk0
          obtain ⟨pr, hpr⟩ : ∃ s, rs.getD j recD = s := ⟨_, rfl⟩
          obtain ⟨_, q0, _⟩ := E1.out j (by omega)
          rw [hpr] at q0
          have f4 := cell_kept q0 hb
          have hpk : prevI rs (j + 1) = pr.id := by rw [prevI, hpr]
          have HPK := Lib.hid hpk
          have g2 : (j : Int) < (rs.length : Int) := by omega
          have g3 : (0 : Int) ≤ (j : Int) := by omega
          have g4 : (0 : Int) < (j : Int) + 1 := by omega
          clear q0 hpk hpr
          by_cases hP : r.id ≤ pr.id
          · go_wp2_with fail
            have k0 := cell_regrown f0
            have k1 := cell_regrown f1
            have k2 := cell_regrown f2
            have k3 := cell_regrown f3
            have k4 := cell_regrown f4
            have hc : ∀ d os, Calls Try.prog 144 #[.agg #[.int .i64 r.id, .int .i64 r.series, .int .i64 r.made, s]] (grow (redrawn wr d) os) fun e w'' => e = .returned (.bool true) ∧ ∃ p : Regrown, w'' = grow (redrawn wr p.d) p.os := fun d os => Calls.regrown_of (hcall _ (below_regrown wr d os))
            refine wp_region_quiet_below (by kernel_rfl) (by kernel_rfl) ?_
            repeat (go_big_quiet_step (first | exact hc _ _))
            refine wpQuiet_nil ?_
            intro _ hw'
            obtain ⟨⟨dq, osq⟩, hw''⟩ := hw'
            subst hw''
            have bq := below_regrown wr dq osq
            generalize grow (redrawn wr dq) osq = w2 at bq ⊢
            go_wp2
            go_ret
            exact ⟨ret_bool (Eq.symm (notRecs hlt (by rw [recAtB, HX.out, HPK.out, decide_eq_false (show ¬ pr.id < r.id by omega)]; simp))), hb.trans (bq.mono hw)⟩
          · have dP : decide (r.id ≤ pr.id) = false := decide_eq_false hP
            go_wp2_with fail
            have k0 := cell_regrown f0
            have k1 := cell_regrown f1
            have k2 := cell_regrown f2
            have k3 := cell_regrown f3
            have k4 := cell_regrown f4
            have hc : ∀ d os, Calls Try.prog 144 #[.agg #[.int .i64 r.id, .int .i64 r.series, .int .i64 r.made, s]] (grow (redrawn wr d) os) fun e w'' => e = .returned (.bool true) ∧ ∃ p : Regrown, w'' = grow (redrawn wr p.d) p.os := fun d os => Calls.regrown_of (hcall _ (below_regrown wr d os))
            refine wp_region_quiet_below (by kernel_rfl) (by kernel_rfl) ?_
            repeat (go_big_quiet_step (first | exact hc _ _))
            refine wpQuiet_nil ?_
            intro _ hw'
            obtain ⟨⟨dq, osq⟩, hw''⟩ := hw'
            subst hw''
            have bq := below_regrown wr dq osq
            generalize grow (redrawn wr dq) osq = w2 at bq ⊢
            go_wp2
            go_roundw
            case rel => exact ⟨j + 1 + 1, by omega, by go_num, upto_succ HU.out (by rw [recAtB, HX.out, HE.out, HPK.out]; exact decide_eq_true (by omega)), hb.trans (bq.mono hw)⟩
            case measure => simp [intOf]; omega
    · obtain rfl : k = rs.length := by omega
      by_cases hL : rs.length ≤ 10
      · go_wp2_with fail
        go_ret
        exact ⟨ret_bool (by simp only [areRecs]; rw [HU.out, decide_eq_true hL]; simp; omega), hb⟩
      · go_wp2_with fail
        go_ret
        exact ⟨ret_bool (by simp only [areRecs]; rw [HU.out, decide_eq_false hL]; simp; omega), hb⟩


set_option maxHeartbeats 1000000 in
theorem implAreRecords_any (v : Value) (rs : List Rec) (w : World) (h : RowR 4 rRec w v rs) :
    Calls Try.prog 100 #[v] w fun e w' => e = .returned (.bool (areRecs rs)) ∧ Below w.heap.size w w' := by
  have hcap := h.cap
  obtain ⟨a1, c1, rfl, hl1, hm1, r1⟩ := h.recs
  have R1 := Lib.hid r1
  clear h r1
  unfold maxLen at hm1
  by_cases hL : 10 < rs.length
  · have gL : (10 : Int) < rs.length := by omega
    go_enter Try.func100, Try.ntmps100
    go_wp2_with fail
    go_ret
    exact ⟨ret_bool (by simp only [areRecs]; rw [decide_eq_false (by omega)]; rfl), Below.refl _ _⟩
  · have gL : (rs.length : Int) ≤ 10 := by omega
    have HL := Lib.hid hL
    clear hL
    go_enter Try.func100, Try.ntmps100
    go_wp2_with fail
    go_loopw [3, 11] (fun b i wr => ∃ (k : Nat) (pk : Int), k ≤ rs.length ∧ i = .int .i64 k ∧ b = .int .i64 pk ∧ Hid (prevI rs k = pk) ∧ upto (recAtB rs) k = true ∧ Below w.heap.size w wr) (fun _ i _ => rs.length - (intOf i).toNat)
    case atStart => exact ⟨0, 0, Nat.zero_le _, rfl, rfl, rfl, by simp [upto], Below.refl _ _⟩
    case round =>
      obtain ⟨k, pk, hk, rfl, rfl, HP, hu, hb⟩ := hrel
      have HU := Lib.hid hu
      clear hu
      by_cases hlt : k < rs.length
      · obtain ⟨b1, o1, hb1, rfl, e1⟩ := R1.out.resolve_left (fun e => by rw [e] at hlt; simp at hlt)
        obtain ⟨s, q0, q1, q2, q3, hr, hok⟩ := e1 k hlt
        obtain ⟨r, hx⟩ : ∃ s, rs.getD k recD = s := ⟨_, rfl⟩
        rw [hx] at q0 q1 q2 hr hok
        have hr0 := hr
        obtain ⟨sa, sc, rfl, _⟩ := hr0
        have f0 := cell_kept q0 hb
        have f1 := cell_kept q1 hb
        have f2 := cell_kept q2 hb
        have f3 := cell_kept q3 hb
        have HX := Lib.hid hx
        have E1 := Lib.hid e1
        obtain ⟨bR, hbR⟩ : ∃ b, isRec r = b := ⟨_, rfl⟩
        have hcall : ∀ W : World, Below wr.heap.size wr W → Calls Try.prog 85 #[.agg #[.int .i64 r.id, .int .i64 r.series, .int .i64 r.made, .slice sa r.evs.length sc]] W fun e w' => e = .returned (.bool bR) ∧ Below W.heap.size W w' := fun W hW => by
          have := implIsRecord_any _ r W ⟨_, rfl, (hr.below rEv_stable hb).below rEv_stable hW, hok⟩
          rwa [hbR] at this
        have HE := Lib.hid hbR
        have g0 : (0 : Int) ≤ (k : Int) := by omega
        have g1 : (k : Int) < (rs.length : Int) := by omega
        have hw := hb.size
        have hid : isRec r = true → 1 ≤ r.id := fun h => (isRec_iff.1 h).1.1
        have HID := Lib.hid hid
        clear q0 q1 q2 q3 hr hx e1 hbR hid
        cases bR
        · go_wp2_with (first | (go_at_call 85; refine (hcall _ (below_al (Below.refl _ _) _)).mono ?_; rintro e w2 ⟨rfl, bq⟩; have k0 := cell_kept (cell_new wr _ _ 0 rfl) bq; have bb := below_chain (below_al (Below.refl wr.heap.size wr) _) bq))
          go_ret
          exact ⟨ret_bool (Eq.symm (notRecs hlt (by rw [recAtB, HX.out, HE.out]; rfl))), hb.trans (bb.mono hw)⟩
        · by_cases hP : r.id ≤ pk
          · go_wp2_with (first | (go_at_call 85; refine (hcall _ (below_al (Below.refl _ _) _)).mono ?_; rintro e w2 ⟨rfl, bq⟩; have k0 := cell_kept (cell_new wr _ _ 0 rfl) bq; have bb := below_chain (below_al (Below.refl wr.heap.size wr) _) bq))
            go_ret
            exact ⟨ret_bool (Eq.symm (notRecs hlt (by rw [recAtB, HX.out, HP.out, decide_eq_false (show ¬ pk < r.id by omega)]; simp))), hb.trans (bb.mono hw)⟩
          · go_wp2_with (first | (go_at_call 85; refine (hcall _ (below_al (Below.refl _ _) _)).mono ?_; rintro e w2 ⟨rfl, bq⟩; have k0 := cell_kept (cell_new wr _ _ 0 rfl) bq; have bb := below_chain (below_al (Below.refl wr.heap.size wr) _) bq))
            go_roundw
            case rel => exact ⟨k + 1, r.id, by omega, by go_num, rfl, (show prevI rs (k + 1) = r.id by rw [prevI, HX.out]), upto_succ HU.out (by rw [recAtB, HX.out, HE.out, HP.out]; exact decide_eq_true (by omega)), hb.trans (bb.mono hw)⟩
            case measure => simp [intOf]; omega
      · obtain rfl : k = rs.length := by omega
        go_wp2_with fail
        go_ret
        exact ⟨ret_bool (by simp only [areRecs]; rw [HU.out, decide_eq_true (show rs.length ≤ 10 by omega)]; rfl), hb⟩
end Go.Proofs.Ytkjpehpodlpdhaa
