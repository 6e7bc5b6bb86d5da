/- The draws of a day, of a rule, of an event. -/
import Derived.Test.YtenjajcknmfhfaaDrw
namespace Go.Proofs.Ytenjajcknmfhfaa
set_option linter.unusedVariables false
open Go.RowKit

def RuleDrawn (w : World) (B K : Nat) (e : Ending) (w' : World) : Prop := ∃ u : Ru, e = .returned (.agg #[.int .i64 u.series, .int .i64 u.event, .int .i64 u.days, .int .i64 u.act]) ∧ u.ok ∧ Cur w' B K ∧ w.grownBy w' (some B)
def EventDrawn (w : World) (B K : Nat) (e : Ending) (w' : World) : Prop := ∃ u : Ev, e = .returned (.agg #[.int .i64 u.kind, .int .i64 u.day]) ∧ u.ok ∧ Cur w' B K ∧ w.grownBy w' (some B)
def dayList6 : List Int := [0, 10, 100, 150, 400, 1000, 3650, 19999, 20000, 20001, -1, 365]
theorem day_any (B K : Nat) (w : World) (h : Cur w B K) (hK : K ≤ 100000) :
    Calls Try.prog 104 #[.pointer (some ⟨B, 0, none⟩)] w fun e w' => ∃ n : Int, e = .returned (.int .i64 n) ∧ inI n ∧ Cur w' B (K + 2) ∧ w.grownBy w' (some B) := by
  have hlt := h.lt
  have HD0 := Lib.hid (Dk.start h)
  clear h
  go_enter Try.func104, Try.ntmps104
  go_wp2_with fail
  refine (amongZ_any B K w.heap.size 0 12 12 dayList6 _ (HD0.out.al (.cells (dayList6.map (Value.int .i64)).toArray 3)).cur (by omega) rfl (by omega) (by omega) (by omega) (new_nums w dayList6 3 _ rfl)).mono ?_
  rintro e w1 ⟨n, rfl, mn, hc, hg⟩
  have HD1 := Lib.hid ((HD0.out.al (.cells (dayList6.map (Value.int .i64)).toArray 3)).step hc hg)
  have hn : inI n := mem_in mn (by decide)
  clear hc hg mn
  go_wp2_with fail
  go_ret
  exact ⟨n, rfl, hn, HD1.out.cur, HD1.out.gr⟩

set_option maxRecDepth 20000 in
set_option maxHeartbeats 4000000 in
theorem rule_any (B K : Nat) (w : World) (h : Cur w B K) (hK : K ≤ 100000) :
    Calls Try.prog 139 #[.pointer (some ⟨B, 0, none⟩)] w (RuleDrawn w B (K + 20)) := by
  have hlt := h.lt
  obtain ⟨R, hR⟩ : ∃ R, w.heap.size = R := ⟨_, rfl⟩
  have HD0 : Hid (Dk w (w.alloc (.cells #[.int .i64 0, .int .i64 0, .int .i64 0, .int .i64 0] 56 (0, 0))) B K) := Lib.hid ((Dk.start h).al _)
  have HR0 : Hid (BxV (w.alloc (.cells #[.int .i64 0, .int .i64 0, .int .i64 0, .int .i64 0] 56 (0, 0))) R [.int .i64 0, .int .i64 0, .int .i64 0, .int .i64 0]) := Lib.hid (BxV.new' hR _ _)
  have hRB : B < R := by omega
  have hRw : w.heap.size ≤ R := by omega
  clear h
  have HRE := Lib.hid hR
  clear hR
  go_enter Try.func139, Try.ntmps139
  go_upto_region 1 with fail
  try rw [HRE.out]
  generalize hW0 : w.alloc (.cells #[.int .i64 0, .int .i64 0, .int .i64 0, .int .i64 0] 56 (0, 0)) = W0 at *
  have HW0 := Lib.hid hW0
  clear hW0
  go_wp2_with fail
  refine (amongZ_any B (K + 0) W0.heap.size 0 6 6 [1, 2, 3, 3, 7, 99] _ (HD0.out.al (.cells (([1, 2, 3, 3, 7, 99] : List Int).map (Value.int .i64)).toArray 3)).cur (by omega) rfl (by omega) (by omega) (by have := HD0.out.cur.lt; omega) (new_nums W0 [1, 2, 3, 3, 7, 99] 3 _ rfl)).mono ?_
  rintro e w1 ⟨x0, rfl, mx0, hc, hg⟩
  have HD1 := Lib.hid ((HD0.out.al (.cells (([1, 2, 3, 3, 7, 99] : List Int).map (Value.int .i64)).toArray 3)).step hc hg)
  have HR0_1 := Lib.hid ((HR0.out.al (.cells (([1, 2, 3, 3, 7, 99] : List Int).map (Value.int .i64)).toArray 3)).grown hg (by simp; omega))
  clear hc hg HD0 HR0
  have bx0 : 1 ≤ x0 ∧ x0 ≤ 99 := by simp at mx0; omega
  have ix0 : inI x0 := by unfold inI; omega
  clear mx0
  go_wp2_with fail
  refine (amongZ_any B (K + 2) w1.heap.size 0 6 6 [0, 0, 1, 2, 3, 9] _ (HD1.out.al (.cells (([0, 0, 1, 2, 3, 9] : List Int).map (Value.int .i64)).toArray 3)).cur (by omega) rfl (by omega) (by omega) (by have := HD1.out.cur.lt; omega) (new_nums w1 [0, 0, 1, 2, 3, 9] 3 _ rfl)).mono ?_
  rintro e w2 ⟨x1, rfl, mx1, hc, hg⟩
  have HD2 := Lib.hid ((HD1.out.al (.cells (([0, 0, 1, 2, 3, 9] : List Int).map (Value.int .i64)).toArray 3)).step hc hg)
  have HR0_2 := Lib.hid ((HR0_1.out.al (.cells (([0, 0, 1, 2, 3, 9] : List Int).map (Value.int .i64)).toArray 3)).grown hg (by simp; omega))
  clear hc hg HD1 HR0_1
  have bx1 : 0 ≤ x1 ∧ x1 ≤ 9 := by simp at mx1; omega
  have ix1 : inI x1 := by unfold inI; omega
  clear mx1
  go_wp2_with fail
  refine (amongZ_any B (K + 4) w2.heap.size 0 6 6 [0, 30, 365, 400, 3650, 20000] _ (HD2.out.al (.cells (([0, 30, 365, 400, 3650, 20000] : List Int).map (Value.int .i64)).toArray 3)).cur (by omega) rfl (by omega) (by omega) (by have := HD2.out.cur.lt; omega) (new_nums w2 [0, 30, 365, 400, 3650, 20000] 3 _ rfl)).mono ?_
  rintro e w3 ⟨x2, rfl, mx2, hc, hg⟩
  have HD3 := Lib.hid ((HD2.out.al (.cells (([0, 30, 365, 400, 3650, 20000] : List Int).map (Value.int .i64)).toArray 3)).step hc hg)
  have HR0_3 := Lib.hid ((HR0_2.out.al (.cells (([0, 30, 365, 400, 3650, 20000] : List Int).map (Value.int .i64)).toArray 3)).grown hg (by simp; omega))
  clear hc hg HD2 HR0_2
  have bx2 : 0 ≤ x2 ∧ x2 ≤ 20000 := by simp at mx2; omega
  have ix2 : inI x2 := by unfold inI; omega
  clear mx2
  go_wp2_with fail
  refine (pick_any B (K + 6) 3 _ HD3.out.cur (by omega) (by omega) (by omega)).mono ?_
  rintro e w4 ⟨x3, rfl, x30, x31, hc, hg⟩
  have HD4 := Lib.hid (HD3.out.step hc hg)
  have HR0_4 := Lib.hid (HR0_3.out.grown hg (by simp; omega))
  clear hc hg HD3 HR0_3
  have hwr : IntKind.i64.wrap (1 + x3) = 1 + x3 := Go.IntWalk.i64_in _ (by omega)
  have iact : inI (1 + x3) := by unfold inI; omega
  have iseries := ix0
  have ievent := ix1
  have idays := ix2
  obtain ⟨F, hF⟩ : ∃ F, w4.heap.size = F := ⟨_, rfl⟩
  have hFw : w.heap.size ≤ F := by rw [← hF]; exact HD4.out.sz
  have hRF : R < F := by rw [← hF]; exact HR0_4.out.lt
  have hFB : B < F := by omega
  have HD9 := Lib.hid (HD4.out.al (.cells #[.int .i64 x0, .int .i64 x1, .int .i64 x2, .int .i64 (1 + x3)] 56 (0, 0)))
  have HR9 := Lib.hid (HR0_4.out.al (.cells #[.int .i64 x0, .int .i64 x1, .int .i64 x2, .int .i64 (1 + x3)] 56 (0, 0)))
  have HF9 : Hid (BxV (w4.alloc (.cells #[.int .i64 x0, .int .i64 x1, .int .i64 x2, .int .i64 (1 + x3)] 56 (0, 0))) F [.int .i64 x0, .int .i64 x1, .int .i64 x2, .int .i64 (1 + x3)]) := Lib.hid (BxV.new' hF _ _)
  clear HD4 HR0_4
  go_upto_region 2 with fail
  try rw [hF]
  have HFE := Lib.hid hF
  clear hF
  generalize hW9 : w4.alloc (.cells #[.int .i64 x0, .int .i64 x1, .int .i64 x2, .int .i64 (1 + x3)] 56 (0, 0)) = W9 at *
  have HW9 := Lib.hid hW9
  clear hW9
  go_upto_block 0 with (first | (go_at_call 81; refine (pick_any B (K + 8) 48 _ HD9.out.cur (by omega) (by omega) (by omega)).mono ?_; rintro e w5 ⟨m, rfl, hm0, hm1, hc, hg⟩; have HD5 := Lib.hid (HD9.out.step hc hg); have HR9_5 := Lib.hid (HR9.out.grown hg (by simp; omega)); have HF9_5 := Lib.hid (HF9.out.grown hg (by simp; omega)); clear hc hg HD9 HR9 HF9))
  go_cut [3] from 4 to 43 (fun q wx => q = .pointer (some ⟨F, 0, none⟩) ∧ ∃ u : Ru, u.ok ∧ Hid (Dk w wx B (K + 14)) ∧ Hid (BxV wx R [.int .i64 0, .int .i64 0, .int .i64 0, .int .i64 0]) ∧ Hid (BxV wx F [.int .i64 u.series, .int .i64 u.event, .int .i64 u.days, .int .i64 u.act]))
  case first =>
    by_cases e0 : m = 0
    · subst e0
      go_wp2_with fail
      refine (amongZ_any B (K + 10) w5.heap.size 0 2 2 [0, 100] _ (HD5.out.al (.cells (([0, 100] : List Int).map (Value.int .i64)).toArray 3)).cur (by omega) rfl (by omega) (by omega) (by have := HD5.out.cur.lt; omega) (new_nums w5 [0, 100] 3 _ rfl)).mono ?_
      rintro e w6 ⟨r, rfl, mr, hc, hg⟩
      have HD6 := Lib.hid ((HD5.out.al (.cells (([0, 100] : List Int).map (Value.int .i64)).toArray 3)).step hc hg)
      have HR9_6 := Lib.hid ((HR9_5.out.al (.cells (([0, 100] : List Int).map (Value.int .i64)).toArray 3)).grown hg (by simp; omega))
      have HF9_6 := Lib.hid ((HF9_5.out.al (.cells (([0, 100] : List Int).map (Value.int .i64)).toArray 3)).grown hg (by simp; omega))
      clear hc hg HD5 HR9_5 HF9_5
      have br : 0 ≤ r ∧ r ≤ 100 := by simp at mr; omega
      have ir : inI r := by unfold inI; omega
      clear mr
      have fc := HF9_6.out.cell 0
      have ff := HF9_6.out.frozen 0
      simp at fc
      go_wp2_with fail
      go_meet
      exact ⟨rfl, ⟨r, x1, x2, (1 + x3)⟩, ⟨ir, ievent, idays, iact⟩, Lib.hid ((HD6.out.set hFw hFB).le (by omega)), Lib.hid (HR9_6.out.other (by omega)), Lib.hid (HF9_6.out.set 0 _ rfl)⟩
    · have b0 : (m == 0) = false := beq_eq_false_iff_ne.2 e0
      by_cases e1 : m = 1
      · subst e1
        go_wp2_with fail
        refine (amongZ_any B (K + 10) w5.heap.size 0 2 2 [-1, 10] _ (HD5.out.al (.cells (([-1, 10] : List Int).map (Value.int .i64)).toArray 3)).cur (by omega) rfl (by omega) (by omega) (by have := HD5.out.cur.lt; omega) (new_nums w5 [-1, 10] 3 _ rfl)).mono ?_
        rintro e w7 ⟨r, rfl, mr, hc, hg⟩
        have HD7 := Lib.hid ((HD5.out.al (.cells (([-1, 10] : List Int).map (Value.int .i64)).toArray 3)).step hc hg)
        have HR9_7 := Lib.hid ((HR9_5.out.al (.cells (([-1, 10] : List Int).map (Value.int .i64)).toArray 3)).grown hg (by simp; omega))
        have HF9_7 := Lib.hid ((HF9_5.out.al (.cells (([-1, 10] : List Int).map (Value.int .i64)).toArray 3)).grown hg (by simp; omega))
        clear hc hg HD5 HR9_5 HF9_5
        have br : -1 ≤ r ∧ r ≤ 10 := by simp at mr; omega
        have ir : inI r := by unfold inI; omega
        clear mr
        have fc := HF9_7.out.cell 1
        have ff := HF9_7.out.frozen 1
        simp at fc
        go_wp2_with fail
        go_meet
        exact ⟨rfl, ⟨x0, r, x2, (1 + x3)⟩, ⟨iseries, ir, idays, iact⟩, Lib.hid ((HD7.out.set hFw hFB).le (by omega)), Lib.hid (HR9_7.out.other (by omega)), Lib.hid (HF9_7.out.set 1 _ rfl)⟩
      · have b1 : (m == 1) = false := beq_eq_false_iff_ne.2 e1
        by_cases e2 : m = 2
        · subst e2
          go_wp2_with fail
          refine (amongZ_any B (K + 10) w5.heap.size 0 2 2 [-1, 20001] _ (HD5.out.al (.cells (([-1, 20001] : List Int).map (Value.int .i64)).toArray 3)).cur (by omega) rfl (by omega) (by omega) (by have := HD5.out.cur.lt; omega) (new_nums w5 [-1, 20001] 3 _ rfl)).mono ?_
          rintro e w8 ⟨r, rfl, mr, hc, hg⟩
          have HD8 := Lib.hid ((HD5.out.al (.cells (([-1, 20001] : List Int).map (Value.int .i64)).toArray 3)).step hc hg)
          have HR9_8 := Lib.hid ((HR9_5.out.al (.cells (([-1, 20001] : List Int).map (Value.int .i64)).toArray 3)).grown hg (by simp; omega))
          have HF9_8 := Lib.hid ((HF9_5.out.al (.cells (([-1, 20001] : List Int).map (Value.int .i64)).toArray 3)).grown hg (by simp; omega))
          clear hc hg HD5 HR9_5 HF9_5
          have br : -1 ≤ r ∧ r ≤ 20001 := by simp at mr; omega
          have ir : inI r := by unfold inI; omega
          clear mr
          have fc := HF9_8.out.cell 2
          have ff := HF9_8.out.frozen 2
          simp at fc
          go_wp2_with fail
          go_meet
          exact ⟨rfl, ⟨x0, x1, r, (1 + x3)⟩, ⟨iseries, ievent, ir, iact⟩, Lib.hid ((HD8.out.set hFw hFB).le (by omega)), Lib.hid (HR9_8.out.other (by omega)), Lib.hid (HF9_8.out.set 2 _ rfl)⟩
        · have b2 : (m == 2) = false := beq_eq_false_iff_ne.2 e2
          by_cases e3 : m = 3
          · subst e3
            go_wp2_with fail
            refine (amongZ_any B (K + 10) w5.heap.size 0 2 2 [0, 4] _ (HD5.out.al (.cells (([0, 4] : List Int).map (Value.int .i64)).toArray 3)).cur (by omega) rfl (by omega) (by omega) (by have := HD5.out.cur.lt; omega) (new_nums w5 [0, 4] 3 _ rfl)).mono ?_
            rintro e w9 ⟨r, rfl, mr, hc, hg⟩
            have HD9 := Lib.hid ((HD5.out.al (.cells (([0, 4] : List Int).map (Value.int .i64)).toArray 3)).step hc hg)
            have HR9_9 := Lib.hid ((HR9_5.out.al (.cells (([0, 4] : List Int).map (Value.int .i64)).toArray 3)).grown hg (by simp; omega))
            have HF9_9 := Lib.hid ((HF9_5.out.al (.cells (([0, 4] : List Int).map (Value.int .i64)).toArray 3)).grown hg (by simp; omega))
            clear hc hg HD5 HR9_5 HF9_5
            have br : 0 ≤ r ∧ r ≤ 4 := by simp at mr; omega
            have ir : inI r := by unfold inI; omega
            clear mr
            have fc := HF9_9.out.cell 3
            have ff := HF9_9.out.frozen 3
            simp at fc
            go_wp2_with fail
            go_meet
            exact ⟨rfl, ⟨x0, x1, x2, r⟩, ⟨iseries, ievent, idays, ir⟩, Lib.hid ((HD9.out.set hFw hFB).le (by omega)), Lib.hid (HR9_9.out.other (by omega)), Lib.hid (HF9_9.out.set 3 _ rfl)⟩
          · have b3 : (m == 3) = false := beq_eq_false_iff_ne.2 e3
            go_wp2_with fail
            go_meet
            exact ⟨rfl, ⟨x0, x1, x2, (1 + x3)⟩, ⟨iseries, ievent, idays, iact⟩, Lib.hid (HD5.out.le (by omega)), HR9_5, HF9_5⟩
  case rest =>
    obtain ⟨rfl, ⟨z0, z1, z2, z3⟩, hok, HD, HR, HF⟩ := hcut
    clear HD5 HR9_5 HF9_5
    obtain ⟨W11, hW11⟩ : ∃ x, x = wc := ⟨_, rfl⟩
    subst hW11
    have f0 := HF.out.cell 0
    have r0 := HR.out.cell 0
    have t0 := HR.out.frozen 0
    have f1 := HF.out.cell 1
    have r1 := HR.out.cell 1
    have t1 := HR.out.frozen 1
    have f2 := HF.out.cell 2
    have r2 := HR.out.cell 2
    have t2 := HR.out.frozen 2
    have f3 := HF.out.cell 3
    have r3 := HR.out.cell 3
    have t3 := HR.out.frozen 3
    simp at f0 f1 f2 f3 r0 r1 r2 r3
    have hok2 := Lib.hid hok
    clear hok
    go_wp2_with fail
    refine bodyPost_ret (v := .agg #[.int .i64 z0, .int .i64 z1, .int .i64 z2, .int .i64 z3]) (by simp [results, Try.results139, go_sem, r0, r1, r2, r3]) rfl ?_
    have hD := ((((HD.out.set (F := R) (j := 0) (u := .int .i64 z0) hRw hRB).set (F := R) (j := 1) (u := .int .i64 z1) hRw hRB).set (F := R) (j := 2) (u := .int .i64 z2) hRw hRB).set (F := R) (j := 3) (u := .int .i64 z3) hRw hRB)
    exact ⟨⟨z0, z1, z2, z3⟩, rfl, hok2.out, hD.cur.le_K (by omega), hD.gr⟩

end Go.Proofs.Ytenjajcknmfhfaa
