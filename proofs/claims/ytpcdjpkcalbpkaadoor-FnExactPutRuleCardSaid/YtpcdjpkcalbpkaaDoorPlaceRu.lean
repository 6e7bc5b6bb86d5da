/- Where the rule of a key stands in a schedule: the program's placeOfRule, with the two errors that it tells. -/
import Derived.Test.YtpcdjpkcalbpkaaDoorRuI
import Derived.Test.YtpcdjpkcalbpkaaDoorIs
import Derived.Laws.StructEq
namespace Go.Proofs.YtpcdjpkcalbpkaaDoor
set_option linter.unusedVariables false
open Go.RowKit Go.Sort

/-- The two errors lie where they were laid. -/
structure ErrEnv (w : World) (a0 a1 : Addr) : Prop where
  c0 : w.cell? ⟨0, 0, none⟩ = some (.iface 134 (.pointer (some a0)))
  c1 : w.cell? ⟨1, 0, none⟩ = some (.iface 134 (.pointer (some a1)))
  ne : a0 ≠ a1
  h0 : ∃ c t, w.heap[a0.block]? = some (.cells c t (0, 0))
  h1 : ∃ c t, w.heap[a1.block]? = some (.cells c t (0, 0))
theorem ErrEnv.below {w w' : World} {a0 a1 : Addr} (h : ErrEnv w a0 a1) (hb : Below w.heap.size w w') : ErrEnv w' a0 a1 :=
  ⟨cell_kept h.c0 hb, cell_kept h.c1 hb, h.ne, by obtain ⟨c, t, e⟩ := h.h0; exact ⟨c, t, box_kept e hb⟩, by obtain ⟨c, t, e⟩ := h.h1; exact ⟨c, t, box_kept e hb⟩⟩
theorem ErrEnv.other {w : World} {a0 a1 : Addr} (h : ErrEnv w a0 a1) : Calls Tryd.prog 27 #[.iface 134 (.pointer (some a1)), .iface 134 (.pointer (some a0))] w fun e w' => e = .returned (.bool false) ∧ w' = w := by
  obtain ⟨c0, t0, e0⟩ := h.h0
  obtain ⟨c1, t1, e1⟩ := h.h1
  exact is_other a1 a0 c1 c0 t1 t0 w (Ne.symm h.ne) e1 e0

theorem keyGuard (op : BinOp) (x y : Operand) (xs ys : Array Value) (w : World) : (eqGuard op 51 x y (.agg xs) (.agg ys)).run Tryd.prog w = .ok () w := run_eqGuard_agg w op 51 x y xs ys (by kernel_rfl)
theorem keyEq_run (x0 x1 y0 y1 : Int) (w : World) : (binOp .eql 51 (.agg #[.int .i64 x0, .int .i64 x1]) (.agg #[.int .i64 y0, .int .i64 y1])).run Tryd.prog w = .ok (.bool (decide (x0 = y0 ∧ x1 = y1))) w := by
  have u3 := Tryd.underlying3
  have a3 := Tryd.isAgg3
  have z3 := Tryd.sizeOf3
  have hS : Tryd.prog.underlying 51 = some (.struct (Tryd.prog.fieldsOf 51)) := by kernel_rfl
  have hp : Tryd.prog.stoodInHeld 51 = false := by kernel_rfl
  rw [run_eql_struct, show (10000 : Nat) = 9999 + 1 from rfl, run_equalIn_agg w 9999 51 _ _ hS hp]
  simp only [Program.fieldsOf, Tryd.underlying51]
  go_simp
  by_cases h1 : x0 = y0 <;> by_cases h2 : x1 = y1 <;> simp [h1, h2]

theorem placeOfRule_no (v : Value) (t : List Ru) (q : Ru) (a0 a1 : Addr) (w : World) (h : RowR 4 rRu w v t) (hE : ErrEnv w a0 a1) (hs : isSch t = false) :
    Calls Tryd.prog 25 #[v, .agg #[.int .i64 q.series, .int .i64 q.event]] w fun e w' => e = .returned (.tuple #[.int .i64 0, .iface 134 (.pointer (some a0))]) ∧ Below w.heap.size w w' := by
  have H := Lib.hid h
  have HS := Lib.hid hs
  have HE := Lib.hid hE
  clear h hs hE
  go_enter Tryd.func25, Tryd.ntmps25
  go_wp2_with (first | (go_at_call 30; refine (implIsSchedule_any _ t _ (H.out.below rRu_stable (below_al (Below.refl _ _) _))).mono ?_; rw [HS.out]; rintro e w1 ⟨rfl, b1⟩; have g0 := cell_kept HE.out.c0 (below_chain (below_al (Below.refl _ _) _) b1)))
  go_region
  all_goals
    go_wp2
    go_ret2
    exact ⟨rfl, by first | exact below_drewN (below_chain (below_al (Below.refl _ _) _) b1) _ | exact (below_chain (below_al (Below.refl _ _) _) b1) | exact (below_chain (below_al (Below.refl _ _) _) b1).drew⟩

/-- What placeOfRule hands back as its error: none, or that there is no such rule. -/
def plErr (f : Bool) (a1 : Addr) : Value := if f then .nilIface else .iface 134 (.pointer (some a1))

set_option maxRecDepth 20000 in
set_option maxHeartbeats 4000000 in
theorem placeOfRule_any (v : Value) (t : List Ru) (q : Ru) (a0 a1 : Addr) (w : World) (h : RowR 4 rRu w v t) (hE : ErrEnv w a0 a1) (hs : isSch t = true) :
    Calls Tryd.prog 25 #[v, .agg #[.int .i64 q.series, .int .i64 q.event]] w fun e w' => ∃ (p : Nat) (f : Bool), e = .returned (.tuple #[.int .i64 p, plErr f a1]) ∧ Below w.heap.size w w' ∧
      p ≤ t.length ∧ (∀ j, j < p → bef (t.getD j ruD) q = true) ∧ (f = true → p < t.length ∧ keyB (t.getD p ruD) q = true) ∧ (f = false → p < t.length → bef q (t.getD p ruD) = true) := by
  have h8 := sch_len hs
  obtain ⟨qs, qe, qd, qa⟩ := q
  have H := Lib.hid h
  have HS := Lib.hid hs
  have HE := Lib.hid hE
  obtain ⟨a, c, hv, hl1, hm1, _⟩ := h.rus
  subst hv
  unfold maxLen at hm1
  clear h hs hE
  go_enter Tryd.func25, Tryd.ntmps25
  go_wp2_with (first | (go_at_call 30; refine (implIsSchedule_any _ t _ (H.out.below rRu_stable (below_al (Below.refl _ _) _))).mono ?_; rw [HS.out]; rintro e w1 ⟨rfl, b1⟩; have z0 := cell_kept (cell_new (v := .int .i64 qs) w #[.int .i64 qs, .int .i64 qe] 51 0 rfl) b1; have z1 := cell_kept (cell_new (v := .int .i64 qe) w #[.int .i64 qs, .int .i64 qe] 51 1 rfl) b1; have HB := Lib.hid (below_chain (below_al (Below.refl _ _) _) b1); clear b1))
  obtain ⟨a', c', hv', _, _, r1⟩ := (H.out.below rRu_stable HB.out).rus
  cases hv'
  have R1 := Lib.hid r1
  have HE1 := Lib.hid (HE.out.below HB.out)
  clear r1
  go_loopw [14] (fun i wr => ∃ k : Nat, k ≤ t.length ∧ i = .int .i64 k ∧ Hid (∀ j, j < k → bef (t.getD j ruD) ⟨qs, qe, qd, qa⟩ = true) ∧ Below w1.heap.size w1 wr) (fun i _ => t.length - (intOf i).toNat)
  case atStart => exact ⟨0, Nat.zero_le _, rfl, Lib.hid (fun j hj => absurd hj (Nat.not_lt_zero _)), Below.refl _ _⟩
  case round =>
    obtain ⟨k, hk, rfl, HK, hb⟩ := hrel
    have hsz := hb.size
    by_cases hlt : k < t.length
    · obtain ⟨b1, o1, hb1, rfl, e1⟩ := R1.out.resolve_left (fun e => by rw [e] at hlt; simp at hlt)
      obtain ⟨f, hx⟩ : ∃ s, t.getD k ruD = s := ⟨_, rfl⟩
      obtain ⟨q0, q1, q2, q3, hok⟩ := e1 k hlt
      rw [hx] at q0 q1 q2 q3 hok
      obtain ⟨x0, x1, x2, x3⟩ := f
      simp only at q0 q1 q2 q3
      have f0 := cell_kept q0 hb
      have f1 := cell_kept q1 hb
      have f2 := cell_kept q2 hb
      have f3 := cell_kept q3 hb
      have y0 := cell_kept z0 hb
      have y1 := cell_kept z1 hb
      have HX := Lib.hid hx
      have g0 : (0 : Int) ≤ (k : Int) := by omega
      have g1 : (k : Int) < (t.length : Int) := by omega
      clear q0 q1 q2 q3 hok hx e1
      go_wp2_with fail
      generalize hWE : wr.alloc (.cells #[.int .i64 x0, .int .i64 x1, .int .i64 x2, .int .i64 x3] 30 (0, 0)) = wE
      have bE0 : Below wr.heap.size wr wE := by rw [← hWE]; exact below_al (Below.refl _ _) _
      have bE : Below w1.heap.size w1 wE := hb.trans (bE0.mono hsz)
      have u0 : wE.cell? ⟨wr.heap.size, 0, none⟩ = some (.int .i64 x0) := by rw [← hWE]; exact cell_new wr _ _ 0 rfl
      have u1 : wE.cell? ⟨wr.heap.size, 1, none⟩ = some (.int .i64 x1) := by rw [← hWE]; exact cell_new wr _ _ 1 rfl
      have u2 : wE.cell? ⟨wr.heap.size, 2, none⟩ = some (.int .i64 x2) := by rw [← hWE]; exact cell_new wr _ _ 2 rfl
      have u3 : wE.cell? ⟨wr.heap.size, 3, none⟩ = some (.int .i64 x3) := by rw [← hWE]; exact cell_new wr _ _ 3 rfl
      have s0 := cell_kept y0 bE0
      have s1 := cell_kept y1 bE0
      have hd : ∀ W, Calls Tryd.prog 26 #[.agg #[.int .i64 x0, .int .i64 x1, .int .i64 x2, .int .i64 x3]] W fun e w'' => e = .returned (.agg #[.int .i64 x0, .int .i64 x1]) ∧ Below W.heap.size W w'' := fun W => keyOf_any ⟨x0, x1, x2, x3⟩ W
      clear hWE f0 f1 f2 f3 y0 y1
      have m0 := cell_regrown u0
      have m1 := cell_regrown u1
      have m2 := cell_regrown u2
      have m3 := cell_regrown u3
      have n0 := cell_regrown s0
      have n1 := cell_regrown s1
      have kg := keyGuard
      obtain ⟨bK, hbK⟩ : ∃ b, decide (x0 = qs ∧ x1 = qe) = b := ⟨_, rfl⟩
      have ke : ∀ w, (binOp .eql 51 (.agg #[.int .i64 x0, .int .i64 x1]) (.agg #[.int .i64 qs, .int .i64 qe])).run Tryd.prog w = .ok (.bool bK) w := fun w => by rw [keyEq_run, hbK]
      have hd2 : ∀ d os, Calls Tryd.prog 26 #[.agg #[.int .i64 x0, .int .i64 x1, .int .i64 x2, .int .i64 x3]] (grow (redrawn wE d) os) fun e w'' => e = .returned (.agg #[.int .i64 x0, .int .i64 x1]) ∧ ∃ p : Regrown, w'' = grow (redrawn wE p.d) p.os := fun d os => Calls.regrown_of (keyOf_any ⟨x0, x1, x2, x3⟩ _)
      have he2 := hd2
      have HBK := Lib.hid hbK
      clear hbK hd
      cases bK
      · refine wp_region_quiet_below (by kernel_rfl) (by kernel_rfl) ?_
        repeat (go_big_quiet_step (first | exact hd2 _ _ | exact he2 _ _))
        refine wpQuiet_nil ?_
        intro _ hw'
        obtain ⟨⟨dq, osq⟩, hw''⟩ := hw'
        subst hw''
        have bq := below_regrown wE dq osq
        have bE2 : Below w1.heap.size w1 (grow (redrawn wE dq) osq) := bE.trans (bq.mono bE.size)
        have v0 := cell_kept u0 bq
        have v1 := cell_kept u1 bq
        have v2 := cell_kept u2 bq
        have v3 := cell_kept u3 bq
        have t0 := cell_kept s0 bq
        have t1 := cell_kept s1 bq
        have sE2 := bE2.size
        generalize grow (redrawn wE dq) osq = w2 at *
        clear m0 m1 m2 m3 n0 n1 ke kg hd2 he2 u0 u1 u2 u3 s0 s1 bq bE bE0
        have m0 := cell_regrown v0
        have m1 := cell_regrown v1
        have m2 := cell_regrown v2
        have m3 := cell_regrown v3
        have n0 := cell_regrown t0
        have n1 := cell_regrown t1
        obtain ⟨bB, hbB⟩ : ∃ b, bef ⟨qs, qe, qd, qa⟩ ⟨x0, x1, x2, x3⟩ = b := ⟨_, rfl⟩
        have hd2 : ∀ d os, Calls Tryd.prog 26 #[.agg #[.int .i64 x0, .int .i64 x1, .int .i64 x2, .int .i64 x3]] (grow (redrawn w2 d) os) fun e w'' => e = .returned (.agg #[.int .i64 x0, .int .i64 x1]) ∧ ∃ p : Regrown, w'' = grow (redrawn w2 p.d) p.os := fun d os => Calls.regrown_of (keyOf_any ⟨x0, x1, x2, x3⟩ _)
        have he2 : ∀ d os, Calls Tryd.prog 41 #[.agg #[.int .i64 qs, .int .i64 qe], .agg #[.int .i64 x0, .int .i64 x1]] (grow (redrawn w2 d) os) fun e w'' => e = .returned (.bool bB) ∧ ∃ p : Regrown, w'' = grow (redrawn w2 p.d) p.os := fun d os => Calls.regrown_of (by have := isBefore_any ⟨qs, qe, qd, qa⟩ ⟨x0, x1, x2, x3⟩ (grow (redrawn w2 d) os); rwa [hbB] at this)
        have HBB := Lib.hid hbB
        have HE2 := HE1.out.below bE2
        have HNK : Hid (keyB (t.getD k ruD) ⟨qs, qe, qd, qa⟩ = false) := Lib.hid (by rw [HX.out]; exact HBK.out)
        clear hbB
        go_wp2_with fail
        cases bB
        · refine wp_region_quiet_below (by kernel_rfl) (by kernel_rfl) ?_
          repeat (go_big_quiet_step (first | exact hd2 _ _ | exact he2 _ _))
          refine wpQuiet_nil ?_
          intro _ hw'
          obtain ⟨⟨dq, osq⟩, hw''⟩ := hw'
          subst hw''
          have bq2 := below_regrown w2 dq osq
          have bE3 : Below w1.heap.size w1 (grow (redrawn w2 dq) osq) := bE2.trans (bq2.mono sE2)
          generalize grow (redrawn w2 dq) osq = w3 at *
          go_wp2_with fail
          go_roundw
          case rel =>
            refine ⟨k + 1, by omega, by go_num, Lib.hid (fun j hj => ?_), bE3⟩
            rcases Nat.lt_or_ge j k with h' | h'
            · exact HK.out j h'
            · obtain rfl : j = k := by omega
              have hnk := HNK.out
              have hbb := HBB.out
              rw [← HX.out] at hbb
              rcases bef_three (t.getD j ruD) ⟨qs, qe, qd, qa⟩ with h1 | h1 | h1
              · exact h1
              · rw [hnk] at h1; cases h1
              · rw [hbb] at h1; cases h1
          case measure => simp [intOf]; omega
        · refine wp_region_quiet_below (by kernel_rfl) (by kernel_rfl) ?_
          repeat (go_big_quiet_step (first | exact hd2 _ _ | exact he2 _ _))
          refine wpQuiet_nil ?_
          intro _ hw'
          obtain ⟨⟨dq, osq⟩, hw''⟩ := hw'
          subst hw''
          have bq2 := below_regrown w2 dq osq
          have bE3 : Below w1.heap.size w1 (grow (redrawn w2 dq) osq) := bE2.trans (bq2.mono sE2)
          have gE := (HE1.out.below bE3).c1
          have BF := Lib.hid (HB.out.trans (bE3.mono HB.out.size))
          have s3 := BF.out.size
          generalize grow (redrawn w2 dq) osq = w3 at *
          clear m0 m1 m2 m3 n0 n1 hd2 he2 bq2 bE3 bE2 v0 v1 v2 v3 t0 t1 HE2
          go_wp2_with fail
          go_region
          all_goals
            go_wp2
            go_ret2
            exact ⟨k, false, rfl, by first | exact below_drewN BF.out _ | exact BF.out.drew | exact BF.out, by omega, HK.out, fun e => (by cases e), fun _ _ => (by rw [HX.out]; exact HBB.out)⟩
      · refine wp_region_quiet_below (by kernel_rfl) (by kernel_rfl) ?_
        repeat (go_big_quiet_step (first | exact hd2 _ _ | exact he2 _ _))
        refine wpQuiet_nil ?_
        intro _ hw'
        obtain ⟨⟨dq, osq⟩, hw''⟩ := hw'
        subst hw''
        have bq := below_regrown wE dq osq
        have BF := Lib.hid (HB.out.trans ((bE.trans (bq.mono bE.size)).mono HB.out.size))
        generalize grow (redrawn wE dq) osq = w2 at *
        go_wp2_with fail
        go_ret2
        exact ⟨k, true, rfl, BF.out, by omega, HK.out, fun _ => ⟨hlt, by rw [HX.out]; exact HBK.out⟩, fun e => (by cases e)⟩
    · obtain rfl : k = t.length := by omega
      have gE := (HE1.out.below hb).c1
      have BF := Lib.hid (HB.out.trans (hb.mono HB.out.size))
      go_wp2_with fail
      go_region
      all_goals
        go_wp2
        go_ret2
        exact ⟨t.length, false, rfl, by first | exact below_drewN BF.out _ | exact BF.out.drew | exact BF.out, by omega, HK.out, fun e => (by cases e), fun _ h => (by omega)⟩
end Go.Proofs.YtpcdjpkcalbpkaaDoor
