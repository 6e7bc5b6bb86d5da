/- Versions, the model's: FirstDueDay, WhyOn. -/
import Derived.Test.YtpngmheflpbnbaaVeS2
namespace Go.Proofs.Ytpngmheflpbnbaa
set_option linter.unusedVariables false
open Go.RowKit Go.Sort

theorem l1MostV_any (a b : Int) (w : World) : Calls Try.prog 64 #[.int .i64 a, .int .i64 b] w fun e w' => e = .returned (.int .i64 (max a b)) ∧ w' = w := by
  by_cases h : b < a
  · go_enter Try.func64, Try.ntmps64
    go_wp2
    go_ret
    exact ⟨ret_int (by omega), rfl⟩
  · go_enter Try.func64, Try.ntmps64
    go_wp2
    go_ret
    exact ⟨ret_int (by omega), rfl⟩

set_option maxRecDepth 20000 in
set_option maxHeartbeats 4000000 in
theorem specFirstDueDay_any (v v1 : Value) (t : List Ve) (r : Rec) (w : World) (h : RowR 2 rVe w v t) (h1 : RecV w v1 r) (n : Int) (b : Bool) (hres : firRes t r = (n, b)) :
    Calls Try.prog 34 #[v, v1] w fun e w' => e = .returned (.tuple #[.int .i64 n, .bool b]) ∧ Below w.heap.size w w' := by
  obtain ⟨s, rfl, h0, hok⟩ := h1
  have HV := Lib.hid (show ∀ W, Below w.heap.size w W → RecV W (.agg #[.int .i64 r.id, .int .i64 r.series, .int .i64 r.made, s]) r from fun W hb => ⟨s, rfl, h0.below rEv_stable hb, hok⟩)
  have H := Lib.hid (show ∀ W, Below w.heap.size w W → RowR 2 rVe W v t from fun W hb => h.below rVe_stable hb)
  obtain ⟨a1, c1, rfl, hl1, hm1, r1⟩ := h.ves
  have R1 := Lib.hid r1
  unfold maxLen at hm1
  have b0 := below_al (Below.refl w.heap.size w) (RBOX r s 42)
  have HC0 := Lib.hid (Box4.new w r s 42)
  have hask0 : askV t r 0 = (areVe t && isRec r) := by unfold askV; simp
  obtain ⟨ba, ha⟩ : ∃ b, askV t r 0 = b := ⟨_, rfl⟩
  have HA := Lib.hid ha
  cases ba
  · rw [firRes_no (by rw [hask0] at ha; simpa using ha)] at hres
    cases hres
    clear h0 hok h ha r1 hask0
    go_enter Try.func34, Try.ntmps34
    go_wp2_with (first | (go_at_call 54; refine (l8Asked_any _ _ t r 0 _ (H.out _ b0) (HV.out _ b0)).mono ?_; rw [HA.out]; rintro e w1 ⟨rfl, b1⟩; replace b1 := below_chain b0 b1))
    go_ret2
    exact ⟨rfl, b1⟩
  · have hve : areVe t = true ∧ isRec r = true := by rw [hask0] at ha; simpa using ha
    have HVE := Lib.hid hve
    have HRES := Lib.hid hres
    have h5 := ve_len hve.1
    clear h0 hok h ha r1 hask0 hve hres
    go_enter Try.func34, Try.ntmps34
    go_wp2_with (first | (go_at_call 54; refine (l8Asked_any _ _ t r 0 _ (H.out _ b0) (HV.out _ b0)).mono ?_; rw [HA.out]; rintro e w1 ⟨rfl, b1⟩; have HC1 := Lib.hid (HC0.out.kept b1); replace b1 := below_chain b0 b1))
    have s1 := b1.size
    go_loopw [6] (fun i wr => ∃ k : Nat, k ≤ t.length ∧ i = .int .i64 k ∧ Hid (∀ j, j < k → hitV t r j = false) ∧ Below w1.heap.size w1 wr) (fun i _ => t.length - (intOf i).toNat)
    case atStart => exact ⟨0, Nat.zero_le _, rfl, Lib.hid (fun j hj => absurd hj (Nat.not_lt_zero _)), Below.refl _ _⟩
    case round =>
      obtain ⟨k, hk, rfl, HNH, hb⟩ := hrel
      have hbw := b1.trans (hb.mono b1.size)
      by_cases hlt : k < t.length
      · obtain ⟨bL, oL, hbL, rfl, e1⟩ := R1.out.resolve_left (fun e => by rw [e] at hlt; simp at hlt)
        obtain ⟨sr, q0, q1, hr, _⟩ := e1 k hlt
        obtain ⟨x, hx⟩ : ∃ x, (t.getD k veD).rules = x := ⟨_, rfl⟩
        obtain ⟨fk, hfk⟩ : ∃ x, (t.getD k veD).frm = x := ⟨_, rfl⟩
        have hfb := (ve_at HVE.out.1 hlt).1
        have hsc := askV_sch HA.out hlt
        rw [hx] at hr hsc
        rw [hfk] at q0 hfb
        obtain ⟨⟨x0, x1, x2, x3⟩, D, hdec⟩ : ∃ q d, decR r (forRu x r.series) = (q, d) := ⟨_, _, rfl⟩
        have hdF : dueF r x = D := by unfold dueF; rw [hdec]
        have HDF : Hid (dueF r (t.getD k veD).rules = D) := Lib.hid (by rw [hx, hdF])
        have HFK := Lib.hid hfk
        have Q0 := Lib.hid (cell_kept q0 hbw)
        have f1 := cell_kept q1 hbw
        obtain ⟨c0, c1, c2, c3⟩ := HC1.out.kept hb
        have g0 : (0 : Int) ≤ (k : Int) := by omega
        have g1 : (k : Int) < (t.length : Int) := by omega
        have gk1 : (0 : Int) ≤ (k : Int) + 1 := by omega
        have gk2 : ((k : Int) + 1).toNat = k + 1 := by omega
        have hcall : Hid (∀ W, Below wr.heap.size wr W → Calls Try.prog 55 #[.agg #[.int .i64 r.id, .int .i64 r.series, .int .i64 r.made, s], sr] W fun e w' => e = .returned (.tuple #[.agg #[.int .i64 x0, .int .i64 x1, .int .i64 x2, .int .i64 x3], .int .i64 D]) ∧ Below W.heap.size W w') := Lib.hid (fun W hW => l6Deciding_any _ _ r x W (HV.out _ (hbw.trans (hW.mono hbw.size))) (hr.below rRu_stable (hbw.trans (hW.mono hbw.size))) (ask_iff.1 hsc).1 (ask_iff.1 hsc).2 _ _ hdec)
        by_cases hn1 : k + 1 < t.length
        · obtain ⟨sr2, p0, _, _, _⟩ := e1 (k + 1) hn1
          obtain ⟨y, hy⟩ : ∃ x, (t.getD (k + 1) veD).frm = x := ⟨_, rfl⟩
          have hyb := (ve_at HVE.out.1 hn1).1
          rw [hy] at p0 hyb
          have HL : Hid (lastV t k = y - 1) := Lib.hid (by unfold lastV; rw [if_pos hn1, hy])
          have f2 := cell_kept p0 hbw
          have g3 : (k : Int) + 1 < (t.length : Int) := by omega
          clear q0 q1 p0 hy hr hsc hdec hdF e1 hx hfk
          go_wp2_with fail
          have hl0 : w.heap.size < wr.heap.size := World.block_lt_of_cell? _ _ c0
          have hlL : bL < wr.heap.size := World.block_lt_of_cell? _ _ f1
          go_region_held3 (fun w' => w'.cell? ⟨w.heap.size, 0, none⟩ = some (.int .i64 r.id) ∧ w'.cell? ⟨w.heap.size, 1, none⟩ = some (.int .i64 r.series) ∧ w'.cell? ⟨w.heap.size, 2, none⟩ = some (.int .i64 r.made) ∧ w'.cell? ⟨w.heap.size, 3, none⟩ = some (s) ∧ w'.cell? ⟨bL, oL + k * 2 + 1, none⟩ = some sr)
            (first | with_reducible exact ⟨c0, c1, c2, c3, f1⟩ | with_reducible exact ⟨cell_drew c0, cell_drew c1, cell_drew c2, cell_drew c3, cell_drew f1⟩ | with_reducible exact ⟨below_al_cell c0 _, below_al_cell c1 _, below_al_cell c2 _, below_al_cell c3 _, below_al_cell f1 _⟩ | with_reducible exact ⟨cell_drew (below_al_cell c0 _), cell_drew (below_al_cell c1 _), cell_drew (below_al_cell c2 _), cell_drew (below_al_cell c3 _), cell_drew (below_al_cell f1 _)⟩ | (refine ⟨?_, ?_, ?_, ?_, ?_⟩ <;> (repeat rw [World.cell?_setCell_far _ _ _ _ (by simp; omega)]) <;> first | assumption | go_keep))
            (first | (go_at_call 55; (with_reducible refine (hcall.out _ ((Below.refl wr.heap.size wr).drew)).mono ?_); rintro e w5 ⟨rfl, b5⟩; have bA : Below wr.heap.size wr w5 := below_chain ((Below.refl wr.heap.size wr).drew) b5; replace c0 := cell_kept c0 bA; replace c1 := cell_kept c1 bA; replace c2 := cell_kept c2 bA; replace c3 := cell_kept c3 bA; replace f1 := cell_kept f1 bA; have hs5 := bA.size; simp only) | (go_at_call 55; (with_reducible refine (hcall.out _ ((below_al (Below.refl wr.heap.size wr) (.cells #[.int .i64 0, .int .i64 0, .int .i64 0, .int .i64 0] 37 (0, 0))).drew)).mono ?_); rintro e w5 ⟨rfl, b5⟩; have bB : Below wr.heap.size wr w5 := below_chain ((below_al (Below.refl wr.heap.size wr) (.cells #[.int .i64 0, .int .i64 0, .int .i64 0, .int .i64 0] 37 (0, 0))).drew) b5; replace c0 := cell_kept c0 bB; replace c1 := cell_kept c1 bB; replace c2 := cell_kept c2 bB; replace c3 := cell_kept c3 bB; replace f1 := cell_kept f1 bB; have hs5 := bB.size; obtain ⟨k0, k1, k2, k3, l0, l1, l2, l3⟩ := ((UBox.new wr ruD 37).drew.kept b5); simp only [ruD] at k0 k1 k2 k3; simp only))
          all_goals first
            | (have hBV := Lib.hid (below_al bA (.cells #[.int .i64 x0, .int .i64 x1, .int .i64 x2, .int .i64 x3] 37 (0, 0))); generalize w5.alloc (.cells #[.int .i64 x0, .int .i64 x1, .int .i64 x2, .int .i64 x3] 37 (0, 0)) = V at hBV ⊢; clear bA b5 c0 c1 c2 c3 f1)
            | (have hBV := Lib.hid (below_putU bB (Nat.le_refl _) ⟨x0, x1, x2, x3⟩); simp only [putU] at hBV; generalize ((((w5.setCell ⟨wr.heap.size, 0, none⟩ (.int .i64 x0)).setCell ⟨wr.heap.size, 1, none⟩ (.int .i64 x1)).setCell ⟨wr.heap.size, 2, none⟩ (.int .i64 x2)).setCell ⟨wr.heap.size, 3, none⟩ (.int .i64 x3)) = V at hBV ⊢; clear bB b5 c0 c1 c2 c3 f1 k0 k1 k2 k3 l0 l1 l2 l3)
          all_goals
            have f0 := cell_kept Q0.out hBV.out
            have hb9 : Below w1.heap.size w1 V := hb.trans (hBV.out.mono hb.size)
            clear hBV
            by_cases hD0 : 0 ≤ D
            · by_cases hDL : D ≤ y - 1
              · have hhit : hitV t r k = true := hitV_iff.2 ⟨by rw [HDF.out]; exact hD0, by rw [HDF.out, HL.out]; exact hDL⟩
                have hans := HRES.out
                rw [firRes_some HVE.out (firV_some hlt hhit HNH.out), HDF.out, HFK.out] at hans
                cases hans
                clear hhit
                go_wp2_with (first | (go_at_call 64; refine (l1MostV_any _ _ _).mono ?_; rintro e w7 ⟨rfl, h7⟩; subst w7))
                go_ret2
                exact ⟨rfl, b1.trans (hb9.mono b1.size)⟩
              · have hhit : hitV t r k = false := by
                  rcases hq : hitV t r k with _ | _
                  · rfl
                  · have := (hitV_iff.1 hq).2; rw [HDF.out, HL.out] at this; exact absurd this hDL
                have HN2 : Hid (∀ j, j < k + 1 → hitV t r j = false) := Lib.hid (fun j hj => by
                  rcases Nat.lt_or_ge j k with h' | h'
                  · exact HNH.out j h'
                  · obtain rfl : j = k := by omega
                    exact hhit)
                clear hhit
                go_wp2_with fail
                go_roundw
                case rel => exact ⟨k + 1, by omega, by go_num, HN2, hb9⟩
                case measure => simp [intOf]; omega
            · have hhit : hitV t r k = false := by
                rcases hq : hitV t r k with _ | _
                · rfl
                · have := (hitV_iff.1 hq).1; rw [HDF.out] at this; exact absurd this hD0
              have HN2 : Hid (∀ j, j < k + 1 → hitV t r j = false) := Lib.hid (fun j hj => by
                rcases Nat.lt_or_ge j k with h' | h'
                · exact HNH.out j h'
                · obtain rfl : j = k := by omega
                  exact hhit)
              clear hhit
              go_wp2_with fail
              go_roundw
              case rel => exact ⟨k + 1, by omega, by go_num, HN2, hb9⟩
              case measure => simp [intOf]; omega
        · have HL : Hid (lastV t k = 20000) := Lib.hid (by unfold lastV; rw [if_neg hn1])
          have g3 : ¬ (k : Int) + 1 < (t.length : Int) := by omega
          clear q0 q1 hr hsc hdec hdF e1 hx hfk
          go_wp2_with fail
          have hl0 : w.heap.size < wr.heap.size := World.block_lt_of_cell? _ _ c0
          have hlL : bL < wr.heap.size := World.block_lt_of_cell? _ _ f1
          go_region_held3 (fun w' => w'.cell? ⟨w.heap.size, 0, none⟩ = some (.int .i64 r.id) ∧ w'.cell? ⟨w.heap.size, 1, none⟩ = some (.int .i64 r.series) ∧ w'.cell? ⟨w.heap.size, 2, none⟩ = some (.int .i64 r.made) ∧ w'.cell? ⟨w.heap.size, 3, none⟩ = some (s) ∧ w'.cell? ⟨bL, oL + k * 2 + 1, none⟩ = some sr)
            (first | with_reducible exact ⟨c0, c1, c2, c3, f1⟩ | with_reducible exact ⟨cell_drew c0, cell_drew c1, cell_drew c2, cell_drew c3, cell_drew f1⟩ | with_reducible exact ⟨below_al_cell c0 _, below_al_cell c1 _, below_al_cell c2 _, below_al_cell c3 _, below_al_cell f1 _⟩ | with_reducible exact ⟨cell_drew (below_al_cell c0 _), cell_drew (below_al_cell c1 _), cell_drew (below_al_cell c2 _), cell_drew (below_al_cell c3 _), cell_drew (below_al_cell f1 _)⟩ | (refine ⟨?_, ?_, ?_, ?_, ?_⟩ <;> (repeat rw [World.cell?_setCell_far _ _ _ _ (by simp; omega)]) <;> first | assumption | go_keep))
            (first | (go_at_call 55; (with_reducible refine (hcall.out _ ((Below.refl wr.heap.size wr).drew)).mono ?_); rintro e w5 ⟨rfl, b5⟩; have bA : Below wr.heap.size wr w5 := below_chain ((Below.refl wr.heap.size wr).drew) b5; replace c0 := cell_kept c0 bA; replace c1 := cell_kept c1 bA; replace c2 := cell_kept c2 bA; replace c3 := cell_kept c3 bA; replace f1 := cell_kept f1 bA; have hs5 := bA.size; simp only) | (go_at_call 55; (with_reducible refine (hcall.out _ ((below_al (Below.refl wr.heap.size wr) (.cells #[.int .i64 0, .int .i64 0, .int .i64 0, .int .i64 0] 37 (0, 0))).drew)).mono ?_); rintro e w5 ⟨rfl, b5⟩; have bB : Below wr.heap.size wr w5 := below_chain ((below_al (Below.refl wr.heap.size wr) (.cells #[.int .i64 0, .int .i64 0, .int .i64 0, .int .i64 0] 37 (0, 0))).drew) b5; replace c0 := cell_kept c0 bB; replace c1 := cell_kept c1 bB; replace c2 := cell_kept c2 bB; replace c3 := cell_kept c3 bB; replace f1 := cell_kept f1 bB; have hs5 := bB.size; obtain ⟨k0, k1, k2, k3, l0, l1, l2, l3⟩ := ((UBox.new wr ruD 37).drew.kept b5); simp only [ruD] at k0 k1 k2 k3; simp only))
          all_goals first
            | (have hBV := Lib.hid (below_al bA (.cells #[.int .i64 x0, .int .i64 x1, .int .i64 x2, .int .i64 x3] 37 (0, 0))); generalize w5.alloc (.cells #[.int .i64 x0, .int .i64 x1, .int .i64 x2, .int .i64 x3] 37 (0, 0)) = V at hBV ⊢; clear bA b5 c0 c1 c2 c3 f1)
            | (have hBV := Lib.hid (below_putU bB (Nat.le_refl _) ⟨x0, x1, x2, x3⟩); simp only [putU] at hBV; generalize ((((w5.setCell ⟨wr.heap.size, 0, none⟩ (.int .i64 x0)).setCell ⟨wr.heap.size, 1, none⟩ (.int .i64 x1)).setCell ⟨wr.heap.size, 2, none⟩ (.int .i64 x2)).setCell ⟨wr.heap.size, 3, none⟩ (.int .i64 x3)) = V at hBV ⊢; clear bB b5 c0 c1 c2 c3 f1 k0 k1 k2 k3 l0 l1 l2 l3)
          all_goals
            have f0 := cell_kept Q0.out hBV.out
            have hb9 : Below w1.heap.size w1 V := hb.trans (hBV.out.mono hb.size)
            clear hBV
            by_cases hD0 : 0 ≤ D
            · by_cases hDL : D ≤ 20000
              · have hhit : hitV t r k = true := hitV_iff.2 ⟨by rw [HDF.out]; exact hD0, by rw [HDF.out, HL.out]; exact hDL⟩
                have hans := HRES.out
                rw [firRes_some HVE.out (firV_some hlt hhit HNH.out), HDF.out, HFK.out] at hans
                cases hans
                clear hhit
                go_wp2_with (first | (go_at_call 64; refine (l1MostV_any _ _ _).mono ?_; rintro e w7 ⟨rfl, h7⟩; subst w7))
                go_ret2
                exact ⟨rfl, b1.trans (hb9.mono b1.size)⟩
              · have hhit : hitV t r k = false := by
                  rcases hq : hitV t r k with _ | _
                  · rfl
                  · have := (hitV_iff.1 hq).2; rw [HDF.out, HL.out] at this; exact absurd this hDL
                have HN2 : Hid (∀ j, j < k + 1 → hitV t r j = false) := Lib.hid (fun j hj => by
                  rcases Nat.lt_or_ge j k with h' | h'
                  · exact HNH.out j h'
                  · obtain rfl : j = k := by omega
                    exact hhit)
                clear hhit
                go_wp2_with fail
                go_roundw
                case rel => exact ⟨k + 1, by omega, by go_num, HN2, hb9⟩
                case measure => simp [intOf]; omega
            · have hhit : hitV t r k = false := by
                rcases hq : hitV t r k with _ | _
                · rfl
                · have := (hitV_iff.1 hq).1; rw [HDF.out] at this; exact absurd this hD0
              have HN2 : Hid (∀ j, j < k + 1 → hitV t r j = false) := Lib.hid (fun j hj => by
                rcases Nat.lt_or_ge j k with h' | h'
                · exact HNH.out j h'
                · obtain rfl : j = k := by omega
                  exact hhit)
              clear hhit
              go_wp2_with fail
              go_roundw
              case rel => exact ⟨k + 1, by omega, by go_num, HN2, hb9⟩
              case measure => simp [intOf]; omega
      · obtain rfl : k = t.length := by omega
        have hans := HRES.out
        rw [firRes_none (firV_none HNH.out)] at hans
        cases hans
        go_wp2_with fail
        go_ret2
        exact ⟨rfl, hbw⟩

set_option maxRecDepth 20000 in
set_option maxHeartbeats 4000000 in
theorem specWhyOn_any (v v1 : Value) (t : List Ve) (r : Rec) (d : Int) (w : World) (h : RowR 2 rVe w v t) (h1 : RecV w v1 r) (ss : ByteArray) (b : Bool) (hres : whyRes t r d = (ss, b)) :
    Calls Try.prog 45 #[v, v1, .int .i64 d] w fun e w' => e = .returned (.tuple #[.string ss, .bool b]) ∧ Below w.heap.size w w' := by
  obtain ⟨s, rfl, h0, hok⟩ := h1
  have HV := Lib.hid (show ∀ W, Below w.heap.size w W → RecV W (.agg #[.int .i64 r.id, .int .i64 r.series, .int .i64 r.made, s]) r from fun W hb => ⟨s, rfl, h0.below rEv_stable hb, hok⟩)
  have H := Lib.hid (show ∀ W, Below w.heap.size w W → RowR 2 rVe W v t from fun W hb => h.below rVe_stable hb)
  obtain ⟨a1, c1, rfl, hl1, hm1, r1⟩ := h.ves
  have R1 := Lib.hid r1
  unfold maxLen at hm1
  have b0 := below_al (Below.refl w.heap.size w) (RBOX r s 42)
  have HC0 := Lib.hid (Box4.new w r s 42)
  obtain ⟨ba, ha⟩ : ∃ b, askV t r d = b := ⟨_, rfl⟩
  have HA := Lib.hid ha
  obtain ⟨N, hN⟩ : ∃ N, onV t d = N := ⟨_, rfl⟩
  have HN := Lib.hid hN
  unfold whyRes at hres
  cases ba
  · rw [if_neg (by rw [ha]; simp)] at hres
    cases hres
    clear h0 hok h ha r1 hN
    go_enter Try.func45, Try.ntmps45
    go_wp2_with (first | (go_at_call 54; refine (l8Asked_any _ _ t r d _ (H.out _ b0) (HV.out _ b0)).mono ?_; rw [HA.out]; rintro e w1 ⟨rfl, b1⟩; replace b1 := below_chain b0 b1))
    go_ret2
    exact ⟨rfl, b1⟩
  · rw [if_pos ha] at hres
    by_cases hneg : N < 0
    · have hw : whyV t r d = wNone := by unfold whyV; rw [if_pos (by rw [hN]; exact hneg)]
      rw [hw] at hres
      cases hres
      clear h0 hok h ha r1 hN hw
      go_enter Try.func45, Try.ntmps45
      go_wp2_with (first | (go_at_call 54; refine (l8Asked_any _ _ t r d _ (H.out _ b0) (HV.out _ b0)).mono ?_; rw [HA.out]; rintro e w1 ⟨rfl, b1⟩; replace b1 := below_chain b0 b1) | (go_at_call 51; refine (l8On_any _ t d _ (H.out _ b1)).mono ?_; rw [HN.out]; rintro e w2 ⟨rfl, b2⟩; replace b2 := below_chain b1 b2))
      go_ret2
      exact ⟨rfl, b2⟩
    · have hge : ¬ N < 0 := hneg
      obtain ⟨k, hk0, hk, _, _⟩ := onV_at (t := t) (d := d) (by rw [hN]; omega)
      have hNk : N = (k : Int) := by rw [← hN]; exact hk0
      subst hNk
      have hsc := askV_sch ha hk
      obtain ⟨x, hx⟩ : ∃ x, (t.getD k veD).rules = x := ⟨_, rfl⟩
      obtain ⟨bL, oL, hbL, rfl, e1⟩ := r1.resolve_left (fun e => by rw [e] at hk; simp at hk)
      obtain ⟨sr, _, q1, hr, _⟩ := e1 k hk
      rw [hx] at hr hsc
      have HR := Lib.hid (show ∀ W, Below w.heap.size w W → RowR 4 rRu W sr x from fun W hb => hr.below rRu_stable hb)
      have hxl := sch_len (ask_iff.1 hsc).2
      obtain ⟨⟨x0, x1, x2, x3⟩, D, hdec⟩ : ∃ q d, decR r (forRu x r.series) = (q, d) := ⟨_, _, rfl⟩
      have hdF : dueF r x = D := by unfold dueF; rw [hdec]
      have HDF := Lib.hid hdF
      obtain ⟨R, hR⟩ : ∃ R, forRu x r.series = R := ⟨_, rfl⟩
      have HRR := Lib.hid hR
      have g0 : (0 : Int) ≤ (k : Int) := by omega
      have g1 : (k : Int) < (t.length : Int) := by omega
      have hwhy : whyV t r d = (if R.length = 0 then wSeries else if D < 0 then wEvent else if d < D then wEarly else wDue) := by unfold whyV; rw [if_neg (by rw [hN]; omega), hN, rulesAt_nat, hx]; unfold whyR; rw [hR, hdF]
      rw [hwhy] at hres
      have HRES := Lib.hid hres
      have hcall0 : Hid (∀ W, Below w.heap.size w W → Calls Try.prog 55 #[.agg #[.int .i64 r.id, .int .i64 r.series, .int .i64 r.made, s], sr] W fun e w' => e = .returned (.tuple #[.agg #[.int .i64 x0, .int .i64 x1, .int .i64 x2, .int .i64 x3], .int .i64 D]) ∧ Below W.heap.size W w') := Lib.hid (fun W hW => l6Deciding_any _ _ r x W (HV.out _ hW) (HR.out _ hW) (ask_iff.1 hsc).1 (ask_iff.1 hsc).2 _ _ hdec)
      clear h0 hok h ha r1 hN hres hwhy hr hsc hdec hdF hx hR e1 hk0 hneg
      go_enter Try.func45, Try.ntmps45
      go_wp2_with (first | (go_at_call 54; refine (l8Asked_any _ _ t r d _ (H.out _ b0) (HV.out _ b0)).mono ?_; rw [HA.out]; rintro e w1 ⟨rfl, b1⟩; have HC1 := Lib.hid (HC0.out.kept b1); replace b1 := below_chain b0 b1) | (go_at_call 51; refine (l8On_any _ t d _ (H.out _ b1)).mono ?_; rw [HN.out]; rintro e w2 ⟨rfl, b2⟩; obtain ⟨c0, c1, c2, c3⟩ := HC1.out.kept b2; have HC2 := Lib.hid (HC1.out.kept b2); replace b2 := below_chain b1 b2))
      have f1 := cell_kept q1 b2
      have F1 := Lib.hid f1
      have hcall : Hid (∀ W, Below w2.heap.size w2 W → Calls Try.prog 55 #[.agg #[.int .i64 r.id, .int .i64 r.series, .int .i64 r.made, s], sr] W fun e w' => e = .returned (.tuple #[.agg #[.int .i64 x0, .int .i64 x1, .int .i64 x2, .int .i64 x3], .int .i64 D]) ∧ Below W.heap.size W w') := Lib.hid (fun W hW => hcall0.out W (b2.trans (hW.mono b2.size)))
      have hl0 : w.heap.size < w2.heap.size := World.block_lt_of_cell? _ _ c0
      have hlL : bL < w2.heap.size := World.block_lt_of_cell? _ _ f1
      go_region_held3 (fun w' => w'.cell? ⟨w.heap.size, 0, none⟩ = some (.int .i64 r.id) ∧ w'.cell? ⟨w.heap.size, 1, none⟩ = some (.int .i64 r.series) ∧ w'.cell? ⟨w.heap.size, 2, none⟩ = some (.int .i64 r.made) ∧ w'.cell? ⟨w.heap.size, 3, none⟩ = some (s) ∧ w'.cell? ⟨bL, oL + k * 2 + 1, none⟩ = some sr)
        (first | with_reducible exact ⟨c0, c1, c2, c3, f1⟩ | with_reducible exact ⟨cell_drew c0, cell_drew c1, cell_drew c2, cell_drew c3, cell_drew f1⟩ | with_reducible exact ⟨below_al_cell c0 _, below_al_cell c1 _, below_al_cell c2 _, below_al_cell c3 _, below_al_cell f1 _⟩ | with_reducible exact ⟨cell_drew (below_al_cell c0 _), cell_drew (below_al_cell c1 _), cell_drew (below_al_cell c2 _), cell_drew (below_al_cell c3 _), cell_drew (below_al_cell f1 _)⟩ | (refine ⟨?_, ?_, ?_, ?_, ?_⟩ <;> (repeat rw [World.cell?_setCell_far _ _ _ _ (by simp; omega)]) <;> first | assumption | go_keep))
        (first | (go_at_call 55; (with_reducible refine (hcall.out _ ((Below.refl w2.heap.size w2).drew)).mono ?_); rintro e w5 ⟨rfl, b5⟩; have bA : Below w2.heap.size w2 w5 := below_chain ((Below.refl w2.heap.size w2).drew) b5; replace c0 := cell_kept c0 bA; replace c1 := cell_kept c1 bA; replace c2 := cell_kept c2 bA; replace c3 := cell_kept c3 bA; replace f1 := cell_kept f1 bA; have hs5 := bA.size; simp only) | (go_at_call 55; (with_reducible refine (hcall.out _ ((below_al (Below.refl w2.heap.size w2) (.cells #[.int .i64 0, .int .i64 0, .int .i64 0, .int .i64 0] 37 (0, 0))).drew)).mono ?_); rintro e w5 ⟨rfl, b5⟩; have bB : Below w2.heap.size w2 w5 := below_chain ((below_al (Below.refl w2.heap.size w2) (.cells #[.int .i64 0, .int .i64 0, .int .i64 0, .int .i64 0] 37 (0, 0))).drew) b5; replace c0 := cell_kept c0 bB; replace c1 := cell_kept c1 bB; replace c2 := cell_kept c2 bB; replace c3 := cell_kept c3 bB; replace f1 := cell_kept f1 bB; have hs5 := bB.size; obtain ⟨k0, k1, k2, k3, l0, l1, l2, l3⟩ := ((UBox.new w2 ruD 37).drew.kept b5); simp only [ruD] at k0 k1 k2 k3; simp only))
      all_goals first
        | (have hBV := Lib.hid (below_al bA (.cells #[.int .i64 x0, .int .i64 x1, .int .i64 x2, .int .i64 x3] 37 (0, 0))); generalize w5.alloc (.cells #[.int .i64 x0, .int .i64 x1, .int .i64 x2, .int .i64 x3] 37 (0, 0)) = V at hBV ⊢; clear bA b5 c0 c1 c2 c3 f1)
        | (have hBV := Lib.hid (below_putU bB (Nat.le_refl _) ⟨x0, x1, x2, x3⟩); simp only [putU] at hBV; generalize ((((w5.setCell ⟨w2.heap.size, 0, none⟩ (.int .i64 x0)).setCell ⟨w2.heap.size, 1, none⟩ (.int .i64 x1)).setCell ⟨w2.heap.size, 2, none⟩ (.int .i64 x2)).setCell ⟨w2.heap.size, 3, none⟩ (.int .i64 x3)) = V at hBV ⊢; clear bB b5 c0 c1 c2 c3 f1 k0 k1 k2 k3 l0 l1 l2 l3)
      all_goals
        have f1 := cell_kept F1.out hBV.out
        obtain ⟨c0, c1, c2, c3⟩ := HC2.out.kept hBV.out
        have bV : Below w.heap.size w V := b2.trans (hBV.out.mono b2.size)
        clear hBV
        by_cases hR0 : R.length = 0
        · have hans := HRES.out
          rw [if_pos hR0] at hans
          cases hans
          have hz1 : ((R.length : Int) == 0) = true := by simp [hR0]
          have hz2 : decide ((R.length : Int) = 0) = true := decide_eq_true (by omega)
          clear hR0
          go_wp2_with fail
          go_still_tail 7, (by kernel_rfl)
          change wpList _ _ _ _ _ V.drew
          have bV2 := bV.drew
          generalize V.drew = V2 at bV2 ⊢
          go_wp2_with (first | (go_at_call 67; refine (l4For_any _ x r.series _ (HR.out _ bV2) (by omega)).mono ?_; rw [HRR.out]; rintro e w6 ⟨v6, rfl, ho6, b6⟩; obtain ⟨sa, sn, sc, hv6⟩ := ho6.1.slice; obtain ⟨a6, c6, hv, hl6, hm6, _⟩ := ho6.row.rus; unfold maxLen at hm6; subst hv; clear hv6 ho6; have b7 := below_chain bV2 b6))
          go_ret2
          exact ⟨rfl, b7⟩
        · have hans := HRES.out
          rw [if_neg hR0] at hans
          have hz1 : ((R.length : Int) == 0) = false := by simp [hR0]
          have hz2 : decide ((R.length : Int) = 0) = false := decide_eq_false (by omega)
          clear hR0
          by_cases hD0 : D < 0
          · rw [if_pos hD0] at hans
            cases hans
            go_wp2_with fail
            go_still_tail 7, (by kernel_rfl)
            change wpList _ _ _ _ _ V.drew
            have bV2 := bV.drew
            generalize V.drew = V2 at bV2 ⊢
            go_wp2_with (first | (go_at_call 67; refine (l4For_any _ x r.series _ (HR.out _ bV2) (by omega)).mono ?_; rw [HRR.out]; rintro e w6 ⟨v6, rfl, ho6, b6⟩; obtain ⟨sa, sn, sc, hv6⟩ := ho6.1.slice; obtain ⟨a6, c6, hv, hl6, hm6, _⟩ := ho6.row.rus; unfold maxLen at hm6; subst hv; clear hv6 ho6; have b7 := below_chain bV2 b6))
            go_ret2
            exact ⟨rfl, b7⟩
          · rw [if_neg hD0] at hans
            by_cases hDd : d < D
            · rw [if_pos hDd] at hans
              cases hans
              go_wp2_with fail
              go_still_tail 7, (by kernel_rfl)
              change wpList _ _ _ _ _ V.drew
              have bV2 := bV.drew
              generalize V.drew = V2 at bV2 ⊢
              go_wp2_with (first | (go_at_call 67; refine (l4For_any _ x r.series _ (HR.out _ bV2) (by omega)).mono ?_; rw [HRR.out]; rintro e w6 ⟨v6, rfl, ho6, b6⟩; obtain ⟨sa, sn, sc, hv6⟩ := ho6.1.slice; obtain ⟨a6, c6, hv, hl6, hm6, _⟩ := ho6.row.rus; unfold maxLen at hm6; subst hv; clear hv6 ho6; have b7 := below_chain bV2 b6))
              go_ret2
              exact ⟨rfl, b7⟩
            · rw [if_neg hDd] at hans
              cases hans
              go_wp2_with fail
              go_still_tail 7, (by kernel_rfl)
              change wpList _ _ _ _ _ V.drew
              have bV2 := bV.drew
              generalize V.drew = V2 at bV2 ⊢
              go_wp2_with (first | (go_at_call 67; refine (l4For_any _ x r.series _ (HR.out _ bV2) (by omega)).mono ?_; rw [HRR.out]; rintro e w6 ⟨v6, rfl, ho6, b6⟩; obtain ⟨sa, sn, sc, hv6⟩ := ho6.1.slice; obtain ⟨a6, c6, hv, hl6, hm6, _⟩ := ho6.row.rus; unfold maxLen at hm6; subst hv; clear hv6 ho6; have b7 := below_chain bV2 b6))
              go_ret2
              exact ⟨rfl, b7⟩
end Go.Proofs.Ytpngmheflpbnbaa
