/- Holds, the model's: MayDestroy, FirstDestruction. -/
import Derived.Test.YtkjpehpodlpdhaaHo4S
import Derived.Test.YtkjpehpodlpdhaaHo6M
import Derived.Test.YtkjpehpodlpdhaaPerS2
import Derived.Lib.QuietBelow
import Derived.BigQuiet
import Derived.WalkSmall
namespace Go.Proofs.Ytkjpehpodlpdhaa
set_option linter.unusedVariables false
open Go.RowKit Go.Sort

set_option maxRecDepth 20000 in
set_option maxHeartbeats 4000000 in
theorem specMayDestroy_any (v v1 v2 : Value) (t : List Ho) (r : Rec) (u : List Ru) (d : Int) (w : World) (h : RowR 6 rHo w v t) (h1 : RecV w v1 r) (h2 : RowR 4 rRu w v2 u) (a b : Bool) (hres : mayRes t r u d = (a, b)) :
    Calls Try.prog 42 #[v, v1, v2, .int .i64 d] w fun e w' => e = .returned (.tuple #[.bool a, .bool b]) ∧ Below w.heap.size w w' := by
  obtain ⟨s, rfl, hr, hok⟩ := h1
  obtain ⟨y0, y1, y2, y3⟩ := r
  simp only at hr ⊢
  have HV := Lib.hid (show ∀ W, Below w.heap.size w W → RecV W (.agg #[.int .i64 y0, .int .i64 y1, .int .i64 y2, s]) ⟨y0, y1, y2, y3⟩ from fun W hW => ⟨s, rfl, hr.below rEv_stable hW, hok⟩)
  obtain ⟨sb, sd, rfl, _⟩ := hr
  have HBX := Lib.hid (show ∀ W, Below (w.alloc (.cells #[.int .i64 y0, .int .i64 y1, .int .i64 y2, .slice sb y3.length sd] 38 (0, 0))).heap.size (w.alloc (.cells #[.int .i64 y0, .int .i64 y1, .int .i64 y2, .slice sb y3.length sd] 38 (0, 0))) W → W.cell? ⟨w.heap.size, 0, none⟩ = some (.int .i64 y0) ∧ W.cell? ⟨w.heap.size, 1, none⟩ = some (.int .i64 y1) ∧ W.cell? ⟨w.heap.size, 2, none⟩ = some (.int .i64 y2) ∧ W.cell? ⟨w.heap.size, 3, none⟩ = some (.slice sb y3.length sd) from
    fun W hW => ⟨cell_kept (cell_new w _ _ 0 rfl) hW, cell_kept (cell_new w _ _ 1 rfl) hW, cell_kept (cell_new w _ _ 2 rfl) hW, cell_kept (cell_new w _ _ 3 rfl) hW⟩)
  have H := Lib.hid h
  have HU := Lib.hid h2
  obtain ⟨ba, ha⟩ : ∃ b, askH t ⟨y0, y1, y2, y3⟩ d = b := ⟨_, rfl⟩
  obtain ⟨bs, hs⟩ : ∃ b, isSch u = b := ⟨_, rfl⟩
  have HA := Lib.hid ha
  have HS := Lib.hid hs
  have NO := Lib.hid (fun hn => mayRes_no hres hn)
  have YES := Lib.hid (fun hn => mayRes_yes hres hn)
  clear h h2 ha hs hres hok
  cases ba
  · skip
    obtain ⟨rfl, rfl⟩ := NO.out (fun hc => by rw [HA.out] at hc; exact absurd hc.1 (by simp))
    go_enter Try.func42, Try.ntmps42
    go_wp2_with (first | (go_at_call 82; refine (l9Asked_any _ _ t _ d _ (H.out.below rHo_stable (below_al (Below.refl _ _) _)) (HV.out _ (below_al (Below.refl _ _) _))).mono ?_; rw [HA.out]; rintro e w1 ⟨rfl, b1⟩; obtain ⟨c0, c1, c2, c3⟩ := HBX.out _ b1; have b1w := below_chain (below_al (Below.refl w.heap.size w) _) b1))
    go_ret2
    exact ⟨rfl, b1w⟩
  · cases bs
    · skip
      obtain ⟨rfl, rfl⟩ := NO.out (fun hc => by rw [HS.out] at hc; exact absurd hc.2 (by simp))
      go_enter Try.func42, Try.ntmps42
      go_wp2_with (first | (go_at_call 82; refine (l9Asked_any _ _ t _ d _ (H.out.below rHo_stable (below_al (Below.refl _ _) _)) (HV.out _ (below_al (Below.refl _ _) _))).mono ?_; rw [HA.out]; rintro e w1 ⟨rfl, b1⟩; obtain ⟨c0, c1, c2, c3⟩ := HBX.out _ b1; have b1w := below_chain (below_al (Below.refl w.heap.size w) _) b1) | (go_at_call 102; refine (l4Good_any _ u _ (HU.out.below rRu_stable b1w)).mono ?_; rw [HS.out]; rintro e w2 ⟨rfl, b2⟩; replace b1 := b1.trans (b2.mono b1.size); obtain ⟨c0, c1, c2, c3⟩ := HBX.out _ b1; replace b1w := b1w.trans (b2.mono b1w.size); clear b2))
      go_ret2
      exact ⟨rfl, b1w⟩
    · obtain ⟨ea, rfl⟩ := YES.out ⟨HA.out, HS.out⟩
      have HR := Lib.hid (askH_iff.1 HA.out).2.1
      obtain ⟨⟨q0, q1, q2, q3⟩, D, hdec⟩ : ∃ q d, decR ⟨y0, y1, y2, y3⟩ (forRu u y1) = (q, d) := ⟨_, _, rfl⟩
      have hdue : dueF ⟨y0, y1, y2, y3⟩ u = D := by unfold dueF; rw [hdec]
      have hrul : ruleF ⟨y0, y1, y2, y3⟩ u = ⟨q0, q1, q2, q3⟩ := by unfold ruleF; rw [hdec]
      obtain ⟨bq, hbq⟩ : ∃ b, decide (0 ≤ dueF ⟨y0, y1, y2, y3⟩ u ∧ dueF ⟨y0, y1, y2, y3⟩ u ≤ d) = b := ⟨_, rfl⟩
      obtain ⟨N, hN⟩ : ∃ N : Nat, (onHo t ⟨y0, y1, y2, y3⟩ d).length = N := ⟨_, rfl⟩
      obtain ⟨bt, hbt⟩ : ∃ b, decide (q3 = 3) = b := ⟨_, rfl⟩
      have EA := Lib.hid (ea.trans (may_eq (d := d) hbq (show decide ((ruleF ⟨y0, y1, y2, y3⟩ u).act = 3) = bt by rw [hrul]; exact hbt) (show heldB t ⟨y0, y1, y2, y3⟩ d = decide (0 < N) by rw [← onHo_held, hN])))
      have HDEC := Lib.hid hdec
      have HBQ := Lib.hid hbq
      have HON := Lib.hid hN
      have HBT := Lib.hid hbt
      clear ea hdec hdue hrul hbq hN hbt NO YES
      by_cases h3 : q3 = 3
      · have hq : (q3 == 3) = true := by simp [h3]
        obtain rfl : bt = true := HBT.out.symm.trans (decide_eq_true h3)
        have H3 := Lib.hid h3
        clear h3
        cases bq
        · obtain rfl : a = false := by rw [EA.out]; rfl
          go_enter Try.func42, Try.ntmps42
          go_wp2_with (first | (go_at_call 82; refine (l9Asked_any _ _ t _ d _ (H.out.below rHo_stable (below_al (Below.refl _ _) _)) (HV.out _ (below_al (Below.refl _ _) _))).mono ?_; rw [HA.out]; rintro e w1 ⟨rfl, b1⟩; obtain ⟨c0, c1, c2, c3⟩ := HBX.out _ b1; have b1w := below_chain (below_al (Below.refl w.heap.size w) _) b1) | (go_at_call 102; refine (l4Good_any _ u _ (HU.out.below rRu_stable b1w)).mono ?_; rw [HS.out]; rintro e w2 ⟨rfl, b2⟩; replace b1 := b1.trans (b2.mono b1.size); obtain ⟨c0, c1, c2, c3⟩ := HBX.out _ b1; replace b1w := b1w.trans (b2.mono b1w.size); clear b2) | (go_at_call 103; refine (l6Deciding_any _ _ ⟨y0, y1, y2, y3⟩ u _ (HV.out _ b1w) (HU.out.below rRu_stable b1w) HR.out HS.out _ _ HDEC.out).mono ?_; rintro e w3 ⟨rfl, b3⟩; replace b1 := below_al (b1.trans (b3.mono b1.size)) (.cells #[.int .i64 q0, .int .i64 q1, .int .i64 q2, .int .i64 q3] 125 (0, 0)); obtain ⟨c0, c1, c2, c3⟩ := HBX.out _ b1; replace b1w := below_al (b1w.trans (b3.mono b1w.size)) (.cells #[.int .i64 q0, .int .i64 q1, .int .i64 q2, .int .i64 q3] 125 (0, 0)); clear b3; simp only) | (go_at_call 104; refine (l6Due_any _ _ ⟨y0, y1, y2, y3⟩ u d _ (HV.out _ b1w) (HU.out.below rRu_stable b1w) (ask_iff.2 ⟨HR.out, HS.out⟩)).mono ?_; rw [HBQ.out]; rintro e w4 ⟨rfl, b4⟩; replace b1 := b1.trans (b4.mono b1.size); obtain ⟨c0, c1, c2, c3⟩ := HBX.out _ b1; replace b1w := b1w.trans (b4.mono b1w.size); clear b4))
          go_ret2
          exact ⟨rfl, b1w⟩
        · by_cases hn : N = 0
          · have hnq : ((N : Int) == 0) = true := by simp [hn]
            obtain rfl : a = true := by rw [EA.out, hn]; rfl
            have HN := Lib.hid hn
            clear hn
            go_enter Try.func42, Try.ntmps42
            go_wp2_with (first | (go_at_call 82; refine (l9Asked_any _ _ t _ d _ (H.out.below rHo_stable (below_al (Below.refl _ _) _)) (HV.out _ (below_al (Below.refl _ _) _))).mono ?_; rw [HA.out]; rintro e w1 ⟨rfl, b1⟩; obtain ⟨c0, c1, c2, c3⟩ := HBX.out _ b1; have b1w := below_chain (below_al (Below.refl w.heap.size w) _) b1) | (go_at_call 102; refine (l4Good_any _ u _ (HU.out.below rRu_stable b1w)).mono ?_; rw [HS.out]; rintro e w2 ⟨rfl, b2⟩; replace b1 := b1.trans (b2.mono b1.size); obtain ⟨c0, c1, c2, c3⟩ := HBX.out _ b1; replace b1w := b1w.trans (b2.mono b1w.size); clear b2) | (go_at_call 103; refine (l6Deciding_any _ _ ⟨y0, y1, y2, y3⟩ u _ (HV.out _ b1w) (HU.out.below rRu_stable b1w) HR.out HS.out _ _ HDEC.out).mono ?_; rintro e w3 ⟨rfl, b3⟩; replace b1 := below_al (b1.trans (b3.mono b1.size)) (.cells #[.int .i64 q0, .int .i64 q1, .int .i64 q2, .int .i64 q3] 125 (0, 0)); obtain ⟨c0, c1, c2, c3⟩ := HBX.out _ b1; replace b1w := below_al (b1w.trans (b3.mono b1w.size)) (.cells #[.int .i64 q0, .int .i64 q1, .int .i64 q2, .int .i64 q3] 125 (0, 0)); clear b3; simp only) | (go_at_call 104; refine (l6Due_any _ _ ⟨y0, y1, y2, y3⟩ u d _ (HV.out _ b1w) (HU.out.below rRu_stable b1w) (ask_iff.2 ⟨HR.out, HS.out⟩)).mono ?_; rw [HBQ.out]; rintro e w4 ⟨rfl, b4⟩; replace b1 := b1.trans (b4.mono b1.size); obtain ⟨c0, c1, c2, c3⟩ := HBX.out _ b1; replace b1w := b1w.trans (b4.mono b1w.size); clear b4) | (go_at_call 83; refine (l9On_any _ _ t ⟨y0, y1, y2, y3⟩ d _ (H.out.below rHo_stable b1w) (HV.out _ b1w) (by have := ho_len (askH_iff.1 HA.out).1; omega) (askH_iff.1 HA.out).2.2.2).mono ?_; rintro e w5 ⟨v', rfl, hi, b5⟩; obtain ⟨ao, co, rfl, _⟩ := hi.row; rw [HON.out]; replace b1w := b1w.trans (b5.mono b1w.size); clear hi b5))
            go_ret2
            exact ⟨rfl, b1w⟩
          · have hnq : ((N : Int) == 0) = false := beq_false_of_ne (by omega)
            obtain rfl : a = false := by rw [EA.out, decide_eq_true (by omega : 0 < N)]; rfl
            have HN := Lib.hid hn
            clear hn
            go_enter Try.func42, Try.ntmps42
            go_wp2_with (first | (go_at_call 82; refine (l9Asked_any _ _ t _ d _ (H.out.below rHo_stable (below_al (Below.refl _ _) _)) (HV.out _ (below_al (Below.refl _ _) _))).mono ?_; rw [HA.out]; rintro e w1 ⟨rfl, b1⟩; obtain ⟨c0, c1, c2, c3⟩ := HBX.out _ b1; have b1w := below_chain (below_al (Below.refl w.heap.size w) _) b1) | (go_at_call 102; refine (l4Good_any _ u _ (HU.out.below rRu_stable b1w)).mono ?_; rw [HS.out]; rintro e w2 ⟨rfl, b2⟩; replace b1 := b1.trans (b2.mono b1.size); obtain ⟨c0, c1, c2, c3⟩ := HBX.out _ b1; replace b1w := b1w.trans (b2.mono b1w.size); clear b2) | (go_at_call 103; refine (l6Deciding_any _ _ ⟨y0, y1, y2, y3⟩ u _ (HV.out _ b1w) (HU.out.below rRu_stable b1w) HR.out HS.out _ _ HDEC.out).mono ?_; rintro e w3 ⟨rfl, b3⟩; replace b1 := below_al (b1.trans (b3.mono b1.size)) (.cells #[.int .i64 q0, .int .i64 q1, .int .i64 q2, .int .i64 q3] 125 (0, 0)); obtain ⟨c0, c1, c2, c3⟩ := HBX.out _ b1; replace b1w := below_al (b1w.trans (b3.mono b1w.size)) (.cells #[.int .i64 q0, .int .i64 q1, .int .i64 q2, .int .i64 q3] 125 (0, 0)); clear b3; simp only) | (go_at_call 104; refine (l6Due_any _ _ ⟨y0, y1, y2, y3⟩ u d _ (HV.out _ b1w) (HU.out.below rRu_stable b1w) (ask_iff.2 ⟨HR.out, HS.out⟩)).mono ?_; rw [HBQ.out]; rintro e w4 ⟨rfl, b4⟩; replace b1 := b1.trans (b4.mono b1.size); obtain ⟨c0, c1, c2, c3⟩ := HBX.out _ b1; replace b1w := b1w.trans (b4.mono b1w.size); clear b4) | (go_at_call 83; refine (l9On_any _ _ t ⟨y0, y1, y2, y3⟩ d _ (H.out.below rHo_stable b1w) (HV.out _ b1w) (by have := ho_len (askH_iff.1 HA.out).1; omega) (askH_iff.1 HA.out).2.2.2).mono ?_; rintro e w5 ⟨v', rfl, hi, b5⟩; obtain ⟨ao, co, rfl, _⟩ := hi.row; rw [HON.out]; replace b1w := b1w.trans (b5.mono b1w.size); clear hi b5))
            go_ret2
            exact ⟨rfl, b1w⟩
      · have hq : (q3 == 3) = false := by simp [h3]
        obtain rfl : bt = false := HBT.out.symm.trans (decide_eq_false h3)
        obtain rfl : a = false := by rw [EA.out]; simp
        clear h3
        go_enter Try.func42, Try.ntmps42
        go_wp2_with (first | (go_at_call 82; refine (l9Asked_any _ _ t _ d _ (H.out.below rHo_stable (below_al (Below.refl _ _) _)) (HV.out _ (below_al (Below.refl _ _) _))).mono ?_; rw [HA.out]; rintro e w1 ⟨rfl, b1⟩; obtain ⟨c0, c1, c2, c3⟩ := HBX.out _ b1; have b1w := below_chain (below_al (Below.refl w.heap.size w) _) b1) | (go_at_call 102; refine (l4Good_any _ u _ (HU.out.below rRu_stable b1w)).mono ?_; rw [HS.out]; rintro e w2 ⟨rfl, b2⟩; replace b1 := b1.trans (b2.mono b1.size); obtain ⟨c0, c1, c2, c3⟩ := HBX.out _ b1; replace b1w := b1w.trans (b2.mono b1w.size); clear b2) | (go_at_call 103; refine (l6Deciding_any _ _ ⟨y0, y1, y2, y3⟩ u _ (HV.out _ b1w) (HU.out.below rRu_stable b1w) HR.out HS.out _ _ HDEC.out).mono ?_; rintro e w3 ⟨rfl, b3⟩; replace b1 := below_al (b1.trans (b3.mono b1.size)) (.cells #[.int .i64 q0, .int .i64 q1, .int .i64 q2, .int .i64 q3] 125 (0, 0)); obtain ⟨c0, c1, c2, c3⟩ := HBX.out _ b1; replace b1w := below_al (b1w.trans (b3.mono b1w.size)) (.cells #[.int .i64 q0, .int .i64 q1, .int .i64 q2, .int .i64 q3] 125 (0, 0)); clear b3; simp only))
        go_ret2
        exact ⟨rfl, b1w⟩

set_option maxRecDepth 20000 in
set_option maxHeartbeats 4000000 in
theorem specFirstDestruction_any (v v1 v2 : Value) (t : List Ho) (r : Rec) (u : List Ru) (w : World) (h : RowR 6 rHo w v t) (h1 : RecV w v1 r) (h2 : RowR 4 rRu w v2 u) (n : Int) (b : Bool) (hres : fdRes t r u = (n, b)) :
    Calls Try.prog 46 #[v, v1, v2] w fun e w' => e = .returned (.tuple #[.int .i64 n, .bool b]) ∧ Below w.heap.size w w' := by
  obtain ⟨s, rfl, hr, hok⟩ := h1
  obtain ⟨y0, y1, y2, y3⟩ := r
  simp only at hr ⊢
  have HV := Lib.hid (show ∀ W, Below w.heap.size w W → RecV W (.agg #[.int .i64 y0, .int .i64 y1, .int .i64 y2, s]) ⟨y0, y1, y2, y3⟩ from fun W hW => ⟨s, rfl, hr.below rEv_stable hW, hok⟩)
  obtain ⟨sb, sd, rfl, _⟩ := hr
  have HBX := Lib.hid (show ∀ W, Below (w.alloc (.cells #[.int .i64 y0, .int .i64 y1, .int .i64 y2, .slice sb y3.length sd] 38 (0, 0))).heap.size (w.alloc (.cells #[.int .i64 y0, .int .i64 y1, .int .i64 y2, .slice sb y3.length sd] 38 (0, 0))) W → W.cell? ⟨w.heap.size, 0, none⟩ = some (.int .i64 y0) ∧ W.cell? ⟨w.heap.size, 1, none⟩ = some (.int .i64 y1) ∧ W.cell? ⟨w.heap.size, 2, none⟩ = some (.int .i64 y2) ∧ W.cell? ⟨w.heap.size, 3, none⟩ = some (.slice sb y3.length sd) from
    fun W hW => ⟨cell_kept (cell_new w _ _ 0 rfl) hW, cell_kept (cell_new w _ _ 1 rfl) hW, cell_kept (cell_new w _ _ 2 rfl) hW, cell_kept (cell_new w _ _ 3 rfl) hW⟩)
  have H := Lib.hid h
  have HU := Lib.hid h2
  obtain ⟨ba, ha⟩ : ∃ b, askH t ⟨y0, y1, y2, y3⟩ 0 = b := ⟨_, rfl⟩
  obtain ⟨bs, hs⟩ : ∃ b, isSch u = b := ⟨_, rfl⟩
  have HA := Lib.hid ha
  have HS := Lib.hid hs
  have NO := Lib.hid (fun hn => fdRes_no hres hn)
  have YES := Lib.hid (fun hn => fdRes_yes hres hn)
  clear h h2 ha hs hres hok
  cases ba
  · skip
    obtain ⟨rfl, rfl⟩ := NO.out (fun hc => by have := (fdAsk_iff.1 hc).1; rw [HA.out] at this; cases this)
    go_enter Try.func46, Try.ntmps46
    go_wp2_with (first | (go_at_call 82; refine (l9Asked_any _ _ t _ 0 _ (H.out.below rHo_stable (below_al (Below.refl _ _) _)) (HV.out _ (below_al (Below.refl _ _) _))).mono ?_; rw [HA.out]; rintro e w1 ⟨rfl, b1⟩; obtain ⟨c0, c1, c2, c3⟩ := HBX.out _ b1; have b1w := below_chain (below_al (Below.refl w.heap.size w) _) b1))
    go_ret2
    exact ⟨rfl, b1w⟩
  · cases bs
    · skip
      obtain ⟨rfl, rfl⟩ := NO.out (fun hc => by have := (fdAsk_iff.1 hc).2.1; rw [HS.out] at this; cases this)
      go_enter Try.func46, Try.ntmps46
      go_wp2_with (first | (go_at_call 82; refine (l9Asked_any _ _ t _ 0 _ (H.out.below rHo_stable (below_al (Below.refl _ _) _)) (HV.out _ (below_al (Below.refl _ _) _))).mono ?_; rw [HA.out]; rintro e w1 ⟨rfl, b1⟩; obtain ⟨c0, c1, c2, c3⟩ := HBX.out _ b1; have b1w := below_chain (below_al (Below.refl w.heap.size w) _) b1) | (go_at_call 102; refine (l4Good_any _ u _ (HU.out.below rRu_stable b1w)).mono ?_; rw [HS.out]; rintro e w2 ⟨rfl, b2⟩; replace b1 := b1.trans (b2.mono b1.size); obtain ⟨c0, c1, c2, c3⟩ := HBX.out _ b1; replace b1w := b1w.trans (b2.mono b1w.size); clear b2))
      go_ret2
      exact ⟨rfl, b1w⟩
    · have HR := Lib.hid (askH_iff.1 HA.out).2.1
      obtain ⟨⟨q0, q1, q2, q3⟩, D, hdec⟩ : ∃ q d, decR ⟨y0, y1, y2, y3⟩ (forRu u y1) = (q, d) := ⟨_, _, rfl⟩
      have hdue : dueF ⟨y0, y1, y2, y3⟩ u = D := by unfold dueF; rw [hdec]
      have hrul : ruleF ⟨y0, y1, y2, y3⟩ u = ⟨q0, q1, q2, q3⟩ := by unfold ruleF; rw [hdec]
      have HDEC := Lib.hid hdec
      have HDUE := Lib.hid hdue
      have HRUL := Lib.hid hrul
      clear hdec hdue hrul
      by_cases h3 : q3 = 3
      · have hq : (q3 != 3) = false := by simp [h3]
        have hD0 : 0 ≤ D := by rw [← HDUE.out]; exact rule_act (by rw [HRUL.out]; exact h3)
        have H3 := Lib.hid h3
        clear h3
        by_cases hg : 20000 < D
        · obtain ⟨rfl, rfl⟩ := NO.out (fun hc => by have := (fdAsk_iff.1 hc).2.2.1.2; rw [HDUE.out] at this; omega)
          go_enter Try.func46, Try.ntmps46
          go_wp2_with (first | (go_at_call 82; refine (l9Asked_any _ _ t _ 0 _ (H.out.below rHo_stable (below_al (Below.refl _ _) _)) (HV.out _ (below_al (Below.refl _ _) _))).mono ?_; rw [HA.out]; rintro e w1 ⟨rfl, b1⟩; obtain ⟨c0, c1, c2, c3⟩ := HBX.out _ b1; have b1w := below_chain (below_al (Below.refl w.heap.size w) _) b1) | (go_at_call 102; refine (l4Good_any _ u _ (HU.out.below rRu_stable b1w)).mono ?_; rw [HS.out]; rintro e w2 ⟨rfl, b2⟩; replace b1 := b1.trans (b2.mono b1.size); obtain ⟨c0, c1, c2, c3⟩ := HBX.out _ b1; replace b1w := b1w.trans (b2.mono b1w.size); clear b2) | (go_at_call 103; refine (l6Deciding_any _ _ ⟨y0, y1, y2, y3⟩ u _ (HV.out _ b1w) (HU.out.below rRu_stable b1w) HR.out HS.out _ _ HDEC.out).mono ?_; rintro e w3 ⟨rfl, b3⟩; replace b1 := below_al (b1.trans (b3.mono b1.size)) (.cells #[.int .i64 q0, .int .i64 q1, .int .i64 q2, .int .i64 q3] 125 (0, 0)); obtain ⟨c0, c1, c2, c3⟩ := HBX.out _ b1; replace b1w := below_al (b1w.trans (b3.mono b1w.size)) (.cells #[.int .i64 q0, .int .i64 q1, .int .i64 q2, .int .i64 q3] 125 (0, 0)); clear b3; simp only))
          go_ret2
          exact ⟨rfl, b1w⟩
        · have dg : decide (20000 < D) = false := decide_eq_false hg
          have HDD : Hid (0 ≤ D ∧ D ≤ 20000) := Lib.hid ⟨hD0, by omega⟩
          obtain ⟨F, hF⟩ : ∃ F, freeF t ⟨y0, y1, y2, y3⟩ D = F := ⟨_, rfl⟩
          have HFF := Lib.hid hF
          clear hF
          by_cases hf : 20000 < F
          · obtain ⟨rfl, rfl⟩ := NO.out (fun hc => by have := (fdAsk_iff.1 hc).2.2.2.2; rw [HDUE.out, HFF.out] at this; omega)
            go_enter Try.func46, Try.ntmps46
            go_wp2_with (first | (go_at_call 82; refine (l9Asked_any _ _ t _ 0 _ (H.out.below rHo_stable (below_al (Below.refl _ _) _)) (HV.out _ (below_al (Below.refl _ _) _))).mono ?_; rw [HA.out]; rintro e w1 ⟨rfl, b1⟩; obtain ⟨c0, c1, c2, c3⟩ := HBX.out _ b1; have b1w := below_chain (below_al (Below.refl w.heap.size w) _) b1) | (go_at_call 102; refine (l4Good_any _ u _ (HU.out.below rRu_stable b1w)).mono ?_; rw [HS.out]; rintro e w2 ⟨rfl, b2⟩; replace b1 := b1.trans (b2.mono b1.size); obtain ⟨c0, c1, c2, c3⟩ := HBX.out _ b1; replace b1w := b1w.trans (b2.mono b1w.size); clear b2) | (go_at_call 103; refine (l6Deciding_any _ _ ⟨y0, y1, y2, y3⟩ u _ (HV.out _ b1w) (HU.out.below rRu_stable b1w) HR.out HS.out _ _ HDEC.out).mono ?_; rintro e w3 ⟨rfl, b3⟩; replace b1 := below_al (b1.trans (b3.mono b1.size)) (.cells #[.int .i64 q0, .int .i64 q1, .int .i64 q2, .int .i64 q3] 125 (0, 0)); obtain ⟨c0, c1, c2, c3⟩ := HBX.out _ b1; replace b1w := below_al (b1w.trans (b3.mono b1w.size)) (.cells #[.int .i64 q0, .int .i64 q1, .int .i64 q2, .int .i64 q3] 125 (0, 0)); clear b3; simp only) | (go_at_call 90; refine (l9Free_any _ _ t ⟨y0, y1, y2, y3⟩ D _ (H.out.below rHo_stable b1w) (HV.out _ b1w) (askH_iff.1 HA.out).1 HDD.out).mono ?_; rw [HFF.out]; rintro e w4 ⟨rfl, b4⟩; replace b1 := b1.trans (b4.mono b1.size); obtain ⟨c0, c1, c2, c3⟩ := HBX.out _ b1; replace b1w := b1w.trans (b4.mono b1w.size); clear b4))
            go_ret2
            exact ⟨rfl, b1w⟩
          · have df : decide (20000 < F) = false := decide_eq_false hf
            obtain ⟨e0, rfl⟩ := YES.out (fdAsk_iff.2 ⟨HA.out, HS.out, by rw [HDUE.out]; exact HDD.out, by rw [HRUL.out]; exact H3.out, by rw [HDUE.out, HFF.out]; omega⟩)
            rw [HDUE.out, HFF.out] at e0
            subst e0
            go_enter Try.func46, Try.ntmps46
            go_wp2_with (first | (go_at_call 82; refine (l9Asked_any _ _ t _ 0 _ (H.out.below rHo_stable (below_al (Below.refl _ _) _)) (HV.out _ (below_al (Below.refl _ _) _))).mono ?_; rw [HA.out]; rintro e w1 ⟨rfl, b1⟩; obtain ⟨c0, c1, c2, c3⟩ := HBX.out _ b1; have b1w := below_chain (below_al (Below.refl w.heap.size w) _) b1) | (go_at_call 102; refine (l4Good_any _ u _ (HU.out.below rRu_stable b1w)).mono ?_; rw [HS.out]; rintro e w2 ⟨rfl, b2⟩; replace b1 := b1.trans (b2.mono b1.size); obtain ⟨c0, c1, c2, c3⟩ := HBX.out _ b1; replace b1w := b1w.trans (b2.mono b1w.size); clear b2) | (go_at_call 103; refine (l6Deciding_any _ _ ⟨y0, y1, y2, y3⟩ u _ (HV.out _ b1w) (HU.out.below rRu_stable b1w) HR.out HS.out _ _ HDEC.out).mono ?_; rintro e w3 ⟨rfl, b3⟩; replace b1 := below_al (b1.trans (b3.mono b1.size)) (.cells #[.int .i64 q0, .int .i64 q1, .int .i64 q2, .int .i64 q3] 125 (0, 0)); obtain ⟨c0, c1, c2, c3⟩ := HBX.out _ b1; replace b1w := below_al (b1w.trans (b3.mono b1w.size)) (.cells #[.int .i64 q0, .int .i64 q1, .int .i64 q2, .int .i64 q3] 125 (0, 0)); clear b3; simp only) | (go_at_call 90; refine (l9Free_any _ _ t ⟨y0, y1, y2, y3⟩ D _ (H.out.below rHo_stable b1w) (HV.out _ b1w) (askH_iff.1 HA.out).1 HDD.out).mono ?_; rw [HFF.out]; rintro e w4 ⟨rfl, b4⟩; replace b1 := b1.trans (b4.mono b1.size); obtain ⟨c0, c1, c2, c3⟩ := HBX.out _ b1; replace b1w := b1w.trans (b4.mono b1w.size); clear b4))
            go_ret2
            exact ⟨rfl, b1w⟩
      · have hq : (q3 != 3) = true := by simp [h3]
        obtain ⟨rfl, rfl⟩ := NO.out (fun hc => by have := (fdAsk_iff.1 hc).2.2.2.1; rw [HRUL.out] at this; exact h3 this)
        clear h3
        go_enter Try.func46, Try.ntmps46
        go_wp2_with (first | (go_at_call 82; refine (l9Asked_any _ _ t _ 0 _ (H.out.below rHo_stable (below_al (Below.refl _ _) _)) (HV.out _ (below_al (Below.refl _ _) _))).mono ?_; rw [HA.out]; rintro e w1 ⟨rfl, b1⟩; obtain ⟨c0, c1, c2, c3⟩ := HBX.out _ b1; have b1w := below_chain (below_al (Below.refl w.heap.size w) _) b1) | (go_at_call 102; refine (l4Good_any _ u _ (HU.out.below rRu_stable b1w)).mono ?_; rw [HS.out]; rintro e w2 ⟨rfl, b2⟩; replace b1 := b1.trans (b2.mono b1.size); obtain ⟨c0, c1, c2, c3⟩ := HBX.out _ b1; replace b1w := b1w.trans (b2.mono b1w.size); clear b2) | (go_at_call 103; refine (l6Deciding_any _ _ ⟨y0, y1, y2, y3⟩ u _ (HV.out _ b1w) (HU.out.below rRu_stable b1w) HR.out HS.out _ _ HDEC.out).mono ?_; rintro e w3 ⟨rfl, b3⟩; replace b1 := below_al (b1.trans (b3.mono b1.size)) (.cells #[.int .i64 q0, .int .i64 q1, .int .i64 q2, .int .i64 q3] 125 (0, 0)); obtain ⟨c0, c1, c2, c3⟩ := HBX.out _ b1; replace b1w := below_al (b1w.trans (b3.mono b1w.size)) (.cells #[.int .i64 q0, .int .i64 q1, .int .i64 q2, .int .i64 q3] 125 (0, 0)); clear b3; simp only))
        go_ret2
        exact ⟨rfl, b1w⟩
end Go.Proofs.Ytkjpehpodlpdhaa
