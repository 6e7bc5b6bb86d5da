/- The model's functions of periods. -/
import Derived.Test.YtdcikapijpohpaaPerS
import Derived.Test.YtdcikapijpohpaaAreRec
import Derived.Test.YtdcikapijpohpaaRecs
import Derived.Test.YtdcikapijpohpaaDayI
import Derived.Test.YtdcikapijpohpaaInSer1
import Derived.Test.YtdcikapijpohpaaAddS
import Derived.Deep.RegionHeld3
namespace Go.Proofs.Ytdcikapijpohpaa
set_option linter.unusedVariables false
open Go.RowKit Go.Sort

theorem ints_rowS {lo n : Nat} {w : World} {v : Value} {xs : List Int} (h : w.ownsRow lo 3 1 v n (xs.map vI)) (hn : n = xs.length) : IntsO lo w.heap.size w v xs := ⟨by rw [← hn]; exact h, fun g hg => (h.lt g hg).2⟩
theorem ints_new (w : World) : IntsO w.heap.size (w.alloc (.cells #[] 3 (0, 0))).heap.size (w.alloc (.cells #[] 3 (0, 0))) (.slice (some ⟨w.heap.size, 0, none⟩) 0 0) [] := ints_rowS (World.ownsRow_made w #[] 0 (Nat.le_refl _) (Nat.zero_le _) rfl) rfl

/-- A list of numbers that was made ahead of the world w2, in block g, and is appended to: where it lies, and what has turned. -/
structure OutS (g : Nat) (w2 wr : World) (o : Value) (xs : List Int) : Prop where
  own : wr.ownsRow g 3 1 o xs.length (xs.map vI)
  at_ : ∀ k, o.ownBlock = some k → k = g ∨ w2.heap.size ≤ k
  only : Only g (g + 1) w2 wr
  lt : g < w2.heap.size
theorem OutS.start {g : Nat} {w2 : World} (h : w2.ownsRow g 3 1 (.slice (some ⟨g, 0, none⟩) 0 0) 0 []) (hl : g < w2.heap.size) : OutS g w2 w2 (.slice (some ⟨g, 0, none⟩) 0 0) [] :=
  ⟨h, fun k hk => .inl (by simpa [Value.ownBlock] using hk.symm), Only.refl _ _ _, hl⟩
theorem OutS.below {g : Nat} {w2 wr w' : World} {o : Value} {xs : List Int} (h : OutS g w2 wr o xs) (hb : Below wr.heap.size wr w') : OutS g w2 w' o xs :=
  ⟨ownsRow_below h.own hb, h.at_, h.only.trans (Only.of_below hb), h.lt⟩
theorem OutS.app {g : Nat} {w2 w5 w7 : World} {o v' : Value} {xs : List Int} {x : Int} (h : OutS g w2 w5 o xs) (hown : w7.ownsRow g 3 1 v' (xs.length + 1) (xs.map vI ++ [.int .i64 x])) (hg : w5.grownBy w7 o.ownBlock) (hat : v'.ownBlock = o.ownBlock ∨ v'.ownBlock = some w5.heap.size) : OutS g w2 w7 v' (xs ++ [x]) := by
  have hs := h.only.size
  refine ⟨by simpa [vI] using hown, fun k hk => ?_, ⟨hg.os.trans h.only.os, hg.tape.trans h.only.tape, hg.output.trans h.only.output, Nat.le_trans hs hg.size, fun k hk hn => ?_⟩, h.lt⟩
  · rcases hat with e | e
    · exact h.at_ k (by rw [← e]; exact hk)
    · rw [e] at hk; cases hk; exact .inr hs
  · refine (hg.block k (by omega) (fun e => ?_)).trans (h.only.block k hk hn)
    rcases h.at_ k e.symm with h1 | h1 <;> omega
theorem OutS.cell {g b j : Nat} {w2 wr : World} {o v : Value} {xs : List Int} (h : OutS g w2 wr o xs) (hc : w2.cell? ⟨b, j, none⟩ = some v) (hb : b ≠ g) : wr.cell? ⟨b, j, none⟩ = some v :=
  (World.cell?_of_block (h.only.block b (World.block_lt_of_cell? _ _ hc) (by omega))).trans hc
theorem OutS.bel {g n : Nat} {w2 wr : World} {o : Value} {xs : List Int} (h : OutS g w2 wr o xs) (hn : n ≤ g) : Below n w2 wr := (h.only.below (Nat.le_of_lt h.lt)).mono hn

theorem specDueDay_any (v v1 : Value) (r : Rec) (t : List Ru) (w : World) (h : RecV w v r) (h1 : RowR 4 rRu w v1 t) (d : Int) (b : Bool) (hres : dueRes r t = (d, b)) :
    Calls Try.prog 20 #[v, v1] w fun e w' => e = .returned (.tuple #[.int .i64 d, .bool b]) ∧ Below w.heap.size w w' := by
  obtain ⟨s, rfl, h0, hok⟩ := h
  have HV := Lib.hid (show ∀ W, Below w.heap.size w W → RecV W (.agg #[.int .i64 r.id, .int .i64 r.series, .int .i64 r.made, s]) r from fun W hb => ⟨s, rfl, h0.below rEv_stable hb, hok⟩)
  have H1 := Lib.hid h1
  obtain ⟨ba, ha⟩ : ∃ b, askB r t = b := ⟨_, rfl⟩
  have HA := Lib.hid ha
  have b0 := below_al (Below.refl w.heap.size w) (RBOX r s 26)
  have HC0 := Lib.hid (Box4.new w r s 26)
  obtain ⟨Q, D, hdec⟩ : ∃ q d, decR r (forRu t r.series) = (q, d) := ⟨_, _, rfl⟩
  have hrf : ruleF r t = Q := by unfold ruleF; rw [hdec]
  have hdf : dueF r t = D := by unfold dueF; rw [hdec]
  have HDEC := Lib.hid hdec
  have HRF := Lib.hid hrf
  have HDF := Lib.hid hdf
  unfold dueRes at hres
  cases ba
  · rw [setF_no (.inl ha)] at hres
    obtain ⟨rfl, rfl⟩ := Prod.mk.inj hres
    clear h0 hok h1 ha hdec hrf hdf
    go_enter Try.func20, Try.ntmps20
    go_wp2_with (first | (go_at_call 62; refine (l6Asked_any _ _ r t _ (HV.out _ b0) (H1.out.below rRu_stable b0)).mono ?_; rw [HA.out]; rintro e w1 ⟨rfl, b1⟩; replace b1 := below_chain b0 b1))
    go_ret2
    exact ⟨rfl, b1⟩
  · by_cases hD : D < 0
    · rw [setF_no (.inr (by rw [hdf]; exact hD))] at hres
      obtain ⟨rfl, rfl⟩ := Prod.mk.inj hres
      clear h0 hok h1 ha hdec hrf hdf
      go_enter Try.func20, Try.ntmps20
      go_wp2_with (first | (go_at_call 62; refine (l6Asked_any _ _ r t _ (HV.out _ b0) (H1.out.below rRu_stable b0)).mono ?_; rw [HA.out]; rintro e w1 ⟨rfl, b1⟩; obtain ⟨c0, c1, c2, c3⟩ := HC0.out.kept b1; replace b1 := below_chain b0 b1) | (go_at_call 66; refine (l6Deciding_any _ _ r t _ (HV.out _ b1) (H1.out.below rRu_stable b1) (ask_iff.1 HA.out).1 (ask_iff.1 HA.out).2 _ _ HDEC.out).mono ?_; rintro e w2 ⟨rfl, b2⟩; replace b2 := below_chain b1 b2; simp only))
      go_ret2
      exact ⟨rfl, below_al b2 _⟩
    · rw [setF_yes ha (by rw [hdf]; omega), hrf, hdf] at hres
      obtain ⟨rfl, rfl⟩ := Prod.mk.inj hres
      clear h0 hok h1 ha hdec hrf hdf
      go_enter Try.func20, Try.ntmps20
      go_wp2_with (first | (go_at_call 62; refine (l6Asked_any _ _ r t _ (HV.out _ b0) (H1.out.below rRu_stable b0)).mono ?_; rw [HA.out]; rintro e w1 ⟨rfl, b1⟩; obtain ⟨c0, c1, c2, c3⟩ := HC0.out.kept b1; replace b1 := below_chain b0 b1) | (go_at_call 66; refine (l6Deciding_any _ _ r t _ (HV.out _ b1) (H1.out.below rRu_stable b1) (ask_iff.1 HA.out).1 (ask_iff.1 HA.out).2 _ _ HDEC.out).mono ?_; rintro e w2 ⟨rfl, b2⟩; replace b2 := below_chain b1 b2; simp only))
      go_ret2
      exact ⟨rfl, below_al b2 _⟩

theorem specDecidingRule_any (v v1 : Value) (r : Rec) (t : List Ru) (w : World) (h : RecV w v r) (h1 : RowR 4 rRu w v1 t) (q : Ru) (b : Bool) (hres : decRes r t = (q, b)) :
    Calls Try.prog 24 #[v, v1] w fun e w' => e = .returned (.tuple #[.agg #[.int .i64 q.series, .int .i64 q.event, .int .i64 q.days, .int .i64 q.act], .bool b]) ∧ Below w.heap.size w w' := by
  obtain ⟨s, rfl, h0, hok⟩ := h
  have HV := Lib.hid (show ∀ W, Below w.heap.size w W → RecV W (.agg #[.int .i64 r.id, .int .i64 r.series, .int .i64 r.made, s]) r from fun W hb => ⟨s, rfl, h0.below rEv_stable hb, hok⟩)
  have H1 := Lib.hid h1
  obtain ⟨ba, ha⟩ : ∃ b, askB r t = b := ⟨_, rfl⟩
  have HA := Lib.hid ha
  have b0 := below_al (below_al (Below.refl w.heap.size w) (RBOX r s 26)) (.cells #[.int .i64 0, .int .i64 0, .int .i64 0, .int .i64 0] 37 (0, 0))
  have HC0 : Hid (Box4 ((w.alloc (RBOX r s 26)).alloc (.cells #[.int .i64 0, .int .i64 0, .int .i64 0, .int .i64 0] 37 (0, 0))) w.heap.size r s) := Lib.hid ((Box4.new w r s 26).kept (below_al (Below.refl _ _) _))
  have HX0 : Hid (UBox ((w.alloc (RBOX r s 26)).alloc (.cells #[.int .i64 0, .int .i64 0, .int .i64 0, .int .i64 0] 37 (0, 0))) (w.heap.size + 1) ruD) := Lib.hid (by rw [← (show (w.alloc (RBOX r s 26)).heap.size = w.heap.size + 1 by simp)]; exact UBox.new (w.alloc (RBOX r s 26)) ruD 37)
  obtain ⟨Q, D, hdec⟩ : ∃ q d, decR r (forRu t r.series) = (q, d) := ⟨_, _, rfl⟩
  have hrf : ruleF r t = Q := by unfold ruleF; rw [hdec]
  have hdf : dueF r t = D := by unfold dueF; rw [hdec]
  have HDEC := Lib.hid hdec
  have HRF := Lib.hid hrf
  have HDF := Lib.hid hdf
  unfold decRes at hres
  cases ba
  · rw [setF_no (.inl ha)] at hres
    obtain ⟨rfl, rfl⟩ := Prod.mk.inj hres
    clear h0 hok h1 ha hdec hrf hdf
    go_enter Try.func24, Try.ntmps24
    go_wp2_with (first | (go_at_call 62; refine (l6Asked_any _ _ r t _ (HV.out _ b0) (H1.out.below rRu_stable b0)).mono ?_; rw [HA.out]; rintro e w1 ⟨rfl, b1⟩; have HX1 := Lib.hid (HX0.out.kept b1); obtain ⟨z0, z1, z2, z3, y0, y1, y2, y3⟩ := HX1.out; simp only [ruD] at z0 z1 z2 z3; replace b1 := below_chain b0 b1))
    refine bodyPost_ret (v := .tuple #[.agg #[.int .i64 0, .int .i64 0, .int .i64 0, .int .i64 0], .bool false]) (by simp [results, Try.results24 , go_sem, z0, z1, z2, z3]) rfl ⟨rfl, ?_⟩
    exact below_putU b1 (by omega) ruD
  · have hres2 : q = Q ∧ b = decide (0 ≤ D) := by
      by_cases hD : D < 0
      · rw [setF_no (.inr (by rw [hdf]; exact hD))] at hres
        obtain ⟨rfl, rfl⟩ := Prod.mk.inj hres
        have := decF_last (r := r) (forRu t r.series) ruD (-1)
        refine ⟨?_, (decide_eq_false (by omega)).symm⟩
        have h2 : ¬ 0 ≤ (decR r (forRu t r.series)).2 := by rw [hdec]; simp only; omega
        rw [dec_told] at h2
        rcases hus : forRu t r.series with _ | ⟨u, us⟩
        · rw [hus] at hdec
          exact (Prod.mk.inj hdec).1
        · have h3 : ∃ u ∈ forRu t r.series, endR r u < 0 := by
            rcases Classical.em (∃ u ∈ forRu t r.series, endR r u < 0) with h | h
            · exact h
            · exact absurd ⟨by rw [hus]; simp, fun u hu hl => h ⟨u, hu, hl⟩⟩ h2
          unfold decR at hdec
          rw [decF_open _ _ _ h3] at hdec
          exact (Prod.mk.inj hdec).1
      · rw [setF_yes ha (by rw [hdf]; omega), hrf, hdf] at hres
        obtain ⟨rfl, rfl⟩ := Prod.mk.inj hres
        exact ⟨rfl, (decide_eq_true (by omega)).symm⟩
    obtain ⟨rfl, rfl⟩ := hres2
    clear h0 hok h1 ha hdec hrf hdf hres
    obtain ⟨x0, x1, x2, x3⟩ := q
    go_enter Try.func24, Try.ntmps24
    go_wp2_with (first | (go_at_call 62; refine (l6Asked_any _ _ r t _ (HV.out _ b0) (H1.out.below rRu_stable b0)).mono ?_; rw [HA.out]; rintro e w1 ⟨rfl, b1⟩; obtain ⟨c0, c1, c2, c3⟩ := HC0.out.kept b1; have HX1 := Lib.hid (HX0.out.kept b1); replace b1 := below_chain b0 b1) | (go_at_call 66; refine (l6Deciding_any _ _ r t _ (HV.out _ b1) (H1.out.below rRu_stable b1) (ask_iff.1 HA.out).1 (ask_iff.1 HA.out).2 _ _ HDEC.out).mono ?_; rintro e w2 ⟨rfl, b2⟩; have HX3 := Lib.hid ((HX1.out.kept b2).al (.cells #[.int .i64 x0, .int .i64 x1, .int .i64 x2, .int .i64 x3] 37 (0, 0))); obtain ⟨z0, z1, z2, z3, y0, y1, y2, y3⟩ := HX3.out; simp only [ruD] at z0 z1 z2 z3; replace b2 := below_chain b1 b2; simp only))
    refine bodyPost_ret (v := .tuple #[.agg #[.int .i64 x0, .int .i64 x1, .int .i64 x2, .int .i64 x3], .bool (decide (0 ≤ D))]) (by simp [results, Try.results24 , go_sem, z0, z1, z2, z3]) rfl ⟨rfl, ?_⟩
    exact below_putU (below_al b2 _) (by omega) ⟨x0, x1, x2, x3⟩

theorem l6Due_any (v v1 : Value) (r : Rec) (t : List Ru) (dy : Int) (w : World) (h : RecV w v r) (h1 : RowR 4 rRu w v1 t) (ha' : askB r t = true) :
    Calls Try.prog 79 #[v, v1, .int .i64 dy] w fun e w' => e = .returned (.bool (decide (0 ≤ dueF r t ∧ dueF r t ≤ dy))) ∧ Below w.heap.size w w' := by
  obtain ⟨s, rfl, h0, hok⟩ := h
  have HV := Lib.hid (show ∀ W, Below w.heap.size w W → RecV W (.agg #[.int .i64 r.id, .int .i64 r.series, .int .i64 r.made, s]) r from fun W hb => ⟨s, rfl, h0.below rEv_stable hb, hok⟩)
  have H1 := Lib.hid h1
  obtain ⟨ba, ha⟩ : ∃ b, askB r t = b := ⟨_, rfl⟩
  have HA := Lib.hid ha
  have b1 := below_al (Below.refl w.heap.size w) (RBOX r s 26)
  obtain ⟨Q, D, hdec⟩ : ∃ q d, decR r (forRu t r.series) = (q, d) := ⟨_, _, rfl⟩
  have hrf : ruleF r t = Q := by unfold ruleF; rw [hdec]
  have hdf : dueF r t = D := by unfold dueF; rw [hdec]
  have HDEC := Lib.hid hdec
  have HRF := Lib.hid hrf
  have HDF := Lib.hid hdf
  rw [hdf]
  obtain rfl : ba = true := ha.symm.trans ha'
  clear h0 hok h1 ha hdec hrf hdf
  go_enter Try.func79, Try.ntmps79
  go_wp2_with (first | (go_at_call 66; refine (l6Deciding_any _ _ r t _ (HV.out _ b1) (H1.out.below rRu_stable b1) (ask_iff.1 HA.out).1 (ask_iff.1 HA.out).2 _ _ HDEC.out).mono ?_; rintro e w2 ⟨rfl, b2⟩; replace b2 := below_chain b1 b2; simp only) | (go_at_call 86; refine (l1In_any _ _ _ _).mono ?_; rintro e w3 ⟨rfl, h3⟩; subst w3))
  go_ret
  exact ⟨ret_bool (by first | rfl | simp), below_al b2 _⟩

theorem specIsDue_any (v v1 : Value) (r : Rec) (t : List Ru) (dy : Int) (w : World) (h : RecV w v r) (h1 : RowR 4 rRu w v1 t) (a b : Bool) (hres : isdRes r t dy = (a, b)) :
    Calls Try.prog 32 #[v, v1, .int .i64 dy] w fun e w' => e = .returned (.tuple #[.bool a, .bool b]) ∧ Below w.heap.size w w' := by
  obtain ⟨s, rfl, h0, hok⟩ := h
  have HV := Lib.hid (show ∀ W, Below w.heap.size w W → RecV W (.agg #[.int .i64 r.id, .int .i64 r.series, .int .i64 r.made, s]) r from fun W hb => ⟨s, rfl, h0.below rEv_stable hb, hok⟩)
  have H1 := Lib.hid h1
  obtain ⟨ba, ha⟩ : ∃ b, askB r t = b := ⟨_, rfl⟩
  have HA := Lib.hid ha
  have b0 := below_al (Below.refl w.heap.size w) (RBOX r s 26)
  have HC0 := Lib.hid (Box4.new w r s 26)
  obtain ⟨bd, hd⟩ : ∃ b, decide (0 ≤ dy ∧ dy ≤ 20000) = b := ⟨_, rfl⟩
  have HD := Lib.hid hd
  unfold isdRes at hres
  cases ba
  · rw [if_neg (by rw [ha]; simp)] at hres
    obtain ⟨rfl, rfl⟩ := Prod.mk.inj hres
    clear h0 hok h1 ha hd
    go_enter Try.func32, Try.ntmps32
    go_wp2_with (first | (go_at_call 62; refine (l6Asked_any _ _ r t _ (HV.out _ b0) (H1.out.below rRu_stable b0)).mono ?_; rw [HA.out]; rintro e w1 ⟨rfl, b1⟩; replace b1 := below_chain b0 b1))
    go_ret2
    exact ⟨rfl, b1⟩
  · cases bd
    · rw [if_neg (fun h => of_decide_eq_false hd h.2)] at hres
      obtain ⟨rfl, rfl⟩ := Prod.mk.inj hres
      clear h0 hok h1 ha hd
      go_enter Try.func32, Try.ntmps32
      go_wp2_with (first | (go_at_call 62; refine (l6Asked_any _ _ r t _ (HV.out _ b0) (H1.out.below rRu_stable b0)).mono ?_; rw [HA.out]; rintro e w1 ⟨rfl, b1⟩; obtain ⟨c0, c1, c2, c3⟩ := HC0.out.kept b1; replace b1 := below_chain b0 b1) | (go_at_call 73; refine (l2Day_any _ _).mono ?_; rw [HD.out]; rintro e w3 ⟨rfl, h3⟩; subst w3))
      go_ret2
      exact ⟨rfl, b1⟩
    · rw [if_pos ⟨ha, of_decide_eq_true hd⟩] at hres
      obtain ⟨hA, rfl⟩ := Prod.mk.inj hres
      have HAA := Lib.hid hA
      clear h0 hok h1 ha hd hres hA
      go_enter Try.func32, Try.ntmps32
      go_wp2_with (first | (go_at_call 62; refine (l6Asked_any _ _ r t _ (HV.out _ b0) (H1.out.below rRu_stable b0)).mono ?_; rw [HA.out]; rintro e w1 ⟨rfl, b1⟩; obtain ⟨c0, c1, c2, c3⟩ := HC0.out.kept b1; replace b1 := below_chain b0 b1) | (go_at_call 73; refine (l2Day_any _ _).mono ?_; rw [HD.out]; rintro e w3 ⟨rfl, h3⟩; subst w3) | (go_at_call 79; refine (l6Due_any _ _ r t dy _ (HV.out _ b1) (H1.out.below rRu_stable b1) HA.out).mono ?_; rw [HAA.out]; rintro e w4 ⟨rfl, b4⟩; replace b4 := below_chain b1 b4))
      go_ret2
      exact ⟨rfl, b4⟩

set_option maxRecDepth 20000 in
set_option maxHeartbeats 4000000 in
theorem specEndsOf_any (v v1 : Value) (r : Rec) (t : List Ru) (w : World) (h : RecV w v r) (h1 : RowR 4 rRu w v1 t) (xs : List Int) (b : Bool) (hres : endsRes r t = (xs, b)) :
    Calls Try.prog 17 #[v, v1] w fun e w' => ∃ v', e = .returned (.tuple #[v', .bool b]) ∧ IntsO w.heap.size w'.heap.size w' v' xs ∧ Below w.heap.size w w' := by
  obtain ⟨i0, hi, hz0, hz1, hz2⟩ := info_parts Try.info_intI
  obtain ⟨s, rfl, h0, hok⟩ := h
  have HV := Lib.hid (show ∀ W, Below w.heap.size w W → RecV W (.agg #[.int .i64 r.id, .int .i64 r.series, .int .i64 r.made, s]) r from fun W hb => ⟨s, rfl, h0.below rEv_stable hb, hok⟩)
  have H1 := Lib.hid h1
  obtain ⟨ba, ha⟩ : ∃ b, askB r t = b := ⟨_, rfl⟩
  have HA := Lib.hid ha
  have HC0 : Hid (Box4 ((w.alloc (RBOX r s 26)).alloc (.cells #[] 3 (0, 0))) w.heap.size r s) := Lib.hid ((Box4.new w r s 26).kept (below_al (Below.refl _ _) _))
  have he0 : (w.alloc (RBOX r s 26)).heap.size = w.heap.size + 1 := by simp
  have HI0 : Hid (IntsO (w.heap.size + 1) ((w.alloc (RBOX r s 26)).alloc (.cells #[] 3 (0, 0))).heap.size ((w.alloc (RBOX r s 26)).alloc (.cells #[] 3 (0, 0))) (.slice (some ⟨w.heap.size + 1, 0, none⟩) 0 0) []) := Lib.hid (by have := ints_new (w.alloc (RBOX r s 26)); rwa [he0] at this)
  clear he0
  have b0 := below_al (below_al (Below.refl w.heap.size w) (RBOX r s 26)) (.cells #[] 3 (0, 0))
  cases ba
  · obtain ⟨rfl, rfl⟩ := endsRes_no hres ha
    clear h0 hok h1 ha hres
    go_enter Try.func17, Try.ntmps17
    go_wp2_with (first | (go_at_call 62; refine (l6Asked_any _ _ r t _ (HV.out _ b0) (H1.out.below rRu_stable b0)).mono ?_; rw [HA.out]; rintro e w1 ⟨rfl, b1⟩; have HC1 := Lib.hid (HC0.out.kept b1); obtain ⟨c0, c1, c2, c3⟩ := HC1.out; have HI1 := Lib.hid ((HI0.out.below b1).wide (Nat.le_refl _) b1.size); replace b1 := below_chain b0 b1))
    go_ret2
    exact ⟨_, rfl, HI1.out.wide (Nat.le_succ _) (Nat.le_refl _), b1⟩
  · obtain ⟨rfl, rfl⟩ := endsRes_yes hres ha
    have hask := ask_iff.1 ha
    have HIR := Lib.hid hask.1
    obtain ⟨R, hR⟩ : ∃ R, forRu t r.series = R := ⟨_, rfl⟩
    have hn8 := sch_len hask.2
    have hRl : R.length ≤ 8 := by rw [← hR]; exact Nat.le_trans (forRu_len t r.series) hn8
    have HRU := Lib.hid (show ∀ u ∈ R, isRu u = true by rw [← hR]; exact forRu_ok hask.2 r.series)
    have HXS := Lib.hid (show endsF r t = R.map (endR r) by rw [show endsF r t = (forRu t r.series).map (endR r) from rfl, hR])
    have HRR := Lib.hid hR
    clear h0 hok h1 ha hres hask hR
    go_enter Try.func17, Try.ntmps17
    go_wp2_with (first | (go_at_call 62; refine (l6Asked_any _ _ r t _ (HV.out _ b0) (H1.out.below rRu_stable b0)).mono ?_; rw [HA.out]; rintro e w1 ⟨rfl, b1⟩; have HC1 := Lib.hid (HC0.out.kept b1); obtain ⟨c0, c1, c2, c3⟩ := HC1.out; have HI1 := Lib.hid ((HI0.out.below b1).wide (Nat.le_refl _) b1.size); have hw1 : w.heap.size + 2 ≤ w1.heap.size := (by have := b1.size; simp at this; omega); replace b1 := below_chain b0 b1) | (go_at_call 63; refine (l4For_any _ t r.series _ (H1.out.below rRu_stable b1) (by omega)).mono ?_; rw [HRR.out]; rintro e w2 ⟨v2, rfl, ho2, b2⟩; have hge : ∀ g, v2.ownBlock = some g → w.heap.size + 2 ≤ g := (fun g hg => by have := ho2.1.ge g hg; have := hw1; omega); obtain ⟨a1, cp1, hv, hl1, hm1, r2⟩ := ho2.row.rus; subst hv; unfold maxLen at hm1; have R2 := Lib.hid r2; have HC2 := Lib.hid (HC1.out.kept b2); have HI2 := Lib.hid (HI1.out.below b2); have hgl : w.heap.size + 1 < w2.heap.size := (by have := b2.size; omega); replace b2 := below_chain b1 b2; clear ho2 r2))
    have s2 := b2.size
    have HS0 := Lib.hid (OutS.start HI2.out.1 hgl)
    go_loopw [6, 8] (fun o i wr => ∃ k : Nat, k ≤ R.length ∧ i = .int .i64 k ∧ Hid (OutS (w.heap.size + 1) w2 wr o ((R.take k).map (endR r)))) (fun _ i _ => R.length - (intOf i).toNat)
    case atStart => exact ⟨0, Nat.zero_le _, rfl, HS0⟩
    case round =>
      clear HS0
      obtain ⟨k, hk, rfl, HS⟩ := hrel
      have hbw := b2.trans (HS.out.bel (Nat.le_succ _))
      by_cases hlt : k < R.length
      · obtain ⟨bb, o1, hb1, rfl, e1⟩ := R2.out.resolve_left (fun e => by rw [e] at hlt; simp at hlt)
        obtain ⟨q0, q1, q2, q3, hok⟩ := e1 k hlt
        obtain ⟨⟨x0, x1, x2, x3⟩, hx⟩ : ∃ s, R.getD k ruD = s := ⟨_, rfl⟩
        rw [hx] at q0 q1 q2 q3
        simp only at q0 q1 q2 q3
        have hxu : isRu ⟨x0, x1, x2, x3⟩ = true := by rw [← hx, getRu_lt hlt]; exact HRU.out _ (List.getElem_mem hlt)
        obtain ⟨E, hE⟩ : ∃ E, endR r ⟨x0, x1, x2, x3⟩ = E := ⟨_, rfl⟩
        have hbb : w.heap.size + 2 ≤ bb := hge bb (by simp [Value.ownBlock])
        have F0 := Lib.hid q0
        have F1 := Lib.hid q1
        have F2 := Lib.hid q2
        have F3 := Lib.hid q3
        have f0 := HS.out.cell q0 (by omega)
        have f1 := HS.out.cell q1 (by omega)
        have f2 := HS.out.cell q2 (by omega)
        have f3 := HS.out.cell q3 (by omega)
        have C0 := Lib.hid HC2.out.1
        have C1 := Lib.hid HC2.out.2.1
        have C2 := Lib.hid HC2.out.2.2.1
        have C3 := Lib.hid HC2.out.2.2.2
        have c0 := HS.out.cell C0.out (by omega)
        have c1 := HS.out.cell C1.out (by omega)
        have c2 := HS.out.cell C2.out (by omega)
        have c3 := HS.out.cell C3.out (by omega)
        have g0 : (0 : Int) ≤ (k : Int) := by omega
        have g1 : (k : Int) < (R.length : Int) := by omega
        have htake := ends_take (r := r) hlt
        rw [hx, hE] at htake
        obtain ⟨Pp, hP⟩ : ∃ P, (R.take k).map (endR r) = P := ⟨_, rfl⟩
        have hPl : Pp.length ≤ 8 := by rw [← hP, List.length_map, List.length_take]; omega
        rw [hP] at htake HS
        have HTK := Lib.hid htake
        have hcall : Hid (∀ W, Below wr.heap.size wr W → Calls Try.prog 64 #[.agg #[.int .i64 r.id, .int .i64 r.series, .int .i64 r.made, s], .agg #[.int .i64 x0, .int .i64 x1, .int .i64 x2, .int .i64 x3]] W fun e w' => e = .returned (.int .i64 E) ∧ Below W.heap.size W w') := Lib.hid (fun W hW => by
          have := l6End_any (.agg #[.int .i64 r.id, .int .i64 r.series, .int .i64 r.made, s]) r ⟨x0, x1, x2, x3⟩ W (HV.out _ (hbw.trans (hW.mono hbw.size))) HIR.out hxu
          rw [hE] at this
          exact this)
        clear q0 q1 q2 q3 hx e1 htake hP hE hxu hok
        go_wp2_with fail
        go_region_held3 (fun w' => w'.cell? ⟨w.heap.size, 0, none⟩ = some (.int .i64 r.id) ∧ w'.cell? ⟨w.heap.size, 1, none⟩ = some (.int .i64 r.series) ∧ w'.cell? ⟨w.heap.size, 2, none⟩ = some (.int .i64 r.made) ∧ w'.cell? ⟨w.heap.size, 3, none⟩ = some s ∧ w'.cell? ⟨bb, o1 + k * 4, none⟩ = some (.int .i64 x0) ∧ w'.cell? ⟨bb, o1 + k * 4 + 1, none⟩ = some (.int .i64 x1) ∧ w'.cell? ⟨bb, o1 + k * 4 + 2, none⟩ = some (.int .i64 x2) ∧ w'.cell? ⟨bb, o1 + k * 4 + 3, none⟩ = some (.int .i64 x3))
          (first | exact ⟨c0, c1, c2, c3, f0, f1, f2, f3⟩ | exact ⟨below_al_cell c0 _, below_al_cell c1 _, below_al_cell c2 _, below_al_cell c3 _, below_al_cell f0 _, below_al_cell f1 _, below_al_cell f2 _, below_al_cell f3 _⟩ | go_keep)
          (first | (go_at_call 64; refine (hcall.out _ (Below.refl _ _).drew).mono ?_; rintro e w5 ⟨rfl, b5⟩; have HS5 := Lib.hid (HS.out.below ((Below.refl _ _).drew.trans b5)); have hs5 := b5.size; replace c0 := HS5.out.cell C0.out (by omega); replace c1 := HS5.out.cell C1.out (by omega); replace c2 := HS5.out.cell C2.out (by omega); replace c3 := HS5.out.cell C3.out (by omega); replace f0 := HS5.out.cell F0.out (by omega); replace f1 := HS5.out.cell F1.out (by omega); replace f2 := HS5.out.cell F2.out (by omega); replace f3 := HS5.out.cell F3.out (by omega)) | (rw [if_pos (by rfl)]; refine wp_append_at _ _ _ _ rfl (w.heap.size + 1) 3 i0 (.int .i64 0) 1 8 Try.underlying30 hi hz0 hz1 hz2 rfl (by decide) u6 Pp.length (Pp.map vI) (by rfl) (by exact (HS5.out.below (below_al (Below.refl _ _) _)).own) ⟨w5.heap.size, 0, none⟩ 1 1 [.int .i64 E] (by rfl) rfl (by exact cell_oneI _ _ _ rfl) (by simp [Value.oneCell']) (by unfold maxLen; omega) (by omega) (by have := HS5.out.lt; have := HS5.out.only.size; simp; omega) ?_; intro v' w7 hown' hgrow hat; have HS7 := Lib.hid ((HS5.out.below (below_al (Below.refl _ _) _)).app hown' hgrow hat); replace c0 := HS7.out.cell C0.out (by omega); replace c1 := HS7.out.cell C1.out (by omega); replace c2 := HS7.out.cell C2.out (by omega); replace c3 := HS7.out.cell C3.out (by omega); replace f0 := HS7.out.cell F0.out (by omega); replace f1 := HS7.out.cell F1.out (by omega); replace f2 := HS7.out.cell F2.out (by omega); replace f3 := HS7.out.cell F3.out (by omega); clear hown' hgrow hat))
        go_wp2_with fail
        go_roundw
        case rel => exact ⟨k + 1, by omega, by go_num, (by rw [HTK.out]; exact HS7)⟩
        case measure => simp [intOf]; omega
      · obtain rfl : k = R.length := by omega
        rw [List.take_length] at HS
        have HO := Lib.hid HS.out.own
        go_wp2_with fail
        go_ret2
        exact ⟨_, rfl, by rw [HXS.out]; exact (ints_rowS HO.out rfl).wide (Nat.le_succ _) (Nat.le_refl _), hbw⟩

set_option maxRecDepth 20000 in
set_option maxHeartbeats 4000000 in
theorem specWaitsFor_any (v v1 : Value) (r : Rec) (t : List Ru) (w : World) (h : RecV w v r) (h1 : RowR 4 rRu w v1 t) (xs : List Int) (b : Bool) (hres : waitRes r t = (xs, b)) :
    Calls Try.prog 22 #[v, v1] w fun e w' => ∃ v', e = .returned (.tuple #[v', .bool b]) ∧ IntsO w.heap.size w'.heap.size w' v' xs ∧ Below w.heap.size w w' := by
  obtain ⟨i0, hi, hz0, hz1, hz2⟩ := info_parts Try.info_intI
  obtain ⟨s, rfl, h0, hok⟩ := h
  have HV := Lib.hid (show ∀ W, Below w.heap.size w W → RecV W (.agg #[.int .i64 r.id, .int .i64 r.series, .int .i64 r.made, s]) r from fun W hb => ⟨s, rfl, h0.below rEv_stable hb, hok⟩)
  have H1 := Lib.hid h1
  obtain ⟨ba, ha⟩ : ∃ b, askB r t = b := ⟨_, rfl⟩
  have HA := Lib.hid ha
  have HC0 : Hid (Box4 ((w.alloc (RBOX r s 26)).alloc (.cells #[] 3 (0, 0))) w.heap.size r s) := Lib.hid ((Box4.new w r s 26).kept (below_al (Below.refl _ _) _))
  have he0 : (w.alloc (RBOX r s 26)).heap.size = w.heap.size + 1 := by simp
  have HI0 : Hid (IntsO (w.heap.size + 1) ((w.alloc (RBOX r s 26)).alloc (.cells #[] 3 (0, 0))).heap.size ((w.alloc (RBOX r s 26)).alloc (.cells #[] 3 (0, 0))) (.slice (some ⟨w.heap.size + 1, 0, none⟩) 0 0) []) := Lib.hid (by have := ints_new (w.alloc (RBOX r s 26)); rwa [he0] at this)
  clear he0
  have b0 := below_al (below_al (Below.refl w.heap.size w) (RBOX r s 26)) (.cells #[] 3 (0, 0))
  cases ba
  · obtain ⟨rfl, rfl⟩ := waitRes_no hres ha
    clear h0 hok h1 ha hres
    go_enter Try.func22, Try.ntmps22
    go_wp2_with (first | (go_at_call 62; refine (l6Asked_any _ _ r t _ (HV.out _ b0) (H1.out.below rRu_stable b0)).mono ?_; rw [HA.out]; rintro e w1 ⟨rfl, b1⟩; have HC1 := Lib.hid (HC0.out.kept b1); obtain ⟨c0, c1, c2, c3⟩ := HC1.out; have HI1 := Lib.hid ((HI0.out.below b1).wide (Nat.le_refl _) b1.size); replace b1 := below_chain b0 b1))
    go_ret2
    exact ⟨_, rfl, HI1.out.wide (Nat.le_succ _) (Nat.le_refl _), b1⟩
  · obtain ⟨rfl, rfl⟩ := waitRes_yes hres ha
    have hask := ask_iff.1 ha
    have HIR := Lib.hid hask.1
    obtain ⟨R, hR⟩ : ∃ R, forRu t r.series = R := ⟨_, rfl⟩
    have hn8 := sch_len hask.2
    have hRl : R.length ≤ 8 := by rw [← hR]; exact Nat.le_trans (forRu_len t r.series) hn8
    have HRU := Lib.hid (show ∀ u ∈ R, isRu u = true by rw [← hR]; exact forRu_ok hask.2 r.series)
    have HXS := Lib.hid (show waitF r t = waitU r R by rw [waitF_u, hR])
    have HRR := Lib.hid hR
    clear h0 hok h1 ha hres hask hR
    go_enter Try.func22, Try.ntmps22
    go_wp2_with (first | (go_at_call 62; refine (l6Asked_any _ _ r t _ (HV.out _ b0) (H1.out.below rRu_stable b0)).mono ?_; rw [HA.out]; rintro e w1 ⟨rfl, b1⟩; have HC1 := Lib.hid (HC0.out.kept b1); obtain ⟨c0, c1, c2, c3⟩ := HC1.out; have HI1 := Lib.hid ((HI0.out.below b1).wide (Nat.le_refl _) b1.size); have hw1 : w.heap.size + 2 ≤ w1.heap.size := (by have := b1.size; simp at this; omega); replace b1 := below_chain b0 b1) | (go_at_call 63; refine (l4For_any _ t r.series _ (H1.out.below rRu_stable b1) (by omega)).mono ?_; rw [HRR.out]; rintro e w2 ⟨v2, rfl, ho2, b2⟩; have hge : ∀ g, v2.ownBlock = some g → w.heap.size + 2 ≤ g := (fun g hg => by have := ho2.1.ge g hg; have := hw1; omega); obtain ⟨a1, cp1, hv, hl1, hm1, r2⟩ := ho2.row.rus; subst hv; unfold maxLen at hm1; have R2 := Lib.hid r2; have HC2 := Lib.hid (HC1.out.kept b2); have HI2 := Lib.hid (HI1.out.below b2); have hgl : w.heap.size + 1 < w2.heap.size := (by have := b2.size; omega); replace b2 := below_chain b1 b2; clear ho2 r2))
    have HS0 := Lib.hid (OutS.start HI2.out.1 hgl)
    go_loopw [6, 8] (fun o i wr => ∃ k : Nat, k ≤ R.length ∧ i = .int .i64 k ∧ Hid (OutS (w.heap.size + 1) w2 wr o (waitU r (R.take k)))) (fun _ i _ => R.length - (intOf i).toNat)
    case atStart => exact ⟨0, Nat.zero_le _, rfl, HS0⟩
    case round =>
      clear HS0
      obtain ⟨k, hk, rfl, HS⟩ := hrel
      have hbw := b2.trans (HS.out.bel (Nat.le_succ _))
      by_cases hlt : k < R.length
      · obtain ⟨bb, o1, hb1, rfl, e1⟩ := R2.out.resolve_left (fun e => by rw [e] at hlt; simp at hlt)
        obtain ⟨q0, q1, q2, q3, hok⟩ := e1 k hlt
        obtain ⟨⟨x0, x1, x2, x3⟩, hx⟩ : ∃ s, R.getD k ruD = s := ⟨_, rfl⟩
        rw [hx] at q0 q1 q2 q3
        simp only at q0 q1 q2 q3
        have hxu : isRu ⟨x0, x1, x2, x3⟩ = true := by rw [← hx, getRu_lt hlt]; exact HRU.out _ (List.getElem_mem hlt)
        obtain ⟨E, hE⟩ : ∃ E, endR r ⟨x0, x1, x2, x3⟩ = E := ⟨_, rfl⟩
        have hbb : w.heap.size + 2 ≤ bb := hge bb (by simp [Value.ownBlock])
        have F0 := Lib.hid q0
        have F1 := Lib.hid q1
        have F2 := Lib.hid q2
        have F3 := Lib.hid q3
        have f0 := HS.out.cell q0 (by omega)
        have f1 := HS.out.cell q1 (by omega)
        have f2 := HS.out.cell q2 (by omega)
        have f3 := HS.out.cell q3 (by omega)
        have C0 := Lib.hid HC2.out.1
        have C1 := Lib.hid HC2.out.2.1
        have C2 := Lib.hid HC2.out.2.2.1
        have C3 := Lib.hid HC2.out.2.2.2
        have c0 := HS.out.cell C0.out (by omega)
        have c1 := HS.out.cell C1.out (by omega)
        have c2 := HS.out.cell C2.out (by omega)
        have c3 := HS.out.cell C3.out (by omega)
        have g0 : (0 : Int) ≤ (k : Int) := by omega
        have g1 : (k : Int) < (R.length : Int) := by omega
        have htake := wait_take (r := r) hlt
        rw [hx, hE] at htake
        obtain ⟨Pp, hP⟩ : ∃ P, waitU r (R.take k) = P := ⟨_, rfl⟩
        have hPl : Pp.length ≤ 8 := by rw [← hP]; have := waitU_len r (R.take k); rw [List.length_take] at this; omega
        rw [hP] at htake HS
        have HTK := Lib.hid htake
        have k0 := cell_regrown f0
        have k1 := cell_regrown f1
        have k2 := cell_regrown f2
        have k3 := cell_regrown f3
        have m0 := cell_regrown c0
        have m1 := cell_regrown c1
        have m2 := cell_regrown c2
        have m3 := cell_regrown c3
        have hc := l6End_grown (.agg #[.int .i64 r.id, .int .i64 r.series, .int .i64 r.made, s]) r ⟨x0, x1, x2, x3⟩ E hE wr (fun W hW => HV.out W (hbw.trans (hW.mono hbw.size))) HIR.out hxu
        simp only at hc
        clear q0 q1 q2 q3 hx e1 htake hP hE hxu hok
        by_cases hEn : E < 0
        · have hEd : decide (E < 0) = true := decide_eq_true hEn
          have HTK2 := Lib.hid (HTK.out.trans (if_pos hEn))
          go_wp2_with fail
          refine wp_region_quiet_below (by kernel_rfl) (by kernel_rfl) ?_
          repeat (go_big_quiet_step (first | exact hc _ _))
          refine wpQuiet_nil ?_
          intro _ hw'
          obtain ⟨⟨dq, osq⟩, hw''⟩ := hw'
          subst hw''
          have bq := below_regrown wr dq osq
          have HSq := Lib.hid (HS.out.below bq)
          have j0 := cell_kept f0 bq
          have j1 := cell_kept f1 bq
          have j2 := cell_kept f2 bq
          have j3 := cell_kept f3 bq
          generalize grow (redrawn wr dq) osq = wz at *
          clear k0 k1 k2 k3 m0 m1 m2 m3 hc c0 c1 c2 c3 f0 f1 f2 f3 HS bq C0 C1 C2 C3 F0 F1 F2 F3 hbw
          clear hEn
          go_wp2_with (first | (at_builtin; refine wpList_append_own_at _ rfl _ _ 30 rfl (w.heap.size + 1) 3 i0 (.int .i64 0) 1 8 Try.underlying30 hi hz0 hz1 hz2 rfl (by decide) _ _ _ rfl ((HSq.out.below (below_al (Below.refl _ _) _)).own) ⟨wz.heap.size, 0, none⟩ 1 1 [.int .i64 x1] rfl rfl (cell_oneI _ _ _ (by simp)) (by simp [Value.oneCell']) (by unfold maxLen; omega) (by omega) (by have := HSq.out.lt; have := HSq.out.only.size; simp; omega) ?_; intro v' w7 hown' hgrow _ hat; have HS7 := Lib.hid ((HSq.out.below (below_al (Below.refl _ _) _)).app hown' hgrow hat); clear hown' hgrow hat))
          go_wp2_with fail
          go_roundw
          case rel => exact ⟨k + 1, by omega, by go_num, (by rw [HTK2.out]; exact HS7)⟩
          case measure => simp [intOf]; omega
        · have hEd : decide (E < 0) = false := decide_eq_false hEn
          have HTK2 := Lib.hid (HTK.out.trans (if_neg hEn))
          go_wp2_with fail
          refine wp_region_quiet_below (by kernel_rfl) (by kernel_rfl) ?_
          repeat (go_big_quiet_step (first | exact hc _ _))
          refine wpQuiet_nil ?_
          intro _ hw'
          obtain ⟨⟨dq, osq⟩, hw''⟩ := hw'
          subst hw''
          have bq := below_regrown wr dq osq
          have HSq := Lib.hid (HS.out.below bq)
          have j0 := cell_kept f0 bq
          have j1 := cell_kept f1 bq
          have j2 := cell_kept f2 bq
          have j3 := cell_kept f3 bq
          generalize grow (redrawn wr dq) osq = wz at *
          clear k0 k1 k2 k3 m0 m1 m2 m3 hc c0 c1 c2 c3 f0 f1 f2 f3 HS bq C0 C1 C2 C3 F0 F1 F2 F3 hbw
          clear hEn
          go_wp2_with fail
          go_roundw
          case rel => exact ⟨k + 1, by omega, by go_num, (by rw [HTK2.out]; exact HSq)⟩
          case measure => simp [intOf]; omega
      · obtain rfl : k = R.length := by omega
        rw [List.take_length] at HS
        have HO := Lib.hid HS.out.own
        go_wp2_with fail
        go_ret2
        exact ⟨_, rfl, by rw [HXS.out]; exact (ints_rowS HO.out rfl).wide (Nat.le_succ _) (Nat.le_refl _), hbw⟩

set_option maxRecDepth 20000 in
set_option maxHeartbeats 4000000 in
theorem specDueRecords_any (v v1 : Value) (rs : List Rec) (t : List Ru) (dy ac : Int) (w : World) (h : RowR 4 rRec w v rs) (h1 : RowR 4 rRu w v1 t) (xs : List Int) (b : Bool) (hres : drecRes rs t dy ac = (xs, b)) :
    Calls Try.prog 35 #[v, v1, .int .i64 dy, .int .i64 ac] w fun e w' => ∃ v', e = .returned (.tuple #[v', .bool b]) ∧ IntsO w.heap.size w'.heap.size w' v' xs ∧ Below w.heap.size w w' := by
  obtain ⟨i0, hi, hz0, hz1, hz2⟩ := info_parts Try.info_intI
  have H := Lib.hid h
  have H1 := Lib.hid h1
  obtain ⟨a1, c1, rfl, hl1, hm1, r1⟩ := h.recs
  have R1 := Lib.hid r1
  unfold maxLen at hm1
  obtain ⟨br, hr⟩ : ∃ b, areRecs rs = b := ⟨_, rfl⟩
  obtain ⟨bs, hs⟩ : ∃ b, isSch t = b := ⟨_, rfl⟩
  have HR := Lib.hid hr
  have HS := Lib.hid hs
  have HI0 := Lib.hid (ints_new w)
  have b0 := below_al (Below.refl w.heap.size w) (.cells #[] 3 (0, 0))
  obtain ⟨bd, hd⟩ : ∃ b, decide (0 ≤ dy ∧ dy ≤ 20000) = b := ⟨_, rfl⟩
  obtain ⟨bac, hac⟩ : ∃ b, decide (1 ≤ ac ∧ ac ≤ 3) = b := ⟨_, rfl⟩
  have HD := Lib.hid hd
  have HAC := Lib.hid hac
  have NO := Lib.hid (fun hn => drecRes_no hres hn)
  have YES := Lib.hid (fun hn => drecRes_yes hres hn)
  clear h h1 r1 hr hs hd hac hres
  cases br
  · obtain ⟨rfl, rfl⟩ := NO.out (fun h => by rw [HR.out] at h; exact absurd h.1 (by simp))
    go_enter Try.func35, Try.ntmps35
    go_wp2_with (first | (go_at_call 85; refine (l2Records_any _ rs _ (H.out.below rRec_stable b0)).mono ?_; rw [HR.out]; rintro e w1 ⟨rfl, b1⟩; have HI1 := Lib.hid ((HI0.out.below b1).wide (Nat.le_refl _) b1.size); replace b1 := below_chain b0 b1; clear HI0 b0))
    go_ret2
    exact ⟨_, rfl, HI1.out, b1⟩
  · cases bs
    · obtain ⟨rfl, rfl⟩ := NO.out (fun h => by rw [HS.out] at h; exact absurd h.2.1 (by simp))
      go_enter Try.func35, Try.ntmps35
      go_wp2_with (first | (go_at_call 85; refine (l2Records_any _ rs _ (H.out.below rRec_stable b0)).mono ?_; rw [HR.out]; rintro e w1 ⟨rfl, b1⟩; have HI1 := Lib.hid ((HI0.out.below b1).wide (Nat.le_refl _) b1.size); replace b1 := below_chain b0 b1; clear HI0 b0) | (go_at_call 72; refine (l4Good_any _ t _ (H1.out.below rRu_stable b1)).mono ?_; rw [HS.out]; rintro e w2 ⟨rfl, b2⟩; have HI2 := Lib.hid ((HI1.out.below b2).wide (Nat.le_refl _) b2.size); replace b2 := below_chain b1 b2; clear HI1 b1))
      go_ret2
      exact ⟨_, rfl, HI2.out, b2⟩
    · cases bd
      · obtain ⟨rfl, rfl⟩ := NO.out (fun h => of_decide_eq_false HD.out h.2.2.1)
        go_enter Try.func35, Try.ntmps35
        go_wp2_with (first | (go_at_call 85; refine (l2Records_any _ rs _ (H.out.below rRec_stable b0)).mono ?_; rw [HR.out]; rintro e w1 ⟨rfl, b1⟩; have HI1 := Lib.hid ((HI0.out.below b1).wide (Nat.le_refl _) b1.size); replace b1 := below_chain b0 b1; clear HI0 b0) | (go_at_call 72; refine (l4Good_any _ t _ (H1.out.below rRu_stable b1)).mono ?_; rw [HS.out]; rintro e w2 ⟨rfl, b2⟩; have HI2 := Lib.hid ((HI1.out.below b2).wide (Nat.le_refl _) b2.size); replace b2 := below_chain b1 b2; clear HI1 b1) | (go_at_call 73; refine (l2Day_any _ _).mono ?_; rw [HD.out]; rintro e w3 ⟨rfl, h3⟩; subst w3))
        go_ret2
        exact ⟨_, rfl, HI2.out, b2⟩
      · cases bac
        · obtain ⟨rfl, rfl⟩ := NO.out (fun h => of_decide_eq_false HAC.out h.2.2.2)
          go_enter Try.func35, Try.ntmps35
          go_wp2_with (first | (go_at_call 85; refine (l2Records_any _ rs _ (H.out.below rRec_stable b0)).mono ?_; rw [HR.out]; rintro e w1 ⟨rfl, b1⟩; have HI1 := Lib.hid ((HI0.out.below b1).wide (Nat.le_refl _) b1.size); replace b1 := below_chain b0 b1; clear HI0 b0) | (go_at_call 72; refine (l4Good_any _ t _ (H1.out.below rRu_stable b1)).mono ?_; rw [HS.out]; rintro e w2 ⟨rfl, b2⟩; have HI2 := Lib.hid ((HI1.out.below b2).wide (Nat.le_refl _) b2.size); replace b2 := below_chain b1 b2; clear HI1 b1) | (go_at_call 73; refine (l2Day_any _ _).mono ?_; rw [HD.out]; rintro e w3 ⟨rfl, h3⟩; subst w3) | (go_at_call 86; refine (l1In_any _ _ _ _).mono ?_; rw [HAC.out]; rintro e w3 ⟨rfl, h3⟩; subst w3))
          go_ret2
          exact ⟨_, rfl, HI2.out, b2⟩
        · obtain ⟨rfl, rfl⟩ := YES.out ⟨HR.out, HS.out, of_decide_eq_true HD.out, of_decide_eq_true HAC.out⟩
          have hten := recs_ten HR.out
          clear NO YES
          go_enter Try.func35, Try.ntmps35
          go_wp2_with (first | (go_at_call 85; refine (l2Records_any _ rs _ (H.out.below rRec_stable b0)).mono ?_; rw [HR.out]; rintro e w1 ⟨rfl, b1⟩; have HI1 := Lib.hid ((HI0.out.below b1).wide (Nat.le_refl _) b1.size); replace b1 := below_chain b0 b1; clear HI0 b0) | (go_at_call 72; refine (l4Good_any _ t _ (H1.out.below rRu_stable b1)).mono ?_; rw [HS.out]; rintro e w2 ⟨rfl, b2⟩; have HI2 := Lib.hid ((HI1.out.below b2).wide (Nat.le_refl _) b2.size); replace b2 := below_chain b1 b2; clear HI1 b1) | (go_at_call 73; refine (l2Day_any _ _).mono ?_; rw [HD.out]; rintro e w3 ⟨rfl, h3⟩; subst w3) | (go_at_call 86; refine (l1In_any _ _ _ _).mono ?_; rw [HAC.out]; rintro e w3 ⟨rfl, h3⟩; subst w3))
          go_loopw [10, 11] (fun o i wr => ∃ k : Nat, k ≤ rs.length ∧ i = .int .i64 k ∧ wr.ownsRow w.heap.size 3 1 o (hitF t dy ac (rs.take k)).length ((hitF t dy ac (rs.take k)).map vI) ∧ Below w.heap.size w wr) (fun _ i _ => rs.length - (intOf i).toNat)
          case atStart => exact ⟨0, Nat.zero_le _, rfl, by simpa [hitF] using HI2.out.1, b2⟩
          case round =>
            clear b2 HI2
            obtain ⟨k, hk, rfl, hO, hb⟩ := hrel
            by_cases hlt : k < rs.length
            · obtain ⟨bR, oR, hbR, rfl, e1⟩ := R1.out.resolve_left (fun e => by rw [e] at hlt; simp at hlt)
              obtain ⟨sv, q0, q1, q2, q3, hrow, hok⟩ := e1 k hlt
              obtain ⟨r, hx⟩ : ∃ s, rs.getD k recD = s := ⟨_, rfl⟩
              have hri : isRec r = true := by rw [← hx]; exact recs_at HR.out hlt
              rw [hx] at q0 q1 q2 hrow hok
              have hr0 := hrow
              obtain ⟨sa, sc, rfl, _⟩ := hr0
              have f0 := cell_kept q0 hb
              have f1 := cell_kept q1 hb
              have f2 := cell_kept q2 hb
              have f3 := cell_kept q3 hb
              have HV := Lib.hid (show ∀ W, Below w.heap.size w W → RecV W (.agg #[.int .i64 r.id, .int .i64 r.series, .int .i64 r.made, .slice sa r.evs.length sc]) r from fun W hb => ⟨_, rfl, hrow.below rEv_stable hb, hok⟩)
              have g0 : (0 : Int) ≤ (k : Int) := by omega
              have g1 : (k : Int) < (rs.length : Int) := by omega
              have hsz := hb.size
              obtain ⟨⟨y0, y1, y2, y3⟩, D, hdec⟩ : ∃ q d, decR r (forRu t r.series) = (q, d) := ⟨_, _, rfl⟩
              have hsucc := hit_succ (t := t) (d := dy) (a := ac) hlt
              have hlen := hit_len t dy ac (rs.take k)
              rw [List.length_take] at hlen
              have hhit : hitB t dy ac r = decide (y3 = ac ∧ (0 ≤ D ∧ D ≤ dy)) := by unfold hitB ruleF dueF; rw [hdec]
              have hdue : dueF r t = D := by unfold dueF; rw [hdec]
              rw [hx, hhit] at hsucc
              obtain ⟨Pp, hP⟩ : ∃ P, hitF t dy ac (rs.take k) = P := ⟨_, rfl⟩
              rw [hP] at hO hlen hsucc
              have HSU := Lib.hid hsucc
              have HDEC := Lib.hid hdec
              have HDU := Lib.hid hdue
              have HO := Lib.hid hO
              have f0' : ∀ W, Below wr.heap.size wr W → ∀ o, (W.alloc o).cell? ⟨bR, oR + k * 4, none⟩ = some (.int .i64 r.id) := fun W hW o => below_al_cell (cell_kept f0 hW) o
              have HFK := Lib.hid (show ∀ W, Below wr.heap.size wr W → W.cell? ⟨bR, oR + k * 4, none⟩ = some (.int .i64 r.id) ∧ W.cell? ⟨bR, oR + k * 4 + 1, none⟩ = some (.int .i64 r.series) ∧ W.cell? ⟨bR, oR + k * 4 + 2, none⟩ = some (.int .i64 r.made) ∧ W.cell? ⟨bR, oR + k * 4 + 3, none⟩ = some (.slice sa r.evs.length sc) from fun W hW => ⟨cell_kept f0 hW, cell_kept f1 hW, cell_kept f2 hW, cell_kept f3 hW⟩)
              clear q0 q1 q2 q3 hrow hx e1 hsucc hP hok hdec hdue hhit hO f0'
              by_cases hact : y3 = ac
              · have hactd : (y3 == ac) = true := by simp [hact]
                obtain ⟨bq, hbq⟩ : ∃ b, decide (0 ≤ D ∧ D ≤ dy) = b := ⟨_, rfl⟩
                have HBQ := Lib.hid hbq
                have HAQ := Lib.hid hact
                clear hact hbq
                cases bq
                · have HSU2 := Lib.hid (HSU.out.trans (if_neg (by rw [decide_eq_true_eq]; exact fun h => of_decide_eq_false HBQ.out h.2)))
                  go_wp2_with (first | (go_at_call 66; refine (l6Deciding_any _ _ r t _ (HV.out _ hb) (H1.out.below rRu_stable hb) hri HS.out _ _ HDEC.out).mono ?_; rintro e w5 ⟨rfl, b5⟩; obtain ⟨f0, f1, f2, f3⟩ := HFK.out _ (below_al b5 (.cells #[.int .i64 y0, .int .i64 y1, .int .i64 y2, .int .i64 y3] 37 (0, 0))); have bx5 := below_al b5 (.cells #[.int .i64 y0, .int .i64 y1, .int .i64 y2, .int .i64 y3] 37 (0, 0)); have HO5 := Lib.hid (ownsRow_below HO.out bx5); have bz5 := bx5; replace b5 := below_chain hb bx5; simp only) | (go_at_call 79; refine (l6Due_any _ _ r t dy _ (HV.out _ b5) (H1.out.below rRu_stable b5) (ask_iff.2 ⟨hri, HS.out⟩)).mono ?_; rw [HDU.out, HBQ.out]; rintro e w6 ⟨rfl, b6⟩; replace f0 := cell_kept f0 b6; have HO6 := Lib.hid (ownsRow_below HO5.out b6); replace b6 := below_chain b5 b6; have hs6 := b6.size))
                  go_roundw
                  case rel => exact ⟨k + 1, by omega, by go_num, (by rw [HSU2.out]; exact HO6.out), b6⟩
                  case measure => simp [intOf]; omega
                · have HSU2 := Lib.hid (HSU.out.trans (if_pos (by rw [decide_eq_true_eq]; exact ⟨HAQ.out, of_decide_eq_true HBQ.out⟩)))
                  go_wp2_with (first | (go_at_call 66; refine (l6Deciding_any _ _ r t _ (HV.out _ hb) (H1.out.below rRu_stable hb) hri HS.out _ _ HDEC.out).mono ?_; rintro e w5 ⟨rfl, b5⟩; obtain ⟨f0, f1, f2, f3⟩ := HFK.out _ (below_al b5 (.cells #[.int .i64 y0, .int .i64 y1, .int .i64 y2, .int .i64 y3] 37 (0, 0))); have bx5 := below_al b5 (.cells #[.int .i64 y0, .int .i64 y1, .int .i64 y2, .int .i64 y3] 37 (0, 0)); have HO5 := Lib.hid (ownsRow_below HO.out bx5); have bz5 := bx5; replace b5 := below_chain hb bx5; simp only) | (go_at_call 79; refine (l6Due_any _ _ r t dy _ (HV.out _ b5) (H1.out.below rRu_stable b5) (ask_iff.2 ⟨hri, HS.out⟩)).mono ?_; rw [HDU.out, HBQ.out]; rintro e w6 ⟨rfl, b6⟩; replace f0 := cell_kept f0 b6; have HO6 := Lib.hid (ownsRow_below HO5.out b6); replace b6 := below_chain b5 b6; have hs6 := b6.size) | (at_builtin; refine wpList_append_own _ rfl _ _ 30 rfl w.heap.size 3 i0 (.int .i64 0) 1 8 Try.underlying30 hi hz0 hz1 hz2 rfl (by decide) _ _ _ rfl (HO6.out.alloc _) ⟨w6.heap.size, 0, none⟩ 1 1 [.int .i64 r.id] rfl rfl (cell_oneI _ _ _ (by simp)) (by simp [Value.oneCell']) (by unfold maxLen; omega) (by omega) (by simp; omega) ?_; intro v' w7 hown' hgrow _))
                  have HOWN := Lib.hid hown'
                  have HB := Lib.hid (below_app b6 (Nat.le_refl _) HO6.out hgrow)
                  clear hown' hgrow
                  go_wp2_with fail
                  go_roundw
                  case rel => exact ⟨k + 1, by omega, by go_num, (by rw [HSU2.out]; simpa [vI] using HOWN.out), HB.out⟩
                  case measure => simp [intOf]; omega
              · have hactd : (y3 == ac) = false := by simp [hact]
                have HSU2 := Lib.hid (HSU.out.trans (if_neg (by rw [decide_eq_true_eq]; exact fun h => hact h.1)))
                clear hact
                go_wp2_with (first | (go_at_call 66; refine (l6Deciding_any _ _ r t _ (HV.out _ hb) (H1.out.below rRu_stable hb) hri HS.out _ _ HDEC.out).mono ?_; rintro e w5 ⟨rfl, b5⟩; obtain ⟨f0, f1, f2, f3⟩ := HFK.out _ (below_al b5 (.cells #[.int .i64 y0, .int .i64 y1, .int .i64 y2, .int .i64 y3] 37 (0, 0))); have bx5 := below_al b5 (.cells #[.int .i64 y0, .int .i64 y1, .int .i64 y2, .int .i64 y3] 37 (0, 0)); have HO5 := Lib.hid (ownsRow_below HO.out bx5); have bz5 := bx5; replace b5 := below_chain hb bx5; simp only))
                go_roundw
                case rel => exact ⟨k + 1, by omega, by go_num, (by rw [HSU2.out]; exact HO5.out), b5⟩
                case measure => simp [intOf]; omega
            · obtain rfl : k = rs.length := by omega
              rw [List.take_length] at hO
              have HO := Lib.hid hO
              clear hO
              go_wp2_with fail
              go_ret2
              exact ⟨_, rfl, ints_rowS HO.out rfl, hb⟩

set_option maxRecDepth 20000 in
set_option maxHeartbeats 4000000 in
theorem specNotScheduled_any (v v1 : Value) (rs : List Rec) (t : List Ru) (w : World) (h : RowR 4 rRec w v rs) (h1 : RowR 4 rRu w v1 t) (xs : List Int) (b : Bool) (hres : notsRes rs t = (xs, b)) :
    Calls Try.prog 41 #[v, v1] w fun e w' => ∃ v', e = .returned (.tuple #[v', .bool b]) ∧ IntsO w.heap.size w'.heap.size w' v' xs ∧ Below w.heap.size w w' := by
  obtain ⟨i0, hi, hz0, hz1, hz2⟩ := info_parts Try.info_intI
  have H := Lib.hid h
  have H1 := Lib.hid h1
  obtain ⟨a1, c1, rfl, hl1, hm1, r1⟩ := h.recs
  have R1 := Lib.hid r1
  unfold maxLen at hm1
  obtain ⟨br, hr⟩ : ∃ b, areRecs rs = b := ⟨_, rfl⟩
  obtain ⟨bs, hs⟩ : ∃ b, isSch t = b := ⟨_, rfl⟩
  have HR := Lib.hid hr
  have HS := Lib.hid hs
  have HI0 := Lib.hid (ints_new w)
  have b0 := below_al (Below.refl w.heap.size w) (.cells #[] 3 (0, 0))
  have NO := Lib.hid (fun hn => notsRes_no hres hn)
  have YES := Lib.hid (fun hn => notsRes_yes hres hn)
  clear h h1 r1 hr hs hres
  cases br
  · obtain ⟨rfl, rfl⟩ := NO.out (fun h => by rw [HR.out] at h; exact absurd h.1 (by simp))
    go_enter Try.func41, Try.ntmps41
    go_wp2_with (first | (go_at_call 85; refine (l2Records_any _ rs _ (H.out.below rRec_stable b0)).mono ?_; rw [HR.out]; rintro e w1 ⟨rfl, b1⟩; have HI1 := Lib.hid ((HI0.out.below b1).wide (Nat.le_refl _) b1.size); replace b1 := below_chain b0 b1; clear HI0 b0))
    go_ret2
    exact ⟨_, rfl, HI1.out, b1⟩
  · cases bs
    · obtain ⟨rfl, rfl⟩ := NO.out (fun h => by rw [HS.out] at h; exact absurd h.2 (by simp))
      go_enter Try.func41, Try.ntmps41
      go_wp2_with (first | (go_at_call 85; refine (l2Records_any _ rs _ (H.out.below rRec_stable b0)).mono ?_; rw [HR.out]; rintro e w1 ⟨rfl, b1⟩; have HI1 := Lib.hid ((HI0.out.below b1).wide (Nat.le_refl _) b1.size); replace b1 := below_chain b0 b1; clear HI0 b0) | (go_at_call 72; refine (l4Good_any _ t _ (H1.out.below rRu_stable b1)).mono ?_; rw [HS.out]; rintro e w2 ⟨rfl, b2⟩; have HI2 := Lib.hid ((HI1.out.below b2).wide (Nat.le_refl _) b2.size); replace b2 := below_chain b1 b2; clear HI1 b1))
      go_ret2
      exact ⟨_, rfl, HI2.out, b2⟩
    · obtain ⟨rfl, rfl⟩ := YES.out ⟨HR.out, HS.out⟩
      have hten := recs_ten HR.out
      have hn8 := sch_len HS.out
      clear NO YES
      go_enter Try.func41, Try.ntmps41
      go_wp2_with (first | (go_at_call 85; refine (l2Records_any _ rs _ (H.out.below rRec_stable b0)).mono ?_; rw [HR.out]; rintro e w1 ⟨rfl, b1⟩; have HI1 := Lib.hid ((HI0.out.below b1).wide (Nat.le_refl _) b1.size); replace b1 := below_chain b0 b1; clear HI0 b0) | (go_at_call 72; refine (l4Good_any _ t _ (H1.out.below rRu_stable b1)).mono ?_; rw [HS.out]; rintro e w2 ⟨rfl, b2⟩; have HI2 := Lib.hid ((HI1.out.below b2).wide (Nat.le_refl _) b2.size); replace b2 := below_chain b1 b2; clear HI1 b1))
      go_loopw [6, 7] (fun o i wr => ∃ k : Nat, k ≤ rs.length ∧ i = .int .i64 k ∧ wr.ownsRow w.heap.size 3 1 o (noneF t (rs.take k)).length ((noneF t (rs.take k)).map vI) ∧ Below w.heap.size w wr) (fun _ i _ => rs.length - (intOf i).toNat)
      case atStart => exact ⟨0, Nat.zero_le _, rfl, by simpa [noneF] using HI2.out.1, b2⟩
      case round =>
        clear b2 HI2
        obtain ⟨k, hk, rfl, hO, hb⟩ := hrel
        by_cases hlt : k < rs.length
        · obtain ⟨bR, oR, hbR, rfl, e1⟩ := R1.out.resolve_left (fun e => by rw [e] at hlt; simp at hlt)
          obtain ⟨sv, q0, q1, q2, q3, hrow, hok⟩ := e1 k hlt
          obtain ⟨r, hx⟩ : ∃ s, rs.getD k recD = s := ⟨_, rfl⟩
          have hri : isRec r = true := by rw [← hx]; exact recs_at HR.out hlt
          rw [hx] at q0 q1 q2 hrow hok
          have hr0 := hrow
          obtain ⟨sa, sc, rfl, _⟩ := hr0
          have f0 := cell_kept q0 hb
          have f1 := cell_kept q1 hb
          have f2 := cell_kept q2 hb
          have f3 := cell_kept q3 hb
          have HV := Lib.hid (show ∀ W, Below w.heap.size w W → RecV W (.agg #[.int .i64 r.id, .int .i64 r.series, .int .i64 r.made, .slice sa r.evs.length sc]) r from fun W hb => ⟨_, rfl, hrow.below rEv_stable hb, hok⟩)
          have g0 : (0 : Int) ≤ (k : Int) := by omega
          have g1 : (k : Int) < (rs.length : Int) := by omega
          have hsz := hb.size
          have hsucc := none_succ (t := t) hlt
          have hlen := none_len t (rs.take k)
          rw [List.length_take] at hlen
          rw [hx] at hsucc
          obtain ⟨F, hF⟩ : ∃ F, forRu t r.series = F := ⟨_, rfl⟩
          have hnb : noneB t r = decide (F.length = 0) := by unfold noneB; rw [hF]
          rw [hnb] at hsucc
          obtain ⟨Pp, hP⟩ : ∃ P, noneF t (rs.take k) = P := ⟨_, rfl⟩
          rw [hP] at hO hlen hsucc
          have HSU := Lib.hid hsucc
          have HF := Lib.hid hF
          have HO := Lib.hid hO
          have HF0 := Lib.hid f0
          clear q0 q1 q2 q3 hrow hx e1 hsucc hP hok hF hnb hO HV hri
          by_cases hz : F.length = 0
          · have hzd : ((F.length : Int) == 0) = true := by simp [hz]
            have hzd2 : decide ((F.length : Int) = 0) = true := decide_eq_true (by omega)
            have hzd3 : decide (F.length = 0) = true := decide_eq_true hz
            have HSU2 := Lib.hid (HSU.out.trans (if_pos (decide_eq_true hz)))
            clear hz
            go_wp2_with (first | (go_at_call 63; refine (l4For_any _ t r.series _ (H1.out.below rRu_stable hb) (by omega)).mono ?_; rw [HF.out]; rintro e w6 ⟨v6, rfl, ho6, b6⟩; obtain ⟨a6, c6, hv6, hl6, hm6, r6⟩ := ho6.row.rus; subst hv6; unfold maxLen at hm6; replace f0 := cell_kept HF0.out b6; have HO6 := Lib.hid (ownsRow_below HO.out b6); replace b6 := below_chain hb b6; have hs6 := b6.size; clear ho6 r6) | (at_builtin; refine wpList_append_own _ rfl _ _ 30 rfl w.heap.size 3 i0 (.int .i64 0) 1 8 Try.underlying30 hi hz0 hz1 hz2 rfl (by decide) _ _ _ rfl (HO6.out.alloc _) ⟨w6.heap.size, 0, none⟩ 1 1 [.int .i64 r.id] rfl rfl (cell_oneI _ _ _ (by simp)) (by simp [Value.oneCell']) (by unfold maxLen; omega) (by omega) (by simp; omega) ?_; intro v' w7 hown' hgrow _))
            have HOWN := Lib.hid hown'
            have HB := Lib.hid (below_app b6 (Nat.le_refl _) HO6.out hgrow)
            clear hown' hgrow
            go_wp2_with fail
            go_roundw
            case rel => exact ⟨k + 1, by omega, by go_num, (by rw [HSU2.out]; simpa [vI] using HOWN.out), HB.out⟩
            case measure => simp [intOf]; omega
          · have hzd : ((F.length : Int) == 0) = false := by simp [hz]
            have hzd2 : decide ((F.length : Int) = 0) = false := decide_eq_false (by omega)
            have hzd3 : decide (F.length = 0) = false := decide_eq_false hz
            have HSU2 := Lib.hid (HSU.out.trans (if_neg (by rw [decide_eq_true_eq]; exact hz)))
            clear hz
            go_wp2_with (first | (go_at_call 63; refine (l4For_any _ t r.series _ (H1.out.below rRu_stable hb) (by omega)).mono ?_; rw [HF.out]; rintro e w6 ⟨v6, rfl, ho6, b6⟩; obtain ⟨a6, c6, hv6, hl6, hm6, r6⟩ := ho6.row.rus; subst hv6; unfold maxLen at hm6; replace f0 := cell_kept HF0.out b6; have HO6 := Lib.hid (ownsRow_below HO.out b6); replace b6 := below_chain hb b6; have hs6 := b6.size; clear ho6 r6))
            go_roundw
            case rel => exact ⟨k + 1, by omega, by go_num, (by rw [HSU2.out]; exact HO6.out), b6⟩
            case measure => simp [intOf]; omega
        · obtain rfl : k = rs.length := by omega
          rw [List.take_length] at hO
          have HO := Lib.hid hO
          clear hO
          go_wp2_with fail
          go_ret2
          exact ⟨_, rfl, ints_rowS HO.out rfl, hb⟩

set_option maxRecDepth 20000 in
set_option maxHeartbeats 4000000 in
theorem specNextDue_any (v v1 : Value) (rs : List Rec) (t : List Ru) (dy : Int) (w : World) (h : RowR 4 rRec w v rs) (h1 : RowR 4 rRu w v1 t) (x y : Int) (b : Bool) (hres : nextRes rs t dy = (x, y, b)) :
    Calls Try.prog 38 #[v, v1, .int .i64 dy] w fun e w' => e = .returned (.tuple #[.int .i64 x, .int .i64 y, .bool b]) ∧ Below w.heap.size w w' := by
  have H := Lib.hid h
  have H1 := Lib.hid h1
  obtain ⟨a1, c1, rfl, hl1, hm1, r1⟩ := h.recs
  have R1 := Lib.hid r1
  unfold maxLen at hm1
  obtain ⟨br, hr⟩ : ∃ b, areRecs rs = b := ⟨_, rfl⟩
  obtain ⟨bs, hs⟩ : ∃ b, isSch t = b := ⟨_, rfl⟩
  obtain ⟨bd, hd⟩ : ∃ b, decide (0 ≤ dy ∧ dy ≤ 20000) = b := ⟨_, rfl⟩
  have HR := Lib.hid hr
  have HS := Lib.hid hs
  have HD := Lib.hid hd
  have NO := Lib.hid (fun hn => nextRes_no hres hn)
  have HRES := Lib.hid hres
  clear h h1 r1 hr hs hd hres
  cases br
  · obtain ⟨rfl, rfl, rfl⟩ := NO.out (fun h => by rw [HR.out] at h; exact absurd h.1 (by simp))
    go_enter Try.func38, Try.ntmps38
    go_wp2_with (first | (go_at_call 85; refine (l2Records_any _ rs _ H.out).mono ?_; rw [HR.out]; rintro e w1 ⟨rfl, b1⟩))
    go_ret3
    exact ⟨rfl, b1⟩
  · cases bs
    · obtain ⟨rfl, rfl, rfl⟩ := NO.out (fun h => by rw [HS.out] at h; exact absurd h.2.1 (by simp))
      go_enter Try.func38, Try.ntmps38
      go_wp2_with (first | (go_at_call 85; refine (l2Records_any _ rs _ H.out).mono ?_; rw [HR.out]; rintro e w1 ⟨rfl, b1⟩) | (go_at_call 72; refine (l4Good_any _ t _ (H1.out.below rRu_stable b1)).mono ?_; rw [HS.out]; rintro e w2 ⟨rfl, b2⟩; replace b2 := below_chain b1 b2))
      go_ret3
      exact ⟨rfl, b2⟩
    · cases bd
      · obtain ⟨rfl, rfl, rfl⟩ := NO.out (fun h => of_decide_eq_false HD.out h.2.2.1)
        go_enter Try.func38, Try.ntmps38
        go_wp2_with (first | (go_at_call 85; refine (l2Records_any _ rs _ H.out).mono ?_; rw [HR.out]; rintro e w1 ⟨rfl, b1⟩) | (go_at_call 72; refine (l4Good_any _ t _ (H1.out.below rRu_stable b1)).mono ?_; rw [HS.out]; rintro e w2 ⟨rfl, b2⟩; replace b2 := below_chain b1 b2) | (go_at_call 73; refine (l2Day_any _ _).mono ?_; rw [HD.out]; rintro e w3 ⟨rfl, h3⟩; subst w3))
        go_ret3
        exact ⟨rfl, b2⟩
      · have hten := recs_ten HR.out
        have hdy := of_decide_eq_true HD.out
        go_enter Try.func38, Try.ntmps38
        go_wp2_with (first | (go_at_call 85; refine (l2Records_any _ rs _ H.out).mono ?_; rw [HR.out]; rintro e w1 ⟨rfl, b1⟩) | (go_at_call 72; refine (l4Good_any _ t _ (H1.out.below rRu_stable b1)).mono ?_; rw [HS.out]; rintro e w2 ⟨rfl, b2⟩; replace b2 := below_chain b1 b2) | (go_at_call 73; refine (l2Day_any _ _).mono ?_; rw [HD.out]; rintro e w3 ⟨rfl, h3⟩; subst w3))
        go_loopw [9, 10, 11] (fun bst lst i wr => ∃ (k : Nat) (p l : Int), k ≤ rs.length ∧ i = .int .i64 k ∧ bst = .int .i64 p ∧ lst = .int .i64 l ∧ Hid (nextF t dy (rs.drop k) p l = nextF t dy rs 0 (-1)) ∧ Below w.heap.size w wr) (fun _ _ i _ => rs.length - (intOf i).toNat)
        case atStart => exact ⟨0, 0, -1, Nat.zero_le _, rfl, rfl, rfl, Lib.hid rfl, b2⟩
        case round =>
          clear b2
          obtain ⟨k, p, l, hk, rfl, rfl, rfl, HF, hb⟩ := hrel
          by_cases hlt : k < rs.length
          · obtain ⟨bR, oR, hbR, rfl, e1⟩ := R1.out.resolve_left (fun e => by rw [e] at hlt; simp at hlt)
            obtain ⟨sv, q0, q1, q2, q3, hrow, hok⟩ := e1 k hlt
            obtain ⟨r, hx⟩ : ∃ s, rs.getD k recD = s := ⟨_, rfl⟩
            have hri : isRec r = true := by rw [← hx]; exact recs_at HR.out hlt
            rw [hx] at q0 q1 q2 hrow hok
            have hr0 := hrow
            obtain ⟨sa, sc, rfl, _⟩ := hr0
            have f0 := cell_kept q0 hb
            have f1 := cell_kept q1 hb
            have f2 := cell_kept q2 hb
            have f3 := cell_kept q3 hb
            have HV := Lib.hid (show ∀ W, Below w.heap.size w W → RecV W (.agg #[.int .i64 r.id, .int .i64 r.series, .int .i64 r.made, .slice sa r.evs.length sc]) r from fun W hb => ⟨_, rfl, hrow.below rEv_stable hb, hok⟩)
            have g0 : (0 : Int) ≤ (k : Int) := by omega
            have g1 : (k : Int) < (rs.length : Int) := by omega
            have hsz := hb.size
            obtain ⟨⟨y0, y1, y2, y3⟩, D, hdec⟩ : ∃ q d, decR r (forRu t r.series) = (q, d) := ⟨_, _, rfl⟩
            have hdue : dueF r t = D := by unfold dueF; rw [hdec]
            have hdrop := drop_rec hlt
            rw [hx] at hdrop
            have HFF := Lib.hid (by rw [hdrop, next_cons] at HF; exact HF.out : (if dy < dueF r t ∧ (l < 0 ∨ dueF r t < l) then nextF t dy (rs.drop (k + 1)) r.id (dueF r t) else nextF t dy (rs.drop (k + 1)) p l) = nextF t dy rs 0 (-1))
            rw [hdue] at HFF
            have HDEC := Lib.hid hdec
            have HFK := Lib.hid (show ∀ W, Below wr.heap.size wr W → W.cell? ⟨bR, oR + k * 4, none⟩ = some (.int .i64 r.id) from fun W hW => cell_kept f0 hW)
            clear q0 q1 q2 q3 hrow hx e1 hok hdec hdue hdrop HF
            by_cases hgt : dy < D
            · have hgd : decide (dy < D) = true := decide_eq_true hgt
              by_cases hl0 : l < 0
              · have hld : decide (l < 0) = true := decide_eq_true hl0
                have HZ := Lib.hid HFF.out
                rw [if_pos ⟨hgt, .inl hl0⟩] at HZ
                go_wp2_with (first | (go_at_call 66; refine (l6Deciding_any _ _ r t _ (HV.out _ hb) (H1.out.below rRu_stable hb) hri HS.out _ _ HDEC.out).mono ?_; rintro e w5 ⟨rfl, b5⟩; have f0 := HFK.out _ (below_al b5 (.cells #[.int .i64 y0, .int .i64 y1, .int .i64 y2, .int .i64 y3] 37 (0, 0))); replace b5 := below_chain hb (below_al b5 (.cells #[.int .i64 y0, .int .i64 y1, .int .i64 y2, .int .i64 y3] 37 (0, 0))); simp only))
                go_roundw
                case rel => exact ⟨k + 1, r.id, D, by omega, by go_num, rfl, rfl, HZ, b5⟩
                case measure => simp [intOf]; omega
              · have hld : decide (l < 0) = false := decide_eq_false hl0
                by_cases hls : D < l
                · have hlsd : decide (D < l) = true := decide_eq_true hls
                  have HZ := Lib.hid HFF.out
                  rw [if_pos ⟨hgt, .inr hls⟩] at HZ
                  go_wp2_with (first | (go_at_call 66; refine (l6Deciding_any _ _ r t _ (HV.out _ hb) (H1.out.below rRu_stable hb) hri HS.out _ _ HDEC.out).mono ?_; rintro e w5 ⟨rfl, b5⟩; have f0 := HFK.out _ (below_al b5 (.cells #[.int .i64 y0, .int .i64 y1, .int .i64 y2, .int .i64 y3] 37 (0, 0))); replace b5 := below_chain hb (below_al b5 (.cells #[.int .i64 y0, .int .i64 y1, .int .i64 y2, .int .i64 y3] 37 (0, 0))); simp only))
                  go_roundw
                  case rel => exact ⟨k + 1, r.id, D, by omega, by go_num, rfl, rfl, HZ, b5⟩
                  case measure => simp [intOf]; omega
                · have hlsd : decide (D < l) = false := decide_eq_false hls
                  have HZ := Lib.hid HFF.out
                  rw [if_neg (by rintro ⟨_, h | h⟩; exact hl0 h; exact hls h)] at HZ
                  go_wp2_with (first | (go_at_call 66; refine (l6Deciding_any _ _ r t _ (HV.out _ hb) (H1.out.below rRu_stable hb) hri HS.out _ _ HDEC.out).mono ?_; rintro e w5 ⟨rfl, b5⟩; have f0 := HFK.out _ (below_al b5 (.cells #[.int .i64 y0, .int .i64 y1, .int .i64 y2, .int .i64 y3] 37 (0, 0))); replace b5 := below_chain hb (below_al b5 (.cells #[.int .i64 y0, .int .i64 y1, .int .i64 y2, .int .i64 y3] 37 (0, 0))); simp only))
                  go_roundw
                  case rel => exact ⟨k + 1, p, l, by omega, by go_num, rfl, rfl, HZ, b5⟩
                  case measure => simp [intOf]; omega
            · have hgd : decide (dy < D) = false := decide_eq_false hgt
              have HZ := Lib.hid HFF.out
              rw [if_neg (fun h => hgt h.1)] at HZ
              go_wp2_with (first | (go_at_call 66; refine (l6Deciding_any _ _ r t _ (HV.out _ hb) (H1.out.below rRu_stable hb) hri HS.out _ _ HDEC.out).mono ?_; rintro e w5 ⟨rfl, b5⟩; have f0 := HFK.out _ (below_al b5 (.cells #[.int .i64 y0, .int .i64 y1, .int .i64 y2, .int .i64 y3] 37 (0, 0))); replace b5 := below_chain hb (below_al b5 (.cells #[.int .i64 y0, .int .i64 y1, .int .i64 y2, .int .i64 y3] 37 (0, 0))); simp only))
              go_roundw
              case rel => exact ⟨k + 1, p, l, by omega, by go_num, rfl, rfl, HZ, b5⟩
              case measure => simp [intOf]; omega
          · obtain rfl : k = rs.length := by omega
            have hfin := HF.out
            rw [List.drop_length] at hfin
            have hfin2 : nextF t dy rs 0 (-1) = (p, l) := hfin.symm
            by_cases hl0 : l < 0
            · obtain ⟨rfl, rfl, rfl⟩ := NO.out (fun h => by have := h.2.2.2; rw [hfin2] at this; simp only at this; omega)
              clear hfin hfin2
              go_wp2_with fail
              go_ret3
              exact ⟨rfl, hb⟩
            · have hq := HRES.out
              unfold nextRes at hq
              rw [if_pos ⟨HR.out, HS.out, hdy, by rw [hfin2]; simp only; omega⟩, hfin2] at hq
              obtain ⟨rfl, e2⟩ := Prod.mk.inj hq
              obtain ⟨rfl, rfl⟩ := Prod.mk.inj e2
              clear hfin hfin2 hq e2
              go_wp2_with fail
              go_ret3
              exact ⟨rfl, hb⟩

theorem specDueAfter_any (v v1 : Value) (r : Rec) (t : List Ru) (e : Ev) (w : World) (h : RecV w v r) (hsome : ∃ x0 x1 x2 g c, v = .agg #[x0, x1, x2, .slice (some ⟨g, 0, none⟩) r.evs.length c]) (he : e.ok) (h1 : RowR 4 rRu w v1 t) (d : Int) (b : Bool) (hres : aftRes r t e = (d, b)) :
    Calls Try.prog 29 #[v, v1, .agg #[.int .i64 e.kind, .int .i64 e.day]] w fun e w' => e = .returned (.tuple #[.int .i64 d, .bool b]) ∧ Below w.heap.size w w' := by
  obtain ⟨s, rfl, hs, hok⟩ := h
  have H1 := Lib.hid h1
  have HSO := Lib.hid hsome
  have b0 := below_al (below_al (Below.refl w.heap.size w) (RBOX r s 26)) (.cells #[.int .i64 e.kind, .int .i64 e.day] 43 (0, 0))
  have HV := Lib.hid (show ∀ W, Below w.heap.size w W → RecV W (.agg #[.int .i64 r.id, .int .i64 r.series, .int .i64 r.made, s]) r from fun W hb => ⟨s, rfl, hs.below rEv_stable hb, hok⟩)
  obtain ⟨q, k, hq⟩ : ∃ q k, addRes r e = (q, k) := ⟨_, _, rfl⟩
  have HQ := Lib.hid hq
  have HRES := Lib.hid hres
  clear hs hok h1 hres hq hsome
  cases k
  · have hd : d = 0 ∧ b = false := by
      have h2 := HRES.out
      have h3 := HQ.out
      unfold addRes at h3
      split at h3
      · cases h3
      · rename_i hc
        unfold aftRes at h2
        rw [if_neg hc] at h2
        cases h2
        exact ⟨rfl, rfl⟩
    obtain ⟨rfl, rfl⟩ := hd
    go_enter Try.func29, Try.ntmps29
    go_wp2_with (first | (go_at_call 71; refine (specAddEvent_any _ r e _ (HV.out _ b0) HSO.out he q false HQ.out).mono ?_; rintro en w1 ⟨v', rfl, ho, b1⟩; replace b1 := below_chain b0 b1; obtain ⟨sx, rfl, hox, _⟩ := ho; obtain ⟨sa, sn, sc, rfl⟩ := hox.1.slice; clear hox))
    go_ret2
    exact ⟨rfl, below_al b1 _⟩
  · have hdd : dueRes q t = (d, b) ∧ isRec q = true := by
      have h2 := HRES.out
      have h3 := HQ.out
      unfold addRes at h3
      split at h3
      · rename_i hc
        unfold aftRes at h2
        rw [if_pos hc] at h2
        cases h3
        exact ⟨h2, hc.2⟩
      · cases h3
    obtain ⟨hdd, hqr⟩ := hdd
    unfold dueRes at hdd
    obtain ⟨Q, D, hdec⟩ : ∃ a b, decR q (forRu t q.series) = (a, b) := ⟨_, _, rfl⟩
    have hdf : dueF q t = D := by unfold dueF; rw [hdec]
    obtain ⟨bs, hbs⟩ : ∃ b, isSch t = b := ⟨_, rfl⟩
    have HS := Lib.hid hbs
    have HQR := Lib.hid hqr
    have HDEC := Lib.hid hdec
    cases bs
    · rw [setF_no (.inl (by unfold askB; rw [hbs]; simp))] at hdd
      obtain ⟨rfl, rfl⟩ := Prod.mk.inj hdd
      clear hbs hqr hdec hdf hdd
      go_enter Try.func29, Try.ntmps29
      go_wp2_with (first | (go_at_call 71; refine (specAddEvent_any _ r e _ (HV.out _ b0) HSO.out he q true HQ.out).mono ?_; rintro en w1 ⟨v', rfl, ho, b1⟩; replace b1 := below_chain b0 b1; obtain ⟨sx, rfl, hox, hokx⟩ := ho; obtain ⟨sa, sn, sc, rfl⟩ := hox.1.slice; have HRX := Lib.hid (show ∀ W, Below w1.heap.size w1 W → RecV W (.agg #[.int .i64 q.id, .int .i64 q.series, .int .i64 q.made, .slice sa sn sc]) q from (fun W hW => ⟨_, rfl, hox.row.below rEv_stable hW, hokx⟩)); have HB4 := Lib.hid (Box4.new w1 q (.slice sa sn sc) 26); have bb1 := below_al (Below.refl w1.heap.size w1) (RBOX q (.slice sa sn sc) 26); replace b1 := below_al b1 (RBOX q (.slice sa sn sc) 26); clear hox hokx) | (go_at_call 72; refine (l4Good_any _ t _ (H1.out.below rRu_stable b1)).mono ?_; rw [HS.out]; rintro en w2 ⟨rfl, b2⟩; obtain ⟨c0, c1, c2, c3⟩ := HB4.out.kept b2; replace bb1 := below_chain bb1 b2; replace b2 := below_chain b1 b2))
      go_ret2
      exact ⟨rfl, b2⟩
    · by_cases hD : D < 0
      · rw [setF_no (.inr (by rw [hdf]; exact hD))] at hdd
        obtain ⟨rfl, rfl⟩ := Prod.mk.inj hdd
        clear hbs hqr hdec hdf hdd
        go_enter Try.func29, Try.ntmps29
        go_wp2_with (first | (go_at_call 71; refine (specAddEvent_any _ r e _ (HV.out _ b0) HSO.out he q true HQ.out).mono ?_; rintro en w1 ⟨v', rfl, ho, b1⟩; replace b1 := below_chain b0 b1; obtain ⟨sx, rfl, hox, hokx⟩ := ho; obtain ⟨sa, sn, sc, rfl⟩ := hox.1.slice; have HRX := Lib.hid (show ∀ W, Below w1.heap.size w1 W → RecV W (.agg #[.int .i64 q.id, .int .i64 q.series, .int .i64 q.made, .slice sa sn sc]) q from (fun W hW => ⟨_, rfl, hox.row.below rEv_stable hW, hokx⟩)); have HB4 := Lib.hid (Box4.new w1 q (.slice sa sn sc) 26); have bb1 := below_al (Below.refl w1.heap.size w1) (RBOX q (.slice sa sn sc) 26); replace b1 := below_al b1 (RBOX q (.slice sa sn sc) 26); clear hox hokx) | (go_at_call 72; refine (l4Good_any _ t _ (H1.out.below rRu_stable b1)).mono ?_; rw [HS.out]; rintro en w2 ⟨rfl, b2⟩; obtain ⟨c0, c1, c2, c3⟩ := HB4.out.kept b2; replace bb1 := below_chain bb1 b2; replace b2 := below_chain b1 b2) | (go_at_call 66; refine (l6Deciding_any _ _ q t _ (HRX.out _ bb1) (H1.out.below rRu_stable b2) HQR.out HS.out _ _ HDEC.out).mono ?_; rintro en w3 ⟨rfl, b3⟩; replace b3 := below_chain b2 b3; simp only))
        go_ret2
        exact ⟨rfl, below_al b3 _⟩
      · rw [setF_yes (ask_iff.2 ⟨hqr, hbs⟩) (by rw [hdf]; omega), hdf] at hdd
        obtain ⟨rfl, rfl⟩ := Prod.mk.inj hdd
        clear hbs hqr hdec hdf hdd
        go_enter Try.func29, Try.ntmps29
        go_wp2_with (first | (go_at_call 71; refine (specAddEvent_any _ r e _ (HV.out _ b0) HSO.out he q true HQ.out).mono ?_; rintro en w1 ⟨v', rfl, ho, b1⟩; replace b1 := below_chain b0 b1; obtain ⟨sx, rfl, hox, hokx⟩ := ho; obtain ⟨sa, sn, sc, rfl⟩ := hox.1.slice; have HRX := Lib.hid (show ∀ W, Below w1.heap.size w1 W → RecV W (.agg #[.int .i64 q.id, .int .i64 q.series, .int .i64 q.made, .slice sa sn sc]) q from (fun W hW => ⟨_, rfl, hox.row.below rEv_stable hW, hokx⟩)); have HB4 := Lib.hid (Box4.new w1 q (.slice sa sn sc) 26); have bb1 := below_al (Below.refl w1.heap.size w1) (RBOX q (.slice sa sn sc) 26); replace b1 := below_al b1 (RBOX q (.slice sa sn sc) 26); clear hox hokx) | (go_at_call 72; refine (l4Good_any _ t _ (H1.out.below rRu_stable b1)).mono ?_; rw [HS.out]; rintro en w2 ⟨rfl, b2⟩; obtain ⟨c0, c1, c2, c3⟩ := HB4.out.kept b2; replace bb1 := below_chain bb1 b2; replace b2 := below_chain b1 b2) | (go_at_call 66; refine (l6Deciding_any _ _ q t _ (HRX.out _ bb1) (H1.out.below rRu_stable b2) HQR.out HS.out _ _ HDEC.out).mono ?_; rintro en w3 ⟨rfl, b3⟩; replace b3 := below_chain b2 b3; simp only))
        go_ret2
        exact ⟨rfl, below_al b3 _⟩
end Go.Proofs.Ytdcikapijpohpaa
