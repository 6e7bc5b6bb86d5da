/- The program's functions of periods. -/
import Derived.Test.YtdcikapijpohpaaPerP
import Derived.Test.YtdcikapijpohpaaAreRec
import Derived.Test.YtdcikapijpohpaaRecs
import Derived.Test.YtdcikapijpohpaaDayI
import Derived.Test.YtdcikapijpohpaaSerIn
import Derived.Test.YtdcikapijpohpaaAdd
namespace Go.Proofs.Ytdcikapijpohpaa
set_option linter.unusedVariables false
open Go.RowKit Go.Sort

theorem implEndsOf_any (v v1 : Value) (r : Rec) (t : List Ru) (w : World) (h : RecV w v r) (h1 : RowR 4 rRu w v1 t) (hn : t.length ≤ 1048576) (xs : List Int) (b : Bool) (hres : endsRes r t = (xs, b)) :
    Calls Try.prog 16 #[v, v1] w fun e w' => ∃ v', e = .returned (.tuple #[v', .bool b]) ∧ IntsO w.heap.size w'.heap.size w' v' xs ∧ Below w.heap.size w w' := by
  obtain ⟨s, rfl, h0, hok⟩ := h
  have HV := Lib.hid (show ∀ W, Below w.heap.size w W → RecV W (.agg #[.int .i64 r.id, .int .i64 r.series, .int .i64 r.made, s]) r from fun W hb => ⟨s, rfl, h0.below rEv_stable hb, hok⟩)
  have H1 := Lib.hid h1
  have b0 := below_al (Below.refl w.heap.size w) (RBOX r s 26)
  have hxs : perEnds r t = xs ∧ askB r t = b := by
    rcases ha : askB r t with _ | _
    · obtain ⟨rfl, rfl⟩ := endsRes_no hres ha
      exact ⟨by unfold perEnds; rw [if_neg (by rw [ha]; simp)], rfl⟩
    · obtain ⟨rfl, rfl⟩ := endsRes_yes hres ha
      exact ⟨by unfold perEnds; rw [if_pos ha], rfl⟩
  have HXS := Lib.hid hxs
  clear h0 hok h1 hres hxs
  go_enter Try.func16, Try.ntmps16
  go_wp2_with (first | (go_at_call 61; refine (periodsOf_any _ _ r t _ (HV.out _ b0) (H1.out.below rRu_stable b0) hn).mono ?_; rintro e w1 ⟨u1, u2, rfl, ho1, ho2, b1⟩; rw [HXS.out.1] at ho2; rw [HXS.out.2]; have HO2 := Lib.hid ho2; replace b1 := below_chain b0 b1; clear ho1 ho2))
  go_ret2
  exact ⟨_, rfl, HO2.out.wide (by simp) (Nat.le_refl _), b1⟩

theorem implDueDay_any (v v1 : Value) (r : Rec) (t : List Ru) (w : World) (h : RecV w v r) (h1 : RowR 4 rRu w v1 t) (hn : t.length ≤ 1048576) (d : Int) (b : Bool) (hres : dueRes r t = (d, b)) :
    Calls Try.prog 19 #[v, v1] w fun e w' => e = .returned (.tuple #[.int .i64 d, .bool b]) ∧ Below w.heap.size w w' := by
  obtain ⟨s, rfl, h0, hok⟩ := h
  have HV := Lib.hid (show ∀ W, Below w.heap.size w W → RecV W (.agg #[.int .i64 r.id, .int .i64 r.series, .int .i64 r.made, s]) r from fun W hb => ⟨s, rfl, h0.below rEv_stable hb, hok⟩)
  have H1 := Lib.hid h1
  have b0 := below_al (Below.refl w.heap.size w) (RBOX r s 26)
  obtain ⟨q, d', b', hs⟩ : ∃ q d' b', setF r t = (q, d', b') := ⟨_, _, _, rfl⟩
  unfold dueRes at hres
  rw [hs] at hres
  obtain ⟨rfl, rfl⟩ := Prod.mk.inj hres
  have HS := Lib.hid hs
  clear h0 hok h1 hres hs
  go_enter Try.func19, Try.ntmps19
  go_wp2_with (first | (go_at_call 65; refine (settle_any _ _ r t _ (HV.out _ b0) (H1.out.below rRu_stable b0) hn q d' b' HS.out).mono ?_; rintro e w1 ⟨rfl, b1⟩; replace b1 := below_chain b0 b1))
  go_ret2
  exact ⟨rfl, below_al b1 _⟩

theorem implDecidingRule_any (v v1 : Value) (r : Rec) (t : List Ru) (w : World) (h : RecV w v r) (h1 : RowR 4 rRu w v1 t) (hn : t.length ≤ 1048576) (q : Ru) (b : Bool) (hres : decRes r t = (q, b)) :
    Calls Try.prog 23 #[v, v1] w fun e w' => e = .returned (.tuple #[.agg #[.int .i64 q.series, .int .i64 q.event, .int .i64 q.days, .int .i64 q.act], .bool b]) ∧ Below w.heap.size w w' := by
  obtain ⟨s, rfl, h0, hok⟩ := h
  have HV := Lib.hid (show ∀ W, Below w.heap.size w W → RecV W (.agg #[.int .i64 r.id, .int .i64 r.series, .int .i64 r.made, s]) r from fun W hb => ⟨s, rfl, h0.below rEv_stable hb, hok⟩)
  have H1 := Lib.hid h1
  have b0 := below_al (Below.refl w.heap.size w) (RBOX r s 26)
  obtain ⟨q', d', b', hs⟩ : ∃ q d' b', setF r t = (q, d', b') := ⟨_, _, _, rfl⟩
  unfold decRes at hres
  rw [hs] at hres
  obtain ⟨rfl, rfl⟩ := Prod.mk.inj hres
  have HS := Lib.hid hs
  replace b0 := below_al b0 (.cells #[.int .i64 0, .int .i64 0, .int .i64 0, .int .i64 0] 37 (0, 0))
  have HX0 : Hid (UBox ((w.alloc (RBOX r s 26)).alloc (.cells #[.int .i64 0, .int .i64 0, .int .i64 0, .int .i64 0] 37 (0, 0))) (w.heap.size + 1) ruD) := Lib.hid (by rw [← (show (w.alloc (RBOX r s 26)).heap.size = w.heap.size + 1 by simp)]; exact UBox.new (w.alloc (RBOX r s 26)) ruD 37)
  clear h0 hok h1 hres hs
  obtain ⟨x0, x1, x2, x3⟩ := q'
  go_enter Try.func23, Try.ntmps23
  go_wp2_with (first | (go_at_call 65; refine (settle_any _ _ r t _ (HV.out _ b0) (H1.out.below rRu_stable b0) hn _ d' b' HS.out).mono ?_; rintro e w1 ⟨rfl, b1⟩; have HX1 := Lib.hid ((HX0.out.kept b1).al (.cells #[.int .i64 x0, .int .i64 x1, .int .i64 x2, .int .i64 x3] 37 (0, 0))); obtain ⟨z0, z1, z2, z3, y0, y1, y2, y3⟩ := HX1.out; simp only [ruD] at z0 z1 z2 z3; replace b1 := below_chain b0 b1; simp only))
  refine bodyPost_ret (v := .tuple #[.agg #[.int .i64 x0, .int .i64 x1, .int .i64 x2, .int .i64 x3], .bool b']) (by simp [results, Try.results23 , go_sem, z0, z1, z2, z3]) rfl ⟨rfl, ?_⟩
  exact below_putU (below_al b1 _) (by omega) ⟨x0, x1, x2, x3⟩

set_option maxRecDepth 20000 in
set_option maxHeartbeats 2000000 in
theorem implIsDue_any (v v1 : Value) (r : Rec) (t : List Ru) (dy : Int) (w : World) (h : RecV w v r) (h1 : RowR 4 rRu w v1 t) (hn : t.length ≤ 1048576) (a b : Bool) (hres : isdRes r t dy = (a, b)) :
    Calls Try.prog 31 #[v, v1, .int .i64 dy] w fun e w' => e = .returned (.tuple #[.bool a, .bool b]) ∧ Below w.heap.size w w' := by
  obtain ⟨s, rfl, h0, hok⟩ := h
  have HV := Lib.hid (show ∀ W, Below w.heap.size w W → RecV W (.agg #[.int .i64 r.id, .int .i64 r.series, .int .i64 r.made, s]) r from fun W hb => ⟨s, rfl, h0.below rEv_stable hb, hok⟩)
  have H1 := Lib.hid h1
  have b0 := below_al (Below.refl w.heap.size w) (RBOX r s 26)
  have HC0 := Lib.hid (Box4.new w r s 26)
  obtain ⟨br, hr⟩ : ∃ b, isRec r = b := ⟨_, rfl⟩
  obtain ⟨bs, hs⟩ : ∃ b, isSch t = b := ⟨_, rfl⟩
  obtain ⟨bd, hd⟩ : ∃ b, decide (0 ≤ dy ∧ dy ≤ 20000) = b := ⟨_, rfl⟩
  have HR := Lib.hid hr
  have HS := Lib.hid hs
  have HD := Lib.hid hd
  have HRES := Lib.hid hres
  clear h0 hok h1 hres hr hs hd
  have NO : ¬ (askB r t = true ∧ (0 ≤ dy ∧ dy ≤ 20000)) → a = false ∧ b = false := fun hn => by
    have := HRES.out
    unfold isdRes at this
    rw [if_neg hn] at this
    obtain ⟨h1, h2⟩ := Prod.mk.inj this
    exact ⟨h1.symm, h2.symm⟩
  have NO := Lib.hid NO
  cases br
  · obtain ⟨rfl, rfl⟩ := NO.out (fun h => by have := ask_iff.1 h.1; rw [HR.out] at this; exact absurd this.1 (by simp))
    go_enter Try.func31, Try.ntmps31
    go_wp2_with (first | (go_at_call 67; refine (implIsRecord_any _ r _ (HV.out _ b0)).mono ?_; rw [HR.out]; rintro e w1 ⟨rfl, b1⟩; replace b1 := below_chain b0 b1))
    go_ret2
    exact ⟨rfl, b1⟩
  · cases bs
    · obtain ⟨rfl, rfl⟩ := NO.out (fun h => by have := ask_iff.1 h.1; rw [HS.out] at this; exact absurd this.2 (by simp))
      go_enter Try.func31, Try.ntmps31
      go_wp2_with (first | (go_at_call 67; refine (implIsRecord_any _ r _ (HV.out _ b0)).mono ?_; rw [HR.out]; rintro e w1 ⟨rfl, b1⟩; replace b1 := below_chain b0 b1) | (go_at_call 77; refine (implIsSchedule_any _ t _ (H1.out.below rRu_stable b1)).mono ?_; rw [HS.out]; rintro e w2 ⟨rfl, b2⟩; replace b2 := below_chain b1 b2))
      go_ret2
      exact ⟨rfl, b2⟩
    · cases bd
      · obtain ⟨rfl, rfl⟩ := NO.out (fun h => of_decide_eq_false HD.out h.2)
        go_enter Try.func31, Try.ntmps31
        go_wp2_with (first | (go_at_call 67; refine (implIsRecord_any _ r _ (HV.out _ b0)).mono ?_; rw [HR.out]; rintro e w1 ⟨rfl, b1⟩; replace b1 := below_chain b0 b1) | (go_at_call 77; refine (implIsSchedule_any _ t _ (H1.out.below rRu_stable b1)).mono ?_; rw [HS.out]; rintro e w2 ⟨rfl, b2⟩; replace b2 := below_chain b1 b2) | (go_at_call 78; refine (isDay_any _ _).mono ?_; rw [HD.out]; rintro e w3 ⟨rfl, rfl⟩))
        go_ret2
        exact ⟨rfl, b2⟩
      · have hask : askB r t = true := ask_iff.2 ⟨HR.out, HS.out⟩
        have hq := HRES.out
        unfold isdRes at hq
        rw [if_pos ⟨hask, of_decide_eq_true HD.out⟩] at hq
        obtain ⟨hqa, rfl⟩ := Prod.mk.inj hq
        obtain ⟨n, k, hdr⟩ : ∃ n k, dueRes r t = (n, k) := ⟨_, _, rfl⟩
        have hA : a = (k && decide (n ≤ dy)) := by
          rw [← hqa]
          unfold dueRes at hdr
          rcases Int.lt_or_le (dueF r t) 0 with hl | hl
          · rw [setF_no (.inr hl)] at hdr
            obtain ⟨rfl, rfl⟩ := Prod.mk.inj hdr
            simp; omega
          · rw [setF_yes hask hl] at hdr
            obtain ⟨rfl, rfl⟩ := Prod.mk.inj hdr
            simp [hl]
        subst hA
        have HDR := Lib.hid hdr
        clear hq hqa hask hdr NO HRES
        have hc := HC0.out
        cases k
        · go_enter Try.func31, Try.ntmps31
          go_wp2_with (first | (go_at_call 67; refine (implIsRecord_any _ r _ (HV.out _ b0)).mono ?_; rw [HR.out]; rintro e w1 ⟨rfl, b1⟩; have HC1 := Lib.hid (HC0.out.kept b1); replace b1 := below_chain b0 b1) | (go_at_call 77; refine (implIsSchedule_any _ t _ (H1.out.below rRu_stable b1)).mono ?_; rw [HS.out]; rintro e w2 ⟨rfl, b2⟩; obtain ⟨c0, c1, c2, c3⟩ := HC1.out.kept b2; replace b2 := below_chain b1 b2) | (go_at_call 78; refine (isDay_any _ _).mono ?_; rw [HD.out]; rintro e w3 ⟨rfl, rfl⟩) | (go_at_call 19; refine (implDueDay_any _ _ r t _ (HV.out _ b2) (H1.out.below rRu_stable b2) hn n false HDR.out).mono ?_; rintro e w4 ⟨rfl, b4⟩; replace b4 := below_chain b2 b4))
          go_ret2
          exact ⟨rfl, b4⟩
        · go_enter Try.func31, Try.ntmps31
          go_wp2_with (first | (go_at_call 67; refine (implIsRecord_any _ r _ (HV.out _ b0)).mono ?_; rw [HR.out]; rintro e w1 ⟨rfl, b1⟩; have HC1 := Lib.hid (HC0.out.kept b1); replace b1 := below_chain b0 b1) | (go_at_call 77; refine (implIsSchedule_any _ t _ (H1.out.below rRu_stable b1)).mono ?_; rw [HS.out]; rintro e w2 ⟨rfl, b2⟩; obtain ⟨c0, c1, c2, c3⟩ := HC1.out.kept b2; replace b2 := below_chain b1 b2) | (go_at_call 78; refine (isDay_any _ _).mono ?_; rw [HD.out]; rintro e w3 ⟨rfl, rfl⟩) | (go_at_call 19; refine (implDueDay_any _ _ r t _ (HV.out _ b2) (H1.out.below rRu_stable b2) hn n true HDR.out).mono ?_; rintro e w4 ⟨rfl, b4⟩; replace b4 := below_chain b2 b4))
          go_ret2
          exact ⟨by simp, b4⟩

theorem implDueAfter_any (v v1 : Value) (r : Rec) (t : List Ru) (e : Ev) (w : World) (lo hi : Nat) (h : RecO lo hi w v r) (he : e.ok) (h1 : RowR 4 rRu w v1 t) (hn : t.length ≤ 1048576) (d : Int) (b : Bool) (hres : aftRes r t e = (d, b)) :
    Calls Try.prog 28 #[v, v1, .agg #[.int .i64 e.kind, .int .i64 e.day]] w fun e w' => e = .returned (.tuple #[.int .i64 d, .bool b]) ∧ Below w.heap.size w w' := by
  obtain ⟨s, rfl, hs, hok⟩ := h
  have H1 := Lib.hid h1
  have b0 := below_al (below_al (Below.refl w.heap.size w) (RBOX r s 26)) (.cells #[.int .i64 e.kind, .int .i64 e.day] 43 (0, 0))
  have HR0 : Hid (RecO lo hi ((w.alloc (RBOX r s 26)).alloc (.cells #[.int .i64 e.kind, .int .i64 e.day] 43 (0, 0))) (.agg #[.int .i64 r.id, .int .i64 r.series, .int .i64 r.made, s]) r) := Lib.hid (RecO.below ⟨s, rfl, hs, hok⟩ b0)
  obtain ⟨q, k, hq⟩ : ∃ q k, addRes r e = (q, k) := ⟨_, _, rfl⟩
  have HQ := Lib.hid hq
  have HRES := Lib.hid hres
  clear hs hok h1 hres hq
  cases k
  · have hd : d = 0 ∧ b = false := by
      have h2 := HRES.out
      have h3 := HQ.out
      unfold addRes at h3
      split at h3
      · cases h3
      · rename_i hc
        unfold aftRes at h2
        rw [if_neg hc] at h2
        cases h2
        exact ⟨rfl, rfl⟩
    obtain ⟨rfl, rfl⟩ := hd
    go_enter Try.func28, Try.ntmps28
    go_wp2_with (first | (go_at_call 70; refine (implAddEvent_any _ r e _ lo hi HR0.out he q false HQ.out).mono ?_; rintro en w1 ⟨v', rfl, ho, b1⟩; replace b1 := below_chain b0 b1; obtain ⟨sx, rfl, hox, _⟩ := ho; obtain ⟨sa, sn, sc, rfl⟩ := hox.1.slice; clear hox))
    go_ret2
    exact ⟨rfl, below_al b1 _⟩
  · have hdd : dueRes q t = (d, b) := by
      have h2 := HRES.out
      have h3 := HQ.out
      unfold addRes at h3
      split at h3
      · rename_i hc
        unfold aftRes at h2
        rw [if_pos hc] at h2
        cases h3
        exact h2
      · cases h3
    have HDD := Lib.hid hdd
    clear hdd
    go_enter Try.func28, Try.ntmps28
    go_wp2_with (first | (go_at_call 70; refine (implAddEvent_any _ r e _ lo hi HR0.out he q true HQ.out).mono ?_; rintro en w1 ⟨v', rfl, ho, b1⟩; replace b1 := below_chain b0 b1; obtain ⟨sx, rfl, hox, hokx⟩ := ho; obtain ⟨sa, sn, sc, rfl⟩ := hox.1.slice; have HOX := Lib.hid hox; have HOK := Lib.hid hokx; clear hox hokx) | (go_at_call 19; refine (implDueDay_any _ _ q t _ (RecO.toV (RecO.below ⟨_, rfl, HOX.out, HOK.out⟩ (below_al (Below.refl _ _) _))) (H1.out.below rRu_stable (below_al b1 _)) hn d b HDD.out).mono ?_; rintro e w2 ⟨rfl, b2⟩; replace b2 := below_chain (below_al b1 _) b2))
    go_ret2
    exact ⟨rfl, b2⟩

theorem perEnds_map (r : Rec) (t : List Ru) : perEnds r t = (perRules r t).map (endR r) := by
  unfold perEnds perRules
  split
  · rfl
  · rfl
theorem per_sign {r : Rec} {t : List Ru} : ∀ u ∈ perRules r t, (endR r u = -1 ↔ endR r u < 0) := by
  intro u hu
  rcases ha : askB r t with _ | _
  · unfold perRules at hu; rw [if_neg (by rw [ha]; simp)] at hu; cases hu
  · have hq := ask_iff.1 ha
    unfold perRules at hu
    rw [if_pos ha] at hu
    exact endR_eq hq.1 (forRu_ok hq.2 _ u hu)
set_option maxRecDepth 20000 in
set_option maxHeartbeats 4000000 in
theorem implWaitsFor_any (v v1 : Value) (r : Rec) (t : List Ru) (w : World) (h : RecV w v r) (h1 : RowR 4 rRu w v1 t) (hn : t.length ≤ 1048576) (xs : List Int) (b : Bool) (hres : waitRes r t = (xs, b)) :
    Calls Try.prog 21 #[v, v1] w fun e w' => ∃ v', e = .returned (.tuple #[v', .bool b]) ∧ IntsO w.heap.size w'.heap.size w' v' xs ∧ Below w.heap.size w w' := by
  obtain ⟨i0, hi, hz0, hz1, hz2⟩ := info_parts Try.info_intI
  obtain ⟨s, rfl, h0, hok⟩ := h
  have HV := Lib.hid (show ∀ W, Below w.heap.size w W → RecV W (.agg #[.int .i64 r.id, .int .i64 r.series, .int .i64 r.made, s]) r from fun W hb => ⟨s, rfl, h0.below rEv_stable hb, hok⟩)
  have H1 := Lib.hid h1
  have b0 := below_al (Below.refl w.heap.size w) (RBOX r s 26)
  have hxs : xs = waitU r (perRules r t) ∧ askB r t = b := by
    rcases ha : askB r t with _ | _
    · obtain ⟨rfl, rfl⟩ := waitRes_no hres ha
      exact ⟨by unfold perRules; rw [if_neg (by rw [ha]; simp)]; rfl, rfl⟩
    · obtain ⟨rfl, rfl⟩ := waitRes_yes hres ha
      exact ⟨by unfold perRules; rw [if_pos ha]; rfl, rfl⟩
  have hpe := per_le r t
  have hpl := per_len r t
  have hmap := perEnds_map r t
  have hsg := per_sign (r := r) (t := t)
  obtain ⟨R, hR⟩ : ∃ R, perRules r t = R := ⟨_, rfl⟩
  obtain ⟨E, hE⟩ : ∃ E, perEnds r t = E := ⟨_, rfl⟩
  rw [hR] at hpe hpl hmap hsg hxs
  rw [hE] at hpl hmap
  have HXS := Lib.hid hxs
  have HR := Lib.hid hR
  have HE := Lib.hid hE
  have HPL := Lib.hid hpl
  have HEM := Lib.hid hmap
  have HSG := Lib.hid hsg
  clear h0 hok h1 hres hxs hR hE hpl hmap hsg
  go_enter Try.func21, Try.ntmps21
  go_wp2_with (first | (go_at_call 61; refine (periodsOf_any _ _ r t _ (HV.out _ b0) (H1.out.below rRu_stable b0) hn).mono ?_; rintro e w1 ⟨u1, u2, rfl, ho1, ho2, b1⟩; rw [HXS.out.2]; rw [HR.out] at ho1; rw [HE.out] at ho2; replace b1 := below_chain b0 b1; obtain ⟨a1, c1, hv, hl1, hm1, r1⟩ := ho1.row.rus; subst hv; unfold maxLen at hm1; obtain ⟨a2, c2, hv2, hl2, hm2, r2⟩ := ho2.row; subst hv2; rw [HPL.out] at hl2; unfold maxLen at hm2; have R1 := Lib.hid r1; have R2 := Lib.hid r2; clear r1 r2 ho1 ho2))
  have s1 := b1.size
  go_loopw [9, 21] (fun o i wr => ∃ k : Nat, k ≤ R.length ∧ i = .int .i64 k ∧ wr.ownsRow w1.heap.size 3 1 o (waitU r (R.take k)).length ((waitU r (R.take k)).map vI) ∧ Below w1.heap.size w1 wr) (fun _ i _ => R.length - (intOf i).toNat)
  case atStart => exact ⟨0, Nat.zero_le _, rfl, by simpa [waitU] using World.ownsRow_nil _ _ _ _, Below.refl _ _⟩
  case round =>
    obtain ⟨k, hk, rfl, hO, hb⟩ := hrel
    have hsz := hb.size
    by_cases hlt : k < R.length
    · have hlE : k < E.length := by have := HPL.out; omega
      obtain ⟨bb, o1, hb1, rfl, e1⟩ := R1.out.resolve_left (fun e => by rw [e] at hlt; simp at hlt)
      obtain ⟨q0, q1, q2, q3, hok⟩ := e1 k hlt
      obtain ⟨⟨x0, x1, x2, x3⟩, hx⟩ : ∃ s, R.getD k ruD = s := ⟨_, rfl⟩
      rw [hx] at q0 q1 q2 q3
      simp only at q0 q1 q2 q3
      obtain ⟨bE, oE, hbE, rfl, eE⟩ := R2.out.resolve_left (fun e => by rw [e] at hlE; simp at hlE)
      have p0 := eE k hlE
      obtain ⟨e, he⟩ : ∃ x, E[k] = x := ⟨_, rfl⟩
      rw [he] at p0
      simp only [vI] at p0
      have hee : e = endR r ⟨x0, x1, x2, x3⟩ := by
        have e1 : E[k]? = some e := by rw [List.getElem?_eq_getElem hlE, he]
        rw [HEM.out, List.getElem?_map, List.getElem?_eq_getElem hlt, ← getRu_lt hlt, hx] at e1
        simpa using e1.symm
      have hsg : (e = -1 ↔ e < 0) := by
        rw [hee, ← hx, getRu_lt hlt]
        exact HSG.out _ (List.getElem_mem hlt)
      have hsucc := wait_take (r := r) hlt
      rw [hx, ← hee] at hsucc
      obtain ⟨Pp, hP⟩ : ∃ P, waitU r (R.take k) = P := ⟨_, rfl⟩
      have hPl : Pp.length ≤ k := by
        rw [← hP]
        have := waitU_len r (R.take k)
        rw [List.length_take] at this
        omega
      rw [hP] at hO hsucc
      have f0 := cell_kept q0 hb
      have f1 := cell_kept q1 hb
      have f2 := cell_kept q2 hb
      have f3 := cell_kept q3 hb
      have e0 := cell_kept p0 hb
      have e0' : ∀ o, (wr.alloc o).cell? ⟨bE, oE + k, none⟩ = some (.int .i64 e) := fun o => below_al_cell e0 o
      have HSU := Lib.hid hsucc
      have g0 : (0 : Int) ≤ (k : Int) := by omega
      have g1 : (k : Int) < (R.length : Int) := by omega
      have g2 : (k : Int) < (E.length : Int) := by omega
      clear q0 q1 q2 q3 p0 hok e1 hx hsucc hP eE he hee
      by_cases hq : e = -1
      · have hq1 : (e == -1) = true := by simp [hq]
        have HSU2 := Lib.hid (HSU.out.trans (if_pos (hsg.1 hq)))
        clear hsg hq
        go_wp2_with (first | (at_builtin; refine wpList_append_own _ rfl _ _ 30 rfl w1.heap.size 3 i0 (.int .i64 0) 1 8 Try.underlying30 hi hz0 hz1 hz2 rfl (by decide) _ _ _ rfl ((hO.alloc _).alloc _) ⟨wr.heap.size + 1, 0, none⟩ 1 1 [.int .i64 x1] rfl rfl (cell_oneI _ _ _ (by simp)) (by simp [Value.oneCell']) (by unfold maxLen; omega) (by omega) (by simp; omega) ?_; intro v' w4 hown' hgrow _))
        have HOWN := Lib.hid hown'
        have HB := Lib.hid (below_app (below_al hb _) (Nat.le_refl _) (hO.alloc _) hgrow)
        clear hown' hgrow hO
        go_wp2_with fail
        go_roundw
        case rel => exact ⟨k + 1, by omega, by go_num, (by rw [HSU2.out]; simpa [vI] using HOWN.out), HB.out⟩
        case measure => simp [intOf]; omega
      · have hq1 : (e == -1) = false := by simp [hq]
        have HSU2 := Lib.hid (HSU.out.trans (if_neg (fun h => hq (hsg.2 h))))
        have HO := Lib.hid hO
        clear hsg hq hO
        go_wp2_with fail
        go_roundw
        case rel => exact ⟨k + 1, by omega, by go_num, (by rw [HSU2.out]; exact HO.out.alloc _), below_al hb _⟩
        case measure => simp [intOf]; omega
    · obtain rfl : k = R.length := by omega
      rw [List.take_length] at hO
      have HO := Lib.hid hO
      clear hO
      go_wp2_with fail
      go_ret2
      exact ⟨_, rfl, by rw [HXS.out.1]; exact (ints_ofRow HO.out rfl).wide s1 (Nat.le_refl _), b1.trans (hb.mono s1)⟩

/-- A record of a list, as it is read. -/
theorem hit_set {r : Rec} {t : List Ru} {d a : Int} {q : Ru} {n : Int} {b : Bool} (ha : askB r t = true) (h : setF r t = (q, n, b)) : hitB t d a r = (b && (decide (n ≤ d) && decide (q.act = a))) := by
  unfold hitB
  rcases Int.lt_or_le (dueF r t) 0 with h1 | h1
  · rw [setF_no (.inr h1)] at h
    cases h
    simp; omega
  · rw [setF_yes ha h1] at h
    cases h
    rw [Bool.eq_iff_iff]
    simp [h1]
    constructor
    · rintro ⟨x, y⟩; exact ⟨y, x⟩
    · rintro ⟨x, y⟩; exact ⟨y, x⟩
set_option maxRecDepth 20000 in
set_option maxHeartbeats 4000000 in
theorem implDueRecords_any (v v1 : Value) (rs : List Rec) (t : List Ru) (dy ac : Int) (w : World) (h : RowR 4 rRec w v rs) (h1 : RowR 4 rRu w v1 t) (hn : t.length ≤ 1048576) (xs : List Int) (b : Bool) (hres : drecRes rs t dy ac = (xs, b)) :
    Calls Try.prog 34 #[v, v1, .int .i64 dy, .int .i64 ac] w fun e w' => ∃ v', e = .returned (.tuple #[v', .bool b]) ∧ IntsO w.heap.size w'.heap.size w' v' xs ∧ Below w.heap.size w w' := by
  obtain ⟨i0, hi, hz0, hz1, hz2⟩ := info_parts Try.info_intI
  have H := Lib.hid h
  have H1 := Lib.hid h1
  obtain ⟨a1, c1, rfl, hl1, hm1, r1⟩ := h.recs
  have R1 := Lib.hid r1
  unfold maxLen at hm1
  obtain ⟨br, hr⟩ : ∃ b, areRecs rs = b := ⟨_, rfl⟩
  obtain ⟨bs, hs⟩ : ∃ b, isSch t = b := ⟨_, rfl⟩
  obtain ⟨bd, hd⟩ : ∃ b, decide (0 ≤ dy ∧ dy ≤ 20000) = b := ⟨_, rfl⟩
  obtain ⟨ba, ha⟩ : ∃ b, decide (1 ≤ ac ∧ ac ≤ 3) = b := ⟨_, rfl⟩
  have HR := Lib.hid hr
  have HS := Lib.hid hs
  have HD := Lib.hid hd
  have HA := Lib.hid ha
  have NO := Lib.hid (fun hn => drecRes_no hres hn)
  have YES := Lib.hid (fun hn => drecRes_yes hres hn)
  clear h h1 r1 hr hs hd ha hres
  cases br
  · obtain ⟨rfl, rfl⟩ := NO.out (fun h => by rw [HR.out] at h; exact absurd h.1 (by simp))
    go_enter Try.func34, Try.ntmps34
    go_wp2_with (first | (go_at_call 83; refine (implAreRecords_any _ rs _ H.out).mono ?_; rw [HR.out]; rintro e w1 ⟨rfl, b1⟩) | (go_at_call 77; refine (implIsSchedule_any _ t _ (H1.out.below rRu_stable b1)).mono ?_; rw [HS.out]; rintro e w2 ⟨rfl, b2⟩; replace b2 := below_chain b1 b2) | (go_at_call 78; refine (isDay_any _ _).mono ?_; rw [HD.out]; rintro e w3 ⟨rfl, h3⟩; subst w3) | (go_at_call 84; refine (implIsAct_any _ _).mono ?_; rw [HA.out]; rintro e w3 ⟨rfl, h3⟩; subst w3))
    go_ret2
    exact ⟨_, rfl, ints_nil _ _ _, b1⟩
  · cases bs
    · obtain ⟨rfl, rfl⟩ := NO.out (fun h => by rw [HS.out] at h; exact absurd h.2.1 (by simp))
      go_enter Try.func34, Try.ntmps34
      go_wp2_with (first | (go_at_call 83; refine (implAreRecords_any _ rs _ H.out).mono ?_; rw [HR.out]; rintro e w1 ⟨rfl, b1⟩) | (go_at_call 77; refine (implIsSchedule_any _ t _ (H1.out.below rRu_stable b1)).mono ?_; rw [HS.out]; rintro e w2 ⟨rfl, b2⟩; replace b2 := below_chain b1 b2) | (go_at_call 78; refine (isDay_any _ _).mono ?_; rw [HD.out]; rintro e w3 ⟨rfl, h3⟩; subst w3) | (go_at_call 84; refine (implIsAct_any _ _).mono ?_; rw [HA.out]; rintro e w3 ⟨rfl, h3⟩; subst w3))
      go_ret2
      exact ⟨_, rfl, ints_nil _ _ _, b2⟩
    · cases bd
      · obtain ⟨rfl, rfl⟩ := NO.out (fun h => of_decide_eq_false HD.out h.2.2.1)
        go_enter Try.func34, Try.ntmps34
        go_wp2_with (first | (go_at_call 83; refine (implAreRecords_any _ rs _ H.out).mono ?_; rw [HR.out]; rintro e w1 ⟨rfl, b1⟩) | (go_at_call 77; refine (implIsSchedule_any _ t _ (H1.out.below rRu_stable b1)).mono ?_; rw [HS.out]; rintro e w2 ⟨rfl, b2⟩; replace b2 := below_chain b1 b2) | (go_at_call 78; refine (isDay_any _ _).mono ?_; rw [HD.out]; rintro e w3 ⟨rfl, h3⟩; subst w3) | (go_at_call 84; refine (implIsAct_any _ _).mono ?_; rw [HA.out]; rintro e w3 ⟨rfl, h3⟩; subst w3))
        go_ret2
        exact ⟨_, rfl, ints_nil _ _ _, b2⟩
      · cases ba
        · obtain ⟨rfl, rfl⟩ := NO.out (fun h => of_decide_eq_false HA.out h.2.2.2)
          go_enter Try.func34, Try.ntmps34
          go_wp2_with (first | (go_at_call 83; refine (implAreRecords_any _ rs _ H.out).mono ?_; rw [HR.out]; rintro e w1 ⟨rfl, b1⟩) | (go_at_call 77; refine (implIsSchedule_any _ t _ (H1.out.below rRu_stable b1)).mono ?_; rw [HS.out]; rintro e w2 ⟨rfl, b2⟩; replace b2 := below_chain b1 b2) | (go_at_call 78; refine (isDay_any _ _).mono ?_; rw [HD.out]; rintro e w3 ⟨rfl, h3⟩; subst w3) | (go_at_call 84; refine (implIsAct_any _ _).mono ?_; rw [HA.out]; rintro e w3 ⟨rfl, h3⟩; subst w3))
          go_ret2
          exact ⟨_, rfl, ints_nil _ _ _, b2⟩
        · obtain ⟨rfl, rfl⟩ := YES.out ⟨HR.out, HS.out, of_decide_eq_true HD.out, of_decide_eq_true HA.out⟩
          have hten := recs_ten HR.out
          clear NO YES
          go_enter Try.func34, Try.ntmps34
          go_wp2_with (first | (go_at_call 83; refine (implAreRecords_any _ rs _ H.out).mono ?_; rw [HR.out]; rintro e w1 ⟨rfl, b1⟩) | (go_at_call 77; refine (implIsSchedule_any _ t _ (H1.out.below rRu_stable b1)).mono ?_; rw [HS.out]; rintro e w2 ⟨rfl, b2⟩; replace b2 := below_chain b1 b2) | (go_at_call 78; refine (isDay_any _ _).mono ?_; rw [HD.out]; rintro e w3 ⟨rfl, h3⟩; subst w3) | (go_at_call 84; refine (implIsAct_any _ _).mono ?_; rw [HA.out]; rintro e w3 ⟨rfl, h3⟩; subst w3))
          have s2 := b2.size
          go_loopw [10, 36] (fun o i wr => ∃ k : Nat, k ≤ rs.length ∧ i = .int .i64 k ∧ wr.ownsRow w2.heap.size 3 1 o (hitF t dy ac (rs.take k)).length ((hitF t dy ac (rs.take k)).map vI) ∧ Below w2.heap.size w2 wr) (fun _ i _ => rs.length - (intOf i).toNat)
          case atStart => exact ⟨0, Nat.zero_le _, rfl, by simpa [hitF] using World.ownsRow_nil _ _ _ _, Below.refl _ _⟩
          case round =>
            obtain ⟨k, hk, rfl, hO, hb⟩ := hrel
            have hbw := b2.trans (hb.mono s2)
            by_cases hlt : k < rs.length
            · obtain ⟨bR, oR, hbR, rfl, e1⟩ := R1.out.resolve_left (fun e => by rw [e] at hlt; simp at hlt)
              obtain ⟨sv, q0, q1, q2, q3, hrow, hok⟩ := e1 k hlt
              obtain ⟨r, hx⟩ : ∃ s, rs.getD k recD = s := ⟨_, rfl⟩
              have hri : isRec r = true := by rw [← hx]; exact recs_at HR.out hlt
              rw [hx] at q0 q1 q2 hrow hok
              have hr0 := hrow
              obtain ⟨sa, sc, rfl, _⟩ := hr0
              have f0 := cell_kept q0 hbw
              have f1 := cell_kept q1 hbw
              have f2 := cell_kept q2 hbw
              have f3 := cell_kept q3 hbw
              have HV := Lib.hid (show ∀ W, Below w.heap.size w W → RecV W (.agg #[.int .i64 r.id, .int .i64 r.series, .int .i64 r.made, .slice sa r.evs.length sc]) r from fun W hb => ⟨_, rfl, hrow.below rEv_stable hb, hok⟩)
              obtain ⟨⟨y0, y1, y2, y3⟩, n, bq, hset⟩ : ∃ q n b, setF r t = (q, n, b) := ⟨_, _, _, rfl⟩
              have hsucc := hit_succ (t := t) (d := dy) (a := ac) hlt
              have hlen := hit_len t dy ac (rs.take k)
              rw [hx, hit_set (ask_iff.2 ⟨hri, HS.out⟩) hset] at hsucc
              simp only at hsucc
              rw [List.length_take] at hlen
              obtain ⟨Pp, hP⟩ : ∃ P, hitF t dy ac (rs.take k) = P := ⟨_, rfl⟩
              rw [hP] at hO hlen hsucc
              have HSU := Lib.hid hsucc
              have HSET := Lib.hid hset
              have g0 : (0 : Int) ≤ (k : Int) := by omega
              have g1 : (k : Int) < (rs.length : Int) := by omega
              have hsz := hb.size
              have HO := Lib.hid (hO.alloc (RBOX r (.slice sa r.evs.length sc) 26))
              have bx := below_al hb (RBOX r (.slice sa r.evs.length sc) 26)
              have bxw := below_al hbw (RBOX r (.slice sa r.evs.length sc) 26)
              have HC := Lib.hid (Box4.new wr r (.slice sa r.evs.length sc) 26)
              clear q0 q1 q2 q3 hrow hx e1 hsucc hP hok hset hri hO
              have hxn : wr.heap.size < (wr.alloc (RBOX r (.slice sa r.evs.length sc) 26)).heap.size := by simp
              cases bq
              · have HSU2 := Lib.hid (HSU.out.trans (if_neg (by simp)))
                go_wp2_with (first | (go_at_call 65; refine (settle_any _ _ r t _ (HV.out _ bxw) (H1.out.below rRu_stable bxw) hn _ _ _ HSET.out).mono ?_; rintro e w6 ⟨rfl, b6⟩; have HO6 := Lib.hid (ownsRow_below HO.out b6); obtain ⟨c0, c1, c2, c3⟩ := HC.out.kept b6; have c0' : ∀ o, (w6.alloc o).cell? ⟨wr.heap.size, 0, none⟩ = some (.int .i64 r.id) := (fun o => below_al_cell c0 o); replace b6 := below_chain bx b6; have hs6 := b6.size; clear HO HC; simp only))
                go_roundw
                case rel => exact ⟨k + 1, by omega, by go_num, (by rw [HSU2.out]; exact HO6.out.alloc _), below_al b6 _⟩
                case measure => simp [intOf]; omega
              · by_cases hl : n ≤ dy
                · have hld : decide (n ≤ dy) = true := decide_eq_true hl
                  by_cases hac : y3 = ac
                  · have hacd : (y3 == ac) = true := by simp [hac]
                    have HSU2 := Lib.hid (HSU.out.trans (if_pos (by simp [hl, hac])))
                    clear hac
                    go_wp2_with (first | (go_at_call 65; refine (settle_any _ _ r t _ (HV.out _ bxw) (H1.out.below rRu_stable bxw) hn _ _ _ HSET.out).mono ?_; rintro e w6 ⟨rfl, b6⟩; have HO6 := Lib.hid (ownsRow_below HO.out b6); obtain ⟨c0, c1, c2, c3⟩ := HC.out.kept b6; have c0' : ∀ o, (w6.alloc o).cell? ⟨wr.heap.size, 0, none⟩ = some (.int .i64 r.id) := (fun o => below_al_cell c0 o); replace b6 := below_chain bx b6; have hs6 := b6.size; clear HO HC; simp only) | (at_builtin; refine wpList_append_own _ rfl _ _ 30 rfl w2.heap.size 3 i0 (.int .i64 0) 1 8 Try.underlying30 hi hz0 hz1 hz2 rfl (by decide) _ _ _ rfl ((HO6.out.alloc _).alloc _) ⟨w6.heap.size + 1, 0, none⟩ 1 1 [.int .i64 r.id] rfl rfl (cell_oneI _ _ _ (by simp)) (by simp [Value.oneCell']) (by unfold maxLen; omega) (by omega) (by simp; omega) ?_; intro v' w7 hown' hgrow _))
                    have HOWN := Lib.hid hown'
                    have HB := Lib.hid (below_app (below_al b6 _) (Nat.le_refl _) (HO6.out.alloc _) hgrow)
                    clear hown' hgrow
                    go_wp2_with fail
                    go_roundw
                    case rel => exact ⟨k + 1, by omega, by go_num, (by rw [HSU2.out]; simpa [vI] using HOWN.out), HB.out⟩
                    case measure => simp [intOf]; omega
                  · have hacd : (y3 == ac) = false := by simp [hac]
                    have HSU2 := Lib.hid (HSU.out.trans (if_neg (by simp [hac])))
                    clear hac
                    go_wp2_with (first | (go_at_call 65; refine (settle_any _ _ r t _ (HV.out _ bxw) (H1.out.below rRu_stable bxw) hn _ _ _ HSET.out).mono ?_; rintro e w6 ⟨rfl, b6⟩; have HO6 := Lib.hid (ownsRow_below HO.out b6); obtain ⟨c0, c1, c2, c3⟩ := HC.out.kept b6; have c0' : ∀ o, (w6.alloc o).cell? ⟨wr.heap.size, 0, none⟩ = some (.int .i64 r.id) := (fun o => below_al_cell c0 o); replace b6 := below_chain bx b6; have hs6 := b6.size; clear HO HC; simp only))
                    go_roundw
                    case rel => exact ⟨k + 1, by omega, by go_num, (by rw [HSU2.out]; exact HO6.out.alloc _), below_al b6 _⟩
                    case measure => simp [intOf]; omega
                · have hld : decide (n ≤ dy) = false := decide_eq_false hl
                  have HSU2 := Lib.hid (HSU.out.trans (if_neg (by simp [hl])))
                  go_wp2_with (first | (go_at_call 65; refine (settle_any _ _ r t _ (HV.out _ bxw) (H1.out.below rRu_stable bxw) hn _ _ _ HSET.out).mono ?_; rintro e w6 ⟨rfl, b6⟩; have HO6 := Lib.hid (ownsRow_below HO.out b6); obtain ⟨c0, c1, c2, c3⟩ := HC.out.kept b6; have c0' : ∀ o, (w6.alloc o).cell? ⟨wr.heap.size, 0, none⟩ = some (.int .i64 r.id) := (fun o => below_al_cell c0 o); replace b6 := below_chain bx b6; have hs6 := b6.size; clear HO HC; simp only))
                  go_roundw
                  case rel => exact ⟨k + 1, by omega, by go_num, (by rw [HSU2.out]; exact HO6.out.alloc _), below_al b6 _⟩
                  case measure => simp [intOf]; omega
            · obtain rfl : k = rs.length := by omega
              rw [List.take_length] at hO
              have HO := Lib.hid hO
              clear hO
              go_wp2_with fail
              go_ret2
              exact ⟨_, rfl, (ints_ofRow HO.out rfl).wide s2 (Nat.le_refl _), hbw⟩

theorem none_iff {t : List Ru} {r : Rec} : noneB t r = decide (¬ r.series ∈ serF t) := by
  unfold noneB
  apply decide_eq_decide.2
  rw [serF_iff, List.length_eq_zero_iff]
  unfold forRu
  rw [List.filter_eq_nil_iff]
  constructor
  · rintro h ⟨u, hu, e⟩; exact h u hu (by simp [e])
  · intro h u hu e; exact h ⟨u, hu, by simpa using e⟩
set_option maxRecDepth 20000 in
set_option maxHeartbeats 4000000 in
theorem implNotScheduled_any (v v1 : Value) (rs : List Rec) (t : List Ru) (w : World) (h : RowR 4 rRec w v rs) (h1 : RowR 4 rRu w v1 t) (hn : t.length ≤ 1048576) (xs : List Int) (b : Bool) (hres : notsRes rs t = (xs, b)) :
    Calls Try.prog 40 #[v, v1] w fun e w' => ∃ v', e = .returned (.tuple #[v', .bool b]) ∧ IntsO w.heap.size w'.heap.size w' v' xs ∧ Below w.heap.size w w' := by
  obtain ⟨i0, hi, hz0, hz1, hz2⟩ := info_parts Try.info_intI
  have H := Lib.hid h
  have H1 := Lib.hid h1
  obtain ⟨a1, c1, rfl, hl1, hm1, r1⟩ := h.recs
  have R1 := Lib.hid r1
  unfold maxLen at hm1
  obtain ⟨br, hr⟩ : ∃ b, areRecs rs = b := ⟨_, rfl⟩
  obtain ⟨ys, bs, hss⟩ : ∃ ys b, sinRes t = (ys, b) := ⟨_, _, rfl⟩
  have HR := Lib.hid hr
  have HSS := Lib.hid hss
  have NO := Lib.hid (fun hn => notsRes_no hres hn)
  have YES := Lib.hid (fun hn => notsRes_yes hres hn)
  clear h h1 r1 hr hss hres
  cases bs
  · have hs : isSch t = false := by
      rcases hq : isSch t with _ | _
      · rfl
      · have := (sinRes_yes HSS.out hq).2; cases this
    obtain ⟨rfl, rfl⟩ := NO.out (fun h => by rw [hs] at h; exact absurd h.2 (by simp))
    go_enter Try.func40, Try.ntmps40
    go_wp2_with (first | (go_at_call 87; refine (implSeriesIn_any _ t _ H1.out hn ys false HSS.out).mono ?_; rintro e w1 ⟨u1, rfl, ho1, b1⟩; clear ho1))
    go_ret2
    exact ⟨_, rfl, ints_nil _ _ _, b1⟩
  · have hs : isSch t = true := by
      rcases hq : isSch t with _ | _
      · have := (sinRes_no HSS.out hq).2; cases this
      · rfl
    have hys := (sinRes_yes HSS.out hs).1
    have HYS := Lib.hid hys
    have HS := Lib.hid hs
    clear hs hys
    cases br
    · obtain ⟨rfl, rfl⟩ := NO.out (fun h => by rw [HR.out] at h; exact absurd h.1 (by simp))
      go_enter Try.func40, Try.ntmps40
      go_wp2_with (first | (go_at_call 87; refine (implSeriesIn_any _ t _ H1.out hn ys true HSS.out).mono ?_; rintro e w1 ⟨u1, rfl, ho1, b1⟩; obtain ⟨a2, c2, hv2, hl2, hm2, r2⟩ := ho1.row; subst hv2; clear ho1 r2) | (go_at_call 83; refine (implAreRecords_any _ rs _ (H.out.below rRec_stable b1)).mono ?_; rw [HR.out]; rintro e w2 ⟨rfl, b2⟩; replace b2 := below_chain b1 b2))
      go_ret2
      exact ⟨_, rfl, ints_nil _ _ _, b2⟩
    · obtain ⟨rfl, rfl⟩ := YES.out ⟨HR.out, HS.out⟩
      have hten := recs_ten HR.out
      clear NO YES
      go_enter Try.func40, Try.ntmps40
      go_wp2_with (first | (go_at_call 87; refine (implSeriesIn_any _ t _ H1.out hn ys true HSS.out).mono ?_; rintro e w1 ⟨u1, rfl, ho1, b1⟩; obtain ⟨a2, c2, hv2, hl2, hm2, r2⟩ := ho1.row; subst hv2; have HO1 := Lib.hid ho1; clear ho1 r2) | (go_at_call 83; refine (implAreRecords_any _ rs _ (H.out.below rRec_stable b1)).mono ?_; rw [HR.out]; rintro e w2 ⟨rfl, b2⟩; have HO2 := Lib.hid (HO1.out.below b2); replace b2 := below_chain b1 b2; clear HO1))
      have s2 := b2.size
      go_loopw [8, 25] (fun o i wr => ∃ k : Nat, k ≤ rs.length ∧ i = .int .i64 k ∧ wr.ownsRow w2.heap.size 3 1 o (noneF t (rs.take k)).length ((noneF t (rs.take k)).map vI) ∧ Below w2.heap.size w2 wr) (fun _ i _ => rs.length - (intOf i).toNat)
      case atStart => exact ⟨0, Nat.zero_le _, rfl, by simpa [noneF] using World.ownsRow_nil _ _ _ _, Below.refl _ _⟩
      case round =>
        obtain ⟨k, hk, rfl, hO, hb⟩ := hrel
        have hbw := b2.trans (hb.mono s2)
        by_cases hlt : k < rs.length
        · obtain ⟨bR, oR, hbR, rfl, e1⟩ := R1.out.resolve_left (fun e => by rw [e] at hlt; simp at hlt)
          obtain ⟨sv, q0, q1, q2, q3, hrow, hok⟩ := e1 k hlt
          obtain ⟨r, hx⟩ : ∃ s, rs.getD k recD = s := ⟨_, rfl⟩
          rw [hx] at q0 q1 q2 hrow hok
          have hr0 := hrow
          obtain ⟨sa, sc, rfl, _⟩ := hr0
          have f0 := cell_kept q0 hbw
          have f1 := cell_kept q1 hbw
          have f2 := cell_kept q2 hbw
          have f3 := cell_kept q3 hbw
          have hsucc := none_succ (t := t) hlt
          have hlen := none_len t (rs.take k)
          rw [hx, none_iff] at hsucc
          rw [List.length_take] at hlen
          obtain ⟨Pp, hP⟩ : ∃ P, noneF t (rs.take k) = P := ⟨_, rfl⟩
          rw [hP] at hO hlen hsucc
          have HSU := Lib.hid hsucc
          have g0 : (0 : Int) ≤ (k : Int) := by omega
          have g1 : (k : Int) < (rs.length : Int) := by omega
          have hsz := hb.size
          obtain ⟨bm, hm⟩ : ∃ b, decide (r.series ∈ ys) = b := ⟨_, rfl⟩
          have hmm : decide (r.series ∈ serF t) = bm := by rw [← HYS.out]; exact hm
          have HM := Lib.hid hm
          have HMM := Lib.hid hmm
          have HO := Lib.hid (hO.alloc (RBOX r (.slice sa r.evs.length sc) 26))
          have bx := below_al hb (RBOX r (.slice sa r.evs.length sc) 26)
          have HC := Lib.hid (Box4.new wr r (.slice sa r.evs.length sc) 26)
          have HY := Lib.hid (HO2.out.below bx)
          clear q0 q1 q2 q3 hrow hx e1 hsucc hP hok hO hm hmm
          cases bm
          · have HSU2 := Lib.hid (HSU.out.trans (if_pos (decide_eq_true (of_decide_eq_false HMM.out))))
            go_wp2_with (first | (go_at_call 88; refine (contains_any _ ys _ _ HY.out.row).mono ?_; rw [HM.out]; rintro e w6 ⟨rfl, b6⟩; have HO6 := Lib.hid (ownsRow_below HO.out b6); obtain ⟨c0, c1, c2, c3⟩ := HC.out.kept b6; replace b6 := below_chain bx b6; have hs6 := b6.size; clear HO HC HY) | (at_builtin; refine wpList_append_own _ rfl _ _ 30 rfl w2.heap.size 3 i0 (.int .i64 0) 1 8 Try.underlying30 hi hz0 hz1 hz2 rfl (by decide) _ _ _ rfl (HO6.out.alloc _) ⟨w6.heap.size, 0, none⟩ 1 1 [.int .i64 r.id] rfl rfl (cell_oneI _ _ _ (by simp)) (by simp [Value.oneCell']) (by unfold maxLen; omega) (by omega) (by simp; omega) ?_; intro v' w7 hown' hgrow _))
            have HOWN := Lib.hid hown'
            have HB := Lib.hid (below_app b6 (Nat.le_refl _) HO6.out hgrow)
            clear hown' hgrow
            go_wp2_with fail
            go_roundw
            case rel => exact ⟨k + 1, by omega, by go_num, (by rw [HSU2.out]; simpa [vI] using HOWN.out), HB.out⟩
            case measure => simp [intOf]; omega
          · have HSU2 := Lib.hid (HSU.out.trans (if_neg (by rw [decide_eq_true_eq]; exact fun h => h (of_decide_eq_true HMM.out))))
            go_wp2_with (first | (go_at_call 88; refine (contains_any _ ys _ _ HY.out.row).mono ?_; rw [HM.out]; rintro e w6 ⟨rfl, b6⟩; have HO6 := Lib.hid (ownsRow_below HO.out b6); obtain ⟨c0, c1, c2, c3⟩ := HC.out.kept b6; replace b6 := below_chain bx b6; have hs6 := b6.size; clear HO HC HY))
            go_roundw
            case rel => exact ⟨k + 1, by omega, by go_num, (by rw [HSU2.out]; exact HO6.out), b6⟩
            case measure => simp [intOf]; omega
        · obtain rfl : k = rs.length := by omega
          rw [List.take_length] at hO
          have HO := Lib.hid hO
          clear hO
          go_wp2_with fail
          go_ret2
          exact ⟨_, rfl, (ints_ofRow HO.out rfl).wide s2 (Nat.le_refl _), hbw⟩

set_option maxRecDepth 20000 in
set_option maxHeartbeats 4000000 in
theorem implNextDue_any (v v1 : Value) (rs : List Rec) (t : List Ru) (dy : Int) (w : World) (h : RowR 4 rRec w v rs) (h1 : RowR 4 rRu w v1 t) (hn : t.length ≤ 1048576) (x y : Int) (b : Bool) (hres : nextRes rs t dy = (x, y, b)) :
    Calls Try.prog 37 #[v, v1, .int .i64 dy] w fun e w' => e = .returned (.tuple #[.int .i64 x, .int .i64 y, .bool b]) ∧ Below w.heap.size w w' := by
  have H := Lib.hid h
  have H1 := Lib.hid h1
  obtain ⟨a1, c1, rfl, hl1, hm1, r1⟩ := h.recs
  have R1 := Lib.hid r1
  unfold maxLen at hm1
  obtain ⟨br, hr⟩ : ∃ b, areRecs rs = b := ⟨_, rfl⟩
  obtain ⟨bs, hs⟩ : ∃ b, isSch t = b := ⟨_, rfl⟩
  obtain ⟨bd, hd⟩ : ∃ b, decide (0 ≤ dy ∧ dy ≤ 20000) = b := ⟨_, rfl⟩
  have HR := Lib.hid hr
  have HS := Lib.hid hs
  have HD := Lib.hid hd
  have NO := Lib.hid (fun hn => nextRes_no hres hn)
  have HRES := Lib.hid hres
  clear h h1 r1 hr hs hd hres
  cases br
  · obtain ⟨rfl, rfl, rfl⟩ := NO.out (fun h => by rw [HR.out] at h; exact absurd h.1 (by simp))
    go_enter Try.func37, Try.ntmps37
    go_wp2_with (first | (go_at_call 83; refine (implAreRecords_any _ rs _ H.out).mono ?_; rw [HR.out]; rintro e w1 ⟨rfl, b1⟩) | (go_at_call 77; refine (implIsSchedule_any _ t _ (H1.out.below rRu_stable b1)).mono ?_; rw [HS.out]; rintro e w2 ⟨rfl, b2⟩; replace b2 := below_chain b1 b2) | (go_at_call 78; refine (isDay_any _ _).mono ?_; rw [HD.out]; rintro e w3 ⟨rfl, h3⟩; subst w3) | (go_at_call 84; refine (implIsAct_any _ _).mono ?_; rw [HA.out]; rintro e w3 ⟨rfl, h3⟩; subst w3))
    go_ret3
    exact ⟨rfl, b1⟩
  · cases bs
    · obtain ⟨rfl, rfl, rfl⟩ := NO.out (fun h => by rw [HS.out] at h; exact absurd h.2.1 (by simp))
      go_enter Try.func37, Try.ntmps37
      go_wp2_with (first | (go_at_call 83; refine (implAreRecords_any _ rs _ H.out).mono ?_; rw [HR.out]; rintro e w1 ⟨rfl, b1⟩) | (go_at_call 77; refine (implIsSchedule_any _ t _ (H1.out.below rRu_stable b1)).mono ?_; rw [HS.out]; rintro e w2 ⟨rfl, b2⟩; replace b2 := below_chain b1 b2) | (go_at_call 78; refine (isDay_any _ _).mono ?_; rw [HD.out]; rintro e w3 ⟨rfl, h3⟩; subst w3) | (go_at_call 84; refine (implIsAct_any _ _).mono ?_; rw [HA.out]; rintro e w3 ⟨rfl, h3⟩; subst w3))
      go_ret3
      exact ⟨rfl, b2⟩
    · cases bd
      · obtain ⟨rfl, rfl, rfl⟩ := NO.out (fun h => of_decide_eq_false HD.out h.2.2.1)
        go_enter Try.func37, Try.ntmps37
        go_wp2_with (first | (go_at_call 83; refine (implAreRecords_any _ rs _ H.out).mono ?_; rw [HR.out]; rintro e w1 ⟨rfl, b1⟩) | (go_at_call 77; refine (implIsSchedule_any _ t _ (H1.out.below rRu_stable b1)).mono ?_; rw [HS.out]; rintro e w2 ⟨rfl, b2⟩; replace b2 := below_chain b1 b2) | (go_at_call 78; refine (isDay_any _ _).mono ?_; rw [HD.out]; rintro e w3 ⟨rfl, h3⟩; subst w3) | (go_at_call 84; refine (implIsAct_any _ _).mono ?_; rw [HA.out]; rintro e w3 ⟨rfl, h3⟩; subst w3))
        go_ret3
        exact ⟨rfl, b2⟩
      · have hten := recs_ten HR.out
        have hdy := of_decide_eq_true HD.out
        go_enter Try.func37, Try.ntmps37
        go_wp2_with (first | (go_at_call 83; refine (implAreRecords_any _ rs _ H.out).mono ?_; rw [HR.out]; rintro e w1 ⟨rfl, b1⟩) | (go_at_call 77; refine (implIsSchedule_any _ t _ (H1.out.below rRu_stable b1)).mono ?_; rw [HS.out]; rintro e w2 ⟨rfl, b2⟩; replace b2 := below_chain b1 b2) | (go_at_call 78; refine (isDay_any _ _).mono ?_; rw [HD.out]; rintro e w3 ⟨rfl, h3⟩; subst w3) | (go_at_call 84; refine (implIsAct_any _ _).mono ?_; rw [HA.out]; rintro e w3 ⟨rfl, h3⟩; subst w3))
        have s2 := b2.size
        go_loopw [9, 10, 30] (fun nx sm i wr => ∃ (k : Nat) (n m p l : Int), k ≤ rs.length ∧ i = .int .i64 k ∧ nx = .int .i64 n ∧ sm = .int .i64 m ∧ Hid (nextF t dy (rs.drop k) p l = nextF t dy rs 0 (-1)) ∧ Hid ((l < 0 ∧ n = 0 ∧ m = 0) ∨ (0 ≤ l ∧ n = p ∧ m = l ∧ 1 ≤ p)) ∧ Below w2.heap.size w2 wr) (fun _ _ i _ => rs.length - (intOf i).toNat)
        case atStart => exact ⟨0, 0, 0, 0, -1, Nat.zero_le _, rfl, rfl, rfl, Lib.hid rfl, Lib.hid (.inl ⟨by decide, rfl, rfl⟩), Below.refl _ _⟩
        case round =>
          obtain ⟨k, n, m, p, l, hk, rfl, rfl, rfl, HF, HJ, hb⟩ := hrel
          have hbw := b2.trans (hb.mono s2)
          by_cases hlt : k < rs.length
          · obtain ⟨bR, oR, hbR, rfl, e1⟩ := R1.out.resolve_left (fun e => by rw [e] at hlt; simp at hlt)
            obtain ⟨sv, q0, q1, q2, q3, hrow, hok⟩ := e1 k hlt
            obtain ⟨r, hx⟩ : ∃ s, rs.getD k recD = s := ⟨_, rfl⟩
            have hri : isRec r = true := by rw [← hx]; exact recs_at HR.out hlt
            rw [hx] at q0 q1 q2 hrow hok
            have hid1 := (isRec_iff.1 hri).1.1
            have hr0 := hrow
            obtain ⟨sa, sc, rfl, _⟩ := hr0
            have f0 := cell_kept q0 hbw
            have f1 := cell_kept q1 hbw
            have f2 := cell_kept q2 hbw
            have f3 := cell_kept q3 hbw
            have HV := Lib.hid (show ∀ W, Below w.heap.size w W → RecV W (.agg #[.int .i64 r.id, .int .i64 r.series, .int .i64 r.made, .slice sa r.evs.length sc]) r from fun W hb => ⟨_, rfl, hrow.below rEv_stable hb, hok⟩)
            obtain ⟨du, bq, hdr⟩ : ∃ n b, dueRes r t = (n, b) := ⟨_, _, rfl⟩
            have hdrop := drop_rec hlt
            rw [hx] at hdrop
            have HFF := Lib.hid (by rw [hdrop, next_cons] at HF; exact HF.out : (if dy < dueF r t ∧ (l < 0 ∨ dueF r t < l) then nextF t dy (rs.drop (k + 1)) r.id (dueF r t) else nextF t dy (rs.drop (k + 1)) p l) = nextF t dy rs 0 (-1))
            have hdu : (bq = false ∧ ¬ dy < dueF r t) ∨ (bq = true ∧ du = dueF r t) := by
              unfold dueRes at hdr
              rcases Int.lt_or_le (dueF r t) 0 with hl | hl
              · rw [setF_no (.inr hl)] at hdr
                cases hdr
                exact .inl ⟨rfl, by omega⟩
              · rw [setF_yes (ask_iff.2 ⟨hri, HS.out⟩) hl] at hdr
                cases hdr
                exact .inr ⟨rfl, rfl⟩
            have HDR := Lib.hid hdr
            have g0 : (0 : Int) ≤ (k : Int) := by omega
            have g1 : (k : Int) < (rs.length : Int) := by omega
            have hsz := hb.size
            have bx := below_al hb (RBOX r (.slice sa r.evs.length sc) 26)
            have bxw := below_al hbw (RBOX r (.slice sa r.evs.length sc) 26)
            have HC := Lib.hid (Box4.new wr r (.slice sa r.evs.length sc) 26)
            clear q0 q1 q2 q3 hrow hx e1 hdrop hok hdr hri HF
            cases bq
            · have HZ := Lib.hid (HFF.out)
              rw [if_neg (fun h => by rcases hdu with ⟨_, h2⟩ | ⟨h2, _⟩; exact h2 h.1; cases h2)] at HZ
              clear hdu
              go_wp2_with (first | (go_at_call 19; refine (implDueDay_any _ _ r t _ (HV.out _ bxw) (H1.out.below rRu_stable bxw) hn _ _ HDR.out).mono ?_; rintro e w6 ⟨rfl, b6⟩; obtain ⟨c0, c1, c2, c3⟩ := HC.out.kept b6; replace b6 := below_chain bx b6; have hs6 := b6.size; clear HC))
              go_roundw
              case rel => exact ⟨k + 1, n, m, p, l, by omega, by go_num, rfl, rfl, HZ, HJ, b6⟩
              case measure => simp [intOf]; omega
            · have hdd : du = dueF r t := by rcases hdu with ⟨h, _⟩ | ⟨_, h⟩; cases h; exact h
              rw [← hdd] at HFF
              clear hdu hdd
              by_cases hgt : dy < du
              · have hgd : decide (dy < du) = true := decide_eq_true hgt
                by_cases hn0 : n = 0
                · have hnd : (n == 0) = true := by simp [hn0]
                  have HZ := Lib.hid (HFF.out)
                  rw [if_pos ⟨hgt, .inl (by rcases HJ.out with h | h; exact h.1; omega)⟩] at HZ
                  clear hn0
                  go_wp2_with (first | (go_at_call 19; refine (implDueDay_any _ _ r t _ (HV.out _ bxw) (H1.out.below rRu_stable bxw) hn _ _ HDR.out).mono ?_; rintro e w6 ⟨rfl, b6⟩; obtain ⟨c0, c1, c2, c3⟩ := HC.out.kept b6; replace b6 := below_chain bx b6; have hs6 := b6.size; clear HC))
                  go_roundw
                  case rel => exact ⟨k + 1, r.id, du, r.id, du, by omega, by go_num, rfl, rfl, HZ, Lib.hid (.inr ⟨by omega, rfl, rfl, hid1⟩), b6⟩
                  case measure => simp [intOf]; omega
                · have hnd : (n == 0) = false := by simp [hn0]
                  by_cases hls : du < m
                  · have hlsd : decide (du < m) = true := decide_eq_true hls
                    have HZ := Lib.hid (HFF.out)
                    rw [if_pos ⟨hgt, .inr (by rcases HJ.out with h | h <;> omega)⟩] at HZ
                    clear hn0
                    go_wp2_with (first | (go_at_call 19; refine (implDueDay_any _ _ r t _ (HV.out _ bxw) (H1.out.below rRu_stable bxw) hn _ _ HDR.out).mono ?_; rintro e w6 ⟨rfl, b6⟩; obtain ⟨c0, c1, c2, c3⟩ := HC.out.kept b6; replace b6 := below_chain bx b6; have hs6 := b6.size; clear HC))
                    go_roundw
                    case rel => exact ⟨k + 1, r.id, du, r.id, du, by omega, by go_num, rfl, rfl, HZ, Lib.hid (.inr ⟨by omega, rfl, rfl, hid1⟩), b6⟩
                    case measure => simp [intOf]; omega
                  · have hlsd : decide (du < m) = false := decide_eq_false hls
                    have HZ := Lib.hid (HFF.out)
                    rw [if_neg (by rintro ⟨_, h | h⟩ <;> rcases HJ.out with h2 | h2 <;> omega)] at HZ
                    clear hn0
                    go_wp2_with (first | (go_at_call 19; refine (implDueDay_any _ _ r t _ (HV.out _ bxw) (H1.out.below rRu_stable bxw) hn _ _ HDR.out).mono ?_; rintro e w6 ⟨rfl, b6⟩; obtain ⟨c0, c1, c2, c3⟩ := HC.out.kept b6; replace b6 := below_chain bx b6; have hs6 := b6.size; clear HC))
                    go_roundw
                    case rel => exact ⟨k + 1, n, m, p, l, by omega, by go_num, rfl, rfl, HZ, HJ, b6⟩
                    case measure => simp [intOf]; omega
              · have hgd : decide (dy < du) = false := decide_eq_false hgt
                have HZ := Lib.hid (HFF.out)
                rw [if_neg (fun h => hgt h.1)] at HZ
                go_wp2_with (first | (go_at_call 19; refine (implDueDay_any _ _ r t _ (HV.out _ bxw) (H1.out.below rRu_stable bxw) hn _ _ HDR.out).mono ?_; rintro e w6 ⟨rfl, b6⟩; obtain ⟨c0, c1, c2, c3⟩ := HC.out.kept b6; replace b6 := below_chain bx b6; have hs6 := b6.size; clear HC))
                go_roundw
                case rel => exact ⟨k + 1, n, m, p, l, by omega, by go_num, rfl, rfl, HZ, HJ, b6⟩
                case measure => simp [intOf]; omega
          · obtain rfl : k = rs.length := by omega
            have hfin := HF.out
            rw [List.drop_length] at hfin
            have hfin2 : nextF t dy rs 0 (-1) = (p, l) := hfin.symm
            have hend : x = n ∧ y = m ∧ b = (n != 0) := by
              rcases HJ.out with ⟨h1, h2, h3⟩ | ⟨h1, h2, h3, h4⟩
              · obtain ⟨rfl, rfl, rfl⟩ := NO.out (fun h => by have := h.2.2.2; rw [hfin2] at this; omega)
                exact ⟨h2.symm, h3.symm, by simp [h2]⟩
              · have hq := HRES.out
                unfold nextRes at hq
                rw [if_pos ⟨HR.out, HS.out, hdy, by rw [hfin2]; exact h1⟩, hfin2] at hq
                obtain ⟨e1, e2⟩ := Prod.mk.inj hq
                obtain ⟨e3, e4⟩ := Prod.mk.inj e2
                refine ⟨by rw [h2, ← e1], by rw [h3, ← e3], ?_⟩
                rw [← e4, h2]
                symm
                simp; omega
            obtain ⟨rfl, rfl, rfl⟩ := hend
            clear hfin hfin2
            go_wp2_with fail
            go_ret3
            exact ⟨rfl, hbw⟩
end Go.Proofs.Ytdcikapijpohpaa
