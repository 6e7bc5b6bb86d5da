/- The draw of a list of clerks. -/
import Derived.Test.YtalaegkfkjpmoaaClerk
import Derived.Test.YtalaegkfkjpmoaaCkS
import Derived.Deep.RegionLaw
namespace Go.Proofs.Ytalaegkfkjpmoaa
set_option linter.unusedVariables false
open Go.RowKit

theorem CksO.grown {lo hi B : Nat} {w w' : World} {v : Value} {xs : List Ck} (h : CksO lo hi w v xs) (hg : w.grownBy w' (some B)) (hB : B < lo) : CksO lo hi w' v xs := by
  refine ⟨⟨h.1.1.kept hg ?_, h.1.2⟩, h.2⟩
  rcases hv : v.ownBlock with _ | k
  · exact .inl rfl
  · refine .inr fun e => ?_
    have := h.1.ge k hv
    cases e
    omega
theorem cells6C_new (w : World) (a b c d e f : Value) (t : TypeId) {k : Nat} (hk : k = w.heap.size) : ∀ j u, [a, b, c, d, e, f][j]? = some u → (w.alloc (.cells #[a, b, c, d, e, f] t (0, 0))).cell? ((⟨k, 0, none⟩ : Addr).add j) = some u := by
  subst hk
  intro j u hj
  rw [Addr.add_lit, Nat.zero_add]
  exact cell_new w _ _ j (by simpa using hj)
/-- The cursor, the clerks drawn so far. -/
structure DrC (w0 w : World) (B K : Nat) (o : Value) (t : List Ck) : Prop where
  cur : Cur w B K
  out : CksO (B + 1) w.heap.size w o t
  gr : w0.grownBy w (some B)
theorem DrC.step {w0 w w' : World} {B K K' : Nat} {o : Value} {t : List Ck} (h : DrC w0 w B K o t) (hc : Cur w' B K') (hg : w.grownBy w' (some B)) : DrC w0 w' B K' o t :=
  ⟨hc, (h.out.grown hg (by omega)).wide (Nat.le_refl _) hg.size, grownBy_trans h.gr hg⟩
theorem DrC.al {w0 w : World} {B K : Nat} {o : Value} {t : List Ck} (h : DrC w0 w B K o t) (ob : Obj) : DrC w0 (w.alloc ob) B K o t :=
  h.step (h.cur.later (Below.alloc (Below.refl (B + 1) w) h.cur.lt ob)) (World.grownBy_alloc w ob _)
theorem DrC.below {w0 w w' : World} {B K : Nat} {o : Value} {t : List Ck} (h : DrC w0 w B K o t) (hb : Below w.heap.size w w') : DrC w0 w' B K o t :=
  h.step (h.cur.later (hb.mono h.cur.lt)) ⟨hb.os, hb.tape, hb.output, hb.size, fun k hk _ => hb.block k hk⟩
theorem own_formC {lo e size n : Nat} {w : World} {v : Value} {xs : List Value} (h : w.ownsRow lo e size v n xs) (hn : 0 < n) : ∃ g cap, v = .slice (some ⟨g, 0, none⟩) n cap := by
  rcases h.2 with ⟨_, h0⟩ | ⟨g, cap, cur, rfl, hg, _⟩
  · omega
  · exact ⟨g, cap, rfl⟩
theorem cells_grownC {W W' : World} {row : Option Nat} {ad : Addr} {cs : List Value} (hg : W.grownBy W' row) (hc : ∀ j u, cs[j]? = some u → W.cell? (ad.add j) = some u) (hne : some ad.block ≠ row) : ∀ j u, cs[j]? = some u → W'.cell? (ad.add j) = some u := fun j u hj =>
  (World.cell?_of_block (w := W) (hg.block _ (World.block_lt_of_cell? _ _ (hc j u hj)) (by show some (ad.add j).block ≠ row; rw [show (ad.add j).block = ad.block by unfold Addr.add; split <;> rfl]; exact hne))).trans (hc j u hj)
theorem DrC.set {w0 w : World} {B K F j : Nat} {o u : Value} {t : List Ck} (h : DrC w0 w B K o t) (hF : w0.heap.size ≤ F) (ho : o.ownBlock ≠ some F) (hB : B < F) : DrC w0 (w.setCell ⟨F, j, none⟩ u) B K o t := by
  have hg : w.grownBy (w.setCell ⟨F, j, none⟩ u) (some F) := ⟨rfl, rfl, rfl, by simp, fun k _ hk => Below.heap_setCell w ⟨F, j, none⟩ u k (fun e => hk (by rw [e]))⟩
  refine ⟨h.cur.later ((Below.refl (B + 1) w).setCell (p := ⟨F, j, none⟩) hB u), ⟨⟨h.out.1.1.kept hg (.inr ho), h.out.1.2⟩, h.out.2.1, by simpa using h.out.2.2⟩, ?_⟩
  refine ⟨h.gr.os, h.gr.tape, h.gr.output, by simpa using h.gr.size, fun k hk hr => ?_⟩
  exact (Below.heap_setCell w ⟨F, j, none⟩ u k (by simp; omega)).trans (h.gr.block k hk hr)
theorem gr_appC {w w3 w4 : World} {B : Nat} {ob : Obj} {v : Value} (h : w.grownBy w3 (some B)) (hg : (w3.alloc ob).grownBy w4 v.ownBlock) (hv : ∀ k, v.ownBlock = some k → w.heap.size ≤ k) : w.grownBy w4 (some B) := by
  have h2 := grownBy_trans h (World.grownBy_alloc w3 ob (some B))
  have hs := h2.size
  refine ⟨hg.os.trans h2.os, hg.tape.trans h2.tape, hg.output.trans h2.output, Nat.le_trans hs hg.size, fun k hk hr => ?_⟩
  exact (hg.block k (Nat.lt_of_lt_of_le hk hs) (fun e => by have := hv k e.symm; omega)).trans (h2.block k hk hr)

theorem lit_okC (k : Nat) (h : k ≤ 16) : (⟨(k : Int) + 1, ⟨#[120]⟩, 1, 0, 5, 0⟩ : Ck).ok :=
  ⟨by simp only [inI]; omega, (by decide : (1 : Nat) ≤ maxLen), by simp [inI], by simp [inI], by simp [inI], by simp [inI]⟩

set_option maxRecDepth 20000 in
set_option maxHeartbeats 4000000 in
theorem clerks_any (B K : Nat) (w : World) (h : Cur w B K) (hK : K ≤ 1000) :
    Calls Try.prog 93 #[.pointer (some ⟨B, 0, none⟩)] w fun e w' => ∃ v t, e = .returned v ∧ t.length ≤ 12 ∧ (∃ ad c, v = .slice (some ad) t.length c) ∧ DrC w w' B (K + 1000) v t := by
  obtain ⟨i0, hi, hz0, hz1, hz2⟩ := info_parts Try.info_ck
  have hlt := h.lt
  have H0 : Hid (DrC w (w.alloc (.cells #[] 65 (0, 0))) B K (.slice (some ⟨w.heap.size, 0, none⟩) 0 0) []) := Lib.hid ⟨h.later (Below.alloc (Below.refl (B + 1) w) hlt _), CksO.empty (lo := B + 1) w hlt, World.grownBy_alloc w _ _⟩
  clear h
  go_enter Try.func93, Try.ntmps93
  go_wp2_with fail
  refine (pick_any B K 7 _ H0.out.cur (by omega) (by omega) (by omega)).mono ?_
  rintro e w1 ⟨n0, rfl, hn0, hn1, hc1, hg1⟩
  obtain ⟨N, rfl⟩ := Int.eq_ofNat_of_zero_le hn0
  have hN : N ≤ 6 := by omega
  have H1 := Lib.hid (H0.out.step hc1 hg1)
  clear hc1 hg1 hn0 hn1 H0
  go_wp2_with fail
  go_loopw [3, 4, 5] (fun o d n wr => ∃ (ob : Nat) (oa : Option Addr) (oc : Nat) (t : List Ck) (id : Int) (k : Nat), Hid (some (⟨ob, 0, none⟩ : Addr) = oa) ∧ k ≤ N ∧ n = .int .i64 k ∧ d = .int .i64 id ∧ 0 ≤ id ∧ id ≤ 3 * ((N : Int) - k) ∧ o = .slice oa t.length oc ∧ t.length + k ≤ N ∧ Hid (DrC w wr B (K + 2 + 60 * (N - k)) (.slice oa t.length oc) t)) (fun _ _ n _ => (intOf n).toNat)
  case atStart => exact ⟨_, _, _, [], 0, N, Lib.hid rfl, Nat.le_refl _, rfl, rfl, by omega, by omega, rfl, by simp, Lib.hid ⟨H1.out.cur.le_K (by omega), H1.out.out, H1.out.gr⟩⟩
  case round =>
    clear H1
    obtain ⟨ob, oa, oc, t, id, k, HOA, hk, rfl, rfl, hi0, hi1, rfl, htl, HD⟩ := hrel
    obtain ⟨M, hM⟩ : ∃ M, K + 2 + 60 * (N - k) = M := ⟨_, rfl⟩
    rw [hM] at HD
    by_cases hpos : 0 < k
    · have gk : (0 : Int) < (k : Int) := by omega
      have gk2 : decide ((0 : Int) < (k : Int)) = true := decide_eq_true gk
      have hid1 : IntKind.i64.wrap (id + 1) = id + 1 := Go.IntWalk.i64_in _ (by omega)
      go_wp2_with fail
      refine (pick_any B M 3 _ HD.out.cur (by omega) (by omega) (by omega)).mono ?_
      rintro e w2 ⟨d, rfl, hd0, hd1, hc2, hg2⟩
      have HD2 := Lib.hid (HD.out.step hc2 hg2)
      have hl2 : B < w2.heap.size := hc2.lt
      clear hc2 hg2
      have hid2 : IntKind.i64.wrap (id + 1 + d) = id + 1 + d := Go.IntWalk.i64_in _ (by omega)
      have hi9 : 0 ≤ id + 1 + d ∧ id + 1 + d ≤ 3 * ((N : Int) - k) + 3 := by omega
      obtain ⟨I, hI⟩ : ∃ I, id + 1 + d = I := ⟨_, rfl⟩
      rw [hI] at hi9
      have hII : inI I := by unfold inI; omega
      go_wp2_with fail
      try rw [hid2]
      try rw [hI]
      refine (clerk_any B (M + 2) I _ HD2.out.cur (by omega) hII).mono ?_
      rintro e w3 ⟨⟨x0, x1, x2, x3, x4, x5⟩, rfl, hok, hc3, hg3⟩
      have HD3 := Lib.hid (HD2.out.step hc3 hg3)
      have hl3 : B < w3.heap.size := hc3.lt
      clear hc3 hg3 HD2
      simp only
      have HD4 := Lib.hid (HD3.out.al (.cells #[.int .i64 x0, .string x1, .int .i64 x2, .int .i64 x3, .int .i64 x4, .int .i64 x5] 65 (0, 0)))
      have HF4 : Hid (BxV (w3.alloc (.cells #[.int .i64 x0, .string x1, .int .i64 x2, .int .i64 x3, .int .i64 x4, .int .i64 x5] 65 (0, 0))) w3.heap.size (ckC ⟨x0, x1, x2, x3, x4, x5⟩)) := Lib.hid (BxV.new w3 (ckC ⟨x0, x1, x2, x3, x4, x5⟩) _)
      obtain ⟨F, hF⟩ : ∃ F, w3.heap.size = F := ⟨_, rfl⟩
      have hFw : w.heap.size ≤ F := by rw [← hF]; exact HD3.out.gr.size
      have hFB : B < F := by rw [← hF]; exact hl3
      have hFo : (Value.slice oa t.length oc).ownBlock ≠ some F := fun e => by have := HD3.out.out.2.2 F e; omega
      rw [hF] at HF4
      have HI := Lib.hid hI
      have HOKX := Lib.hid hok
      clear HD3 HD hok
      go_upto_region 8 with fail
      try rw [hF]
      try rw [hI]
      (try clear hI); (try clear hF); (try clear hid2); (try clear hid1); (try clear hd0); (try clear hd1)
      generalize w3.alloc (.cells #[.int .i64 x0, .string x1, .int .i64 x2, .int .i64 x3, .int .i64 x4, .int .i64 x5] 65 (0, 0)) = W4 at *
      go_cut [30] from 12 to 52 (fun c wx => ∃ bb : Bool, c = .bool bb ∧ (bb = true → 0 < t.length) ∧ Hid (DrC w wx B (M + 34) (.slice oa t.length oc) t) ∧ Hid (BxV wx F (ckC ⟨x0, x1, x2, x3, x4, x5⟩)))
      case first =>
        by_cases h0 : t.length = 0
        · have hz : decide ((0 : Int) < (t.length : Int)) = false := decide_eq_false (by omega)
          have hz2 : decide (0 < t.length) = false := decide_eq_false (by omega)
          have HZ := Lib.hid h0
          clear h0
          go_wp2_with fail
          go_meet
          exact ⟨false, rfl, fun e => (by cases e), Lib.hid ⟨HD4.out.cur.le_K (by omega), HD4.out.out, HD4.out.gr⟩, HF4⟩
        · have hz : decide ((0 : Int) < (t.length : Int)) = true := decide_eq_true (by omega)
          have hz2 : 0 < t.length := by omega
          clear h0
          go_wp2_with fail
          refine (one_any B (M + 32) 2 _ HD4.out.cur (by omega) (by omega) (by omega)).mono ?_
          rintro e w5 ⟨r, rfl, hc5, hg5⟩
          have HD5 := Lib.hid (HD4.out.step hc5 hg5)
          have HF5 := Lib.hid (HF4.out.grown hg5 (by simp; omega))
          clear hc5 hg5
          go_wp2_with fail
          go_meet
          exact ⟨_, rfl, fun _ => hz2, HD5, HF5⟩
      case rest =>
        obtain ⟨bb, rfl, hbl, HD5, HF5⟩ := hcut
        clear HD4 HF4
        obtain ⟨W5, hW5⟩ : ∃ x, x = wc := ⟨_, rfl⟩
        subst hW5
        go_upto_if 30 with fail
        go_cut [6] from 12 to 52 (fun q wx => ∃ P : Int, q = .pointer (some ⟨F, 0, none⟩) ∧ inI P ∧ Hid (DrC w wx B (M + 36) (.slice oa t.length oc) t) ∧ Hid (BxV wx F [.int .i64 x0, .string x1, .int .i64 x2, .int .i64 x3, .int .i64 x4, .int .i64 P]))
        case first =>
          cases bb
          · go_wp2_with fail
            go_meet
            exact ⟨x5, rfl, HOKX.out.2.2.2.2.2, Lib.hid ⟨HD5.out.cur.le_K (by omega), HD5.out.out, HD5.out.gr⟩, HF5⟩
          · have hl := hbl rfl
            clear hbl
            go_wp2_with fail
            refine (pick_any B (M + 34) t.length _ HD5.out.cur (by omega) (by omega) (by omega)).mono ?_
            rintro e w6 ⟨r, rfl, hr0, hr1, hc6, hg6⟩
            obtain ⟨j, rfl⟩ := Int.eq_ofNat_of_zero_le hr0
            have HD6 := Lib.hid (HD5.out.step hc6 hg6)
            have HF6 := Lib.hid (HF5.out.grown hg6 (by simp; omega))
            clear hc6 hg6 HD5 HF5
            have hj : j < t.length := by omega
            obtain ⟨a', c', e', _, hm', r'⟩ := HD6.out.out.row.cks
            simp only [Value.slice.injEq] at e'
            obtain ⟨rfl, _, rfl⟩ := e'
            obtain ⟨bb', oo, _, rfl, ee⟩ := r'.resolve_left (fun e => by rw [e] at hj; simp at hj)
            obtain ⟨p0, _, _, _, _, _, hok⟩ := ee j hj
            obtain ⟨q, hq⟩ : ∃ q, (t.getD j ckD).id = q := ⟨_, rfl⟩
            have hok1 := hok.1
            rw [hq] at p0 hok1
            have P0 := p0
            have fc := HF6.out.cell 5
            have ff := HF6.out.frozen 5
            simp [ckC] at fc
            have g0 : (0 : Int) ≤ (j : Int) := by omega
            have g1 : (j : Int) < (t.length : Int) := by omega
            have HOK := Lib.hid hok1
            clear hok hok1 ee hm' p0 hq
            go_wp2_with fail
            go_meet
            exact ⟨q, rfl, HOK.out, Lib.hid (HD6.out.set hFw hFo hFB), Lib.hid (HF6.out.set 5 _ rfl)⟩
        case rest =>
          obtain ⟨P, rfl, hP, HD10, HF10⟩ := hcut
          clear HD5 HF5 hbl
          obtain ⟨W10, hW10⟩ : ∃ x, x = wc := ⟨_, rfl⟩
          subst hW10
          go_upto_region 10 with fail
          go_cut [7] from 12 to 52 (fun q wx => ∃ (na nc : Nat), q = .slice (some ⟨na, 0, none⟩) (t.length + 1) nc ∧ Hid (DrC w wx B (M + 36) (.slice oa t.length oc) t) ∧ Hid (CksO (B + 1) wx.heap.size wx (.slice (some ⟨na, 0, none⟩) (t.length + 1) nc) (t ++ [⟨x0, x1, x2, x3, x4, P⟩])))
          case first =>
            have hoa := HOA.out
            clear HOA
            subst hoa
            have hcells := cks_cells HD10.out.out.row
            obtain ⟨NEWS, hN⟩ : ∃ N, (t.map ckC).flatten = N := ⟨_, rfl⟩
            have HL : Hid (NEWS.length = t.length * 6) := Lib.hid (by rw [← hN]; exact flat_map_len ckC_len t)
            have HO : Hid (∀ u ∈ NEWS, u.oneCell' = true) := Lib.hid (by rw [← hN]; exact flat_one ckC_one _)
            have HC : Hid (∀ W, Below W10.heap.size W10 W → ∀ j u, NEWS[j]? = some u → W.cell? ((⟨ob, 0, none⟩ : Addr).add j) = some u) := Lib.hid (by rw [← hN]; exact hcells)
            have HNE := Lib.hid hN
            have hyy0 := HF10.out.cell 0
            have hyy1 := HF10.out.cell 1
            have hyy2 := HF10.out.cell 2
            have hyy3 := HF10.out.cell 3
            have hyy4 := HF10.out.cell 4
            have hyy5 := HF10.out.cell 5
            simp at hyy0 hyy1 hyy2 hyy3 hyy4 hyy5
            have Y0 := Lib.hid hyy0
            have Y1 := Lib.hid hyy1
            have Y2 := Lib.hid hyy2
            have Y3 := Lib.hid hyy3
            have Y4 := Lib.hid hyy4
            have Y5 := Lib.hid hyy5
            have y0 := hyy0
            have y1 := hyy1
            have y2 := hyy2
            have y3 := hyy3
            have y4 := hyy4
            have y5 := hyy5
            clear hyy0 hyy1 hyy2 hyy3 hyy4 hyy5
            have b0 : Below W10.heap.size W10 W10.drew := (Below.refl _ _).drew
            have HD11 := Lib.hid HD10.out
            have l10 := HD10.out.cur.lt
            clear hN hcells HD10 HF10
            go_region_held3 (fun w' => w'.cell? ⟨F, 0, none⟩ = some (.int .i64 x0) ∧ w'.cell? ⟨F, 1, none⟩ = some (.string x1) ∧ w'.cell? ⟨F, 2, none⟩ = some (.int .i64 x2) ∧ w'.cell? ⟨F, 3, none⟩ = some (.int .i64 x3) ∧ w'.cell? ⟨F, 4, none⟩ = some (.int .i64 x4) ∧ w'.cell? ⟨F, 5, none⟩ = some (.int .i64 P)) (first | exact ⟨y0, y1, y2, y3, y4, y5⟩ | go_keep) (first | (rw [if_pos (by rfl)]; refine wp_append_own _ _ _ _ rfl W10.heap.size 65 i0 (.agg #[.int .i64 0, .string ⟨#[]⟩, .int .i64 0, .int .i64 0, .int .i64 0, .int .i64 0]) 6 56 Try.underlying59 hi hz0 hz1 hz2 rfl (by decide) (.slice (some ⟨W10.heap.size, 0, none⟩) 0 0) 0 [] (by rfl) (by first | exact World.ownsRow_made W10.drew #[] 0 (Nat.le_refl _) (Nat.zero_le _) rfl | exact World.ownsRow.alloc (World.ownsRow_made W10.drew #[] 0 (Nat.le_refl _) (Nat.zero_le _) rfl) _) ⟨ob, 0, none⟩ t.length oc NEWS (by rfl) HL.out (by exact HC.out _ (by first | exact below_al b0 _ | exact below_al (below_al b0 _) _)) HO.out (by unfold maxLen; omega) (by omega) (by (first | omega | (simp; done) | (simp; omega))) ?_; intro v5 w5 hown5 hg5 _; have b5 : Below W10.heap.size W10 w5 := Below.grown (by first | exact below_al b0 _ | exact below_al (below_al b0 _) _) hg5 (by (first | omega | (simp; done) | (simp; omega))) (by intro kk hk; cases hk; exact Nat.le_refl _); have s5 := b5.size; replace y0 := cell_kept Y0.out b5; replace y1 := cell_kept Y1.out b5; replace y2 := cell_kept Y2.out b5; replace y3 := cell_kept Y3.out b5; replace y4 := cell_kept Y4.out b5; replace y5 := cell_kept Y5.out b5) | (rw [if_pos (by rfl)]; refine wp_append_own _ _ _ _ rfl W10.heap.size 65 i0 (.agg #[.int .i64 0, .string ⟨#[]⟩, .int .i64 0, .int .i64 0, .int .i64 0, .int .i64 0]) 6 56 Try.underlying59 hi hz0 hz1 hz2 rfl (by decide) (.slice (some ⟨W10.heap.size + 1, 0, none⟩) 0 0) 0 [] (by rfl) (by have hh := World.ownsRow_made (base := W10.heap.size) (e := 65) (size := 6) (W10.drew.alloc (.cells #[.int .i64 x0, .string x1, .int .i64 x2, .int .i64 x3, .int .i64 x4, .int .i64 P] 65 (0, 0))) #[] 0 (by simp) (Nat.zero_le _) rfl; rw [show (W10.drew.alloc (.cells #[.int .i64 x0, .string x1, .int .i64 x2, .int .i64 x3, .int .i64 x4, .int .i64 P] 65 (0, 0))).heap.size = W10.heap.size + 1 by simp] at hh; exact hh) ⟨ob, 0, none⟩ t.length oc NEWS (by rfl) HL.out (by exact HC.out _ (by first | exact below_al b0 _ | exact below_al (below_al b0 _) _)) HO.out (by unfold maxLen; omega) (by omega) (by (first | omega | (simp; done) | (simp; omega))) ?_; intro v5 w5 hown5 hg5 _; have b5 : Below W10.heap.size W10 w5 := Below.grown (by first | exact below_al b0 _ | exact below_al (below_al b0 _) _) hg5 (by (first | omega | (simp; done) | (simp; omega))) (by intro kk hk; cases hk; exact Nat.le_succ _); have s5 := b5.size; replace y0 := cell_kept Y0.out b5; replace y1 := cell_kept Y1.out b5; replace y2 := cell_kept Y2.out b5; replace y3 := cell_kept Y3.out b5; replace y4 := cell_kept Y4.out b5; replace y5 := cell_kept Y5.out b5) | (rw [if_pos (by rfl)]; refine wp_append_own _ _ _ _ rfl W10.heap.size 65 i0 (.agg #[.int .i64 0, .string ⟨#[]⟩, .int .i64 0, .int .i64 0, .int .i64 0, .int .i64 0]) 6 56 Try.underlying59 hi hz0 hz1 hz2 rfl (by decide) v5 (0 + t.length) ([] ++ NEWS) (by rfl) (by exact hown5.alloc _) ⟨w5.heap.size, 0, none⟩ 1 1 [.int .i64 x0, .string x1, .int .i64 x2, .int .i64 x3, .int .i64 x4, .int .i64 P] (by rfl) rfl (by exact cells6C_new _ _ _ _ _ _ _ _ rfl) (by simp [Value.oneCell']) (by unfold maxLen; omega) (by omega) (by (first | omega | (simp; done) | (simp; omega))) ?_; intro v6 w6 hown6 hg6 _; have b6 : Below W10.heap.size W10 w6 := Below.grown (by first | exact b5 | exact below_al b5 _) hg6 (by (first | omega | (simp; done) | (simp; omega))) (by exact fun kk hk => (hown5.lt kk hk).1); have s6 := b6.size; replace y0 := cell_kept Y0.out b6; replace y1 := cell_kept Y1.out b6; replace y2 := cell_kept Y2.out b6; replace y3 := cell_kept Y3.out b6; replace y4 := cell_kept Y4.out b6; replace y5 := cell_kept Y5.out b6) | (rw [if_pos (by rfl)]; refine wp_append_own _ _ _ _ rfl W10.heap.size 65 i0 (.agg #[.int .i64 0, .string ⟨#[]⟩, .int .i64 0, .int .i64 0, .int .i64 0, .int .i64 0]) 6 56 Try.underlying59 hi hz0 hz1 hz2 rfl (by decide) v5 (0 + t.length) ([] ++ NEWS) (by rfl) (by exact hown5) ⟨W10.heap.size + 1, 0, none⟩ 1 1 [.int .i64 x0, .string x1, .int .i64 x2, .int .i64 x3, .int .i64 x4, .int .i64 P] (by rfl) rfl (by exact cells_grownC hg5 (cells6C_new _ _ _ _ _ _ _ _ (by simp)) (by simp [Value.ownBlock])) (by simp [Value.oneCell']) (by unfold maxLen; omega) (by omega) (by (first | omega | (simp; done) | (simp; omega))) ?_; intro v6 w6 hown6 hg6 _; have b6 : Below W10.heap.size W10 w6 := Below.grown (by first | exact b5 | exact below_al b5 _) hg6 (by (first | omega | (simp; done) | (simp; omega))) (by exact fun kk hk => (hown5.lt kk hk).1); have s6 := b6.size; replace y0 := cell_kept Y0.out b6; replace y1 := cell_kept Y1.out b6; replace y2 := cell_kept Y2.out b6; replace y3 := cell_kept Y3.out b6; replace y4 := cell_kept Y4.out b6; replace y5 := cell_kept Y5.out b6) | (rw [if_pos (by rfl)]; refine wp_append_own _ _ _ _ rfl W10.heap.size 65 i0 (.agg #[.int .i64 0, .string ⟨#[]⟩, .int .i64 0, .int .i64 0, .int .i64 0, .int .i64 0]) 6 56 Try.underlying59 hi hz0 hz1 hz2 rfl (by decide) v5 (0 + t.length) ([] ++ NEWS) (by rfl) (by exact hown5) ⟨W10.heap.size, 0, none⟩ 1 1 [.int .i64 x0, .string x1, .int .i64 x2, .int .i64 x3, .int .i64 x4, .int .i64 P] (by rfl) rfl (by exact cells_grownC hg5 (fun j u hj => below_al_cell (cells6C_new _ _ _ _ _ _ _ _ rfl j u hj) _) (by simp [Value.ownBlock])) (by simp [Value.oneCell']) (by unfold maxLen; omega) (by omega) (by (first | omega | (simp; done) | (simp; omega))) ?_; intro v6 w6 hown6 hg6 _; have b6 : Below W10.heap.size W10 w6 := Below.grown (by first | exact b5 | exact below_al b5 _) hg6 (by (first | omega | (simp; done) | (simp; omega))) (by exact fun kk hk => (hown5.lt kk hk).1); have s6 := b6.size; replace y0 := cell_kept Y0.out b6; replace y1 := cell_kept Y1.out b6; replace y2 := cell_kept Y2.out b6; replace y3 := cell_kept Y3.out b6; replace y4 := cell_kept Y4.out b6; replace y5 := cell_kept Y5.out b6))
            all_goals
              have hown8 := ownsRow_base_a' hown6 (base' := B + 1) (by omega)
              have hF : CksO (B + 1) w6.heap.size w6 v6 (t ++ [⟨x0, x1, x2, x3, x4, P⟩]) := CksO.of_row (n := 0 + t.length + 1) (by
                have e : ((t ++ [(⟨x0, x1, x2, x3, x4, P⟩ : Ck)]).map ckC).flatten = ([] ++ NEWS ++ [.int .i64 x0, .string x1, .int .i64 x2, .int .i64 x3, .int .i64 x4, .int .i64 P] : List Value) := by
                  rw [List.map_append, List.flatten_append, HNE.out]
                  simp [ckC]
                rw [e]; exact hown8) (by simp) (fun f hf => by
                rcases List.mem_append.1 hf with h | h
                · exact HD11.out.out.2.1 f h
                · rw [List.mem_singleton.1 h]; exact ⟨HOKX.out.1, HOKX.out.2.1, HOKX.out.2.2.1, HOKX.out.2.2.2.1, HOKX.out.2.2.2.2.1, hP⟩)
              have HF := Lib.hid hF
              rw [Nat.zero_add] at hown8
              obtain ⟨na, nc, rfl⟩ := own_formC hown8 (Nat.succ_pos _)
              have HDD := Lib.hid (HD11.out.below b6)
              clear hown8 hown6 hown5 hg5 hg6 b5 s5 y0 y1 y2 y3 y4 y5 Y0 Y1 Y2 Y3 Y4 Y5 hF b0
              go_wp2_with fail
              go_meet
              exact ⟨na, nc, rfl, HDD, HF⟩
          case rest =>
            obtain ⟨na, nc, rfl, HD12, HX12⟩ := hcut
            clear HD10 HF10
            obtain ⟨W12, hW12⟩ : ∃ x, x = wc := ⟨_, rfl⟩
            subst hW12
            have hkw : IntKind.i64.wrap ((k : Int) - 1) = ((k - 1 : Nat) : Int) := by
              rw [Go.IntWalk.i64_in _ (by omega)]
              omega
            have hM2 : K + 2 + 60 * (N - k) ≤ M ∧ M ≤ K + 2 + 60 * (N - k) := by omega
            clear hM
            obtain ⟨bA, hbA⟩ : ∃ b, areCk (t ++ [⟨x0, x1, x2, x3, x4, P⟩]) = b := ⟨_, rfl⟩
            have HBA := Lib.hid hbA
            clear hbA
            go_wp2_with fail
            refine (l11Good_any _ (t ++ [⟨x0, x1, x2, x3, x4, P⟩]) _ HX12.out.row).mono ?_
            rw [HBA.out]
            rintro e w13 ⟨rfl, b13⟩
            have HD13 := Lib.hid (HD12.out.below b13)
            have HX13 := Lib.hid ((HX12.out.below b13).wide (Nat.le_refl _) b13.size)
            clear b13 HD12 HX12
            cases bA
            · go_wp2_with fail
              refine (one_any B (M + 36) 40 _ HD13.out.cur (by omega) (by omega) (by omega)).mono ?_
              rintro e w14 ⟨r, rfl, hc14, hg14⟩
              have HD14 := Lib.hid (HD13.out.step hc14 hg14)
              have HX14 := Lib.hid ((HX13.out.grown hg14 (by omega)).wide (Nat.le_refl _) hg14.size)
              clear hc14 hg14 HD13 HX13
              have HE14 : Hid (DrC w w14 B (M + 38) (.slice (some ⟨na, 0, none⟩) (t.length + 1) nc) (t ++ [⟨x0, x1, x2, x3, x4, P⟩])) := Lib.hid ⟨HD14.out.cur, HX14.out, HD14.out.gr⟩
              cases r
              · go_wp2_with fail
                go_roundw
                case rel => exact ⟨ob, oa, oc, t, I, k - 1, HOA, by omega, rfl, rfl, hi9.1, by omega, rfl, by omega, Lib.hid ⟨HD14.out.cur.le_K (by omega), HD14.out.out, HD14.out.gr⟩⟩
                case measure => simp [intOf]; omega
              · go_wp2_with fail
                go_roundw
                case rel => exact ⟨na, _, nc, t ++ [⟨x0, x1, x2, x3, x4, P⟩], I, k - 1, Lib.hid rfl, by omega, rfl, rfl, hi9.1, by omega, by simp, (by simp only [List.length_append, List.length_singleton]; omega), Lib.hid (by simp only [List.length_append, List.length_singleton]; exact ⟨HE14.out.cur.le_K (by omega), HE14.out.out, HE14.out.gr⟩)⟩
                case measure => simp [intOf]; omega
            · have HE13 : Hid (DrC w w13 B (M + 36) (.slice (some ⟨na, 0, none⟩) (t.length + 1) nc) (t ++ [⟨x0, x1, x2, x3, x4, P⟩])) := Lib.hid ⟨HD13.out.cur, HX13.out, HD13.out.gr⟩
              go_wp2_with fail
              go_roundw
              case rel => exact ⟨na, _, nc, t ++ [⟨x0, x1, x2, x3, x4, P⟩], I, k - 1, Lib.hid rfl, by omega, rfl, rfl, hi9.1, by omega, by simp, (by simp only [List.length_append, List.length_singleton]; omega), Lib.hid (by simp only [List.length_append, List.length_singleton]; exact ⟨HE13.out.cur.le_K (by omega), HE13.out.out, HE13.out.gr⟩)⟩
              case measure => simp [intOf]; omega
    · obtain rfl : k = 0 := by omega
      clear hpos
      have HL := Lib.hid htl
      clear hk
      go_wp2_with fail
      refine (one_any B M 24 _ HD.out.cur (by omega) (by omega) (by omega)).mono ?_
      rintro e w2 ⟨r, rfl, hc2, hg2⟩
      have HD2 := Lib.hid (HD.out.step hc2 hg2)
      clear hc2 hg2 HD
      have hM2 : M ≤ K + 362 := by omega
      clear hM
      cases r
      · go_wp2_with fail
        go_ret
        exact ⟨_, t, rfl, by omega, ⟨⟨ob, 0, none⟩, oc, by rw [HOA.out]; rfl⟩, HD2.out.cur.le_K (by omega), HD2.out.out, HD2.out.gr⟩
      · have HD3 : Hid (DrC w (w2.alloc (.cells #[] 65 (0, 0))) B (M + 2) (.slice (some ⟨w2.heap.size, 0, none⟩) 0 0) []) := Lib.hid ⟨(HD2.out.al _).cur, CksO.empty (lo := B + 1) w2 HD2.out.cur.lt, (HD2.out.al _).gr⟩
        have HF3 : Hid (CksO w.heap.size (w2.alloc (.cells #[] 65 (0, 0))).heap.size (w2.alloc (.cells #[] 65 (0, 0))) (.slice (some ⟨w2.heap.size, 0, none⟩) 0 0) []) := Lib.hid (CksO.empty (lo := w.heap.size) w2 HD2.out.gr.size)
        clear HD2 htl HL
        go_wp2_with fail
        obtain ⟨wo, hwo⟩ : ∃ x, x = wr := ⟨_, rfl⟩
        subst hwo
        go_loopw [3, 8] (fun o n wr => ∃ (v : Value) (k : Nat) (t : List Ck), k ≤ 11 ∧ n = .int .i64 k ∧ v = o ∧ t.length = k ∧ Hid (CksO w.heap.size wr.heap.size wr v t) ∧ Hid (DrC w wr B (M + 2 + 2 * k) v t)) (fun _ n _ => 12 - (intOf n).toNat)
        case atStart => exact ⟨_, 0, [], by omega, rfl, rfl, rfl, HF3, HD3⟩
        case round =>
          clear HD3 HF3
          obtain ⟨v, k, t, hk, rfl, rfl, htk, HF, HD⟩ := hrel
          have hkp : IntKind.i64.wrap ((k : Int) + 1) = (k : Int) + 1 := Go.IntWalk.i64_in _ (by omega)
          go_wp2_with fail
          refine (pick_any B (M + 2 + 2 * k) 2 _ HD.out.cur (by omega) (by omega) (by omega)).mono ?_
          rintro e w3 ⟨d, rfl, hd0, hd1, hc3, hg3⟩
          have HD3 := Lib.hid (HD.out.step hc3 hg3)
          have HF3 := Lib.hid ((HF.out.grown hg3 hlt).wide (Nat.le_refl _) hg3.size)
          clear hc3 hg3 HD HF
          have hw : IntKind.i64.wrap (8 + d) = 8 + d := Go.IntWalk.i64_in _ (by omega)
          by_cases hq : (k : Int) < 8 + d
          · have hO : w3.ownsRow w.heap.size 65 6 v k ((t.map ckC).flatten) := by
              have := HF3.out.1.1
              rw [List.length_map, htk] at this
              exact this
            have hlt2 : decide ((k : Int) < 8 + d) = true := decide_eq_true hq
            have HOK := Lib.hid HD3.out.out.2.1
            have hl3 := HD3.out.cur.lt
            go_wp2_with (first | (at_builtin; refine wpList_append_own _ rfl _ _ 59 rfl w.heap.size 65 i0 (.agg #[.int .i64 0, .string ⟨#[]⟩, .int .i64 0, .int .i64 0, .int .i64 0, .int .i64 0]) 6 56 Try.underlying59 hi hz0 hz1 hz2 rfl (by decide) v k ((t.map ckC).flatten) rfl (hO.alloc _) ⟨w3.heap.size, 0, none⟩ 1 1 [.int .i64 ((k : Int) + 1), .string ⟨#[120]⟩, .int .i64 1, .int .i64 0, .int .i64 5, .int .i64 0] rfl rfl (cells6C_new _ _ _ _ _ _ _ _ rfl) (by simp [Value.oneCell']) (by unfold maxLen; omega) (by omega) (by simp; have := HD3.out.gr.size; omega) ?_; intro v' w4 hown' hgrow _))
            have HX : Hid (CksO w.heap.size w4.heap.size w4 v' (t ++ [⟨(k : Int) + 1, ⟨#[120]⟩, 1, 0, 5, 0⟩])) := Lib.hid (CksO.of_row (n := k + 1) (by
              have e : ((t ++ [(⟨(k : Int) + 1, ⟨#[120]⟩, 1, 0, 5, 0⟩ : Ck)]).map ckC).flatten = ((t.map ckC).flatten ++ [.int .i64 ((k : Int) + 1), .string ⟨#[120]⟩, .int .i64 1, .int .i64 0, .int .i64 5, .int .i64 0] : List Value) := by
                rw [List.map_append, List.flatten_append]
                simp [ckC]
              rw [e]; exact hown') (by simp [htk]) (fun f hf => by
              rcases List.mem_append.1 hf with h | h
              · exact HOK.out f h
              · rw [List.mem_singleton.1 h]; exact lit_okC k (by omega)))
            have hb4 : Below (B + 1) w3 w4 := Below.grown (Below.alloc (Below.refl (B + 1) w3) hl3 _) hgrow (by simp; omega) (fun kk hk => by have := (hO.lt kk hk).1; omega)
            have hb5 : w.grownBy w4 (some B) := gr_appC HD3.out.gr hgrow (fun kk hk => (hO.lt kk hk).1)
            have HE : Hid (DrC w w4 B (M + 2 + 2 * k + 2) v' (t ++ [⟨(k : Int) + 1, ⟨#[120]⟩, 1, 0, 5, 0⟩])) := Lib.hid ⟨HD3.out.cur.later hb4, HX.out.wide hlt (Nat.le_refl _), hb5⟩
            clear hown' hgrow hO hb4 hb5 HD3 HF3 HOK
            go_wp2_with fail
            go_roundw
            case rel => exact ⟨v', k + 1, t ++ [⟨(k : Int) + 1, ⟨#[120]⟩, 1, 0, 5, 0⟩], by omega, by go_num, rfl, by simp [htk], HX, Lib.hid ⟨HE.out.cur.le_K (by omega), HE.out.out, HE.out.gr⟩⟩
            case measure => simp [intOf]; omega
          · have hlt2 : decide ((k : Int) < 8 + d) = false := decide_eq_false hq
            go_wp2_with fail
            go_ret
            exact ⟨_, t, rfl, by omega, (by obtain ⟨g, c, hg⟩ := own_formC HD3.out.out.1.1 (by rw [List.length_map]; omega); exact ⟨_, c, by rw [List.length_map] at hg; exact hg⟩), HD3.out.cur.le_K (by omega), HD3.out.out, HD3.out.gr⟩
end Go.Proofs.Ytalaegkfkjpmoaa
