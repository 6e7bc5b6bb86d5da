/- PutRule, the model's. -/
import Derived.Test.YtenjajcknmfhfaaDropRuS
import Derived.Deep.RegionLaw
import Derived.Deep.RegionHeld3
namespace Go.Proofs.Ytenjajcknmfhfaa
set_option linter.unusedVariables false
open Go.RowKit Go.Sort

theorem putRes_no {t : List Ru} {r : Ru} {xs : List Ru} {b : Bool} (h : putRes t r = (xs, b)) (hn : isSch t = false ∨ isSch (putRu t r) = false) : xs = [] ∧ b = false := by
  unfold putRes at h
  rw [if_neg (by rcases hn with e | e <;> simp [e])] at h
  obtain ⟨h1, h2⟩ := Prod.mk.inj h
  exact ⟨h1.symm, h2.symm⟩
theorem putRes_yes {t : List Ru} {r : Ru} {xs : List Ru} {b : Bool} (h : putRes t r = (xs, b)) (hs : isSch t = true) (hl : isSch (putRu t r) = true) : xs = putRu t r ∧ b = true := by
  unfold putRes at h
  rw [if_pos ⟨hs, hl⟩] at h
  obtain ⟨h1, h2⟩ := Prod.mk.inj h
  exact ⟨h1.symm, h2.symm⟩

theorem cells_grown {W W' : World} {row : Option Nat} {ad : Addr} {cs : List Value} (hg : W.grownBy W' row) (hc : ∀ j u, cs[j]? = some u → W.cell? (ad.add j) = some u) (hne : some ad.block ≠ row) : ∀ j u, cs[j]? = some u → W'.cell? (ad.add j) = some u := fun j u hj =>
  (World.cell?_of_block (w := W) (hg.block _ (World.block_lt_of_cell? _ _ (hc j u hj)) (by show some (ad.add j).block ≠ row; rw [show (ad.add j).block = ad.block by unfold Addr.add; split <;> rfl]; exact hne))).trans (hc j u hj)

set_option maxRecDepth 20000 in
set_option maxHeartbeats 8000000 in
theorem specPutRule_any (v : Value) (t : List Ru) (r : Ru) (w : World) (h : RowR 4 rRu w v t) (hr : r.ok) (hn : t.length ≤ 1048576) (xs : List Ru) (b : Bool) (hres : putRes t r = (xs, b)) :
    Calls Try.prog 138 #[v, .agg #[.int .i64 r.series, .int .i64 r.event, .int .i64 r.days, .int .i64 r.act]] w fun e w' => ∃ v', e = .returned (.tuple #[v', .bool b]) ∧ RusO w.heap.size w'.heap.size w' v' xs ∧ Below w.heap.size w w' := by
  obtain ⟨i0, hi, hz0, hz1, hz2⟩ := info_parts Try.info_ru
  have H := Lib.hid h
  have HRES := Lib.hid hres
  have HOK := Lib.hid h.rus_ok
  have HR := Lib.hid hr
  obtain ⟨a, c, hv, hl1, hm1, _⟩ := h.rus
  subst hv
  unfold maxLen at hm1
  obtain ⟨bs, hs⟩ : ∃ b, isSch t = b := ⟨_, rfl⟩
  obtain ⟨bo, ho⟩ : ∃ b, isRu r = b := ⟨_, rfl⟩
  have HS := Lib.hid hs
  have HO := Lib.hid ho
  have H1 := fun W => specRu_any r W
  rw [ho] at H1
  obtain ⟨r0, r1, r2, r3⟩ := r
  simp only at H1
  have H1H := Lib.hid H1
  clear h hr hres hs ho H1
  cases bs
  · obtain ⟨rfl, rfl⟩ := putRes_no HRES.out (.inl HS.out)
    go_enter Try.func138, Try.ntmps138
    go_wp2_with (first | (go_at_call 86; refine (l4Good_any _ t _ (H.out.below rRu_stable (below_al (Below.refl _ _) _))).mono ?_; rw [HS.out]; rintro e w1 ⟨rfl, b1⟩; have zz0 := cell_kept (cell_new (v := .int .i64 r0) w #[.int .i64 r0, .int .i64 r1, .int .i64 r2, .int .i64 r3] 56 0 rfl) b1; have zz1 := cell_kept (cell_new (v := .int .i64 r1) w #[.int .i64 r0, .int .i64 r1, .int .i64 r2, .int .i64 r3] 56 1 rfl) b1; have zz2 := cell_kept (cell_new (v := .int .i64 r2) w #[.int .i64 r0, .int .i64 r1, .int .i64 r2, .int .i64 r3] 56 2 rfl) b1; have zz3 := cell_kept (cell_new (v := .int .i64 r3) w #[.int .i64 r0, .int .i64 r1, .int .i64 r2, .int .i64 r3] 56 3 rfl) b1))
    go_ret2
    exact ⟨_, rfl, RusO.empty _ (below_chain (below_al (Below.refl _ _) _) b1).size, below_al (below_chain (below_al (Below.refl _ _) _) b1) _⟩
  · cases bo
    · obtain ⟨rfl, rfl⟩ := putRes_no HRES.out (.inr (put_valid HO.out))
      go_enter Try.func138, Try.ntmps138
      go_wp2_with (first | (go_at_call 86; refine (l4Good_any _ t _ (H.out.below rRu_stable (below_al (Below.refl _ _) _))).mono ?_; rw [HS.out]; rintro e w1 ⟨rfl, b1⟩; have zz0 := cell_kept (cell_new (v := .int .i64 r0) w #[.int .i64 r0, .int .i64 r1, .int .i64 r2, .int .i64 r3] 56 0 rfl) b1; have zz1 := cell_kept (cell_new (v := .int .i64 r1) w #[.int .i64 r0, .int .i64 r1, .int .i64 r2, .int .i64 r3] 56 1 rfl) b1; have zz2 := cell_kept (cell_new (v := .int .i64 r2) w #[.int .i64 r0, .int .i64 r1, .int .i64 r2, .int .i64 r3] 56 2 rfl) b1; have zz3 := cell_kept (cell_new (v := .int .i64 r3) w #[.int .i64 r0, .int .i64 r1, .int .i64 r2, .int .i64 r3] 56 3 rfl) b1) | (go_at_call 141; refine (H1H.out _).mono ?_; rintro e w2 ⟨rfl, b2⟩; have z0 := cell_kept zz0 b2; have z1 := cell_kept zz1 b2; have z2 := cell_kept zz2 b2; have z3 := cell_kept zz3 b2))
      go_ret2
      exact ⟨_, rfl, RusO.empty _ (below_chain (below_chain (below_al (Below.refl _ _) _) b1) b2).size, below_al (below_chain (below_chain (below_al (Below.refl _ _) _) b1) b2) _⟩
    · obtain ⟨D, hD⟩ : ∃ D, delRu t ⟨r0, r1, r2, r3⟩ = D := ⟨_, rfl⟩
      have hDl : D.length ≤ 8 := by rw [← hD]; exact Nat.le_trans (delRu_len t _) (sch_len HS.out)
      have HD := Lib.hid hD
      clear hD
      go_enter Try.func138, Try.ntmps138
      go_wp2_with (first | (go_at_call 86; refine (l4Good_any _ t _ (H.out.below rRu_stable (below_al (Below.refl _ _) _))).mono ?_; rw [HS.out]; rintro e w1 ⟨rfl, b1⟩; have zz0 := cell_kept (cell_new (v := .int .i64 r0) w #[.int .i64 r0, .int .i64 r1, .int .i64 r2, .int .i64 r3] 56 0 rfl) b1; have zz1 := cell_kept (cell_new (v := .int .i64 r1) w #[.int .i64 r0, .int .i64 r1, .int .i64 r2, .int .i64 r3] 56 1 rfl) b1; have zz2 := cell_kept (cell_new (v := .int .i64 r2) w #[.int .i64 r0, .int .i64 r1, .int .i64 r2, .int .i64 r3] 56 2 rfl) b1; have zz3 := cell_kept (cell_new (v := .int .i64 r3) w #[.int .i64 r0, .int .i64 r1, .int .i64 r2, .int .i64 r3] 56 3 rfl) b1) | (go_at_call 141; refine (H1H.out _).mono ?_; rintro e w2 ⟨rfl, b2⟩; have z0 := cell_kept zz0 b2; have z1 := cell_kept zz1 b2; have z2 := cell_kept zz2 b2; have z3 := cell_kept zz3 b2) | (go_at_call 165; refine (l4Without_any _ t ⟨r0, r1, r2, r3⟩ _ (H.out.below rRu_stable (below_chain (below_chain (below_al (Below.refl _ _) _) b1) b2)) hn).mono ?_; rw [HD.out]; rintro e w3 ⟨v3, rfl, ho3, b3, adD, nD, cD1, eD1⟩; subst eD1; obtain ⟨g, capD, ev, hgl, hgs, hcD, hcM⟩ := ho3.1.form.resolve_left (fun e => by cases e.1); rw [List.length_map] at ev hcD; cases ev; have HO3 := Lib.hid ho3; have HB3 := Lib.hid (below_chain (below_chain (below_chain (below_al (Below.refl _ _) _) b1) b2) b3); replace z0 := cell_kept z0 b3; replace z1 := cell_kept z1 b3; replace z2 := cell_kept z2 b3; replace z3 := cell_kept z3 b3; clear ho3 b1 b2 b3 zz0 zz1 zz2 zz3))
      have hsz3 := HB3.out.size
      unfold maxLen at hcM
      obtain ⟨_, cD, eD, hl2, hm2, rD⟩ := HO3.out.row.rus
      cases eD
      have RD := Lib.hid rD
      clear rD
      unfold maxLen at hm2
      have cD0 := z0
      go_loopw [7] (fun i wr => ∃ k : Nat, k ≤ D.length ∧ i = .int .i64 k ∧ Hid (∀ j, j < k → bef (D.getD j ruD) ⟨r0, r1, r2, r3⟩ = true) ∧ Below w3.heap.size w3 wr) (fun i _ => D.length - (intOf i).toNat)
      case atStart => exact ⟨0, Nat.zero_le _, rfl, Lib.hid (fun j hj => absurd hj (Nat.not_lt_zero _)), Below.refl _ _⟩
      case round =>
        obtain ⟨k, hk, rfl, HK, hb⟩ := hrel
        have hsz := hb.size
        have y0 := cell_kept z0 hb
        have y1 := cell_kept z1 hb
        have y2 := cell_kept z2 hb
        have y3 := cell_kept z3 hb
        by_cases hlt : k < D.length
        · obtain ⟨f, hx⟩ : ∃ s, D.getD k ruD = s := ⟨_, rfl⟩
          obtain ⟨bD, oD, hbD, eeD, e1⟩ := RD.out.resolve_left (fun e => by rw [e] at hlt; simp at hlt)
          cases eeD
          obtain ⟨q0, q1, q2, q3, hok⟩ := e1 k hlt
          rw [hx] at q0 q1 q2 q3 hok
          obtain ⟨x0, x1, x2, x3⟩ := f
          simp only [Nat.zero_add] at q0 q1 q2 q3
          have f0 := cell_kept q0 hb
          have f1 := cell_kept q1 hb
          have f2 := cell_kept q2 hb
          have f3 := cell_kept q3 hb
          have HX := Lib.hid hx
          have g0 : (0 : Int) ≤ (k : Int) := by omega
          have g1 : (k : Int) < (D.length : Int) := by omega
          obtain ⟨bB, hbB⟩ : ∃ b, bef ⟨x0, x1, x2, x3⟩ ⟨r0, r1, r2, r3⟩ = b := ⟨_, rfl⟩
          have HBB := Lib.hid hbB
          have m0 := cell_regrown f0
          have m1 := cell_regrown f1
          have m2 := cell_regrown f2
          have m3 := cell_regrown f3
          have n0 := cell_regrown y0
          have n1 := cell_regrown y1
          have n2 := cell_regrown y2
          have n3 := cell_regrown y3
          have hd : ∀ d os, Calls Try.prog 142 #[.agg #[.int .i64 x0, .int .i64 x1, .int .i64 x2, .int .i64 x3], .agg #[.int .i64 r0, .int .i64 r1, .int .i64 r2, .int .i64 r3]] (grow (redrawn wr d) os) fun e w'' => e = .returned (.bool bB) ∧ ∃ p : Regrown, w'' = grow (redrawn wr p.d) p.os := fun d os => Calls.regrown_of (by have := specBef_any ⟨x0, x1, x2, x3⟩ ⟨r0, r1, r2, r3⟩ (grow (redrawn wr d) os); rwa [HBB.out] at this)
          clear q0 q1 q2 q3 hok hx e1 hbB
          cases bB
          · go_wp2_with fail
            refine wp_region_quiet_below (by kernel_rfl) (by kernel_rfl) ?_
            repeat (go_big_quiet_step (first | exact hd _ _))
            refine wpQuiet_nil ?_
            intro _ hw'
            obtain ⟨⟨dq, osq⟩, hw''⟩ := hw'
            subst hw''
            have bq := below_regrown wr dq osq
            have hb4 := hb.trans (bq.mono hsz)
            have HT : Hid (putRu t ⟨r0, r1, r2, r3⟩ = D.take k ++ ⟨r0, r1, r2, r3⟩ :: D.drop k) := Lib.hid (by
              have e := put_spec (r := ⟨r0, r1, r2, r3⟩) (k := k) HS.out (by rw [HD.out]; exact hk) (by rw [HD.out]; exact HK.out) (by rw [HD.out]; intro _; rw [HX.out]; exact HBB.out)
              rwa [HD.out] at e)
            generalize grow (redrawn wr dq) osq = w4 at *
            clear m0 m1 m2 m3 n0 n1 n2 n3 hd f0 f1 f2 f3 y0 y1 y2 y3 bq hb HX HBB
            have hO4 := HO3.out.below hb4
            have hcells := rus_cells hO4.row
            obtain ⟨NEWS1, hN1⟩ : ∃ N, ((D.take k).map ruC).flatten = N := ⟨_, rfl⟩
            obtain ⟨NEWS2, hN2⟩ : ∃ N, ((D.drop k).map ruC).flatten = N := ⟨_, rfl⟩
            have HL1 : Hid (NEWS1.length = k * 4) := Lib.hid (by rw [← hN1, flat_map_len ruC_len, List.length_take, Nat.min_eq_left hk])
            have HL2 : Hid (NEWS2.length = (D.length - k) * 4) := Lib.hid (by rw [← hN2, flat_map_len ruC_len, List.length_drop])
            have HO1 : Hid (∀ u ∈ NEWS1, u.oneCell' = true) := Lib.hid (by rw [← hN1]; exact flat_one ruC_one _)
            have HO2 : Hid (∀ u ∈ NEWS2, u.oneCell' = true) := Lib.hid (by rw [← hN2]; exact flat_one ruC_one _)
            have HN1 : Hid (∀ W, Below w4.heap.size w4 W → ∀ j u, NEWS1[j]? = some u → W.cell? ((⟨g, 0, none⟩ : Addr).add j) = some u) := Lib.hid (fun W hW j u hj => by
              refine hcells W hW j u ?_
              rw [← hN1, ← flatC_take ruC_len, List.getElem?_take] at hj
              split at hj
              · exact hj
              · cases hj)
            obtain ⟨adr, hA, hN2c⟩ : ∃ A : Addr, (if cD1 = k then some (⟨g, 0, none⟩ : Addr) else some ⟨g, k * 4, none⟩) = some A ∧ Hid (∀ W, Below w4.heap.size w4 W → ∀ j u, NEWS2[j]? = some u → W.cell? (A.add j) = some u) := by
              by_cases hc : cD1 = k
              · refine ⟨⟨g, 0, none⟩, by simp [hc], Lib.hid (fun W hW j u hj => ?_)⟩
                have h0 : NEWS2.length = 0 := by rw [HL2.out]; omega
                rw [List.length_eq_zero_iff.1 h0] at hj
                simp at hj
              · refine ⟨⟨g, k * 4, none⟩, by simp [hc], Lib.hid (fun W hW j u hj => ?_)⟩
                rw [Addr.add_lit]
                have := hcells W hW (k * 4 + j) u (by rw [← dropC_at ruC_len hk, hN2]; exact hj)
                rw [Addr.add_lit, Nat.zero_add] at this
                exact this
            have HN2 := hN2c
            have HN1E := Lib.hid hN1
            have HN2E := Lib.hid hN2
            have y0 := cell_kept z0 hb4
            have y1 := cell_kept z1 hb4
            have y2 := cell_kept z2 hb4
            have y3 := cell_kept z3 hb4
            have Y0 := Lib.hid y0
            have Y1 := Lib.hid y1
            have Y2 := Lib.hid y2
            have Y3 := Lib.hid y3
            have s34 := hb4.size
            have b0 : Below w4.heap.size w4 w4.drew := (Below.refl _ _).drew
            have kI0 : (0 : Int) ≤ (k : Int) := by omega
            have kI1 : (k : Int) ≤ (D.length : Int) := by omega
            have kc : k ≤ cD1 := by omega
            clear hN1 hN2 hN2c hcells hO4 cD0
            go_wp2_with fail
            go_region_held3 (fun w' => w'.cell? ⟨w.heap.size, 0, none⟩ = some (.int .i64 r0) ∧ w'.cell? ⟨w.heap.size, 1, none⟩ = some (.int .i64 r1) ∧ w'.cell? ⟨w.heap.size, 2, none⟩ = some (.int .i64 r2) ∧ w'.cell? ⟨w.heap.size, 3, none⟩ = some (.int .i64 r3)) (first | exact ⟨y0, y1, y2, y3⟩ | go_keep) (first | (rw [if_pos (by rfl)]; refine wp_append_own _ _ _ _ rfl w4.heap.size 56 i0 (.agg #[.int .i64 0, .int .i64 0, .int .i64 0, .int .i64 0]) 4 32 Try.underlying40 hi hz0 hz1 hz2 rfl (by decide) (.slice (some ⟨w4.heap.size, 0, none⟩) 0 0) 0 [] (by rfl) (by first | exact World.ownsRow_made w4.drew #[] 0 (Nat.le_refl _) (Nat.zero_le _) rfl | exact World.ownsRow.alloc (World.ownsRow_made w4.drew #[] 0 (Nat.le_refl _) (Nat.zero_le _) rfl) _) ⟨g, 0, none⟩ k cD1 NEWS1 (by rfl) HL1.out (by exact HN1.out _ (by first | exact below_al b0 _ | exact below_al (below_al b0 _) _)) HO1.out (by unfold maxLen; omega) (by omega) (by (first | omega | (simp; done) | (simp; omega))) ?_; intro v5 w5 hown5 hg5 _; have b5 : Below w4.heap.size w4 w5 := Below.grown (by first | exact below_al b0 _ | exact below_al (below_al b0 _) _) hg5 (by (first | omega | (simp; done) | (simp; omega))) (by intro kk hk; cases hk; exact Nat.le_refl _); have s5 := b5.size; replace y0 := cell_kept Y0.out b5; replace y1 := cell_kept Y1.out b5; replace y2 := cell_kept Y2.out b5; replace y3 := cell_kept Y3.out b5) | (rw [if_pos (by rfl)]; refine wp_append_own _ _ _ _ rfl w4.heap.size 56 i0 (.agg #[.int .i64 0, .int .i64 0, .int .i64 0, .int .i64 0]) 4 32 Try.underlying40 hi hz0 hz1 hz2 rfl (by decide) (.slice (some ⟨w4.heap.size + 1, 0, none⟩) 0 0) 0 [] (by rfl) (by have hh := World.ownsRow_made (base := w4.heap.size) (e := 56) (size := 4) (w4.drew.alloc (.cells #[.int .i64 r0, .int .i64 r1, .int .i64 r2, .int .i64 r3] 56 (0, 0))) #[] 0 (by simp) (Nat.zero_le _) rfl; rw [show (w4.drew.alloc (.cells #[.int .i64 r0, .int .i64 r1, .int .i64 r2, .int .i64 r3] 56 (0, 0))).heap.size = w4.heap.size + 1 by simp] at hh; exact hh) ⟨g, 0, none⟩ k cD1 NEWS1 (by rfl) HL1.out (by exact HN1.out _ (by first | exact below_al b0 _ | exact below_al (below_al b0 _) _)) HO1.out (by unfold maxLen; omega) (by omega) (by (first | omega | (simp; done) | (simp; omega))) ?_; intro v5 w5 hown5 hg5 _; have b5 : Below w4.heap.size w4 w5 := Below.grown (by first | exact below_al b0 _ | exact below_al (below_al b0 _) _) hg5 (by (first | omega | (simp; done) | (simp; omega))) (by intro kk hk; cases hk; exact Nat.le_succ _); have s5 := b5.size; replace y0 := cell_kept Y0.out b5; replace y1 := cell_kept Y1.out b5; replace y2 := cell_kept Y2.out b5; replace y3 := cell_kept Y3.out b5) | (rw [if_pos (by rfl)]; refine wp_append_own _ _ _ _ rfl w4.heap.size 56 i0 (.agg #[.int .i64 0, .int .i64 0, .int .i64 0, .int .i64 0]) 4 32 Try.underlying40 hi hz0 hz1 hz2 rfl (by decide) v5 (0 + k) ([] ++ NEWS1) (by rfl) (by exact hown5.alloc _) ⟨w5.heap.size, 0, none⟩ 1 1 [.int .i64 r0, .int .i64 r1, .int .i64 r2, .int .i64 r3] (by rfl) rfl (by exact cells4_new' _ _ _ _ _ _ rfl) (by simp [Value.oneCell']) (by unfold maxLen; omega) (by omega) (by (first | omega | (simp; done) | (simp; omega))) ?_; intro v6 w6 hown6 hg6 _; have b6 : Below w4.heap.size w4 w6 := Below.grown (by first | exact b5 | exact below_al b5 _) hg6 (by (first | omega | (simp; done) | (simp; omega))) (by exact fun kk hk => (hown5.lt kk hk).1); have s6 := b6.size; replace y0 := cell_kept Y0.out b6; replace y1 := cell_kept Y1.out b6; replace y2 := cell_kept Y2.out b6; replace y3 := cell_kept Y3.out b6) | (rw [if_pos (by rfl)]; refine wp_append_own _ _ _ _ rfl w4.heap.size 56 i0 (.agg #[.int .i64 0, .int .i64 0, .int .i64 0, .int .i64 0]) 4 32 Try.underlying40 hi hz0 hz1 hz2 rfl (by decide) v5 (0 + k) ([] ++ NEWS1) (by rfl) (by exact hown5) ⟨w4.heap.size + 1, 0, none⟩ 1 1 [.int .i64 r0, .int .i64 r1, .int .i64 r2, .int .i64 r3] (by rfl) rfl (by exact cells_grown hg5 (cells4_new' _ _ _ _ _ _ (by simp)) (by simp [Value.ownBlock])) (by simp [Value.oneCell']) (by unfold maxLen; omega) (by omega) (by (first | omega | (simp; done) | (simp; omega))) ?_; intro v6 w6 hown6 hg6 _; have b6 : Below w4.heap.size w4 w6 := Below.grown (by first | exact b5 | exact below_al b5 _) hg6 (by (first | omega | (simp; done) | (simp; omega))) (by exact fun kk hk => (hown5.lt kk hk).1); have s6 := b6.size; replace y0 := cell_kept Y0.out b6; replace y1 := cell_kept Y1.out b6; replace y2 := cell_kept Y2.out b6; replace y3 := cell_kept Y3.out b6) | (rw [if_pos (by rfl)]; refine wp_append_own _ _ _ _ rfl w4.heap.size 56 i0 (.agg #[.int .i64 0, .int .i64 0, .int .i64 0, .int .i64 0]) 4 32 Try.underlying40 hi hz0 hz1 hz2 rfl (by decide) v5 (0 + k) ([] ++ NEWS1) (by rfl) (by exact hown5) ⟨w4.heap.size, 0, none⟩ 1 1 [.int .i64 r0, .int .i64 r1, .int .i64 r2, .int .i64 r3] (by rfl) rfl (by exact cells_grown hg5 (fun j u hj => below_al_cell (cells4_new' _ _ _ _ _ _ rfl j u hj) _) (by simp [Value.ownBlock])) (by simp [Value.oneCell']) (by unfold maxLen; omega) (by omega) (by (first | omega | (simp; done) | (simp; omega))) ?_; intro v6 w6 hown6 hg6 _; have b6 : Below w4.heap.size w4 w6 := Below.grown (by first | exact b5 | exact below_al b5 _) hg6 (by (first | omega | (simp; done) | (simp; omega))) (by exact fun kk hk => (hown5.lt kk hk).1); have s6 := b6.size; replace y0 := cell_kept Y0.out b6; replace y1 := cell_kept Y1.out b6; replace y2 := cell_kept Y2.out b6; replace y3 := cell_kept Y3.out b6) | (rw [if_pos (by rfl)]; refine wp_append_own _ _ _ _ rfl w4.heap.size 56 i0 (.agg #[.int .i64 0, .int .i64 0, .int .i64 0, .int .i64 0]) 4 32 Try.underlying40 hi hz0 hz1 hz2 rfl (by decide) v6 (0 + k + 1) ([] ++ NEWS1 ++ [.int .i64 r0, .int .i64 r1, .int .i64 r2, .int .i64 r3]) (by rfl) (by exact hown6) adr (D.length - k) (cD1 - k) NEWS2 (by rfl) HL2.out (by exact HN2.out _ b6) HO2.out (by unfold maxLen; omega) (by omega) (by (first | omega | (simp; done) | (simp; omega))) ?_; intro v7 w7 hown7 hg7 _; have b7 : Below w4.heap.size w4 w7 := Below.grown (by exact b6) hg7 (by (first | omega | (simp; done) | (simp; omega))) (by exact fun kk hk => (hown6.lt kk hk).1); have s7 := b7.size; replace y0 := cell_kept Y0.out b7; replace y1 := cell_kept Y1.out b7; replace y2 := cell_kept Y2.out b7; replace y3 := cell_kept Y3.out b7))
            all_goals
              have hown8 := ownsRow_base_a' hown7 (base' := w.heap.size) (by omega)
              have hF : RusO w.heap.size w7.heap.size w7 v7 (D.take k ++ ⟨r0, r1, r2, r3⟩ :: D.drop k) := RusO.of_row (n := 0 + k + 1 + (D.length - k)) (by
                have e : ((D.take k ++ (⟨r0, r1, r2, r3⟩ : Ru) :: D.drop k).map ruC).flatten = ([] ++ NEWS1 ++ [.int .i64 r0, .int .i64 r1, .int .i64 r2, .int .i64 r3] ++ NEWS2 : List Value) := by
                  rw [List.map_append, List.flatten_append, List.map_cons, List.flatten_cons, HN1E.out, HN2E.out]
                  simp [ruC]
                rw [e]; exact hown8) (by rw [List.length_append, List.length_cons, List.length_take, List.length_drop]; omega) (fun f hf => by
                rcases List.mem_append.1 hf with h | h
                · exact HO3.out.2.1 f (List.mem_of_mem_take h)
                · rcases List.mem_cons.1 h with h | h
                  · subst h; exact HR.out
                  · exact HO3.out.2.1 f (List.mem_of_mem_drop h))
              have HF := Lib.hid hF
              have HB7 := Lib.hid b7
              have hb7' : Below w.heap.size w w7 := HB3.out.trans ((hb4.trans (b7.mono s34)).mono hsz3)
              have HB77 := Lib.hid hb7'
              clear hown8 hown7 hown6 hown5 hg5 hg6 hg7 b5 b6 b7 s5 s6 y0 y1 y2 y3 Y0 Y1 Y2 Y3 hF hb7' HN1 HN2 hA HL1 HL2 HO1 HO2
              obtain ⟨bA, hbA⟩ : ∃ b, isSch (D.take k ++ ⟨r0, r1, r2, r3⟩ :: D.drop k) = b := ⟨_, rfl⟩
              have HBA := Lib.hid hbA
              clear hbA
              obtain ⟨ga, gn, gc, rfl⟩ := HF.out.1.slice
              go_wp2_with fail
              refine (l4Good_any _ (D.take k ++ ⟨r0, r1, r2, r3⟩ :: D.drop k) _ HF.out.row).mono ?_
              rw [HBA.out]
              rintro e w8 ⟨rfl, b8⟩
              have hb8 : Below w.heap.size w w8 := HB77.out.trans (b8.mono HB77.out.size)
              have HF8 := Lib.hid (HF.out.below b8)
              have s8 := b8.size
              clear b8
              cases bA
              · obtain ⟨rfl, rfl⟩ := putRes_no HRES.out (.inr (by rw [HT.out]; exact HBA.out))
                go_wp2_with fail
                go_ret2
                exact ⟨_, rfl, RusO.empty _ hb8.size, below_al hb8 _⟩
              · obtain ⟨rfl, rfl⟩ := putRes_yes HRES.out HS.out (by rw [HT.out]; exact HBA.out)
                go_wp2_with fail
                go_ret2
                exact ⟨_, rfl, by rw [HT.out]; exact HF8.out.wide (Nat.le_refl _) s8, hb8⟩
          · go_wp2_with fail
            refine wp_region_quiet_below (by kernel_rfl) (by kernel_rfl) ?_
            repeat (go_big_quiet_step (first | exact hd _ _))
            refine wpQuiet_nil ?_
            intro _ hw'
            obtain ⟨⟨dq, osq⟩, hw''⟩ := hw'
            subst hw''
            have bq := below_regrown wr dq osq
            have hb4 := hb.trans (bq.mono hsz)
            generalize grow (redrawn wr dq) osq = w4 at *
            go_wp2_with fail
            go_roundw
            case rel =>
              refine ⟨k + 1, by omega, by go_num, Lib.hid (fun j hj => ?_), hb4⟩
              rcases Nat.lt_or_ge j k with h' | h'
              · exact HK.out j h'
              · obtain rfl : j = k := by omega
                rw [HX.out]; exact HBB.out
            case measure => simp [intOf]; omega
        · have hkl : k = D.length := by omega
          have HT : Hid (putRu t ⟨r0, r1, r2, r3⟩ = D.take k ++ ⟨r0, r1, r2, r3⟩ :: D.drop k) := Lib.hid (by
            have e := put_spec (r := ⟨r0, r1, r2, r3⟩) (k := k) HS.out (by rw [HD.out]; exact hk) (by rw [HD.out]; exact HK.out) (by rw [HD.out]; intro h; omega)
            rwa [HD.out] at e)
          have m0 := cell_regrown y0
          have m1 := cell_regrown y1
          have m2 := cell_regrown y2
          have m3 := cell_regrown y3
          have hd : True := trivial
          have HKL := Lib.hid hkl
          clear hkl
          go_wp2_with fail
          refine wp_region_quiet_below (by kernel_rfl) (by kernel_rfl) ?_
          repeat (go_big_quiet_step (first | fail))
          refine wpQuiet_nil ?_
          intro _ hw'
          obtain ⟨⟨dq, osq⟩, hw''⟩ := hw'
          subst hw''
          have bq := below_regrown wr dq osq
          have hb4 := hb.trans (bq.mono hsz)
          generalize grow (redrawn wr dq) osq = w4 at *
          clear m0 m1 m2 m3 y0 y1 y2 y3 bq hb
          have hO4 := HO3.out.below hb4
          have hcells := rus_cells hO4.row
          obtain ⟨NEWS1, hN1⟩ : ∃ N, ((D.take k).map ruC).flatten = N := ⟨_, rfl⟩
          obtain ⟨NEWS2, hN2⟩ : ∃ N, ((D.drop k).map ruC).flatten = N := ⟨_, rfl⟩
          have HL1 : Hid (NEWS1.length = k * 4) := Lib.hid (by rw [← hN1, flat_map_len ruC_len, List.length_take, Nat.min_eq_left hk])
          have HL2 : Hid (NEWS2.length = (D.length - k) * 4) := Lib.hid (by rw [← hN2, flat_map_len ruC_len, List.length_drop])
          have HO1 : Hid (∀ u ∈ NEWS1, u.oneCell' = true) := Lib.hid (by rw [← hN1]; exact flat_one ruC_one _)
          have HO2 : Hid (∀ u ∈ NEWS2, u.oneCell' = true) := Lib.hid (by rw [← hN2]; exact flat_one ruC_one _)
          have HN1 : Hid (∀ W, Below w4.heap.size w4 W → ∀ j u, NEWS1[j]? = some u → W.cell? ((⟨g, 0, none⟩ : Addr).add j) = some u) := Lib.hid (fun W hW j u hj => by
            refine hcells W hW j u ?_
            rw [← hN1, ← flatC_take ruC_len, List.getElem?_take] at hj
            split at hj
            · exact hj
            · cases hj)
          obtain ⟨adr, hA, hN2c⟩ : ∃ A : Addr, (if cD1 = k then some (⟨g, 0, none⟩ : Addr) else some ⟨g, k * 4, none⟩) = some A ∧ Hid (∀ W, Below w4.heap.size w4 W → ∀ j u, NEWS2[j]? = some u → W.cell? (A.add j) = some u) := by
            by_cases hc : cD1 = k
            · refine ⟨⟨g, 0, none⟩, by simp [hc], Lib.hid (fun W hW j u hj => ?_)⟩
              have h0 : NEWS2.length = 0 := by rw [HL2.out]; omega
              rw [List.length_eq_zero_iff.1 h0] at hj
              simp at hj
            · refine ⟨⟨g, k * 4, none⟩, by simp [hc], Lib.hid (fun W hW j u hj => ?_)⟩
              rw [Addr.add_lit]
              have := hcells W hW (k * 4 + j) u (by rw [← dropC_at ruC_len hk, hN2]; exact hj)
              rw [Addr.add_lit, Nat.zero_add] at this
              exact this
          have HN2 := hN2c
          have HN1E := Lib.hid hN1
          have HN2E := Lib.hid hN2
          have y0 := cell_kept z0 hb4
          have y1 := cell_kept z1 hb4
          have y2 := cell_kept z2 hb4
          have y3 := cell_kept z3 hb4
          have Y0 := Lib.hid y0
          have Y1 := Lib.hid y1
          have Y2 := Lib.hid y2
          have Y3 := Lib.hid y3
          have s34 := hb4.size
          have b0 : Below w4.heap.size w4 w4.drew := (Below.refl _ _).drew
          have kI0 : (0 : Int) ≤ (k : Int) := by omega
          have kI1 : (k : Int) ≤ (D.length : Int) := by omega
          have kc : k ≤ cD1 := by omega
          clear hN1 hN2 hN2c hcells hO4 cD0
          go_wp2_with fail
          go_region_held3 (fun w' => w'.cell? ⟨w.heap.size, 0, none⟩ = some (.int .i64 r0) ∧ w'.cell? ⟨w.heap.size, 1, none⟩ = some (.int .i64 r1) ∧ w'.cell? ⟨w.heap.size, 2, none⟩ = some (.int .i64 r2) ∧ w'.cell? ⟨w.heap.size, 3, none⟩ = some (.int .i64 r3)) (first | exact ⟨y0, y1, y2, y3⟩ | go_keep) (first | (rw [if_pos (by rfl)]; refine wp_append_own _ _ _ _ rfl w4.heap.size 56 i0 (.agg #[.int .i64 0, .int .i64 0, .int .i64 0, .int .i64 0]) 4 32 Try.underlying40 hi hz0 hz1 hz2 rfl (by decide) (.slice (some ⟨w4.heap.size, 0, none⟩) 0 0) 0 [] (by rfl) (by first | exact World.ownsRow_made w4.drew #[] 0 (Nat.le_refl _) (Nat.zero_le _) rfl | exact World.ownsRow.alloc (World.ownsRow_made w4.drew #[] 0 (Nat.le_refl _) (Nat.zero_le _) rfl) _) ⟨g, 0, none⟩ k cD1 NEWS1 (by rfl) HL1.out (by exact HN1.out _ (by first | exact below_al b0 _ | exact below_al (below_al b0 _) _)) HO1.out (by unfold maxLen; omega) (by omega) (by (first | omega | (simp; done) | (simp; omega))) ?_; intro v5 w5 hown5 hg5 _; have b5 : Below w4.heap.size w4 w5 := Below.grown (by first | exact below_al b0 _ | exact below_al (below_al b0 _) _) hg5 (by (first | omega | (simp; done) | (simp; omega))) (by intro kk hk; cases hk; exact Nat.le_refl _); have s5 := b5.size; replace y0 := cell_kept Y0.out b5; replace y1 := cell_kept Y1.out b5; replace y2 := cell_kept Y2.out b5; replace y3 := cell_kept Y3.out b5) | (rw [if_pos (by rfl)]; refine wp_append_own _ _ _ _ rfl w4.heap.size 56 i0 (.agg #[.int .i64 0, .int .i64 0, .int .i64 0, .int .i64 0]) 4 32 Try.underlying40 hi hz0 hz1 hz2 rfl (by decide) (.slice (some ⟨w4.heap.size + 1, 0, none⟩) 0 0) 0 [] (by rfl) (by have hh := World.ownsRow_made (base := w4.heap.size) (e := 56) (size := 4) (w4.drew.alloc (.cells #[.int .i64 r0, .int .i64 r1, .int .i64 r2, .int .i64 r3] 56 (0, 0))) #[] 0 (by simp) (Nat.zero_le _) rfl; rw [show (w4.drew.alloc (.cells #[.int .i64 r0, .int .i64 r1, .int .i64 r2, .int .i64 r3] 56 (0, 0))).heap.size = w4.heap.size + 1 by simp] at hh; exact hh) ⟨g, 0, none⟩ k cD1 NEWS1 (by rfl) HL1.out (by exact HN1.out _ (by first | exact below_al b0 _ | exact below_al (below_al b0 _) _)) HO1.out (by unfold maxLen; omega) (by omega) (by (first | omega | (simp; done) | (simp; omega))) ?_; intro v5 w5 hown5 hg5 _; have b5 : Below w4.heap.size w4 w5 := Below.grown (by first | exact below_al b0 _ | exact below_al (below_al b0 _) _) hg5 (by (first | omega | (simp; done) | (simp; omega))) (by intro kk hk; cases hk; exact Nat.le_succ _); have s5 := b5.size; replace y0 := cell_kept Y0.out b5; replace y1 := cell_kept Y1.out b5; replace y2 := cell_kept Y2.out b5; replace y3 := cell_kept Y3.out b5) | (rw [if_pos (by rfl)]; refine wp_append_own _ _ _ _ rfl w4.heap.size 56 i0 (.agg #[.int .i64 0, .int .i64 0, .int .i64 0, .int .i64 0]) 4 32 Try.underlying40 hi hz0 hz1 hz2 rfl (by decide) v5 (0 + k) ([] ++ NEWS1) (by rfl) (by exact hown5.alloc _) ⟨w5.heap.size, 0, none⟩ 1 1 [.int .i64 r0, .int .i64 r1, .int .i64 r2, .int .i64 r3] (by rfl) rfl (by exact cells4_new' _ _ _ _ _ _ rfl) (by simp [Value.oneCell']) (by unfold maxLen; omega) (by omega) (by (first | omega | (simp; done) | (simp; omega))) ?_; intro v6 w6 hown6 hg6 _; have b6 : Below w4.heap.size w4 w6 := Below.grown (by first | exact b5 | exact below_al b5 _) hg6 (by (first | omega | (simp; done) | (simp; omega))) (by exact fun kk hk => (hown5.lt kk hk).1); have s6 := b6.size; replace y0 := cell_kept Y0.out b6; replace y1 := cell_kept Y1.out b6; replace y2 := cell_kept Y2.out b6; replace y3 := cell_kept Y3.out b6) | (rw [if_pos (by rfl)]; refine wp_append_own _ _ _ _ rfl w4.heap.size 56 i0 (.agg #[.int .i64 0, .int .i64 0, .int .i64 0, .int .i64 0]) 4 32 Try.underlying40 hi hz0 hz1 hz2 rfl (by decide) v5 (0 + k) ([] ++ NEWS1) (by rfl) (by exact hown5) ⟨w4.heap.size + 1, 0, none⟩ 1 1 [.int .i64 r0, .int .i64 r1, .int .i64 r2, .int .i64 r3] (by rfl) rfl (by exact cells_grown hg5 (cells4_new' _ _ _ _ _ _ (by simp)) (by simp [Value.ownBlock])) (by simp [Value.oneCell']) (by unfold maxLen; omega) (by omega) (by (first | omega | (simp; done) | (simp; omega))) ?_; intro v6 w6 hown6 hg6 _; have b6 : Below w4.heap.size w4 w6 := Below.grown (by first | exact b5 | exact below_al b5 _) hg6 (by (first | omega | (simp; done) | (simp; omega))) (by exact fun kk hk => (hown5.lt kk hk).1); have s6 := b6.size; replace y0 := cell_kept Y0.out b6; replace y1 := cell_kept Y1.out b6; replace y2 := cell_kept Y2.out b6; replace y3 := cell_kept Y3.out b6) | (rw [if_pos (by rfl)]; refine wp_append_own _ _ _ _ rfl w4.heap.size 56 i0 (.agg #[.int .i64 0, .int .i64 0, .int .i64 0, .int .i64 0]) 4 32 Try.underlying40 hi hz0 hz1 hz2 rfl (by decide) v5 (0 + k) ([] ++ NEWS1) (by rfl) (by exact hown5) ⟨w4.heap.size, 0, none⟩ 1 1 [.int .i64 r0, .int .i64 r1, .int .i64 r2, .int .i64 r3] (by rfl) rfl (by exact cells_grown hg5 (fun j u hj => below_al_cell (cells4_new' _ _ _ _ _ _ rfl j u hj) _) (by simp [Value.ownBlock])) (by simp [Value.oneCell']) (by unfold maxLen; omega) (by omega) (by (first | omega | (simp; done) | (simp; omega))) ?_; intro v6 w6 hown6 hg6 _; have b6 : Below w4.heap.size w4 w6 := Below.grown (by first | exact b5 | exact below_al b5 _) hg6 (by (first | omega | (simp; done) | (simp; omega))) (by exact fun kk hk => (hown5.lt kk hk).1); have s6 := b6.size; replace y0 := cell_kept Y0.out b6; replace y1 := cell_kept Y1.out b6; replace y2 := cell_kept Y2.out b6; replace y3 := cell_kept Y3.out b6) | (rw [if_pos (by rfl)]; refine wp_append_own _ _ _ _ rfl w4.heap.size 56 i0 (.agg #[.int .i64 0, .int .i64 0, .int .i64 0, .int .i64 0]) 4 32 Try.underlying40 hi hz0 hz1 hz2 rfl (by decide) v6 (0 + k + 1) ([] ++ NEWS1 ++ [.int .i64 r0, .int .i64 r1, .int .i64 r2, .int .i64 r3]) (by rfl) (by exact hown6) adr (D.length - k) (cD1 - k) NEWS2 (by rfl) HL2.out (by exact HN2.out _ b6) HO2.out (by unfold maxLen; omega) (by omega) (by (first | omega | (simp; done) | (simp; omega))) ?_; intro v7 w7 hown7 hg7 _; have b7 : Below w4.heap.size w4 w7 := Below.grown (by exact b6) hg7 (by (first | omega | (simp; done) | (simp; omega))) (by exact fun kk hk => (hown6.lt kk hk).1); have s7 := b7.size; replace y0 := cell_kept Y0.out b7; replace y1 := cell_kept Y1.out b7; replace y2 := cell_kept Y2.out b7; replace y3 := cell_kept Y3.out b7))
          all_goals
            have hown8 := ownsRow_base_a' hown7 (base' := w.heap.size) (by omega)
            have hF : RusO w.heap.size w7.heap.size w7 v7 (D.take k ++ ⟨r0, r1, r2, r3⟩ :: D.drop k) := RusO.of_row (n := 0 + k + 1 + (D.length - k)) (by
              have e : ((D.take k ++ (⟨r0, r1, r2, r3⟩ : Ru) :: D.drop k).map ruC).flatten = ([] ++ NEWS1 ++ [.int .i64 r0, .int .i64 r1, .int .i64 r2, .int .i64 r3] ++ NEWS2 : List Value) := by
                rw [List.map_append, List.flatten_append, List.map_cons, List.flatten_cons, HN1E.out, HN2E.out]
                simp [ruC]
              rw [e]; exact hown8) (by rw [List.length_append, List.length_cons, List.length_take, List.length_drop]; omega) (fun f hf => by
              rcases List.mem_append.1 hf with h | h
              · exact HO3.out.2.1 f (List.mem_of_mem_take h)
              · rcases List.mem_cons.1 h with h | h
                · subst h; exact HR.out
                · exact HO3.out.2.1 f (List.mem_of_mem_drop h))
            have HF := Lib.hid hF
            have HB7 := Lib.hid b7
            have hb7' : Below w.heap.size w w7 := HB3.out.trans ((hb4.trans (b7.mono s34)).mono hsz3)
            have HB77 := Lib.hid hb7'
            clear hown8 hown7 hown6 hown5 hg5 hg6 hg7 b5 b6 b7 s5 s6 y0 y1 y2 y3 Y0 Y1 Y2 Y3 hF hb7' HN1 HN2 hA HL1 HL2 HO1 HO2
            obtain ⟨bA, hbA⟩ : ∃ b, isSch (D.take k ++ ⟨r0, r1, r2, r3⟩ :: D.drop k) = b := ⟨_, rfl⟩
            have HBA := Lib.hid hbA
            clear hbA
            obtain ⟨ga, gn, gc, rfl⟩ := HF.out.1.slice
            go_wp2_with fail
            refine (l4Good_any _ (D.take k ++ ⟨r0, r1, r2, r3⟩ :: D.drop k) _ HF.out.row).mono ?_
            rw [HBA.out]
            rintro e w8 ⟨rfl, b8⟩
            have hb8 : Below w.heap.size w w8 := HB77.out.trans (b8.mono HB77.out.size)
            have HF8 := Lib.hid (HF.out.below b8)
            have s8 := b8.size
            clear b8
            cases bA
            · obtain ⟨rfl, rfl⟩ := putRes_no HRES.out (.inr (by rw [HT.out]; exact HBA.out))
              go_wp2_with fail
              go_ret2
              exact ⟨_, rfl, RusO.empty _ hb8.size, below_al hb8 _⟩
            · obtain ⟨rfl, rfl⟩ := putRes_yes HRES.out HS.out (by rw [HT.out]; exact HBA.out)
              go_wp2_with fail
              go_ret2
              exact ⟨_, rfl, by rw [HT.out]; exact HF8.out.wide (Nat.le_refl _) s8, hb8⟩
end Go.Proofs.Ytenjajcknmfhfaa
