/- Versions, the program's: PutVersion. -/
import Derived.Test.YtmjeaciacgeioaaInsVp
import Derived.Test.YtmjeaciacgeioaaSearV
import Derived.Test.YtmjeaciacgeioaaCopyRu
import Derived.Test.YtmjeaciacgeioaaVerOn
import Derived.Test.YtmjeaciacgeioaaToVe
namespace Go.Proofs.Ytmjeaciacgeioaa
set_option linter.unusedVariables false
open Go.RowKit Go.Sort

theorem VesO.nilA (lo hi : Nat) (w : World) (h : lo ≤ hi) : VesO lo hi w (.slice none 0 0) [] :=
  ⟨[], fun _ => lo, rfl, Own.nil _ _ _ _, Under.nil _ _ _, Nat.le_refl _, fun i h => absurd h (Nat.not_lt_zero _), h, fun i h => absurd h (Nat.not_lt_zero _)⟩
theorem goodV_at {w : World} {es : List Vp} (hg : ∀ x ∈ es, GoodV w x) {xs : List Ve} (hm : es.map (·.1) = xs) : ∀ i (h1 : i < (es.map vpC).length) (h2 : i < xs.length), ∃ s, (es.map vpC)[i] = veC xs[i] s ∧ RowR 4 rRu w s xs[i].rules ∧ xs[i].ok := by
  intro i h1 h2
  subst hm
  have hi : i < es.length := by simpa using h1
  obtain ⟨s, e, hr, hok⟩ := hg es[i] (List.getElem_mem hi)
  have hs : vpS es[i].2 = s := by
    simp only [Value.agg.injEq, Array.mk.injEq, List.cons.injEq, true_and, and_true] at e
    exact e
  exact ⟨s, by simp only [List.getElem_map, vpC, veC, hs], by rw [List.getElem_map]; exact hr, by rw [List.getElem_map]; exact hok⟩
theorem own_vp_row {lo : Nat} {w W : World} {v : Value} {es : List Vp} {xs : List Ve} (h : Own lo 27 2 W v (es.map vpC)) (hg : ∀ x ∈ es, GoodV w x) (hm : es.map (·.1) = xs) (hb : Below w.heap.size w W) : RowR 2 rVe W v xs := by
  refine h.row (by rw [← hm]; simp) (fun i h1 h2 => ?_)
  obtain ⟨s, e, hr, hok⟩ := goodV_at hg hm i h1 h2
  exact ⟨s, by rw [e]; rfl, hr.below rRu_stable hb, hok⟩
theorem veC_set1 (r : Ve) (s u : Value) : (veC r s).set 1 u = veC r u := rfl

set_option maxRecDepth 20000 in
set_option maxHeartbeats 8000000 in
theorem implPutVersion_any (v v1 : Value) (t : List Ve) (x : Ve) (xs : List Ve) (b : Bool) (hres : pvRes t x = (xs, b)) (w : World) (h : RowR 2 rVe w v t) (hx : VeV w v1 x) :
    Calls Try.prog 8 #[v, v1] w fun e w' => ∃ v', e = .returned (.tuple #[v', .bool b]) ∧ VesO w.heap.size w'.heap.size w' v' xs ∧ Below w.heap.size w w' := by
  obtain ⟨i0, hi, hz0, hz1, hz2⟩ := info_parts Try.info_ru
  obtain ⟨s, rfl, hxr, hxok⟩ := hx
  obtain ⟨xf, xr⟩ := x
  simp only at hxr
  obtain ⟨sa, sc, rfl, _, hsm, _⟩ := hxr.rus
  have HXV : Hid (GoodV w ((⟨xf, xr⟩ : Ve), (sa, xr.length, sc))) := Lib.hid ⟨_, rfl, hxr, hxok⟩
  have HXO := Lib.hid (show inI xf from hxok)
  have H := Lib.hid (show ∀ W, Below w.heap.size w W → RowR 2 rVe W v t from fun W hb => h.below rVe_stable hb)
  have HRES := Lib.hid hres
  obtain ⟨bA, hA⟩ : ∃ b, areVe t = b := ⟨_, rfl⟩
  obtain ⟨bP, hP⟩ : ∃ b, areVe (putVe t ⟨xf, xr⟩) = b := ⟨_, rfl⟩
  have HA := Lib.hid hA
  have HPV := Lib.hid hP
  have b0 := below_al (Below.refl w.heap.size w) (.cells #[.int .i64 xf, .slice sa xr.length sc] 27 (0, 0))
  have D0 : Hid (∀ W, Below (w.alloc (.cells #[.int .i64 xf, .slice sa xr.length sc] 27 (0, 0))).heap.size (w.alloc (.cells #[.int .i64 xf, .slice sa xr.length sc] 27 (0, 0))) W → W.cell? ⟨w.heap.size, 0, none⟩ = some (.int .i64 xf) ∧ W.cell? ⟨w.heap.size, 1, none⟩ = some (.slice sa xr.length sc)) := Lib.hid (fun W hW => ⟨cell_kept (cell_new w _ _ 0 rfl) hW, cell_kept (cell_new w _ _ 1 rfl) hW⟩)
  obtain ⟨es, hes, hcv, hgood⟩ := h.vpcells
  have hel : es.length = t.length := by rw [← hes, List.length_map]
  have HES := Lib.hid hes
  have HCV : Hid (∀ W, Below w.heap.size w W → VpL W v es) := Lib.hid (fun W hW => hcv.below hW)
  have HGD := Lib.hid hgood
  have HEL := Lib.hid hel
  obtain ⟨ta, tc, rfl, _, _, _⟩ := id h.ves
  clear h hxr hxok hres hA hP hes hcv hgood hel hsm
  cases bA
  · obtain ⟨rfl, rfl⟩ := pvRes_no HRES.out (.inl HA.out)
    go_enter Try.func8, Try.ntmps8
    go_wp2_with fail
    refine (implAreVersions_any _ t _ (H.out _ b0)).mono ?_
    rw [HA.out]
    rintro e w1 ⟨rfl, b1⟩
    have b1w := below_chain b0 b1
    go_wp2_with fail
    go_ret2
    exact ⟨_, rfl, VesO.nilA _ _ _ b1w.size, b1w⟩
  · have ht5 := ve_len HA.out
    have HAS : Hid (∀ j i, j < i → i < t.length → (t.getD j veD).frm < (t.getD i veD).frm) := Lib.hid (fun j i hji hi => ve_lt HA.out hji hi)
    have hesl : es.length ≤ 5 := by rw [HEL.out]; exact ht5
    go_enter Try.func8, Try.ntmps8
    go_wp2_with fail
    refine (implAreVersions_any _ t _ (H.out _ b0)).mono ?_
    rw [HA.out]
    rintro e w1 ⟨rfl, b1⟩
    have b1w := below_chain b0 b1
    go_wp2_with fail
    refine (cloneVp_any _ es _ (HCV.out _ b1w) (by omega)).mono ?_
    rintro e w2 ⟨v2, rfl, ho2, b2⟩
    have b12 := b1.trans (b2.mono b1.size)
    have b2w := b1w.trans (b2.mono b1w.size)
    obtain ⟨c0, c1⟩ := D0.out _ b12
    have HO2 := Lib.hid ho2
    clear ho2
    go_wp2_with fail
    refine (placeOfVersion_any _ t xf _ (H.out _ b2w) HAS.out HXO.out (by omega)).mono ?_
    rintro e w3 ⟨p, rfl, hp, hlo, hhi, b3⟩
    have b13 := b12.trans (b3.mono b12.size)
    have b3w := b2w.trans (b3.mono b2w.size)
    obtain ⟨c0, c1⟩ := D0.out _ b13
    have HO3 := Lib.hid (HO2.out.below b3)
    have HLO := Lib.hid hlo
    have HHI := Lib.hid hhi
    clear hlo hhi
    by_cases hf : p < t.length ∧ (t.getD p veD).frm = xf
    · rw [show (decide (p < t.length) && decide ((t.getD p veD).frm = xf)) = true by rw [decide_eq_true hf.1, decide_eq_true hf.2]; rfl]
      have hpe : p < es.length := by rw [HEL.out]; exact hf.1
      have hpm : p < (es.map vpC).length := by simpa using hpe
      obtain ⟨g, cap, hv2, hg5, hgl5, hnc5, _⟩ := HO3.out.form.resolve_left (fun hh => by have h0 := congrArg List.length hh.2; rw [List.length_map, List.length_nil] at h0; omega)
      rw [List.length_map] at hv2
      subst hv2
      have HM4 : Hid ((es.set p ((⟨xf, xr⟩ : Ve), (sa, xr.length, sc))).map (·.1) = putVe t ⟨xf, xr⟩) := Lib.hid (by rw [pve_same (v := ⟨xf, xr⟩) HA.out hf.1 hf.2, List.map_set, HES.out, List.set_eq_take_append_cons_drop, if_pos hf.1])
      have HG4 : Hid (∀ y ∈ es.set p ((⟨xf, xr⟩ : Ve), (sa, xr.length, sc)), GoodV w y) := Lib.hid (fun y hy => by rcases List.mem_or_eq_of_mem_set hy with h1 | rfl; exact HGD.out y h1; exact HXV.out)
      obtain ⟨p1, p2⟩ := HO3.out.put p hpm (vpC ((⟨xf, xr⟩ : Ve), (sa, xr.length, sc))) rfl
      have P1 := Lib.hid p1
      have q0 := HO3.out.cell p 0 hpm (by omega)
      have q1 := HO3.out.cell p 1 hpm (by omega)
      simp [vpC] at q0 q1
      have fr0 := HO3.out.frozen (p * 2)
      have fr1 := HO3.out.frozen (p * 2 + 1)
      have g0 : (0 : Int) ≤ (p : Int) := by omega
      have g1 : (p : Int) < (es.length : Int) := by omega
      have HB4 := Lib.hid (b3w.grown p2 b3w.size (fun k hk => by cases hk; exact Nat.le_trans b1w.size hg5))
      have hgw : w.heap.size ≤ g := Nat.le_trans b1w.size hg5
      clear hf p1 p2
      go_wp2_with fail
      have hl4 : (es.set p ((⟨xf, xr⟩ : Ve), (sa, xr.length, sc))).length = es.length := by simp
      have HO4 : Hid (Own w1.heap.size 27 2 _ (.slice (some ⟨g, 0, none⟩) es.length cap) ((es.set p ((⟨xf, xr⟩ : Ve), (sa, xr.length, sc))).map vpC)) := Lib.hid (by rw [List.map_set]; exact P1.out)
      have b4w := HB4.out
      refine (implAreVersions_any _ (putVe t ⟨xf, xr⟩) _ (own_vp_row HO4.out HG4.out HM4.out b4w)).mono ?_
      rw [HPV.out]
      rintro e w6 ⟨rfl, b6⟩
      have b6w := b4w.trans (b6.mono b4w.size)
      cases bP
      · obtain ⟨rfl, rfl⟩ := pvRes_no HRES.out (.inr HPV.out)
        go_wp2_with fail
        go_ret2
        exact ⟨_, rfl, VesO.nilA _ _ _ b6w.size, b6w⟩
      · obtain ⟨hxs, rfl⟩ := pvRes_yes HRES.out HA.out HPV.out
        have HO6 := Lib.hid (HO4.out.below b6)
        have BEGN := Lib.hid (goodV_at (w := w) HG4.out (HM4.out.trans hxs.symm))
        have hvx : areVe xs = true := by rw [hxs]; exact HPV.out
        have HRL : Hid (xs.length = es.length) := Lib.hid (by rw [hxs, ← HM4.out, List.length_map]; simp)
        have hx5 : es.length ≤ 5 := by have := ve_len hvx; rw [HRL.out] at this; exact this
        have HSER : Hid (∀ i (h : i < xs.length), xs[i].rules.length ≤ 8) := Lib.hid (fun i h => by have := sch_len (ve_at hvx h).2.1; rwa [getVe_lt h] at this)
        have hg6 : g < w6.heap.size := HO6.out.under g rfl
        clear hxs hvx
        go_wp2_with fail
        go_loopw [38] (fun i wr => ∃ (k : Nat) (css : List (List Value)) (f : Nat → Nat), k ≤ es.length ∧ i = .int .i64 k ∧ css.length = es.length ∧ Own w.heap.size 27 2 wr (.slice (some ⟨g, 0, none⟩) es.length cap) css ∧
            Hid (f 0 = g + 1 ∧ (∀ i, i < k → f i ≤ f (i + 1)) ∧ f k ≤ wr.heap.size ∧ ∀ i (h1 : i < css.length) (h2 : i < xs.length), i < k → ∃ s, css[i] = veC xs[i] s ∧ RusO (f i) (f (i + 1)) wr s xs[i].rules ∧ xs[i].ok) ∧
            Hid (∀ i (h1 : i < css.length) (h2 : i < xs.length), k ≤ i → ∃ s, css[i] = veC xs[i] s ∧ RowR 4 rRu w s xs[i].rules ∧ xs[i].ok) ∧ Below w.heap.size w wr) (fun i _ => es.length - (intOf i).toNat)
        case atStart =>
          refine ⟨0, _, fun _ => g + 1, Nat.zero_le _, rfl, by simp, HO6.out.lower b1w.size, Lib.hid ⟨rfl, fun i h => absurd h (Nat.not_lt_zero _), ?_, fun i _ _ h => absurd h (Nat.not_lt_zero _)⟩, Lib.hid (fun i h1 h2 _ => BEGN.out i h1 h2), b6w⟩
          show g + 1 ≤ w6.heap.size
          exact hg6
        case round =>
          obtain ⟨k, css, f, hk, rfl, hcl, hO, I, J, hb⟩ := hrel
          have HO := Lib.hid hO
          have HCL := Lib.hid hcl
          have hsz := hb.size
          by_cases hlt : k < es.length
          · have hkc : k < css.length := by rw [hcl]; exact hlt
            have hkr : k < xs.length := by rw [HRL.out]; exact hlt
            obtain ⟨s, e1, e2, e3⟩ := J.out k hkc hkr (Nat.le_refl _)
            have hser := HSER.out k hkr
            obtain ⟨r, hr⟩ : ∃ r, xs[k] = r := ⟨_, rfl⟩
            rw [hr] at e1 e2 e3 hser
            obtain ⟨ra, rc, rfl, _, hrm, _⟩ := id e2.rus
            have c1 := hO.cell k 1 hkc (by omega)
            have E1 := Lib.hid e1
            rw [e1] at c1
            simp only [veC] at c1
            have E2 := Lib.hid e2
            have E3 := Lib.hid e3
            have HR := Lib.hid hr
            have HKC := Lib.hid hkc
            have g0 : (0 : Int) ≤ (k : Int) := by omega
            have g1 : (k : Int) < (es.length : Int) := by omega
            clear e1 e2 e3 hO hcl hr
            go_wp2_with (first | (at_make; refine wpList_make_full _ rfl _ _ 25 rfl wr.heap.size 91 i0 _ 4 Try.underlying25 hi hz0 hz1 .i64 .i64 _ _ r.rules.length rfl rfl rfl rfl (by rw [hz2]; omega) (by unfold maxLen; omega) (Nat.le_refl _) ?_; intro w7 hown7 hgrow7; have b7 : Below wr.heap.size wr w7 := below_of_grow hgrow7 (Nat.le_refl _) (fun k h => by cases h); obtain ⟨w8, hrun, hrow8, hg8⟩ := copyRu_ex hown7 ((E2.out.below rRu_stable hb).below rRu_stable b7); have HRUN := Lib.hid hrun; have HROW8 := Lib.hid hrow8; have b8 : Below wr.heap.size wr w8 := b7.grown hg8 b7.size (fun k h => by cases h; exact Nat.le_refl _); have c1 := cell_kept c1 b7; clear hown7 hgrow7 hrun hrow8) | (refine copy_wpList _ rfl _ _ 25 25 rfl _ _ rfl rfl (HRUN.out _) ?_; have hO8 := HO.out.below b8; have fr8 := hO8.frozen (k * 2 + 1); have c18 := hO8.cell k 1 HKC.out (by omega); rw [E1.out] at c18; simp only [veC] at c18; have HO8 := Lib.hid hO8; clear hO8))
            go_roundw
            case rel =>
              have hkc := HKC.out
              obtain ⟨p1, p2⟩ := HO8.out.stored k 1 hkc (by omega) (.slice (some ⟨wr.heap.size, 0, none⟩) r.rules.length r.rules.length)
              rw [E1.out, veC_set1] at p1
              have hon : Only g (g + 1) w8 (w8.setCell ⟨g, k * 2 + 1, none⟩ (.slice (some ⟨wr.heap.size, 0, none⟩) r.rules.length r.rules.length)) :=
                Only.of_grown (v := .slice (some ⟨g, 0, none⟩) es.length cap) p2 (fun g' hg => by simp [Value.ownBlock] at hg; omega) (fun g' hg => by simp [Value.ownBlock] at hg; omega)
              obtain ⟨I0, I1, I2, I3⟩ := I.out
              have hgt : g + 1 ≤ wr.heap.size := by have := mono_up I1 0 k (Nat.zero_le _) (Nat.le_refl _); omega
              have key : ∀ i (h1 : i < (css.set k (veC r (.slice (some ⟨wr.heap.size, 0, none⟩) r.rules.length r.rules.length))).length) (h2 : i < xs.length), i < k + 1 → ∃ s, (css.set k (veC r (.slice (some ⟨wr.heap.size, 0, none⟩) r.rules.length r.rules.length)))[i] = veC xs[i] s ∧ RusO (upd f (k + 1) w8.heap.size i) (upd f (k + 1) w8.heap.size (i + 1)) (w8.setCell ⟨g, k * 2 + 1, none⟩ (.slice (some ⟨wr.heap.size, 0, none⟩) r.rules.length r.rules.length)) s xs[i].rules ∧ xs[i].ok := by
                intro i h1 h2 h3
                rw [upd_ne f _ (by omega : i ≠ k + 1)]
                rcases Nat.lt_or_ge i k with h' | h'
                · obtain ⟨s', e1, e2, e3⟩ := I3 i (by simpa using h1) h2 h'
                  rw [upd_ne f _ (by omega : i + 1 ≠ k + 1)]
                  exact ⟨s', by rw [List.getElem_set_ne (by omega)]; exact e1, (e2.below b8).only hon (by rw [← I0]; exact mono_up I1 0 i (Nat.zero_le _) (by omega)), e3⟩
                · obtain rfl : i = k := by omega
                  rw [upd_at]
                  refine ⟨.slice (some ⟨wr.heap.size, 0, none⟩) r.rules.length r.rules.length, by rw [List.getElem_set_self, HR.out], ?_, by rw [HR.out]; exact E3.out⟩
                  rw [HR.out]
                  exact (HROW8.out.only hon hgt).wide I2 (Nat.le_refl _)
              refine ⟨k + 1, css.set k (veC r (.slice (some ⟨wr.heap.size, 0, none⟩) r.rules.length r.rules.length)), upd f (k + 1) w8.heap.size, by omega, by go_num, by rw [List.length_set]; exact HCL.out, p1, Lib.hid ⟨by rw [upd_ne f _ (by omega)]; exact I0, fun i hi => ?_, by rw [upd_at]; exact p2.size, key⟩, Lib.hid (fun i h1 h2 h3 => ?_), (hb.trans (b8.mono hb.size)).grown p2 (Nat.le_trans hb.size b8.size) (fun _ h => by cases h; exact hgw)⟩
              · rw [upd_ne f _ (by omega : i ≠ k + 1)]
                rcases Nat.lt_or_ge i k with h' | h'
                · rw [upd_ne f _ (by omega : i + 1 ≠ k + 1)]
                  exact I1 i h'
                · obtain rfl : i = k := by omega
                  rw [upd_at]
                  exact Nat.le_trans I2 b8.size
              · obtain ⟨s', e1, e2, e3⟩ := J.out i (by simpa using h1) h2 (by omega)
                exact ⟨s', by rw [List.getElem_set_ne (by omega)]; exact e1, e2, e3⟩
            case measure => simp [intOf]; omega
          · clear hO
            go_wp2_with fail
            go_ret2
            have hkn : k = es.length := by omega
            obtain ⟨I0, I1, I2, I3⟩ := I.out
            have hkx : k = xs.length := by rw [HRL.out]; exact hkn
            subst hkx
            exact ⟨_, rfl, ⟨css, f, by rw [HCL.out, HRL.out], HO.out, (by rw [I0]; intro g' hg; simp [Value.ownBlock] at hg; omega), by omega, I1, I2, fun i h1 h2 => I3 i h1 h2 h2⟩, hb⟩
    · rw [show (decide (p < t.length) && decide ((t.getD p veD).frm = xf)) = false by
        rcases Nat.lt_or_ge p t.length with h1 | h1
        · rw [decide_eq_false (p := ((t.getD p veD).frm = xf)) (fun e => hf ⟨h1, e⟩), Bool.and_false]
        · rw [decide_eq_false (p := (p < t.length)) (by omega), Bool.false_and]]
      have hpe : p ≤ es.length := by rw [HEL.out]; exact hp
      have HM4 : Hid ((es.take p ++ ((⟨xf, xr⟩ : Ve), (sa, xr.length, sc)) :: es.drop p).map (·.1) = putVe t ⟨xf, xr⟩) := Lib.hid (by
        rw [pve_new (v := ⟨xf, xr⟩) HA.out hp HLO.out (fun j h1 h2 => ?_)]
        · rw [List.map_append, List.map_cons, List.map_take, List.map_drop, HES.out]
        · have h3 := HHI.out j h1 h2
          rcases Nat.lt_or_ge p j with h4 | h4
          · have h5 := HAS.out p j h4 h2
            have h6 := HHI.out p (Nat.le_refl _) (by omega)
            simp only
            omega
          · obtain rfl : j = p := by omega
            have : (t.getD j veD).frm ≠ xf := fun e => hf ⟨h2, e⟩
            simp only
            omega)
      have HG4 : Hid (∀ y ∈ es.take p ++ ((⟨xf, xr⟩ : Ve), (sa, xr.length, sc)) :: es.drop p, GoodV w y) := Lib.hid (fun y hy => by
        rcases List.mem_append.1 hy with h1 | h1
        · exact HGD.out y (List.mem_of_mem_take h1)
        · rcases List.mem_cons.1 h1 with rfl | h2
          · exact HXV.out
          · exact HGD.out y (List.mem_of_mem_drop h2))
      have hne : v2.ownBlock ≠ some w3.heap.size := fun e => by have := HO3.out.under _ e; omega
      have HNE := Lib.hid hne
      have HGE := Lib.hid HO3.out.ge
      have hs13 : w1.heap.size ≤ w3.heap.size := Nat.le_trans b2.size b3.size
      clear hf hne
      go_wp2_with fail
      refine (insertVp_any v2 es ((⟨xf, xr⟩ : Ve), (sa, xr.length, sc)) p w3.heap.size w1.heap.size (w3.alloc (.cells #[.int .i64 xf, .slice sa xr.length sc] 27 (0, 0))) (HO3.out.alloc _) (by simp; omega) (by omega) hpe (heap_alloc_new w3 _) HNE.out).mono ?_
      rintro e w4 ⟨v4, rfl, ho4, hg4⟩
      have b4w : Below w.heap.size w w4 := (below_al b3w _).grown hg4 (by have := b3w.size; simp; omega) (fun k e => Nat.le_trans b1w.size (HGE.out k e))
      have hl4 : (es.take p ++ ((⟨xf, xr⟩ : Ve), (sa, xr.length, sc)) :: es.drop p).length = es.length + 1 := by
        rw [List.length_append, List.length_cons, List.length_take, List.length_drop]; omega
      obtain ⟨g, cap, hv4, hg5, hgl5, hnc5, _⟩ := ho4.form.resolve_left (fun hh => by have h0 := congrArg List.length hh.2; rw [List.length_map, hl4, List.length_nil] at h0; omega)
      rw [List.length_map, hl4] at hv4
      subst hv4
      have hgw : w.heap.size ≤ g := Nat.le_trans b1w.size hg5
      obtain ⟨es4, hes4⟩ : ∃ e4, es.take p ++ ((⟨xf, xr⟩ : Ve), (sa, xr.length, sc)) :: es.drop p = e4 := ⟨_, rfl⟩
      rw [hes4] at HM4 HG4 ho4 hl4
      have HO4 := Lib.hid ho4
      clear ho4 hes4 hg4
      obtain ⟨N, hN⟩ : ∃ N, es.length + 1 = N := ⟨_, rfl⟩
      rw [hN] at HO4 hl4 ⊢
      clear hN
      go_wp2_with fail
      refine (implAreVersions_any _ (putVe t ⟨xf, xr⟩) _ (own_vp_row HO4.out HG4.out HM4.out b4w)).mono ?_
      rw [HPV.out]
      rintro e w6 ⟨rfl, b6⟩
      have b6w := b4w.trans (b6.mono b4w.size)
      cases bP
      · obtain ⟨rfl, rfl⟩ := pvRes_no HRES.out (.inr HPV.out)
        go_wp2_with fail
        go_ret2
        exact ⟨_, rfl, VesO.nilA _ _ _ b6w.size, b6w⟩
      · obtain ⟨hxs, rfl⟩ := pvRes_yes HRES.out HA.out HPV.out
        have HO6 := Lib.hid (HO4.out.below b6)
        have BEGN := Lib.hid (goodV_at (w := w) HG4.out (HM4.out.trans hxs.symm))
        have hvx : areVe xs = true := by rw [hxs]; exact HPV.out
        have HRL : Hid (xs.length = N) := Lib.hid (by rw [hxs, ← HM4.out, List.length_map]; exact hl4)
        have hx5 : N ≤ 5 := by have := ve_len hvx; rw [HRL.out] at this; exact this
        have HSER : Hid (∀ i (h : i < xs.length), xs[i].rules.length ≤ 8) := Lib.hid (fun i h => by have := sch_len (ve_at hvx h).2.1; rwa [getVe_lt h] at this)
        have hg6 : g < w6.heap.size := HO6.out.under g rfl
        clear hxs hvx
        go_wp2_with fail
        go_loopw [38] (fun i wr => ∃ (k : Nat) (css : List (List Value)) (f : Nat → Nat), k ≤ N ∧ i = .int .i64 k ∧ css.length = N ∧ Own w.heap.size 27 2 wr (.slice (some ⟨g, 0, none⟩) N cap) css ∧
            Hid (f 0 = g + 1 ∧ (∀ i, i < k → f i ≤ f (i + 1)) ∧ f k ≤ wr.heap.size ∧ ∀ i (h1 : i < css.length) (h2 : i < xs.length), i < k → ∃ s, css[i] = veC xs[i] s ∧ RusO (f i) (f (i + 1)) wr s xs[i].rules ∧ xs[i].ok) ∧
            Hid (∀ i (h1 : i < css.length) (h2 : i < xs.length), k ≤ i → ∃ s, css[i] = veC xs[i] s ∧ RowR 4 rRu w s xs[i].rules ∧ xs[i].ok) ∧ Below w.heap.size w wr) (fun i _ => N - (intOf i).toNat)
        case atStart =>
          refine ⟨0, _, fun _ => g + 1, Nat.zero_le _, rfl, by simp [hl4], HO6.out.lower b1w.size, Lib.hid ⟨rfl, fun i h => absurd h (Nat.not_lt_zero _), ?_, fun i _ _ h => absurd h (Nat.not_lt_zero _)⟩, Lib.hid (fun i h1 h2 _ => BEGN.out i h1 h2), b6w⟩
          show g + 1 ≤ w6.heap.size
          exact hg6
        case round =>
          obtain ⟨k, css, f, hk, rfl, hcl, hO, I, J, hb⟩ := hrel
          have HO := Lib.hid hO
          have HCL := Lib.hid hcl
          have hsz := hb.size
          by_cases hlt : k < N
          · have hkc : k < css.length := by rw [hcl]; exact hlt
            have hkr : k < xs.length := by rw [HRL.out]; exact hlt
            obtain ⟨s, e1, e2, e3⟩ := J.out k hkc hkr (Nat.le_refl _)
            have hser := HSER.out k hkr
            obtain ⟨r, hr⟩ : ∃ r, xs[k] = r := ⟨_, rfl⟩
            rw [hr] at e1 e2 e3 hser
            obtain ⟨ra, rc, rfl, _, hrm, _⟩ := id e2.rus
            have c1 := hO.cell k 1 hkc (by omega)
            have E1 := Lib.hid e1
            rw [e1] at c1
            simp only [veC] at c1
            have E2 := Lib.hid e2
            have E3 := Lib.hid e3
            have HR := Lib.hid hr
            have HKC := Lib.hid hkc
            have g0 : (0 : Int) ≤ (k : Int) := by omega
            have g1 : (k : Int) < (N : Int) := by omega
            clear e1 e2 e3 hO hcl hr
            go_wp2_with (first | (at_make; refine wpList_make_full _ rfl _ _ 25 rfl wr.heap.size 91 i0 _ 4 Try.underlying25 hi hz0 hz1 .i64 .i64 _ _ r.rules.length rfl rfl rfl rfl (by rw [hz2]; omega) (by unfold maxLen; omega) (Nat.le_refl _) ?_; intro w7 hown7 hgrow7; have b7 : Below wr.heap.size wr w7 := below_of_grow hgrow7 (Nat.le_refl _) (fun k h => by cases h); obtain ⟨w8, hrun, hrow8, hg8⟩ := copyRu_ex hown7 ((E2.out.below rRu_stable hb).below rRu_stable b7); have HRUN := Lib.hid hrun; have HROW8 := Lib.hid hrow8; have b8 : Below wr.heap.size wr w8 := b7.grown hg8 b7.size (fun k h => by cases h; exact Nat.le_refl _); have c1 := cell_kept c1 b7; clear hown7 hgrow7 hrun hrow8) | (refine copy_wpList _ rfl _ _ 25 25 rfl _ _ rfl rfl (HRUN.out _) ?_; have hO8 := HO.out.below b8; have fr8 := hO8.frozen (k * 2 + 1); have c18 := hO8.cell k 1 HKC.out (by omega); rw [E1.out] at c18; simp only [veC] at c18; have HO8 := Lib.hid hO8; clear hO8))
            go_roundw
            case rel =>
              have hkc := HKC.out
              obtain ⟨p1, p2⟩ := HO8.out.stored k 1 hkc (by omega) (.slice (some ⟨wr.heap.size, 0, none⟩) r.rules.length r.rules.length)
              rw [E1.out, veC_set1] at p1
              have hon : Only g (g + 1) w8 (w8.setCell ⟨g, k * 2 + 1, none⟩ (.slice (some ⟨wr.heap.size, 0, none⟩) r.rules.length r.rules.length)) :=
                Only.of_grown (v := .slice (some ⟨g, 0, none⟩) N cap) p2 (fun g' hg => by simp [Value.ownBlock] at hg; omega) (fun g' hg => by simp [Value.ownBlock] at hg; omega)
              obtain ⟨I0, I1, I2, I3⟩ := I.out
              have hgt : g + 1 ≤ wr.heap.size := by have := mono_up I1 0 k (Nat.zero_le _) (Nat.le_refl _); omega
              have key : ∀ i (h1 : i < (css.set k (veC r (.slice (some ⟨wr.heap.size, 0, none⟩) r.rules.length r.rules.length))).length) (h2 : i < xs.length), i < k + 1 → ∃ s, (css.set k (veC r (.slice (some ⟨wr.heap.size, 0, none⟩) r.rules.length r.rules.length)))[i] = veC xs[i] s ∧ RusO (upd f (k + 1) w8.heap.size i) (upd f (k + 1) w8.heap.size (i + 1)) (w8.setCell ⟨g, k * 2 + 1, none⟩ (.slice (some ⟨wr.heap.size, 0, none⟩) r.rules.length r.rules.length)) s xs[i].rules ∧ xs[i].ok := by
                intro i h1 h2 h3
                rw [upd_ne f _ (by omega : i ≠ k + 1)]
                rcases Nat.lt_or_ge i k with h' | h'
                · obtain ⟨s', e1, e2, e3⟩ := I3 i (by simpa using h1) h2 h'
                  rw [upd_ne f _ (by omega : i + 1 ≠ k + 1)]
                  exact ⟨s', by rw [List.getElem_set_ne (by omega)]; exact e1, (e2.below b8).only hon (by rw [← I0]; exact mono_up I1 0 i (Nat.zero_le _) (by omega)), e3⟩
                · obtain rfl : i = k := by omega
                  rw [upd_at]
                  refine ⟨.slice (some ⟨wr.heap.size, 0, none⟩) r.rules.length r.rules.length, by rw [List.getElem_set_self, HR.out], ?_, by rw [HR.out]; exact E3.out⟩
                  rw [HR.out]
                  exact (HROW8.out.only hon hgt).wide I2 (Nat.le_refl _)
              refine ⟨k + 1, css.set k (veC r (.slice (some ⟨wr.heap.size, 0, none⟩) r.rules.length r.rules.length)), upd f (k + 1) w8.heap.size, by omega, by go_num, by rw [List.length_set]; exact HCL.out, p1, Lib.hid ⟨by rw [upd_ne f _ (by omega)]; exact I0, fun i hi => ?_, by rw [upd_at]; exact p2.size, key⟩, Lib.hid (fun i h1 h2 h3 => ?_), (hb.trans (b8.mono hb.size)).grown p2 (Nat.le_trans hb.size b8.size) (fun _ h => by cases h; exact hgw)⟩
              · rw [upd_ne f _ (by omega : i ≠ k + 1)]
                rcases Nat.lt_or_ge i k with h' | h'
                · rw [upd_ne f _ (by omega : i + 1 ≠ k + 1)]
                  exact I1 i h'
                · obtain rfl : i = k := by omega
                  rw [upd_at]
                  exact Nat.le_trans I2 b8.size
              · obtain ⟨s', e1, e2, e3⟩ := J.out i (by simpa using h1) h2 (by omega)
                exact ⟨s', by rw [List.getElem_set_ne (by omega)]; exact e1, e2, e3⟩
            case measure => simp [intOf]; omega
          · clear hO
            go_wp2_with fail
            go_ret2
            have hkn : k = N := by omega
            obtain ⟨I0, I1, I2, I3⟩ := I.out
            have hkx : k = xs.length := by rw [HRL.out]; exact hkn
            subst hkx
            exact ⟨_, rfl, ⟨css, f, by rw [HCL.out, HRL.out], HO.out, (by rw [I0]; intro g' hg; simp [Value.ownBlock] at hg; omega), by omega, I1, I2, fun i h1 h2 => I3 i h1 h2 h2⟩, hb⟩
end Go.Proofs.Ytmjeaciacgeioaa
