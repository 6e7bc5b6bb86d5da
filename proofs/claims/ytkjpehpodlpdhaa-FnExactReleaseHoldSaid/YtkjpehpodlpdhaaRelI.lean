/- Holds, the program's: slices.Clone at holds and at numbers, ReleaseHold. -/
import Derived.Test.YtkjpehpodlpdhaaHo2I
import Derived.Test.YtkjpehpodlpdhaaHpC
import Derived.Test.YtkjpehpodlpdhaaRelM
import Derived.Test.YtkjpehpodlpdhaaFlat
import Derived.Test.YtkjpehpodlpdhaaPuts
import Derived.Test.YtkjpehpodlpdhaaIntsK
import Derived.Test.YtkjpehpodlpdhaaShelf
import Derived.ArgAppend
import Derived.Shelf.SlicesE.Clone
namespace Go.Proofs.Ytkjpehpodlpdhaa
set_option linter.unusedVariables false
open Go.RowKit Go.Sort

theorem HosO.nilA (lo hi : Nat) (w : World) (h : lo ≤ hi) : HosO lo hi w (.slice none 0 0) [] :=
  ⟨[], fun _ => lo, rfl, Own.nil _ _ _ _, Under.nil _ _ _, Nat.le_refl _, fun i h => absurd h (Nat.not_lt_zero _), h, fun i h => absurd h (Nat.not_lt_zero _)⟩
theorem hpC_len (x : Hp) : (hpC x).length = 6 := rfl
theorem hpC_one (x : Hp) : ∀ u ∈ hpC x, u.oneCell' = true := by
  intro u hu
  simp [hpC, hpS] at hu
  rcases hu with rfl | rfl | rfl | rfl | rfl | rfl <;> rfl
theorem HC.flat {w : World} {b off : Nat} {spot : _} {n c : Nat} {es : List Hp} (h : HC w (.slice (some ⟨b, off, spot⟩) n c) es) : ∀ W, Below w.heap.size w W → ∀ j u, (es.map hpC).flatten[j]? = some u → W.cell? ((⟨b, off, spot⟩ : Addr).add j) = some u := by
  obtain ⟨a, cap, e, h1, h2, h3⟩ := h
  cases e
  rcases h3 with rfl | ⟨b', off', hb, e, hc⟩
  · intro W _ j u hj; simp at hj
  · cases e
    intro W hW j u hj
    rw [Addr.add_lit]
    refine cell_kept (RowR.flat (R := fun w cs x => cs = hpC x) (fun _ _ _ h => h) hpC_len (by decide) (⟨_, _, rfl, h1, h2, .inr ⟨b, off, hb, rfl, fun i hi => ⟨hpC es[i], rfl, fun j hj => ?_, rfl⟩⟩⟩ : RowR 6 (fun w cs x => cs = hpC x) w _ es) j u hj) hW
    refine hc i hi j _ ?_
    rw [List.getD_eq_getElem?_getD, List.getElem?_eq_getElem hi, Option.getD_some, List.getElem?_eq_getElem hj]

set_option maxRecDepth 20000 in
set_option maxHeartbeats 2000000 in
theorem cloneHo_any (v : Value) (es : List Hp) (w : World) (h : HC w v es) (hn : es.length ≤ 1048576) :
    Calls Try.prog 96 #[v] w fun e w' => ∃ v', e = .returned v' ∧ Own w.heap.size 100 6 w' v' (es.map hpC) ∧ Below w.heap.size w w' := by
  obtain ⟨i0, hi, hz0, hz1, hz2⟩ := info_parts Try.info_ho
  have q22 : ∀ (w : World) (a : Option Addr) (n c n' c' : Nat), (binOp .eql 25 (.slice a n c) (.slice none n' c')).run Try.prog w = .ok (.bool a.isNone) w := fun w a n c n' c' => Lib.run_eql_slice_nil w _ _ a n c n' c' Try.underlying25
  have H := Lib.hid h
  obtain ⟨a1, c1, hv, hl1, hm1, h3⟩ := h
  subst hv
  rcases a1 with _ | ⟨b, off, spot⟩
  · have hnil : es = [] := by
      rcases h3 with rfl | ⟨b, off, _, e, _⟩
      · rfl
      · cases e
    subst hnil
    clear H h3
    go_enter Try.func96, Try.ntmps96
    go_wp2
    go_ret
    exact ⟨_, rfl, Own.nil _ _ _ _, Below.refl _ _⟩
  · have HCC := Lib.hid (fun (o : Obj) => H.out.flat (w.alloc o) (below_al (Below.refl _ _) o))
    have HONE := Lib.hid (flat_one hpC_one es)
    have HLEN := Lib.hid (flat_map_len hpC_len es)
    clear H h3
    go_enter Try.func96, Try.ntmps96
    go_wp2_with (first | (at_builtin; refine wpList_append_own _ rfl _ _ 25 rfl w.heap.size 100 i0 (.agg #[.int .i64 0, .int .i64 0, .int .i64 0, .slice none 0 0, .int .i64 0, .int .i64 0]) 6 64 Try.underlying25 hi hz0 hz1 hz2 rfl (by decide) (.slice (some ⟨w.heap.size, 0, none⟩) 0 0) 0 [] rfl (World.ownsRow_made w #[] 0 (Nat.le_refl _) (Nat.zero_le _) rfl) ⟨b, off, spot⟩ es.length c1 ((es.map hpC).flatten) rfl HLEN.out (HCC.out _) HONE.out (by unfold maxLen; omega) (by omega) (by simp) ?_; intro v' w1 hown' hgrow hnil))
    have HB : Hid (Below w.heap.size w w1) := Lib.hid ((below_al (Below.refl _ w) _).grown hgrow (by simp) (fun k hk => Nat.le_of_eq (by simpa [Value.ownBlock] using hk)))
    have HOWN := Lib.hid hown'
    clear hown' hgrow hnil
    go_wp2_with fail
    go_ret
    exact ⟨_, rfl, ⟨by simpa using HOWN.out, fun cs hcs => by obtain ⟨x, _, rfl⟩ := List.mem_map.1 hcs; rfl⟩, HB.out⟩

theorem cloneInts_any (v : Value) (xs : List Int) (w : World) (h : RowOf vI w v xs) (hn : xs.length ≤ 1048576) :
    Calls Try.prog 97 #[v] w fun e w' => ∃ v', e = .returned v' ∧ IntsO w.heap.size w'.heap.size w' v' xs ∧ Below w.heap.size w w' := by
  obtain ⟨a, c, rfl, h1, h2, h3⟩ := h
  rcases a with _ | ⟨b, off, spot⟩
  · have hx : xs = [] := by
      rcases h3 with h | ⟨b, off, _, e, _⟩
      · exact h
      · cases e
    subst hx
    refine (Try.slices_Clone_int_nil _ _ w).mono ?_
    rintro e w' ⟨rfl, rfl⟩
    exact ⟨_, rfl, ints_nilK _ _ _, Below.refl _ _⟩
  · rcases h3 with rfl | ⟨b', off', hb, e, hc⟩
    · refine (Try.slices_Clone_int_zero _ _ w).mono ?_
      rintro e w' ⟨v', rfl, ho, _, hb⟩
      exact ⟨_, rfl, ints_rowK ho rfl, hb⟩
    · cases e
      refine (Try.slices_Clone_int b off xs.length c xs w (Nat.le_refl _) (by omega) (fun j hj => ?_)).mono ?_
      · have := hc j hj
        rw [this, List.getD_eq_getElem?_getD, List.getElem?_eq_getElem hj]
        rfl
      · rintro e w' ⟨v', rfl, ho, _, hb'⟩
        rw [List.take_length] at ho
        exact ⟨_, rfl, ints_rowK ho rfl, hb'⟩

theorem rel1_any (x0 x1 x2 : Int) (s : Value) (x4 x5 : Int) (y : Int) (B : Nat) (w : World) (hB : w.cell? ⟨B, 0, none⟩ = some (.int .i64 y)) :
    Calls Try.prog 95 #[.agg #[.int .i64 x0, .int .i64 x1, .int .i64 x2, s, .int .i64 x4, .int .i64 x5], .pointer (some ⟨B, 0, none⟩)] w fun e w' => e = .returned (.bool (decide (x0 = y))) ∧ Below w.heap.size w w' := by
  have hBa := fun o : Obj => below_al_cell hB o
  by_cases h : x0 = y
  · have hq : (x0 == y) = true := by simp [h]
    simp only [decide_eq_true h]
    clear h
    go_enter Try.func95, Try.ntmps95
    go_wp2
    go_ret
    exact ⟨rfl, below_al (Below.refl _ _) _⟩
  · have hq : (x0 == y) = false := by simp [h]
    simp only [decide_eq_false h]
    clear h
    go_enter Try.func95, Try.ntmps95
    go_wp2
    go_ret
    exact ⟨rfl, below_al (Below.refl _ _) _⟩

set_option maxHeartbeats 2000000 in
theorem relIdx_any (v : Value) (t : List Ho) (y : Int) (B : Nat) (w : World) (h : RowR 6 rHo w v t) (hB : w.cell? ⟨B, 0, none⟩ = some (.int .i64 y)) :
    Calls Try.prog 91 #[v, .func (.func 95) #[] #[.pointer (some ⟨B, 0, none⟩)]] w fun e w' => e = .returned (.int .i64 (relAt t y)) ∧ Below w.heap.size w w' := by
  have hcap := h.cap
  obtain ⟨a1, c1, rfl, hl1, hm1, r1⟩ := h.hos
  have R1 := Lib.hid r1
  clear h r1
  unfold maxLen at hm1
  unfold relAt
  obtain ⟨p, hp⟩ : ∃ p : Ho → Bool, (fun g : Ho => decide (g.id = y)) = p := ⟨_, rfl⟩
  rw [hp]
  have HP := Lib.hid hp
  have HB := Lib.hid hB
  clear hp hB
  go_enter Try.func91, Try.ntmps91
  go_wp2
  go_loopw [8] (fun i wr => ∃ k : Nat, k ≤ t.length ∧ i = .int .i64 k ∧ Hid (∀ j, j < k → p (t.getD j hoD) = false) ∧ Below w.heap.size w wr) (fun i _ => t.length - (intOf i).toNat)
  case atStart => exact ⟨0, Nat.zero_le _, rfl, Lib.hid (fun j h => absurd h (Nat.not_lt_zero _)), Below.refl _ _⟩
  case round =>
    obtain ⟨k, hk, rfl, HN, hb⟩ := hrel
    by_cases hlt : k < t.length
    · obtain ⟨b1, o1, hb1, rfl, e1⟩ := R1.out.resolve_left (fun e => by rw [e] at hlt; simp at hlt)
      obtain ⟨⟨x0, x1, x2, x3, x4, x5⟩, hx⟩ : ∃ s, t.getD k hoD = s := ⟨_, rfl⟩
      obtain ⟨s, q0, q1, q2, q3, q4, q5, hr, hok⟩ := e1 k hlt
      rw [hx] at q0 q1 q2 q4 q5 hr hok
      simp only at q0 q1 q2 q4 q5 hr
      have f0 := cell_kept q0 hb
      have f1 := cell_kept q1 hb
      have f2 := cell_kept q2 hb
      have f3 := cell_kept q3 hb
      have f4 := cell_kept q4 hb
      have f5 := cell_kept q5 hb
      have HX := Lib.hid hx
      have g0 : (0 : Int) ≤ (k : Int) := by omega
      have g1 : (k : Int) < (t.length : Int) := by omega
      have hsz := hb.size
      have hcall := rel1_any x0 x1 x2 s x4 x5 y B wr (cell_kept HB.out hb)
      clear q0 q1 q2 q3 q4 q5 e1 hx hr hok
      obtain ⟨bq, hbq⟩ : ∃ b, p ⟨x0, x1, x2, x3, x4, x5⟩ = b := ⟨_, rfl⟩
      have hbq2 : decide (x0 = y) = bq := by rw [← hbq, ← HP.out]
      rw [hbq2] at hcall
      have HBQ := Lib.hid hbq
      have HCALL := Lib.hid hcall
      clear hbq hbq2 hcall
      cases bq
      · go_wp2_with (first | (go_at_call 95; refine HCALL.out.mono ?_; rintro e w2 ⟨rfl, b2⟩))
        go_roundw
        case rel =>
          refine ⟨k + 1, by omega, by go_num, Lib.hid (fun j hj => ?_), hb.trans (b2.mono hsz)⟩
          rcases Nat.lt_or_ge j k with h' | h'
          · exact HN.out j h'
          · obtain rfl : j = k := by omega
            rw [HX.out]
            exact HBQ.out
        case measure => simp [intOf]; omega
      · go_wp2_with (first | (go_at_call 95; refine HCALL.out.mono ?_; rintro e w2 ⟨rfl, b2⟩))
        go_ret
        exact ⟨ret_int (gIdx_is (d := hoD) hlt HN.out (by rw [HX.out]; exact HBQ.out)).symm, hb.trans (b2.mono hsz)⟩
    · have hkt : k = t.length := by omega
      have HF : Hid (gIdx p t = -1) := Lib.hid (gIdx_none (d := hoD) (fun j hj => HN.out j (by omega)))
      clear hkt
      go_wp2
      go_ret
      exact ⟨ret_int HF.out.symm, hb⟩


theorem rel_start {w : World} {es : List Hp} {p : Nat} {D : Int} (hp : p < es.length) (hD : inI D) (hg : ∀ x ∈ es, GoodH w x) :
    ∀ i (h1 : i < ((es.map hpC).set p ((hpC es[p]).set 2 (.int .i64 D))).length) (h2 : i < (relPut (es.map (·.1)) p D).length), ∃ s, ((es.map hpC).set p ((hpC es[p]).set 2 (.int .i64 D)))[i] = hoC (relPut (es.map (·.1)) p D)[i] s ∧ RowOf vI w s (relPut (es.map (·.1)) p D)[i].ser ∧ (relPut (es.map (·.1)) p D)[i].ok := by
  intro i h1 h2
  have hi : i < es.length := by simpa using h1
  obtain ⟨s, e, hr, hok⟩ := hg es[i] (List.getElem_mem hi)
  have hs : hpS es[i].2 = s := by
    simp only [Value.agg.injEq, Array.mk.injEq, List.cons.injEq, true_and, and_true] at e
    exact e
  have hat : (es.map (·.1)).getD p hoD = es[p].1 := by rw [getHo_lt (by simpa using hp), List.getElem_map]
  by_cases hip : i = p
  · subst hip
    refine ⟨s, ?_, ?_, ?_⟩
    · simp only [relPut, List.getElem_set_self, hat, setTil, hoC, hpC, hs, List.set_cons_succ, List.set_cons_zero]
    · simp only [relPut, List.getElem_set_self, hat, setTil]; exact hr
    · simp only [relPut, List.getElem_set_self, hat, setTil, Ho.ok]; exact ⟨hok.1, hok.2.1, hD, hok.2.2.2.1, hok.2.2.2.2⟩
  · have hip' : p ≠ i := fun e => hip e.symm
    refine ⟨s, ?_, ?_, ?_⟩
    · simp only [relPut, List.getElem_set_ne hip', List.getElem_map, hoC, hpC, hs]
    · simp only [relPut, List.getElem_set_ne hip', List.getElem_map]; exact hr
    · simp only [relPut, List.getElem_set_ne hip', List.getElem_map]; exact hok

theorem HC.below {w w' : World} {v : Value} {es : List Hp} (h : HC w v es) (hb : Below w.heap.size w w') : HC w' v es := by
  obtain ⟨a, c, e, h1, h2, h3⟩ := h
  refine ⟨a, c, e, h1, h2, h3.imp id ?_⟩
  rintro ⟨b, off, hb', e, hc⟩
  exact ⟨b, off, Nat.lt_of_lt_of_le hb' hb.size, e, fun i hi j u hu => cell_kept (hc i hi j u hu) hb⟩

theorem hoC_set3 (r : Ho) (s u : Value) : (hoC r s).set 3 u = hoC r u := rfl
theorem relPut_ser {t : List Ho} {p : Nat} {d : Int} (ha : areHo t = true) (hp : p < t.length) : ∀ i (h : i < (relPut t p d).length), (relPut t p d)[i].ser.length ≤ 5 := by
  intro i h
  have hi : i < t.length := by simpa [relPut_len] using h
  have key : ∀ j (hj : j < t.length), (t.getD j hoD).ser.length ≤ 5 := fun j hj => (hoOne_iff.1 (ho_at ha hj)).2.2.1.1
  by_cases hip : i = p
  · subst hip
    simp only [relPut, List.getElem_set_self, setTil]
    exact key i hi
  · simp only [relPut, List.getElem_set_ne (fun e => hip e.symm)]
    have := key i hi
    rwa [getHo_lt hi] at this

set_option maxRecDepth 20000 in
set_option maxHeartbeats 8000000 in
theorem implRelease_any (v : Value) (t : List Ho) (x d : Int) (res : List Ho) (b : Bool) (hres : relRes t x d = (res, b)) (w : World) (h : RowR 6 rHo w v t) (hd : inI d) :
    Calls Try.prog 33 #[v, .int .i64 x, .int .i64 d] w fun e w' => ∃ v', e = .returned (.tuple #[v', .bool b]) ∧ HosO w.heap.size w'.heap.size w' v' res ∧ Below w.heap.size w w' := by
  obtain ⟨bg, hg⟩ : ∃ b, areHo t = b := ⟨_, rfl⟩
  obtain ⟨bd, hdd⟩ : ∃ b, decide (0 ≤ d ∧ d ≤ 20000) = b := ⟨_, rfl⟩
  have H := Lib.hid h
  have HG := Lib.hid hg
  have HD := Lib.hid hdd
  have NO := Lib.hid (fun hn => (Prod.mk.inj (hres.symm.trans (rel_no hn))))
  have YES := Lib.hid (fun (ha : areHo t = true) k (hk : k < t.length) h1 h2 h3 h4 => (Prod.mk.inj (hres.symm.trans (rel_yes (k := k) ha hk h1 h2 h3 h4))))
  obtain ⟨a, c, rfl, _, _, _⟩ := id h
  have HCB : Hid ((w.alloc (.cells #[.int .i64 x] 3 (0, 0))).cell? ⟨w.heap.size, 0, none⟩ = some (.int .i64 x)) := Lib.hid (cell_new w #[.int .i64 x] 3 0 rfl)
  clear h hg hdd hres
  cases bg
  · skip
    obtain ⟨rfl, rfl⟩ := NO.out (fun ha => by rw [HG.out] at ha; cases ha)
    go_enter Try.func33, Try.ntmps33
    go_wp2_with (first | (go_at_call 18; refine (implAreHo_any _ t _ (H.out.below rHo_stable (below_al (Below.refl _ _) _))).mono ?_; rw [HG.out]; rintro e w1 ⟨rfl, b1⟩; have b1w := below_chain (below_al (Below.refl w.heap.size w) _) b1; have cB := cell_kept HCB.out b1))
    go_ret2
    exact ⟨_, rfl, HosO.nilA _ _ _ b1w.size, b1w⟩
  · cases bd
    · skip
      obtain ⟨rfl, rfl⟩ := NO.out (fun ha j hj hc => by
        have hf := (hoOne_iff.1 (ho_at ha hj)).2.1.1.1
        exact of_decide_eq_false HD.out ⟨by omega, hc.2.2.2⟩)
      go_enter Try.func33, Try.ntmps33
      go_wp2_with (first | (go_at_call 18; refine (implAreHo_any _ t _ (H.out.below rHo_stable (below_al (Below.refl _ _) _))).mono ?_; rw [HG.out]; rintro e w1 ⟨rfl, b1⟩; have b1w := below_chain (below_al (Below.refl w.heap.size w) _) b1; have cB := cell_kept HCB.out b1) | (go_at_call 79; refine (isDay_any _ _).mono ?_; rw [HD.out]; rintro e w3 ⟨rfl, h3⟩; subst w3))
      go_ret2
      exact ⟨_, rfl, HosO.nilA _ _ _ b1w.size, b1w⟩
    · have hdb := of_decide_eq_true HD.out
      have HDB := Lib.hid hdb
      clear hdb
      rcases gIdx_cases hoD (fun h : Ho => decide (h.id = x)) t with ⟨hp, hno⟩ | ⟨p, hp, hpl, hpx, _⟩
      · have HP : Hid (relAt t x = -1) := Lib.hid hp
        obtain ⟨rfl, rfl⟩ := NO.out (fun ha j hj hc => absurd hc.1 (of_decide_eq_false (hno j hj)))
        clear hp hno
        go_enter Try.func33, Try.ntmps33
        go_wp2_with (first | (go_at_call 18; refine (implAreHo_any _ t _ (H.out.below rHo_stable (below_al (Below.refl _ _) _))).mono ?_; rw [HG.out]; rintro e w1 ⟨rfl, b1⟩; have b1w := below_chain (below_al (Below.refl w.heap.size w) _) b1; have cB := cell_kept HCB.out b1) | (go_at_call 79; refine (isDay_any _ _).mono ?_; rw [HD.out]; rintro e w3 ⟨rfl, h3⟩; subst w3) | (go_at_call 91; refine (relIdx_any _ t x w.heap.size _ (H.out.below rHo_stable b1w) cB).mono ?_; rw [HP.out]; rintro e w4 ⟨rfl, b4⟩; have b4w := b1w.trans (b4.mono b1w.size)))
        go_ret2
        exact ⟨_, rfl, HosO.nilA _ _ _ b4w.size, b4w⟩
      · have HP : Hid (relAt t x = (p : Int)) := Lib.hid hp
        have hidp : (t.getD p hoD).id = x := by simpa using hpx
        have HID := Lib.hid hidp
        clear hp hpx hidp
        obtain ⟨a1, c1, e1, hl1, hm1, r1⟩ := H.out.hos
        cases e1
        obtain ⟨b1', o1, hb1', rfl, e1⟩ := r1.resolve_left (fun e => by rw [e] at hpl; simp at hpl)
        obtain ⟨⟨x0, x1, x2, x3, x4, x5⟩, hx⟩ : ∃ s, t.getD p hoD = s := ⟨_, rfl⟩
        obtain ⟨s, q0, q1, q2, _, _, _, _, hok⟩ := e1 p hpl
        rw [hx] at q0 q1 q2 hok
        simp only at q0 q1 q2
        have Q1 := Lib.hid q1
        have Q2 := Lib.hid q2
        have HX := Lib.hid hx
        have HPL := Lib.hid hpl
        have g0 : (0 : Int) ≤ (p : Int) := by omega
        have g1 : (p : Int) < (t.length : Int) := by omega
        have g2 : ¬ ((p : Int) < 0) := by omega
        have e1' := Lib.hid e1
        clear q0 q1 q2 hok hx r1 e1 hl1 hm1 hpl
        by_cases htil : ¬ x2 = -1
        · have hq : (x2 != -1) = true := by simp [htil]
          obtain ⟨rfl, rfl⟩ := NO.out (fun ha j hj hc => by
              have := ho_uniq ha (i := j) (j := p) hj HPL.out (by rw [hc.1, HID.out])
              subst this
              have h2 := hc.2.1
              rw [HX.out] at h2
              exact htil h2)
          go_enter Try.func33, Try.ntmps33
          go_wp2_with (first | (go_at_call 18; refine (implAreHo_any _ t _ (H.out.below rHo_stable (below_al (Below.refl _ _) _))).mono ?_; rw [HG.out]; rintro e w1 ⟨rfl, b1⟩; have b1w := below_chain (below_al (Below.refl w.heap.size w) _) b1; have cB := cell_kept HCB.out b1) | (go_at_call 79; refine (isDay_any _ _).mono ?_; rw [HD.out]; rintro e w3 ⟨rfl, h3⟩; subst w3) | (go_at_call 91; refine (relIdx_any _ t x w.heap.size _ (H.out.below rHo_stable b1w) cB).mono ?_; rw [HP.out]; rintro e w4 ⟨rfl, b4⟩; have b4w := b1w.trans (b4.mono b1w.size); have f1 := cell_kept Q1.out b4w; have f2 := cell_kept Q2.out b4w))
          go_ret2
          exact ⟨_, rfl, HosO.nilA _ _ _ b4w.size, b4w⟩
        · replace htil : x2 = -1 := by omega
          by_cases hfr : d ≤ x1
          · obtain ⟨rfl, rfl⟩ := NO.out (fun ha j hj hc => by
              have := ho_uniq ha (i := j) (j := p) hj HPL.out (by rw [hc.1, HID.out])
              subst this
              have h2 := hc.2.2.1
              rw [HX.out] at h2
              simp only at h2
              omega)
            subst htil
            go_enter Try.func33, Try.ntmps33
            go_wp2_with (first | (go_at_call 18; refine (implAreHo_any _ t _ (H.out.below rHo_stable (below_al (Below.refl _ _) _))).mono ?_; rw [HG.out]; rintro e w1 ⟨rfl, b1⟩; have b1w := below_chain (below_al (Below.refl w.heap.size w) _) b1; have cB := cell_kept HCB.out b1) | (go_at_call 79; refine (isDay_any _ _).mono ?_; rw [HD.out]; rintro e w3 ⟨rfl, h3⟩; subst w3) | (go_at_call 91; refine (relIdx_any _ t x w.heap.size _ (H.out.below rHo_stable b1w) cB).mono ?_; rw [HP.out]; rintro e w4 ⟨rfl, b4⟩; have b4w := b1w.trans (b4.mono b1w.size); have f1 := cell_kept Q1.out b4w; have f2 := cell_kept Q2.out b4w))
            go_ret2
            exact ⟨_, rfl, HosO.nilA _ _ _ b4w.size, b4w⟩
          · obtain ⟨rfl, rfl⟩ := YES.out HG.out p HPL.out HID.out (by rw [HX.out]; exact htil) (by rw [HX.out]; simp only; omega) HDB.out.2
            subst htil
            obtain ⟨es, hes, hcv, hgood⟩ := H.out.hcells
            have hle : t.length = es.length := by rw [← hes, List.length_map]
            have hpe : p < es.length := by rw [← hle]; exact HPL.out
            have HLE : Hid (es.length ≤ 1048576) := Lib.hid (by rw [← hle]; have := ho_len HG.out; omega)
            have HCV : Hid (∀ W, Below w.heap.size w W → HC W _ es) := Lib.hid (fun W hW => hcv.below hW)
            have START := Lib.hid (rel_start (w := w) hpe hd hgood)
            rw [hes] at START
            have HL := Lib.hid hle
            have HPE := Lib.hid hpe
            obtain ⟨rs, hrs⟩ : ∃ rs, relPut t p d = rs := ⟨_, rfl⟩
            have HSER : Hid (∀ i (h : i < rs.length), rs[i].ser.length ≤ 5) := Lib.hid (by rw [← hrs]; exact relPut_ser HG.out HPL.out)
            rw [hrs] at START ⊢
            have HRL : Hid (rs.length = t.length) := Lib.hid (by rw [← hrs, relPut_len])
            have ht8 : t.length ≤ 8 := ho_len HG.out
            clear hes hcv hgood hle hrs
            go_enter Try.func33, Try.ntmps33
            go_wp2_with (first | (go_at_call 18; refine (implAreHo_any _ t _ (H.out.below rHo_stable (below_al (Below.refl _ _) _))).mono ?_; rw [HG.out]; rintro e w1 ⟨rfl, b1⟩; have b1w := below_chain (below_al (Below.refl w.heap.size w) _) b1; have cB := cell_kept HCB.out b1) | (go_at_call 79; refine (isDay_any _ _).mono ?_; rw [HD.out]; rintro e w3 ⟨rfl, h3⟩; subst w3) | (go_at_call 91; refine (relIdx_any _ t x w.heap.size _ (H.out.below rHo_stable b1w) cB).mono ?_; rw [HP.out]; rintro e w4 ⟨rfl, b4⟩; have b4w := b1w.trans (b4.mono b1w.size); have f1 := cell_kept Q1.out b4w; have f2 := cell_kept Q2.out b4w) | (go_at_call 96; refine (cloneHo_any _ es _ (HCV.out _ b4w) HLE.out).mono ?_; rintro e w5 ⟨v5, rfl, ho5, b5⟩; have b5w := b4w.trans (b5.mono b4w.size); obtain ⟨g, cap, hv5, hg5, hgl5, hnc5, _⟩ := ho5.form.resolve_left (fun hh => by have h0 := congrArg List.length hh.2; rw [List.length_map, List.length_nil] at h0; have h1 := HPE.out; omega); rw [List.length_map, ← HL.out] at hv5; subst hv5; have HO5 := Lib.hid ho5; have HG5 := Lib.hid (And.intro hg5 hgl5); have fr := ho5.frozen (p * 6 + 2); have c2 := ho5.cell p 2 (by rw [List.length_map]; exact HPE.out) (by omega); rw [List.getElem_map] at c2; simp only [hpC] at c2; clear ho5 hg5 hgl5 hnc5))
            obtain ⟨s5, g5⟩ := HO5.out.stored p 2 (by rw [List.length_map]; exact HPE.out) (by omega) (.int .i64 d)
            rw [List.getElem_map] at s5
            have hon5 : Below w.heap.size w (w5.setCell ⟨g, p * 6 + 2, none⟩ (.int .i64 d)) := b5w.grown g5 b5w.size (fun k hk => by cases hk; exact Nat.le_trans b4w.size HG5.out.1)
            have S5 := Lib.hid s5
            clear s5 g5
            go_loopw [50] (fun i wr => ∃ (k : Nat) (css : List (List Value)) (f : Nat → Nat), k ≤ t.length ∧ i = .int .i64 k ∧ css.length = t.length ∧ Own w.heap.size 100 6 wr (.slice (some ⟨g, 0, none⟩) t.length cap) css ∧
                Hid (f 0 = g + 1 ∧ (∀ i, i < k → f i ≤ f (i + 1)) ∧ f k ≤ wr.heap.size ∧ ∀ i (h1 : i < css.length) (h2 : i < rs.length), i < k → ∃ s, css[i] = hoC rs[i] s ∧ IntsO (f i) (f (i + 1)) wr s rs[i].ser ∧ rs[i].ok) ∧
                Hid (∀ i (h1 : i < css.length) (h2 : i < rs.length), k ≤ i → ∃ s, css[i] = hoC rs[i] s ∧ RowOf vI w s rs[i].ser ∧ rs[i].ok) ∧ Below w.heap.size w wr) (fun i _ => t.length - (intOf i).toNat)
            case atStart =>
              refine ⟨0, _, fun _ => g + 1, Nat.zero_le _, rfl, by simp [HL.out], S5.out.lower b4w.size, Lib.hid ⟨rfl, fun i h => absurd h (Nat.not_lt_zero _), ?_, fun i _ _ h => absurd h (Nat.not_lt_zero _)⟩, Lib.hid (fun i h1 h2 _ => START.out i h1 h2), hon5⟩
              have := HG5.out.2
              simp
              omega
            case round =>
              obtain ⟨k, css, f, hk, rfl, hcl, hO, I, J, hb⟩ := hrel
              have HO := Lib.hid hO
              have HCL := Lib.hid hcl
              have hsz := hb.size
              by_cases hlt : k < t.length
              · have hkc : k < css.length := by rw [hcl]; exact hlt
                have hkr : k < rs.length := by rw [HRL.out]; exact hlt
                obtain ⟨s, e1, e2, e3⟩ := J.out k hkc hkr (Nat.le_refl _)
                have hser := HSER.out k hkr
                obtain ⟨r, hr⟩ : ∃ r, rs[k] = r := ⟨_, rfl⟩
                rw [hr] at e1 e2 e3 hser
                obtain ⟨sa, sc, rfl, _⟩ := id e2
                have c3 := hO.cell k 3 hkc (by omega)
                have E1 := Lib.hid e1
                rw [e1] at c3
                simp only [hoC] at c3
                have E2 := Lib.hid e2
                have E3 := Lib.hid e3
                have HR := Lib.hid hr
                have HKC := Lib.hid hkc
                have g0 : (0 : Int) ≤ (k : Int) := by omega
                have g1 : (k : Int) < (t.length : Int) := by omega
                clear e1 e2 e3 hO hcl hr
                go_wp2_with (first | (go_at_call 97; refine (cloneInts_any _ r.ser _ (E2.out.below hb) (by omega)).mono ?_; rintro e w6 ⟨v6, rfl, hi6, b6⟩; obtain ⟨ta, tn, tc, hv6⟩ := hi6.slice; subst hv6; have hO6 := HO.out.below b6; have fr6 := hO6.frozen (k * 6 + 3); have c36 := hO6.cell k 3 HKC.out (by omega); rw [E1.out] at c36; simp only [hoC] at c36; have HO6 := Lib.hid hO6; have HI6 := Lib.hid hi6; clear hO6 hi6))
                go_roundw
                case rel =>
                  have hkc := HKC.out
                  obtain ⟨p1, p2⟩ := HO6.out.stored k 3 hkc (by omega) (.slice ta tn tc)
                  rw [E1.out, hoC_set3] at p1
                  have hon : Only g (g + 1) w6 (w6.setCell ⟨g, k * 6 + 3, none⟩ (.slice ta tn tc)) :=
                    Only.of_grown (v := .slice (some ⟨g, 0, none⟩) t.length cap) p2 (fun g' hg => by simp [Value.ownBlock] at hg; omega) (fun g' hg => by simp [Value.ownBlock] at hg; omega)
                  obtain ⟨I0, I1, I2, I3⟩ := I.out
                  have hgt : g + 1 ≤ wr.heap.size := by have := mono_up I1 0 k (Nat.zero_le _) (Nat.le_refl _); omega
                  have hgw : w.heap.size ≤ g := Nat.le_trans b4w.size HG5.out.1
                  have key : ∀ i (h1 : i < (css.set k (hoC r (.slice ta tn tc))).length) (h2 : i < rs.length), i < k + 1 → ∃ s, (css.set k (hoC r (.slice ta tn tc)))[i] = hoC rs[i] s ∧ IntsO (upd f (k + 1) w6.heap.size i) (upd f (k + 1) w6.heap.size (i + 1)) (w6.setCell ⟨g, k * 6 + 3, none⟩ (.slice ta tn tc)) s rs[i].ser ∧ rs[i].ok := by
                    intro i h1 h2 h3
                    rw [upd_ne f _ (by omega : i ≠ k + 1)]
                    rcases Nat.lt_or_ge i k with h' | h'
                    · obtain ⟨s', e1, e2, e3⟩ := I3 i (by simpa using h1) h2 h'
                      rw [upd_ne f _ (by omega : i + 1 ≠ k + 1)]
                      exact ⟨s', by rw [List.getElem_set_ne (by omega)]; exact e1, (e2.below b6).only hon (by rw [← I0]; exact mono_up I1 0 i (Nat.zero_le _) (by omega)), e3⟩
                    · obtain rfl : i = k := by omega
                      rw [upd_at]
                      refine ⟨(.slice ta tn tc), by rw [List.getElem_set_self, HR.out], ?_, by rw [HR.out]; exact E3.out⟩
                      rw [HR.out]
                      exact (HI6.out.only hon hgt).wide I2 (Nat.le_refl _)
                  refine ⟨k + 1, css.set k (hoC r (.slice ta tn tc)), upd f (k + 1) w6.heap.size, by omega, by go_num, by rw [List.length_set]; exact HCL.out, p1, Lib.hid ⟨by rw [upd_ne f _ (by omega)]; exact I0, fun i hi => ?_, by rw [upd_at]; exact p2.size, key⟩, Lib.hid (fun i h1 h2 h3 => ?_), (hb.trans (b6.mono hb.size)).grown p2 (Nat.le_trans hb.size b6.size) (fun _ h => by cases h; exact hgw)⟩
                  · rw [upd_ne f _ (by omega : i ≠ k + 1)]
                    rcases Nat.lt_or_ge i k with h' | h'
                    · rw [upd_ne f _ (by omega : i + 1 ≠ k + 1)]
                      exact I1 i h'
                    · obtain rfl : i = k := by omega
                      rw [upd_at]
                      exact Nat.le_trans I2 b6.size
                  · obtain ⟨s', e1, e2, e3⟩ := J.out i (by simpa using h1) h2 (by omega)
                    exact ⟨s', by rw [List.getElem_set_ne (by omega)]; exact e1, e2, e3⟩
                case measure => simp [intOf]; omega
              · clear hO
                go_wp2_with fail
                go_ret2
                obtain rfl : k = t.length := by omega
                obtain ⟨I0, I1, I2, I3⟩ := I.out
                have hgw : w.heap.size ≤ g := Nat.le_trans b4w.size HG5.out.1
                exact ⟨_, rfl, ⟨css, f, by rw [HCL.out, HRL.out], HO.out, (by rw [I0]; intro g' hg; simp [Value.ownBlock] at hg; omega), by omega, by rw [HRL.out]; exact I1, by rw [HRL.out]; exact I2, fun i h1 h2 => I3 i h1 h2 (by rw [← HRL.out]; exact h2)⟩, hb⟩
end Go.Proofs.Ytkjpehpodlpdhaa
