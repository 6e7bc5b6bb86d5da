/- The program's settle. -/
import Derived.Test.YtpngmheflpbnbaaPerS
import Derived.Test.YtpngmheflpbnbaaPerD
import Derived.Test.YtpngmheflpbnbaaContains
import Derived.ScopeJumps
import Derived.BigRegion
namespace Go.Proofs.Ytpngmheflpbnbaa
set_option linter.unusedVariables false
open Go.RowKit Go.Sort

/-- A scope whose gotos lead forward to one label. -/
theorem wp_scope_forward {P : Program} {Q : Exit → Act → World → Prop} {a : Act} {w : World} {c : Code} (l : Nat) (rest : Code) (hf : findLabel c l = some rest)
    (first : c.wp P (Exit.jump l (fun a w => rest.wp P (Exit.noGoto Q) a w) Q) a w) : (Code.scope c).wp P Q a w :=
  wp_scope_jumps l (fun a w => rest.wp P (Exit.noGoto Q) a w) (fun _ _ => 0) hf first (fun a w hJ => wp_mono hJ (by
    intro e a w h
    cases e <;> first | exact h | exact h.elim))
theorem per_nil {r : Rec} {t : List Ru} (h : (perRules r t).length = 0) : setF r t = (ruD, 0, false) := by
  rcases ha : askB r t with _ | _
  · exact setF_no (.inl ha)
  · refine setF_no (.inr ?_)
    unfold perRules at h
    rw [if_pos ha] at h
    have hq := ask_iff.1 ha
    rcases Int.lt_or_le (dueF r t) 0 with h1 | h1
    · exact h1
    · exact absurd (List.length_eq_zero_iff.1 h) ((set_told hq.1 hq.2).1 h1).1
theorem per_open {r : Rec} {t : List Ru} (h : (-1 : Int) ∈ perEnds r t) : setF r t = (ruD, 0, false) := by
  rcases ha : askB r t with _ | _
  · exact setF_no (.inl ha)
  · refine setF_no (.inr ?_)
    unfold perEnds at h
    rw [if_pos ha] at h
    have hq := ask_iff.1 ha
    rcases Int.lt_or_le (dueF r t) 0 with h1 | h1
    · exact h1
    · exact absurd h ((set_told hq.1 hq.2).1 h1).2
theorem per_told {r : Rec} {t : List Ru} (h : (perRules r t).length ≠ 0) (h2 : ¬ (-1 : Int) ∈ perEnds r t) : askB r t = true ∧ perRules r t = forRu t r.series ∧ perEnds r t = endsF r t ∧ setF r t = (ruleF r t, dueF r t, true) := by
  rcases ha : askB r t with _ | _
  · unfold perRules at h; rw [if_neg (by rw [ha]; simp)] at h; simp at h
  · have hq := ask_iff.1 ha
    have e1 : perRules r t = forRu t r.series := by unfold perRules; rw [if_pos ha]
    have e2 : perEnds r t = endsF r t := by unfold perEnds; rw [if_pos ha]
    refine ⟨rfl, e1, e2, setF_yes ha ((set_told hq.1 hq.2).2 ⟨fun e => h (by rw [e1, e]; rfl), by rw [← e2]; exact h2⟩)⟩
theorem per_len (r : Rec) (t : List Ru) : (perEnds r t).length = (perRules r t).length := by
  unfold perEnds perRules
  split
  · unfold endsF; rw [List.length_map]
  · rfl
theorem per_le (r : Rec) (t : List Ru) : (perRules r t).length ≤ t.length := by
  unfold perRules
  split
  · exact forRu_len _ _
  · exact Nat.zero_le _
set_option maxRecDepth 20000 in
set_option maxHeartbeats 8000000 in
theorem settle_any (v v1 : Value) (r : Rec) (t : List Ru) (w : World) (h : RecV w v r) (h1 : RowR 4 rRu w v1 t) (hn : t.length ≤ 1048576) (q : Ru) (d : Int) (b : Bool) (hres : setF r t = (q, d, b)) :
    Calls Try.prog 89 #[v, v1] w fun e w' => e = .returned (.tuple #[.agg #[.int .i64 q.series, .int .i64 q.event, .int .i64 q.days, .int .i64 q.act], .int .i64 d, .bool b]) ∧ Below w.heap.size w w' := by
  obtain ⟨s, rfl, h0, hok⟩ := h
  have HV := Lib.hid (show ∀ W, Below w.heap.size w W → RecV W (.agg #[.int .i64 r.id, .int .i64 r.series, .int .i64 r.made, s]) r from fun W hb => ⟨s, rfl, h0.below rEv_stable hb, hok⟩)
  have H1 := Lib.hid h1
  have HRES := Lib.hid hres
  have hpl := per_len r t
  have hpe := per_le r t
  obtain ⟨R, hR⟩ : ∃ R, perRules r t = R := ⟨_, rfl⟩
  obtain ⟨E, hE⟩ : ∃ E, perEnds r t = E := ⟨_, rfl⟩
  rw [hR] at hpl hpe
  rw [hE] at hpl
  have HPL := Lib.hid hpl
  have HR := Lib.hid hR
  have HE := Lib.hid hE
  clear h0 hok h1 hres hR hE hpl
  have b0 := below_al (below_al (Below.refl w.heap.size w) (RBOX r s 42)) (.cells #[.int .i64 0, .int .i64 0, .int .i64 0, .int .i64 0] 37 (0, 0))
  have HX0 : Hid (UBox ((w.alloc (RBOX r s 42)).alloc (.cells #[.int .i64 0, .int .i64 0, .int .i64 0, .int .i64 0] 37 (0, 0))) (w.heap.size + 1) ruD) := Lib.hid (by rw [← (show (w.alloc (RBOX r s 42)).heap.size = w.heap.size + 1 by simp)]; exact UBox.new (w.alloc (RBOX r s 42)) ruD 37)
  by_cases hz : R.length = 0
  · have hz1 : ((R.length : Int) == 0) = true := by simp [hz]
    have hz2 : decide ((R.length : Int) = 0) = true := decide_eq_true (by omega)
    have hz3 : decide (R.length = 0) = true := decide_eq_true hz
    have hq := HRES.out
    rw [per_nil (by rw [HR.out]; exact hz)] at hq
    cases hq
    have HZ := Lib.hid hz
    clear hz
    go_enter Try.func89, Try.ntmps89
    go_wp2_with (first | (go_at_call 100; refine (periodsOf_any _ _ r t _ (HV.out _ b0) (H1.out.below rRu_stable b0) hn).mono ?_; rintro e w1 ⟨u1, u2, rfl, ho1, ho2, b1⟩; rw [HR.out] at ho1; rw [HE.out] at ho2; have HX1 := Lib.hid (HX0.out.kept b1); obtain ⟨z0, z1, z2, z3, y0, y1, y2, y3⟩ := HX1.out; simp only [ruD] at z0 z1 z2 z3; replace b1 := below_chain b0 b1; obtain ⟨a1, n1, c1, hu1⟩ := ho1.1.slice; obtain ⟨a1', c1', hv, hl1, hm1, r1⟩ := ho1.row.rus; subst hv; unfold maxLen at hm1; clear hu1 r1 ho1 ho2))
    refine bodyPost_ret (v := .tuple #[.agg #[.int .i64 0, .int .i64 0, .int .i64 0, .int .i64 0], .int .i64 0, .bool false]) (by simp [results, Try.results89, go_sem, z0, z1, z2, z3]) rfl ⟨rfl, ?_⟩
    exact below_putU b1 (by omega) ruD
  · have hz1 : ((R.length : Int) == 0) = false := by simp [hz]
    have hz2 : decide ((R.length : Int) = 0) = false := decide_eq_false (by omega)
    have hz3 : decide (R.length = 0) = false := decide_eq_false hz
    have HZ := Lib.hid hz
    have hpos : (0 : Int) < (R.length : Int) := by omega
    clear hz
    by_cases ho : (-1 : Int) ∈ E
    · have hq := HRES.out
      rw [per_open (by rw [HE.out]; exact ho)] at hq
      cases hq
      have HO := Lib.hid (decide_eq_true ho)
      clear ho
      go_enter Try.func89, Try.ntmps89
      go_wp2_with (first | (go_at_call 100; refine (periodsOf_any _ _ r t _ (HV.out _ b0) (H1.out.below rRu_stable b0) hn).mono ?_; rintro e w1 ⟨u1, u2, rfl, ho1, ho2, b1⟩; rw [HR.out] at ho1; rw [HE.out] at ho2; have HX1 := Lib.hid (HX0.out.kept b1); replace b1 := below_chain b0 b1; obtain ⟨a1', c1', hv, hl1, hm1, r1⟩ := ho1.row.rus; subst hv; unfold maxLen at hm1; have HO2 := Lib.hid ho2; clear r1 ho1 ho2) | (go_at_call 79; refine (contains_any _ E _ _ HO2.out.row).mono ?_; rw [HO.out]; rintro e w2 ⟨rfl, b2⟩; have HX2 := Lib.hid (HX1.out.kept b2); obtain ⟨z0, z1, z2, z3, y0, y1, y2, y3⟩ := HX2.out; simp only [ruD] at z0 z1 z2 z3; replace b2 := below_chain b1 b2))
      refine bodyPost_ret (v := .tuple #[.agg #[.int .i64 0, .int .i64 0, .int .i64 0, .int .i64 0], .int .i64 0, .bool false]) (by simp [results, Try.results89, go_sem, z0, z1, z2, z3]) rfl ⟨rfl, ?_⟩
      exact below_putU b2 (by omega) ruD
    · obtain ⟨ha, hRf, hEf, hset⟩ := per_told (by rw [HR.out]; exact HZ.out) (by rw [HE.out]; exact ho)
      rw [HR.out] at hRf
      rw [HE.out] at hEf
      have hq := HRES.out
      rw [hset] at hq
      cases hq
      have HO := Lib.hid (decide_eq_false ho)
      have hask := ask_iff.1 ha
      have hshut : ∀ u ∈ R, 0 ≤ endR r u := fun u hu => by
        rcases Int.lt_or_le (endR r u) 0 with hlt | hlt
        · exact absurd (by rw [hEf]; exact (open_mem hask.1 hask.2).2 ⟨u, by rw [← hRf]; exact hu, hlt⟩) ho
        · exact hlt
      have HSH := Lib.hid hshut
      have HEM := Lib.hid (show E = R.map (endR r) by rw [hEf, hRf]; rfl)
      have hdec : decR r R = (ruleF r t, dueF r t) := by rw [hRf]; rfl
      have HRU := Lib.hid (show ∀ u ∈ R, isRu u = true by rw [hRf]; exact forRu_ok hask.2 r.series)
      have HDEC := Lib.hid hdec
      obtain ⟨Q1, hQ1⟩ : ∃ x, ruleF r t = x := ⟨_, rfl⟩
      obtain ⟨D1, hD1⟩ : ∃ x, dueF r t = x := ⟨_, rfl⟩
      rw [hQ1, hD1] at HDEC ⊢
      clear ho hRf hEf hset ha hask hshut hdec hQ1 hD1
      go_enter Try.func89, Try.ntmps89
      go_wp2_with (first | (go_at_call 100; refine (periodsOf_any _ _ r t _ (HV.out _ b0) (H1.out.below rRu_stable b0) hn).mono ?_; rintro e w1 ⟨u1, u2, rfl, ho1, ho2, b1⟩; rw [HR.out] at ho1; rw [HE.out] at ho2; have HX1 := Lib.hid (HX0.out.kept b1); replace b1 := below_chain b0 b1; obtain ⟨a1', c1', hv, hl1, hm1, r1⟩ := ho1.row.rus; subst hv; unfold maxLen at hm1; have HO1 := Lib.hid ho1; have HO2 := Lib.hid ho2; obtain ⟨a2, c2, hv2, hl2, hm2, r2⟩ := ho2.row; subst hv2; rw [HPL.out] at hl2; unfold maxLen at hm2; clear r1 r2 ho1 ho2) | (go_at_call 79; refine (contains_any _ E _ _ HO2.out.row).mono ?_; rw [HO.out]; rintro e w2 ⟨rfl, b2⟩; have HX2 := Lib.hid (HX1.out.kept b2); have hx2 := HO1.out.row.below rRu_stable b2; have hy2 := (HO2.out.below b2).row; replace b2 := below_chain b1 b2))
      have hEl : E.length = R.length := HPL.out
      have hR0 : 0 < R.length := by omega
      have hE0 : 0 < E.length := by omega
      obtain ⟨_, _, hva, _, _, rA⟩ := hx2.rus
      cases hva
      obtain ⟨bR, oR, hbR, rfl, eR⟩ := rA.resolve_left (fun e => by rw [e] at hR0; simp at hR0)
      obtain ⟨_, _, hvb, _, _, rB⟩ := hy2
      cases hvb
      obtain ⟨bE, oE, hbE, rfl, eE⟩ := rB.resolve_left (fun e => by rw [e] at hE0; simp at hE0)
      have ER := Lib.hid eR
      have EE := Lib.hid eE
      obtain ⟨q0, q1, q2, q3, hok0⟩ := eR 0 hR0
      obtain ⟨⟨x0, x1, x2, x3⟩, hx⟩ : ∃ s, R.getD 0 ruD = s := ⟨_, rfl⟩
      rw [hx] at q0 q1 q2 q3
      have p0 := eE 0 hE0
      obtain ⟨d0, hd0⟩ : ∃ x, E[0] = x := ⟨_, rfl⟩
      rw [hd0] at p0
      simp only [vI, Nat.zero_mul, Nat.add_zero] at q0 q1 q2 q3 p0
      have HXX := Lib.hid hx
      have HD0 := Lib.hid hd0
      have ge : (0 : Int) < (E.length : Int) := by omega
      clear hEl eR eE rA rB hx2 hok0 hx hd0 HO1 HO2 HX1 b1 b0 HX0
      have hd00 : d0 = endR r ⟨x0, x1, x2, x3⟩ := by
        have e1 : E[0]? = some d0 := by rw [List.getElem?_eq_getElem hE0, HD0.out]
        rw [HEM.out, List.getElem?_map, List.getElem?_eq_getElem hR0, ← getRu_lt hR0, HXX.out] at e1
        simpa using e1.symm
      have HF0 : Hid (decF r (R.drop 0) ⟨x0, x1, x2, x3⟩ d0 = (Q1, D1)) := Lib.hid (by
        have e2 := drop_ru hR0
        rw [HXX.out] at e2
        have e3 : R = ⟨x0, x1, x2, x3⟩ :: R.drop 1 := by simpa using e2
        rw [hd00, ← HDEC.out]
        conv => rhs; rw [e3]
        rw [dec_head (by rw [← e3]; intro u hu; have := HSH.out u hu; omega), ← e3, List.drop_zero])
      clear hd00
      go_region
      go_wp2_with fail
      go_loopw [11, 37] (fun due i wr => ∃ (k : Nat) (b : Ru) (dd : Int), k ≤ R.length ∧ i = .int .i64 k ∧ due = .int .i64 dd ∧ Hid (decF r (R.drop k) b dd = (Q1, D1)) ∧ Hid (UBox wr w2.heap.size b) ∧ Below w2.heap.size w2 wr) (fun _ i _ => R.length - (intOf i).toNat)
      case atStart => exact ⟨0, ⟨x0, x1, x2, x3⟩, d0, Nat.zero_le _, rfl, rfl, HF0, Lib.hid ((UBox.new w2 ⟨x0, x1, x2, x3⟩ _).drew), (below_al (Below.refl _ _) _).drew⟩
      case round =>
        clear HF0 q0 q1 q2 q3 p0
        obtain ⟨k, b, dd, hk, rfl, rfl, HF, HB, hb⟩ := hrel
        have bw := b2.trans (hb.mono b2.size)
        have HX := Lib.hid (HX2.out.kept hb)
        have hgl := HB.out.lt
        by_cases hlt : k < R.length
        · have hlE : k < E.length := by have := HPL.out; omega
          obtain ⟨q0, q1, q2, q3, hok⟩ := ER.out k hlt
          obtain ⟨⟨z0, z1, z2, z3⟩, hx⟩ : ∃ s, R.getD k ruD = s := ⟨_, rfl⟩
          rw [hx] at q0 q1 q2 q3
          have p0 := EE.out k hlE
          obtain ⟨e, he⟩ : ∃ x, E[k] = x := ⟨_, rfl⟩
          rw [he] at p0
          simp only [vI] at q0 q1 q2 q3 p0
          have hee : e = endR r ⟨z0, z1, z2, z3⟩ := by
            have e1 : E[k]? = some e := by rw [List.getElem?_eq_getElem hlE, he]
            rw [HEM.out, List.getElem?_map, List.getElem?_eq_getElem hlt, ← getRu_lt hlt, hx] at e1
            simpa using e1.symm
          have hns : ¬ endR r ⟨z0, z1, z2, z3⟩ < 0 := by rw [← hx, getRu_lt hlt]; have := HSH.out _ (List.getElem_mem hlt); omega
          have hdrop := drop_ru hlt
          rw [hx] at hdrop
          have hcons : (if dd < e ∨ (e = dd ∧ z3 < b.act) then decF r (R.drop (k + 1)) ⟨z0, z1, z2, z3⟩ e else decF r (R.drop (k + 1)) b dd) = (Q1, D1) := by
            rw [hee, ← decF_cons hns, ← hdrop]; exact HF.out
          have HCO := Lib.hid hcons
          have f0 := cell_kept q0 hb
          have f1 := cell_kept q1 hb
          have f2 := cell_kept q2 hb
          have f3 := cell_kept q3 hb
          have e0 := cell_kept p0 hb
          have g0 : (0 : Int) ≤ (k : Int) := by omega
          have g1 : (k : Int) < (R.length : Int) := by omega
          have g2 : (k : Int) < (E.length : Int) := by omega
          obtain ⟨b0, b1', b2', b3⟩ := b
          clear q0 q1 q2 q3 p0 hok hx he hee hns hdrop hcons HF
          go_wp2_with fail
          generalize hWE : wr.alloc (.cells #[.int .i64 z0, .int .i64 z1, .int .i64 z2, .int .i64 z3] 37 (0, 0)) = wE
          have bE : Below wr.heap.size wr wE := by rw [← hWE]; exact below_al (Below.refl _ _) _
          have HU : Hid (UBox wE wr.heap.size ⟨z0, z1, z2, z3⟩) := Lib.hid (by rw [← hWE]; exact UBox.new wr ⟨z0, z1, z2, z3⟩ _)
          have e0' := cell_kept e0 bE
          have HB' := Lib.hid (HB.out.kept bE)
          have bg := hb.trans (bE.mono hb.size)
          have hne : wr.heap.size ≠ w2.heap.size := by omega
          clear hWE e0 f0 f1 f2 f3 HX HB
          obtain ⟨c0, c1, c2', c3, y0, y1, y2, y3⟩ := HB'.out
          obtain ⟨u0, u1, u2, u3, t0, t1, t2, t3⟩ := HU.out
          simp only at c0 c1 c2' c3 u0 u1 u2 u3
          clear t0 t1 t2 t3
          by_cases h1 : dd < e
          · have HZ := Lib.hid HCO.out
            rw [if_pos (.inl h1)] at HZ
            refine wp_scope_forward 0 _ rfl ?_
            go_wp2_with fail
            apply wp_goto
            refine And.intro (a := 0 = 0) rfl ?_
            show Code.wp _ _ _ _ _
            go_wp2_with fail
            go_region
            rw [Exit.noGoto_normal]
            go_wp2_with fail
            go_roundw
            case rel => exact ⟨k + 1, ⟨z0, z1, z2, z3⟩, e, by omega, by go_num, rfl, HZ, Lib.hid ((HB'.out.put ⟨z0, z1, z2, z3⟩).drew), (below_putU bg (Nat.le_refl _) ⟨z0, z1, z2, z3⟩).drew⟩
            case measure => simp [intOf]; omega
          · by_cases h2 : e < dd
            · have h2d : decide (e < dd) = true := decide_eq_true h2
              have HZ := Lib.hid HCO.out
              rw [if_neg (by rintro (q | ⟨q, _⟩) <;> omega)] at HZ
              go_step3
              go_wp2_with fail
              try rw [Exit.noGoto_exit]
              go_wp2_with fail
              go_roundw
              case rel => exact ⟨k + 1, ⟨b0, b1', b2', b3⟩, dd, by omega, by go_num, rfl, HZ, HB', bg⟩
              case measure => simp [intOf]; omega
            · have h2d : decide (e < dd) = false := decide_eq_false h2
              by_cases h3 : z3 < b3
              · have h3d : decide (b3 ≤ z3) = false := decide_eq_false (by omega)
                have HZ := Lib.hid HCO.out
                rw [if_pos (.inr ⟨by omega, h3⟩)] at HZ
                go_step3
                go_wp2_with fail
                go_step3
                go_wp2_with fail
                go_region
                rw [Exit.noGoto_normal]
                go_wp2_with fail
                go_roundw
                case rel => exact ⟨k + 1, ⟨z0, z1, z2, z3⟩, e, by omega, by go_num, rfl, HZ, Lib.hid ((HB'.out.put ⟨z0, z1, z2, z3⟩).drew), (below_putU bg (Nat.le_refl _) ⟨z0, z1, z2, z3⟩).drew⟩
                case measure => simp [intOf]; omega
              · have h3d : decide (b3 ≤ z3) = true := decide_eq_true (by omega)
                have HZ := Lib.hid HCO.out
                rw [if_neg (by rintro (q | ⟨_, q⟩); · omega
                               · exact h3 q)] at HZ
                go_step3
                go_wp2_with fail
                try rw [Exit.noGoto_exit]
                go_wp2_with fail
                go_roundw
                case rel => exact ⟨k + 1, ⟨b0, b1', b2', b3⟩, dd, by omega, by go_num, rfl, HZ, HB', bg⟩
                case measure => simp [intOf]; omega
        · obtain rfl : k = R.length := by omega
          have hfin := HF.out
          rw [List.drop_length] at hfin
          obtain ⟨rfl, rfl⟩ := Prod.mk.inj (show (b, dd) = (Q1, D1) from hfin)
          obtain ⟨b0, b1', b2', b3⟩ := b
          obtain ⟨p0, p1, p2, p3, y0, y1, y2, y3⟩ := HB.out
          obtain ⟨z0, z1, z2, z3, u0, u1, u2, u3⟩ := HX.out
          simp only [ruD] at z0 z1 z2 z3 p0 p1 p2 p3 ⊢
          have hXl := HX2.out.lt
          have hne : w2.heap.size ≠ w.heap.size + 1 := by omega
          clear hfin
          go_wp2_with fail
          refine bodyPost_ret (v := .tuple #[.agg #[.int .i64 b0, .int .i64 b1', .int .i64 b2', .int .i64 b3], .int .i64 dd, .bool true]) (by simp [results, Try.results89, go_sem, z0, z1, z2, z3]) rfl ⟨rfl, ?_⟩
          exact below_putU bw (by omega) ⟨b0, b1', b2', b3⟩
end Go.Proofs.Ytpngmheflpbnbaa
