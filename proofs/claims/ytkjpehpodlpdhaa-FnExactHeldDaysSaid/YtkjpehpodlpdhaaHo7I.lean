/- Holds, the program's: HeldDays. -/
import Derived.Test.YtkjpehpodlpdhaaHo3I
import Derived.Test.YtkjpehpodlpdhaaSrtHo
import Derived.Test.YtkjpehpodlpdhaaHo7M
import Derived.Lib.QuietBelow
import Derived.BigQuiet
import Derived.WalkSmall
namespace Go.Proofs.Ytkjpehpodlpdhaa
set_option linter.unusedVariables false
open Go.RowKit Go.Sort

theorem own_HC {lo : Nat} {w : World} {v : Value} {es : List Hp} (h : w.ownsRow lo 100 6 v es.length ((es.map hpC).flatten)) : HC w v es := by
  rcases h.2 with ⟨rfl, h0⟩ | ⟨g, cap, cur, rfl, hg, hh, hn, hm, hsz, ht⟩
  · exact ⟨none, 0, by rw [h0], by omega, by unfold maxLen; omega, .inl (List.length_eq_zero_iff.1 h0)⟩
  · refine ⟨_, cap, rfl, hn, hm, .inr ⟨g, 0, (Array.getElem?_eq_some_iff.1 hh).1, rfl, fun i hi j u hu => ?_⟩⟩
    have hj : j < 6 := (List.getElem?_eq_some_iff.1 hu).1
    have h1 := h.cellAt (i * 6 + j) (by omega)
    have h2 := flat_get (es.map hpC) i j (size := 6) (fun cs hc => by obtain ⟨x, _, rfl⟩ := List.mem_map.1 hc; rfl) hj
    rw [List.getElem?_map, List.getElem?_eq_getElem hi] at h2
    rw [List.getD_eq_getElem?_getD, List.getElem?_eq_getElem hi] at hu
    rw [Nat.zero_add, h1, h2]
    exact hu
theorem HC.belowH {w w' : World} {v : Value} {es : List Hp} (h : HC w v es) (hb : Below w.heap.size w w') : HC w' v es := by
  obtain ⟨a, c, rfl, h1, h2, h3⟩ := h
  refine ⟨a, c, rfl, h1, h2, h3.imp id ?_⟩
  rintro ⟨b, off, hlt, rfl, hc⟩
  exact ⟨b, off, Nat.lt_of_lt_of_le hlt hb.size, rfl, fun i hi j u hu => cell_kept (hc i hi j u hu) hb⟩

set_option maxRecDepth 20000 in
set_option maxHeartbeats 8000000 in
theorem implHeldDays_any (v v1 : Value) (t : List Ho) (r : Rec) (w : World) (h : RowR 6 rHo w v t) (h1 : RecV w v1 r) (n : Int) (b : Bool) (hres : hdRes t r = (n, b)) :
    Calls Try.prog 53 #[v, v1] w fun e w' => e = .returned (.tuple #[.int .i64 n, .bool b]) ∧ Below w.heap.size w w' := by
  obtain ⟨s, rfl, hr, hok⟩ := h1
  obtain ⟨y0, y1, y2, y3⟩ := r
  simp only at hr ⊢
  have HV := Lib.hid (show ∀ W, Below w.heap.size w W → RecV W (.agg #[.int .i64 y0, .int .i64 y1, .int .i64 y2, s]) ⟨y0, y1, y2, y3⟩ from fun W hW => ⟨s, rfl, hr.below rEv_stable hW, hok⟩)
  obtain ⟨sb, sd, rfl, _⟩ := hr
  have HBX := Lib.hid (show ∀ W, Below (w.alloc (.cells #[.int .i64 y0, .int .i64 y1, .int .i64 y2, .slice sb y3.length sd] 38 (0, 0))).heap.size (w.alloc (.cells #[.int .i64 y0, .int .i64 y1, .int .i64 y2, .slice sb y3.length sd] 38 (0, 0))) W → W.cell? ⟨w.heap.size, 0, none⟩ = some (.int .i64 y0) ∧ W.cell? ⟨w.heap.size, 1, none⟩ = some (.int .i64 y1) ∧ W.cell? ⟨w.heap.size, 2, none⟩ = some (.int .i64 y2) ∧ W.cell? ⟨w.heap.size, 3, none⟩ = some (.slice sb y3.length sd) from
    fun W hW => ⟨cell_kept (cell_new w _ _ 0 rfl) hW, cell_kept (cell_new w _ _ 1 rfl) hW, cell_kept (cell_new w _ _ 2 rfl) hW, cell_kept (cell_new w _ _ 3 rfl) hW⟩)
  have H := Lib.hid h
  obtain ⟨es, hes, hhc, hgd⟩ := h.hcells
  have HES := Lib.hid hes
  have HHC := Lib.hid (show ∀ W, Below w.heap.size w W → HC W v es from fun W hW => hhc.belowH hW)
  have HGD := Lib.hid hgd
  have HEL : Hid (es.length = t.length) := Lib.hid (by rw [← hes, List.length_map])
  obtain ⟨a1, cL, rfl, hl1, hm1, _⟩ := h.hos
  unfold maxLen at hm1
  obtain ⟨bg, hg⟩ : ∃ b, areHo t = b := ⟨_, rfl⟩
  obtain ⟨br, hrr⟩ : ∃ b, isRec ⟨y0, y1, y2, y3⟩ = b := ⟨_, rfl⟩
  have HG := Lib.hid hg
  have HR := Lib.hid hrr
  have NO := Lib.hid (fun hn => hdRes_no hres hn)
  have YES := Lib.hid (fun hn => hdRes_yes hres hn)
  clear h hes hhc hgd hg hrr hres hok
  cases bg
  · skip
    obtain ⟨rfl, rfl⟩ := NO.out (fun hc => by rw [HG.out] at hc; exact absurd hc.1 (by simp))
    go_enter Try.func53, Try.ntmps53
    go_wp2_with (first | (go_at_call 18; refine (implAreHo_any _ t _ (H.out.below rHo_stable (below_al (Below.refl _ _) _))).mono ?_; rw [HG.out]; rintro e w1 ⟨rfl, b1⟩; obtain ⟨c0, c1, c2, c3⟩ := HBX.out _ b1; have b1w := below_chain (below_al (Below.refl w.heap.size w) _) b1))
    go_ret2
    exact ⟨rfl, b1w⟩
  · cases br
    · skip
      obtain ⟨rfl, rfl⟩ := NO.out (fun hc => by rw [HR.out] at hc; exact absurd hc.2 (by simp))
      go_enter Try.func53, Try.ntmps53
      go_wp2_with (first | (go_at_call 18; refine (implAreHo_any _ t _ (H.out.below rHo_stable (below_al (Below.refl _ _) _))).mono ?_; rw [HG.out]; rintro e w1 ⟨rfl, b1⟩; obtain ⟨c0, c1, c2, c3⟩ := HBX.out _ b1; have b1w := below_chain (below_al (Below.refl w.heap.size w) _) b1) | (go_at_call 85; refine (implIsRecord_any _ ⟨y0, y1, y2, y3⟩ _ (HV.out _ b1w)).mono ?_; rw [HR.out]; rintro e w2 ⟨rfl, b2⟩; replace b1 := b1.trans (b2.mono b1.size); obtain ⟨c0, c1, c2, c3⟩ := HBX.out _ b1; replace b1w := b1w.trans (b2.mono b1w.size); clear b2))
      go_ret2
      exact ⟨rfl, b1w⟩
    · obtain ⟨e0, rfl⟩ := YES.out ⟨HG.out, HR.out⟩
      have hn8 := ho_len HG.out
      have E0 := Lib.hid e0
      clear e0 NO YES
      have hoL : (ordH es).length ≤ 8 := by rw [(ordH_spec es).2.1, HEL.out]; exact hn8
      go_enter Try.func53, Try.ntmps53
      go_wp2_with (first | (go_at_call 18; refine (implAreHo_any _ t _ (H.out.below rHo_stable (below_al (Below.refl _ _) _))).mono ?_; rw [HG.out]; rintro e w1 ⟨rfl, b1⟩; obtain ⟨c0, c1, c2, c3⟩ := HBX.out _ b1; have b1w := below_chain (below_al (Below.refl w.heap.size w) _) b1) | (go_at_call 85; refine (implIsRecord_any _ ⟨y0, y1, y2, y3⟩ _ (HV.out _ b1w)).mono ?_; rw [HR.out]; rintro e w2 ⟨rfl, b2⟩; replace b1 := b1.trans (b2.mono b1.size); obtain ⟨c0, c1, c2, c3⟩ := HBX.out _ b1; replace b1w := b1w.trans (b2.mono b1w.size); clear b2) | (go_at_call 115; refine (valuesH_any _ _ _ _).mono ?_; rintro e w3 ⟨rfl, h3⟩; subst w3; replace b1 := below_al b1 (.cells #[.slice a1 t.length cL] 25 (0, 0)); replace b1w := below_al b1w (.cells #[.slice a1 t.length cL] 25 (0, 0))) | (go_at_call 114; refine (sortedH_any _ _ es _ (HHC.out _ b1w) (by have := HEL.out; omega) (cell_new _ _ _ 0 rfl)).mono ?_; rintro e w4 ⟨v4, rfl, hrow4, b4⟩; obtain ⟨aS, cS, rfl, hlS, hmS, rS⟩ := own_HC hrow4; have RS := Lib.hid rS; unfold maxLen at hmS; clear rS hrow4; replace b1 := b1.trans (b4.mono b1.size); obtain ⟨c0, c1, c2, c3⟩ := HBX.out _ b1; replace b1w := b1w.trans (b4.mono b1w.size); clear b4) | (go_at_call 118; refine (concerns_any _ ⟨y0, y1, y2, y3⟩ _ (HV.out _ b1w)).mono ?_; rintro e w5 ⟨BR, rfl, hrb, b5⟩; have B5 := Lib.hid b5; replace b1w := b1w.trans (b5.mono b1w.size)))
      have s5 := b1w.size
      obtain ⟨ys, hys⟩ : ∃ ys, (ordH es).map (·.1) = ys := ⟨_, rfl⟩
      obtain ⟨op1, op2, op3⟩ := ordH_spec es
      have hyl : ys.length = (ordH es).length := by rw [← hys, List.length_map]
      have hget : ∀ i, i < ys.length → ys.getD i hoD = ((ordH es).getD i hpD).1 := fun i hi => by
        rw [← hys, List.getD_eq_getElem?_getD, List.getD_eq_getElem?_getD, List.getElem?_map, List.getElem?_eq_getElem (by omega : i < (ordH es).length)]
        rfl
      have hperm : ys.Perm t := by rw [← hys, ← HES.out]; exact op1.map _
      have HPM := Lib.hid hperm
      have HGET := Lib.hid hget
      have HSO : Hid (∀ i j, i < j → j < ys.length → (ys.getD i hoD).frm ≤ (ys.getD j hoD).frm) := Lib.hid (fun i j hij hj => by rw [hget i (by omega), hget j hj]; exact op3 i j hij (by omega))
      have HONE : Hid (∀ i, i < ys.length → hoOne (ys.getD i hoD) = true) := Lib.hid (fun i hi => ho_mem HG.out (hperm.mem_iff.1 (by rw [getHo_lt hi]; exact List.getElem_mem hi)))
      have HGO : Hid (∀ i, i < ys.length → GoodH w ((ordH es).getD i hpD)) := Lib.hid (fun i hi => HGD.out _ (op1.mem_iff.1 (by rw [List.getD_eq_getElem?_getD, List.getElem?_eq_getElem (by omega : i < (ordH es).length)]; exact List.getElem_mem _)))
      have HRB := Lib.hid (show ∀ W, Below w5.heap.size w5 W → RecB W BR ⟨y0, y1, y2, y3⟩ from fun W hW => hrb.below hW)
      have HYL := Lib.hid hyl
      have hy8 : (ordH es).length ≤ 8 := by rw [op2, HEL.out]; exact hn8
      clear hys op1 op2 op3 hyl hget hperm hrb b5
      go_loopw [8, 9, 27] (fun nd cd i wr => ∃ (k : Nat) (N C : Int), k ≤ (ordH es).length ∧ i = .int .i64 k ∧ nd = .int .i64 N ∧ cd = .int .i64 C ∧ Hid (HdP ys ⟨y0, y1, y2, y3⟩ k N C) ∧ Below w5.heap.size w5 wr) (fun _ _ i _ => (ordH es).length - (intOf i).toNat)
      case atStart => exact ⟨0, 0, 0, Nat.zero_le _, rfl, rfl, rfl, Lib.hid (HdP.start _ _), Below.refl _ _⟩
      case round =>
        obtain ⟨k, N, C, hk, rfl, rfl, rfl, HP, hb⟩ := hrel
        have hbw := b1w.trans (hb.mono s5)
        have hsz := hb.size
        obtain ⟨hN0, hN1⟩ := HP.out.bound
        have hC0 := HP.out.lo
        have hC1 := HP.out.hi
        by_cases hlt : k < (ordH es).length
        · have hlt2 : k < ys.length := by rw [HYL.out]; exact hlt
          obtain ⟨bS, oS, hbS, rfl, e1⟩ := RS.out.resolve_left (fun e => by rw [e] at hlt; simp at hlt)
          obtain ⟨⟨⟨x0, x1, x2, x3, x4, x5⟩, ⟨sa, sn, sc⟩⟩, hx⟩ : ∃ s, (ordH es).getD k hpD = s := ⟨_, rfl⟩
          have e2 := e1 k hlt
          have hgx := HGET.out k hlt2
          have hgo := HGO.out k hlt2
          have hone := endH_bd (HONE.out k hlt2)
          rw [hx] at e2 hgx hgo
          rw [hgx] at hone
          simp only at hgx
          have f0 := cell_kept (cell_kept (e2 0 _ rfl) B5.out) hb
          have f1 := cell_kept (cell_kept (e2 1 _ rfl) B5.out) hb
          have f2 := cell_kept (cell_kept (e2 2 _ rfl) B5.out) hb
          have f3 := cell_kept (cell_kept (e2 3 _ rfl) B5.out) hb
          have f4 := cell_kept (cell_kept (e2 4 _ rfl) B5.out) hb
          have f5 := cell_kept (cell_kept (e2 5 _ rfl) B5.out) hb
          simp only [hpS, Nat.add_zero] at f0 f1 f2 f3 f4 f5
          obtain ⟨E, hE⟩ : ∃ E, endH ⟨x0, x1, x2, x3, x4, x5⟩ = E := ⟨_, rfl⟩
          obtain ⟨bc, hbc⟩ : ∃ b, conB ⟨x0, x1, x2, x3, x4, x5⟩ ⟨y0, y1, y2, y3⟩ = b := ⟨_, rfl⟩
          simp only [hE] at hone
          obtain ⟨hE0, hE1, hx0, hx1⟩ := hone
          have HX := Lib.hid hgx
          have HE := Lib.hid hE
          have HCB := Lib.hid hbc
          have HLV := Lib.hid (show ∀ W, Below w.heap.size w W → HoV W (.agg #[.int .i64 x0, .int .i64 x1, .int .i64 x2, .slice sa sn sc, .int .i64 x4, .int .i64 x5]) ⟨x0, x1, x2, x3, x4, x5⟩ from fun W hW => GoodH.below hgo hW)
          have g0 : (0 : Int) ≤ (k : Int) := by omega
          have g1 : (k : Int) < ((ordH es).length : Int) := by omega
          have hbx := below_al hbw (.cells #[.int .i64 x0, .int .i64 x1, .int .i64 x2, .slice sa sn sc, .int .i64 x4, .int .i64 x5] 100 (0, 0))
          have hx5 := below_al hb (.cells #[.int .i64 x0, .int .i64 x1, .int .i64 x2, .slice sa sn sc, .int .i64 x4, .int .i64 x5] 100 (0, 0))
          have HKX := Lib.hid (show ∀ W, Below (wr.alloc (.cells #[.int .i64 x0, .int .i64 x1, .int .i64 x2, .slice sa sn sc, .int .i64 x4, .int .i64 x5] 100 (0, 0))).heap.size (wr.alloc (.cells #[.int .i64 x0, .int .i64 x1, .int .i64 x2, .slice sa sn sc, .int .i64 x4, .int .i64 x5] 100 (0, 0))) W → W.cell? ⟨wr.heap.size, 0, none⟩ = some (.int .i64 x0) ∧ W.cell? ⟨wr.heap.size, 1, none⟩ = some (.int .i64 x1) ∧ W.cell? ⟨wr.heap.size, 2, none⟩ = some (.int .i64 x2) ∧ W.cell? ⟨wr.heap.size, 3, none⟩ = some (.slice sa sn sc) ∧ W.cell? ⟨wr.heap.size, 4, none⟩ = some (.int .i64 x4) ∧ W.cell? ⟨wr.heap.size, 5, none⟩ = some (.int .i64 x5) from
            fun W hW => ⟨cell_kept (cell_new wr _ _ 0 rfl) hW, cell_kept (cell_new wr _ _ 1 rfl) hW, cell_kept (cell_new wr _ _ 2 rfl) hW, cell_kept (cell_new wr _ _ 3 rfl) hW, cell_kept (cell_new wr _ _ 4 rfl) hW, cell_kept (cell_new wr _ _ 5 rfl) hW⟩)
          clear e1 e2 hx hgx hgo hE hbc
          cases bc
          · have HS2 := Lib.hid (HP.out.skip hlt2 HSO.out (.inl (by rw [HX.out]; exact HCB.out)))
            go_wp2_with (first | (go_at_call 159; refine (concerns1_any _ _ ⟨y0, y1, y2, y3⟩ BR _ (HLV.out _ hbx) (HRB.out _ hx5)).mono ?_; rw [HCB.out]; rintro e w6 ⟨rfl, b6⟩; obtain ⟨u0, u1, u2, u3, u4, u5⟩ := HKX.out _ b6; have b6x := b6; have b6w := below_chain (below_al (Below.refl wr.heap.size wr) _) b6; replace b6w := hbw.trans (b6w.mono hbw.size)))
            go_roundw
            case rel => exact ⟨k + 1, N, C, by omega, by go_num, rfl, rfl, HS2, hb.trans ((below_chain (below_al (Below.refl _ _) _) b6x).mono hsz)⟩
            case measure => simp [intOf]; omega
          · by_cases hgt : C < E
            · have HS2 := Lib.hid (HP.out.take hlt2 (HONE.out k hlt2) HSO.out (by rw [HX.out]; exact HCB.out) (by rw [HX.out, HE.out]; exact hgt))
              rw [HX.out, HE.out] at HS2
              simp only at HS2
              go_wp2_with (first | (go_at_call 159; refine (concerns1_any _ _ ⟨y0, y1, y2, y3⟩ BR _ (HLV.out _ hbx) (HRB.out _ hx5)).mono ?_; rw [HCB.out]; rintro e w6 ⟨rfl, b6⟩; obtain ⟨u0, u1, u2, u3, u4, u5⟩ := HKX.out _ b6; have b6x := b6; have b6w := below_chain (below_al (Below.refl wr.heap.size wr) _) b6; replace b6w := hbw.trans (b6w.mono hbw.size)) | (go_at_call 92; refine (endOf_any _ _ _ (HLV.out _ b6w)).mono ?_; rw [HE.out]; rintro e w7 ⟨rfl, b7⟩; replace b6x := b6x.trans (b7.mono b6x.size); obtain ⟨u0, u1, u2, u3, u4, u5⟩ := HKX.out _ b6x; replace b6w := b6w.trans (b7.mono b6w.size); clear b7))
              go_region_held3 (fun w' => w'.cell? ⟨wr.heap.size, 0, none⟩ = some (.int .i64 x0) ∧ w'.cell? ⟨wr.heap.size, 1, none⟩ = some (.int .i64 x1) ∧ w'.cell? ⟨wr.heap.size, 2, none⟩ = some (.int .i64 x2) ∧ w'.cell? ⟨wr.heap.size, 3, none⟩ = some (.slice sa sn sc) ∧ w'.cell? ⟨wr.heap.size, 4, none⟩ = some (.int .i64 x4) ∧ w'.cell? ⟨wr.heap.size, 5, none⟩ = some (.int .i64 x5)) (first | exact ⟨u0, u1, u2, u3, u4, u5⟩ | go_keep) (first | (go_at_call 92; refine (endOf_any _ _ _ (HLV.out _ (by first | exact b6w | exact b6w.drew))).mono ?_; rw [HE.out]; rintro e w8 ⟨rfl, b8⟩; have b8x : Below (wr.alloc (.cells #[.int .i64 x0, .int .i64 x1, .int .i64 x2, .slice sa sn sc, .int .i64 x4, .int .i64 x5] 100 (0, 0))).heap.size (wr.alloc (.cells #[.int .i64 x0, .int .i64 x1, .int .i64 x2, .slice sa sn sc, .int .i64 x4, .int .i64 x5] 100 (0, 0))) w8 := (by first | exact below_chain b6x.drew b8 | exact below_chain b6x b8); have b8w : Below w.heap.size w w8 := (by first | exact below_chain b6w.drew b8 | exact below_chain b6w b8); obtain ⟨u0, u1, u2, u3, u4, u5⟩ := HKX.out _ b8x; clear b8))
              all_goals
                go_wp2_with (first | (go_at_call 92; refine (endOf_any _ _ _ (HLV.out _ b8w)).mono ?_; rw [HE.out]; rintro e w9 ⟨rfl, b9⟩; have b9x := b8x.trans (b9.mono b8x.size); clear b9))
                go_roundw
                case rel => exact ⟨k + 1, N + (E - max x1 C), E, by omega, by go_num, by rw [Go.IntWalk.i64_in (E - max x1 C) (by omega), Go.IntWalk.i64_in (N + (E - max x1 C)) (by omega)], rfl, HS2, hb.trans ((below_chain (below_al (Below.refl _ _) _) b9x).mono hsz)⟩
                case measure => simp [intOf]; omega
            · have dg : decide (C < E) = false := decide_eq_false hgt
              have HS2 := Lib.hid (HP.out.skip hlt2 HSO.out (.inr (by rw [HX.out, HE.out]; omega)))
              go_wp2_with (first | (go_at_call 159; refine (concerns1_any _ _ ⟨y0, y1, y2, y3⟩ BR _ (HLV.out _ hbx) (HRB.out _ hx5)).mono ?_; rw [HCB.out]; rintro e w6 ⟨rfl, b6⟩; obtain ⟨u0, u1, u2, u3, u4, u5⟩ := HKX.out _ b6; have b6x := b6; have b6w := below_chain (below_al (Below.refl wr.heap.size wr) _) b6; replace b6w := hbw.trans (b6w.mono hbw.size)) | (go_at_call 92; refine (endOf_any _ _ _ (HLV.out _ b6w)).mono ?_; rw [HE.out]; rintro e w7 ⟨rfl, b7⟩; replace b6x := b6x.trans (b7.mono b6x.size); obtain ⟨u0, u1, u2, u3, u4, u5⟩ := HKX.out _ b6x; replace b6w := b6w.trans (b7.mono b6w.size); clear b7))
              go_roundw
              case rel => exact ⟨k + 1, N, C, by omega, by go_num, rfl, rfl, HS2, hb.trans ((below_chain (below_al (Below.refl _ _) _) b6x).mono hsz)⟩
              case measure => simp [intOf]; omega
        · have hkl : k = ys.length := by rw [HYL.out]; omega
          have EE : Hid (n = N) := Lib.hid (by have h1 := HP.out; rw [hkl] at h1; rw [E0.out, h1.done HPM.out])
          clear hkl
          go_wp2_with fail
          go_ret2
          rw [EE.out]
          exact ⟨rfl, hbw⟩
end Go.Proofs.Ytkjpehpodlpdhaa
