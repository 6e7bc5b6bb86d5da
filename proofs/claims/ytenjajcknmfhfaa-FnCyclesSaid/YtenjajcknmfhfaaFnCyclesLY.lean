/- The law FnCycles: whatever the bytes, the call answers true. No condition. -/
import Derived.Test.YtenjajcknmfhfaaDrawTg2
import Derived.Test.YtenjajcknmfhfaaDrawTg3
import Derived.Test.YtenjajcknmfhfaaDrawTg5
import Derived.Test.YtenjajcknmfhfaaTgZa
import Derived.Test.YtenjajcknmfhfaaTgZb
import Derived.Test.YtenjajcknmfhfaaReadV
import Derived.Test.YtenjajcknmfhfaaReadT
import Derived.Test.YtenjajcknmfhfaaArgBytes
import Derived.Test.YtenjajcknmfhfaaFrame
import Derived.Lib.QuietBelow
import Derived.BigQuiet
import Derived.Deep.DeepCutAuto
import Derived.Deep.CutBlock
namespace Go.Proofs.Ytenjajcknmfhfaa
set_option linter.unusedVariables false
open Go.ChangeShapes Go.WideShapes Go.ChangeAt Go.RowKit Go.Sort

theorem isRow_afterT {k : IntKind} {w w' : World} {a : Option Addr} {len cap : Nat} {zs : List Int} (h : IsRow k w a len cap zs) (hb : Below w.heap.size w w') : IsRow k w' a len cap zs := by
  refine h.imp id ?_
  rintro ⟨x, rfl, hl, hm, hz, hc, hw⟩
  refine ⟨x, rfl, hl, hm, hz, fun i hi => ?_, hw⟩
  have := hc i hi
  exact (hb.cell (World.block_lt_of_cell? w _ this)).trans this
theorem below_drewL (w : World) (k : Nat) : Below w.heap.size w (w.drewN k) := ⟨rfl, rfl, rfl, Nat.le_refl _, fun _ _ => rfl⟩
theorem below_drewM {n : Nat} {a b : World} (h : Below n a b) (k : Nat) : Below n a (b.drewN k) := ⟨h.os, h.tape, h.output, h.size, h.block⟩
theorem RusO.lenR {lo hi : Nat} {w : World} {v : Value} {t : List Ru} (h : RusO lo hi w v t) : ∃ a c, v = .slice a t.length c := by
  obtain ⟨a, c, h1, _⟩ := h.row
  exact ⟨a, c, h1⟩
theorem fol_take {t : List Tg} {a b : Int} {k : Nat} (h : k < t.length) : folB (t.take (k + 1)) a b = (folB (t.take k) a b || decide ((t.getD k tgD).ev = a ∧ (t.getD k tgD).aft = b)) := by
  unfold folB
  rw [List.take_add_one, List.getElem?_eq_getElem h, getTg_lt h]
  simp only [List.any_append, Option.toList_some, List.any_cons, List.any_nil, Bool.or_false]
set_option maxRecDepth 20000 in
set_option maxHeartbeats 16000000 in
theorem walkCycles0 (a : Option Addr) (len cap : Nat) (zs : List Int) (W : World) (h : IsRow .u8 W a len cap zs) :
    Calls Try.prog 3 #[.slice a len cap] W fun e w' => e = .returned (.bool true) ∧ Below W.heap.size W w' := by
  have hll := isRow_len h
  have HI := Lib.hid h
  clear h
  by_cases hbig : 65536 < len
  · go_enter Try.func3, Try.ntmps3
    go_wp2_with fail
    refine (vBig_any a len cap _ true (by simp; omega) hll).mono ?_
    rintro e w' ⟨rfl, rfl⟩
    go_wp2
    go_ret
    exact ⟨rfl, Below.refl _ _⟩
  · go_enter Try.func3, Try.ntmps3
    go_wp2_with fail
    refine (vBig_any a len cap _ false (by simp; omega) hll).mono ?_
    rintro e w' ⟨rfl, rfl⟩
    have HB : Hid (Below W.heap.size W W) := Lib.hid (Below.refl _ _)
    go_wp2_with fail
    refine (drawFirstCycle_any a len cap zs _ HI.out (by omega)).mono ?_
    rintro e w1 ⟨v, t, rfl, ⟨hn, ht, b1⟩⟩
    replace HI := Lib.hid (isRow_afterT HI.out b1)
    replace HB := Lib.hid (HB.out.trans (b1.mono HB.out.size))
    have HT := Lib.hid ht
    clear b1 ht
    obtain ⟨cy, ok, hHF⟩ : ∃ cy ok, fcRes t = (cy, ok) := ⟨_, _, rfl⟩
    have HF := Lib.hid hHF
    clear hHF
    have en_ok : (ok != ok) = false := by simp
    have ee_ok : (ok == ok) = true := by simp
    obtain ⟨bA, hbA⟩ : ∃ b, areTg t = b := ⟨_, rfl⟩
    have HBA := Lib.hid hbA
    clear hbA
    have en_bA : (bA != bA) = false := by simp
    have ee_bA : (bA == bA) = true := by simp
    go_wp2_with fail
    refine (implFirstCycle_any v t _ HT.out cy ok HF.out).mono ?_
    rintro e w2 ⟨v1, rfl, h1, b2⟩
    replace HI := Lib.hid (isRow_afterT HI.out b2)
    replace HB := Lib.hid (HB.out.trans (b2.mono HB.out.size))
    replace HT := Lib.hid (HT.out.below rTg_stable b2)
    have H1 := Lib.hid h1.row
    clear b2 h1
    go_wp2_with fail
    refine (specFirstCycle_any v t _ HT.out cy ok HF.out).mono ?_
    rintro e w3 ⟨v2, rfl, h2, b3⟩
    replace HI := Lib.hid (isRow_afterT HI.out b3)
    replace HB := Lib.hid (HB.out.trans (b3.mono HB.out.size))
    replace HT := Lib.hid (HT.out.below rTg_stable b3)
    replace H1 := Lib.hid (H1.out.below b3)
    have H2 := Lib.hid h2.row
    clear b3 h2
    go_wp2_with fail
    refine (vInts_same v1 v2 cy _ H1.out H2.out).mono ?_
    rintro e w4 ⟨rfl, b4⟩
    replace HI := Lib.hid (isRow_afterT HI.out b4)
    replace HB := Lib.hid (HB.out.trans (b4.mono HB.out.size))
    replace HT := Lib.hid (HT.out.below rTg_stable b4)
    replace H1 := Lib.hid (H1.out.below b4)
    replace H2 := Lib.hid (H2.out.below b4)
    clear b4
    clear H2
    obtain ⟨has, told, hHH⟩ : ∃ has told, hcRes t = (has, told) := ⟨_, _, rfl⟩
    have HH := Lib.hid hHH
    clear hHH
    have en_has : (has != has) = false := by simp
    have ee_has : (has == has) = true := by simp
    have en_told : (told != told) = false := by simp
    have ee_told : (told == told) = true := by simp
    go_upto_region 10 with (first | (go_at_call 12; refine (implAreTg_any v t _ HT.out).mono ?_; rw [HBA.out]; rintro e u1 ⟨rfl, b_u1⟩; replace HI := Lib.hid (isRow_afterT HI.out b_u1); replace HB := Lib.hid (HB.out.trans (b_u1.mono HB.out.size)); replace HT := Lib.hid (HT.out.below rTg_stable b_u1); replace H1 := Lib.hid (H1.out.below b_u1); clear b_u1) | (go_at_call 13; refine (specAreTriggers_any v t _ HT.out).mono ?_; rw [HBA.out]; rintro e u2 ⟨rfl, b_u2⟩; replace HI := Lib.hid (isRow_afterT HI.out b_u2); replace HB := Lib.hid (HB.out.trans (b_u2.mono HB.out.size)); replace HT := Lib.hid (HT.out.below rTg_stable b_u2); replace H1 := Lib.hid (H1.out.below b_u2); clear b_u2) | (go_at_call 14; refine (implHasCycle_any v t _ HT.out has told HH.out).mono ?_; rintro e u3 ⟨rfl, b_u3⟩; replace HI := Lib.hid (isRow_afterT HI.out b_u3); replace HB := Lib.hid (HB.out.trans (b_u3.mono HB.out.size)); replace HT := Lib.hid (HT.out.below rTg_stable b_u3); replace H1 := Lib.hid (H1.out.below b_u3); clear b_u3) | (go_at_call 15; refine (specHasCycle_any v t _ HT.out has told HH.out).mono ?_; rintro e u4 ⟨rfl, b_u4⟩; replace HI := Lib.hid (isRow_afterT HI.out b_u4); replace HB := Lib.hid (HB.out.trans (b_u4.mono HB.out.size)); replace HT := Lib.hid (HT.out.below rTg_stable b_u4); replace H1 := Lib.hid (H1.out.below b_u4); clear b_u4))
    go_cut [90] from 35 to 237 (fun q1 wx => q1 = .bool false ∧ Hid (IsRow .u8 wx a len cap zs) ∧ Hid (Below W.heap.size W wx) ∧ Hid (RowR 3 rTg wx v t) ∧ Hid (RowOf vI wx v1 cy))
    case first =>
      as_aux_lemma =>
        have hft := fc_told HF.out HH.out
        clear HF HH
        subst hft
        cases told <;> cases has
        all_goals
          go_wp2_with fail
          go_meet
          exact ⟨rfl, HI, HB, HT, H1⟩
    case rest =>
      as_aux_lemma =>
        clear HI HB HT H1 HH HBA en_ok ee_ok en_bA ee_bA en_has ee_has en_told ee_told
        obtain ⟨rfl, HI, HB, HT, H1⟩ := hcut
        obtain ⟨W1, hW1⟩ : ∃ x, x = wc := ⟨_, rfl⟩
        subst hW1
        go_upto_block 0 with fail
        go_cut [12, 13, 14] from 35 to 237 (fun q1 q2 q3 wx => Hid (IsRow .u8 wx a len cap zs) ∧ Hid (Below W.heap.size W wx))
        case first =>
          as_aux_lemma =>
            have htc := HT.out.cap
            have hcc := H1.out.cap
            obtain ⟨aV, cV, hv, _, hmV, rV⟩ := HT.out.tgs
            subst hv
            obtain ⟨aC, cC, hv, _, hmC, rC⟩ := H1.out
            subst hv
            unfold maxLen at hmV hmC
            clear rV rC
            go_wp2_with fail
            go_loopw [12] (fun i wr => ∃ k : Nat, k ≤ cy.length ∧ i = .int .i64 k ∧ Hid (IsRow .u8 wr a len cap zs) ∧ Hid (Below W.heap.size W wr) ∧ Hid (RowR 3 rTg wr (.slice aV t.length cV) t) ∧ Hid (RowOf vI wr (.slice aC cy.length cC) cy)) (fun i _ => cy.length - (intOf i).toNat)
            case atStart => exact ⟨0, Nat.zero_le _, rfl, HI, HB, HT, H1⟩
            case round =>
              clear HI HB HT H1
              obtain ⟨k, hk, rfl, HI, HB, HT, H1⟩ := hrel
              by_cases hlt : k < cy.length
              · obtain ⟨hfol, hmin⟩ := fc_asks HF.out k hlt
                obtain ⟨q, hq⟩ : ∃ q, (k + 1) % cy.length = q := ⟨_, rfl⟩
                have hql : q < cy.length := by rw [← hq]; exact Nat.mod_lt _ (by omega)
                have hrem : Int.tmod ((k : Int) + 1) (cy.length : Int) = (q : Int) := by rw [← hq]; exact rem_natT (k + 1) cy.length
                rw [hq] at hfol
                obtain ⟨c, hcv⟩ : ∃ c, cy.getD k 0 = c := ⟨_, rfl⟩
                obtain ⟨nx, hnv⟩ : ∃ c, cy.getD q 0 = c := ⟨_, rfl⟩
                obtain ⟨c0, hc0v⟩ : ∃ c, cy.getD 0 0 = c := ⟨_, rfl⟩
                rw [hcv, hnv] at hfol
                rw [hcv, hc0v] at hmin
                have hcv' : cy[k] = c := by rw [← hcv]; simp [List.getD, List.getElem?_eq_getElem hlt]
                have hnv' : cy[q] = nx := by rw [← hnv]; simp [List.getD, List.getElem?_eq_getElem hql]
                have hc0v' : cy[0]'(by omega) = c0 := by rw [← hc0v]; simp [List.getD, List.getElem?_eq_getElem (show 0 < cy.length by omega)]
                have HFOL := Lib.hid hfol
                have HCV := Lib.hid hcv'
                have HNV := Lib.hid hnv'
                have HC0 := Lib.hid hc0v'
                have HLT := Lib.hid hlt
                have HQL := Lib.hid hql
                have g0 : (0 : Int) ≤ (k : Int) := by omega
                have g1 : (k : Int) < (cy.length : Int) := by omega
                have gq0 : (0 : Int) ≤ (q : Int) := by omega
                have gq1 : (q : Int) < (cy.length : Int) := by omega
                have gz : (0 : Int) < (cy.length : Int) := by omega
                have gn0 : ((cy.length : Int) == 0) = false := by rw [beq_eq_false_iff_ne]; omega
                have hwk : IntKind.i64.wrap ((k : Int) + 1) = (k : Int) + 1 := Go.IntWalk.i64_in _ (by omega)
                have hwq : IntKind.i64.wrap (q : Int) = (q : Int) := Go.IntWalk.i64_in _ (by omega)
                have dmin : decide (c < c0) = false := decide_eq_false (by omega)
                clear hfol hcv hnv hc0v hcv' hnv' hc0v' hq hmin
                go_wp2_with fail
                obtain ⟨wo, hwo⟩ : ∃ x, x = wr := ⟨_, rfl⟩
                subst hwo
                go_loopw [13, 14] (fun f i wr => ∃ j : Nat, j ≤ t.length ∧ i = .int .i64 j ∧ f = .bool (folB (t.take j) c nx) ∧ Hid (IsRow .u8 wr a len cap zs) ∧ Hid (Below W.heap.size W wr) ∧ Hid (RowR 3 rTg wr (.slice aV t.length cV) t) ∧ Hid (RowOf vI wr (.slice aC cy.length cC) cy)) (fun _ i _ => t.length - (intOf i).toNat)
                case atStart => exact ⟨0, Nat.zero_le _, rfl, by simp [folB], HI, HB, HT, H1⟩
                case round =>
                  clear HI HB HT H1
                  obtain ⟨j, hj, rfl, rfl, HI, HB, HT, H1⟩ := hrel
                  obtain ⟨aC2, cC2, eC, _, _, rC⟩ := H1.out
                  simp only [Value.slice.injEq, true_and] at eC
                  obtain ⟨rfl, rfl⟩ := eC
                  obtain ⟨bC, oC, _, rfl, eC⟩ := rC.resolve_left (fun e => by have := HLT.out; rw [e] at this; simp at this)
                  have z1 := eC k HLT.out
                  have z2 := eC q HQL.out
                  have z3 := eC 0 (by have := HLT.out; omega)
                  rw [HCV.out] at z1
                  rw [HNV.out] at z2
                  rw [HC0.out] at z3
                  simp only [vI, Nat.add_zero] at z1 z2 z3
                  by_cases hjt : j < t.length
                  · obtain ⟨aV2, cV2, eV, _, _, rV⟩ := HT.out.tgs
                    simp only [Value.slice.injEq, true_and] at eV
                    obtain ⟨rfl, rfl⟩ := eV
                    obtain ⟨bV, oV, _, rfl, eV⟩ := rV.resolve_left (fun e => by rw [e] at hjt; simp at hjt)
                    obtain ⟨f0, f1, _⟩ := eV j hjt
                    obtain ⟨⟨x0, x1, x2⟩, hx⟩ : ∃ s, t.getD j tgD = s := ⟨_, rfl⟩
                    rw [hx] at f0 f1
                    simp only at f0 f1
                    have hst := fol_take (a := c) (b := nx) hjt
                    rw [hx] at hst
                    have j0 : (0 : Int) ≤ (j : Int) := by omega
                    have j1 : (j : Int) < (t.length : Int) := by omega
                    obtain ⟨fb, hfb⟩ : ∃ b, folB (t.take j) c nx = b := ⟨_, rfl⟩
                    rw [hfb] at hst ⊢
                    have HST := Lib.hid hst
                    clear eV rV hx hst hfb eC rC z3
                    cases fb
                    · by_cases e0 : x0 = c
                      · have d0 : (x0 == c) = true := by simp [e0]
                        by_cases e1 : x1 = nx
                        · have d1 : (x1 == nx) = true := by simp [e1]
                          have HR : Hid (folB (t.take (j + 1)) c nx = true) := Lib.hid (by rw [HST.out]; simp [e0, e1])
                          clear e0 e1
                          go_wp2_with fail
                          go_quiet (fail)
                          go_wp2_with fail
                          go_roundw
                          case rel => exact ⟨j + 1, by omega, by go_num, by rw [HR.out], Lib.hid (isRow_afterT HI.out (below_drewL _ _)), Lib.hid (below_drewM HB.out _), Lib.hid (HT.out.below rTg_stable (below_drewL _ _)), Lib.hid (H1.out.below (below_drewL _ _))⟩
                          case measure => simp [intOf]; omega
                        · have d1 : (x1 == nx) = false := by simp [e1]
                          have HR : Hid (folB (t.take (j + 1)) c nx = false) := Lib.hid (by rw [HST.out]; simp [e1])
                          clear e0 e1
                          go_wp2_with fail
                          go_quiet (fail)
                          go_wp2_with fail
                          go_roundw
                          case rel => exact ⟨j + 1, by omega, by go_num, by rw [HR.out], Lib.hid (isRow_afterT HI.out (below_drewL _ _)), Lib.hid (below_drewM HB.out _), Lib.hid (HT.out.below rTg_stable (below_drewL _ _)), Lib.hid (H1.out.below (below_drewL _ _))⟩
                          case measure => simp [intOf]; omega
                      · have d0 : (x0 == c) = false := by simp [e0]
                        have HR : Hid (folB (t.take (j + 1)) c nx = false) := Lib.hid (by rw [HST.out]; simp [e0])
                        clear e0
                        go_wp2_with fail
                        go_quiet (fail)
                        go_wp2_with fail
                        go_roundw
                        case rel => exact ⟨j + 1, by omega, by go_num, by rw [HR.out], Lib.hid (isRow_afterT HI.out (below_drewL _ _)), Lib.hid (below_drewM HB.out _), Lib.hid (HT.out.below rTg_stable (below_drewL _ _)), Lib.hid (H1.out.below (below_drewL _ _))⟩
                        case measure => simp [intOf]; omega
                    · have HR : Hid (folB (t.take (j + 1)) c nx = true) := Lib.hid (by rw [HST.out]; simp)
                      go_wp2_with fail
                      go_quiet (fail)
                      go_wp2_with fail
                      go_roundw
                      case rel => exact ⟨j + 1, by omega, by go_num, by rw [HR.out], Lib.hid (isRow_afterT HI.out (below_drewL _ _)), Lib.hid (below_drewM HB.out _), Lib.hid (HT.out.below rTg_stable (below_drewL _ _)), Lib.hid (H1.out.below (below_drewL _ _))⟩
                      case measure => simp [intOf]; omega
                  · have j1 : ¬ (j : Int) < (t.length : Int) := by omega
                    have hjt2 : j = t.length := by omega
                    have hfin : folB (t.take j) c nx = true := by rw [hjt2, List.take_length]; exact HFOL.out
                    rw [hfin]
                    clear hfin hjt2 hjt eC rC z2
                    go_wp2_with fail
                    go_quiet (fail)
                    go_wp2_with fail
                    go_roundw
                    case rel => exact ⟨k + 1, by have := HLT.out; omega, by go_num, Lib.hid (isRow_afterT HI.out (below_drewL _ _)), Lib.hid (below_drewM HB.out _), Lib.hid (HT.out.below rTg_stable (below_drewL _ _)), Lib.hid (H1.out.below (below_drewL _ _))⟩
                    case measure => simp [intOf]; omega
              · have g1 : ¬ (k : Int) < (cy.length : Int) := by omega
                go_wp2_with fail
                go_meet
                exact ⟨HI, HB⟩
        case rest =>
          as_aux_lemma =>
            clear HI HB HT H1 HF hn
            obtain ⟨HI, HB⟩ := hcut
            obtain ⟨W2, hW2⟩ : ∃ x, x = wc := ⟨_, rfl⟩
            subst hW2
            go_wp2_with fail
            refine (drawDropTg_any a len cap zs _ HI.out (by omega)).mono ?_
            rintro e w21 ⟨v, t, n, rfl, hx, ⟨hn, ht, b21⟩⟩
            replace HI := Lib.hid (isRow_afterT HI.out b21)
            replace HB := Lib.hid (HB.out.trans (b21.mono HB.out.size))
            have HT := Lib.hid ht
            clear b21 ht
            obtain ⟨xs, ok, hHW⟩ : ∃ xs ok, dropTRes t n = (xs, ok) := ⟨_, _, rfl⟩
            have HW := Lib.hid hHW
            clear hHW
            have en_ok : (ok != ok) = false := by simp
            have ee_ok : (ok == ok) = true := by simp
            go_wp2_with fail
            refine (implDropTg_any v t n _ HT.out (by omega) xs ok HW.out).mono ?_
            rintro e w22 ⟨v1, rfl, h1, b22⟩
            replace HI := Lib.hid (isRow_afterT HI.out b22)
            replace HB := Lib.hid (HB.out.trans (b22.mono HB.out.size))
            replace HT := Lib.hid (HT.out.below rTg_stable b22)
            have H1 := Lib.hid h1.row
            clear b22 h1
            go_wp2_with fail
            refine (specDropTg_any v t n _ HT.out (by omega) xs ok HW.out).mono ?_
            rintro e w23 ⟨v2, rfl, h2, b23⟩
            replace HI := Lib.hid (isRow_afterT HI.out b23)
            replace HB := Lib.hid (HB.out.trans (b23.mono HB.out.size))
            replace HT := Lib.hid (HT.out.below rTg_stable b23)
            replace H1 := Lib.hid (H1.out.below rTg_stable b23)
            have H2 := Lib.hid h2.row
            clear b23 h2
            go_wp2_with fail
            refine (vTriggers_same v1 v2 xs _ H1.out H2.out).mono ?_
            rintro e w24 ⟨rfl, b24⟩
            replace HI := Lib.hid (isRow_afterT HI.out b24)
            replace HB := Lib.hid (HB.out.trans (b24.mono HB.out.size))
            replace HT := Lib.hid (HT.out.below rTg_stable b24)
            replace H1 := Lib.hid (H1.out.below rTg_stable b24)
            replace H2 := Lib.hid (H2.out.below rTg_stable b24)
            clear b24
            clear H1 H2 HT HW hx hn
            go_wp2_with fail
            refine (drawGaps_any a len cap zs _ HI.out (by omega)).mono ?_
            rintro e w25 ⟨v3, s3, v4, y4, rfl, hyl, ⟨hsl, hs3, b25⟩, hy4⟩
            replace HI := Lib.hid (isRow_afterT HI.out b25)
            replace HB := Lib.hid (HB.out.trans (b25.mono HB.out.size))
            have HS := Lib.hid hs3
            have HY := Lib.hid hy4
            clear b25 hs3 hy4
            obtain ⟨gs, k3, hHG⟩ : ∃ gs k3, gapsRes s3 y4 = (gs, k3) := ⟨_, _, rfl⟩
            have HG := Lib.hid hHG
            clear hHG
            have en_k3 : (k3 != k3) = false := by simp
            have ee_k3 : (k3 == k3) = true := by simp
            go_wp2_with fail
            refine (implGaps_any v3 v4 s3 y4 _ HS.out (by omega) HY.out (by omega) gs k3 HG.out).mono ?_
            rintro e w26 ⟨v5, rfl, h5, b26⟩
            replace HI := Lib.hid (isRow_afterT HI.out b26)
            replace HB := Lib.hid (HB.out.trans (b26.mono HB.out.size))
            replace HS := Lib.hid (HS.out.below rRu_stable b26)
            replace HY := Lib.hid (HY.out.below b26)
            have H5 := Lib.hid h5.row
            clear b26 h5
            go_wp2_with fail
            refine (specGaps_any v3 v4 s3 y4 _ HS.out (by omega) HY.out (by omega) gs k3 HG.out).mono ?_
            rintro e w27 ⟨v6, rfl, h6, b27⟩
            replace HI := Lib.hid (isRow_afterT HI.out b27)
            replace HB := Lib.hid (HB.out.trans (b27.mono HB.out.size))
            replace HS := Lib.hid (HS.out.below rRu_stable b27)
            replace HY := Lib.hid (HY.out.below b27)
            replace H5 := Lib.hid (H5.out.below b27)
            have H6 := Lib.hid h6.row
            clear b27 h6
            go_wp2_with fail
            refine (vInts_same v5 v6 gs _ H5.out H6.out).mono ?_
            rintro e w28 ⟨rfl, b28⟩
            replace HI := Lib.hid (isRow_afterT HI.out b28)
            replace HB := Lib.hid (HB.out.trans (b28.mono HB.out.size))
            replace HS := Lib.hid (HS.out.below rRu_stable b28)
            replace HY := Lib.hid (HY.out.below b28)
            replace H5 := Lib.hid (H5.out.below b28)
            replace H6 := Lib.hid (H6.out.below b28)
            clear b28
            clear H6 HY
            go_upto_block 4 with fail
            go_cut [27, 28, 29] from 35 to 237 (fun q1 q2 q3 wx => Hid (IsRow .u8 wx a len cap zs) ∧ Hid (Below W.heap.size W wx))
            case first =>
              as_aux_lemma =>
                have hcc := H5.out.cap
                obtain ⟨aC, cC, hv, _, hmC, rC⟩ := H5.out
                subst hv
                unfold maxLen at hmC
                clear rC
                go_wp2_with fail
                go_loopw [27] (fun i wr => ∃ k : Nat, k ≤ gs.length ∧ i = .int .i64 k ∧ Hid (IsRow .u8 wr a len cap zs) ∧ Hid (Below W.heap.size W wr) ∧ Hid (RowR 4 rRu wr v3 s3) ∧ Hid (RowOf vI wr (.slice aC gs.length cC) gs)) (fun i _ => gs.length - (intOf i).toNat)
                case atStart => exact ⟨0, Nat.zero_le _, rfl, HI, HB, HS, H5⟩
                case round =>
                  clear HI HB HS H5
                  obtain ⟨k, hk, rfl, HI, HB, HS, H5⟩ := hrel
                  by_cases hlt : k < gs.length
                  · obtain ⟨aC2, cC2, eC, _, _, rC⟩ := H5.out
                    simp only [Value.slice.injEq, true_and] at eC
                    obtain ⟨rfl, rfl⟩ := eC
                    obtain ⟨bC, oC, _, rfl, eC⟩ := rC.resolve_left (fun e => by rw [e] at hlt; simp at hlt)
                    have z1 := eC k hlt
                    have hrf := gaps_ask HG.out gs[k] (List.getElem_mem hlt)
                    obtain ⟨g0, hg0⟩ : ∃ g, gs[k] = g := ⟨_, rfl⟩
                    rw [hg0] at z1 hrf
                    simp only [vI] at z1
                    have HRF := Lib.hid hrf
                    have k0 : (0 : Int) ≤ (k : Int) := by omega
                    have k1 : (k : Int) < (gs.length : Int) := by omega
                    clear eC rC hrf hg0
                    go_wp2_with (first | (go_at_call 23; refine (implRulesFor_any v3 s3 g0 _ HS.out (by omega) [] true HRF.out).mono ?_; rintro e u5 ⟨v9, rfl, h9, b_u5⟩; replace HI := Lib.hid (isRow_afterT HI.out b_u5); replace HB := Lib.hid (HB.out.trans (b_u5.mono HB.out.size)); replace HS := Lib.hid (HS.out.below rRu_stable b_u5); replace H5 := Lib.hid (H5.out.below b_u5); obtain ⟨a9, c9, h9v⟩ := h9.lenR; subst h9v; clear h9; clear b_u5))
                    go_roundw
                    case rel => exact ⟨k + 1, by omega, by go_num, HI, HB, HS, H5⟩
                    case measure => simp [intOf]; omega
                  · have k1 : ¬ (k : Int) < (gs.length : Int) := by omega
                    go_wp2_with fail
                    go_meet
                    exact ⟨HI, HB⟩
            case rest =>
              as_aux_lemma =>
                clear HI HB HS H5 HG hyl hsl
                obtain ⟨HI, HB⟩ := hcut
                obtain ⟨W3, hW3⟩ : ∃ x, x = wc := ⟨_, rfl⟩
                subst hW3
                go_wp2_with fail
                refine (drawCon_any a len cap zs _ HI.out (by omega)).mono ?_
                rintro e w41 ⟨v7, s7, rfl, ⟨hl7, h7, b41⟩⟩
                replace HI := Lib.hid (isRow_afterT HI.out b41)
                replace HB := Lib.hid (HB.out.trans (b41.mono HB.out.size))
                have HS := Lib.hid h7
                clear b41 h7
                obtain ⟨zs7, k7, hHC⟩ : ∃ zs7 k7, conTRes s7 = (zs7, k7) := ⟨_, _, rfl⟩
                have HC := Lib.hid hHC
                clear hHC
                have en_k7 : (k7 != k7) = false := by simp
                have ee_k7 : (k7 == k7) = true := by simp
                go_wp2_with fail
                refine (implCon_any v7 s7 _ HS.out zs7 k7 HC.out).mono ?_
                rintro e w42 ⟨v8, rfl, h8, b42⟩
                replace HI := Lib.hid (isRow_afterT HI.out b42)
                replace HB := Lib.hid (HB.out.trans (b42.mono HB.out.size))
                replace HS := Lib.hid (HS.out.below rRu_stable b42)
                have H8 := Lib.hid h8.row
                clear b42 h8
                go_wp2_with fail
                refine (specCon_any v7 s7 _ HS.out zs7 k7 HC.out).mono ?_
                rintro e w43 ⟨v9, rfl, h9, b43⟩
                replace HI := Lib.hid (isRow_afterT HI.out b43)
                replace HB := Lib.hid (HB.out.trans (b43.mono HB.out.size))
                replace HS := Lib.hid (HS.out.below rRu_stable b43)
                replace H8 := Lib.hid (H8.out.below b43)
                have H9 := Lib.hid h9.row
                clear b43 h9
                go_wp2_with (first | (go_at_call 11; refine (vInts_same v8 v9 zs7 _ H8.out H9.out).mono ?_; rintro e u7 ⟨rfl, b_u7⟩; replace HI := Lib.hid (isRow_afterT HI.out b_u7); replace HB := Lib.hid (HB.out.trans (b_u7.mono HB.out.size)); replace HS := Lib.hid (HS.out.below rRu_stable b_u7); replace H8 := Lib.hid (H8.out.below b_u7); replace H9 := Lib.hid (H9.out.below b_u7); clear b_u7))
                go_ret
                exact ⟨rfl, HB.out⟩

theorem walkCycles (v0 : Value) (x0 : By8) (W : World) (hv0 : ByV W v0 x0) :
    Calls Try.prog 3 #[v0] W fun e w' => e = .returned (.bool true) ∧ Below W.heap.size W w' := by
  obtain ⟨a, len, cap, zs⟩ := x0
  obtain ⟨rfl, hi⟩ := hv0
  exact walkCycles0 a len cap zs W hi
end Go.Proofs.Ytenjajcknmfhfaa
