/- The law FnExpected: whatever the bytes, the call answers true. No condition. -/
import Derived.Test.YtenjajcknmfhfaaDrawTg2
import Derived.Test.YtenjajcknmfhfaaDrawTg3
import Derived.Test.YtenjajcknmfhfaaDrawTg6
import Derived.Test.YtenjajcknmfhfaaExZa
import Derived.Test.YtenjajcknmfhfaaExZb
import Derived.Test.YtenjajcknmfhfaaExZc
import Derived.Test.YtenjajcknmfhfaaExZd
import Derived.Test.YtenjajcknmfhfaaExZe
import Derived.Test.YtenjajcknmfhfaaFrame
import Derived.Lib.QuietBelow
import Derived.BigQuiet
import Derived.Deep.DeepCutAuto
import Derived.Deep.CutBlock
namespace Go.Proofs.Ytenjajcknmfhfaa
set_option linter.unusedVariables false
open Go.ChangeShapes Go.WideShapes Go.ChangeAt Go.RowKit Go.Sort

theorem isRow_afterT {k : IntKind} {w w' : World} {a : Option Addr} {len cap : Nat} {zs : List Int} (h : IsRow k w a len cap zs) (hb : Below w.heap.size w w') : IsRow k w' a len cap zs := by
  refine h.imp id ?_
  rintro ⟨x, rfl, hl, hm, hz, hc, hw⟩
  refine ⟨x, rfl, hl, hm, hz, fun i hi => ?_, hw⟩
  have := hc i hi
  exact (hb.cell (World.block_lt_of_cell? w _ this)).trans this
theorem below_drewL (w : World) (k : Nat) : Below w.heap.size w (w.drewN k) := ⟨rfl, rfl, rfl, Nat.le_refl _, fun _ _ => rfl⟩
theorem below_drewM {n : Nat} {a b : World} (h : Below n a b) (k : Nat) : Below n a (b.drewN k) := ⟨h.os, h.tape, h.output, h.size, h.block⟩
theorem ed_asks2 {t : List Tg} {e d : Int} (h : edRes t e = (d, true)) {x : Tg} (hx : x ∈ t) (he : x.ev = e) : ∃ b, edRes t x.aft = (b, true) ∧ b + x.days ≤ d ∧ 0 ≤ b ∧ 0 ≤ x.days ∧ d ≤ 100000 := by
  obtain ⟨b, h1, h2⟩ := ed_asks h hx he
  refine ⟨b, h1, h2, ?_, ?_, ?_⟩
  · unfold edRes at h1
    split at h1
    · cases h1
    · obtain ⟨rfl, _⟩ := Prod.mk.inj h1
      omega
  · unfold edRes at h
    split at h
    · cases h
    · rename_i hn
      unfold edayX at hn
      by_cases hf : freeB t = true
      · obtain ⟨ha, _⟩ := freeB_iff.1 hf
        have := (tgOne_iff.1 (tg_mem ha hx)).2.2.2
        omega
      · rw [if_neg hf] at hn; omega
  · unfold edRes at h
    split at h
    · cases h
    · obtain ⟨rfl, _⟩ := Prod.mk.inj h
      exact (edayX_in t e).2
set_option maxRecDepth 20000 in
set_option maxHeartbeats 16000000 in
theorem walkExpected0 (a : Option Addr) (len cap : Nat) (zs : List Int) (W : World) (h : IsRow .u8 W a len cap zs) :
    Calls Try.prog 4 #[.slice a len cap] W fun e w' => e = .returned (.bool true) ∧ Below W.heap.size W w' := by
  have hll := isRow_len h
  have HI := Lib.hid h
  clear h
  by_cases hbig : 65536 < len
  · go_enter Try.func4, Try.ntmps4
    go_wp2_with fail
    refine (vBig_any a len cap _ true (by simp; omega) hll).mono ?_
    rintro e w' ⟨rfl, rfl⟩
    go_wp2
    go_ret
    exact ⟨rfl, Below.refl _ _⟩
  · go_enter Try.func4, Try.ntmps4
    go_wp2_with fail
    refine (vBig_any a len cap _ false (by simp; omega) hll).mono ?_
    rintro e w' ⟨rfl, rfl⟩
    have HB : Hid (Below W.heap.size W W) := Lib.hid (Below.refl _ _)
    go_wp2_with fail
    refine (drawExpDay_any a len cap zs _ HI.out (by omega)).mono ?_
    rintro e w1 ⟨v, t, n, rfl, hx, ⟨hn, ht, b1⟩⟩
    replace HI := Lib.hid (isRow_afterT HI.out b1)
    replace HB := Lib.hid (HB.out.trans (b1.mono HB.out.size))
    have HT := Lib.hid ht
    clear b1 ht
    obtain ⟨d, ok, hHE⟩ : ∃ d ok, edRes t n = (d, ok) := ⟨_, _, rfl⟩
    have HE := Lib.hid hHE
    clear hHE
    have en_d : (d != d) = false := by simp
    have ee_d : (d == d) = true := by simp
    have en_ok : (ok != ok) = false := by simp
    have ee_ok : (ok == ok) = true := by simp
    go_wp2_with fail
    refine (implExpectedDay_any v t n _ HT.out hx d ok HE.out).mono ?_
    rintro e w2 ⟨rfl, b2⟩
    replace HI := Lib.hid (isRow_afterT HI.out b2)
    replace HB := Lib.hid (HB.out.trans (b2.mono HB.out.size))
    replace HT := Lib.hid (HT.out.below rTg_stable b2)
    clear b2
    go_wp2_with fail
    refine (specExpectedDay_any v t n _ HT.out d ok HE.out).mono ?_
    rintro e w3 ⟨rfl, b3⟩
    replace HI := Lib.hid (isRow_afterT HI.out b3)
    replace HB := Lib.hid (HB.out.trans (b3.mono HB.out.size))
    replace HT := Lib.hid (HT.out.below rTg_stable b3)
    clear b3
    go_upto_block 0 with fail
    go_cut [9, 10, 11] from 35 to 231 (fun q1 q2 q3 wx => Hid (IsRow .u8 wx a len cap zs) ∧ Hid (Below W.heap.size W wx))
    case first =>
      as_aux_lemma =>
        obtain ⟨aV, cV, hv, _, hmV, rV⟩ := HT.out.tgs
        subst hv
        unfold maxLen at hmV
        clear rV
        go_wp2_with fail
        go_loopw [9] (fun i wr => ∃ k : Nat, k ≤ t.length ∧ i = .int .i64 k ∧ Hid (IsRow .u8 wr a len cap zs) ∧ Hid (Below W.heap.size W wr) ∧ Hid (RowR 3 rTg wr (.slice aV t.length cV) t)) (fun i _ => t.length - (intOf i).toNat)
        case atStart => exact ⟨0, Nat.zero_le _, rfl, HI, HB, HT⟩
        case round =>
          clear HI HB HT
          obtain ⟨k, hk, rfl, HI, HB, HT⟩ := hrel
          by_cases hlt : k < t.length
          · have j0 : (0 : Int) ≤ (k : Int) := by omega
            have j1 : (k : Int) < (t.length : Int) := by omega
            cases ok
            · go_wp2_with fail
              go_meet
              exact ⟨HI, HB⟩
            · obtain ⟨aV2, cV2, eV, _, _, rV⟩ := HT.out.tgs
              simp only [Value.slice.injEq, true_and] at eV
              obtain ⟨rfl, rfl⟩ := eV
              obtain ⟨bV, oV, _, rfl, eV⟩ := rV.resolve_left (fun e => by rw [e] at hlt; simp at hlt)
              obtain ⟨f0, f1, f2, hok⟩ := eV k hlt
              obtain ⟨⟨x0, x1, x2⟩, hxx⟩ : ∃ s, t.getD k tgD = s := ⟨_, rfl⟩
              rw [hxx] at f0 f1 f2 hok
              simp only at f0 f1 f2
              have HX1 : Hid (inI x1) := Lib.hid hok.2.1
              have HMEM : Hid ((⟨x0, x1, x2⟩ : Tg) ∈ t) := Lib.hid (by rw [← hxx, getTg_lt hlt]; exact List.getElem_mem hlt)
              clear eV rV hxx hok
              by_cases e0 : x0 = n
              · have d0 : (x0 != n) = false := by simp [e0]
                obtain ⟨b, hb1, hb2, hb3, hb4, hb5⟩ := ed_asks2 HE.out HMEM.out e0
                simp only at hb1 hb2 hb4
                have HBX := Lib.hid hb1
                have hwb : IntKind.i64.wrap (b + x2) = b + x2 := Go.IntWalk.i64_in _ (by omega)
                have db : decide (d < b + x2) = false := decide_eq_false (by omega)
                clear e0 hb1 hb2 hb3 hb4 hb5
                go_wp2_with (first | (go_at_call 28; refine (implExpectedDay_any _ t x1 _ HT.out HX1.out b true HBX.out).mono ?_; rintro e u5 ⟨rfl, b_u5⟩; replace HI := Lib.hid (isRow_afterT HI.out b_u5); replace HB := Lib.hid (HB.out.trans (b_u5.mono HB.out.size)); replace HT := Lib.hid (HT.out.below rTg_stable b_u5); replace f2 := (b_u5.cell (World.block_lt_of_cell? _ _ f2)).trans f2; clear b_u5))
                go_roundw
                case rel => exact ⟨k + 1, by omega, by go_num, HI, HB, HT⟩
                case measure => simp [intOf]; omega
              · have d0 : (x0 != n) = true := by simp [e0]
                clear e0
                go_wp2_with fail
                go_roundw
                case rel => exact ⟨k + 1, by omega, by go_num, HI, HB, HT⟩
                case measure => simp [intOf]; omega
          · have j1 : ¬ (k : Int) < (t.length : Int) := by omega
            go_wp2_with fail
            go_meet
            exact ⟨HI, HB⟩
    case rest =>
      as_aux_lemma =>
        clear HI HB HT HE hn hx en_d ee_d en_ok ee_ok
        obtain ⟨HI, HB⟩ := hcut
        obtain ⟨W1, hW1⟩ : ∃ x, x = wc := ⟨_, rfl⟩
        subst hW1
        go_wp2_with fail
        refine (drawExpDue_any a len cap zs _ HI.out (by omega)).mono ?_
        rintro e w21 ⟨v1, v2, t, s3, m, rfl, hm, htl, hsl, ht, hs, b21⟩
        replace HI := Lib.hid (isRow_afterT HI.out b21)
        replace HB := Lib.hid (HB.out.trans (b21.mono HB.out.size))
        have HT := Lib.hid ht
        have HS := Lib.hid hs
        clear b21 ht hs
        obtain ⟨du, tk, hHDU⟩ : ∃ du tk, dueTRes t s3 m = (du, tk) := ⟨_, _, rfl⟩
        have HDU := Lib.hid hHDU
        clear hHDU
        have en_du : (du != du) = false := by simp
        have ee_du : (du == du) = true := by simp
        have en_tk : (tk != tk) = false := by simp
        have ee_tk : (tk == tk) = true := by simp
        go_wp2_with fail
        refine (implExpectedDue_any v1 v2 t s3 m _ HT.out HS.out (by omega) du tk HDU.out).mono ?_
        rintro e w22 ⟨rfl, b22⟩
        replace HI := Lib.hid (isRow_afterT HI.out b22)
        replace HB := Lib.hid (HB.out.trans (b22.mono HB.out.size))
        replace HT := Lib.hid (HT.out.below rTg_stable b22)
        replace HS := Lib.hid (HS.out.below rRu_stable b22)
        clear b22
        go_wp2_with fail
        refine (specExpectedDue_any v1 v2 t s3 m _ HT.out HS.out (by omega) du tk HDU.out).mono ?_
        rintro e w23 ⟨rfl, b23⟩
        replace HI := Lib.hid (isRow_afterT HI.out b23)
        replace HB := Lib.hid (HB.out.trans (b23.mono HB.out.size))
        replace HT := Lib.hid (HT.out.below rTg_stable b23)
        replace HS := Lib.hid (HS.out.below rRu_stable b23)
        clear b23
        obtain ⟨ms, fi, hHUX⟩ : ∃ ms fi, unxRes t s3 = (ms, fi) := ⟨_, _, rfl⟩
        have HUX := Lib.hid hHUX
        clear hHUX
        have en_fi : (fi != fi) = false := by simp
        have ee_fi : (fi == fi) = true := by simp
        go_wp2_with fail
        refine (implUnx_any v1 v2 t s3 _ HT.out HS.out (by omega) ms fi HUX.out).mono ?_
        rintro e w24 ⟨v5, rfl, h5, b24⟩
        replace HI := Lib.hid (isRow_afterT HI.out b24)
        replace HB := Lib.hid (HB.out.trans (b24.mono HB.out.size))
        replace HT := Lib.hid (HT.out.below rTg_stable b24)
        replace HS := Lib.hid (HS.out.below rRu_stable b24)
        have H5 := Lib.hid h5.row
        clear b24 h5
        go_wp2_with fail
        refine (specUnx_any v1 v2 t s3 _ HT.out HS.out (by omega) ms fi HUX.out).mono ?_
        rintro e w25 ⟨v6, rfl, h6, b25⟩
        replace HI := Lib.hid (isRow_afterT HI.out b25)
        replace HB := Lib.hid (HB.out.trans (b25.mono HB.out.size))
        replace HT := Lib.hid (HT.out.below rTg_stable b25)
        replace HS := Lib.hid (HS.out.below rRu_stable b25)
        replace H5 := Lib.hid (H5.out.below b25)
        have H6 := Lib.hid h6.row
        clear b25 h6
        go_upto_if 150 with (first | (go_at_call 11; refine (vInts_same v5 v6 ms _ H5.out H6.out).mono ?_; rintro e u6 ⟨rfl, b_u6⟩; replace HI := Lib.hid (isRow_afterT HI.out b_u6); replace HB := Lib.hid (HB.out.trans (b_u6.mono HB.out.size)); replace HT := Lib.hid (HT.out.below rTg_stable b_u6); replace HS := Lib.hid (HS.out.below rRu_stable b_u6); replace H5 := Lib.hid (H5.out.below b_u6); replace H6 := Lib.hid (H6.out.below b_u6); clear b_u6))
        go_cut [23, 24, 25] from 35 to 231 (fun q1 q2 q3 wx => Hid (IsRow .u8 wx a len cap zs) ∧ Hid (Below W.heap.size W wx))
        case first =>
          as_aux_lemma =>
            cases tk
            · go_wp2_with fail
              go_meet
              exact ⟨HI, HB⟩
            · obtain ⟨R, hR1, hR2, hR3⟩ := duet_asks HDU.out
              have HRF := Lib.hid hR1
              have HRA := Lib.hid hR3
              have rpos : 0 < R.length := List.length_pos_iff.2 hR2
              have rl : ((R.length : Int) == 0) = false := by rw [beq_eq_false_iff_ne]; omega
              clear hR1 hR2 hR3
              go_wp2_with fail
              refine (implRulesFor_any v2 s3 m _ HS.out (by omega) R true HRF.out).mono ?_
              rintro e w41 ⟨v9, rfl, h9, b41⟩
              replace HI := Lib.hid (isRow_afterT HI.out b41)
              replace HB := Lib.hid (HB.out.trans (b41.mono HB.out.size))
              replace HT := Lib.hid (HT.out.below rTg_stable b41)
              replace HS := Lib.hid (HS.out.below rRu_stable b41)
              replace H5 := Lib.hid (H5.out.below b41)
              replace H6 := Lib.hid (H6.out.below b41)
              have H9 := Lib.hid h9.row
              clear b41 h9
              obtain ⟨aR, cR, hv, _, hmR, rR⟩ := H9.out.rus
              subst hv
              unfold maxLen at hmR
              clear rR
              go_wp2_with fail
              go_loopw [25] (fun i wr => ∃ k : Nat, k ≤ R.length ∧ i = .int .i64 k ∧ Hid (IsRow .u8 wr a len cap zs) ∧ Hid (Below W.heap.size W wr) ∧ Hid (RowR 4 rRu wr (.slice aR R.length cR) R) ∧ Hid (RowOf vI wr v5 ms)) (fun i _ => R.length - (intOf i).toNat)
              case atStart => exact ⟨0, Nat.zero_le _, rfl, HI, HB, H9, H5⟩
              case round =>
                clear HI HB H9 H5 HS HT H6
                obtain ⟨k, hk, rfl, HI, HB, H9, H5⟩ := hrel
                by_cases hlt : k < R.length
                · have j0 : (0 : Int) ≤ (k : Int) := by omega
                  have j1 : (k : Int) < (R.length : Int) := by omega
                  obtain ⟨aR2, cR2, eR, _, _, rR⟩ := H9.out.rus
                  simp only [Value.slice.injEq, true_and] at eR
                  obtain ⟨rfl, rfl⟩ := eR
                  obtain ⟨bR, oR, _, rfl, eR⟩ := rR.resolve_left (fun e => by rw [e] at hlt; simp at hlt)
                  obtain ⟨f0, f1, f2, f3, hok⟩ := eR k hlt
                  obtain ⟨⟨x0, x1, x2, x3⟩, hxx⟩ : ∃ s, R.getD k ruD = s := ⟨_, rfl⟩
                  have hask := HRA.out _ (show (⟨x0, x1, x2, x3⟩ : Ru) ∈ R from by rw [← hxx, getRu_lt hlt]; exact List.getElem_mem hlt)
                  rw [hxx] at f0 f1 f2 f3
                  rw [HUX.out] at hask
                  simp only at f0 f1 f2 f3 hask
                  obtain ⟨ha1, ha2⟩ := hask
                  have dm : decide (x1 ∈ ms) = false := decide_eq_false ha2
                  have dd : decide (du < x2) = false := decide_eq_false (by omega)
                  clear eR rR hxx hok ha1 ha2 f0 f3
                  go_wp2_with (first | (go_at_call 35; refine (vHas_any v5 ms x1 _ H5.out).mono ?_; rw [dm]; rintro e u7 ⟨rfl, b_u7⟩; replace HI := Lib.hid (isRow_afterT HI.out b_u7); replace HB := Lib.hid (HB.out.trans (b_u7.mono HB.out.size)); replace H9 := Lib.hid (H9.out.below rRu_stable b_u7); replace H5 := Lib.hid (H5.out.below b_u7); replace f2 := (b_u7.cell (World.block_lt_of_cell? _ _ f2)).trans f2; clear b_u7))
                  go_roundw
                  case rel => exact ⟨k + 1, by omega, by go_num, HI, HB, H9, H5⟩
                  case measure => simp [intOf]; omega
                · have j1 : ¬ (k : Int) < (R.length : Int) := by omega
                  go_wp2_with fail
                  go_meet
                  exact ⟨HI, HB⟩
        case rest =>
          as_aux_lemma =>
            clear HI HB HT HS H5 H6 HDU HUX htl hsl hm en_du ee_du en_tk ee_tk en_fi ee_fi
            obtain ⟨HI, HB⟩ := hcut
            obtain ⟨W2, hW2⟩ : ∃ x, x = wc := ⟨_, rfl⟩
            subst hW2
            go_wp2_with fail
            refine (drawNev_any a len cap zs _ HI.out (by omega)).mono ?_
            rintro e w61 ⟨v7, s7, rfl, ⟨hl7, h7, b61⟩⟩
            replace HI := Lib.hid (isRow_afterT HI.out b61)
            replace HB := Lib.hid (HB.out.trans (b61.mono HB.out.size))
            have HS := Lib.hid h7
            clear b61 h7
            obtain ⟨ns, kn, hHN⟩ : ∃ ns kn, nevRes s7 = (ns, kn) := ⟨_, _, rfl⟩
            have HN := Lib.hid hHN
            clear hHN
            have en_kn : (kn != kn) = false := by simp
            have ee_kn : (kn == kn) = true := by simp
            go_wp2_with fail
            refine (implNev_any v7 s7 _ HS.out (by omega) ns kn HN.out).mono ?_
            rintro e w62 ⟨v8, rfl, h8, b62⟩
            replace HI := Lib.hid (isRow_afterT HI.out b62)
            replace HB := Lib.hid (HB.out.trans (b62.mono HB.out.size))
            replace HS := Lib.hid (HS.out.below rRu_stable b62)
            have H8 := Lib.hid h8.row
            clear b62 h8
            go_wp2_with fail
            refine (specNev_any v7 s7 _ HS.out (by omega) ns kn HN.out).mono ?_
            rintro e w63 ⟨v9, rfl, h9, b63⟩
            replace HI := Lib.hid (isRow_afterT HI.out b63)
            replace HB := Lib.hid (HB.out.trans (b63.mono HB.out.size))
            replace HS := Lib.hid (HS.out.below rRu_stable b63)
            replace H8 := Lib.hid (H8.out.below rPr_stable b63)
            have H9 := Lib.hid h9.row
            clear b63 h9
            go_upto_region 38 with (first | (go_at_call 39; refine (vPairs_same v8 v9 ns _ H8.out H9.out).mono ?_; rintro e u8 ⟨rfl, b_u8⟩; replace HI := Lib.hid (isRow_afterT HI.out b_u8); replace HB := Lib.hid (HB.out.trans (b_u8.mono HB.out.size)); replace HS := Lib.hid (HS.out.below rRu_stable b_u8); replace H8 := Lib.hid (H8.out.below rPr_stable b_u8); replace H9 := Lib.hid (H9.out.below rPr_stable b_u8); clear b_u8))
            clear H9
            go_wp2_with fail
            refine (drawIsRec_any a len cap zs _ HI.out (by omega)).mono ?_
            rintro e w70 ⟨⟨id, se, ma, xs⟩, g, c, rfl, hok, he, b70⟩
            (try dsimp only at hok he)
            (try dsimp only)
            have HOK := Lib.hid hok
            replace HB := Lib.hid (HB.out.trans (b70.mono HB.out.size))
            replace HS := Lib.hid (HS.out.below rRu_stable b70)
            replace H8 := Lib.hid (H8.out.below rPr_stable b70)
            have HEV0 := Lib.hid he.row
            clear b70 hok he HI
            obtain ⟨F, hF⟩ : ∃ F, w70.heap.size = F := ⟨_, rfl⟩
            have HX : Hid (BxV (w70.alloc (.cells #[.int .i64 id, .int .i64 se, .int .i64 ma, .slice (some ⟨g, 0, none⟩) xs.length c] 63 (0, 0))) F [.int .i64 id, .int .i64 se, .int .i64 ma, .slice (some ⟨g, 0, none⟩) xs.length c]) := Lib.hid (BxV.new' hF _ _)
            have HEV : Hid (RowR 2 rEv (w70.alloc (.cells #[.int .i64 id, .int .i64 se, .int .i64 ma, .slice (some ⟨g, 0, none⟩) xs.length c] 63 (0, 0))) (.slice (some ⟨g, 0, none⟩) xs.length c) xs) := Lib.hid (HEV0.out.below rEv_stable (below_al (Below.refl _ _) _))
            replace HS : Hid (RowR 4 rRu (w70.alloc (.cells #[.int .i64 id, .int .i64 se, .int .i64 ma, .slice (some ⟨g, 0, none⟩) xs.length c] 63 (0, 0))) v7 s7) := Lib.hid (HS.out.below rRu_stable (below_al (Below.refl _ _) _))
            replace H8 : Hid (RowR 2 rPr (w70.alloc (.cells #[.int .i64 id, .int .i64 se, .int .i64 ma, .slice (some ⟨g, 0, none⟩) xs.length c] 63 (0, 0))) v8 ns) := Lib.hid (H8.out.below rPr_stable (below_al (Below.refl _ _) _))
            replace HB : Hid (Below W.heap.size W (w70.alloc (.cells #[.int .i64 id, .int .i64 se, .int .i64 ma, .slice (some ⟨g, 0, none⟩) xs.length c] 63 (0, 0)))) := Lib.hid (HB.out.alloc HB.out.size _)
            clear HEV0
            go_upto_region 39 with fail
            try rw [hF]
            have HFE := Lib.hid hF
            clear hF
            generalize hW7 : w70.alloc (.cells #[.int .i64 id, .int .i64 se, .int .i64 ma, .slice (some ⟨g, 0, none⟩) xs.length c] 63 (0, 0)) = W7 at *
            have HW7 := Lib.hid hW7
            clear hW7
            obtain ⟨⟨q0, q1, q2, q3⟩, one, hdr⟩ : ∃ q b, decRes ⟨id, se, ma, xs⟩ s7 = (q, b) := ⟨_, _, rfl⟩
            have HDR := Lib.hid hdr
            have HNEV : Hid (one = true → ¬ (q0, q1) ∈ ns) := Lib.hid (fun h => by subst h; exact never_res HDR.out HN.out)
            clear hdr
            have c0 := HX.out.cell 0
            have c1 := HX.out.cell 1
            have c2 := HX.out.cell 2
            have c3 := HX.out.cell 3
            simp at c0 c1 c2 c3
            go_wp2_with fail
            refine (implDecidingRule_any _ v7 ⟨id, se, ma, xs⟩ s7 _ ⟨_, rfl, HEV.out, HOK.out⟩ HS.out (by omega) ⟨q0, q1, q2, q3⟩ one HDR.out).mono ?_
            rintro e w71 ⟨rfl, b71⟩
            (try dsimp only)
            replace HB := Lib.hid (HB.out.trans (b71.mono HB.out.size))
            replace H8 := Lib.hid (H8.out.below rPr_stable b71)
            clear b71 c0 c1 c2 c3 HX HEV HS HOK HDR HFE HN HW7
            obtain ⟨F2, hF⟩ : ∃ F, w71.heap.size = F := ⟨_, rfl⟩
            have HX : Hid (BxV (w71.alloc (.cells #[.int .i64 q0, .int .i64 q1, .int .i64 q2, .int .i64 q3] 56 (0, 0))) F2 [.int .i64 q0, .int .i64 q1, .int .i64 q2, .int .i64 q3]) := Lib.hid (BxV.new' hF _ _)
            replace H8 : Hid (RowR 2 rPr (w71.alloc (.cells #[.int .i64 q0, .int .i64 q1, .int .i64 q2, .int .i64 q3] 56 (0, 0))) v8 ns) := Lib.hid (H8.out.below rPr_stable (below_al (Below.refl _ _) _))
            replace HB : Hid (Below W.heap.size W (w71.alloc (.cells #[.int .i64 q0, .int .i64 q1, .int .i64 q2, .int .i64 q3] 56 (0, 0)))) := Lib.hid (HB.out.alloc HB.out.size _)
            go_upto_if 215 with fail
            try rw [hF]
            have HFE := Lib.hid hF
            clear hF
            generalize hW8 : w71.alloc (.cells #[.int .i64 q0, .int .i64 q1, .int .i64 q2, .int .i64 q3] 56 (0, 0)) = W8 at *
            have HW8 := Lib.hid hW8
            clear hW8
            cases one
            · go_wp2_with fail
              go_ret
              exact ⟨rfl, HB.out⟩
            · obtain ⟨aP, cP, hv, hlP, hmP, rP⟩ := H8.out
              subst hv
              unfold maxLen at hmP
              clear rP
              go_wp2_with fail
              go_loopw [34] (fun i wr => ∃ k : Nat, k ≤ ns.length ∧ i = .int .i64 k ∧ Hid (Below W.heap.size W wr) ∧ Hid (BxV wr F2 [.int .i64 q0, .int .i64 q1, .int .i64 q2, .int .i64 q3]) ∧ Hid (RowR 2 rPr wr (.slice aP ns.length cP) ns)) (fun i _ => ns.length - (intOf i).toNat)
              case atStart => exact ⟨0, Nat.zero_le _, rfl, HB, HX, H8⟩
              case round =>
                clear HB HX H8 HW8 HFE
                obtain ⟨k, hk, rfl, HB, HX, H8⟩ := hrel
                by_cases hlt : k < ns.length
                · obtain ⟨aP2, cP2, eP, _, _, rP⟩ := H8.out
                  simp only [Value.slice.injEq, true_and] at eP
                  obtain ⟨rfl, rfl⟩ := eP
                  obtain ⟨bP, oP, hbP, rfl, eP⟩ := rP.resolve_left (fun e => by rw [e] at hlt; simp at hlt)
                  obtain ⟨⟨x0, x1⟩, hxx⟩ : ∃ s, ns[k] = s := ⟨_, rfl⟩
                  obtain ⟨cs1, hcl1, hcs1, hre1⟩ := eP k hlt
                  rw [hxx] at hre1
                  unfold rPr at hre1
                  subst hre1
                  have fa0 : wr.cell? ⟨bP, oP + k * 2, none⟩ = some (.int .i64 x0) := hcs1 0 (by simp only [prC, List.length_cons, List.length_nil]; omega)
                  have fa1 : wr.cell? ⟨bP, oP + k * 2 + 1, none⟩ = some (.int .i64 x1) := hcs1 1 (by simp only [prC, List.length_cons, List.length_nil]; omega)
                  have hmem : (x0, x1) ∈ ns := by rw [← hxx]; exact List.getElem_mem hlt
                  have hne : ¬ (x0, x1) = (q0, q1) := fun e => HNEV.out (by simp) (e ▸ hmem)
                  have c0 := HX.out.cell 0
                  have c1 := HX.out.cell 1
                  simp at c0 c1
                  have j0 : (0 : Int) ≤ (k : Int) := by omega
                  have j1 : (k : Int) < (ns.length : Int) := by omega
                  have kg := prGuard
                  have ke : ∀ w, (binOp .eql 67 (.agg #[.int .i64 x0, .int .i64 x1]) (.agg #[.int .i64 q0, .int .i64 q1])).run Try.prog w = .ok (.bool false) w := fun w => by rw [prEq_run, decide_eq_false hne]
                  clear hcs1 hcl1 eP rP hxx hmem hne
                  go_wp2_with fail
                  go_quiet (fail)
                  go_wp2_with fail
                  go_roundw
                  case rel => exact ⟨k + 1, by omega, by go_num, Lib.hid (below_drewM HB.out _), Lib.hid (HX.out.below (below_drewL _ _)), Lib.hid (H8.out.below rPr_stable (below_drewL _ _))⟩
                  case measure => simp [intOf]; omega
                · have j1 : ¬ (k : Int) < (ns.length : Int) := by omega
                  go_wp2_with fail
                  go_ret
                  exact ⟨rfl, HB.out⟩

theorem walkExpected (v0 : Value) (x0 : By8) (W : World) (hv0 : ByV W v0 x0) :
    Calls Try.prog 4 #[v0] W fun e w' => e = .returned (.bool true) ∧ Below W.heap.size W w' := by
  obtain ⟨a, len, cap, zs⟩ := x0
  obtain ⟨rfl, hi⟩ := hv0
  exact walkExpected0 a len cap zs W hi
end Go.Proofs.Ytenjajcknmfhfaa
