/- The law FnHolds: whatever the bytes, the call answers true. No condition. -/
import Derived.Test.YtenjajcknmfhfaaHzC
import Derived.Test.YtenjajcknmfhfaaHzD
import Derived.Test.YtenjajcknmfhfaaHzE
import Derived.Test.YtenjajcknmfhfaaHzF
import Derived.Test.YtenjajcknmfhfaaFrame
import Derived.Lib.QuietBelow
import Derived.BigQuiet
import Derived.Deep.DeepCutAuto
import Derived.Deep.CutBlock
namespace Go.Proofs.Ytenjajcknmfhfaa
set_option linter.unusedVariables false
open Go.ChangeShapes Go.WideShapes Go.ChangeAt Go.RowKit Go.Sort

theorem isRow_afterT {k : IntKind} {w w' : World} {a : Option Addr} {len cap : Nat} {zs : List Int} (h : IsRow k w a len cap zs) (hb : Below w.heap.size w w') : IsRow k w' a len cap zs := by
  refine h.imp id ?_
  rintro ⟨x, rfl, hl, hm, hz, hc, hw⟩
  refine ⟨x, rfl, hl, hm, hz, fun i hi => ?_, hw⟩
  have := hc i hi
  exact (hb.cell (World.block_lt_of_cell? w _ this)).trans this
theorem IntsO.lenV {lo hi : Nat} {w : World} {v : Value} {xs : List Int} (h : IntsO lo hi w v xs) : ∃ a c, v = .slice a xs.length c := by
  obtain ⟨a, c, h1, _⟩ := h.row
  exact ⟨a, c, h1⟩
theorem ho_day {t : List Ho} {r : Rec} {d : Int} {xs : List Int} (h : hoRes t r d = (xs, true)) : 0 ≤ d ∧ d ≤ 20000 := by
  unfold hoRes at h
  split at h
  · rename_i hh
    exact (askH_iff.1 hh).2.2
  · cases h
theorem may_day {t : List Ho} {r : Rec} {u : List Ru} {d : Int} {b : Bool} (h : mayRes t r u d = (true, b)) : 0 ≤ d ∧ d ≤ 20000 := ho_day (hq_may h).1
set_option maxRecDepth 20000 in
set_option maxHeartbeats 16000000 in
theorem walkHolds0 (a : Option Addr) (len cap : Nat) (zs : List Int) (W : World) (h : IsRow .u8 W a len cap zs) :
    Calls Try.prog 6 #[.slice a len cap] W fun e w' => e = .returned (.bool true) ∧ Below W.heap.size W w' := by
  have hll := isRow_len h
  have HI := Lib.hid h
  clear h
  by_cases hbig : 65536 < len
  · go_enter Try.func6, Try.ntmps6
    go_wp2_with fail
    refine (vBig_any a len cap _ true (by simp; omega) hll).mono ?_
    rintro e w' ⟨rfl, rfl⟩
    go_wp2
    go_ret
    exact ⟨rfl, Below.refl _ _⟩
  · go_enter Try.func6, Try.ntmps6
    go_wp2_with fail
    refine (vBig_any a len cap _ false (by simp; omega) hll).mono ?_
    rintro e w' ⟨rfl, rfl⟩
    have HB : Hid (Below W.heap.size W W) := Lib.hid (Below.refl _ _)
    go_wp2_with fail
    refine (drawMayDes_any a len cap zs _ HI.out (by omega)).mono ?_
    rintro e w1 ⟨⟨id, se, ma, xs⟩, g, c, v, v2, es, u, n, rfl, hn, hul, hu, hok, hel, hxl, ho, he, bD⟩
    (try dsimp only at hok hxl he)
    (try dsimp only)
    have HOK := Lib.hid hok
    obtain ⟨t, ht⟩ : ∃ t, es.map Prod.fst = t := ⟨_, rfl⟩
    have hor := ho.reads
    rw [ht] at hor
    replace HI := Lib.hid (isRow_afterT HI.out bD)
    replace HB := Lib.hid (HB.out.trans (bD.mono HB.out.size))
    obtain ⟨F, hF⟩ : ∃ F, w1.heap.size = F := ⟨_, rfl⟩
    have HX : Hid (BxV (w1.alloc (.cells #[.int .i64 id, .int .i64 se, .int .i64 ma, .slice (some ⟨g, 0, none⟩) xs.length c] 63 (0, 0))) F [.int .i64 id, .int .i64 se, .int .i64 ma, .slice (some ⟨g, 0, none⟩) xs.length c]) := Lib.hid (BxV.new' hF _ _)
    have HEV : Hid (RowR 2 rEv (w1.alloc (.cells #[.int .i64 id, .int .i64 se, .int .i64 ma, .slice (some ⟨g, 0, none⟩) xs.length c] 63 (0, 0))) (.slice (some ⟨g, 0, none⟩) xs.length c) xs) := Lib.hid (he.row.below rEv_stable (below_al (Below.refl _ _) _))
    have HH : Hid (RowR 6 rHo (w1.alloc (.cells #[.int .i64 id, .int .i64 se, .int .i64 ma, .slice (some ⟨g, 0, none⟩) xs.length c] 63 (0, 0))) v t) := Lib.hid (hor.below rHo_stable (below_al (Below.refl _ _) _))
    have HS : Hid (RowR 4 rRu (w1.alloc (.cells #[.int .i64 id, .int .i64 se, .int .i64 ma, .slice (some ⟨g, 0, none⟩) xs.length c] 63 (0, 0))) v2 u) := Lib.hid (hu.row.below rRu_stable (below_al (Below.refl _ _) _))
    clear hu
    replace HI : Hid (IsRow .u8 (w1.alloc (.cells #[.int .i64 id, .int .i64 se, .int .i64 ma, .slice (some ⟨g, 0, none⟩) xs.length c] 63 (0, 0))) a len cap zs) := Lib.hid (isRow_afterT HI.out (below_al (Below.refl _ _) _))
    replace HB : Hid (Below W.heap.size W (w1.alloc (.cells #[.int .i64 id, .int .i64 se, .int .i64 ma, .slice (some ⟨g, 0, none⟩) xs.length c] 63 (0, 0)))) := Lib.hid (HB.out.alloc HB.out.size _)
    clear hok ho he bD hor ht hel hxl
    go_upto_region 4 with fail
    try rw [hF]
    have HFE := Lib.hid hF
    clear hF
    generalize hWW : w1.alloc (.cells #[.int .i64 id, .int .i64 se, .int .i64 ma, .slice (some ⟨g, 0, none⟩) xs.length c] 63 (0, 0)) = WW1 at *
    have HWW := Lib.hid hWW
    clear hWW
    obtain ⟨ma1, ok, hHM⟩ : ∃ ma1 ok, mayRes t ⟨id, se, ma, xs⟩ u n = (ma1, ok) := ⟨_, _, rfl⟩
    have HM := Lib.hid hHM
    clear hHM
    have en_ma1 : (ma1 != ma1) = false := by simp
    have ee_ma1 : (ma1 == ma1) = true := by simp
    have en_ok : (ok != ok) = false := by simp
    have ee_ok : (ok == ok) = true := by simp
    have c0 := HX.out.cell 0
    have c1 := HX.out.cell 1
    have c2 := HX.out.cell 2
    have c3 := HX.out.cell 3
    simp at c0 c1 c2 c3
    go_wp2_with fail
    refine (implMayDestroy_any v _ v2 t ⟨id, se, ma, xs⟩ u n _ HH.out ⟨_, rfl, HEV.out, HOK.out⟩ HS.out (by omega) ma1 ok HM.out).mono ?_
    rintro e w1 ⟨rfl, b1⟩
    replace HI := Lib.hid (isRow_afterT HI.out b1)
    replace HB := Lib.hid (HB.out.trans (b1.mono HB.out.size))
    replace HX := Lib.hid (HX.out.below b1)
    replace HEV := Lib.hid (HEV.out.below rEv_stable b1)
    replace HH := Lib.hid (HH.out.below rHo_stable b1)
    replace HS := Lib.hid (HS.out.below rRu_stable b1)
    clear b1
    clear c0 c1 c2 c3
    have c0 := HX.out.cell 0
    have c1 := HX.out.cell 1
    have c2 := HX.out.cell 2
    have c3 := HX.out.cell 3
    simp at c0 c1 c2 c3
    go_wp2_with fail
    refine (specMayDestroy_any v _ v2 t ⟨id, se, ma, xs⟩ u n _ HH.out ⟨_, rfl, HEV.out, HOK.out⟩ HS.out ma1 ok HM.out).mono ?_
    rintro e w2 ⟨rfl, b2⟩
    replace HI := Lib.hid (isRow_afterT HI.out b2)
    replace HB := Lib.hid (HB.out.trans (b2.mono HB.out.size))
    replace HX := Lib.hid (HX.out.below b2)
    replace HEV := Lib.hid (HEV.out.below rEv_stable b2)
    replace HH := Lib.hid (HH.out.below rHo_stable b2)
    replace HS := Lib.hid (HS.out.below rRu_stable b2)
    clear b2
    clear c0 c1 c2 c3
    obtain ⟨bA, hbA⟩ : ∃ b, areHo t = b := ⟨_, rfl⟩
    have HBA := Lib.hid hbA
    clear hbA
    have en_bA : (bA != bA) = false := by simp
    have ee_bA : (bA == bA) = true := by simp
    go_upto_if 84 with (first | (go_at_call 57; refine (implAreHo_any v t _ HH.out).mono ?_; rw [HBA.out]; rintro e u1 ⟨rfl, b_u1⟩; replace HI := Lib.hid (isRow_afterT HI.out b_u1); replace HB := Lib.hid (HB.out.trans (b_u1.mono HB.out.size)); replace HX := Lib.hid (HX.out.below b_u1); replace HEV := Lib.hid (HEV.out.below rEv_stable b_u1); replace HH := Lib.hid (HH.out.below rHo_stable b_u1); replace HS := Lib.hid (HS.out.below rRu_stable b_u1); clear b_u1) | (go_at_call 58; refine (specAreHolds_any v t _ HH.out).mono ?_; rw [HBA.out]; rintro e u2 ⟨rfl, b_u2⟩; replace HI := Lib.hid (isRow_afterT HI.out b_u2); replace HB := Lib.hid (HB.out.trans (b_u2.mono HB.out.size)); replace HX := Lib.hid (HX.out.below b_u2); replace HEV := Lib.hid (HEV.out.below rEv_stable b_u2); replace HH := Lib.hid (HH.out.below rHo_stable b_u2); replace HS := Lib.hid (HS.out.below rRu_stable b_u2); clear b_u2))
    go_cut [11, 12, 13, 14] from 44 to 266 (fun q1 q2 q3 q4 wx => Hid (IsRow .u8 wx a len cap zs) ∧ Hid (Below W.heap.size W wx))
    case first =>
      as_aux_lemma =>
        cases ma1
        case false =>
          go_wp2_with fail
          go_meet
          exact ⟨HI, HB⟩
        case true =>
          have HQ1 := Lib.hid (hq_may HM.out).1
          have HQ2 := Lib.hid (hq_due HM.out)
          have c0 := HX.out.cell 0
          have c1 := HX.out.cell 1
          have c2 := HX.out.cell 2
          have c3 := HX.out.cell 3
          simp at c0 c1 c2 c3
          go_wp2_with fail
          refine (implHoldsOn_any v _ t ⟨id, se, ma, xs⟩ n _ HH.out ⟨_, rfl, HEV.out, HOK.out⟩ [] true HQ1.out).mono ?_
          rintro e w21 ⟨v9, rfl, h9, b21⟩
          replace HI := Lib.hid (isRow_afterT HI.out b21)
          replace HB := Lib.hid (HB.out.trans (b21.mono HB.out.size))
          replace HX := Lib.hid (HX.out.below b21)
          replace HEV := Lib.hid (HEV.out.below rEv_stable b21)
          replace HH := Lib.hid (HH.out.below rHo_stable b21)
          replace HS := Lib.hid (HS.out.below rRu_stable b21)
          clear b21
          clear c0 c1 c2 c3
          obtain ⟨a9, c9, h9v⟩ := h9.lenV
          subst h9v
          clear h9
          have c0 := HX.out.cell 0
          have c1 := HX.out.cell 1
          have c2 := HX.out.cell 2
          have c3 := HX.out.cell 3
          simp at c0 c1 c2 c3
          go_wp2_with fail
          refine (implIsDue_any _ v2 ⟨id, se, ma, xs⟩ u n _ ⟨_, rfl, HEV.out, HOK.out⟩ HS.out (by omega) true true HQ2.out).mono ?_
          rintro e w22 ⟨rfl, b22⟩
          replace HI := Lib.hid (isRow_afterT HI.out b22)
          replace HB := Lib.hid (HB.out.trans (b22.mono HB.out.size))
          replace HX := Lib.hid (HX.out.below b22)
          replace HEV := Lib.hid (HEV.out.below rEv_stable b22)
          replace HH := Lib.hid (HH.out.below rHo_stable b22)
          replace HS := Lib.hid (HS.out.below rRu_stable b22)
          clear b22
          clear c0 c1 c2 c3
          go_wp2_with fail
          go_meet
          exact ⟨HI, HB⟩
    case rest =>
      as_aux_lemma =>
        clear HI HB HX HEV HH HOK HFE HWW HS HM HBA hn hul en_ma1 ee_ma1 en_ok ee_ok en_bA ee_bA
        obtain ⟨HI, HB⟩ := hcut
        obtain ⟨W1, hW1⟩ : ∃ x, x = wc := ⟨_, rfl⟩
        subst hW1
        go_wp2_with fail
        refine (drawFirstDes_any a len cap zs _ HI.out (by omega)).mono ?_
        rintro e w2 ⟨⟨id, se, ma, xs⟩, g, c, v, v2, es, u, rfl, hul, hu, hok, hel, hxl, ho, he, bD⟩
        (try dsimp only at hok hxl he)
        (try dsimp only)
        have HOK := Lib.hid hok
        obtain ⟨t, ht⟩ : ∃ t, es.map Prod.fst = t := ⟨_, rfl⟩
        have hor := ho.reads
        rw [ht] at hor
        replace HI := Lib.hid (isRow_afterT HI.out bD)
        replace HB := Lib.hid (HB.out.trans (bD.mono HB.out.size))
        obtain ⟨F, hF⟩ : ∃ F, w2.heap.size = F := ⟨_, rfl⟩
        have HX : Hid (BxV (w2.alloc (.cells #[.int .i64 id, .int .i64 se, .int .i64 ma, .slice (some ⟨g, 0, none⟩) xs.length c] 63 (0, 0))) F [.int .i64 id, .int .i64 se, .int .i64 ma, .slice (some ⟨g, 0, none⟩) xs.length c]) := Lib.hid (BxV.new' hF _ _)
        have HEV : Hid (RowR 2 rEv (w2.alloc (.cells #[.int .i64 id, .int .i64 se, .int .i64 ma, .slice (some ⟨g, 0, none⟩) xs.length c] 63 (0, 0))) (.slice (some ⟨g, 0, none⟩) xs.length c) xs) := Lib.hid (he.row.below rEv_stable (below_al (Below.refl _ _) _))
        have HH : Hid (RowR 6 rHo (w2.alloc (.cells #[.int .i64 id, .int .i64 se, .int .i64 ma, .slice (some ⟨g, 0, none⟩) xs.length c] 63 (0, 0))) v t) := Lib.hid (hor.below rHo_stable (below_al (Below.refl _ _) _))
        have HS : Hid (RowR 4 rRu (w2.alloc (.cells #[.int .i64 id, .int .i64 se, .int .i64 ma, .slice (some ⟨g, 0, none⟩) xs.length c] 63 (0, 0))) v2 u) := Lib.hid (hu.row.below rRu_stable (below_al (Below.refl _ _) _))
        clear hu
        replace HI : Hid (IsRow .u8 (w2.alloc (.cells #[.int .i64 id, .int .i64 se, .int .i64 ma, .slice (some ⟨g, 0, none⟩) xs.length c] 63 (0, 0))) a len cap zs) := Lib.hid (isRow_afterT HI.out (below_al (Below.refl _ _) _))
        replace HB : Hid (Below W.heap.size W (w2.alloc (.cells #[.int .i64 id, .int .i64 se, .int .i64 ma, .slice (some ⟨g, 0, none⟩) xs.length c] 63 (0, 0)))) := Lib.hid (HB.out.alloc HB.out.size _)
        clear hok ho he bD hor ht hel hxl
        go_upto_region 14 with fail
        try rw [hF]
        have HFE := Lib.hid hF
        clear hF
        generalize hWW : w2.alloc (.cells #[.int .i64 id, .int .i64 se, .int .i64 ma, .slice (some ⟨g, 0, none⟩) xs.length c] 63 (0, 0)) = WW2 at *
        have HWW := Lib.hid hWW
        clear hWW
        obtain ⟨fi, tl, hHM⟩ : ∃ fi tl, fdRes t ⟨id, se, ma, xs⟩ u = (fi, tl) := ⟨_, _, rfl⟩
        have HM := Lib.hid hHM
        clear hHM
        have en_fi : (fi != fi) = false := by simp
        have ee_fi : (fi == fi) = true := by simp
        have en_tl : (tl != tl) = false := by simp
        have ee_tl : (tl == tl) = true := by simp
        have c0 := HX.out.cell 0
        have c1 := HX.out.cell 1
        have c2 := HX.out.cell 2
        have c3 := HX.out.cell 3
        simp at c0 c1 c2 c3
        go_wp2_with fail
        refine (implFirstDestruction_any v _ v2 t ⟨id, se, ma, xs⟩ u _ HH.out ⟨_, rfl, HEV.out, HOK.out⟩ HS.out (by omega) fi tl HM.out).mono ?_
        rintro e w41 ⟨rfl, b41⟩
        replace HI := Lib.hid (isRow_afterT HI.out b41)
        replace HB := Lib.hid (HB.out.trans (b41.mono HB.out.size))
        replace HX := Lib.hid (HX.out.below b41)
        replace HEV := Lib.hid (HEV.out.below rEv_stable b41)
        replace HH := Lib.hid (HH.out.below rHo_stable b41)
        replace HS := Lib.hid (HS.out.below rRu_stable b41)
        clear b41
        clear c0 c1 c2 c3
        have c0 := HX.out.cell 0
        have c1 := HX.out.cell 1
        have c2 := HX.out.cell 2
        have c3 := HX.out.cell 3
        simp at c0 c1 c2 c3
        go_wp2_with fail
        refine (specFirstDestruction_any v _ v2 t ⟨id, se, ma, xs⟩ u _ HH.out ⟨_, rfl, HEV.out, HOK.out⟩ HS.out fi tl HM.out).mono ?_
        rintro e w42 ⟨rfl, b42⟩
        replace HI := Lib.hid (isRow_afterT HI.out b42)
        replace HB := Lib.hid (HB.out.trans (b42.mono HB.out.size))
        replace HX := Lib.hid (HX.out.below b42)
        replace HEV := Lib.hid (HEV.out.below rEv_stable b42)
        replace HH := Lib.hid (HH.out.below rHo_stable b42)
        replace HS := Lib.hid (HS.out.below rRu_stable b42)
        clear b42
        clear c0 c1 c2 c3
        go_upto_if 142 with fail
        go_cut [22, 23, 24, 25] from 44 to 266 (fun q1 q2 q3 q4 wx => Hid (IsRow .u8 wx a len cap zs) ∧ Hid (Below W.heap.size W wx))
        case first =>
          as_aux_lemma =>
            cases tl
            case false =>
              go_wp2_with fail
              go_meet
              exact ⟨HI, HB⟩
            case true =>
              obtain ⟨hq1, hq2⟩ := hq_first HM.out
              have hd := may_day hq1
              have HQ1 := Lib.hid hq1
              have HQ2 := Lib.hid hq2
              clear hq1 hq2
              have c0 := HX.out.cell 0
              have c1 := HX.out.cell 1
              have c2 := HX.out.cell 2
              have c3 := HX.out.cell 3
              simp at c0 c1 c2 c3
              go_wp2_with fail
              refine (implMayDestroy_any v _ v2 t ⟨id, se, ma, xs⟩ u fi _ HH.out ⟨_, rfl, HEV.out, HOK.out⟩ HS.out (by omega) true true HQ1.out).mono ?_
              rintro e w61 ⟨rfl, b61⟩
              replace HI := Lib.hid (isRow_afterT HI.out b61)
              replace HB := Lib.hid (HB.out.trans (b61.mono HB.out.size))
              replace HX := Lib.hid (HX.out.below b61)
              replace HEV := Lib.hid (HEV.out.below rEv_stable b61)
              replace HH := Lib.hid (HH.out.below rHo_stable b61)
              replace HS := Lib.hid (HS.out.below rRu_stable b61)
              clear b61
              clear c0 c1 c2 c3
              by_cases hp : 0 < fi
              · have dp : decide (0 < fi) = true := decide_eq_true hp
                have hw1 : IntKind.i64.wrap (fi - 1) = fi - 1 := Go.IntWalk.i64_in _ (by omega)
                have HQ3 := Lib.hid (HQ2.out hp)
                clear hp
                have c0 := HX.out.cell 0
                have c1 := HX.out.cell 1
                have c2 := HX.out.cell 2
                have c3 := HX.out.cell 3
                simp at c0 c1 c2 c3
                go_wp2_with fail
                refine (implMayDestroy_any v _ v2 t ⟨id, se, ma, xs⟩ u (fi - 1) _ HH.out ⟨_, rfl, HEV.out, HOK.out⟩ HS.out (by omega) false true HQ3.out).mono ?_
                rintro e w71 ⟨rfl, b71⟩
                replace HI := Lib.hid (isRow_afterT HI.out b71)
                replace HB := Lib.hid (HB.out.trans (b71.mono HB.out.size))
                replace HX := Lib.hid (HX.out.below b71)
                replace HEV := Lib.hid (HEV.out.below rEv_stable b71)
                replace HH := Lib.hid (HH.out.below rHo_stable b71)
                replace HS := Lib.hid (HS.out.below rRu_stable b71)
                clear b71
                clear c0 c1 c2 c3
                go_wp2_with fail
                go_meet
                exact ⟨HI, HB⟩
              · have dp : decide (0 < fi) = false := decide_eq_false hp
                have HP := Lib.hid hp
                clear hp
                go_wp2_with fail
                go_meet
                exact ⟨HI, HB⟩
        case rest =>
          as_aux_lemma =>
            clear HI HB HX HEV HH HOK HFE HWW HS HM hul en_fi ee_fi en_tl ee_tl
            obtain ⟨HI, HB⟩ := hcut
            obtain ⟨W2, hW2⟩ : ∃ x, x = wc := ⟨_, rfl⟩
            subst hW2
            go_wp2_with fail
            refine (drawFreeDay_any a len cap zs _ HI.out (by omega)).mono ?_
            rintro e w3 ⟨⟨id, se, ma, xs⟩, g, c, v, es, n, rfl, hn, hok, hel, hxl, ho, he, bD⟩
            (try dsimp only at hok hxl he)
            (try dsimp only)
            have HOK := Lib.hid hok
            obtain ⟨t, ht⟩ : ∃ t, es.map Prod.fst = t := ⟨_, rfl⟩
            have hor := ho.reads
            rw [ht] at hor
            replace HI := Lib.hid (isRow_afterT HI.out bD)
            replace HB := Lib.hid (HB.out.trans (bD.mono HB.out.size))
            obtain ⟨F, hF⟩ : ∃ F, w3.heap.size = F := ⟨_, rfl⟩
            have HX : Hid (BxV (w3.alloc (.cells #[.int .i64 id, .int .i64 se, .int .i64 ma, .slice (some ⟨g, 0, none⟩) xs.length c] 63 (0, 0))) F [.int .i64 id, .int .i64 se, .int .i64 ma, .slice (some ⟨g, 0, none⟩) xs.length c]) := Lib.hid (BxV.new' hF _ _)
            have HEV : Hid (RowR 2 rEv (w3.alloc (.cells #[.int .i64 id, .int .i64 se, .int .i64 ma, .slice (some ⟨g, 0, none⟩) xs.length c] 63 (0, 0))) (.slice (some ⟨g, 0, none⟩) xs.length c) xs) := Lib.hid (he.row.below rEv_stable (below_al (Below.refl _ _) _))
            have HH : Hid (RowR 6 rHo (w3.alloc (.cells #[.int .i64 id, .int .i64 se, .int .i64 ma, .slice (some ⟨g, 0, none⟩) xs.length c] 63 (0, 0))) v t) := Lib.hid (hor.below rHo_stable (below_al (Below.refl _ _) _))
            replace HI : Hid (IsRow .u8 (w3.alloc (.cells #[.int .i64 id, .int .i64 se, .int .i64 ma, .slice (some ⟨g, 0, none⟩) xs.length c] 63 (0, 0))) a len cap zs) := Lib.hid (isRow_afterT HI.out (below_al (Below.refl _ _) _))
            replace HB : Hid (Below W.heap.size W (w3.alloc (.cells #[.int .i64 id, .int .i64 se, .int .i64 ma, .slice (some ⟨g, 0, none⟩) xs.length c] 63 (0, 0)))) := Lib.hid (HB.out.alloc HB.out.size _)
            clear hok ho he bD hor ht hel hxl
            go_upto_region 27 with fail
            try rw [hF]
            have HFE := Lib.hid hF
            clear hF
            generalize hWW : w3.alloc (.cells #[.int .i64 id, .int .i64 se, .int .i64 ma, .slice (some ⟨g, 0, none⟩) xs.length c] 63 (0, 0)) = WW3 at *
            have HWW := Lib.hid hWW
            clear hWW
            obtain ⟨fr, fn, hHM⟩ : ∃ fr fn, freRes t ⟨id, se, ma, xs⟩ n = (fr, fn) := ⟨_, _, rfl⟩
            have HM := Lib.hid hHM
            clear hHM
            have en_fr : (fr != fr) = false := by simp
            have ee_fr : (fr == fr) = true := by simp
            have en_fn : (fn != fn) = false := by simp
            have ee_fn : (fn == fn) = true := by simp
            have c0 := HX.out.cell 0
            have c1 := HX.out.cell 1
            have c2 := HX.out.cell 2
            have c3 := HX.out.cell 3
            simp at c0 c1 c2 c3
            go_wp2_with fail
            refine (implFreeDay_any v _ t ⟨id, se, ma, xs⟩ n _ HH.out ⟨_, rfl, HEV.out, HOK.out⟩ fr fn HM.out).mono ?_
            rintro e w81 ⟨rfl, b81⟩
            replace HI := Lib.hid (isRow_afterT HI.out b81)
            replace HB := Lib.hid (HB.out.trans (b81.mono HB.out.size))
            replace HX := Lib.hid (HX.out.below b81)
            replace HEV := Lib.hid (HEV.out.below rEv_stable b81)
            replace HH := Lib.hid (HH.out.below rHo_stable b81)
            clear b81
            clear c0 c1 c2 c3
            have c0 := HX.out.cell 0
            have c1 := HX.out.cell 1
            have c2 := HX.out.cell 2
            have c3 := HX.out.cell 3
            simp at c0 c1 c2 c3
            go_wp2_with fail
            refine (specFreeDay_any v _ t ⟨id, se, ma, xs⟩ n _ HH.out ⟨_, rfl, HEV.out, HOK.out⟩ fr fn HM.out).mono ?_
            rintro e w82 ⟨rfl, b82⟩
            replace HI := Lib.hid (isRow_afterT HI.out b82)
            replace HB := Lib.hid (HB.out.trans (b82.mono HB.out.size))
            replace HX := Lib.hid (HX.out.below b82)
            replace HEV := Lib.hid (HEV.out.below rEv_stable b82)
            replace HH := Lib.hid (HH.out.below rHo_stable b82)
            clear b82
            clear c0 c1 c2 c3
            go_upto_if 201 with fail
            go_cut [33, 34, 35, 36] from 44 to 266 (fun q1 q2 q3 q4 wx => Hid (IsRow .u8 wx a len cap zs) ∧ Hid (Below W.heap.size W wx))
            case first =>
              as_aux_lemma =>
                cases fn
                case false =>
                  go_wp2_with fail
                  go_meet
                  exact ⟨HI, HB⟩
                case true =>
                  obtain ⟨hq1, hle, hq2⟩ := hq_free HM.out
                  have hd := ho_day hq1
                  have HQ1 := Lib.hid hq1
                  have HQ2 := Lib.hid hq2
                  have dle : decide (fr < n) = false := decide_eq_false (by omega)
                  clear hq1 hq2
                  have c0 := HX.out.cell 0
                  have c1 := HX.out.cell 1
                  have c2 := HX.out.cell 2
                  have c3 := HX.out.cell 3
                  simp at c0 c1 c2 c3
                  go_wp2_with fail
                  refine (implHoldsOn_any v _ t ⟨id, se, ma, xs⟩ fr _ HH.out ⟨_, rfl, HEV.out, HOK.out⟩ [] true HQ1.out).mono ?_
                  rintro e w101 ⟨v9, rfl, h9, b101⟩
                  replace HI := Lib.hid (isRow_afterT HI.out b101)
                  replace HB := Lib.hid (HB.out.trans (b101.mono HB.out.size))
                  replace HX := Lib.hid (HX.out.below b101)
                  replace HEV := Lib.hid (HEV.out.below rEv_stable b101)
                  replace HH := Lib.hid (HH.out.below rHo_stable b101)
                  clear b101
                  clear c0 c1 c2 c3
                  obtain ⟨a9, c9, h9v⟩ := h9.lenV
                  subst h9v
                  clear h9
                  by_cases hp : n < fr
                  · have dp : decide (n < fr) = true := decide_eq_true hp
                    have hw1 : IntKind.i64.wrap (fr - 1) = fr - 1 := Go.IntWalk.i64_in _ (by omega)
                    obtain ⟨ys, hy1, hy2⟩ := HQ2.out hp
                    have HQ3 := Lib.hid hy1
                    have ypos : 0 < ys.length := List.length_pos_iff.2 hy2
                    have yz : ((ys.length : Int) == 0) = false := by rw [beq_eq_false_iff_ne]; omega
                    clear hp hy1 hy2
                    have c0 := HX.out.cell 0
                    have c1 := HX.out.cell 1
                    have c2 := HX.out.cell 2
                    have c3 := HX.out.cell 3
                    simp at c0 c1 c2 c3
                    go_wp2_with fail
                    refine (implHoldsOn_any v _ t ⟨id, se, ma, xs⟩ (fr - 1) _ HH.out ⟨_, rfl, HEV.out, HOK.out⟩ ys true HQ3.out).mono ?_
                    rintro e w111 ⟨v8, rfl, h8, b111⟩
                    replace HI := Lib.hid (isRow_afterT HI.out b111)
                    replace HB := Lib.hid (HB.out.trans (b111.mono HB.out.size))
                    replace HX := Lib.hid (HX.out.below b111)
                    replace HEV := Lib.hid (HEV.out.below rEv_stable b111)
                    replace HH := Lib.hid (HH.out.below rHo_stable b111)
                    clear b111
                    clear c0 c1 c2 c3
                    obtain ⟨a8, c8, h8v⟩ := h8.lenV
                    subst h8v
                    clear h8
                    go_wp2_with fail
                    go_meet
                    exact ⟨HI, HB⟩
                  · have dp : decide (n < fr) = false := decide_eq_false hp
                    have HP := Lib.hid hp
                    clear hp
                    go_wp2_with fail
                    go_meet
                    exact ⟨HI, HB⟩
            case rest =>
              as_aux_lemma =>
                clear HI HB HX HEV HH HOK HFE HWW HM hn en_fr ee_fr en_fn ee_fn
                obtain ⟨HI, HB⟩ := hcut
                obtain ⟨W3, hW3⟩ : ∃ x, x = wc := ⟨_, rfl⟩
                subst hW3
                go_wp2_with fail
                refine (drawHoldsOn_any a len cap zs _ HI.out (by omega)).mono ?_
                rintro e w4 ⟨⟨id, se, ma, xs⟩, g, c, v, es, n, rfl, hn, hok, hel, hxl, ho, he, bD⟩
                (try dsimp only at hok hxl he)
                (try dsimp only)
                have HOK := Lib.hid hok
                obtain ⟨t, ht⟩ : ∃ t, es.map Prod.fst = t := ⟨_, rfl⟩
                have hor := ho.reads
                rw [ht] at hor
                replace HI := Lib.hid (isRow_afterT HI.out bD)
                replace HB := Lib.hid (HB.out.trans (bD.mono HB.out.size))
                obtain ⟨F, hF⟩ : ∃ F, w4.heap.size = F := ⟨_, rfl⟩
                have HX : Hid (BxV (w4.alloc (.cells #[.int .i64 id, .int .i64 se, .int .i64 ma, .slice (some ⟨g, 0, none⟩) xs.length c] 63 (0, 0))) F [.int .i64 id, .int .i64 se, .int .i64 ma, .slice (some ⟨g, 0, none⟩) xs.length c]) := Lib.hid (BxV.new' hF _ _)
                have HEV : Hid (RowR 2 rEv (w4.alloc (.cells #[.int .i64 id, .int .i64 se, .int .i64 ma, .slice (some ⟨g, 0, none⟩) xs.length c] 63 (0, 0))) (.slice (some ⟨g, 0, none⟩) xs.length c) xs) := Lib.hid (he.row.below rEv_stable (below_al (Below.refl _ _) _))
                have HH : Hid (RowR 6 rHo (w4.alloc (.cells #[.int .i64 id, .int .i64 se, .int .i64 ma, .slice (some ⟨g, 0, none⟩) xs.length c] 63 (0, 0))) v t) := Lib.hid (hor.below rHo_stable (below_al (Below.refl _ _) _))
                replace HI : Hid (IsRow .u8 (w4.alloc (.cells #[.int .i64 id, .int .i64 se, .int .i64 ma, .slice (some ⟨g, 0, none⟩) xs.length c] 63 (0, 0))) a len cap zs) := Lib.hid (isRow_afterT HI.out (below_al (Below.refl _ _) _))
                replace HB : Hid (Below W.heap.size W (w4.alloc (.cells #[.int .i64 id, .int .i64 se, .int .i64 ma, .slice (some ⟨g, 0, none⟩) xs.length c] 63 (0, 0)))) := Lib.hid (HB.out.alloc HB.out.size _)
                clear hok ho he bD hor ht hel hxl
                go_upto_region 40 with fail
                try rw [hF]
                have HFE := Lib.hid hF
                clear hF
                generalize hWW : w4.alloc (.cells #[.int .i64 id, .int .i64 se, .int .i64 ma, .slice (some ⟨g, 0, none⟩) xs.length c] 63 (0, 0)) = WW4 at *
                have HWW := Lib.hid hWW
                clear hWW
                obtain ⟨hs, kn, hHM⟩ : ∃ hs kn, hoRes t ⟨id, se, ma, xs⟩ n = (hs, kn) := ⟨_, _, rfl⟩
                have HM := Lib.hid hHM
                clear hHM
                have en_kn : (kn != kn) = false := by simp
                have ee_kn : (kn == kn) = true := by simp
                have c0 := HX.out.cell 0
                have c1 := HX.out.cell 1
                have c2 := HX.out.cell 2
                have c3 := HX.out.cell 3
                simp at c0 c1 c2 c3
                go_wp2_with fail
                refine (implHoldsOn_any v _ t ⟨id, se, ma, xs⟩ n _ HH.out ⟨_, rfl, HEV.out, HOK.out⟩ hs kn HM.out).mono ?_
                rintro e w121 ⟨v8, rfl, h8, b121⟩
                replace HI := Lib.hid (isRow_afterT HI.out b121)
                replace HB := Lib.hid (HB.out.trans (b121.mono HB.out.size))
                replace HX := Lib.hid (HX.out.below b121)
                replace HEV := Lib.hid (HEV.out.below rEv_stable b121)
                replace HH := Lib.hid (HH.out.below rHo_stable b121)
                have H8 := Lib.hid h8.row
                clear b121 h8
                clear c0 c1 c2 c3
                have c0 := HX.out.cell 0
                have c1 := HX.out.cell 1
                have c2 := HX.out.cell 2
                have c3 := HX.out.cell 3
                simp at c0 c1 c2 c3
                go_wp2_with fail
                refine (specHoldsOn_any v _ t ⟨id, se, ma, xs⟩ n _ HH.out ⟨_, rfl, HEV.out, HOK.out⟩ hs kn HM.out).mono ?_
                rintro e w122 ⟨v9, rfl, h9, b122⟩
                replace HI := Lib.hid (isRow_afterT HI.out b122)
                replace HB := Lib.hid (HB.out.trans (b122.mono HB.out.size))
                replace HX := Lib.hid (HX.out.below b122)
                replace HEV := Lib.hid (HEV.out.below rEv_stable b122)
                replace HH := Lib.hid (HH.out.below rHo_stable b122)
                replace H8 := Lib.hid (H8.out.below b122)
                have H9 := Lib.hid h9.row
                clear b122 h9
                clear c0 c1 c2 c3
                go_wp2_with (first | (go_at_call 11; refine (vInts_same v8 v9 hs _ H8.out H9.out).mono ?_; rintro e u7 ⟨rfl, b_u7⟩; replace HI := Lib.hid (isRow_afterT HI.out b_u7); replace HB := Lib.hid (HB.out.trans (b_u7.mono HB.out.size)); replace HX := Lib.hid (HX.out.below b_u7); replace HEV := Lib.hid (HEV.out.below rEv_stable b_u7); replace HH := Lib.hid (HH.out.below rHo_stable b_u7); replace H8 := Lib.hid (H8.out.below b_u7); replace H9 := Lib.hid (H9.out.below b_u7); clear b_u7))
                go_ret
                exact ⟨rfl, HB.out⟩

theorem walkHolds (v0 : Value) (x0 : By8) (W : World) (hv0 : ByV W v0 x0) :
    Calls Try.prog 6 #[v0] W fun e w' => e = .returned (.bool true) ∧ Below W.heap.size W w' := by
  obtain ⟨a, len, cap, zs⟩ := x0
  obtain ⟨rfl, hi⟩ := hv0
  exact walkHolds0 a len cap zs W hi
end Go.Proofs.Ytenjajcknmfhfaa
