/- The law FnTrees: whatever the bytes, the call answers true. -/
import Derived.Test.YtpbjddiopfkgbaaDrawAll
import Derived.Test.YtpbjddiopfkgbaaInts
import Derived.Test.YtpbjddiopfkgbaaFindPI
import Derived.Test.YtpbjddiopfkgbaaTreeI
import Derived.Test.YtpbjddiopfkgbaaFrame
import Derived.Lib.QuietBelow
import Derived.Deep.DeepCutAuto
import Derived.Deep.CutBlock
namespace Go.Proofs.Ytpbjddiopfkgbaa
set_option linter.unusedVariables false
open Go.ChangeShapes Go.WideShapes Go.ChangeAt Go.RowKit Go.Sort

theorem rBig_any (a : Option Addr) (len cap : Nat) (w : World) (b : Bool) (hb : decide ((65536 : Int) < (len : Int)) = b) (hl : len ≤ 9223372036854775807) :
    Calls Try.prog 8 #[.slice a len cap] w fun e w' => e = .returned (.bool b) ∧ w = w' := by
  have HB := Lib.hid hb
  clear hb
  go_enter Try.func8, Try.ntmps8
  go_wp2
  go_ret
  exact ⟨ret_bool HB.out, rfl⟩
theorem isRow_len {k : IntKind} {w : World} {a : Option Addr} {len cap : Nat} {zs : List Int} (h : IsRow k w a len cap zs) : len ≤ 9223372036854775807 := by
  rcases h with ⟨rfl, rfl, rfl, rfl⟩ | ⟨x, rfl, hl, hm, _⟩
  · omega
  · unfold maxLen at hm; omega
theorem rInts_same (v1 v2 : Value) (xs : List Int) (w : World) (h1 : RowOf vI w v1 xs) (h2 : RowOf vI w v2 xs) :
    Calls Try.prog 15 #[v1, v2] w fun e w' => e = .returned (.bool true) ∧ Below w.heap.size w w' :=
  (rInts_any v1 v2 xs xs w h1 h2).mono fun e w' ⟨h, b⟩ => ⟨by rw [h, decide_eq_true rfl], b⟩
theorem rInts_grown (v1 v2 : Value) (xs : List Int) (wx : World) (h1 : RowOf vI wx v1 xs) (h2 : RowOf vI wx v2 xs) (d : Nat) (os : Array Obj) :
    Calls Try.prog 15 #[v1, v2] (grow (redrawn wx d) os) fun e w'' => e = .returned (.bool true) ∧ ∃ p : Regrown, w'' = grow (redrawn wx p.d) p.os :=
  Calls.regrown_of (rInts_same v1 v2 xs _ (h1.below (below_regrown wx d os)) (h2.below (below_regrown wx d os)))
theorem RowOf.cutTo {w : World} {a : Option Addr} {n c k : Nat} {xs : List Int} (h : RowOf vI w (.slice a n c) xs) (hk : k ≤ n) : RowOf vI w (.slice a k c) (xs.take k) := by
  obtain ⟨a', cap, e, h1, h2, h3⟩ := h
  cases e
  have hl : (xs.take k).length = k := by rw [List.length_take]; omega
  refine ⟨a, c, by rw [hl], by omega, h2, ?_⟩
  rcases h3 with rfl | ⟨b, off, hb, ha, hc⟩
  · exact .inl (by simp)
  · exact .inr ⟨b, off, hb, ha, fun i hi => by rw [List.getElem_take]; exact hc i (by omega)⟩
theorem RowOf.at_k {w : World} {a : Option Addr} {n c k : Nat} {xs : List Int} (h : RowOf vI w (.slice a n c) xs) (hk : k < xs.length) : ∃ b off, b < w.heap.size ∧ a = some ⟨b, off, none⟩ ∧ w.cell? ⟨b, off + k, none⟩ = some (.int .i64 (xs.getD k 0)) := by
  obtain ⟨a', cap, e, h1, h2, h3⟩ := h
  cases e
  rcases h3 with rfl | ⟨b, off, hb, ha, hc⟩
  · simp at hk
  · exact ⟨b, off, hb, ha, by rw [hc k hk, List.getD_eq_getElem?_getD, List.getElem?_eq_getElem hk]; rfl⟩

set_option maxRecDepth 20000 in
set_option maxHeartbeats 8000000 in
theorem walkTrees (a : Option Addr) (len cap : Nat) (zs : List Int) (W : World) (hi : IsRow .u8 W a len cap zs) :
    Calls Try.prog 3 #[.slice a len cap] W fun e w' => e = .returned (.bool true) ∧ Below W.heap.size W w' := by
  have HI := Lib.hid hi
  have hll := isRow_len hi
  clear hi
  by_cases hbig : 65536 < len
  · go_enter Try.func3, Try.ntmps3
    go_wp2_with fail
    refine (rBig_any a len cap _ true (by simp; omega) hll).mono ?_
    rintro e w' ⟨rfl, rfl⟩
    go_wp2
    go_ret
    exact ⟨rfl, Below.refl _ _⟩
  · go_enter Try.func3, Try.ntmps3
    go_wp2_with fail
    refine (rBig_any a len cap _ false (by simp; omega) hll).mono ?_
    rintro e w' ⟨rfl, rfl⟩
    have HB : Hid (Below W.heap.size W W) := Lib.hid (Below.refl _ _)
    go_wp2_with fail
    refine (drawNamed_any a len cap zs _ HI.out (by omega)).mono ?_
    rintro e w1 ⟨v, t, x, rfl, hx, hn, hsm, ht, b1⟩
    replace HI := Lib.hid (isRow_after HI.out b1)
    replace HB := Lib.hid (HB.out.trans (b1.mono HB.out.size))
    have HT := Lib.hid ht.row
    clear b1 ht
    obtain ⟨ad, cd, hv⟩ := hsm
    subst hv
    obtain ⟨⟨sn, ok⟩, hres⟩ : ∃ z, namRes t x = z := ⟨_, rfl⟩
    have hss := named_small hres
    have hssm : sn.size ≤ maxLen := Nat.le_trans hss (by decide)
    have HRES := Lib.hid hres
    clear hres
    go_wp2_with fail
    refine (implNamedPath_any _ t x _ HT.out sn ok HRES.out).mono ?_
    rintro e w2 ⟨rfl, b2⟩
    replace HI := Lib.hid (isRow_after HI.out b2)
    replace HB := Lib.hid (HB.out.trans (b2.mono HB.out.size))
    replace HT := Lib.hid (HT.out.below rFn_stable b2)
    clear b2
    go_wp2_with fail
    refine (specNamedPath_any _ t x _ HT.out sn ok HRES.out).mono ?_
    rintro e w3 ⟨rfl, b3⟩
    replace HI := Lib.hid (isRow_after HI.out b3)
    replace HB := Lib.hid (HB.out.trans (b3.mono HB.out.size))
    replace HT := Lib.hid (HT.out.below rFn_stable b3)
    clear b3
    obtain ⟨⟨fc, fb⟩, hfp⟩ : ∃ z, fpRes t sn = z := ⟨_, rfl⟩
    have HFP := Lib.hid hfp
    clear hfp
    go_wp2_with fail
    refine (implFindPath_any _ t sn _ HT.out hssm fc fb HFP.out).mono ?_
    rintro e w4 ⟨rfl, b4⟩
    replace HI := Lib.hid (isRow_after HI.out b4)
    replace HB := Lib.hid (HB.out.trans (b4.mono HB.out.size))
    replace HT := Lib.hid (HT.out.below rFn_stable b4)
    clear b4
    go_upto_region 9 with fail
    go_cut [78] from 36 to 271 (fun q wx => q = .bool false ∧ Hid (IsRow .u8 wx a len cap zs) ∧ Hid (Below W.heap.size W wx) ∧ Hid (RowR 3 rFn wx (.slice (some ad) t.length cd) t))
    case first =>
      as_aux_lemma =>
        cases ok
        · go_wp2_with fail
          go_meet
          exact ⟨rfl, HI, HB, HT⟩
        · have hfx := HFP.out.symm.trans (named_found HRES.out)
          obtain ⟨rfl, rfl⟩ := Prod.mk.inj hfx
          clear hfx
          go_wp2_with fail
          go_meet
          exact ⟨rfl, HI, HB, HT⟩
    case rest =>
      clear HI HB HT HFP
      obtain ⟨rfl, HI, HB, HT⟩ := hcut
      obtain ⟨W1, hW1⟩ : ∃ x, x = wc := ⟨_, rfl⟩
      subst hW1
      obtain ⟨⟨us, uk⟩, hun⟩ : ∃ z, undRes t x = z := ⟨_, rfl⟩
      obtain rfl : uk = ok := und_same HRES.out hun
      have HUN := Lib.hid hun
      clear hun
      go_wp2_with fail
      refine (implUnderOf_any _ t x _ HT.out us uk HUN.out).mono ?_
      rintro e w5 ⟨v1, rfl, h1, b5⟩
      replace HI := Lib.hid (isRow_after HI.out b5)
      replace HB := Lib.hid (HB.out.trans (b5.mono HB.out.size))
      replace HT := Lib.hid (HT.out.below rFn_stable b5)
      have H1 := Lib.hid h1.row
      clear b5 h1
      go_wp2_with fail
      refine (specUnderOf_any _ t x _ HT.out us uk HUN.out).mono ?_
      rintro e w6 ⟨v2, rfl, h2, b6⟩
      replace HI := Lib.hid (isRow_after HI.out b6)
      replace HB := Lib.hid (HB.out.trans (b6.mono HB.out.size))
      replace HT := Lib.hid (HT.out.below rFn_stable b6)
      replace H1 := Lib.hid (H1.out.below b6)
      have H2 := Lib.hid h2.row
      clear b6 h2
      go_wp2_with fail
      refine (rInts_same v1 v2 us _ H1.out H2.out).mono ?_
      rintro e w7 ⟨rfl, b7⟩
      replace HI := Lib.hid (isRow_after HI.out b7)
      replace HB := Lib.hid (HB.out.trans (b7.mono HB.out.size))
      replace HT := Lib.hid (HT.out.below rFn_stable b7)
      replace H1 := Lib.hid (H1.out.below b7)
      replace H2 := Lib.hid (H2.out.below b7)
      clear b7
      clear H2
      have HT0 := HT
      have H10 := H1
      clear HT H1
      go_upto_block 0 with fail
      go_cut [15, 16, 17] from 36 to 271 (fun i q r wx => Hid (IsRow .u8 wx a len cap zs) ∧ Hid (Below W.heap.size W wx))
      case first =>
        as_aux_lemma =>
          go_wp2_with fail
          go_loopw [15, 16, 17] (fun i q r wr => ∃ k : Nat, k ≤ t.length ∧ i = .int .i64 k ∧ Hid (IsRow .u8 wr a len cap zs) ∧ Hid (Below W.heap.size W wr) ∧ Hid (RowR 3 rFn wr (.slice (some ad) t.length cd) t) ∧ Hid (RowOf vI wr v1 us)) (fun i _ _ _ => t.length - (intOf i).toNat)
          case atStart => exact ⟨0, Nat.zero_le _, rfl, HI, HB, HT0, H10⟩
          case round =>
            clear HI HB HT0 H10
            obtain ⟨k, hk, rfl, HI, HB, HT, H1⟩ := hrel
            by_cases hlt : k < t.length
            · have g0 : (0 : Int) ≤ (k : Int) := by omega
              have g1 : (k : Int) < (t.length : Int) := by omega
              have g2 : decide ((k : Int) < (t.length : Int)) = true := decide_eq_true g1
              cases uk
              · go_wp2_with fail
                go_meet
                exact ⟨HI, HB⟩
              · obtain ⟨ps, hp1, hiff⟩ := under_path HUN.out hlt
                obtain ⟨aA, cA, eA, _, hmA, rA⟩ := HT.out.fns
                simp only [Value.slice.injEq] at eA
                obtain ⟨rfl, _, rfl⟩ := eA
                obtain ⟨bb, oo, _, had, ee⟩ := rA.resolve_left (fun e => by rw [e] at hlt; simp at hlt)
                have had2 : ad = ⟨bb, oo, none⟩ := Option.some.inj had
                subst had2
                obtain ⟨p0, _, _, _⟩ := ee k hlt
                obtain ⟨y, hy⟩ : ∃ y, (t.getD k fnD).id = y := ⟨_, rfl⟩
                rw [hy] at p0 hp1 hiff
                have HP := Lib.hid hp1
                have hkp : IntKind.i64.wrap ((k : Int) + 1) = (k : Int) + 1 := Go.IntWalk.i64_in _ (by omega)
                clear ee had hp1 hy hmA rA
                go_wp2_with fail
                refine (implPathTo_any _ t y _ HT.out ps true HP.out).mono ?_
                rintro e wa ⟨v3, rfl, h3, ba⟩
                have p1 := cell_kept p0 ba
                have HIa := Lib.hid (isRow_after HI.out ba)
                have HBa := Lib.hid (HB.out.trans (ba.mono HB.out.size))
                have HTa := Lib.hid (HT.out.below rFn_stable ba)
                have H1a := Lib.hid (H1.out.below ba)
                have H3a := Lib.hid h3.row
                have hR := fun W h => rHas_any v1 us y W h
                have hR3 := fun W h => rHas_any v3 ps x W h
                have hbb : decide (y ∈ us) = decide (x ∈ ps) := by rw [Bool.eq_iff_iff, decide_eq_true_eq, decide_eq_true_eq]; exact hiff
                obtain ⟨bh, hbh⟩ : ∃ b, decide (x ∈ ps) = b := ⟨_, rfl⟩
                rw [hbb, hbh] at hR
                rw [hbh] at hR3
                have HR := Lib.hid hR
                have HR3 := Lib.hid hR3
                clear h3 p0 ba hiff hbh hbb hR hR3 HI HB HT H1
                go_wp2_with fail
                refine (HR.out _ H1a.out).mono ?_
                rintro e wb ⟨rfl, bb2⟩
                have HIb := Lib.hid (isRow_after HIa.out bb2)
                have HBb := Lib.hid (HBa.out.trans (bb2.mono HBa.out.size))
                have HTb := Lib.hid (HTa.out.below rFn_stable bb2)
                have H1b := Lib.hid (H1a.out.below bb2)
                have H3b := Lib.hid (H3a.out.below bb2)
                clear bb2 HR HIa HBa HTa H1a H3a
                go_wp2_with fail
                refine (HR3.out _ H3b.out).mono ?_
                rintro e wd ⟨rfl, bb3⟩
                have HId := Lib.hid (isRow_after HIb.out bb3)
                have HBd := Lib.hid (HBb.out.trans (bb3.mono HBb.out.size))
                have HTd := Lib.hid (HTb.out.below rFn_stable bb3)
                have H1d := Lib.hid (H1b.out.below bb3)
                have hne : (bh != bh) = false := by simp
                clear bb3 HR3 HIb HBb HTb H1b H3b
                go_wp2_with fail
                go_roundw
                case rel => exact ⟨k + 1, by omega, by go_num, HId, HBd, HTd, H1d⟩
                case measure => simp [intOf]; omega
            · have g2 : decide ((k : Int) < (t.length : Int)) = false := decide_eq_false (by omega)
              have g3 : ¬ ((k : Int) < (t.length : Int)) := by omega
              go_wp2_with fail
              go_meet
              exact ⟨HI, HB⟩
      case rest =>
        clear HI HB HT0 H10 HRES HUN hn
        obtain ⟨HI, HB⟩ := hcut
        obtain ⟨W3, hW3⟩ : ∃ x, x = wc := ⟨_, rfl⟩
        subst hW3
        go_wp2_with fail
        refine (drawShared_any a len cap zs _ HI.out (by omega)).mono ?_
        rintro e w8 ⟨v, t, x, y, rfl, hx, hy, hn, hsm, ht, b8⟩
        replace HI := Lib.hid (isRow_after HI.out b8)
        replace HB := Lib.hid (HB.out.trans (b8.mono HB.out.size))
        have HT := Lib.hid ht.row
        clear b8 ht hsm
        obtain ⟨⟨sh, ok⟩, hres⟩ : ∃ z, shaRes t x y = z := ⟨_, rfl⟩
        have HRES := Lib.hid hres
        clear hres
        go_wp2_with fail
        refine (implSharedPath_any v t x y _ HT.out sh ok HRES.out).mono ?_
        rintro e w9 ⟨v1, rfl, h1, b9⟩
        replace HI := Lib.hid (isRow_after HI.out b9)
        replace HB := Lib.hid (HB.out.trans (b9.mono HB.out.size))
        replace HT := Lib.hid (HT.out.below rFn_stable b9)
        have H1 := Lib.hid h1.row
        clear b9 h1
        go_wp2_with fail
        refine (specSharedPath_any v t x y _ HT.out sh ok HRES.out).mono ?_
        rintro e w10 ⟨v2, rfl, h2, b10⟩
        replace HI := Lib.hid (isRow_after HI.out b10)
        replace HB := Lib.hid (HB.out.trans (b10.mono HB.out.size))
        replace HT := Lib.hid (HT.out.below rFn_stable b10)
        replace H1 := Lib.hid (H1.out.below b10)
        have H2 := Lib.hid h2.row
        clear b10 h2
        go_wp2_with fail
        refine (rInts_same v1 v2 sh _ H1.out H2.out).mono ?_
        rintro e w11 ⟨rfl, b11⟩
        replace HI := Lib.hid (isRow_after HI.out b11)
        replace HB := Lib.hid (HB.out.trans (b11.mono HB.out.size))
        replace HT := Lib.hid (HT.out.below rFn_stable b11)
        replace H1 := Lib.hid (H1.out.below b11)
        replace H2 := Lib.hid (H2.out.below b11)
        clear b11
        clear H2
        go_upto_if 168 with fail
        go_cut [25, 26, 27, 28, 29] from 36 to 271 (fun q r q2 r2 kk wx => Hid (IsRow .u8 wx a len cap zs) ∧ Hid (Below W.heap.size W wx))
        case first =>
          as_aux_lemma =>
            cases ok
            · go_wp2_with fail
              go_meet
              exact ⟨HI, HB⟩
            · obtain ⟨ps, qs, hp1, hp2, hl1, hl2, ht1, ht2, hne⟩ := shared_path HRES.out
              have HP1 := Lib.hid hp1
              have HP2 := Lib.hid hp2
              have HT1 := Lib.hid ht1
              have HT2 := Lib.hid ht2
              have HNE := Lib.hid hne
              clear hp1 hp2 ht1 ht2 hne
              go_wp2_with fail
              refine (implPathTo_any v t x _ HT.out ps true HP1.out).mono ?_
              rintro e w12 ⟨v3, rfl, h3, b12⟩
              replace HI := Lib.hid (isRow_after HI.out b12)
              replace HB := Lib.hid (HB.out.trans (b12.mono HB.out.size))
              replace HT := Lib.hid (HT.out.below rFn_stable b12)
              replace H1 := Lib.hid (H1.out.below b12)
              have H3 := Lib.hid h3.row
              clear b12 h3
              go_wp2_with fail
              refine (implPathTo_any v t y _ HT.out qs true HP2.out).mono ?_
              rintro e w13 ⟨v4, rfl, h4, b13⟩
              replace HI := Lib.hid (isRow_after HI.out b13)
              replace HB := Lib.hid (HB.out.trans (b13.mono HB.out.size))
              replace HT := Lib.hid (HT.out.below rFn_stable b13)
              replace H1 := Lib.hid (H1.out.below b13)
              replace H3 := Lib.hid (H3.out.below b13)
              have H4 := Lib.hid h4.row
              clear b13 h4
              obtain ⟨a1, c1, e1, _, m1, _⟩ := H1.out
              obtain ⟨a3, c3, e3, l3, m3, _⟩ := H3.out
              obtain ⟨a4, c4, e4, l4, m4, _⟩ := H4.out
              subst e1 e3 e4
              have h5 := H3.out.cutTo hl1
              rw [HT1.out] at h5
              have h6 := H4.out.cutTo hl2
              rw [HT2.out] at h6
              have c5 := rInts_grown _ _ sh w13 h5 H1.out
              have c6 := rInts_grown _ _ sh w13 h6 H1.out
              obtain ⟨K, hK⟩ : ∃ K, sh.length = K := ⟨_, rfl⟩
              rw [hK] at hl1 hl2 c5 c6
              have HNE2 : Hid (K < ps.length → K < qs.length → ps.getD K 0 ≠ qs.getD K 0) := Lib.hid (by rw [← hK]; exact HNE.out)
              rw [hK]
              have HKK := Lib.hid hK
              have i0 : (0 : Int) ≤ (K : Int) := by omega
              have i1 : (K : Int) ≤ (ps.length : Int) := by omega
              have i2 : (K : Int) ≤ (qs.length : Int) := by omega
              have i3 : decide ((ps.length : Int) < (K : Int)) = false := decide_eq_false (by omega)
              have i4 : decide ((qs.length : Int) < (K : Int)) = false := decide_eq_false (by omega)
              have n3 : decide (ps.length < K) = false := decide_eq_false (by omega)
              have n4 : decide (qs.length < K) = false := decide_eq_false (by omega)
              have i5 : ¬ ((ps.length : Int) < (K : Int)) := by omega
              have i6 : ¬ ((qs.length : Int) < (K : Int)) := by omega
              have i7 : (K : Int) ≤ (c3 : Int) := by omega
              have i8 : (K : Int) ≤ (c4 : Int) := by omega
              have i9 : K ≤ c3 := by omega
              have i10 : K ≤ c4 := by omega
              unfold maxLen at m1 m3 m4
              clear hK HNE HT1 HT2 HP1 HP2 h5 h6
              by_cases q1 : K < ps.length
              · have d1 : decide ((K : Int) < (ps.length : Int)) = true := decide_eq_true (by omega)
                have r1 : (K : Int) < (ps.length : Int) := by omega
                have m1' : decide (K < ps.length) = true := decide_eq_true q1
                by_cases q2 : K < qs.length
                · have d2 : decide ((K : Int) < (qs.length : Int)) = true := decide_eq_true (by omega)
                  have r2 : (K : Int) < (qs.length : Int) := by omega
                  have m2' : decide (K < qs.length) = true := decide_eq_true q2
                  obtain ⟨f3, o3, _, rfl, z3⟩ := H3.out.at_k q1
                  obtain ⟨f4, o4, _, rfl, z4⟩ := H4.out.at_k q2
                  have hpq := HNE2.out q1 q2
                  obtain ⟨p, hp⟩ : ∃ p, ps.getD K 0 = p := ⟨_, rfl⟩
                  obtain ⟨q, hq⟩ : ∃ q, qs.getD K 0 = q := ⟨_, rfl⟩
                  rw [hp] at z3 hpq
                  rw [hq] at z4 hpq
                  have hpq2 : (p == q) = false := by simp [hpq]
                  have hpq3 : decide (p = q) = false := decide_eq_false hpq
                  have k3 := cell_regrown z3
                  have k4 := cell_regrown z4
                  clear hp hq
                  go_upto_region 30 with fail
                  refine wp_region_quiet_below (by kernel_rfl) (by kernel_rfl) ?_
                  repeat (go_big_quiet_step (first | with_reducible exact c5 _ _ | with_reducible exact c6 _ _))
                  refine wpQuiet_nil ?_
                  intro _ hw'
                  obtain ⟨⟨dq, osq⟩, hw''⟩ := hw'
                  subst hw''
                  have bq := below_regrown w13 dq osq
                  have HIq := Lib.hid (isRow_after HI.out bq)
                  have HBq := Lib.hid (HB.out.trans (bq.mono HB.out.size))
                  generalize grow (redrawn w13 dq) osq = wz at bq HIq HBq ⊢
                  go_wp2_with fail
                  have hkk := HKK.out
                  subst hkk
                  go_meet
                  exact ⟨HIq, HBq⟩
                · have d2 : decide ((K : Int) < (qs.length : Int)) = false := decide_eq_false (by omega)
                  have r2 : ¬ ((K : Int) < (qs.length : Int)) := by omega
                  have m2' : decide (K < qs.length) = false := decide_eq_false q2
                  go_upto_region 30 with fail
                  refine wp_region_quiet_below (by kernel_rfl) (by kernel_rfl) ?_
                  repeat (go_big_quiet_step (first | with_reducible exact c5 _ _ | with_reducible exact c6 _ _))
                  refine wpQuiet_nil ?_
                  intro _ hw'
                  obtain ⟨⟨dq, osq⟩, hw''⟩ := hw'
                  subst hw''
                  have bq := below_regrown w13 dq osq
                  have HIq := Lib.hid (isRow_after HI.out bq)
                  have HBq := Lib.hid (HB.out.trans (bq.mono HB.out.size))
                  generalize grow (redrawn w13 dq) osq = wz at bq HIq HBq ⊢
                  go_wp2_with fail
                  have hkk := HKK.out
                  subst hkk
                  go_meet
                  exact ⟨HIq, HBq⟩
              · have d1 : decide ((K : Int) < (ps.length : Int)) = false := decide_eq_false (by omega)
                have r1 : ¬ ((K : Int) < (ps.length : Int)) := by omega
                have m1' : decide (K < ps.length) = false := decide_eq_false q1
                go_upto_region 30 with fail
                refine wp_region_quiet_below (by kernel_rfl) (by kernel_rfl) ?_
                repeat (go_big_quiet_step (first | with_reducible exact c5 _ _ | with_reducible exact c6 _ _))
                refine wpQuiet_nil ?_
                intro _ hw'
                obtain ⟨⟨dq, osq⟩, hw''⟩ := hw'
                subst hw''
                have bq := below_regrown w13 dq osq
                have HIq := Lib.hid (isRow_after HI.out bq)
                have HBq := Lib.hid (HB.out.trans (bq.mono HB.out.size))
                generalize grow (redrawn w13 dq) osq = wz at bq HIq HBq ⊢
                go_wp2_with fail
                have hkk := HKK.out
                subst hkk
                go_meet
                exact ⟨HIq, HBq⟩
        case rest =>
          clear HI HB HT H1 HRES hx hy hn
          obtain ⟨HI, HB⟩ := hcut
          obtain ⟨W4, hW4⟩ : ∃ x, x = wc := ⟨_, rfl⟩
          subst hW4
          go_wp2_with fail
          refine (drawFind_any a len cap zs _ HI.out (by omega)).mono ?_
          rintro e w14 ⟨v, t, sn, rfl, hs, hn, hsm, ht, b14⟩
          replace HI := Lib.hid (isRow_after HI.out b14)
          replace HB := Lib.hid (HB.out.trans (b14.mono HB.out.size))
          have HT := Lib.hid ht.row
          clear b14 ht hsm
          obtain ⟨⟨fc, fb⟩, hfp⟩ : ∃ z, fpRes t sn = z := ⟨_, rfl⟩
          have hssm : sn.size ≤ maxLen := Nat.le_trans hs (by decide)
          have HFP := Lib.hid hfp
          clear hfp
          go_wp2_with fail
          refine (implFindPath_any _ t sn _ HT.out hssm fc fb HFP.out).mono ?_
          rintro e w15 ⟨rfl, b15⟩
          replace HI := Lib.hid (isRow_after HI.out b15)
          replace HB := Lib.hid (HB.out.trans (b15.mono HB.out.size))
          replace HT := Lib.hid (HT.out.below rFn_stable b15)
          clear b15
          go_wp2_with fail
          refine (specFindPath_any _ t sn _ HT.out fc fb HFP.out).mono ?_
          rintro e w16 ⟨rfl, b16⟩
          replace HI := Lib.hid (isRow_after HI.out b16)
          replace HB := Lib.hid (HB.out.trans (b16.mono HB.out.size))
          replace HT := Lib.hid (HT.out.below rFn_stable b16)
          clear b16
          obtain ⟨bt, hbt⟩ : ∃ b, isTree t = b := ⟨_, rfl⟩
          have HBT := Lib.hid hbt
          clear hbt
          go_wp2_with fail
          refine (implIsTree_any _ t _ HT.out).mono ?_
          rintro e w17 ⟨rfl, b17⟩
          replace HI := Lib.hid (isRow_after HI.out b17)
          replace HB := Lib.hid (HB.out.trans (b17.mono HB.out.size))
          replace HT := Lib.hid (HT.out.below rFn_stable b17)
          clear b17
          rw [HBT.out]
          go_wp2_with fail
          refine (specIsTree_any _ t _ HT.out).mono ?_
          rintro e w18 ⟨rfl, b18⟩
          replace HI := Lib.hid (isRow_after HI.out b18)
          replace HB := Lib.hid (HB.out.trans (b18.mono HB.out.size))
          replace HT := Lib.hid (HT.out.below rFn_stable b18)
          clear b18
          rw [HBT.out]
          go_wp2_with fail
          go_ret
          exact ⟨ret_bool (by simp), HB.out⟩

set_option maxRecDepth 100000 in
theorem fnTrees_lifted (os : Os) (started : os.Started) (H : Type) (enc : TypeId × Value → H) :
    ReturnsInHanded {} Try.checked os 3 .any (Rows.fnTreesSpec.pre6 enc Try.prog Try.f3 Rows.fnTreesRow.domain false) (Rows.fnTreesSpec.post enc Try.prog Try.f3 false true false false) := by
  refine returnsInHanded_of_change (C := Try.checked) Try.own started (by kernel_rfl) Try.func3
    (ChangeSpec.witness6 (enc := enc) (C := Try.checked) false ⟨#[], #[.slice none 0 0], []⟩ 8 (by kernel_rfl) (by kernel_rfl) (by kernel_rfl) (by kernel_rfl)) ?_
  intro W base args ds gs before hval0 hW hcnd _
  have hval : ∀ (j : Nat) t v, Try.f3.params[j]? = some t → args[j]? = some v → Value.okWide Try.prog W .any base t v := hval0
  have hW' := hW
  obtain ⟨p, q, hA0, hV, rfl, hfz, hnd⟩ := hW
  have hA : DataW.TrodAll enc Try.prog W 0 (fun _ => true) true Try.f3.params.toList args.toList ds p := hA0
  rw [Try.params3] at hA hval
  obtain ⟨v0, vs0, d0, ds0, p0, q0, hargs, rfl, rfl, h0, r0⟩ := trodAll_cons hA
  obtain ⟨rfl, rfl, rfl⟩ := trodAll_nil r0
  obtain rfl : args = #[v0] := by cases args; simp_all
  obtain ⟨rfl, rfl⟩ := trodVars_none hV
  obtain ⟨a0, len0, cap0, rfl⟩ := okWide_slice Try.underlying22 (hval 0 22 v0 rfl rfl)
  have k0 := h0
  have lt0 : ∀ x ∈ p0, x.block < W.heap.size := by obtain ⟨m, hm⟩ := k0; exact DataW.trod_lt m _ _ _ hm
  obtain ⟨z0, w0⟩ : ∃ zs, IsRow .u8 W a0 len0 cap0 zs := by
    obtain ⟨fuel, hf⟩ := h0
    rcases open_ints Try.underlying22 Try.underlying5 (by kernel_rfl) hf with ⟨hcs, _⟩ | ⟨x, l, c, zs, hcs, _, hl, hm, hz, _, hcell, hwz⟩
    · simp [Value.cells] at hcs
      obtain ⟨rfl, rfl, rfl⟩ := hcs
      exact ⟨[], .inl ⟨rfl, rfl, rfl, rfl⟩⟩
    · simp [Value.cells] at hcs
      obtain ⟨rfl, rfl, rfl⟩ := hcs
      exact ⟨zs, .inr ⟨_, rfl, hl, hm, by simpa using hz, hcell, hwz⟩⟩
  clear hA0 hval0
  refine (walkTrees a0 len0 cap0 z0 W w0).mono fun e W' ⟨he, bel⟩ => ?_
  subst he
  exact ⟨_, rfl, _, _, _, [], _, [], hW', trodAll_mk1 (shut_bool Try.underlying4 _), (trodAll_cons_mk (Below.trod Try.laidOut (by kernel_rfl) (of_decide_eq_true (by kernel_rfl)) k0 bel lt0) trodAll_mk0), rfl, bel.frame _, fun h => by cases h⟩

/-- THE STATEMENT. -/
theorem fnTrees_proved : Rows.FnTreesSaid :=
  OpenClaim.holds_of_wide 3 Try.f3 rfl rfl rfl rfl rfl rfl rfl ⟨rfl, rfl, rfl, rfl, rfl⟩ rfl rfl rfl rfl rfl (by kernel_rfl) Try.func3 (by kernel_rfl)
    (of_decide_eq_true (by kernel_rfl)) (by unfold Func.isWrapper; first | (rw [if_pos (by decide +kernel)]; kernel_rfl) | (rw [if_neg (by decide +kernel)]; exact ⟨rfl, rfl⟩))
    (fun os started H enc _ => fnTrees_lifted os started H enc)
end Go.Proofs.Ytpbjddiopfkgbaa
