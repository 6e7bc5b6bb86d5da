/- The law FnFiles: whatever the bytes, the call answers true. No condition. -/
import Derived.Test.YtpbjddiopfkgbaaDoorDrawFi2
import Derived.Test.YtpbjddiopfkgbaaDoorReadF
import Derived.Test.YtpbjddiopfkgbaaDoorFilesM
import Derived.Test.YtpbjddiopfkgbaaDoorSinceI
import Derived.Test.YtpbjddiopfkgbaaDoorFiC
import Derived.Test.YtpbjddiopfkgbaaDoorDayFi
import Derived.Test.YtpbjddiopfkgbaaDoorArgBytes
import Derived.Test.YtpbjddiopfkgbaaDoorFrame
import Derived.Test.YtpbjddiopfkgbaaDoorCards
import Derived.Test.YtpbjddiopfkgbaaDoorTie
import Derived.Test.YtpbjddiopfkgbaaDoorStepTab
import Derived.Deep.DeepHandedRow
import Derived.ProofKit
import Derived.Lib.QuietBelow
import Derived.Deep.DeepCutAuto
import Derived.Deep.CutBlock
namespace Go.Proofs.YtpbjddiopfkgbaaDoor
set_option linter.unusedVariables false
open Go.ChangeShapes Go.WideShapes Go.ChangeAt Go.RowKit Go.Sort

theorem implFi_grown (x : Fi) (b : Bool) (hb : isFi x = b) (hs : x.title.size ≤ maxLen) (wx : World) (d : Nat) (os : Array Obj) :
    Calls Tryd.prog 27 #[.agg #[.int .i64 x.id, .int .i64 x.series, .string x.title, .int .i64 x.opened, .int .i64 x.closed, .int .i64 x.state, .int .i64 x.pages]] (grow (redrawn wx d) os) fun e w'' => e = .returned (.bool b) ∧ ∃ p : Regrown, w'' = grow (redrawn wx p.d) p.os := by
  subst hb
  exact Calls.regrown_of (implFi_any x _ hs)
theorem specFi_grown (x : Fi) (b : Bool) (hb : isFi x = b) (hs : x.title.size ≤ maxLen) (wx : World) (d : Nat) (os : Array Obj) :
    Calls Tryd.prog 28 #[.agg #[.int .i64 x.id, .int .i64 x.series, .string x.title, .int .i64 x.opened, .int .i64 x.closed, .int .i64 x.state, .int .i64 x.pages]] (grow (redrawn wx d) os) fun e w'' => e = .returned (.bool b) ∧ ∃ p : Regrown, w'' = grow (redrawn wx p.d) p.os := by
  subst hb
  exact Calls.regrown_of (specIsFile_any x _ hs)

set_option maxRecDepth 20000 in
set_option maxHeartbeats 8000000 in
theorem walkFiles (v0 : Value) (x0 : By8) (W : World) (hv0 : ByV W v0 x0) (hE : Steps W) :
    Calls Tryd.prog 3 #[v0] W fun e w' => e = .returned (.bool true) ∧ Below W.heap.size W w' := by
  obtain ⟨a, len, cap, zs⟩ := x0
  obtain ⟨rfl, hi⟩ := hv0
  simp only at hi ⊢
  have HI := Lib.hid hi
  have HE := Lib.hid hE
  have hll := isRow_len hi
  clear hi hE
  by_cases hbig : 65536 < len
  · go_enter Tryd.func3, Tryd.ntmps3
    go_wp2_with fail
    refine (rBig_any a len cap _ true (by simp; omega) hll).mono ?_
    rintro e w' ⟨rfl, rfl⟩
    go_wp2
    go_ret
    exact ⟨rfl, Below.refl _ _⟩
  · go_enter Tryd.func3, Tryd.ntmps3
    go_wp2_with fail
    refine (rBig_any a len cap _ false (by simp; omega) hll).mono ?_
    rintro e w' ⟨rfl, rfl⟩
    have HB : Hid (Below W.heap.size W W) := Lib.hid (Below.refl _ _)
    go_wp2_with fail
    refine (drawClose_any a len cap zs _ HI.out (by omega)).mono ?_
    rintro e w1 ⟨v, t, x, d, rfl, hx, hd, ⟨hn, hsm, ht, b1⟩⟩
    replace HI := Lib.hid (isRow_afterF HI.out b1)
    replace HB := Lib.hid (HB.out.trans (b1.mono HB.out.size))
    replace HE := Lib.hid (HE.out.later b1)
    have HT := Lib.hid ht.row
    clear b1 ht hsm
    obtain ⟨⟨xs, ok⟩, hres⟩ : ∃ z, cloRes t x d = z := ⟨_, rfl⟩
    have HRES := Lib.hid hres
    clear hres
    go_wp2_with fail
    refine (implCloseFile_any v t x d _ HT.out HE.out hd xs ok HRES.out).mono ?_
    rintro e w2 ⟨v1, rfl, h1, b2⟩
    replace HI := Lib.hid (isRow_afterF HI.out b2)
    replace HB := Lib.hid (HB.out.trans (b2.mono HB.out.size))
    replace HE := Lib.hid (HE.out.later b2)
    replace HT := Lib.hid (HT.out.below rFi_stable b2)
    have H1 := Lib.hid h1.row
    clear b2 h1
    go_wp2_with fail
    refine (specCloseFile_any v t x d _ HT.out hd xs ok HRES.out).mono ?_
    rintro e w3 ⟨v2, rfl, h2, b3⟩
    replace HI := Lib.hid (isRow_afterF HI.out b3)
    replace HB := Lib.hid (HB.out.trans (b3.mono HB.out.size))
    replace HE := Lib.hid (HE.out.later b3)
    replace HT := Lib.hid (HT.out.below rFi_stable b3)
    replace H1 := Lib.hid (H1.out.below rFi_stable b3)
    have H2 := Lib.hid h2.row
    clear b3 h2
    go_wp2_with fail
    refine (rFiles_same v1 v2 xs _ H1.out H2.out).mono ?_
    rintro e w4 ⟨rfl, b4⟩
    replace HI := Lib.hid (isRow_afterF HI.out b4)
    replace HB := Lib.hid (HB.out.trans (b4.mono HB.out.size))
    replace HE := Lib.hid (HE.out.later b4)
    replace HT := Lib.hid (HT.out.below rFi_stable b4)
    replace H1 := Lib.hid (H1.out.below rFi_stable b4)
    replace H2 := Lib.hid (H2.out.below rFi_stable b4)
    clear b4
    clear H2
    go_upto_if 68 with fail
    go_cut [10, 11, 12, 13] from 37 to 213 (fun q r q2 r2 wx => Hid (IsRow .u8 wx a len cap zs) ∧ Hid (Below W.heap.size W wx) ∧ Hid (Steps wx))
    case first =>
      as_aux_lemma =>
        cases ok
        · go_wp2_with fail
          go_meet
          exact ⟨HI, HB, HE⟩
        · have HG := Lib.hid (clo_back HRES.out)
          obtain ⟨zz, hz1, hz2⟩ := clo_since HRES.out
          have HZ := Lib.hid hz1
          have HZ2 := Lib.hid (decide_eq_true hz2)
          clear hz1 hz2
          go_wp2_with fail
          refine (implReopenFile_any v1 xs x _ H1.out HE.out t true HG.out).mono ?_
          rintro e w5 ⟨v3, rfl, h3, b5⟩
          replace HI := Lib.hid (isRow_afterF HI.out b5)
          replace HB := Lib.hid (HB.out.trans (b5.mono HB.out.size))
          replace HE := Lib.hid (HE.out.later b5)
          replace HT := Lib.hid (HT.out.below rFi_stable b5)
          replace H1 := Lib.hid (H1.out.below rFi_stable b5)
          have H3 := Lib.hid h3.row
          clear b5 h3
          go_wp2_with fail
          refine (implClosedSince_any v1 xs d d _ H1.out zz true HZ.out).mono ?_
          rintro e w6 ⟨v4, rfl, h4, b6⟩
          replace HI := Lib.hid (isRow_afterF HI.out b6)
          replace HB := Lib.hid (HB.out.trans (b6.mono HB.out.size))
          replace HE := Lib.hid (HE.out.later b6)
          replace HT := Lib.hid (HT.out.below rFi_stable b6)
          replace H1 := Lib.hid (H1.out.below rFi_stable b6)
          replace H3 := Lib.hid (H3.out.below rFi_stable b6)
          have H4 := Lib.hid h4.row
          clear b6 h4
          go_wp2_with fail
          refine (rFiles_same v3 v t _ H3.out HT.out).mono ?_
          rintro e w7 ⟨rfl, b7⟩
          replace HI := Lib.hid (isRow_afterF HI.out b7)
          replace HB := Lib.hid (HB.out.trans (b7.mono HB.out.size))
          replace HE := Lib.hid (HE.out.later b7)
          replace HT := Lib.hid (HT.out.below rFi_stable b7)
          replace H1 := Lib.hid (H1.out.below rFi_stable b7)
          replace H3 := Lib.hid (H3.out.below rFi_stable b7)
          replace H4 := Lib.hid (H4.out.below b7)
          clear b7
          go_wp2_with fail
          refine (rHas_any v4 zz x _ H4.out).mono ?_
          rintro e w8 ⟨rfl, b8⟩
          replace HI := Lib.hid (isRow_afterF HI.out b8)
          replace HB := Lib.hid (HB.out.trans (b8.mono HB.out.size))
          replace HE := Lib.hid (HE.out.later b8)
          replace HT := Lib.hid (HT.out.below rFi_stable b8)
          replace H1 := Lib.hid (H1.out.below rFi_stable b8)
          replace H3 := Lib.hid (H3.out.below rFi_stable b8)
          replace H4 := Lib.hid (H4.out.below b8)
          clear b8
          rw [HZ2.out]
          go_wp2_with fail
          go_meet
          exact ⟨HI, HB, HE⟩
    case rest =>
      clear HI HB HE HT H1 HRES hn hx hd
      obtain ⟨HI, HB, HE⟩ := hcut
      obtain ⟨W1, hW1⟩ : ∃ x, x = wc := ⟨_, rfl⟩
      subst hW1
      go_wp2_with fail
      refine (drawLend_any a len cap zs _ HI.out (by omega)).mono ?_
      rintro e w11 ⟨v, t, x, c, rfl, hx, ⟨hn, hsm, ht, b11⟩⟩
      replace HI := Lib.hid (isRow_afterF HI.out b11)
      replace HB := Lib.hid (HB.out.trans (b11.mono HB.out.size))
      replace HE := Lib.hid (HE.out.later b11)
      have HT := Lib.hid ht.row
      clear b11 ht hsm
      obtain ⟨⟨xs, ok⟩, hres⟩ : ∃ z, lenRes t x c = z := ⟨_, rfl⟩
      have HRES := Lib.hid hres
      clear hres
      go_wp2_with fail
      refine (implLendFile_any v t x c _ HT.out HE.out xs ok HRES.out).mono ?_
      rintro e w12 ⟨v1, rfl, h1, b12⟩
      replace HI := Lib.hid (isRow_afterF HI.out b12)
      replace HB := Lib.hid (HB.out.trans (b12.mono HB.out.size))
      replace HE := Lib.hid (HE.out.later b12)
      replace HT := Lib.hid (HT.out.below rFi_stable b12)
      have H1 := Lib.hid h1.row
      clear b12 h1
      go_wp2_with fail
      refine (specLendFile_any v t x c _ HT.out xs ok HRES.out).mono ?_
      rintro e w13 ⟨v2, rfl, h2, b13⟩
      replace HI := Lib.hid (isRow_afterF HI.out b13)
      replace HB := Lib.hid (HB.out.trans (b13.mono HB.out.size))
      replace HE := Lib.hid (HE.out.later b13)
      replace HT := Lib.hid (HT.out.below rFi_stable b13)
      replace H1 := Lib.hid (H1.out.below rFi_stable b13)
      have H2 := Lib.hid h2.row
      clear b13 h2
      go_wp2_with fail
      refine (rFiles_same v1 v2 xs _ H1.out H2.out).mono ?_
      rintro e w14 ⟨rfl, b14⟩
      replace HI := Lib.hid (isRow_afterF HI.out b14)
      replace HB := Lib.hid (HB.out.trans (b14.mono HB.out.size))
      replace HE := Lib.hid (HE.out.later b14)
      replace HT := Lib.hid (HT.out.below rFi_stable b14)
      replace H1 := Lib.hid (H1.out.below rFi_stable b14)
      replace H2 := Lib.hid (H2.out.below rFi_stable b14)
      clear b14
      clear H2
      go_upto_if 129 with fail
      go_cut [21, 22] from 37 to 213 (fun q r wx => Hid (IsRow .u8 wx a len cap zs) ∧ Hid (Below W.heap.size W wx) ∧ Hid (Steps wx))
      case first =>
        as_aux_lemma =>
          cases ok
          · go_wp2_with fail
            go_meet
            exact ⟨HI, HB, HE⟩
          · have HG := Lib.hid (len_back HRES.out)
            go_wp2_with fail
            refine (implLendFile_any v1 xs x (!c) _ H1.out HE.out t true HG.out).mono ?_
            rintro e w15 ⟨v3, rfl, h3, b15⟩
            replace HI := Lib.hid (isRow_afterF HI.out b15)
            replace HB := Lib.hid (HB.out.trans (b15.mono HB.out.size))
            replace HE := Lib.hid (HE.out.later b15)
            replace HT := Lib.hid (HT.out.below rFi_stable b15)
            replace H1 := Lib.hid (H1.out.below rFi_stable b15)
            have H3 := Lib.hid h3.row
            clear b15 h3
            go_wp2_with fail
            refine (rFiles_same v3 v t _ H3.out HT.out).mono ?_
            rintro e w16 ⟨rfl, b16⟩
            replace HI := Lib.hid (isRow_afterF HI.out b16)
            replace HB := Lib.hid (HB.out.trans (b16.mono HB.out.size))
            replace HE := Lib.hid (HE.out.later b16)
            replace HT := Lib.hid (HT.out.below rFi_stable b16)
            replace H1 := Lib.hid (H1.out.below rFi_stable b16)
            replace H3 := Lib.hid (H3.out.below rFi_stable b16)
            clear b16
            go_wp2_with fail
            go_meet
            exact ⟨HI, HB, HE⟩
      case rest =>
        clear HI HB HE HT H1 HRES hn hx
        obtain ⟨HI, HB, HE⟩ := hcut
        obtain ⟨W2, hW2⟩ : ∃ x, x = wc := ⟨_, rfl⟩
        subst hW2
        go_wp2_with fail
        refine (drawReopen_any a len cap zs _ HI.out (by omega)).mono ?_
        rintro e w19 ⟨v, t, x, rfl, hx, ⟨hn, hsm, ht, b19⟩⟩
        replace HI := Lib.hid (isRow_afterF HI.out b19)
        replace HB := Lib.hid (HB.out.trans (b19.mono HB.out.size))
        replace HE := Lib.hid (HE.out.later b19)
        have HT := Lib.hid ht.row
        clear b19 ht hsm
        obtain ⟨⟨xs, ok⟩, hres⟩ : ∃ z, reoRes t x = z := ⟨_, rfl⟩
        have HRES := Lib.hid hres
        clear hres
        go_wp2_with fail
        refine (implReopenFile_any v t x _ HT.out HE.out xs ok HRES.out).mono ?_
        rintro e w20 ⟨v1, rfl, h1, b20⟩
        replace HI := Lib.hid (isRow_afterF HI.out b20)
        replace HB := Lib.hid (HB.out.trans (b20.mono HB.out.size))
        replace HE := Lib.hid (HE.out.later b20)
        replace HT := Lib.hid (HT.out.below rFi_stable b20)
        have H1 := Lib.hid h1.row
        clear b20 h1
        go_wp2_with fail
        refine (specReopenFile_any v t x _ HT.out xs ok HRES.out).mono ?_
        rintro e w21 ⟨v2, rfl, h2, b21⟩
        replace HI := Lib.hid (isRow_afterF HI.out b21)
        replace HB := Lib.hid (HB.out.trans (b21.mono HB.out.size))
        replace HE := Lib.hid (HE.out.later b21)
        replace HT := Lib.hid (HT.out.below rFi_stable b21)
        replace H1 := Lib.hid (H1.out.below rFi_stable b21)
        have H2 := Lib.hid h2.row
        clear b21 h2
        go_wp2_with fail
        refine (rFiles_same v1 v2 xs _ H1.out H2.out).mono ?_
        rintro e w22 ⟨rfl, b22⟩
        replace HI := Lib.hid (isRow_afterF HI.out b22)
        replace HB := Lib.hid (HB.out.trans (b22.mono HB.out.size))
        replace HE := Lib.hid (HE.out.later b22)
        replace HT := Lib.hid (HT.out.below rFi_stable b22)
        replace H1 := Lib.hid (H1.out.below rFi_stable b22)
        replace H2 := Lib.hid (H2.out.below rFi_stable b22)
        clear b22
        clear H1 H2 HT HRES hn hx
        go_wp2_with fail
        refine (drawDays_any a len cap zs _ HI.out (by omega)).mono ?_
        rintro e w23 ⟨v5, t5, x5, d5, rfl, hx5, hd5, ⟨hn5, hsm5, ht5, b23⟩⟩
        replace HI := Lib.hid (isRow_afterF HI.out b23)
        replace HB := Lib.hid (HB.out.trans (b23.mono HB.out.size))
        replace HE := Lib.hid (HE.out.later b23)
        have HT5 := Lib.hid ht5.row
        clear b23 ht5 hsm5
        obtain ⟨⟨n, kn⟩, hres5⟩ : ∃ z, dayRes t5 x5 d5 = z := ⟨_, rfl⟩
        have HRES5 := Lib.hid hres5
        clear hres5
        go_wp2_with fail
        refine (implDaysOpen_any v5 t5 x5 d5 _ HT5.out n kn HRES5.out).mono ?_
        rintro e w24 ⟨rfl, b24⟩
        replace HI := Lib.hid (isRow_afterF HI.out b24)
        replace HB := Lib.hid (HB.out.trans (b24.mono HB.out.size))
        replace HE := Lib.hid (HE.out.later b24)
        replace HT5 := Lib.hid (HT5.out.below rFi_stable b24)
        clear b24
        go_wp2_with fail
        refine (specDaysOpen_any v5 t5 x5 d5 _ HT5.out n kn HRES5.out).mono ?_
        rintro e w25 ⟨rfl, b25⟩
        replace HI := Lib.hid (isRow_afterF HI.out b25)
        replace HB := Lib.hid (HB.out.trans (b25.mono HB.out.size))
        replace HE := Lib.hid (HE.out.later b25)
        replace HT5 := Lib.hid (HT5.out.below rFi_stable b25)
        clear b25
        go_upto_region 30 with fail
        go_cut [206] from 37 to 213 (fun q wx => q = .bool false ∧ Hid (IsRow .u8 wx a len cap zs) ∧ Hid (Below W.heap.size W wx) ∧ Hid (Steps wx))
        case first =>
          as_aux_lemma =>
            have hnn : (n != n) = false := by simp
            have hkk : (kn != kn) = false := by simp
            cases kn
            · go_wp2_with fail
              go_meet
              exact ⟨rfl, HI, HB, HE⟩
            · have hp := day_pos HRES5.out
              have hp2 : decide (n < 1) = false := decide_eq_false (by omega)
              have hp3 : ¬ n < 1 := by omega
              go_wp2_with fail
              go_meet
              exact ⟨rfl, HI, HB, HE⟩
        case rest =>
          clear HI HB HE HT5 HRES5 hn5 hx5 hd5
          obtain ⟨rfl, HI, HB, HE⟩ := hcut
          obtain ⟨W3, hW3⟩ : ∃ x, x = wc := ⟨_, rfl⟩
          subst hW3
          go_wp2_with fail
          refine (drawIsFile_any a len cap zs _ HI.out (by omega)).mono ?_
          rintro e w26 ⟨⟨x0, x1, x2, x3, x4, x5, x6⟩, rfl, hok, b26⟩
          replace HI := Lib.hid (isRow_afterF HI.out b26)
          replace HB := Lib.hid (HB.out.trans (b26.mono HB.out.size))
          replace HE := Lib.hid (HE.out.later b26)
          clear b26
          have f0 := cell_new w26 #[.int .i64 x0, .int .i64 x1, .string x2, .int .i64 x3, .int .i64 x4, .int .i64 x5, .int .i64 x6] 43 0 rfl
          have f1 := cell_new w26 #[.int .i64 x0, .int .i64 x1, .string x2, .int .i64 x3, .int .i64 x4, .int .i64 x5, .int .i64 x6] 43 1 rfl
          have f2 := cell_new w26 #[.int .i64 x0, .int .i64 x1, .string x2, .int .i64 x3, .int .i64 x4, .int .i64 x5, .int .i64 x6] 43 2 rfl
          have f3 := cell_new w26 #[.int .i64 x0, .int .i64 x1, .string x2, .int .i64 x3, .int .i64 x4, .int .i64 x5, .int .i64 x6] 43 3 rfl
          have f4 := cell_new w26 #[.int .i64 x0, .int .i64 x1, .string x2, .int .i64 x3, .int .i64 x4, .int .i64 x5, .int .i64 x6] 43 4 rfl
          have f5 := cell_new w26 #[.int .i64 x0, .int .i64 x1, .string x2, .int .i64 x3, .int .i64 x4, .int .i64 x5, .int .i64 x6] 43 5 rfl
          have f6 := cell_new w26 #[.int .i64 x0, .int .i64 x1, .string x2, .int .i64 x3, .int .i64 x4, .int .i64 x5, .int .i64 x6] 43 6 rfl
          have q3 := Lib.hid (below_al HB.out (.cells #[.int .i64 x0, .int .i64 x1, .string x2, .int .i64 x3, .int .i64 x4, .int .i64 x5, .int .i64 x6] 43 (0, 0)))
          obtain ⟨bF, hbF⟩ : ∃ b, isFi ⟨x0, x1, x2, x3, x4, x5, x6⟩ = b := ⟨_, rfl⟩
          have hs2 : x2.size ≤ maxLen := hok.2.2.1
          have HBF := Lib.hid hbF
          clear HB HI HE hbF hok
          go_upto_region 33 with fail
          have k0 := cell_regrown f0
          have k1 := cell_regrown f1
          have k2 := cell_regrown f2
          have k3 := cell_regrown f3
          have k4 := cell_regrown f4
          have k5 := cell_regrown f5
          have k6 := cell_regrown f6
          have hcI := implFi_grown ⟨x0, x1, x2, x3, x4, x5, x6⟩ bF HBF.out hs2 (w26.alloc (.cells #[.int .i64 x0, .int .i64 x1, .string x2, .int .i64 x3, .int .i64 x4, .int .i64 x5, .int .i64 x6] 43 (0, 0)))
          have hcS := specFi_grown ⟨x0, x1, x2, x3, x4, x5, x6⟩ bF HBF.out hs2 (w26.alloc (.cells #[.int .i64 x0, .int .i64 x1, .string x2, .int .i64 x3, .int .i64 x4, .int .i64 x5, .int .i64 x6] 43 (0, 0)))
          simp only at hcI hcS
          refine wp_region_quiet_below (by kernel_rfl) (by kernel_rfl) ?_
          repeat (go_big_quiet_step (first | with_reducible exact hcI _ _ | with_reducible exact hcS _ _))
          refine wpQuiet_nil ?_
          intro _ hw'
          obtain ⟨⟨dq, osq⟩, hw''⟩ := hw'
          subst hw''
          have bq := below_regrown (w26.alloc (.cells #[.int .i64 x0, .int .i64 x1, .string x2, .int .i64 x3, .int .i64 x4, .int .i64 x5, .int .i64 x6] 43 (0, 0))) dq osq
          generalize grow (redrawn (w26.alloc (.cells #[.int .i64 x0, .int .i64 x1, .string x2, .int .i64 x3, .int .i64 x4, .int .i64 x5, .int .i64 x6] 43 (0, 0))) dq) osq = wz at bq ⊢
          go_wp2
          go_ret
          exact ⟨ret_bool (by simp), q3.out.trans (bq.mono q3.out.size)⟩

/-- A world for the witness: the settled one, the table holding what its initialiser lays. -/
noncomputable def fnFiles_world (os : Os) : World :=
  { World.holding Tryd.prog os ⟨#[], #[], []⟩ with heap := ((World.holding Tryd.prog os ⟨#[], #[], []⟩).heap.modify 0 fun
      | .cells _ t frozen => .cells #[.int .i64 0, .int .i64 0, .int .i64 0, .int .i64 1, .int .i64 1, .int .i64 0, .int .i64 1, .int .i64 2, .int .i64 2, .int .i64 1] t frozen
      | o => o) }
theorem fnFiles_met (os : Os) : laidMet Tryd.prog Rows.fnFilesRow.laid ((fnFiles_world os).forCall (fun _ _ => 0) ⟨#[], #[.slice none 0 0], []⟩).memory :=
  laidMet_of_run' 8 (by kernel_rfl) (by kernel_rfl)
theorem fnFiles_reads (os : Os) {H : Type} (enc : TypeId × Value → H) : ∃ places, DataW.whole enc Tryd.prog ((fnFiles_world os).forCall (fun _ _ => 0) ⟨#[], #[.slice none 0 0], []⟩).memory Tryd.f3.params.toList Rows.fnFilesSpec.vars false (#[.slice none 0 0] : Array Value).toList 8 = some ([.nil], [.agg [.agg [.lit (.int .i64 0), .lit (.int .i64 0)], .agg [.lit (.int .i64 0), .lit (.int .i64 1)], .agg [.lit (.int .i64 1), .lit (.int .i64 0)], .agg [.lit (.int .i64 1), .lit (.int .i64 2)], .agg [.lit (.int .i64 2), .lit (.int .i64 1)]]], places) :=
  ⟨[.cell 0 0, .cell 0 1, .cell 0 2, .cell 0 3, .cell 0 4, .cell 0 5, .cell 0 6, .cell 0 7, .cell 0 8, .cell 0 9], by kernel_rfl⟩

set_option maxRecDepth 100000 in
theorem fnFiles_contract (H : Type) (enc : TypeId × Value → H) (W : World) (base : Nat) (args : Array Value) (ds gs : List (DataW H)) (before : List MemPlace)
    (hval0 : ∀ (j : Nat) t v, Tryd.f3.params[j]? = some t → args[j]? = some v → Value.okWide Tryd.prog W .any base t v)
    (hW : DataW.Whole enc Tryd.prog Tryd.f3.params.toList Rows.fnFilesSpec.vars false W args.toList ds gs before) (hL : laidMetH Tryd.prog Rows.fnFilesRow.laid W) :
    Calls Tryd.prog 3 args W fun e W' => ∃ v, e = .returned v ∧ Rows.fnFilesSpec.post enc Tryd.prog Tryd.f3 false true false false W args v W' := by
  have hval := hval0
  have hW' := hW
  obtain ⟨p, q, hA0, hV, rfl, hfz, hnd⟩ := hW
  have hA : DataW.TrodAll enc Tryd.prog W 0 (fun _ => true) true Tryd.f3.params.toList args.toList ds p := hA0
  rw [Tryd.params3] at hA hval
  obtain ⟨v0, vs0, d0, ds0, p0, q0, hargs, rfl, rfl, h0, r0⟩ := trodAll_cons hA
  obtain ⟨rfl, rfl, rfl⟩ := trodAll_nil r0
  obtain rfl : args = #[v0] := by cases args; simp_all
  have hV2 : DataW.TrodVars enc Tryd.prog W (fun _ => true) ["loop.example/g01035/impl.fileSteps"] gs q := hV
  obtain ⟨gd, rfl⟩ : ∃ gd, gs = [gd] := by
    match gs, hV2 with
    | [], hh => exact hh.elim
    | [a], _ => exact ⟨a, rfl⟩
    | _ :: _ :: _, ⟨_, _, _, _, _, _, _, _, _, _, hh, _⟩ => exact hh.elim
  have hE : Steps W := steps_met (show laidMet Tryd.prog _ W from hL)
  obtain ⟨x0, w0⟩ := arg_code (hval 0 22 v0 rfl rfl) h0
  have lt0 : ∀ x ∈ p0, x.block < W.heap.size := by obtain ⟨m, hm⟩ := h0; exact DataW.trod_lt m _ _ _ hm
  clear hA0 hval0
  refine (walkFiles v0 x0 W w0 hE).mono fun e W' ⟨he, bel⟩ => ?_
  subst he
  exact ⟨_, rfl, _, _, _, [], _, _, hW', trodAll_mk1 (shut_bool Tryd.underlying4 _), (trodAll_cons_mk (Below.trod Tryd.laidOut (by kernel_rfl) (of_decide_eq_true (by kernel_rfl)) h0 bel lt0) trodAll_mk0), (Below.trodVars Tryd.laidOut bel (by kernel_rfl) hV2), bel.frame _, fun h => by cases h⟩

set_option maxRecDepth 100000 in
theorem fnFiles_lifted (os : Os) (started : os.Started) (H : Type) (enc : TypeId × Value → H) (F : Stop.Interp) :
    ReturnsInHanded {} Tryd.checked os 3 .any ((OpenSpec.ofChange Rows.fnFilesSpec).preRow enc Tryd.prog Tryd.f3 Rows.fnFilesRow.domain false Rows.fnFilesRow.laid) (((OpenSpec.ofChange Rows.fnFilesSpec).at F).post enc Tryd.prog Tryd.f3 false true false false) := by
  obtain ⟨places, hx⟩ := fnFiles_reads os enc
  refine returnsInHanded_of_row (C := Tryd.checked) (s := OpenSpec.ofChange Rows.fnFilesSpec) Tryd.own started (by kernel_rfl) Tryd.func3
    (witness_row_at (enc := enc) (C := Tryd.checked) false (fnFiles_world os) #[.slice none 0 0] rfl (by kernel_rfl) (by kernel_rfl) (by kernel_rfl)
      (OpenSpec.preRow_of_cond 8 hx (by kernel_rfl) (fun k hk => by cases hk) (by kernel_rfl) (fnFiles_met os))) ?_
  intro W base args ds gs before hval hW _ _ _ hL _ _
  exact fnFiles_contract H enc W base args ds gs before hval hW hL

theorem fnFiles_said : Rows.FnFilesSaid :=
  OpenClaim.holds_of_cond 3 Tryd.f3 rfl rfl rfl rfl rfl rfl rfl ⟨rfl, rfl, rfl, rfl, rfl⟩ rfl rfl rfl rfl rfl (by kernel_rfl) Tryd.func3 (by kernel_rfl)
    (of_decide_eq_true (by kernel_rfl)) (by unfold Func.isWrapper; first | (rw [if_pos (by decide +kernel)]; kernel_rfl) | (rw [if_neg (by decide +kernel)]; exact ⟨rfl, rfl⟩))
    (fun os started H enc _ F => by rw [OpenClaim.pre_eq_preRow]; exact fnFiles_lifted os started H enc F)

theorem fnFiles_plain (f : FuncId) (fn : Func) (hf : Tryd.pinned.checked.prog.funcNamed "loop.example/g01035/laws.FnFiles" = some f) (hfn : Tryd.pinned.checked.prog.funcs[f]? = some fn) :
    false = Tryd.pinned.checked.prog.looks [] ∧ ∀ (j : Nat) t, fn.params[j]? = some t → Tryd.pinned.checked.prog.wantsStandIn t = false := by
  obtain rfl : f = 3 := Option.some.inj ((show Tryd.prog.funcNamed "loop.example/g01035/laws.FnFiles" = some 3 by kernel_rfl).symm.trans hf) |>.symm
  obtain rfl : fn = Tryd.f3 := (Option.some.inj (Tryd.func3.symm.trans hfn)).symm
  refine ⟨by kernel_rfl, fun j t ht => ?_⟩
  rw [Tryd.params3] at ht
  have hm := Array.mem_of_getElem? ht
  simp only [List.mem_toArray, List.mem_cons, List.mem_nil_iff, or_false] at hm
  subst hm
  exact (show Tryd.prog.wantsStandIn 22 = false by kernel_rfl)

/-- THE CARD. -/
theorem fnFiles_proved : Rows.FnFilesCardSaid :=
  Claim7.holds_tied_plain_at .later [] _ _ _ _ fnFiles_said (fun _ h => by cases h) (by kernel_rfl) (fun _ h => by cases h) fnFiles_row_tie rfl ⟨rfl, rfl⟩ (by kernel_rfl) rfl fnFiles_plain (by kernel_rfl)

end Go.Proofs.YtpbjddiopfkgbaaDoor
