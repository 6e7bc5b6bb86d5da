/- The law FnGrowth: whatever the bytes, the call answers true. -/
import Derived.Test.YtapbajficopnlaaGrowM
import Derived.Test.YtapbajficopnlaaDrawFnI
import Derived.Test.YtapbajficopnlaaRead
import Derived.Test.YtapbajficopnlaaInts
import Derived.Test.YtapbajficopnlaaFnI
import Derived.Test.YtapbajficopnlaaFrame
import Derived.Lib.QuietBelow
namespace Go.Proofs.Ytapbajficopnlaa
set_option linter.unusedVariables false
open Go.ChangeShapes Go.WideShapes Go.ChangeAt Go.RowKit Go.Sort

theorem rBig_any (a : Option Addr) (len cap : Nat) (w : World) (b : Bool) (hb : decide ((65536 : Int) < (len : Int)) = b) (hl : len ≤ 9223372036854775807) :
    Calls Try.prog 8 #[.slice a len cap] w fun e w' => e = .returned (.bool b) ∧ w = w' := by
  have HB := Lib.hid hb
  clear hb
  go_enter Try.func8, Try.ntmps8
  go_wp2
  go_ret
  exact ⟨ret_bool HB.out, rfl⟩
theorem isRow_len {k : IntKind} {w : World} {a : Option Addr} {len cap : Nat} {zs : List Int} (h : IsRow k w a len cap zs) : len ≤ 9223372036854775807 := by
  rcases h with ⟨rfl, rfl, rfl, rfl⟩ | ⟨x, rfl, hl, hm, _⟩
  · omega
  · unfold maxLen at hm; omega
theorem rTree_same (v1 v2 : Value) (xs : List Fn) (w : World) (h1 : RowR 3 rFn w v1 xs) (h2 : RowR 3 rFn w v2 xs) :
    Calls Try.prog 28 #[v1, v2] w fun e w' => e = .returned (.bool true) ∧ Below w.heap.size w w' :=
  (rTree_any v1 v2 xs xs w h1 h2).mono fun e w' ⟨h, b⟩ => ⟨by rw [h, decide_eq_true rfl], b⟩
theorem rInts_same (v1 v2 : Value) (xs : List Int) (w : World) (h1 : RowOf vI w v1 xs) (h2 : RowOf vI w v2 xs) :
    Calls Try.prog 15 #[v1, v2] w fun e w' => e = .returned (.bool true) ∧ Below w.heap.size w w' :=
  (rInts_any v1 v2 xs xs w h1 h2).mono fun e w' ⟨h, b⟩ => ⟨by rw [h, decide_eq_true rfl], b⟩

theorem rTree_grown (v1 v2 : Value) (xs : List Fn) (wx : World) (h1 : RowR 3 rFn wx v1 xs) (h2 : RowR 3 rFn wx v2 xs) (d : Nat) (os : Array Obj) :
    Calls Try.prog 28 #[v1, v2] (grow (redrawn wx d) os) fun e w'' => e = .returned (.bool true) ∧ ∃ p : Regrown, w'' = grow (redrawn wx p.d) p.os :=
  Calls.regrown_of (rTree_same v1 v2 xs _ (h1.below rFn_stable (below_regrown wx d os)) (h2.below rFn_stable (below_regrown wx d os)))
theorem implFn_grown (x0 x1 : Int) (x2 : ByteArray) (b : Bool) (hb : isFn ⟨x0, x1, x2⟩ = b) (hs : x2.size ≤ maxLen) (wx : World) (d : Nat) (os : Array Obj) :
    Calls Try.prog 39 #[.agg #[.int .i64 x0, .int .i64 x1, .string x2]] (grow (redrawn wx d) os) fun e w'' => e = .returned (.bool b) ∧ ∃ p : Regrown, w'' = grow (redrawn wx p.d) p.os := by
  subst hb
  exact Calls.regrown_of (implIsFn_any ⟨x0, x1, x2⟩ _ hs)
theorem specFn_grown (x0 x1 : Int) (x2 : ByteArray) (b : Bool) (hb : isFn ⟨x0, x1, x2⟩ = b) (hs : x2.size ≤ maxLen) (wx : World) (d : Nat) (os : Array Obj) :
    Calls Try.prog 40 #[.agg #[.int .i64 x0, .int .i64 x1, .string x2]] (grow (redrawn wx d) os) fun e w'' => e = .returned (.bool b) ∧ ∃ p : Regrown, w'' = grow (redrawn wx p.d) p.os := by
  subst hb
  exact Calls.regrown_of (specIsFn_any ⟨x0, x1, x2⟩ _ hs)

set_option maxRecDepth 20000 in
set_option maxHeartbeats 8000000 in
theorem walkGrowth (a : Option Addr) (len cap : Nat) (zs : List Int) (W : World) (hi : IsRow .u8 W a len cap zs) :
    Calls Try.prog 4 #[.slice a len cap] W fun e w' => e = .returned (.bool true) ∧ Below W.heap.size W w' := by
  have HI := Lib.hid hi
  have hll := isRow_len hi
  clear hi
  by_cases hbig : 65536 < len
  · go_enter Try.func4, Try.ntmps4
    go_wp2_with fail
    refine (rBig_any a len cap _ true (by simp; omega) hll).mono ?_
    rintro e w' ⟨rfl, rfl⟩
    go_wp2
    go_ret
    exact ⟨rfl, Below.refl _ _⟩
  · go_enter Try.func4, Try.ntmps4
    go_wp2_with fail
    refine (rBig_any a len cap _ false (by simp; omega) hll).mono ?_
    rintro e w' ⟨rfl, rfl⟩
    have HB : Hid (Below W.heap.size W W) := Lib.hid (Below.refl _ _)
    go_wp2_with fail
    refine (drawAddF_any a len cap zs _ HI.out (by omega)).mono ?_
    rintro e w1 ⟨v, t, p, nm, rfl, hp, hnm, hn, hsm, ht, b1⟩
    replace HI := Lib.hid (isRow_after HI.out b1)
    replace HB := Lib.hid (HB.out.trans (b1.mono HB.out.size))
    have HT := Lib.hid ht
    clear b1 ht
    obtain ⟨⟨xs, n, ok⟩, hres⟩ : ∃ x, addFRes t p nm = x := ⟨_, rfl⟩
    have hnm2 : nm.size ≤ maxLen := Nat.le_trans hnm (by decide)
    have HSM := Lib.hid hsm
    have HRES := Lib.hid hres
    clear hsm hres
    go_wp2_with fail
    refine (implAddFunction_any v t p nm _ HT.out.row hp hnm2 xs n ok HRES.out).mono ?_
    rintro e w2 ⟨v1, rfl, h1, b2⟩
    replace HI := Lib.hid (isRow_after HI.out b2)
    replace HB := Lib.hid (HB.out.trans (b2.mono HB.out.size))
    replace HT := Lib.hid (HT.out.below b2)
    have H1 := Lib.hid h1
    clear b2 h1
    go_wp2_with fail
    refine (specAddFunction_any v t p nm _ HT.out.row HSM.out (by omega) hp hnm2 xs n ok HRES.out).mono ?_
    rintro e w3 ⟨v2, rfl, h2, b3⟩
    replace HI := Lib.hid (isRow_after HI.out b3)
    replace HB := Lib.hid (HB.out.trans (b3.mono HB.out.size))
    replace HT := Lib.hid (HT.out.below b3)
    replace H1 := Lib.hid (H1.out.below b3)
    have H2 := Lib.hid h2
    clear b3 h2
    go_wp2_with fail
    refine (rTree_same v1 v2 xs _ H1.out.row H2.out.row).mono ?_
    rintro e w4 ⟨rfl, b4⟩
    replace HI := Lib.hid (isRow_after HI.out b4)
    replace HB := Lib.hid (HB.out.trans (b4.mono HB.out.size))
    replace HT := Lib.hid (HT.out.below b4)
    replace H1 := Lib.hid (H1.out.below b4)
    replace H2 := Lib.hid (H2.out.below b4)
    clear b4
    clear H2
    go_upto_if 80 with fail
    go_cut [12, 13] from 42 to 255 (fun q r wx => Hid (IsRow .u8 wx a len cap zs) ∧ Hid (Below W.heap.size W wx))
    case first =>
      as_aux_lemma =>
        cases ok
        · go_wp2_with fail
          go_meet
          exact ⟨HI, HB⟩
        · have HG := Lib.hid (grow_back HRES.out)
          go_wp2_with fail
          refine (implWithoutLeaf_any v1 xs n _ H1.out.row t true HG.out).mono ?_
          rintro e w5 ⟨v3, rfl, h3, b5⟩
          replace HI := Lib.hid (isRow_after HI.out b5)
          replace HB := Lib.hid (HB.out.trans (b5.mono HB.out.size))
          replace HT := Lib.hid (HT.out.below b5)
          replace H1 := Lib.hid (H1.out.below b5)
          have H3 := Lib.hid h3
          clear b5 h3
          go_wp2_with fail
          refine (rTree_same v3 v t _ H3.out.row HT.out.row).mono ?_
          rintro e w6 ⟨rfl, b6⟩
          replace HI := Lib.hid (isRow_after HI.out b6)
          replace HB := Lib.hid (HB.out.trans (b6.mono HB.out.size))
          replace HT := Lib.hid (HT.out.below b6)
          replace H1 := Lib.hid (H1.out.below b6)
          replace H3 := Lib.hid (H3.out.below b6)
          clear b6
          go_wp2_with fail
          go_meet
          exact ⟨HI, HB⟩
    case rest =>
      clear HI HB HT H1 HRES HSM hp hnm hnm2 hn
      obtain ⟨HI, HB⟩ := hcut
      obtain ⟨W1, hW1⟩ : ∃ x, x = wc := ⟨_, rfl⟩
      subst hW1
      go_wp2_with fail
      refine (drawMove_any a len cap zs _ HI.out (by omega)).mono ?_
      rintro e w7 ⟨v, t, x, p, rfl, hx, hp, hn, hsm, ht, b7⟩
      replace HI := Lib.hid (isRow_after HI.out b7)
      replace HB := Lib.hid (HB.out.trans (b7.mono HB.out.size))
      have HT := Lib.hid ht
      clear b7 ht
      obtain ⟨⟨xs, ok⟩, hres⟩ : ∃ z, movRes t x p = z := ⟨_, rfl⟩
      have HSM := Lib.hid hsm
      have HRES := Lib.hid hres
      clear hsm hres
      go_wp2_with fail
      refine (implMoveUnder_any v t x p _ HT.out.row hp xs ok HRES.out).mono ?_
      rintro e w8 ⟨v1, rfl, h1, b8⟩
      replace HI := Lib.hid (isRow_after HI.out b8)
      replace HB := Lib.hid (HB.out.trans (b8.mono HB.out.size))
      replace HT := Lib.hid (HT.out.below b8)
      have H1 := Lib.hid h1
      clear b8 h1
      go_wp2_with fail
      refine (specMoveUnder_any v t x p _ HT.out.row HSM.out hp xs ok HRES.out).mono ?_
      rintro e w9 ⟨v2, rfl, h2, b9⟩
      replace HI := Lib.hid (isRow_after HI.out b9)
      replace HB := Lib.hid (HB.out.trans (b9.mono HB.out.size))
      replace HT := Lib.hid (HT.out.below b9)
      replace H1 := Lib.hid (H1.out.below b9)
      have H2 := Lib.hid h2
      clear b9 h2
      go_wp2_with fail
      refine (rTree_same v1 v2 xs _ H1.out.row H2.out.row).mono ?_
      rintro e w10 ⟨rfl, b10⟩
      replace HI := Lib.hid (isRow_after HI.out b10)
      replace HB := Lib.hid (HB.out.trans (b10.mono HB.out.size))
      replace HT := Lib.hid (HT.out.below b10)
      replace H1 := Lib.hid (H1.out.below b10)
      replace H2 := Lib.hid (H2.out.below b10)
      clear b10
      clear H2
      clear HT
      go_upto_if 124 with fail
      go_cut [21, 22, 23, 24] from 42 to 255 (fun q r q2 r2 wx => Hid (IsRow .u8 wx a len cap zs) ∧ Hid (Below W.heap.size W wx))
      case first =>
        as_aux_lemma =>
          cases ok
          · go_wp2_with fail
            go_meet
            exact ⟨HI, HB⟩
          · obtain ⟨ps, hp1, hp2⟩ := mov_path HRES.out
            have HP1 := Lib.hid hp1
            have HP2 := Lib.hid hp2
            clear hp1 hp2
            go_wp2_with fail
            refine (implPathTo_any v1 xs x _ H1.out.row (ps ++ [x]) true HP1.out).mono ?_
            rintro e w11 ⟨v3, rfl, h3, b11⟩
            replace HI := Lib.hid (isRow_after HI.out b11)
            replace HB := Lib.hid (HB.out.trans (b11.mono HB.out.size))
            replace H1 := Lib.hid (H1.out.below b11)
            have H3 := Lib.hid h3
            clear b11 h3
            go_wp2_with fail
            refine (implPathTo_any v1 xs p _ H1.out.row ps (decide (0 < p)) HP2.out).mono ?_
            rintro e w12 ⟨v4, rfl, h4, b12⟩
            replace HI := Lib.hid (isRow_after HI.out b12)
            replace HB := Lib.hid (HB.out.trans (b12.mono HB.out.size))
            replace H1 := Lib.hid (H1.out.below b12)
            replace H3 := Lib.hid (H3.out.below b12)
            have H4 := Lib.hid h4
            clear b12 h4
            obtain ⟨a3, c3, e3, l3, m3, _⟩ := H3.out.row
            obtain ⟨a4, c4, e4, l4, m4, _⟩ := H4.out.row
            have hlen : (ps ++ [x]).length = ps.length + 1 := by simp
            rw [hlen] at e3 l3
            subst e3 e4
            unfold maxLen at m3 m4
            have hw : IntKind.i64.wrap ((ps.length : Int) + 1) = (ps.length : Int) + 1 := Go.IntWalk.i64_in _ (by omega)
            obtain ⟨bp, hbp⟩ : ∃ b, decide (0 < p) = b := ⟨_, rfl⟩
            clear hlen
            go_wp2_with fail
            go_meet
            exact ⟨HI, HB⟩
      case rest =>
        clear HI HB H1 HRES HSM hp hx hn
        obtain ⟨HI, HB⟩ := hcut
        obtain ⟨W2, hW2⟩ : ∃ x, x = wc := ⟨_, rfl⟩
        subst hW2
        go_wp2_with fail
        refine (drawDeepest_any a len cap zs _ HI.out (by omega)).mono ?_
        rintro e w13 ⟨v, t, rfl, hn, hsm, ht, b13⟩
        replace HI := Lib.hid (isRow_after HI.out b13)
        replace HB := Lib.hid (HB.out.trans (b13.mono HB.out.size))
        have HT := Lib.hid ht
        clear b13 ht
        obtain ⟨ad, cd, hv⟩ := hsm
        subst hv
        obtain ⟨⟨ds, m, ok⟩, hres⟩ : ∃ z, deepRes t = z := ⟨_, rfl⟩
        have HRES := Lib.hid hres
        clear hres
        go_wp2_with fail
        refine (implDeepest_any _ t _ HT.out.row ds m ok HRES.out).mono ?_
        rintro e w14 ⟨v1, rfl, h1, b14⟩
        replace HI := Lib.hid (isRow_after HI.out b14)
        replace HB := Lib.hid (HB.out.trans (b14.mono HB.out.size))
        replace HT := Lib.hid (HT.out.below b14)
        have H1 := Lib.hid h1
        clear b14 h1
        go_wp2_with fail
        refine (specDeepest_any _ t _ HT.out.row ds m ok HRES.out).mono ?_
        rintro e w15 ⟨v2, rfl, h2, b15⟩
        replace HI := Lib.hid (isRow_after HI.out b15)
        replace HB := Lib.hid (HB.out.trans (b15.mono HB.out.size))
        replace HT := Lib.hid (HT.out.below b15)
        replace H1 := Lib.hid (H1.out.below b15)
        have H2 := Lib.hid h2
        clear b15 h2
        go_wp2_with fail
        refine (rInts_same v1 v2 ds _ H1.out.row H2.out.row).mono ?_
        rintro e w16 ⟨rfl, b16⟩
        replace HI := Lib.hid (isRow_after HI.out b16)
        replace HB := Lib.hid (HB.out.trans (b16.mono HB.out.size))
        replace HT := Lib.hid (HT.out.below b16)
        replace H1 := Lib.hid (H1.out.below b16)
        replace H2 := Lib.hid (H2.out.below b16)
        clear b16
        clear H2
        have HT0 := Lib.hid HT.out.row
        have H10 := Lib.hid H1.out.row
        clear HT H1
        go_upto_block 0 with fail
        go_cut [32, 33, 34] from 42 to 255 (fun i q r wx => Hid (IsRow .u8 wx a len cap zs) ∧ Hid (Below W.heap.size W wx))
        case first =>
          as_aux_lemma =>
            go_wp2_with fail
            go_loopw [32, 33, 34] (fun i q r wr => ∃ k : Nat, k ≤ t.length ∧ i = .int .i64 k ∧ Hid (IsRow .u8 wr a len cap zs) ∧ Hid (Below W.heap.size W wr) ∧ Hid (RowR 3 rFn wr (.slice (some ad) t.length cd) t) ∧ Hid (RowOf vI wr v1 ds)) (fun i _ _ _ => t.length - (intOf i).toNat)
            case atStart => exact ⟨0, Nat.zero_le _, rfl, HI, HB, HT0, H10⟩
            case round =>
              clear HI HB HT0 H10
              obtain ⟨k, hk, rfl, HI, HB, HT, H1⟩ := hrel
              by_cases hlt : k < t.length
              · have g0 : (0 : Int) ≤ (k : Int) := by omega
                have g1 : (k : Int) < (t.length : Int) := by omega
                have g2 : decide ((k : Int) < (t.length : Int)) = true := decide_eq_true g1
                cases ok
                · go_wp2_with fail
                  go_meet
                  exact ⟨HI, HB⟩
                · obtain ⟨ps, hp1, hle, hiff⟩ := deep_path HRES.out hlt
                  obtain ⟨aA, cA, eA, _, hmA, rA⟩ := HT.out.fns
                  simp only [Value.slice.injEq] at eA
                  obtain ⟨rfl, _, rfl⟩ := eA
                  obtain ⟨bb, oo, _, had, ee⟩ := rA.resolve_left (fun e => by rw [e] at hlt; simp at hlt)
                  have had2 : ad = ⟨bb, oo, none⟩ := Option.some.inj had
                  subst had2
                  obtain ⟨p0, _, _, _⟩ := ee k hlt
                  obtain ⟨y, hy⟩ : ∃ y, (t.getD k fnD).id = y := ⟨_, rfl⟩
                  rw [hy] at p0 hp1 hiff
                  have HP := Lib.hid hp1
                  have hkp : IntKind.i64.wrap ((k : Int) + 1) = (k : Int) + 1 := Go.IntWalk.i64_in _ (by omega)
                  clear ee had hp1 hy hmA rA
                  go_wp2_with fail
                  refine (implPathTo_any _ t y _ HT.out ps true HP.out).mono ?_
                  rintro e wa ⟨v3, rfl, h3, ba⟩
                  have p1 := cell_kept p0 ba
                  have HIa := Lib.hid (isRow_after HI.out ba)
                  have HBa := Lib.hid (HB.out.trans (ba.mono HB.out.size))
                  have HTa := Lib.hid (HT.out.below rFn_stable ba)
                  have H1a := Lib.hid (H1.out.below ba)
                  obtain ⟨a3, c3, e3, l3, m3, _⟩ := h3.row
                  subst e3
                  have hgt : decide (m < (ps.length : Int)) = false := decide_eq_false (by omega)
                  have hng : ¬ (m < (ps.length : Int)) := by omega
                  have hbe : ((ps.length : Int) == m) = decide (y ∈ ds) := by rw [Bool.eq_iff_iff, beq_iff_eq, decide_eq_true_eq]; exact hiff.symm
                  have hbe2 : decide ((ps.length : Int) = m) = decide (y ∈ ds) := by rw [Bool.eq_iff_iff, decide_eq_true_eq, decide_eq_true_eq]; exact hiff.symm
                  have hR := fun W h => rHas_any v1 ds y W h
                  obtain ⟨bh, hbh⟩ : ∃ b, decide (y ∈ ds) = b := ⟨_, rfl⟩
                  rw [hbh] at hbe hbe2 hR
                  clear h3 p0 ba hiff hbh HI HB HT H1
                  go_wp2_with fail
                  refine (hR _ H1a.out).mono ?_
                  rintro e wb ⟨rfl, bb2⟩
                  have HIb := Lib.hid (isRow_after HIa.out bb2)
                  have HBb := Lib.hid (HBa.out.trans (bb2.mono HBa.out.size))
                  have HTb := Lib.hid (HTa.out.below rFn_stable bb2)
                  have H1b := Lib.hid (H1a.out.below bb2)
                  clear bb2 hR HIa HBa HTa H1a
                  go_wp2_with fail
                  go_roundw
                  case rel => exact ⟨k + 1, by omega, by go_num, HIb, HBb, HTb, H1b⟩
                  case measure => simp [intOf]; omega
              · have g2 : decide ((k : Int) < (t.length : Int)) = false := decide_eq_false (by omega)
                have g3 : ¬ ((k : Int) < (t.length : Int)) := by omega
                go_wp2_with fail
                go_meet
                exact ⟨HI, HB⟩
        case rest =>
          clear HI HB HT0 H10 HRES hn
          obtain ⟨HI, HB⟩ := hcut
          obtain ⟨W3, hW3⟩ : ∃ x, x = wc := ⟨_, rfl⟩
          subst hW3
          go_wp2_with fail
          refine (drawLeaf_any a len cap zs _ HI.out (by omega)).mono ?_
          rintro e w17 ⟨v, t, x, rfl, hx, ⟨hn, _, ht, b17⟩⟩
          replace HI := Lib.hid (isRow_after HI.out b17)
          replace HB := Lib.hid (HB.out.trans (b17.mono HB.out.size))
          have HT := Lib.hid ht
          clear b17 ht
          obtain ⟨⟨xs, ok⟩, hres⟩ : ∃ z, leafRes t x = z := ⟨_, rfl⟩
          have HRES := Lib.hid hres
          clear hres
          go_wp2_with fail
          refine (implWithoutLeaf_any v t x _ HT.out.row xs ok HRES.out).mono ?_
          rintro e w18 ⟨v1, rfl, h1, b18⟩
          replace HI := Lib.hid (isRow_after HI.out b18)
          replace HB := Lib.hid (HB.out.trans (b18.mono HB.out.size))
          replace HT := Lib.hid (HT.out.below b18)
          have H1 := Lib.hid h1
          clear b18 h1
          go_wp2_with fail
          refine (specWithoutLeaf_any v t x _ HT.out.row xs ok HRES.out).mono ?_
          rintro e w19 ⟨v2, rfl, h2, b19⟩
          replace HI := Lib.hid (isRow_after HI.out b19)
          replace HB := Lib.hid (HB.out.trans (b19.mono HB.out.size))
          replace HT := Lib.hid (HT.out.below b19)
          replace H1 := Lib.hid (H1.out.below b19)
          have H2 := Lib.hid h2
          clear b19 h2
          go_wp2_with fail
          refine (drawIsFn_any a len cap zs _ HI.out (by omega)).mono ?_
          rintro e w20 ⟨⟨x0, x1, x2⟩, rfl, hok, b20⟩
          replace HI := Lib.hid (isRow_after HI.out b20)
          replace HB := Lib.hid (HB.out.trans (b20.mono HB.out.size))
          replace HT := Lib.hid (HT.out.below b20)
          replace H1 := Lib.hid (H1.out.below b20)
          replace H2 := Lib.hid (H2.out.below b20)
          clear b20
          have f0 := cell_new w20 #[.int .i64 x0, .int .i64 x1, .string x2] 36 0 rfl
          have f1 := cell_new w20 #[.int .i64 x0, .int .i64 x1, .string x2] 36 1 rfl
          have f2 := cell_new w20 #[.int .i64 x0, .int .i64 x1, .string x2] 36 2 rfl
          have q1 := Lib.hid (H1.out.below (below_al (Below.refl _ w20) (.cells #[.int .i64 x0, .int .i64 x1, .string x2] 36 (0, 0))))
          have q2 := Lib.hid (H2.out.below (below_al (Below.refl _ w20) (.cells #[.int .i64 x0, .int .i64 x1, .string x2] 36 (0, 0))))
          have q3 := Lib.hid (below_al HB.out (.cells #[.int .i64 x0, .int .i64 x1, .string x2] 36 (0, 0)))
          obtain ⟨bF, hbF⟩ : ∃ b, isFn ⟨x0, x1, x2⟩ = b := ⟨_, rfl⟩
          have hs2 : x2.size ≤ maxLen := hok.2.2
          have HBF := Lib.hid hbF
          clear H1 H2 HB HI HT HRES hbF hok hn hx
          go_upto_region 37 with fail
          cases ok
          all_goals
            have k0 := cell_regrown f0
            have k1 := cell_regrown f1
            have k2 := cell_regrown f2
            have hcT := rTree_grown v1 v2 xs (w20.alloc (.cells #[.int .i64 x0, .int .i64 x1, .string x2] 36 (0, 0))) q1.out.row q2.out.row
            have hcI := implFn_grown x0 x1 x2 bF HBF.out hs2 (w20.alloc (.cells #[.int .i64 x0, .int .i64 x1, .string x2] 36 (0, 0)))
            have hcS := specFn_grown x0 x1 x2 bF HBF.out hs2 (w20.alloc (.cells #[.int .i64 x0, .int .i64 x1, .string x2] 36 (0, 0)))
            refine wp_region_quiet_below (by kernel_rfl) (by kernel_rfl) ?_
            repeat (go_big_quiet_step (first | with_reducible exact hcT _ _ | with_reducible exact hcI _ _ | with_reducible exact hcS _ _))
            refine wpQuiet_nil ?_
            intro _ hw'
            obtain ⟨⟨dq, osq⟩, hw''⟩ := hw'
            subst hw''
            have bq := below_regrown (w20.alloc (.cells #[.int .i64 x0, .int .i64 x1, .string x2] 36 (0, 0))) dq osq
            generalize grow (redrawn (w20.alloc (.cells #[.int .i64 x0, .int .i64 x1, .string x2] 36 (0, 0))) dq) osq = wz at bq ⊢
            go_wp2
            go_ret
            exact ⟨rfl, q3.out.trans (bq.mono q3.out.size)⟩

set_option maxRecDepth 100000 in
theorem fnGrowth_lifted (os : Os) (started : os.Started) (H : Type) (enc : TypeId × Value → H) :
    ReturnsInHanded {} Try.checked os 4 .any (Rows.fnGrowthSpec.pre6 enc Try.prog Try.f4 Rows.fnGrowthRow.domain false) (Rows.fnGrowthSpec.post enc Try.prog Try.f4 false true false false) := by
  refine returnsInHanded_of_change (C := Try.checked) Try.own started (by kernel_rfl) Try.func4
    (ChangeSpec.witness6 (enc := enc) (C := Try.checked) false ⟨#[], #[.slice none 0 0], []⟩ 8 (by kernel_rfl) (by kernel_rfl) (by kernel_rfl) (by kernel_rfl)) ?_
  intro W base args ds gs before hval0 hW hcnd _
  have hval : ∀ (j : Nat) t v, Try.f4.params[j]? = some t → args[j]? = some v → Value.okWide Try.prog W .any base t v := hval0
  have hW' := hW
  obtain ⟨p, q, hA0, hV, rfl, hfz, hnd⟩ := hW
  have hA : DataW.TrodAll enc Try.prog W 0 (fun _ => true) true Try.f4.params.toList args.toList ds p := hA0
  rw [Try.params4] at hA hval
  obtain ⟨v0, vs0, d0, ds0, p0, q0, hargs, rfl, rfl, h0, r0⟩ := trodAll_cons hA
  obtain ⟨rfl, rfl, rfl⟩ := trodAll_nil r0
  obtain rfl : args = #[v0] := by cases args; simp_all
  obtain ⟨rfl, rfl⟩ := trodVars_none hV
  obtain ⟨a0, len0, cap0, rfl⟩ := okWide_slice Try.underlying22 (hval 0 22 v0 rfl rfl)
  have k0 := h0
  have lt0 : ∀ x ∈ p0, x.block < W.heap.size := by obtain ⟨m, hm⟩ := k0; exact DataW.trod_lt m _ _ _ hm
  obtain ⟨z0, w0⟩ : ∃ zs, IsRow .u8 W a0 len0 cap0 zs := by
    obtain ⟨fuel, hf⟩ := h0
    rcases open_ints Try.underlying22 Try.underlying5 (by kernel_rfl) hf with ⟨hcs, _⟩ | ⟨x, l, c, zs, hcs, _, hl, hm, hz, _, hcell, hwz⟩
    · simp [Value.cells] at hcs
      obtain ⟨rfl, rfl, rfl⟩ := hcs
      exact ⟨[], .inl ⟨rfl, rfl, rfl, rfl⟩⟩
    · simp [Value.cells] at hcs
      obtain ⟨rfl, rfl, rfl⟩ := hcs
      exact ⟨zs, .inr ⟨_, rfl, hl, hm, by simpa using hz, hcell, hwz⟩⟩
  clear hA0 hval0
  refine (walkGrowth a0 len0 cap0 z0 W w0).mono fun e W' ⟨he, bel⟩ => ?_
  subst he
  exact ⟨_, rfl, _, _, _, [], _, [], hW', trodAll_mk1 (shut_bool Try.underlying4 _), (trodAll_cons_mk (Below.trod Try.laidOut (by kernel_rfl) (of_decide_eq_true (by kernel_rfl)) k0 bel lt0) trodAll_mk0), rfl, bel.frame _, fun h => by cases h⟩

/-- THE STATEMENT. -/
theorem fnGrowth_proved : Rows.FnGrowthSaid :=
  OpenClaim.holds_of_wide 4 Try.f4 rfl rfl rfl rfl rfl rfl rfl ⟨rfl, rfl, rfl, rfl, rfl⟩ rfl rfl rfl rfl rfl (by kernel_rfl) Try.func4 (by kernel_rfl)
    (of_decide_eq_true (by kernel_rfl)) (by unfold Func.isWrapper; first | (rw [if_pos (by decide +kernel)]; kernel_rfl) | (rw [if_neg (by decide +kernel)]; exact ⟨rfl, rfl⟩))
    (fun os started H enc _ => fnGrowth_lifted os started H enc)
end Go.Proofs.Ytapbajficopnlaa
