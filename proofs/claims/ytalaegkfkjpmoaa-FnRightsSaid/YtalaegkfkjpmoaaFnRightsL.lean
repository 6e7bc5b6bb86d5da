/- The law FnRights: whatever the bytes, the call answers true. No condition. -/
import Derived.Test.YtalaegkfkjpmoaaDrawCk
import Derived.Test.YtalaegkfkjpmoaaCkN
import Derived.Test.YtalaegkfkjpmoaaCkS2
import Derived.Test.YtalaegkfkjpmoaaCkI2
import Derived.Test.YtalaegkfkjpmoaaCkS3
import Derived.Test.YtalaegkfkjpmoaaCkI3
import Derived.Test.YtalaegkfkjpmoaaReadH
import Derived.Test.YtalaegkfkjpmoaaReadCk
import Derived.Test.YtalaegkfkjpmoaaArgBytes
import Derived.Test.YtalaegkfkjpmoaaFrame
import Derived.Lib.QuietBelow
import Derived.BigQuiet
import Derived.Deep.DeepCutAuto
import Derived.Deep.CutBlock
namespace Go.Proofs.Ytalaegkfkjpmoaa
set_option linter.unusedVariables false
open Go.ChangeShapes Go.WideShapes Go.ChangeAt Go.RowKit Go.Sort

theorem implCk_grown (x : Ck) (b : Bool) (hb : ckOne x = b) (hs : x.name.size ≤ maxLen) (wx : World) (d : Nat) (os : Array Obj) :
    Calls Try.prog 64 #[.agg #[.int .i64 x.id, .string x.name, .int .i64 x.rights, .int .i64 x.frm, .int .i64 x.til, .int .i64 x.stands]] (grow (redrawn wx d) os) fun e w'' => e = .returned (.bool b) ∧ ∃ p : Regrown, w'' = grow (redrawn wx p.d) p.os := by
  subst hb
  exact Calls.regrown_of (implCk_any x _ hs)
theorem specCk_grown (x : Ck) (b : Bool) (hb : ckOne x = b) (hs : x.name.size ≤ maxLen) (wx : World) (d : Nat) (os : Array Obj) :
    Calls Try.prog 65 #[.agg #[.int .i64 x.id, .string x.name, .int .i64 x.rights, .int .i64 x.frm, .int .i64 x.til, .int .i64 x.stands]] (grow (redrawn wx d) os) fun e w'' => e = .returned (.bool b) ∧ ∃ p : Regrown, w'' = grow (redrawn wx p.d) p.os := by
  subst hb
  exact Calls.regrown_of (specIsClerk_any x _ hs)
set_option maxRecDepth 20000 in
set_option maxHeartbeats 8000000 in
theorem walkRights0 (a : Option Addr) (len cap : Nat) (zs : List Int) (W : World) (h : IsRow .u8 W a len cap zs) :
    Calls Try.prog 6 #[.slice a len cap] W fun e w' => e = .returned (.bool true) ∧ Below W.heap.size W w' := by
  have hll := isRow_len h
  have HI := Lib.hid h
  clear h
  by_cases hbig : 65536 < len
  · go_enter Try.func6, Try.ntmps6
    go_wp2_with fail
    refine (rBig_any a len cap _ true (by simp; omega) hll).mono ?_
    rintro e w' ⟨rfl, rfl⟩
    go_wp2
    go_ret
    exact ⟨rfl, Below.refl _ _⟩
  · go_enter Try.func6, Try.ntmps6
    go_wp2_with fail
    refine (rBig_any a len cap _ false (by simp; omega) hll).mono ?_
    rintro e w' ⟨rfl, rfl⟩
    have HB : Hid (Below W.heap.size W W) := Lib.hid (Below.refl _ _)
    go_wp2_with fail
    refine (drawTake_any a len cap zs _ HI.out (by omega)).mono ?_
    rintro e w1 ⟨v, t, x, r, rfl, hx, hd, ⟨hn, hsm, ht, b1⟩⟩
    replace HI := Lib.hid (isRow_afterC HI.out b1)
    replace HB := Lib.hid (HB.out.trans (b1.mono HB.out.size))
    have HT := Lib.hid ht.row
    clear b1 ht hsm
    obtain ⟨xs, ok, hHW⟩ : ∃ xs ok, takeRes t x r = (xs, ok) := ⟨_, _, rfl⟩
    have HW := Lib.hid hHW
    clear hHW
    have en_ok : (ok != ok) = false := by simp
    have ee_ok : (ok == ok) = true := by simp
    go_wp2_with fail
    refine (implTake_any v t x r _ HT.out xs ok HW.out).mono ?_
    rintro e w2 ⟨v1, rfl, h1, b2⟩
    replace HI := Lib.hid (isRow_afterC HI.out b2)
    replace HB := Lib.hid (HB.out.trans (b2.mono HB.out.size))
    replace HT := Lib.hid (HT.out.below rCk_stable b2)
    have H1 := Lib.hid h1.row
    clear b2 h1
    go_wp2_with fail
    refine (specTake_any v t x r _ HT.out xs ok HW.out).mono ?_
    rintro e w3 ⟨v2, rfl, h2, b3⟩
    replace HI := Lib.hid (isRow_afterC HI.out b3)
    replace HB := Lib.hid (HB.out.trans (b3.mono HB.out.size))
    replace HT := Lib.hid (HT.out.below rCk_stable b3)
    replace H1 := Lib.hid (H1.out.below rCk_stable b3)
    have H2 := Lib.hid h2.row
    clear b3 h2
    go_wp2_with fail
    refine (rClerks_same v1 v2 xs _ H1.out H2.out).mono ?_
    rintro e w4 ⟨rfl, b4⟩
    replace HI := Lib.hid (isRow_afterC HI.out b4)
    replace HB := Lib.hid (HB.out.trans (b4.mono HB.out.size))
    replace HT := Lib.hid (HT.out.below rCk_stable b4)
    replace H1 := Lib.hid (H1.out.below rCk_stable b4)
    replace H2 := Lib.hid (H2.out.below rCk_stable b4)
    clear b4
    clear H2
    go_upto_if 68 with fail
    go_cut [10, 11] from 37 to 243 (fun q1 q2 wx => Hid (IsRow .u8 wx a len cap zs) ∧ Hid (Below W.heap.size W wx) ∧ Hid (RowR 6 rCk wx v t))
    case first =>
      as_aux_lemma =>
        cases ok
        · go_wp2_with fail
          go_meet
          exact ⟨HI, HB, HT⟩
        · have HG := Lib.hid (take_back HW.out)
          go_wp2_with fail
          refine (implGive_any v1 xs x r _ H1.out t true HG.out).mono ?_
          rintro e w5 ⟨v3, rfl, h3, b5⟩
          replace HI := Lib.hid (isRow_afterC HI.out b5)
          replace HB := Lib.hid (HB.out.trans (b5.mono HB.out.size))
          replace HT := Lib.hid (HT.out.below rCk_stable b5)
          replace H1 := Lib.hid (H1.out.below rCk_stable b5)
          have H3 := Lib.hid h3.row
          clear b5 h3
          go_wp2_with fail
          refine (rClerks_same v3 v t _ H3.out HT.out).mono ?_
          rintro e w6 ⟨rfl, b6⟩
          replace HI := Lib.hid (isRow_afterC HI.out b6)
          replace HB := Lib.hid (HB.out.trans (b6.mono HB.out.size))
          replace HT := Lib.hid (HT.out.below rCk_stable b6)
          replace H1 := Lib.hid (H1.out.below rCk_stable b6)
          replace H3 := Lib.hid (H3.out.below rCk_stable b6)
          clear b6
          go_wp2_with fail
          go_meet
          exact ⟨HI, HB, HT⟩
    case rest =>
      as_aux_lemma =>
        clear HI HB HT H1 HW en_ok ee_ok
        obtain ⟨HI, HB, HT⟩ := hcut
        obtain ⟨W1, hW1⟩ : ∃ x, x = wc := ⟨_, rfl⟩
        subst hW1
        obtain ⟨ys, k2, hHG⟩ : ∃ ys k2, giveRes t x r = (ys, k2) := ⟨_, _, rfl⟩
        have HG := Lib.hid hHG
        clear hHG
        have en_k2 : (k2 != k2) = false := by simp
        have ee_k2 : (k2 == k2) = true := by simp
        go_wp2_with fail
        refine (implGive_any v t x r _ HT.out ys k2 HG.out).mono ?_
        rintro e w21 ⟨v3, rfl, h3, b21⟩
        replace HI := Lib.hid (isRow_afterC HI.out b21)
        replace HB := Lib.hid (HB.out.trans (b21.mono HB.out.size))
        replace HT := Lib.hid (HT.out.below rCk_stable b21)
        have H3 := Lib.hid h3.row
        clear b21 h3
        go_wp2_with fail
        refine (specGive_any v t x r _ HT.out ys k2 HG.out).mono ?_
        rintro e w22 ⟨v4, rfl, h4, b22⟩
        replace HI := Lib.hid (isRow_afterC HI.out b22)
        replace HB := Lib.hid (HB.out.trans (b22.mono HB.out.size))
        replace HT := Lib.hid (HT.out.below rCk_stable b22)
        replace H3 := Lib.hid (H3.out.below rCk_stable b22)
        have H4 := Lib.hid h4.row
        clear b22 h4
        go_upto_region 14 with fail
        go_cut [114] from 37 to 243 (fun q1 wx => q1 = .bool false ∧ Hid (IsRow .u8 wx a len cap zs) ∧ Hid (Below W.heap.size W wx))
        case first =>
          as_aux_lemma =>
            go_wp2_with fail
            refine (rClerks_same v3 v4 ys _ H3.out H4.out).mono ?_
            rintro e w23 ⟨rfl, b23⟩
            replace HI := Lib.hid (isRow_afterC HI.out b23)
            replace HB := Lib.hid (HB.out.trans (b23.mono HB.out.size))
            replace HT := Lib.hid (HT.out.below rCk_stable b23)
            replace H3 := Lib.hid (H3.out.below rCk_stable b23)
            replace H4 := Lib.hid (H4.out.below rCk_stable b23)
            clear b23
            clear H4 HT
            have hgt : k2 = true → areCk ys = true := fun h => by have := HG.out; rw [h] at this; exact give_told this
            clear HG
            cases k2
            all_goals
              try have HGT := Lib.hid (hgt rfl)
              clear hgt
              go_wp2_with (first | (go_at_call 49; refine (implAreCk_any v3 ys _ H3.out).mono ?_; rw [HGT.out]; rintro e u8 ⟨rfl, b_u8⟩; replace HI := Lib.hid (isRow_afterC HI.out b_u8); replace HB := Lib.hid (HB.out.trans (b_u8.mono HB.out.size)); replace H3 := Lib.hid (H3.out.below rCk_stable b_u8); clear b_u8))
              go_meet
              exact ⟨rfl, HI, HB⟩
        case rest =>
          as_aux_lemma =>
            clear HI HB HT H3 H4 HG en_k2 ee_k2 hx hd hn
            obtain ⟨rfl, HI, HB⟩ := hcut
            obtain ⟨W9, hW9⟩ : ∃ x, x = wc := ⟨_, rfl⟩
            subst hW9
            go_wp2_with fail
            refine (drawDaysWithout_any a len cap zs _ HI.out (by omega)).mono ?_
            rintro e w31 ⟨v5, t5, n5, m5, s5, rfl, hn5, hm5, hs5, ⟨hl5, hsm5, ht5, b31⟩⟩
            replace HI := Lib.hid (isRow_afterC HI.out b31)
            replace HB := Lib.hid (HB.out.trans (b31.mono HB.out.size))
            have HT := Lib.hid ht5.row
            clear b31 ht5 hsm5
            obtain ⟨ds, k5, hHD5⟩ : ∃ ds k5, daysRes t5 n5 m5 s5 = (ds, k5) := ⟨_, _, rfl⟩
            have HD5 := Lib.hid hHD5
            clear hHD5
            have en_k5 : (k5 != k5) = false := by simp
            have ee_k5 : (k5 == k5) = true := by simp
            go_wp2_with fail
            refine (implDays_any v5 t5 n5 m5 s5 _ HT.out ds k5 HD5.out).mono ?_
            rintro e w32 ⟨v6, rfl, h6, b32⟩
            replace HI := Lib.hid (isRow_afterC HI.out b32)
            replace HB := Lib.hid (HB.out.trans (b32.mono HB.out.size))
            replace HT := Lib.hid (HT.out.below rCk_stable b32)
            have H6 := Lib.hid h6.row
            clear b32 h6
            go_wp2_with fail
            refine (specDays_any v5 t5 n5 m5 s5 _ HT.out ds k5 HD5.out).mono ?_
            rintro e w33 ⟨v7, rfl, h7, b33⟩
            replace HI := Lib.hid (isRow_afterC HI.out b33)
            replace HB := Lib.hid (HB.out.trans (b33.mono HB.out.size))
            replace HT := Lib.hid (HT.out.below rCk_stable b33)
            replace H6 := Lib.hid (H6.out.below b33)
            have H7 := Lib.hid h7.row
            clear b33 h7
            go_wp2_with fail
            refine (rInts_same v6 v7 ds _ H6.out H7.out).mono ?_
            rintro e w34 ⟨rfl, b34⟩
            replace HI := Lib.hid (isRow_afterC HI.out b34)
            replace HB := Lib.hid (HB.out.trans (b34.mono HB.out.size))
            replace HT := Lib.hid (HT.out.below rCk_stable b34)
            replace H6 := Lib.hid (H6.out.below b34)
            replace H7 := Lib.hid (H7.out.below b34)
            clear b34
            clear H7
            go_upto_if 147 with fail
            go_cut [24, 25] from 37 to 243 (fun q1 q2 wx => Hid (IsRow .u8 wx a len cap zs) ∧ Hid (Below W.heap.size W wx))
            case first =>
              as_aux_lemma =>
                cases k5
                · go_wp2_with fail
                  go_meet
                  exact ⟨HI, HB⟩
                · obtain ⟨hwh, hmm⟩ := days_told HD5.out
                  obtain ⟨X, hX⟩ : ∃ X, whoF t5 n5 m5 t5 = X := ⟨_, rfl⟩
                  rw [hX] at hwh hmm
                  have HWH := Lib.hid hwh
                  have hxl := whoRes_len hwh
                  clear hwh hX
                  rcases X with _ | ⟨y, XX⟩
                  · have HMM : Hid (decide (m5 ∈ ds) = true) := Lib.hid (by rw [hmm]; rfl)
                    clear hmm
                    go_wp2_with fail
                    refine (implWhoMay_any v5 t5 n5 m5 _ HT.out _ true HWH.out).mono ?_
                    rintro e w35 ⟨v8, rfl, h8, b35⟩
                    replace HI := Lib.hid (isRow_afterC HI.out b35)
                    replace HB := Lib.hid (HB.out.trans (b35.mono HB.out.size))
                    replace HT := Lib.hid (HT.out.below rCk_stable b35)
                    replace H6 := Lib.hid (H6.out.below b35)
                    clear b35
                    obtain ⟨la8, lc8, rfl⟩ := h8.len
                    clear h8
                    go_wp2_with (first | (go_at_call 16; refine (rHas_any _ ds m5 _ H6.out).mono ?_; rw [HMM.out]; rintro e u5 ⟨rfl, b_u5⟩; replace HI := Lib.hid (isRow_afterC HI.out b_u5); replace HB := Lib.hid (HB.out.trans (b_u5.mono HB.out.size)); replace HT := Lib.hid (HT.out.below rCk_stable b_u5); replace H6 := Lib.hid (H6.out.below b_u5); clear b_u5))
                    go_meet
                    exact ⟨HI, HB⟩
                  · have HMM : Hid (decide (m5 ∈ ds) = false) := Lib.hid (by rw [hmm]; rfl)
                    have gx : ((XX.length : Int) + 1 == 0) = false := by simp; omega
                    clear hmm
                    go_wp2_with fail
                    refine (implWhoMay_any v5 t5 n5 m5 _ HT.out _ true HWH.out).mono ?_
                    rintro e w35 ⟨v8, rfl, h8, b35⟩
                    replace HI := Lib.hid (isRow_afterC HI.out b35)
                    replace HB := Lib.hid (HB.out.trans (b35.mono HB.out.size))
                    replace HT := Lib.hid (HT.out.below rCk_stable b35)
                    replace H6 := Lib.hid (H6.out.below b35)
                    clear b35
                    obtain ⟨lg8, lc8, rfl, lx8⟩ := h8.head
                    clear h8
                    go_wp2_with (first | (go_at_call 16; refine (rHas_any _ ds m5 _ H6.out).mono ?_; rw [HMM.out]; rintro e u5 ⟨rfl, b_u5⟩; replace HI := Lib.hid (isRow_afterC HI.out b_u5); replace HB := Lib.hid (HB.out.trans (b_u5.mono HB.out.size)); replace HT := Lib.hid (HT.out.below rCk_stable b_u5); replace H6 := Lib.hid (H6.out.below b_u5); clear b_u5))
                    go_meet
                    exact ⟨HI, HB⟩
            case rest =>
              as_aux_lemma =>
                clear HI HB HT H6 HD5 en_k5 ee_k5 hn5 hm5 hs5 hl5
                obtain ⟨HI, HB⟩ := hcut
                obtain ⟨W2, hW2⟩ : ∃ x, x = wc := ⟨_, rfl⟩
                subst hW2
                go_wp2_with fail
                refine (drawStandFor_any a len cap zs _ HI.out (by omega)).mono ?_
                rintro e w41 ⟨v, t, x, o, rfl, hx, ho, ⟨hn, hsm, ht, b41⟩⟩
                replace HI := Lib.hid (isRow_afterC HI.out b41)
                replace HB := Lib.hid (HB.out.trans (b41.mono HB.out.size))
                have HT := Lib.hid ht.row
                clear b41 ht hsm
                obtain ⟨xs, ok, hHW⟩ : ∃ xs ok, staRes t x o = (xs, ok) := ⟨_, _, rfl⟩
                have HW := Lib.hid hHW
                clear hHW
                have en_ok : (ok != ok) = false := by simp
                have ee_ok : (ok == ok) = true := by simp
                go_wp2_with fail
                refine (implStand_any v t x o _ HT.out ho xs ok HW.out).mono ?_
                rintro e w42 ⟨v1, rfl, h1, b42⟩
                replace HI := Lib.hid (isRow_afterC HI.out b42)
                replace HB := Lib.hid (HB.out.trans (b42.mono HB.out.size))
                replace HT := Lib.hid (HT.out.below rCk_stable b42)
                have H1 := Lib.hid h1.row
                clear b42 h1
                go_wp2_with fail
                refine (specStand_any v t x o _ HT.out ho xs ok HW.out).mono ?_
                rintro e w43 ⟨v2, rfl, h2, b43⟩
                replace HI := Lib.hid (isRow_afterC HI.out b43)
                replace HB := Lib.hid (HB.out.trans (b43.mono HB.out.size))
                replace HT := Lib.hid (HT.out.below rCk_stable b43)
                replace H1 := Lib.hid (H1.out.below rCk_stable b43)
                have H2 := Lib.hid h2.row
                clear b43 h2
                go_wp2_with fail
                refine (rClerks_same v1 v2 xs _ H1.out H2.out).mono ?_
                rintro e w44 ⟨rfl, b44⟩
                replace HI := Lib.hid (isRow_afterC HI.out b44)
                replace HB := Lib.hid (HB.out.trans (b44.mono HB.out.size))
                replace HT := Lib.hid (HT.out.below rCk_stable b44)
                replace H1 := Lib.hid (H1.out.below rCk_stable b44)
                replace H2 := Lib.hid (H2.out.below rCk_stable b44)
                clear b44
                clear H2
                go_upto_block 0 with fail
                go_cut [33, 34, 35] from 37 to 243 (fun q1 q2 q3 wx => Hid (IsRow .u8 wx a len cap zs) ∧ Hid (Below W.heap.size W wx))
                case first =>
                  as_aux_lemma =>
                    have htc := HT.out.cap
                    obtain ⟨aV, cV, hv, _, hmV, rV⟩ := HT.out.cks
                    subst hv
                    unfold maxLen at hmV
                    clear rV
                    cases ok
                    · go_wp2_with fail
                      go_loopw [33] (fun i wr => i = .int .i64 0 ∧ Hid (IsRow .u8 wr a len cap zs) ∧ Hid (Below W.heap.size W wr)) (fun _ _ => 0)
                      case atStart => exact ⟨rfl, HI, HB⟩
                      case round =>
                        clear HI HB
                        obtain ⟨rfl, HI, HB⟩ := hrel
                        by_cases h0 : 0 < t.length
                        · have d0 : decide ((0 : Int) < (t.length : Int)) = true := decide_eq_true (by omega)
                          have d1 : decide (0 < t.length) = true := decide_eq_true h0
                          go_wp2_with fail
                          go_meet
                          exact ⟨HI, HB⟩
                        · have d0 : decide ((0 : Int) < (t.length : Int)) = false := decide_eq_false (by omega)
                          have d1 : decide (0 < t.length) = false := decide_eq_false h0
                          have HZ := Lib.hid h0
                          clear h0
                          go_wp2_with fail
                          go_meet
                          exact ⟨HI, HB⟩
                    · by_cases ho0 : o = 0
                      · subst ho0
                        go_wp2_with fail
                        go_loopw [33] (fun i wr => ∃ k : Nat, k ≤ t.length ∧ i = .int .i64 k ∧ Hid (IsRow .u8 wr a len cap zs) ∧ Hid (Below W.heap.size W wr) ∧ Hid (RowR 6 rCk wr (.slice aV t.length cV) t) ∧ Hid (RowR 6 rCk wr v1 xs)) (fun i _ => t.length - (intOf i).toNat)
                        case atStart => exact ⟨0, Nat.zero_le _, rfl, HI, HB, HT, H1⟩
                        case round =>
                          clear HI HB HT H1
                          obtain ⟨k, hk, rfl, HI, HB, HT, H1⟩ := hrel
                          by_cases hlt : k < t.length
                          · obtain ⟨aV2, cV2, eV, _, _, rV⟩ := HT.out.cks
                            simp only [Value.slice.injEq, true_and] at eV
                            obtain ⟨rfl, rfl⟩ := eV
                            obtain ⟨bV, oV, _, rfl, eV⟩ := rV.resolve_left (fun e => by rw [e] at hlt; simp at hlt)
                            obtain ⟨f0, _, f2, f3, _⟩ := eV k hlt
                            have hro := fun h => sta_own HW.out (i := k) hlt h
                            obtain ⟨x0, hx0⟩ : ∃ x, (t.getD k ckD).id = x := ⟨_, rfl⟩
                            obtain ⟨x2, hx2⟩ : ∃ x, (t.getD k ckD).rights = x := ⟨_, rfl⟩
                            obtain ⟨x3, hx3⟩ : ∃ x, (t.getD k ckD).frm = x := ⟨_, rfl⟩
                            rw [hx0] at f0 hro
                            rw [hx2] at f2 hro
                            rw [hx3] at f3 hro
                            have g0 : (0 : Int) ≤ (k : Int) := by omega
                            have g1 : (k : Int) < (t.length : Int) := by omega
                            have e2 : (x2 != x2) = false := by simp
                            have HHR := Lib.hid hro
                            clear eV rV hro hx0 hx2 hx3
                            by_cases he : x0 = x
                            · have de : (x0 == x) = true := by simp [he]
                              have HRO := Lib.hid (HHR.out he)
                              clear he
                              go_wp2_with (first | (go_at_call 40; refine (implRightsOn_any _ xs x x3 _ H1.out x2 true HRO.out).mono ?_; rintro e u1 ⟨rfl, b_u1⟩; replace HI := Lib.hid (isRow_afterC HI.out b_u1); replace HB := Lib.hid (HB.out.trans (b_u1.mono HB.out.size)); replace HT := Lib.hid (HT.out.below rCk_stable b_u1); replace H1 := Lib.hid (H1.out.below rCk_stable b_u1); have f2a := cell_kept f2 b_u1; clear b_u1))
                              go_roundw
                              case rel => exact ⟨k + 1, by omega, by go_num, HI, HB, HT, H1⟩
                              case measure => simp [intOf]; omega
                            · have de : (x0 == x) = false := by simp [he]
                              clear he
                              go_wp2_with fail
                              go_roundw
                              case rel => exact ⟨k + 1, by omega, by go_num, HI, HB, HT, H1⟩
                              case measure => simp [intOf]; omega
                          · have g1 : ¬ (k : Int) < (t.length : Int) := by omega
                            have d1 : decide ((k : Int) < (t.length : Int)) = false := decide_eq_false g1
                            have d2 : decide (k < t.length) = false := decide_eq_false hlt
                            have HLT := Lib.hid hlt
                            clear hlt
                            go_wp2_with fail
                            go_meet
                            exact ⟨HI, HB⟩
                      · have do0 : (o == 0) = false := by simp [ho0]
                        have HO0 := Lib.hid ho0
                        clear ho0
                        go_wp2_with fail
                        go_loopw [33] (fun i wr => i = .int .i64 0 ∧ Hid (IsRow .u8 wr a len cap zs) ∧ Hid (Below W.heap.size W wr)) (fun _ _ => 0)
                        case atStart => exact ⟨rfl, HI, HB⟩
                        case round =>
                          clear HI HB
                          obtain ⟨rfl, HI, HB⟩ := hrel
                          by_cases h0 : 0 < t.length
                          · have d0 : decide ((0 : Int) < (t.length : Int)) = true := decide_eq_true (by omega)
                            have d1 : decide (0 < t.length) = true := decide_eq_true h0
                            go_wp2_with fail
                            go_meet
                            exact ⟨HI, HB⟩
                          · have d0 : decide ((0 : Int) < (t.length : Int)) = false := decide_eq_false (by omega)
                            have d1 : decide (0 < t.length) = false := decide_eq_false h0
                            have HZ := Lib.hid h0
                            clear h0
                            go_wp2_with fail
                            go_meet
                            exact ⟨HI, HB⟩
                case rest =>
                  as_aux_lemma =>
                    clear HI HB HT H1 HW hx ho hn en_ok ee_ok
                    obtain ⟨HI, HB⟩ := hcut
                    obtain ⟨W3, hW3⟩ : ∃ x, x = wc := ⟨_, rfl⟩
                    subst hW3
                    go_wp2_with fail
                    refine (drawIsClerk_any a len cap zs _ HI.out (by omega)).mono ?_
                    rintro e w61 ⟨⟨x0, x1, x2, x3, x4, x5⟩, rfl, hok, b61⟩
                    replace HI := Lib.hid (isRow_afterC HI.out b61)
                    replace HB := Lib.hid (HB.out.trans (b61.mono HB.out.size))
                    clear b61
                    simp only
                    obtain ⟨bF, hbF⟩ : ∃ b, ckOne ⟨x0, x1, x2, x3, x4, x5⟩ = b := ⟨_, rfl⟩
                    have hs2 : x1.size ≤ maxLen := hok.2.1
                    have HBF := Lib.hid hbF
                    have q3 : Hid (Below W.heap.size W (w61.alloc (.cells #[.int .i64 x0, .string x1, .int .i64 x2, .int .i64 x3, .int .i64 x4, .int .i64 x5] 65 (0, 0)))) := Lib.hid (HB.out.trans ((below_al (Below.refl _ _) _).mono HB.out.size))
                    have f0 : (w61.alloc (.cells #[.int .i64 x0, .string x1, .int .i64 x2, .int .i64 x3, .int .i64 x4, .int .i64 x5] 65 (0, 0))).cell? ⟨w61.heap.size, 0, none⟩ = some (.int .i64 x0) := cell_new w61 _ _ 0 rfl
                    have f1 : (w61.alloc (.cells #[.int .i64 x0, .string x1, .int .i64 x2, .int .i64 x3, .int .i64 x4, .int .i64 x5] 65 (0, 0))).cell? ⟨w61.heap.size, 1, none⟩ = some (.string x1) := cell_new w61 _ _ 1 rfl
                    have f2 : (w61.alloc (.cells #[.int .i64 x0, .string x1, .int .i64 x2, .int .i64 x3, .int .i64 x4, .int .i64 x5] 65 (0, 0))).cell? ⟨w61.heap.size, 2, none⟩ = some (.int .i64 x2) := cell_new w61 _ _ 2 rfl
                    have f3 : (w61.alloc (.cells #[.int .i64 x0, .string x1, .int .i64 x2, .int .i64 x3, .int .i64 x4, .int .i64 x5] 65 (0, 0))).cell? ⟨w61.heap.size, 3, none⟩ = some (.int .i64 x3) := cell_new w61 _ _ 3 rfl
                    have f4 : (w61.alloc (.cells #[.int .i64 x0, .string x1, .int .i64 x2, .int .i64 x3, .int .i64 x4, .int .i64 x5] 65 (0, 0))).cell? ⟨w61.heap.size, 4, none⟩ = some (.int .i64 x4) := cell_new w61 _ _ 4 rfl
                    have f5 : (w61.alloc (.cells #[.int .i64 x0, .string x1, .int .i64 x2, .int .i64 x3, .int .i64 x4, .int .i64 x5] 65 (0, 0))).cell? ⟨w61.heap.size, 5, none⟩ = some (.int .i64 x5) := cell_new w61 _ _ 5 rfl
                    have een : (bF == bF) = true := by simp
                    clear HB HI hbF hok
                    go_upto_region 38 with fail
                    generalize hWZ : (w61.alloc (.cells #[.int .i64 x0, .string x1, .int .i64 x2, .int .i64 x3, .int .i64 x4, .int .i64 x5] 65 (0, 0))) = wZ at *
                    clear hWZ
                    have k0 := cell_regrown f0
                    have k1 := cell_regrown f1
                    have k2 := cell_regrown f2
                    have k3 := cell_regrown f3
                    have k4 := cell_regrown f4
                    have k5 := cell_regrown f5
                    have hcI := implCk_grown ⟨x0, x1, x2, x3, x4, x5⟩ bF HBF.out hs2 wZ
                    have hcS := specCk_grown ⟨x0, x1, x2, x3, x4, x5⟩ bF HBF.out hs2 wZ
                    simp only at hcI hcS
                    refine wp_region_quiet_below (by kernel_rfl) (by kernel_rfl) ?_
                    repeat (go_big_quiet_step (first | with_reducible exact hcI _ _ | with_reducible exact hcS _ _))
                    refine wpQuiet_nil ?_
                    intro _ hw'
                    obtain ⟨⟨dq, osq⟩, hw''⟩ := hw'
                    subst hw''
                    have bq := below_regrown wZ dq osq
                    generalize grow (redrawn wZ dq) osq = wz at bq ⊢
                    go_wp2
                    go_ret
                    exact ⟨ret_bool (by simp), q3.out.trans (bq.mono q3.out.size)⟩

theorem walkRights (v0 : Value) (x0 : By8) (W : World) (hv0 : ByV W v0 x0) :
    Calls Try.prog 6 #[v0] W fun e w' => e = .returned (.bool true) ∧ Below W.heap.size W w' := by
  obtain ⟨a, len, cap, zs⟩ := x0
  obtain ⟨rfl, hi⟩ := hv0
  exact walkRights0 a len cap zs W hi
end Go.Proofs.Ytalaegkfkjpmoaa
