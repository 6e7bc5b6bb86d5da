/- The law FnClerks: whatever the bytes, the call answers true. No condition. -/
import Derived.Test.YtalaegkfkjpmoaaDrawCk
import Derived.Test.YtalaegkfkjpmoaaCkN
import Derived.Test.YtalaegkfkjpmoaaCkS2
import Derived.Test.YtalaegkfkjpmoaaCkI2
import Derived.Test.YtalaegkfkjpmoaaReadH
import Derived.Test.YtalaegkfkjpmoaaReadCk
import Derived.Test.YtalaegkfkjpmoaaArgBytes
import Derived.Test.YtalaegkfkjpmoaaFrame
import Derived.Lib.QuietBelow
import Derived.BigQuiet
import Derived.Deep.DeepCutAuto
import Derived.Deep.CutBlock
namespace Go.Proofs.Ytalaegkfkjpmoaa
set_option linter.unusedVariables false
open Go.ChangeShapes Go.WideShapes Go.ChangeAt Go.RowKit Go.Sort

set_option maxRecDepth 20000 in
set_option maxHeartbeats 8000000 in
theorem walkClerks0 (a : Option Addr) (len cap : Nat) (zs : List Int) (W : World) (h : IsRow .u8 W a len cap zs) :
    Calls Try.prog 5 #[.slice a len cap] W fun e w' => e = .returned (.bool true) ∧ Below W.heap.size W w' := by
  have hll := isRow_len h
  have HI := Lib.hid h
  clear h
  by_cases hbig : 65536 < len
  · go_enter Try.func5, Try.ntmps5
    go_wp2_with fail
    refine (rBig_any a len cap _ true (by simp; omega) hll).mono ?_
    rintro e w' ⟨rfl, rfl⟩
    go_wp2
    go_ret
    exact ⟨rfl, Below.refl _ _⟩
  · go_enter Try.func5, Try.ntmps5
    go_wp2_with fail
    refine (rBig_any a len cap _ false (by simp; omega) hll).mono ?_
    rintro e w' ⟨rfl, rfl⟩
    have HB : Hid (Below W.heap.size W W) := Lib.hid (Below.refl _ _)
    go_wp2_with fail
    refine (drawWhoMay_any a len cap zs _ HI.out (by omega)).mono ?_
    rintro e w1 ⟨v, t, n, m, rfl, hx, hd, ⟨hn, hsm, ht, b1⟩⟩
    replace HI := Lib.hid (isRow_afterC HI.out b1)
    replace HB := Lib.hid (HB.out.trans (b1.mono HB.out.size))
    have HT := Lib.hid ht.row
    clear b1 ht hsm
    obtain ⟨xs, ok, hHW⟩ : ∃ xs ok, whoRes t n m = (xs, ok) := ⟨_, _, rfl⟩
    have HW := Lib.hid hHW
    clear hHW
    have en_ok : (ok != ok) = false := by simp
    have ee_ok : (ok == ok) = true := by simp
    go_wp2_with fail
    refine (implWhoMay_any v t n m _ HT.out xs ok HW.out).mono ?_
    rintro e w2 ⟨v1, rfl, h1, b2⟩
    replace HI := Lib.hid (isRow_afterC HI.out b2)
    replace HB := Lib.hid (HB.out.trans (b2.mono HB.out.size))
    replace HT := Lib.hid (HT.out.below rCk_stable b2)
    have H1 := Lib.hid h1.row
    clear b2 h1
    go_wp2_with fail
    refine (specWhoMay_any v t n m _ HT.out xs ok HW.out).mono ?_
    rintro e w3 ⟨v2, rfl, h2, b3⟩
    replace HI := Lib.hid (isRow_afterC HI.out b3)
    replace HB := Lib.hid (HB.out.trans (b3.mono HB.out.size))
    replace HT := Lib.hid (HT.out.below rCk_stable b3)
    replace H1 := Lib.hid (H1.out.below b3)
    have H2 := Lib.hid h2.row
    clear b3 h2
    go_wp2_with fail
    refine (rInts_same v1 v2 xs _ H1.out H2.out).mono ?_
    rintro e w4 ⟨rfl, b4⟩
    replace HI := Lib.hid (isRow_afterC HI.out b4)
    replace HB := Lib.hid (HB.out.trans (b4.mono HB.out.size))
    replace HT := Lib.hid (HT.out.below rCk_stable b4)
    replace H1 := Lib.hid (H1.out.below b4)
    replace H2 := Lib.hid (H2.out.below b4)
    clear b4
    clear H2
    go_upto_block 0 with fail
    go_cut [10, 11, 12, 13, 14] from 38 to 237 (fun q1 q2 q3 q4 q5 wx => Hid (IsRow .u8 wx a len cap zs) ∧ Hid (Below W.heap.size W wx))
    case first =>
      have htc := HT.out.cap
      obtain ⟨aV, cV, hv, _, hmV, rV⟩ := HT.out.cks
      subst hv
      unfold maxLen at hmV
      clear rV
      cases ok
      · go_wp2_with fail
        go_loopw [10] (fun i wr => i = .int .i64 0 ∧ Hid (IsRow .u8 wr a len cap zs) ∧ Hid (Below W.heap.size W wr)) (fun _ _ => 0)
        case atStart => exact ⟨rfl, HI, HB⟩
        case round =>
          clear HI HB
          obtain ⟨rfl, HI, HB⟩ := hrel
          by_cases h0 : 0 < t.length
          · have d0 : decide ((0 : Int) < (t.length : Int)) = true := decide_eq_true (by omega)
            have d1 : decide (0 < t.length) = true := decide_eq_true h0
            go_wp2_with fail
            go_meet
            exact ⟨HI, HB⟩
          · have d0 : decide ((0 : Int) < (t.length : Int)) = false := decide_eq_false (by omega)
            have d1 : decide (0 < t.length) = false := decide_eq_false h0
            have HZ := Lib.hid h0
            clear h0
            go_wp2_with fail
            go_meet
            exact ⟨HI, HB⟩
      · obtain ⟨hA, hS, hD, hxs⟩ := who_told HW.out
        have HA := Lib.hid hA
        have HS := Lib.hid hS
        have HDD := Lib.hid hD
        have HXS := Lib.hid hxs
        clear hA hS hD hxs
        go_wp2_with fail
        go_loopw [10] (fun i wr => ∃ k : Nat, k ≤ t.length ∧ i = .int .i64 k ∧ Hid (IsRow .u8 wr a len cap zs) ∧ Hid (Below W.heap.size W wr) ∧ Hid (RowR 6 rCk wr (.slice aV t.length cV) t) ∧ Hid (RowOf vI wr v1 xs)) (fun i _ => t.length - (intOf i).toNat)
        case atStart => exact ⟨0, Nat.zero_le _, rfl, HI, HB, HT, H1⟩
        case round =>
          clear HI HB HT H1
          obtain ⟨k, hk, rfl, HI, HB, HT, H1⟩ := hrel
          by_cases hlt : k < t.length
          · obtain ⟨aV2, cV2, eV, _, _, rV⟩ := HT.out.cks
            simp only [Value.slice.injEq, true_and] at eV
            obtain ⟨rfl, rfl⟩ := eV
            obtain ⟨bV, oV, _, rfl, eV⟩ := rV.resolve_left (fun e => by rw [e] at hlt; simp at hlt)
            obtain ⟨f0, _⟩ := eV k hlt
            have hro := rOn_self HA.out hlt HDD.out
            have hmy := may_self HA.out hlt HDD.out HS.out
            have hmm := who_mem HA.out (r := n) (d := m) hlt
            have hnt := rights_not10 HA.out hlt m
            obtain ⟨x0, hx0⟩ : ∃ x, (t.getD k ckD).id = x := ⟨_, rfl⟩
            obtain ⟨R, hR⟩ : ∃ R, rightsC t (t.getD k ckD) m = R := ⟨_, rfl⟩
            obtain ⟨bC, hbC⟩ : ∃ b, hasR R n = b := ⟨_, rfl⟩
            rw [hx0] at f0 hro hmy hmm
            rw [hR] at hro hmy hmm hnt
            rw [hbC] at hmy hmm
            rw [← HXS.out] at hmm
            have dC : (bits .and .i64 R n == n) = bC := by rw [← hbC, Bool.eq_iff_iff]; simp [hasR]
            have d10 : (bits .and .i64 R 10 == 10) = false := by
              have := hnt
              unfold hasR at this
              rw [← this, Bool.eq_iff_iff]; simp
            have HRO := Lib.hid hro
            have HMY := Lib.hid hmy
            have HMM := Lib.hid hmm
            have g0 : (0 : Int) ≤ (k : Int) := by omega
            have g1 : (k : Int) < (t.length : Int) := by omega
            have eC : (bC != bC) = false := by simp
            clear eV rV hro hmy hmm hnt hx0 hR hbC
            go_wp2_with (first | (go_at_call 40; refine (implRightsOn_any _ t x0 m _ HT.out R true HRO.out).mono ?_; rintro e u1 ⟨rfl, b_u1⟩; replace HI := Lib.hid (isRow_afterC HI.out b_u1); replace HB := Lib.hid (HB.out.trans (b_u1.mono HB.out.size)); replace HT := Lib.hid (HT.out.below rCk_stable b_u1); replace H1 := Lib.hid (H1.out.below b_u1); have f0a := cell_kept f0 b_u1; clear b_u1) | (go_at_call 41; refine (implMayDo_any _ t x0 n m _ HT.out bC true HMY.out).mono ?_; rintro e u2 ⟨rfl, b_u2⟩; replace HI := Lib.hid (isRow_afterC HI.out b_u2); replace HB := Lib.hid (HB.out.trans (b_u2.mono HB.out.size)); replace HT := Lib.hid (HT.out.below rCk_stable b_u2); replace H1 := Lib.hid (H1.out.below b_u2); have f0b := cell_kept f0a b_u2; clear b_u2) | (go_at_call 16; refine (rHas_any _ xs x0 _ H1.out).mono ?_; rw [HMM.out]; rintro e u3 ⟨rfl, b_u3⟩; replace HI := Lib.hid (isRow_afterC HI.out b_u3); replace HB := Lib.hid (HB.out.trans (b_u3.mono HB.out.size)); replace HT := Lib.hid (HT.out.below rCk_stable b_u3); replace H1 := Lib.hid (H1.out.below b_u3); clear b_u3))
            go_roundw
            case rel => exact ⟨k + 1, by omega, by go_num, HI, HB, HT, H1⟩
            case measure => simp [intOf]; omega
          · have g1 : ¬ (k : Int) < (t.length : Int) := by omega
            have d1 : decide ((k : Int) < (t.length : Int)) = false := decide_eq_false g1
            have d2 : decide (k < t.length) = false := decide_eq_false hlt
            have HLT := Lib.hid hlt
            clear hlt
            go_wp2_with fail
            go_meet
            exact ⟨HI, HB⟩
    case rest =>
      clear HI HB HT H1 HW hx hd hn en_ok ee_ok
      obtain ⟨HI, HB⟩ := hcut
      obtain ⟨W1, hW1⟩ : ∃ x, x = wc := ⟨_, rfl⟩
      subst hW1
      go_wp2_with fail
      refine (drawPairFor_any a len cap zs _ HI.out (by omega)).mono ?_
      rintro e w21 ⟨v, t, n, rfl, hx, ⟨hn, hsm, ht, b21⟩⟩
      replace HI := Lib.hid (isRow_afterC HI.out b21)
      replace HB := Lib.hid (HB.out.trans (b21.mono HB.out.size))
      have HT := Lib.hid ht.row
      clear b21 ht hsm
      obtain ⟨p1, p2, ok, hHP⟩ : ∃ p1 p2 ok, pairRes t n = (p1, p2, ok) := ⟨_, _, _, rfl⟩
      have HP := Lib.hid hHP
      clear hHP
      have en_p1 : (p1 != p1) = false := by simp
      have ee_p1 : (p1 == p1) = true := by simp
      have en_p2 : (p2 != p2) = false := by simp
      have ee_p2 : (p2 == p2) = true := by simp
      have en_ok : (ok != ok) = false := by simp
      have ee_ok : (ok == ok) = true := by simp
      go_wp2_with fail
      refine (implPairFor_any v t n _ HT.out p1 p2 ok HP.out).mono ?_
      rintro e w22 ⟨rfl, b22⟩
      replace HI := Lib.hid (isRow_afterC HI.out b22)
      replace HB := Lib.hid (HB.out.trans (b22.mono HB.out.size))
      replace HT := Lib.hid (HT.out.below rCk_stable b22)
      clear b22
      go_wp2_with fail
      refine (specPairFor_any v t n _ HT.out p1 p2 ok HP.out).mono ?_
      rintro e w23 ⟨rfl, b23⟩
      replace HI := Lib.hid (isRow_afterC HI.out b23)
      replace HB := Lib.hid (HB.out.trans (b23.mono HB.out.size))
      replace HT := Lib.hid (HT.out.below rCk_stable b23)
      clear b23
      have hne : ok = true → (p1 == p2) = false := fun h => by have := HP.out; rw [h] at this; have := pair_ne this; simp [this]
      clear HP
      cases ok
      all_goals
        try have hne2 := hne rfl
        clear hne
        clear HT
        clear hx hn
        go_wp2_with fail
        refine (drawMayDo_any a len cap zs _ HI.out (by omega)).mono ?_
        rintro e w24 ⟨v2, t2, n2, m2, r2, rfl, hx2, hd2, he2, ⟨hn2, hsm2, ht2, b24⟩⟩
        replace HI := Lib.hid (isRow_afterC HI.out b24)
        replace HB := Lib.hid (HB.out.trans (b24.mono HB.out.size))
        have HT := Lib.hid ht2.row
        clear b24 ht2 hsm2
        obtain ⟨c2, k2, hHP2⟩ : ∃ c2 k2, mayRes t2 n2 m2 r2 = (c2, k2) := ⟨_, _, rfl⟩
        have HP2 := Lib.hid hHP2
        clear hHP2
        have en_c2 : (c2 != c2) = false := by simp
        have ee_c2 : (c2 == c2) = true := by simp
        have en_k2 : (k2 != k2) = false := by simp
        have ee_k2 : (k2 == k2) = true := by simp
        go_wp2_with fail
        refine (implMayDo_any v2 t2 n2 m2 r2 _ HT.out c2 k2 HP2.out).mono ?_
        rintro e w25 ⟨rfl, b25⟩
        replace HI := Lib.hid (isRow_afterC HI.out b25)
        replace HB := Lib.hid (HB.out.trans (b25.mono HB.out.size))
        replace HT := Lib.hid (HT.out.below rCk_stable b25)
        clear b25
        go_wp2_with fail
        refine (specMayDo_any v2 t2 n2 m2 r2 _ HT.out c2 k2 HP2.out).mono ?_
        rintro e w26 ⟨rfl, b26⟩
        replace HI := Lib.hid (isRow_afterC HI.out b26)
        replace HB := Lib.hid (HB.out.trans (b26.mono HB.out.size))
        replace HT := Lib.hid (HT.out.below rCk_stable b26)
        clear b26
        clear HT
        go_wp2_with fail
        refine (drawRightsOn_any a len cap zs _ HI.out (by omega)).mono ?_
        rintro e w27 ⟨v3, t3, n3, m3, rfl, hx3, hd3, ⟨hn3, hsm3, ht3, b27⟩⟩
        replace HI := Lib.hid (isRow_afterC HI.out b27)
        replace HB := Lib.hid (HB.out.trans (b27.mono HB.out.size))
        have HT := Lib.hid ht3.row
        clear b27 ht3 hsm3
        obtain ⟨c3, k3, hHP3⟩ : ∃ c3 k3, rOnRes t3 n3 m3 = (c3, k3) := ⟨_, _, rfl⟩
        have HP3 := Lib.hid hHP3
        clear hHP3
        have en_c3 : (c3 != c3) = false := by simp
        have ee_c3 : (c3 == c3) = true := by simp
        have en_k3 : (k3 != k3) = false := by simp
        have ee_k3 : (k3 == k3) = true := by simp
        obtain ⟨bA, hbA⟩ : ∃ b, areCk t3 = b := ⟨_, rfl⟩
        have HBA := Lib.hid hbA
        clear hbA
        have en_bA : (bA != bA) = false := by simp
        have ee_bA : (bA == bA) = true := by simp
        go_wp2_with fail
        refine (implRightsOn_any v3 t3 n3 m3 _ HT.out c3 k3 HP3.out).mono ?_
        rintro e w28 ⟨rfl, b28⟩
        replace HI := Lib.hid (isRow_afterC HI.out b28)
        replace HB := Lib.hid (HB.out.trans (b28.mono HB.out.size))
        replace HT := Lib.hid (HT.out.below rCk_stable b28)
        clear b28
        go_wp2_with fail
        refine (specRightsOn_any v3 t3 n3 m3 _ HT.out c3 k3 HP3.out).mono ?_
        rintro e w29 ⟨rfl, b29⟩
        replace HI := Lib.hid (isRow_afterC HI.out b29)
        replace HB := Lib.hid (HB.out.trans (b29.mono HB.out.size))
        replace HT := Lib.hid (HT.out.below rCk_stable b29)
        clear b29
        go_wp2_with (first | (go_at_call 49; refine (implAreCk_any v3 t3 _ HT.out).mono ?_; rw [HBA.out]; rintro e u8 ⟨rfl, b_u8⟩; replace HI := Lib.hid (isRow_afterC HI.out b_u8); replace HB := Lib.hid (HB.out.trans (b_u8.mono HB.out.size)); replace HT := Lib.hid (HT.out.below rCk_stable b_u8); clear b_u8) | (go_at_call 50; refine (specAreCk_any v3 t3 _ HT.out).mono ?_; rw [HBA.out]; rintro e u9 ⟨rfl, b_u9⟩; replace HI := Lib.hid (isRow_afterC HI.out b_u9); replace HB := Lib.hid (HB.out.trans (b_u9.mono HB.out.size)); replace HT := Lib.hid (HT.out.below rCk_stable b_u9); clear b_u9))
        go_ret
        exact ⟨rfl, HB.out⟩

theorem walkClerks (v0 : Value) (x0 : By8) (W : World) (hv0 : ByV W v0 x0) :
    Calls Try.prog 5 #[v0] W fun e w' => e = .returned (.bool true) ∧ Below W.heap.size W w' := by
  obtain ⟨a, len, cap, zs⟩ := x0
  obtain ⟨rfl, hi⟩ := hv0
  exact walkClerks0 a len cap zs W hi

set_option maxRecDepth 100000 in
theorem fnClerks_lifted (os : Os) (started : os.Started) (H : Type) (enc : TypeId × Value → H) :
    ReturnsInHanded {} Try.checked os 5 .any (Rows.fnClerksSpec.pre6 enc Try.prog Try.f5 Rows.fnClerksRow.domain false) (Rows.fnClerksSpec.post enc Try.prog Try.f5 false true false false) := by
  refine returnsInHanded_of_change (C := Try.checked) Try.own started (by kernel_rfl) Try.func5
    (ChangeSpec.witness6 (enc := enc) (C := Try.checked) false ⟨#[], #[.slice none 0 0], []⟩ 8 (by kernel_rfl) (by kernel_rfl) (by kernel_rfl) (by kernel_rfl)) ?_
  intro W base args ds gs before hval0 hW hcnd _
  have hval : ∀ (j : Nat) t v, Try.f5.params[j]? = some t → args[j]? = some v → Value.okWide Try.prog W .any base t v := hval0
  have hW' := hW
  obtain ⟨p, q, hA0, hV, rfl, hfz, hnd⟩ := hW
  have hA : DataW.TrodAll enc Try.prog W 0 (fun _ => true) true Try.f5.params.toList args.toList ds p := hA0
  rw [Try.params5] at hA hval
  obtain ⟨v0, vs0, d0, ds0, p0, q0, hargs, rfl, rfl, h0, r0⟩ := trodAll_cons hA
  obtain ⟨rfl, rfl, rfl⟩ := trodAll_nil r0
  obtain rfl : args = #[v0] := by cases args; simp_all
  obtain ⟨rfl, rfl⟩ := trodVars_none hV
  obtain ⟨x0, w0⟩ := arg_code (hval 0 22 v0 rfl rfl) h0
  have lt0 : ∀ x ∈ p0, x.block < W.heap.size := by obtain ⟨m, hm⟩ := h0; exact DataW.trod_lt m _ _ _ hm
  clear hA0 hval0
  refine (walkClerks v0 x0 W w0).mono fun e W' ⟨he, bel⟩ => ?_
  subst he
  exact ⟨_, rfl, _, _, _, [], _, [], hW', trodAll_mk1 (shut_bool Try.underlying4 _), (trodAll_cons_mk (Below.trod Try.laidOut (by kernel_rfl) (of_decide_eq_true (by kernel_rfl)) h0 bel lt0) trodAll_mk0), rfl, bel.frame _, fun h => by cases h⟩

/-- THE STATEMENT. -/
theorem fnClerks_proved : Rows.FnClerksSaid :=
  OpenClaim.holds_of_wide 5 Try.f5 rfl rfl rfl rfl rfl rfl rfl ⟨rfl, rfl, rfl, rfl, rfl⟩ rfl rfl rfl rfl rfl (by kernel_rfl) Try.func5 (by kernel_rfl)
    (of_decide_eq_true (by kernel_rfl)) (by unfold Func.isWrapper; first | (rw [if_pos (by decide +kernel)]; kernel_rfl) | (rw [if_neg (by decide +kernel)]; exact ⟨rfl, rfl⟩))
    (fun os started H enc _ => fnClerks_lifted os started H enc)
end Go.Proofs.Ytalaegkfkjpmoaa
