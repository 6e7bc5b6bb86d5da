/- The law FnPages: whatever the bytes, the call answers true. No condition. -/
import Derived.Test.YtpbjddiopfkgbaaDoorSinceI
import Derived.Test.YtpbjddiopfkgbaaDoorSinceS
import Derived.Test.YtpbjddiopfkgbaaDoorFiC
import Derived.Test.YtpbjddiopfkgbaaDoorSplFi
import Derived.Test.YtpbjddiopfkgbaaDoorSerI
import Derived.Test.YtpbjddiopfkgbaaDoorDrawFiAll
import Derived.Test.YtpbjddiopfkgbaaDoorFrame
import Derived.Test.YtpbjddiopfkgbaaDoorCards
import Derived.Test.YtpbjddiopfkgbaaDoorTie
import Derived.Test.YtpbjddiopfkgbaaDoorStepTab
import Derived.Deep.DeepHandedRow
import Derived.ProofKit
import Derived.Lib.QuietBelow
import Derived.Deep.DeepCutAuto
import Derived.Deep.CutBlock
namespace Go.Proofs.YtpbjddiopfkgbaaDoor
set_option linter.unusedVariables false
open Go.ChangeShapes Go.WideShapes Go.ChangeAt Go.RowKit Go.Sort

set_option maxHeartbeats 1000000 in
theorem rTable_same (v1 v2 : Value) (xss : List (List Int)) (w : World) (h1 : TabR w v1 xss) (h2 : TabR w v2 xss) :
    Calls Tryd.prog 42 #[v1, v2] w fun e w' => e = .returned (.bool true) ∧ Below w.heap.size w w' := by
  have hx := h1.cap
  obtain ⟨a1, c1, rfl, hl1, hm1, r1⟩ := h1
  obtain ⟨a2, c2, rfl, hl2, hm2, r2⟩ := h2
  have hne : (((xss.length : Nat) : Int) != (xss.length : Int)) = false := by simp
  have R1 := Lib.hid r1
  have R2 := Lib.hid r2
  clear r1 r2
  go_enter Tryd.func42, Tryd.ntmps42
  go_wp2
  go_loopw [5] (fun i wr => ∃ k : Nat, k ≤ xss.length ∧ i = .int .i64 k ∧ Below w.heap.size w wr) (fun i _ => xss.length - (intOf i).toNat)
  case atStart => exact ⟨0, Nat.zero_le _, rfl, Below.refl _ _⟩
  case round =>
    obtain ⟨k, hk, rfl, hb⟩ := hrel
    by_cases hlt : k < xss.length
    · obtain ⟨b1, o1, hb1, rfl, e1⟩ := R1.out.resolve_left (fun e => by rw [e] at hlt; simp at hlt)
      obtain ⟨b2, o2, hb2, rfl, e2⟩ := R2.out.resolve_left (fun e => by rw [e] at hlt; simp at hlt)
      obtain ⟨s1, p1, q1⟩ := e1 k hlt
      obtain ⟨s2, p2, q2⟩ := e2 k hlt
      have f1 := (hb.cell (p := ⟨b1, o1 + k, none⟩) hb1).trans p1
      have f2 := (hb.cell (p := ⟨b2, o2 + k, none⟩) hb2).trans p2
      have m1 := cell_regrown f1
      have m2 := cell_regrown f2
      have Q1 := Lib.hid (q1.below hb)
      have Q2 := Lib.hid (q2.below hb)
      have g0 : (0 : Int) ≤ (k : Int) := by omega
      have g1 : (k : Int) < (xss.length : Int) := by omega
      have hw := hb.size
      have hc : ∀ d os, Calls Tryd.prog 36 #[s1, s2] (grow (redrawn wr d) os) fun e w'' => e = .returned (.bool true) ∧ ∃ p : Regrown, w'' = grow (redrawn wr p.d) p.os := fun d os => Calls.regrown_of (by have := rInts_any s1 s2 xss[k] xss[k] (grow (redrawn wr d) os) (Q1.out.below (below_regrown wr d os)) (Q2.out.below (below_regrown wr d os)); rwa [decide_eq_true rfl] at this)
      clear e1 e2 p1 p2 q1 q2
      go_wp2_with fail
      refine wp_region_quiet_below (by kernel_rfl) (by kernel_rfl) ?_
      repeat (go_big_quiet_step (first | exact hc _ _))
      refine wpQuiet_nil ?_
      intro _ hw'
      obtain ⟨⟨dq, osq⟩, hw''⟩ := hw'
      subst hw''
      have bq := below_regrown wr dq osq
      generalize grow (redrawn wr dq) osq = w2 at bq ⊢
      go_wp2
      go_roundw
      case rel => exact ⟨k + 1, by omega, by go_num, hb.trans (bq.mono hw)⟩
      case measure => simp [intOf]; omega
    · go_wp2
      go_ret
      exact ⟨rfl, hb⟩
theorem row_three {w : World} {v : Value} {xs : List Int} (h : RowOf vI w v xs) (h3 : xs.length = 3) : ∃ b off c, v = .slice (some ⟨b, off, none⟩) 3 c ∧ w.cell? ⟨b, off, none⟩ = some (.int .i64 (xs.getD 0 0)) ∧ w.cell? ⟨b, off + 2, none⟩ = some (.int .i64 (xs.getD 2 0)) := by
  obtain ⟨a, c, rfl, h1, h2, h4⟩ := h
  obtain ⟨b, off, hb, rfl, hc⟩ := h4.resolve_left (fun e => by rw [e] at h3; simp at h3)
  refine ⟨b, off, c, by rw [h3], ?_, ?_⟩
  · have := hc 0 (by omega)
    rw [Nat.add_zero] at this
    rw [this, List.getD_eq_getElem?_getD, List.getElem?_eq_getElem (by omega : 0 < xs.length)]
    rfl
  · rw [hc 2 (by omega), List.getD_eq_getElem?_getD, List.getElem?_eq_getElem (by omega : 2 < xs.length)]
    rfl
theorem tab_at {w : World} {a : Option Addr} {n c : Nat} {xss : List (List Int)} (h : TabR w (.slice a n c) xss) {k : Nat} (hk : k < xss.length) : ∃ b off sv, a = some ⟨b, off, none⟩ ∧ w.cell? ⟨b, off + k, none⟩ = some sv ∧ RowOf vI w sv (xss.getD k []) := by
  obtain ⟨a', c', e, _, _, h3⟩ := h
  cases e
  obtain ⟨b, off, hb, rfl, hc⟩ := h3.resolve_left (fun e => by rw [e] at hk; simp at hk)
  obtain ⟨sv, h1, h2⟩ := hc k hk
  exact ⟨b, off, sv, rfl, h1, by rw [List.getD_eq_getElem?_getD, List.getElem?_eq_getElem hk]; exact h2⟩

set_option maxRecDepth 20000 in
set_option maxHeartbeats 8000000 in
theorem walkPages (v0 : Value) (x0 : By8) (W : World) (hv0 : ByV W v0 x0) (hE : Steps W) :
    Calls Tryd.prog 4 #[v0] W fun e w' => e = .returned (.bool true) ∧ Below W.heap.size W w' := by
  obtain ⟨a, len, cap, zs⟩ := x0
  obtain ⟨rfl, hi⟩ := hv0
  simp only at hi ⊢
  have HI := Lib.hid hi
  have HE := Lib.hid hE
  have hll := isRow_len hi
  clear hi hE
  by_cases hbig : 65536 < len
  · go_enter Tryd.func4, Tryd.ntmps4
    go_wp2_with fail
    refine (rBig_any a len cap _ true (by simp; omega) hll).mono ?_
    rintro e w' ⟨rfl, rfl⟩
    go_wp2
    go_ret
    exact ⟨rfl, Below.refl _ _⟩
  · go_enter Tryd.func4, Tryd.ntmps4
    go_wp2_with fail
    refine (rBig_any a len cap _ false (by simp; omega) hll).mono ?_
    rintro e w' ⟨rfl, rfl⟩
    have HB : Hid (Below W.heap.size W W) := Lib.hid (Below.refl _ _)
    go_wp2_with fail
    refine (drawSplit_any a len cap zs _ HI.out (by omega)).mono ?_
    rintro e w1 ⟨v, t, x, p, nm, rfl, hx, hp, hnm, ⟨hn, hsm, ht, b1⟩⟩
    replace HI := Lib.hid (isRow_afterF HI.out b1)
    replace HB := Lib.hid (HB.out.trans (b1.mono HB.out.size))
    replace HE := Lib.hid (HE.out.later b1)
    have HT := Lib.hid ht.row
    clear b1 ht hsm
    have hnm2 : nm.size ≤ 1048576 := by omega
    obtain ⟨⟨xs, nid, ok⟩, hres⟩ : ∃ z, splRes t x p nm = z := ⟨_, rfl⟩
    have HRES := Lib.hid hres
    clear hres
    go_wp2_with fail
    refine (implSplitFile_any v t x p nm _ HT.out (by unfold maxLen; omega) HE.out xs nid ok HRES.out).mono ?_
    rintro e w2 ⟨v1, rfl, h1, b2⟩
    replace HI := Lib.hid (isRow_afterF HI.out b2)
    replace HB := Lib.hid (HB.out.trans (b2.mono HB.out.size))
    replace HE := Lib.hid (HE.out.later b2)
    replace HT := Lib.hid (HT.out.below rFi_stable b2)
    have H1 := Lib.hid h1.row
    clear b2 h1
    go_wp2_with fail
    refine (specSplitFile_any v t x p nm _ HT.out (by unfold maxLen; omega) xs nid ok HRES.out).mono ?_
    rintro e w3 ⟨v2, rfl, h2, b3⟩
    replace HI := Lib.hid (isRow_afterF HI.out b3)
    replace HB := Lib.hid (HB.out.trans (b3.mono HB.out.size))
    replace HE := Lib.hid (HE.out.later b3)
    replace HT := Lib.hid (HT.out.below rFi_stable b3)
    replace H1 := Lib.hid (H1.out.below rFi_stable b3)
    have H2 := Lib.hid h2.row
    clear b3 h2
    have hnn : (nid != nid) = false := by simp
    go_wp2_with fail
    refine (rFiles_same v1 v2 xs _ H1.out H2.out).mono ?_
    rintro e w4 ⟨rfl, b4⟩
    replace HI := Lib.hid (isRow_afterF HI.out b4)
    replace HB := Lib.hid (HB.out.trans (b4.mono HB.out.size))
    replace HE := Lib.hid (HE.out.later b4)
    replace HT := Lib.hid (HT.out.below rFi_stable b4)
    replace H1 := Lib.hid (H1.out.below rFi_stable b4)
    replace H2 := Lib.hid (H2.out.below rFi_stable b4)
    clear b4
    clear H2
    go_upto_if 80 with fail
    go_cut [13, 14, 15, 16, 17] from 39 to 260 (fun q r q2 r2 ii wx => Hid (IsRow .u8 wx a len cap zs) ∧ Hid (Below W.heap.size W wx) ∧ Hid (Steps wx))
    case first =>
      as_aux_lemma =>
        cases ok
        · go_wp2_with fail
          go_meet
          exact ⟨HI, HB, HE⟩
        · obtain ⟨ra, rb, hr1, hr2, hv, hl, ha3, hb3, heq⟩ := spl_pages HRES.out
          have HR1 := Lib.hid hr1
          have HR2 := Lib.hid hr2
          have HV := Lib.hid hv
          have HA3 := Lib.hid ha3
          have HB3 := Lib.hid hb3
          have HEQ := Lib.hid heq
          have HLL := Lib.hid hl
          clear hr1 hr2 hv ha3 hb3 heq
          go_wp2_with fail
          refine (implSeriesPages_any v t _ HT.out ra true HR1.out).mono ?_
          rintro e w5 ⟨v3, rfl, h3, b5⟩
          replace HI := Lib.hid (isRow_afterF HI.out b5)
          replace HB := Lib.hid (HB.out.trans (b5.mono HB.out.size))
          replace HE := Lib.hid (HE.out.later b5)
          replace HT := Lib.hid (HT.out.below rFi_stable b5)
          replace H1 := Lib.hid (H1.out.below rFi_stable b5)
          have H3 := Lib.hid h3.row
          clear b5 h3
          go_wp2_with fail
          refine (implSeriesPages_any v1 xs _ H1.out rb true HR2.out).mono ?_
          rintro e w6 ⟨v4, rfl, h4, b6⟩
          replace HI := Lib.hid (isRow_afterF HI.out b6)
          replace HB := Lib.hid (HB.out.trans (b6.mono HB.out.size))
          replace HE := Lib.hid (HE.out.later b6)
          replace HT := Lib.hid (HT.out.below rFi_stable b6)
          replace H1 := Lib.hid (H1.out.below rFi_stable b6)
          replace H3 := Lib.hid (H3.out.below b6)
          have H4 := Lib.hid h4.row
          clear b6 h4
          have H30 := H3.out
          have H40 := H4.out
          obtain ⟨a3, c3, e3, l3, m3, _⟩ := H30
          obtain ⟨a4, c4, e4, l4, m4, _⟩ := H40
          subst e3 e4
          rw [← hl]
          rw [← hl] at H4
          have hle : ((ra.length : Int) != (ra.length : Int)) = false := by simp
          unfold maxLen at m3 m4
          clear hl
          go_wp2_with fail
          refine (implAreFi_any v1 xs _ H1.out).mono ?_
          rintro e w7 ⟨rfl, b7⟩
          replace HI := Lib.hid (isRow_afterF HI.out b7)
          replace HB := Lib.hid (HB.out.trans (b7.mono HB.out.size))
          replace HE := Lib.hid (HE.out.later b7)
          replace HT := Lib.hid (HT.out.below rFi_stable b7)
          replace H1 := Lib.hid (H1.out.below rFi_stable b7)
          replace H3 := Lib.hid (H3.out.below b7)
          replace H4 := Lib.hid (H4.out.below b7)
          clear b7
          rw [HV.out]
          have HI0 := HI
          have HB0 := HB
          have HE0 := HE
          have H30 := H3
          have H40 := H4
          clear HI HB HE H3 H4 HT H1 HRES HR1 HR2 HV
          go_wp2_with fail
          go_loopw [17] (fun i wr => ∃ k : Nat, k ≤ ra.length ∧ i = .int .i64 k ∧ Hid (IsRow .u8 wr a len cap zs) ∧ Hid (Below W.heap.size W wr) ∧ Hid (Steps wr) ∧ Hid (TabR wr (.slice a3 ra.length c3) ra) ∧ Hid (TabR wr (.slice a4 ra.length c4) rb)) (fun i _ => ra.length - (intOf i).toNat)
          case atStart => exact ⟨0, Nat.zero_le _, rfl, HI0, HB0, HE0, H30, H40⟩
          case round =>
            clear HI0 HB0 HE0 H30 H40
            obtain ⟨k, hk, rfl, HI, HB, HE, H3, H4⟩ := hrel
            by_cases hlt : k < ra.length
            · have g0 : (0 : Int) ≤ (k : Int) := by omega
              have g1 : (k : Int) < (ra.length : Int) := by omega
              have hkp : IntKind.i64.wrap ((k : Int) + 1) = (k : Int) + 1 := Go.IntWalk.i64_in _ (by omega)
              have hlt2 : k < rb.length := by have := HLL.out; omega
              obtain ⟨bA, oA, s1, eA, p1, q1⟩ := tab_at H3.out hlt
              obtain ⟨bB, oB, s2, eB, p2, q2⟩ := tab_at H4.out hlt2
              subst eA eB
              have t1 : (ra.getD k []).length = 3 := HA3.out _ (by rw [List.getD_eq_getElem?_getD, List.getElem?_eq_getElem hlt]; exact List.getElem_mem hlt)
              have t2 : (rb.getD k []).length = 3 := HB3.out _ (by rw [List.getD_eq_getElem?_getD, List.getElem?_eq_getElem hlt2]; exact List.getElem_mem hlt2)
              obtain ⟨b1, o1, d1, e1, y0, y2⟩ := row_three q1 t1
              obtain ⟨b2, o2, d2, e2, z0, z2⟩ := row_three q2 t2
              obtain ⟨h0, h2⟩ := HEQ.out k hlt
              rw [← h0] at z0
              rw [← h2] at z2
              subst e1 e2
              obtain ⟨n0, hn0⟩ : ∃ n, (ra.getD k []).getD 0 0 = n := ⟨_, rfl⟩
              obtain ⟨n2, hn2⟩ : ∃ n, (ra.getD k []).getD 2 0 = n := ⟨_, rfl⟩
              rw [hn0] at y0 z0
              rw [hn2] at y2 z2
              have kp1 := cell_regrown p1
              have kp2 := cell_regrown p2
              have ky0 := cell_regrown y0
              have ky2 := cell_regrown y2
              have kz0 := cell_regrown z0
              have kz2 := cell_regrown z2
              clear q1 q2 t1 t2 h0 h2 hn0 hn2
              go_upto_region 16 with fail
              refine wp_region_quiet_below (by kernel_rfl) (by kernel_rfl) ?_
              repeat (go_big_quiet_step (fail))
              refine wpQuiet_nil ?_
              intro _ hw'
              obtain ⟨⟨dq, osq⟩, hw''⟩ := hw'
              subst hw''
              have bq := below_regrown wr dq osq
              have HIq := Lib.hid (isRow_afterF HI.out bq)
              have HBq := Lib.hid (HB.out.trans (bq.mono HB.out.size))
              have HEq := Lib.hid (HE.out.later bq)
              have H3q := Lib.hid (H3.out.below bq)
              have H4q := Lib.hid (H4.out.below bq)
              clear p1 p2 y0 y2 z0 z2 kp1 kp2 ky0 ky2 kz0 kz2 HI HB HE H3 H4
              generalize grow (redrawn wr dq) osq = wz at bq HIq HBq HEq H3q H4q ⊢
              go_wp2_with fail
              go_roundw
              case rel => exact ⟨k + 1, by omega, by go_num, HIq, HBq, HEq, H3q, H4q⟩
              case measure => simp [intOf]; omega
            · have g2 : decide ((k : Int) < (ra.length : Int)) = false := decide_eq_false (by omega)
              have g3 : ¬ ((k : Int) < (ra.length : Int)) := by omega
              go_wp2_with fail
              go_meet
              exact ⟨HI, HB, HE⟩
    case rest =>
      clear HI HB HE HT H1 HRES hn hx hp hnm hnm2 hnn
      obtain ⟨HI, HB, HE⟩ := hcut
      obtain ⟨W1, hW1⟩ : ∃ x, x = wc := ⟨_, rfl⟩
      subst hW1
      go_wp2_with fail
      refine (drawSince_any a len cap zs _ HI.out (by omega)).mono ?_
      rintro e w11 ⟨v, t, x, d, rfl, hx, hd, ⟨hn, hsm, ht, b11⟩⟩
      replace HI := Lib.hid (isRow_afterF HI.out b11)
      replace HB := Lib.hid (HB.out.trans (b11.mono HB.out.size))
      replace HE := Lib.hid (HE.out.later b11)
      have HT := Lib.hid ht.row
      clear b11 ht hsm
      obtain ⟨⟨xs, ok⟩, hres⟩ : ∃ z, sinceRes t x d = z := ⟨_, rfl⟩
      have HRES := Lib.hid hres
      clear hres
      go_wp2_with fail
      refine (implClosedSince_any v t x d _ HT.out xs ok HRES.out).mono ?_
      rintro e w12 ⟨v1, rfl, h1, b12⟩
      replace HI := Lib.hid (isRow_afterF HI.out b12)
      replace HB := Lib.hid (HB.out.trans (b12.mono HB.out.size))
      replace HE := Lib.hid (HE.out.later b12)
      replace HT := Lib.hid (HT.out.below rFi_stable b12)
      have H1 := Lib.hid h1.row
      clear b12 h1
      go_wp2_with fail
      refine (specClosedSince_any v t x d _ HT.out xs ok HRES.out).mono ?_
      rintro e w13 ⟨v2, rfl, h2, b13⟩
      replace HI := Lib.hid (isRow_afterF HI.out b13)
      replace HB := Lib.hid (HB.out.trans (b13.mono HB.out.size))
      replace HE := Lib.hid (HE.out.later b13)
      replace HT := Lib.hid (HT.out.below rFi_stable b13)
      replace H1 := Lib.hid (H1.out.below b13)
      have H2 := Lib.hid h2.row
      clear b13 h2
      go_wp2_with fail
      refine ((rInts_any v1 v2 xs xs _ H1.out H2.out)).mono ?_
      rintro e w14 ⟨rfl, b14⟩
      replace HI := Lib.hid (isRow_afterF HI.out b14)
      replace HB := Lib.hid (HB.out.trans (b14.mono HB.out.size))
      replace HE := Lib.hid (HE.out.later b14)
      replace HT := Lib.hid (HT.out.below rFi_stable b14)
      replace H1 := Lib.hid (H1.out.below b14)
      replace H2 := Lib.hid (H2.out.below b14)
      clear b14
      rw [decide_eq_true (rfl : xs = xs)]
      clear H2
      obtain ⟨⟨ys, om⟩, hres2⟩ : ∃ z, sinceRes t 0 d = z := ⟨_, rfl⟩
      have HRES2 := Lib.hid hres2
      clear hres2
      go_wp2_with fail
      refine (implClosedSince_any v t 0 d _ HT.out ys om HRES2.out).mono ?_
      rintro e w15 ⟨v3, rfl, h3, b15⟩
      replace HI := Lib.hid (isRow_afterF HI.out b15)
      replace HB := Lib.hid (HB.out.trans (b15.mono HB.out.size))
      replace HE := Lib.hid (HE.out.later b15)
      replace HT := Lib.hid (HT.out.below rFi_stable b15)
      replace H1 := Lib.hid (H1.out.below b15)
      have H3 := Lib.hid h3.row
      clear b15 h3
      go_upto_region 24 with fail
      go_cut [205] from 39 to 260 (fun q wx => q = .bool false ∧ Hid (IsRow .u8 wx a len cap zs) ∧ Hid (Below W.heap.size W wx) ∧ Hid (Steps wx))
      case first =>
        as_aux_lemma =>
          cases ok
          · go_wp2_with fail
            go_meet
            exact ⟨rfl, HI, HB, HE⟩
          · obtain ⟨ys2, hy1, hy2⟩ := since_more HRES.out
            have hyy := HRES2.out.symm.trans hy1
            obtain ⟨rfl, rfl⟩ := Prod.mk.inj hyy
            obtain ⟨a1, c1, e1, l1, m1, _⟩ := H1.out
            obtain ⟨a3, c3, e3, l3, m3, _⟩ := H3.out
            subst e1 e3
            unfold maxLen at m1 m3
            have j1 : decide ((ys.length : Int) < (xs.length : Int)) = false := decide_eq_false (by omega)
            have j2 : decide (ys.length < xs.length) = false := decide_eq_false (by omega)
            have j3 : ¬ ((ys.length : Int) < (xs.length : Int)) := by omega
            clear hyy hy1
            go_wp2_with fail
            go_meet
            exact ⟨rfl, HI, HB, HE⟩
      case rest =>
        clear HI HB HE HT H1 H3 HRES HRES2 hn hx hd
        obtain ⟨rfl, HI, HB, HE⟩ := hcut
        obtain ⟨W2, hW2⟩ : ∃ x, x = wc := ⟨_, rfl⟩
        subst hW2
        go_wp2_with fail
        refine (drawPages_any a len cap zs _ HI.out (by omega)).mono ?_
        rintro e w16 ⟨v, t, x, p, rfl, hx, hp, ⟨hn, hsm, ht, b16⟩⟩
        replace HI := Lib.hid (isRow_afterF HI.out b16)
        replace HB := Lib.hid (HB.out.trans (b16.mono HB.out.size))
        replace HE := Lib.hid (HE.out.later b16)
        have HT := Lib.hid ht.row
        clear b16 ht hsm
        obtain ⟨⟨xs, ok⟩, hres⟩ : ∃ z, pagRes t x p = z := ⟨_, rfl⟩
        have HRES := Lib.hid hres
        clear hres
        go_wp2_with fail
        refine (implAddPages_any v t x p _ HT.out HE.out xs ok HRES.out).mono ?_
        rintro e w17 ⟨v1, rfl, h1, b17⟩
        replace HI := Lib.hid (isRow_afterF HI.out b17)
        replace HB := Lib.hid (HB.out.trans (b17.mono HB.out.size))
        replace HE := Lib.hid (HE.out.later b17)
        replace HT := Lib.hid (HT.out.below rFi_stable b17)
        have H1 := Lib.hid h1.row
        clear b17 h1
        go_wp2_with fail
        refine (specAddPages_any v t x p _ HT.out xs ok HRES.out).mono ?_
        rintro e w18 ⟨v2, rfl, h2, b18⟩
        replace HI := Lib.hid (isRow_afterF HI.out b18)
        replace HB := Lib.hid (HB.out.trans (b18.mono HB.out.size))
        replace HE := Lib.hid (HE.out.later b18)
        replace HT := Lib.hid (HT.out.below rFi_stable b18)
        replace H1 := Lib.hid (H1.out.below rFi_stable b18)
        have H2 := Lib.hid h2.row
        clear b18 h2
        go_wp2_with fail
        refine (rFiles_same v1 v2 xs _ H1.out H2.out).mono ?_
        rintro e w19 ⟨rfl, b19⟩
        replace HI := Lib.hid (isRow_afterF HI.out b19)
        replace HB := Lib.hid (HB.out.trans (b19.mono HB.out.size))
        replace HE := Lib.hid (HE.out.later b19)
        replace HT := Lib.hid (HT.out.below rFi_stable b19)
        replace H1 := Lib.hid (H1.out.below rFi_stable b19)
        replace H2 := Lib.hid (H2.out.below rFi_stable b19)
        clear b19
        clear H1 H2 HT HRES hn hx hp
        go_wp2_with fail
        refine (drawSeries_any a len cap zs _ HI.out (by omega)).mono ?_
        rintro e w20 ⟨v5, t5, rfl, ⟨hn5, hsm5, ht5, b20⟩⟩
        replace HI := Lib.hid (isRow_afterF HI.out b20)
        replace HB := Lib.hid (HB.out.trans (b20.mono HB.out.size))
        replace HE := Lib.hid (HE.out.later b20)
        have HT5 := Lib.hid ht5.row
        clear b20 ht5 hsm5
        obtain ⟨⟨rs, kn⟩, hres5⟩ : ∃ z, serRes t5 = z := ⟨_, rfl⟩
        have hkn := ser_known hres5
        have HRES5 := Lib.hid hres5
        have HKN := Lib.hid hkn.symm
        clear hres5 hkn
        go_wp2_with fail
        refine (implSeriesPages_any v5 t5 _ HT5.out rs kn HRES5.out).mono ?_
        rintro e w21 ⟨v6, rfl, h6, b21⟩
        replace HI := Lib.hid (isRow_afterF HI.out b21)
        replace HB := Lib.hid (HB.out.trans (b21.mono HB.out.size))
        replace HE := Lib.hid (HE.out.later b21)
        replace HT5 := Lib.hid (HT5.out.below rFi_stable b21)
        have H6 := Lib.hid h6.row
        clear b21 h6
        go_wp2_with fail
        refine (specSeriesPages_any v5 t5 _ HT5.out rs kn HRES5.out).mono ?_
        rintro e w22 ⟨v7, rfl, h7, b22⟩
        replace HI := Lib.hid (isRow_afterF HI.out b22)
        replace HB := Lib.hid (HB.out.trans (b22.mono HB.out.size))
        replace HE := Lib.hid (HE.out.later b22)
        replace HT5 := Lib.hid (HT5.out.below rFi_stable b22)
        replace H6 := Lib.hid (H6.out.below b22)
        have H7 := Lib.hid h7.row
        clear b22 h7
        go_wp2_with fail
        refine (rTable_same v6 v7 rs _ H6.out H7.out).mono ?_
        rintro e w23 ⟨rfl, b23⟩
        replace HI := Lib.hid (isRow_afterF HI.out b23)
        replace HB := Lib.hid (HB.out.trans (b23.mono HB.out.size))
        replace HE := Lib.hid (HE.out.later b23)
        replace HT5 := Lib.hid (HT5.out.below rFi_stable b23)
        replace H6 := Lib.hid (H6.out.below b23)
        replace H7 := Lib.hid (H7.out.below b23)
        clear b23
        go_wp2_with fail
        refine (implAreFi_any v5 t5 _ HT5.out).mono ?_
        rintro e w24 ⟨rfl, b24⟩
        replace HI := Lib.hid (isRow_afterF HI.out b24)
        replace HB := Lib.hid (HB.out.trans (b24.mono HB.out.size))
        replace HE := Lib.hid (HE.out.later b24)
        replace HT5 := Lib.hid (HT5.out.below rFi_stable b24)
        replace H6 := Lib.hid (H6.out.below b24)
        replace H7 := Lib.hid (H7.out.below b24)
        clear b24
        rw [HKN.out]
        go_wp2_with fail
        go_ret
        exact ⟨ret_bool (by simp), HB.out⟩

/-- A world for the witness: the settled one, the table holding what its initialiser lays. -/
noncomputable def fnPages_world (os : Os) : World :=
  { World.holding Tryd.prog os ⟨#[], #[], []⟩ with heap := ((World.holding Tryd.prog os ⟨#[], #[], []⟩).heap.modify 0 fun
      | .cells _ t frozen => .cells #[.int .i64 0, .int .i64 0, .int .i64 0, .int .i64 1, .int .i64 1, .int .i64 0, .int .i64 1, .int .i64 2, .int .i64 2, .int .i64 1] t frozen
      | o => o) }
theorem fnPages_met (os : Os) : laidMet Tryd.prog Rows.fnPagesRow.laid ((fnPages_world os).forCall (fun _ _ => 0) ⟨#[], #[.slice none 0 0], []⟩).memory :=
  laidMet_of_run' 8 (by kernel_rfl) (by kernel_rfl)
theorem fnPages_reads (os : Os) {H : Type} (enc : TypeId × Value → H) : ∃ places, DataW.whole enc Tryd.prog ((fnPages_world os).forCall (fun _ _ => 0) ⟨#[], #[.slice none 0 0], []⟩).memory Tryd.f4.params.toList Rows.fnPagesSpec.vars false (#[.slice none 0 0] : Array Value).toList 8 = some ([.nil], [.agg [.agg [.lit (.int .i64 0), .lit (.int .i64 0)], .agg [.lit (.int .i64 0), .lit (.int .i64 1)], .agg [.lit (.int .i64 1), .lit (.int .i64 0)], .agg [.lit (.int .i64 1), .lit (.int .i64 2)], .agg [.lit (.int .i64 2), .lit (.int .i64 1)]]], places) :=
  ⟨[.cell 0 0, .cell 0 1, .cell 0 2, .cell 0 3, .cell 0 4, .cell 0 5, .cell 0 6, .cell 0 7, .cell 0 8, .cell 0 9], by kernel_rfl⟩

set_option maxRecDepth 100000 in
theorem fnPages_contract (H : Type) (enc : TypeId × Value → H) (W : World) (base : Nat) (args : Array Value) (ds gs : List (DataW H)) (before : List MemPlace)
    (hval0 : ∀ (j : Nat) t v, Tryd.f4.params[j]? = some t → args[j]? = some v → Value.okWide Tryd.prog W .any base t v)
    (hW : DataW.Whole enc Tryd.prog Tryd.f4.params.toList Rows.fnPagesSpec.vars false W args.toList ds gs before) (hL : laidMetH Tryd.prog Rows.fnPagesRow.laid W) :
    Calls Tryd.prog 4 args W fun e W' => ∃ v, e = .returned v ∧ Rows.fnPagesSpec.post enc Tryd.prog Tryd.f4 false true false false W args v W' := by
  have hval := hval0
  have hW' := hW
  obtain ⟨p, q, hA0, hV, rfl, hfz, hnd⟩ := hW
  have hA : DataW.TrodAll enc Tryd.prog W 0 (fun _ => true) true Tryd.f4.params.toList args.toList ds p := hA0
  rw [Tryd.params4] at hA hval
  obtain ⟨v0, vs0, d0, ds0, p0, q0, hargs, rfl, rfl, h0, r0⟩ := trodAll_cons hA
  obtain ⟨rfl, rfl, rfl⟩ := trodAll_nil r0
  obtain rfl : args = #[v0] := by cases args; simp_all
  have hV2 : DataW.TrodVars enc Tryd.prog W (fun _ => true) ["loop.example/g01035/impl.fileSteps"] gs q := hV
  obtain ⟨gd, rfl⟩ : ∃ gd, gs = [gd] := by
    match gs, hV2 with
    | [], hh => exact hh.elim
    | [a], _ => exact ⟨a, rfl⟩
    | _ :: _ :: _, ⟨_, _, _, _, _, _, _, _, _, _, hh, _⟩ => exact hh.elim
  have hE : Steps W := steps_met (show laidMet Tryd.prog _ W from hL)
  obtain ⟨x0, w0⟩ := arg_code (hval 0 22 v0 rfl rfl) h0
  have lt0 : ∀ x ∈ p0, x.block < W.heap.size := by obtain ⟨m, hm⟩ := h0; exact DataW.trod_lt m _ _ _ hm
  clear hA0 hval0
  refine (walkPages v0 x0 W w0 hE).mono fun e W' ⟨he, bel⟩ => ?_
  subst he
  exact ⟨_, rfl, _, _, _, [], _, _, hW', trodAll_mk1 (shut_bool Tryd.underlying4 _), (trodAll_cons_mk (Below.trod Tryd.laidOut (by kernel_rfl) (of_decide_eq_true (by kernel_rfl)) h0 bel lt0) trodAll_mk0), (Below.trodVars Tryd.laidOut bel (by kernel_rfl) hV2), bel.frame _, fun h => by cases h⟩

set_option maxRecDepth 100000 in
theorem fnPages_lifted (os : Os) (started : os.Started) (H : Type) (enc : TypeId × Value → H) (F : Stop.Interp) :
    ReturnsInHanded {} Tryd.checked os 4 .any ((OpenSpec.ofChange Rows.fnPagesSpec).preRow enc Tryd.prog Tryd.f4 Rows.fnPagesRow.domain false Rows.fnPagesRow.laid) (((OpenSpec.ofChange Rows.fnPagesSpec).at F).post enc Tryd.prog Tryd.f4 false true false false) := by
  obtain ⟨places, hx⟩ := fnPages_reads os enc
  refine returnsInHanded_of_row (C := Tryd.checked) (s := OpenSpec.ofChange Rows.fnPagesSpec) Tryd.own started (by kernel_rfl) Tryd.func4
    (witness_row_at (enc := enc) (C := Tryd.checked) false (fnPages_world os) #[.slice none 0 0] rfl (by kernel_rfl) (by kernel_rfl) (by kernel_rfl)
      (OpenSpec.preRow_of_cond 8 hx (by kernel_rfl) (fun k hk => by cases hk) (by kernel_rfl) (fnPages_met os))) ?_
  intro W base args ds gs before hval hW _ _ _ hL _ _
  exact fnPages_contract H enc W base args ds gs before hval hW hL

theorem fnPages_said : Rows.FnPagesSaid :=
  OpenClaim.holds_of_cond 4 Tryd.f4 rfl rfl rfl rfl rfl rfl rfl ⟨rfl, rfl, rfl, rfl, rfl⟩ rfl rfl rfl rfl rfl (by kernel_rfl) Tryd.func4 (by kernel_rfl)
    (of_decide_eq_true (by kernel_rfl)) (by unfold Func.isWrapper; first | (rw [if_pos (by decide +kernel)]; kernel_rfl) | (rw [if_neg (by decide +kernel)]; exact ⟨rfl, rfl⟩))
    (fun os started H enc _ F => by rw [OpenClaim.pre_eq_preRow]; exact fnPages_lifted os started H enc F)

theorem fnPages_plain (f : FuncId) (fn : Func) (hf : Tryd.pinned.checked.prog.funcNamed "loop.example/g01035/laws.FnPages" = some f) (hfn : Tryd.pinned.checked.prog.funcs[f]? = some fn) :
    false = Tryd.pinned.checked.prog.looks [] ∧ ∀ (j : Nat) t, fn.params[j]? = some t → Tryd.pinned.checked.prog.wantsStandIn t = false := by
  obtain rfl : f = 4 := Option.some.inj ((show Tryd.prog.funcNamed "loop.example/g01035/laws.FnPages" = some 4 by kernel_rfl).symm.trans hf) |>.symm
  obtain rfl : fn = Tryd.f4 := (Option.some.inj (Tryd.func4.symm.trans hfn)).symm
  refine ⟨by kernel_rfl, fun j t ht => ?_⟩
  rw [Tryd.params4] at ht
  have hm := Array.mem_of_getElem? ht
  simp only [List.mem_toArray, List.mem_cons, List.mem_nil_iff, or_false] at hm
  subst hm
  exact (show Tryd.prog.wantsStandIn 22 = false by kernel_rfl)

/-- THE CARD. -/
theorem fnPages_proved : Rows.FnPagesCardSaid :=
  Claim7.holds_tied_plain_at .later [] _ _ _ _ fnPages_said (fun _ h => by cases h) (by kernel_rfl) (fun _ h => by cases h) fnPages_row_tie rfl ⟨rfl, rfl⟩ (by kernel_rfl) rfl fnPages_plain (by kernel_rfl)

end Go.Proofs.YtpbjddiopfkgbaaDoor
