/- The draw of a schedule and of series. -/
import Derived.Test.YtenjajcknmfhfaaDrawTg3
import Derived.Maps.AppendAt
namespace Go.Proofs.Ytenjajcknmfhfaa
set_option linter.unusedVariables false
open Go.RowKit

def gapList : List Int := [1, 2, 3, 5, 7, 99]
set_option maxRecDepth 20000 in
set_option maxHeartbeats 8000000 in
theorem drawGaps_any (a : Option Addr) (len cap : Nat) (zs : List Int) (w : World) (h : IsRow .u8 w a len cap zs) (hl : len ≤ 1099511627776) :
    Calls Try.prog 20 #[.slice a len cap] w (GapDraw w) := by
  obtain ⟨i0, hi, hz0, hz1, hz2⟩ := info_parts Try.info_intI
  obtain ⟨B, hB⟩ : ∃ B, w.heap.size = B := ⟨_, rfl⟩
  have hC := cur_new h hl 104
  have hsW : (w.alloc (.cells #[.slice a len cap, .int .i64 0, .int .u64 0] 104)).heap.size = B + 1 := by simp; omega
  have hbW : Below w.heap.size w (w.alloc (.cells #[.slice a len cap, .int .i64 0, .int .u64 0] 104)) := below_al (Below.refl _ _) _
  rw [hB] at hC
  have HC := Lib.hid hC
  have HBE := Lib.hid hB
  clear h hB hC
  go_enter Try.func20, Try.ntmps20
  go_upto_region 2 with fail
  try rw [HBE.out]
  generalize hW1 : w.alloc (.cells #[.slice a len cap, .int .i64 0, .int .u64 0] 104) = W1 at *
  have HW1 := Lib.hid hW1
  clear hW1
  have HI1 := Lib.hid (ints_newK W1)
  have HD1 := Lib.hid ((Dk.start HC.out).al (.cells #[] 3 (0, 0)))
  have HBW := Lib.hid hbW
  have hs2 : (W1.alloc (.cells #[] 3 (0, 0))).heap.size = B + 2 := by simp; omega
  have HSW := Lib.hid hsW
  have HS2 := Lib.hid hs2
  clear hbW hsW hs2
  go_upto_region 3 with fail
  generalize hW2 : W1.alloc (.cells #[] 3 (0, 0)) = W2 at *
  have HW2 := Lib.hid hW2
  clear hW2
  have HL2 := Lib.hid (new_nums W2 [1, 2, 3, 5, 7, 99] 3 _ rfl)
  have HI2 := Lib.hid ((HI1.out.alloc (.cells (([1, 2, 3, 5, 7, 99] : List Int).map (Value.int .i64)).toArray 3)).wide (Nat.le_refl _) (show W2.heap.size ≤ (W2.alloc (.cells (([1, 2, 3, 5, 7, 99] : List Int).map (Value.int .i64)).toArray 3)).heap.size by simp))
  have HD2 := Lib.hid (HD1.out.al (.cells (([1, 2, 3, 5, 7, 99] : List Int).map (Value.int .i64)).toArray 3))
  clear HI1 HD1 HC
  go_wp2_with fail
  go_loopw [5, 14] (fun o i wr => ∃ (v : Value) (xs : List Int) (k : Nat), k ≤ 6 ∧ i = .int .i64 k ∧ o = v ∧ xs.length ≤ k ∧ Hid (Dk W1 wr B (2 * k)) ∧ Hid (IntsO W1.heap.size wr.heap.size wr v xs) ∧ Hid (∀ i (hi : i < ([1, 2, 3, 5, 7, 99] : List Int).length), wr.cell? ⟨W2.heap.size, 0 + i, none⟩ = some (.int .i64 ([1, 2, 3, 5, 7, 99] : List Int)[i])) ∧ Hid (∀ g, v.ownBlock = some g → g ≠ W2.heap.size) ∧ Hid (W2.heap.size < wr.heap.size)) (fun _ i _ => 6 - (intOf i).toNat)
  case atStart => exact ⟨_, [], 0, by omega, rfl, rfl, by simp, HD2, HI2, HL2, Lib.hid (fun g hg => by have e : W1.heap.size = g := (by simpa [Value.ownBlock] using hg); have := HSW.out; have := HS2.out; omega), Lib.hid (by simp)⟩
  case round =>
    clear HD2 HI2 HL2
    obtain ⟨v, xs, k, hk, rfl, rfl, hxl, HD, HI, HL, HN, HZ⟩ := hrel
    by_cases hlt : k < 6
    · obtain ⟨x, hx⟩ : ∃ x, ([1, 2, 3, 5, 7, 99] : List Int)[k]'(by simp; omega) = x := ⟨_, rfl⟩
      have c0 := HL.out k (by simp; omega)
      rw [hx, Nat.zero_add] at c0
      have g0 : (0 : Int) ≤ (k : Int) := by omega
      have g1 : (k : Int) < 6 := by omega
      have hwk : IntKind.i64.wrap ((k : Int) + 1) = ((k + 1 : Nat) : Int) := by rw [Go.IntWalk.i64_in _ (by omega)]; omega
      have HX := Lib.hid hx
      clear hx
      go_wp2_with fail
      refine (one_any B (2 * k) 2 _ HD.out.cur (by omega) (by omega) (by omega)).mono ?_
      rintro e w2 ⟨b, rfl, hc, hg⟩
      have HD3 := Lib.hid (HD.out.step hc hg)
      have HI3 := Lib.hid ((HI.out.grown hg (by have := HSW.out; omega)).wide (Nat.le_refl _) hg.size)
      have HL3 : Hid (∀ i (hi : i < ([1, 2, 3, 5, 7, 99] : List Int).length), w2.cell? ⟨W2.heap.size, 0 + i, none⟩ = some (.int .i64 ([1, 2, 3, 5, 7, 99] : List Int)[i])) := Lib.hid (fun i hi => hg.cell (HL.out i hi) (by have := HS2.out; simp; omega))
      have HZ3 : Hid (W2.heap.size < w2.heap.size) := Lib.hid (Nat.lt_of_lt_of_le HZ.out hg.size)
      clear hc hg HD HI HL HZ
      cases b
      · go_wp2_with fail
        go_roundw
        case rel => exact ⟨_, xs, k + 1, by omega, by go_num, rfl, by omega, Lib.hid (HD3.out.le (by omega)), HI3, HL3, HN, HZ3⟩
        case measure => simp [intOf]; omega
      · have hsz := HD3.out.sz
        have hOr := HI3.out.1
        go_wp2_with (first | (at_builtin; refine wpList_append_own_at _ rfl _ _ 26 rfl W1.heap.size 3 i0 (.int .i64 0) 1 8 Try.underlying26 hi hz0 hz1 hz2 rfl (by decide) _ _ _ rfl (hOr.alloc _) ⟨w2.heap.size, 0, none⟩ 1 1 [.int .i64 x] rfl rfl (cell_oneI _ _ _ (by simp)) (by simp [Value.oneCell']) (by unfold maxLen; omega) (by omega) (by (first | omega | (simp; omega))) ?_; intro v' w' hown hgr _ hblk))
        have HDa := Lib.hid ((HD3.out.al _).app hgr (fun k hk => (hOr.lt k hk).1) (by have := HSW.out; omega))
        have HSa : Hid (IntsO W1.heap.size w'.heap.size w' v' (xs ++ [x])) := Lib.hid (ints_rowK (by simpa [vI] using hown) (by simp))
        have HLa : Hid (∀ i (hi : i < ([1, 2, 3, 5, 7, 99] : List Int).length), w'.cell? ⟨W2.heap.size, 0 + i, none⟩ = some (.int .i64 ([1, 2, 3, 5, 7, 99] : List Int)[i])) := Lib.hid (fun i hi => hgr.cell (below_al_cell (HL3.out i hi) _) (fun e => HN.out _ e.symm rfl))
        have HNa : Hid (∀ g, v'.ownBlock = some g → g ≠ W2.heap.size) := Lib.hid (fun g hg => by
          rcases hblk with hb | hb
          · exact HN.out g (hb.symm.trans hg)
          · rw [hg] at hb; simp at hb; have := HZ3.out; omega)
        have HZa : Hid (W2.heap.size < w'.heap.size) := Lib.hid (by have := HZ3.out; have := hgr.size; simp at this; omega)
        clear hown hgr hblk hOr hsz HD3 HI3 HL3 HZ3
        go_wp2_with fail
        go_roundw
        case rel => exact ⟨_, xs ++ [x], k + 1, by omega, by go_num, rfl, by simp; omega, Lib.hid (HDa.out.le (by omega)), HSa, HLa, HNa, HZa⟩
        case measure => simp [intOf]; omega
    · have hk6 : k = 6 := by omega
      clear hlt
      subst hk6
      clear HL HN HZ
      go_wp2_with fail
      refine (pick_any B 12 24 _ HD.out.cur (by omega) (by omega) (by omega)).mono ?_
      rintro e w3 ⟨m, rfl, hm0, hm1, hc, hg⟩
      have HD3 := Lib.hid (HD.out.step hc hg)
      have HI3 := Lib.hid ((HI.out.grown hg (by have := HSW.out; omega)).wide (Nat.le_refl _) hg.size)
      clear hc hg HD HI
      by_cases e0 : m = 0
      · subst e0
        go_wp2_with fail
        refine (amongZ_any B 14 w3.heap.size 0 3 3 [0, 1, 100] _ (HD3.out.al (.cells (([0, 1, 100] : List Int).map (Value.int .i64)).toArray 3)).cur (by omega) rfl (by omega) (by omega) (by have := HD3.out.cur.lt; omega) (new_nums w3 [0, 1, 100] 3 _ rfl)).mono ?_
        rintro e w4 ⟨x, rfl, mx, hc, hg⟩
        have HD4 := Lib.hid ((HD3.out.al (.cells (([0, 1, 100] : List Int).map (Value.int .i64)).toArray 3)).step hc hg)
        have HI4 := Lib.hid (((HI3.out.alloc (.cells (([0, 1, 100] : List Int).map (Value.int .i64)).toArray 3)).grown hg (by have := HSW.out; omega)).wide (Nat.le_refl _) (Nat.le_trans (by simp) hg.size))
        clear hc hg mx HD3 HI3
        have hsz := HD4.out.sz
        have hOr := HI4.out.1
        go_wp2_with (first | (at_builtin; refine wpList_append_own _ rfl _ _ 26 rfl W1.heap.size 3 i0 (.int .i64 0) 1 8 Try.underlying26 hi hz0 hz1 hz2 rfl (by decide) _ _ _ rfl (hOr.alloc _) ⟨w4.heap.size, 0, none⟩ 1 1 [.int .i64 x] rfl rfl (cell_oneI _ _ _ (by simp)) (by simp [Value.oneCell']) (by unfold maxLen; omega) (by omega) (by (first | omega | (simp; omega))) ?_; intro v' w' hown hgr _))
        have HDa := Lib.hid ((HD4.out.al _).app hgr (fun k hk => (hOr.lt k hk).1) (by have := HSW.out; omega))
        have HSa : Hid (IntsO W1.heap.size w'.heap.size w' v' (xs ++ [x])) := Lib.hid (ints_rowK (by simpa [vI] using hown) (by simp))
        clear hown hgr hOr hsz HD4 HI4
        go_wp2_with fail
        refine (schedule_any B (16) _ HDa.out.cur (by omega)).mono ?_
        rintro e w20 ⟨vs, ts, rfl, htl, ho, hcu, hg⟩
        have HDz := Lib.hid (HDa.out.step hcu hg)
        have HIz := Lib.hid (HSa.out.grown hg (by have := HSW.out; omega))
        have HOz := Lib.hid ho.row
        have HBz : Hid (Below w.heap.size w w20) := Lib.hid (HBW.out.trans ((below_of_cur HDz.out.gr (by have := HSW.out; omega)).mono (Nat.le_of_eq HBE.out)))
        clear ho hcu hg HDa HSa
        go_wp2_with fail
        go_ret2
        exact ⟨vs, ts, _, _, rfl, by first | omega | (simp; omega), ⟨htl, HOz.out, HBz.out⟩, HIz.out.row⟩
      · have b0 : (m == 0) = false := beq_eq_false_iff_ne.2 e0
        by_cases e1 : m = 1
        · subst e1
          have HDn := Lib.hid (HD3.out.al (.cells #[] 3 (0, 0)))
          have HSn : Hid (IntsO W1.heap.size (w3.alloc (.cells #[] 3 (0, 0))).heap.size (w3.alloc (.cells #[] 3 (0, 0))) (.slice (some ⟨w3.heap.size, 0, none⟩) 0 0) []) := Lib.hid ((ints_newK w3).wide HD3.out.sz (Nat.le_refl _))
          clear HD3 HI3 hxl
          go_wp2_with fail
          obtain ⟨wo, hwo⟩ : ∃ x, x = wr := ⟨_, rfl⟩
          subst hwo
          go_loopw [5] (fun o wr => ∃ (v : Value) (xs : List Int), o = v ∧ xs.length ≤ 21 ∧ Hid (Dk W1 wr B (14 + 2 * xs.length)) ∧ Hid (IntsO W1.heap.size wr.heap.size wr v xs)) (fun o _ => 22 - (lenOf o))
          case atStart => exact ⟨_, [], rfl, by simp, HDn, HSn⟩
          case round =>
            clear HDn HSn
            obtain ⟨v, xs, rfl, hxl, HD, HI⟩ := hrel
            obtain ⟨L, hL⟩ : ∃ L, 14 + 2 * xs.length = L := ⟨_, rfl⟩
            rw [hL] at HD
            have hL1 : L ≤ 14 + 2 * xs.length := by omega
            have hL2 : 14 + 2 * xs.length ≤ L := by omega
            clear hL
            obtain ⟨va, vc, hv⟩ := HI.out.lenT
            subst hv
            go_wp2_with fail
            refine (pick_any B L 2 _ HD.out.cur (by omega) (by omega) (by omega)).mono ?_
            rintro e w5 ⟨d, rfl, hd0, hd1, hc, hg⟩
            have HD5 := Lib.hid (HD.out.step hc hg)
            have HI5 := Lib.hid ((HI.out.grown hg (by have := HSW.out; omega)).wide (Nat.le_refl _) hg.size)
            clear hc hg HD HI
            have hwd : IntKind.i64.wrap (20 + d) = 20 + d := Go.IntWalk.i64_in _ (by omega)
            by_cases hq : (xs.length : Int) < 20 + d
            · have hlt2 : decide ((xs.length : Int) < 20 + d) = true := decide_eq_true hq
              obtain ⟨y, hy⟩ : ∃ y : Int, 1 + (xs.length : Int) = y := ⟨_, rfl⟩
              have hwy : IntKind.i64.wrap (1 + (xs.length : Int)) = y := by rw [Go.IntWalk.i64_in _ (by omega)]; exact hy
              have HY := Lib.hid hy
              clear hy
              have hsz := HD5.out.sz
              have hOr := HI5.out.1
              go_wp2_with (first | (at_builtin; refine wpList_append_own _ rfl _ _ 26 rfl W1.heap.size 3 i0 (.int .i64 0) 1 8 Try.underlying26 hi hz0 hz1 hz2 rfl (by decide) (.slice va xs.length vc) _ _ rfl (hOr.alloc _) ⟨w5.heap.size, 0, none⟩ 1 1 [.int .i64 y] rfl rfl (cell_oneI _ _ _ (by simp)) (by simp [Value.oneCell']) (by unfold maxLen; omega) (by omega) (by (first | omega | (simp; omega))) ?_; intro v' w' hown hgr _))
              have HDa := Lib.hid ((HD5.out.al _).app hgr (fun k hk => (hOr.lt k hk).1) (by have := HSW.out; omega))
              have HSa : Hid (IntsO W1.heap.size w'.heap.size w' v' (xs ++ [y])) := Lib.hid (ints_rowK (by simpa [vI] using hown) (by simp))
              clear hown hgr hOr hsz HD5 HI5
              obtain ⟨vb, vd, hv2⟩ := HSa.out.lenT
              subst hv2
              go_wp2_with fail
              go_roundw
              case rel => exact ⟨_, xs ++ [y], by first | rfl | simp, by simp; omega, Lib.hid (HDa.out.le (by simp; omega)), by simpa using HSa⟩
              case measure => simp [lenOf]; omega
            · have hlt2 : decide ((xs.length : Int) < 20 + d) = false := decide_eq_false hq
              have HQ := Lib.hid hq
              clear hq
              go_wp2_with fail
              refine (schedule_any B (L + 2) _ HD5.out.cur (by omega)).mono ?_
              rintro e w20 ⟨vs, ts, rfl, htl, ho, hcu, hg⟩
              have HDz := Lib.hid (HD5.out.step hcu hg)
              have HIz := Lib.hid (HI5.out.grown hg (by have := HSW.out; omega))
              have HOz := Lib.hid ho.row
              have HBz : Hid (Below w.heap.size w w20) := Lib.hid (HBW.out.trans ((below_of_cur HDz.out.gr (by have := HSW.out; omega)).mono (Nat.le_of_eq HBE.out)))
              clear ho hcu hg HD5 HI5
              go_wp2_with fail
              go_ret2
              exact ⟨vs, ts, _, _, rfl, by first | omega | (simp; omega), ⟨htl, HOz.out, HBz.out⟩, HIz.out.row⟩
        · have b1 : (m == 1) = false := beq_eq_false_iff_ne.2 e1
          go_wp2_with fail
          refine (schedule_any B (14) _ HD3.out.cur (by omega)).mono ?_
          rintro e w20 ⟨vs, ts, rfl, htl, ho, hcu, hg⟩
          have HDz := Lib.hid (HD3.out.step hcu hg)
          have HIz := Lib.hid (HI3.out.grown hg (by have := HSW.out; omega))
          have HOz := Lib.hid ho.row
          have HBz : Hid (Below w.heap.size w w20) := Lib.hid (HBW.out.trans ((below_of_cur HDz.out.gr (by have := HSW.out; omega)).mono (Nat.le_of_eq HBE.out)))
          clear ho hcu hg HD3 HI3
          go_wp2_with fail
          go_ret2
          exact ⟨vs, ts, _, _, rfl, by first | omega | (simp; omega), ⟨htl, HOz.out, HBz.out⟩, HIz.out.row⟩
end Go.Proofs.Ytenjajcknmfhfaa
