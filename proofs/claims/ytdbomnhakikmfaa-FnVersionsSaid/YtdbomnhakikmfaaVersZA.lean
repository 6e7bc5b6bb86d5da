/- VeS, EqRec, Recs, AreRec, AddS, PerS2, VeS2, VeS3, VeZ, ReadV, RuI, BackVe, VerOn, RuForI, PerD, Contains, PerP, Has, SerIn, PerI, VeI, VeI2, VeI3, VeI4, ArgBytes, in one text. -/
import Derived.Test.YtdbomnhakikmfaaTyVe
import Derived.Test.YtdbomnhakikmfaaRuS
import Derived.Test.YtdbomnhakikmfaaIsRec
import Derived.Test.YtdbomnhakikmfaaBox4
import Derived.Test.YtdbomnhakikmfaaPerS
import Derived.Lib.QuietBelow
import Derived.BigQuiet
import Derived.WalkSmall
import Derived.Test.YtdbomnhakikmfaaToRec
import Derived.Deep.RegionHeld3
import Derived.Test.YtdbomnhakikmfaaRecM
import Derived.Test.YtdbomnhakikmfaaIsRecI
import Derived.Test.YtdbomnhakikmfaaAddX
import Derived.Deep.DeepCutAuto
import Derived.Deep.CutBlock
import Derived.Test.YtdbomnhakikmfaaDayI
import Derived.Test.YtdbomnhakikmfaaInSer1
import Derived.StillTailTactics
import Derived.Test.YtdbomnhakikmfaaVeM
import Derived.Test.YtdbomnhakikmfaaInts
import Derived.Test.YtdbomnhakikmfaaBytesNe
import Derived.Test.YtdbomnhakikmfaaPick
import Derived.Test.YtdbomnhakikmfaaSlRu
import Derived.RangeFuncNested
import Derived.RangeFuncBox
import Derived.RangeFuncLeaves
import Derived.Shelf.Abstract
import Derived.WalkKit
import Derived.OwnWalkIn
import Derived.TacticsInMore
import Derived.LoopNIn
import Derived.LoopIn
import Derived.Maps.AppendAt
import Derived.Sort.QuietIn
import Derived.Test.YtdbomnhakikmfaaCells
import Derived.Test.YtdbomnhakikmfaaRuFor
import Derived.Test.YtdbomnhakikmfaaPerM
import Derived.Maps.Own
import Derived.Maps.OwnSet
import Derived.ScopeJumps
import Derived.BigRegion
import Derived.Lib.Hide
import Derived.Test.YtdbomnhakikmfaaShelf
import Derived.Lib.OwnBridge
import Derived.Test.YtdbomnhakikmfaaAdd
import Derived.Test.YtdbomnhakikmfaaArg
namespace Go.Proofs.Ytdbomnhakikmfaa
set_option linter.unusedVariables false
open Go.RowKit Go.Sort
set_option maxRecDepth 20000 in
set_option maxHeartbeats 4000000 in
theorem l8Good_any (v : Value) (t : List Ve) (w : World) (h : RowR 2 rVe w v t) :
    Calls Try.prog 39 #[v] w fun e w' => e = .returned (.bool (areVe t)) ∧ Below w.heap.size w w' := by
  have hcap := h.cap
  obtain ⟨a1, c1, hv, hl1, hm1, r1⟩ := h.ves
  subst hv
  have R1 := Lib.hid r1
  clear h r1
  unfold maxLen at hm1
  go_enter Try.func39, Try.ntmps39
  go_wp2
  go_loopw [3] (fun i wr => ∃ k : Nat, k ≤ t.length ∧ i = .int .i64 k ∧ Hid (upto (veAtB t) k = true) ∧ Below w.heap.size w wr) (fun i _ => t.length - (intOf i).toNat)
  case atStart => exact ⟨0, Nat.zero_le _, rfl, Lib.hid (by simp [upto]), Below.refl _ _⟩
  case round =>
    obtain ⟨k, hk, rfl, HU, hb⟩ := hrel
    by_cases hlt : k < t.length
    · obtain ⟨b1, o1, hb1, rfl, e1⟩ := R1.out.resolve_left (fun e => by rw [e] at hlt; simp at hlt)
      obtain ⟨⟨x0, x1⟩, hx⟩ : ∃ s, t.getD k veD = s := ⟨_, rfl⟩
      obtain ⟨s, q0, q1, hr, hok⟩ := e1 k hlt
      rw [hx] at q0 hr hok
      simp only at q0 hr
      have f0 := cell_kept q0 hb
      have f1 := cell_kept q1 hb
      have HX := Lib.hid hx
      have HR := Lib.hid (hr.below rRu_stable hb)
      have g0 : (0 : Int) ≤ (k : Int) := by omega
      have g1 : (k : Int) < (t.length : Int) := by omega
      have hw := hb.size
      obtain ⟨bD, hbD⟩ : ∃ b, decide ((0 : Int) ≤ x0 ∧ x0 ≤ 20000) = b := ⟨_, rfl⟩
      obtain ⟨bS, hbS⟩ : ∃ b, isSch x1 = b := ⟨_, rfl⟩
      have HDD := Lib.hid hbD
      have HSS := Lib.hid hbS
      have m0 := cell_regrown f0
      have m1 := cell_regrown f1
      have hc : ∀ d os, Calls Try.prog 63 #[.int .i64 x0] (grow (redrawn wr d) os) fun e w'' => e = .returned (.bool bD) ∧ ∃ p : Regrown, w'' = grow (redrawn wr p.d) p.os := fun d os => Calls.regrown_of (by have := l2Day_any x0 (grow (redrawn wr d) os); rw [hbD] at this; exact this.mono (fun e w' ⟨q1, q2⟩ => ⟨q1, by subst q2; exact Below.refl _ _⟩))
      have hd : ∀ d os, Calls Try.prog 71 #[s] (grow (redrawn wr d) os) fun e w'' => e = .returned (.bool bS) ∧ ∃ p : Regrown, w'' = grow (redrawn wr p.d) p.os := fun d os => Calls.regrown_of (by have := l4Good_any s x1 (grow (redrawn wr d) os) (HR.out.below rRu_stable (below_regrown wr d os)); rwa [hbS] at this)
      clear q0 q1 hok hx hbD hbS hr
      cases bD
      · have HNT := Lib.hid (notVe hlt (veAt_no HX.out (.inl (of_decide_eq_false HDD.out))))
        go_wp2_with fail
        refine wp_region_quiet_below (by kernel_rfl) (by kernel_rfl) ?_
        repeat (go_big_quiet_step (first | exact hc _ _ | exact hd _ _))
        refine wpQuiet_nil ?_
        intro _ hw'
        obtain ⟨⟨dq, osq⟩, hw''⟩ := hw'
        subst hw''
        have bq := below_regrown wr dq osq
        generalize grow (redrawn wr dq) osq = w2 at bq ⊢
        go_wp2
        go_ret
        exact ⟨ret_bool HNT.out.symm, hb.trans (bq.mono hw)⟩
      · cases bS
        · have HNT := Lib.hid (notVe hlt (veAt_no HX.out (.inr (.inl HSS.out))))
          go_wp2_with fail
          refine wp_region_quiet_below (by kernel_rfl) (by kernel_rfl) ?_
          repeat (go_big_quiet_step (first | exact hc _ _ | exact hd _ _))
          refine wpQuiet_nil ?_
          intro _ hw'
          obtain ⟨⟨dq, osq⟩, hw''⟩ := hw'
          subst hw''
          have bq := below_regrown wr dq osq
          generalize grow (redrawn wr dq) osq = w2 at bq ⊢
          go_wp2
          go_ret
          exact ⟨ret_bool HNT.out.symm, hb.trans (bq.mono hw)⟩
        · by_cases hk0 : k = 0
          · have dk : decide ((0 : Int) < (k : Int)) = false := decide_eq_false (by omega)
            have dk2 : decide (0 < k) = false := decide_eq_false (by omega)
            have HU2 := Lib.hid (upto_succ HU.out ((veAt_iff HX.out).2 ⟨of_decide_eq_true HDD.out, HSS.out, by subst hk0; have := of_decide_eq_true HDD.out; simp only [prevV]; omega⟩))
            clear hk0
            go_wp2_with fail
            refine wp_region_quiet_below (by kernel_rfl) (by kernel_rfl) ?_
            repeat (go_big_quiet_step (first | exact hc _ _ | exact hd _ _))
            refine wpQuiet_nil ?_
            intro _ hw'
            obtain ⟨⟨dq, osq⟩, hw''⟩ := hw'
            subst hw''
            have bq := below_regrown wr dq osq
            generalize grow (redrawn wr dq) osq = w2 at bq ⊢
            go_wp2
            go_roundw
            case rel => exact ⟨k + 1, by omega, by go_num, HU2, hb.trans (bq.mono hw)⟩
            case measure => simp [intOf]; omega
          · obtain ⟨L, hL⟩ : ∃ L, k = L + 1 := ⟨k - 1, by omega⟩
            have dk : decide ((0 : Int) < (k : Int)) = true := decide_eq_true (by omega)
            have dk2 : decide (0 < k) = true := decide_eq_true (by omega)
            have gl : (k : Int) - 1 = (L : Int) := by omega
            have gL0 : (0 : Int) ≤ (L : Int) := by omega
            have gL1 : (L : Int) < (t.length : Int) := by omega
            obtain ⟨⟨y0, y1⟩, hy⟩ : ∃ s, t.getD L veD = s := ⟨_, rfl⟩
            obtain ⟨s2, p0, _, _, _⟩ := e1 L (by omega)
            rw [hy] at p0
            simp only at p0
            have n0 := cell_regrown (cell_kept p0 hb)
            have hpv : prevV t k = y0 := by rw [hL]; show (t.getD L veD).frm = y0; rw [hy]
            have HPV := Lib.hid hpv
            clear p0 hy hpv e1 hL hk0
            by_cases hxy : x0 ≤ y0
            · have HNT := Lib.hid (notVe hlt (veAt_no HX.out (.inr (.inr (by rw [HPV.out]; simp only; omega)))))
              have dxy : decide (x0 ≤ y0) = true := decide_eq_true hxy
              go_wp2_with fail
              refine wp_region_quiet_below (by kernel_rfl) (by kernel_rfl) ?_
              repeat (go_big_quiet_step (first | exact hc _ _ | exact hd _ _))
              refine wpQuiet_nil ?_
              intro _ hw'
              obtain ⟨⟨dq, osq⟩, hw''⟩ := hw'
              subst hw''
              have bq := below_regrown wr dq osq
              generalize grow (redrawn wr dq) osq = w2 at bq ⊢
              go_wp2
              go_ret
              exact ⟨ret_bool HNT.out.symm, hb.trans (bq.mono hw)⟩
            · have HU2 := Lib.hid (upto_succ HU.out ((veAt_iff HX.out).2 ⟨of_decide_eq_true HDD.out, HSS.out, by rw [HPV.out]; simp only; omega⟩))
              have dxy : decide (x0 ≤ y0) = false := decide_eq_false hxy
              go_wp2_with fail
              refine wp_region_quiet_below (by kernel_rfl) (by kernel_rfl) ?_
              repeat (go_big_quiet_step (first | exact hc _ _ | exact hd _ _))
              refine wpQuiet_nil ?_
              intro _ hw'
              obtain ⟨⟨dq, osq⟩, hw''⟩ := hw'
              subst hw''
              have bq := below_regrown wr dq osq
              generalize grow (redrawn wr dq) osq = w2 at bq ⊢
              go_wp2
              go_roundw
              case rel => exact ⟨k + 1, by omega, by go_num, HU2, hb.trans (bq.mono hw)⟩
              case measure => simp [intOf]; omega
    · obtain rfl : k = t.length := by omega
      have hs := ve_upto HU.out
      have HS := Lib.hid hs
      clear hs
      go_wp2
      go_ret
      exact ⟨ret_bool (by rw [HS.out]; exact decide_eq_decide.2 (by omega)), hb⟩

theorem specAreVersions_any (v : Value) (t : List Ve) (w : World) (h : RowR 2 rVe w v t) : Calls Try.prog 10 #[v] w fun e w' => e = .returned (.bool (areVe t)) ∧ Below w.heap.size w w' := by
  have H := Lib.hid h
  clear h
  go_enter Try.func10, Try.ntmps10
  go_wp2_with fail
  refine (l8Good_any _ t _ H.out).mono ?_
  rintro e w1 ⟨rfl, hb⟩
  go_wp2_with fail
  go_ret
  exact ⟨rfl, hb⟩

theorem onN_succ (t : List Ve) (d : Int) (k : Nat) : onN t d (k + 1) = if (t.getD k veD).frm ≤ d then (k : Int) else onN t d k := rfl
set_option maxRecDepth 20000 in
set_option maxHeartbeats 4000000 in
theorem l8On_any (v : Value) (t : List Ve) (d : Int) (w : World) (h : RowR 2 rVe w v t) :
    Calls Try.prog 48 #[v, .int .i64 d] w fun e w' => e = .returned (.int .i64 (onV t d)) ∧ Below w.heap.size w w' := by
  have hcap := h.cap
  obtain ⟨a1, c1, hv, hl1, hm1, r1⟩ := h.ves
  subst hv
  have R1 := Lib.hid r1
  clear h r1
  unfold maxLen at hm1
  go_enter Try.func48, Try.ntmps48
  go_wp2
  go_loopw [5, 6] (fun at_ i wr => ∃ k : Nat, k ≤ t.length ∧ i = .int .i64 k ∧ at_ = .int .i64 (onN t d k) ∧ Below w.heap.size w wr) (fun _ i _ => t.length - (intOf i).toNat)
  case atStart => exact ⟨0, Nat.zero_le _, rfl, rfl, Below.refl _ _⟩
  case round =>
    obtain ⟨k, hk, rfl, rfl, hb⟩ := hrel
    by_cases hlt : k < t.length
    · obtain ⟨b1, o1, hb1, rfl, e1⟩ := R1.out.resolve_left (fun e => by rw [e] at hlt; simp at hlt)
      obtain ⟨⟨x0, x1⟩, hx⟩ : ∃ s, t.getD k veD = s := ⟨_, rfl⟩
      obtain ⟨s, q0, q1, hr, hok⟩ := e1 k hlt
      rw [hx] at q0
      simp only at q0
      have f0 := cell_kept q0 hb
      have HX := Lib.hid hx
      have g0 : (0 : Int) ≤ (k : Int) := by omega
      have g1 : (k : Int) < (t.length : Int) := by omega
      obtain ⟨N, hN⟩ : ∃ N, onN t d k = N := ⟨_, rfl⟩
      have HN := Lib.hid hN
      rw [hN]
      clear q0 q1 hok hx hr e1 hN
      by_cases hxd : x0 ≤ d
      · go_wp2_with fail
        go_roundw
        case rel => exact ⟨k + 1, by omega, by go_num, by rw [onN_succ, HX.out, if_pos hxd], hb⟩
        case measure => simp [intOf]; omega
      · go_wp2_with fail
        go_roundw
        case rel => exact ⟨k + 1, by omega, by go_num, by rw [onN_succ, HX.out, if_neg hxd, HN.out], hb⟩
        case measure => simp [intOf]; omega
    · obtain rfl : k = t.length := by omega
      go_wp2
      go_ret
      exact ⟨rfl, hb⟩

set_option maxHeartbeats 1000000 in
theorem specVersionOn_any (v : Value) (t : List Ve) (d : Int) (w : World) (h : RowR 2 rVe w v t) (n : Int) (b : Bool) (hres : onRes t d = (n, b)) :
    Calls Try.prog 31 #[v, .int .i64 d] w fun e w' => e = .returned (.tuple #[.int .i64 n, .bool b]) ∧ Below w.heap.size w w' := by
  have H := Lib.hid h
  obtain ⟨bA, hA⟩ : ∃ b, areVe t = b := ⟨_, rfl⟩
  obtain ⟨bD, hD⟩ : ∃ b, decide ((0 : Int) ≤ d ∧ d ≤ 20000) = b := ⟨_, rfl⟩
  obtain ⟨N, hN⟩ : ∃ N, onV t d = N := ⟨_, rfl⟩
  have HA := Lib.hid hA
  have HD := Lib.hid hD
  have HN := Lib.hid hN
  unfold onRes at hres
  rw [hN, hA] at hres
  cases bA
  · rw [if_neg (by simp)] at hres
    cases hres
    clear h hA hD hN
    go_enter Try.func31, Try.ntmps31
    go_wp2_with (first | (go_at_call 39; refine (l8Good_any _ t _ H.out).mono ?_; rw [HA.out]; rintro e w1 ⟨rfl, b1⟩))
    go_ret2
    exact ⟨rfl, b1⟩
  · cases bD
    · rw [if_neg (fun e => of_decide_eq_false hD e.1.2)] at hres
      cases hres
      clear h hA hD hN
      go_enter Try.func31, Try.ntmps31
      go_wp2_with (first | (go_at_call 39; refine (l8Good_any _ t _ H.out).mono ?_; rw [HA.out]; rintro e w1 ⟨rfl, b1⟩) | (go_at_call 63; refine (l2Day_any _ _).mono ?_; rw [HD.out]; rintro e w2 ⟨rfl, rfl⟩))
      go_ret2
      exact ⟨rfl, b1⟩
    · by_cases hneg : N < 0
      · rw [if_neg (fun e => by have := e.2; omega)] at hres
        cases hres
        clear h hA hD hN
        go_enter Try.func31, Try.ntmps31
        go_wp2_with (first | (go_at_call 39; refine (l8Good_any _ t _ H.out).mono ?_; rw [HA.out]; rintro e w1 ⟨rfl, b1⟩) | (go_at_call 63; refine (l2Day_any _ _).mono ?_; rw [HD.out]; rintro e w2 ⟨rfl, h2⟩; subst w2) | (go_at_call 48; refine (l8On_any _ t d _ (H.out.below rVe_stable b1)).mono ?_; rw [HN.out]; rintro e w3 ⟨rfl, b3⟩; replace b3 := below_chain b1 b3))
        go_ret2
        exact ⟨rfl, b3⟩
      · rw [if_pos ⟨⟨rfl, of_decide_eq_true hD⟩, by omega⟩] at hres
        cases hres
        clear h hA hD hN
        go_enter Try.func31, Try.ntmps31
        go_wp2_with (first | (go_at_call 39; refine (l8Good_any _ t _ H.out).mono ?_; rw [HA.out]; rintro e w1 ⟨rfl, b1⟩) | (go_at_call 63; refine (l2Day_any _ _).mono ?_; rw [HD.out]; rintro e w2 ⟨rfl, h2⟩; subst w2))
        refine (l8On_any _ t d _ (H.out.below rVe_stable b1)).mono ?_
        rw [HN.out]
        rintro e w3 ⟨rfl, b3⟩
        replace b3 := below_chain b1 b3
        go_wp2_with fail
        refine (l8On_any _ t d _ (H.out.below rVe_stable b3)).mono ?_
        rw [HN.out]
        rintro e w4 ⟨rfl, b4⟩
        go_wp2_with fail
        go_ret2
        exact ⟨rfl, below_chain b3 b4⟩

theorem l8Asked_any (v v1 : Value) (t : List Ve) (r : Rec) (d : Int) (w : World) (h : RowR 2 rVe w v t) (h1 : RecV w v1 r) :
    Calls Try.prog 34 #[v, v1, .int .i64 d] w fun e w' => e = .returned (.bool (askV t r d)) ∧ Below w.heap.size w w' := by
  obtain ⟨s, rfl, h0, hok⟩ := h1
  have HV := Lib.hid (show ∀ W, Below w.heap.size w W → RecV W (.agg #[.int .i64 r.id, .int .i64 r.series, .int .i64 r.made, s]) r from fun W hb => ⟨s, rfl, h0.below rEv_stable hb, hok⟩)
  have H := Lib.hid h
  have b0 := below_al (Below.refl w.heap.size w) (RBOX r s 27)
  have HC0 := Lib.hid (Box4.new w r s 27)
  obtain ⟨bA, hA⟩ : ∃ b, areVe t = b := ⟨_, rfl⟩
  obtain ⟨bR, hR⟩ : ∃ b, isRec r = b := ⟨_, rfl⟩
  obtain ⟨bD, hD⟩ : ∃ b, decide ((0 : Int) ≤ d ∧ d ≤ 20000) = b := ⟨_, rfl⟩
  have hall : askV t r d = (bA && (bR && bD)) := by unfold askV; rw [hA, hR, hD]
  rw [hall]
  have HA := Lib.hid hA
  have HR := Lib.hid hR
  have HD := Lib.hid hD
  clear h0 hok h hA hR hD hall
  cases bA
  · go_enter Try.func34, Try.ntmps34
    go_wp2_with (first | (go_at_call 39; refine (l8Good_any _ t _ (H.out.below rVe_stable b0)).mono ?_; rw [HA.out]; rintro e w1 ⟨rfl, b1⟩; replace b1 := below_chain b0 b1))
    go_ret
    exact ⟨rfl, b1⟩
  · cases bR
    · go_enter Try.func34, Try.ntmps34
      go_wp2_with (first | (go_at_call 39; refine (l8Good_any _ t _ (H.out.below rVe_stable b0)).mono ?_; rw [HA.out]; rintro e w1 ⟨rfl, b1⟩; obtain ⟨c0, c1, c2, c3⟩ := HC0.out.kept b1; replace b1 := below_chain b0 b1) | (go_at_call 66; refine (l2Record_any _ r _ (HV.out _ b1)).mono ?_; rw [HR.out]; rintro e w2 ⟨rfl, b2⟩; replace b2 := below_chain b1 b2))
      go_ret
      exact ⟨rfl, b2⟩
    · cases bD
      all_goals
        go_enter Try.func34, Try.ntmps34
        go_wp2_with (first | (go_at_call 39; refine (l8Good_any _ t _ (H.out.below rVe_stable b0)).mono ?_; rw [HA.out]; rintro e w1 ⟨rfl, b1⟩; obtain ⟨c0, c1, c2, c3⟩ := HC0.out.kept b1; replace b1 := below_chain b0 b1) | (go_at_call 66; refine (l2Record_any _ r _ (HV.out _ b1)).mono ?_; rw [HR.out]; rintro e w2 ⟨rfl, b2⟩; replace b2 := below_chain b1 b2) | (go_at_call 63; refine (l2Day_any _ _).mono ?_; rw [HD.out]; rintro e w3 ⟨rfl, h3⟩; subst w3))
        go_ret
        exact ⟨rfl, b2⟩
end Go.Proofs.Ytdbomnhakikmfaa

namespace Go.Proofs.Ytdbomnhakikmfaa
set_option linter.unusedVariables false
open Go.RowKit





end Go.Proofs.Ytdbomnhakikmfaa

namespace Go.Proofs.Ytdbomnhakikmfaa
set_option linter.unusedVariables false
open Go.RowKit

theorem RowR.recs {w : World} {v : Value} {rs : List Rec} (h : RowR 4 rRec w v rs) : ∃ a cap, v = .slice a rs.length cap ∧ rs.length ≤ cap ∧ cap ≤ maxLen ∧
    (rs = [] ∨ ∃ b off, b < w.heap.size ∧ a = some ⟨b, off, none⟩ ∧ ∀ i, i < rs.length → ∃ s, w.cell? ⟨b, off + i * 4, none⟩ = some (.int .i64 (rs.getD i recD).id) ∧ w.cell? ⟨b, off + i * 4 + 1, none⟩ = some (.int .i64 (rs.getD i recD).series) ∧
      w.cell? ⟨b, off + i * 4 + 2, none⟩ = some (.int .i64 (rs.getD i recD).made) ∧ w.cell? ⟨b, off + i * 4 + 3, none⟩ = some s ∧ RowR 2 rEv w s (rs.getD i recD).evs ∧ (rs.getD i recD).ok) := by
  obtain ⟨a, cap, rfl, h1, h2, h3⟩ := h
  refine ⟨a, cap, rfl, h1, h2, h3.imp id ?_⟩
  rintro ⟨b, off, hlt, rfl, hc⟩
  refine ⟨b, off, hlt, rfl, fun i hi => ?_⟩
  obtain ⟨cs, hl, hcs, s, rfl, hr, hok⟩ := hc i hi
  have f0 := hcs 0 (by omega)
  have f1 := hcs 1 (by omega)
  have f2 := hcs 2 (by omega)
  have f3 := hcs 3 (by omega)
  simp only [List.getElem_cons_zero, List.getElem_cons_succ, Nat.add_zero] at f0 f1 f2 f3
  rw [getDr_lt hi]
  exact ⟨s, f0, f1, f2, f3, hr, hok⟩

def szR (rs : List Rec) : Nat := (rs.map (fun r => r.evs.length)).sum
theorem szR_take_succ (rs : List Rec) (k : Nat) (h : k < rs.length) : szR (rs.take (k + 1)) = szR (rs.take k) + (rs.getD k recD).evs.length := by
  unfold szR
  rw [List.take_add_one, List.getElem?_eq_getElem h, getDr_lt h, List.map_append, List.sum_append]
  simp only [Option.toList_some, List.map_cons, List.map_nil, List.sum_cons, List.sum_nil, Nat.add_zero]
theorem szR_take_le (rs : List Rec) (k : Nat) : szR (rs.take k) ≤ szR rs := by
  have h : szR rs = szR (rs.take k) + szR (rs.drop k) := by
    unfold szR
    rw [← List.sum_append, ← List.map_append, List.take_append_drop]
  omega
theorem szR_at (rs : List Rec) (i : Nat) (h : i < rs.length) : (rs.getD i recD).evs.length ≤ szR rs := by
  have h1 := szR_take_succ rs i h
  have h2 := szR_take_le rs (i + 1)
  omega


theorem Try.info_record : (Try.prog.info? 27).map (fun i => (i.zero, i.size, i.bytes)) = some (some (.agg #[.int .i64 0, .int .i64 0, .int .i64 0, .slice none 0 0]), 4, 48) := by kernel_rfl

def recC (r : Rec) (s : Value) : List Value := [.int .i64 r.id, .int .i64 r.series, .int .i64 r.made, s]
def RecsO (lo hi : Nat) (w : World) (v : Value) (rs : List Rec) : Prop :=
  ∃ (css : List (List Value)) (f : Nat → Nat), css.length = rs.length ∧ Own lo 27 4 w v css ∧ Under (f 0) v ∧ lo ≤ f 0 ∧ (∀ i, i < rs.length → f i ≤ f (i + 1)) ∧ f rs.length ≤ hi ∧
    ∀ i (h1 : i < css.length) (h2 : i < rs.length), ∃ s, css[i] = recC rs[i] s ∧ EvsO (f i) (f (i + 1)) w s rs[i].evs ∧ rs[i].ok
theorem RecsO.row {lo hi : Nat} {w : World} {v : Value} {rs : List Rec} (h : RecsO lo hi w v rs) : RowR 4 rRec w v rs := by
  obtain ⟨css, f, hl, ho, _, _, _, _, he⟩ := h
  refine ho.row hl fun i h1 h2 => ?_
  obtain ⟨s, e, hs, hok⟩ := he i h1 h2
  exact ⟨s, e, hs.row, hok⟩
theorem RecsO.below {lo hi : Nat} {w w' : World} {v : Value} {rs : List Rec} (h : RecsO lo hi w v rs) (hb : Below w.heap.size w w') : RecsO lo hi w' v rs := by
  obtain ⟨css, f, hl, ho, h1, h2, h3, h4, he⟩ := h
  refine ⟨css, f, hl, ho.below hb, h1, h2, h3, h4, fun i a b => ?_⟩
  obtain ⟨s, e, hs, hok⟩ := he i a b
  exact ⟨s, e, hs.below hb, hok⟩


end Go.Proofs.Ytdbomnhakikmfaa

namespace Go.Proofs.Ytdbomnhakikmfaa
set_option linter.unusedVariables false
open Go.RowKit Go.Sort

theorem notRecs {rs : List Rec} {k : Nat} (hk : k < rs.length) (h : recAtB rs k = false) : areRecs rs = false := by
  simp only [areRecs]
  rw [upto_false hk h]
  simp



end Go.Proofs.Ytdbomnhakikmfaa

namespace Go.Proofs.Ytdbomnhakikmfaa
set_option linter.unusedVariables false
open Go.RowKit Go.Sort

theorem below_sz3 {w a : World} {o1 o2 o3 : Obj} (h : Below (((w.alloc o1).alloc o2).alloc o3).heap.size (((w.alloc o1).alloc o2).alloc o3) a) : w.heap.size + 3 ≤ a.heap.size := by
  have := h.size
  simp at this
  omega

end Go.Proofs.Ytdbomnhakikmfaa

namespace Go.Proofs.Ytdbomnhakikmfaa
set_option linter.unusedVariables false
open Go.RowKit Go.Sort

theorem ints_rowS {lo n : Nat} {w : World} {v : Value} {xs : List Int} (h : w.ownsRow lo 3 1 v n (xs.map vI)) (hn : n = xs.length) : IntsO lo w.heap.size w v xs := ⟨by rw [← hn]; exact h, fun g hg => (h.lt g hg).2⟩
theorem ints_new (w : World) : IntsO w.heap.size (w.alloc (.cells #[] 3 (0, 0))).heap.size (w.alloc (.cells #[] 3 (0, 0))) (.slice (some ⟨w.heap.size, 0, none⟩) 0 0) [] := ints_rowS (World.ownsRow_made w #[] 0 (Nat.le_refl _) (Nat.zero_le _) rfl) rfl

structure OutS (g : Nat) (w2 wr : World) (o : Value) (xs : List Int) : Prop where
  own : wr.ownsRow g 3 1 o xs.length (xs.map vI)
  at_ : ∀ k, o.ownBlock = some k → k = g ∨ w2.heap.size ≤ k
  only : Only g (g + 1) w2 wr
  lt : g < w2.heap.size
theorem OutS.start {g : Nat} {w2 : World} (h : w2.ownsRow g 3 1 (.slice (some ⟨g, 0, none⟩) 0 0) 0 []) (hl : g < w2.heap.size) : OutS g w2 w2 (.slice (some ⟨g, 0, none⟩) 0 0) [] :=
  ⟨h, fun k hk => .inl (by simpa [Value.ownBlock] using hk.symm), Only.refl _ _ _, hl⟩
theorem OutS.below {g : Nat} {w2 wr w' : World} {o : Value} {xs : List Int} (h : OutS g w2 wr o xs) (hb : Below wr.heap.size wr w') : OutS g w2 w' o xs :=
  ⟨ownsRow_below h.own hb, h.at_, h.only.trans (Only.of_below hb), h.lt⟩
theorem OutS.app {g : Nat} {w2 w5 w7 : World} {o v' : Value} {xs : List Int} {x : Int} (h : OutS g w2 w5 o xs) (hown : w7.ownsRow g 3 1 v' (xs.length + 1) (xs.map vI ++ [.int .i64 x])) (hg : w5.grownBy w7 o.ownBlock) (hat : v'.ownBlock = o.ownBlock ∨ v'.ownBlock = some w5.heap.size) : OutS g w2 w7 v' (xs ++ [x]) := by
  have hs := h.only.size
  refine ⟨by simpa [vI] using hown, fun k hk => ?_, ⟨hg.os.trans h.only.os, hg.tape.trans h.only.tape, hg.output.trans h.only.output, Nat.le_trans hs hg.size, fun k hk hn => ?_⟩, h.lt⟩
  · rcases hat with e | e
    · exact h.at_ k (by rw [← e]; exact hk)
    · rw [e] at hk; cases hk; exact .inr hs
  · refine (hg.block k (by omega) (fun e => ?_)).trans (h.only.block k hk hn)
    rcases h.at_ k e.symm with h1 | h1 <;> omega
theorem OutS.cell {g b j : Nat} {w2 wr : World} {o v : Value} {xs : List Int} (h : OutS g w2 wr o xs) (hc : w2.cell? ⟨b, j, none⟩ = some v) (hb : b ≠ g) : wr.cell? ⟨b, j, none⟩ = some v :=
  (World.cell?_of_block (h.only.block b (World.block_lt_of_cell? _ _ hc) (by omega))).trans hc
theorem OutS.bel {g n : Nat} {w2 wr : World} {o : Value} {xs : List Int} (h : OutS g w2 wr o xs) (hn : n ≤ g) : Below n w2 wr := (h.only.below (Nat.le_of_lt h.lt)).mono hn



theorem l6Due_any (v v1 : Value) (r : Rec) (t : List Ru) (dy : Int) (w : World) (h : RecV w v r) (h1 : RowR 4 rRu w v1 t) (ha' : askB r t = true) :
    Calls Try.prog 77 #[v, v1, .int .i64 dy] w fun e w' => e = .returned (.bool (decide (0 ≤ dueF r t ∧ dueF r t ≤ dy))) ∧ Below w.heap.size w w' := by
  obtain ⟨s, rfl, h0, hok⟩ := h
  have HV := Lib.hid (show ∀ W, Below w.heap.size w W → RecV W (.agg #[.int .i64 r.id, .int .i64 r.series, .int .i64 r.made, s]) r from fun W hb => ⟨s, rfl, h0.below rEv_stable hb, hok⟩)
  have H1 := Lib.hid h1
  obtain ⟨ba, ha⟩ : ∃ b, askB r t = b := ⟨_, rfl⟩
  have HA := Lib.hid ha
  have b1 := below_al (Below.refl w.heap.size w) (RBOX r s 27)
  obtain ⟨Q, D, hdec⟩ : ∃ q d, decR r (forRu t r.series) = (q, d) := ⟨_, _, rfl⟩
  have hrf : ruleF r t = Q := by unfold ruleF; rw [hdec]
  have hdf : dueF r t = D := by unfold dueF; rw [hdec]
  have HDEC := Lib.hid hdec
  have HRF := Lib.hid hrf
  have HDF := Lib.hid hdf
  rw [hdf]
  obtain rfl : ba = true := ha.symm.trans ha'
  clear h0 hok h1 ha hdec hrf hdf
  go_enter Try.func77, Try.ntmps77
  go_wp2_with (first | (go_at_call 35; refine (l6Deciding_any _ _ r t _ (HV.out _ b1) (H1.out.below rRu_stable b1) (ask_iff.1 HA.out).1 (ask_iff.1 HA.out).2 _ _ HDEC.out).mono ?_; rintro e w2 ⟨rfl, b2⟩; replace b2 := below_chain b1 b2; simp only) | (go_at_call 64; refine (l1In_any _ _ _ _).mono ?_; rintro e w3 ⟨rfl, h3⟩; subst w3))
  go_ret
  exact ⟨ret_bool (by first | rfl | simp), below_al b2 _⟩







end Go.Proofs.Ytdbomnhakikmfaa

namespace Go.Proofs.Ytdbomnhakikmfaa
set_option linter.unusedVariables false
open Go.RowKit Go.Sort

set_option maxRecDepth 20000 in
set_option maxHeartbeats 4000000 in
theorem specDecidesOn_any (v v1 : Value) (t : List Ve) (r : Rec) (d : Int) (w : World) (h : RowR 2 rVe w v t) (h1 : RecV w v1 r) (q : Ru) (b : Bool) (hres : decoRes t r d = (q, b)) :
    Calls Try.prog 15 #[v, v1, .int .i64 d] w fun e w' => e = .returned (.tuple #[.agg #[.int .i64 q.series, .int .i64 q.event, .int .i64 q.days, .int .i64 q.act], .bool b]) ∧ Below w.heap.size w w' := by
  obtain ⟨s, rfl, h0, hok⟩ := h1
  have HV := Lib.hid (show ∀ W, Below w.heap.size w W → RecV W (.agg #[.int .i64 r.id, .int .i64 r.series, .int .i64 r.made, s]) r from fun W hb => ⟨s, rfl, h0.below rEv_stable hb, hok⟩)
  have H := Lib.hid (show ∀ W, Below w.heap.size w W → RowR 2 rVe W v t from fun W hb => h.below rVe_stable hb)
  obtain ⟨a1, c1, rfl, hl1, hm1, r1⟩ := h.ves
  have R1 := Lib.hid r1
  unfold maxLen at hm1
  have b0 := below_al (below_al (Below.refl w.heap.size w) (RBOX r s 27)) (.cells #[.int .i64 0, .int .i64 0, .int .i64 0, .int .i64 0] 36 (0, 0))
  have HC0 : Hid (Box4 ((w.alloc (RBOX r s 27)).alloc (.cells #[.int .i64 0, .int .i64 0, .int .i64 0, .int .i64 0] 36 (0, 0))) w.heap.size r s) := Lib.hid ((Box4.new w r s 27).kept (below_al (Below.refl _ _) _))
  have HX0 : Hid (UBox ((w.alloc (RBOX r s 27)).alloc (.cells #[.int .i64 0, .int .i64 0, .int .i64 0, .int .i64 0] 36 (0, 0))) (w.heap.size + 1) ruD) := Lib.hid (by rw [← (show (w.alloc (RBOX r s 27)).heap.size = w.heap.size + 1 by simp)]; exact UBox.new (w.alloc (RBOX r s 27)) ruD 36)
  obtain ⟨ba, ha⟩ : ∃ b, askV t r d = b := ⟨_, rfl⟩
  have HA := Lib.hid ha
  obtain ⟨N, hN⟩ : ∃ N, onV t d = N := ⟨_, rfl⟩
  have HN := Lib.hid hN
  unfold decoRes at hres
  cases ba
  · rw [if_neg (by rw [ha]; simp)] at hres
    cases hres
    clear h0 hok h ha hN r1
    go_enter Try.func15, Try.ntmps15
    go_wp2_with (first | (go_at_call 34; refine (l8Asked_any _ _ t r d _ (H.out _ b0) (HV.out _ b0)).mono ?_; rw [HA.out]; rintro e w1 ⟨rfl, b1⟩; have HX1 := Lib.hid (HX0.out.kept b1); obtain ⟨z0, z1, z2, z3, y0, y1, y2, y3⟩ := HX1.out; simp only [ruD] at z0 z1 z2 z3; replace b1 := below_chain b0 b1))
    refine bodyPost_ret (v := .tuple #[.agg #[.int .i64 0, .int .i64 0, .int .i64 0, .int .i64 0], .bool false]) (by simp [results, Try.results15 , go_sem, z0, z1, z2, z3]) rfl ⟨rfl, ?_⟩
    exact below_putU b1 (by omega) ruD
  · by_cases hneg : N < 0
    · rw [if_neg (fun e => by have := e.2; rw [hN] at this; omega)] at hres
      cases hres
      clear h0 hok h ha hN r1
      go_enter Try.func15, Try.ntmps15
      go_wp2_with (first | (go_at_call 34; refine (l8Asked_any _ _ t r d _ (H.out _ b0) (HV.out _ b0)).mono ?_; rw [HA.out]; rintro e w1 ⟨rfl, b1⟩; have HX1 := Lib.hid (HX0.out.kept b1); replace b1 := below_chain b0 b1) | (go_at_call 48; refine (l8On_any _ t d _ (H.out _ b1)).mono ?_; rw [HN.out]; rintro e w2 ⟨rfl, b2⟩; have HX2 := Lib.hid (HX1.out.kept b2); obtain ⟨z0, z1, z2, z3, y0, y1, y2, y3⟩ := HX2.out; simp only [ruD] at z0 z1 z2 z3; replace b2 := below_chain b1 b2))
      refine bodyPost_ret (v := .tuple #[.agg #[.int .i64 0, .int .i64 0, .int .i64 0, .int .i64 0], .bool false]) (by simp [results, Try.results15 , go_sem, z0, z1, z2, z3]) rfl ⟨rfl, ?_⟩
      exact below_putU b2 (by omega) ruD
    · rw [if_pos ⟨ha, by rw [hN]; omega⟩] at hres
      obtain ⟨k, hk0, hk, _, _⟩ := onV_at (t := t) (d := d) (by rw [hN]; omega)
      have hNk : N = (k : Int) := by rw [← hN]; exact hk0
      subst hNk
      have hsc := askV_sch ha hk
      obtain ⟨x, hx⟩ : ∃ x, (t.getD k veD).rules = x := ⟨_, rfl⟩
      obtain ⟨bL, oL, hbL, rfl, e1⟩ := r1.resolve_left (fun e => by rw [e] at hk; simp at hk)
      obtain ⟨sr, _, f1, hr, _⟩ := e1 k hk
      rw [hx] at hr hsc
      have HR := Lib.hid (show ∀ W, Below w.heap.size w W → RowR 4 rRu W sr x from fun W hb => hr.below rRu_stable hb)
      have HSC := Lib.hid hsc
      obtain ⟨⟨x0, x1, x2, x3⟩, D, hdec⟩ : ∃ q d, decR r (forRu x r.series) = (q, d) := ⟨_, _, rfl⟩
      have HDEC := Lib.hid hdec
      have g0 : (0 : Int) ≤ (k : Int) := by omega
      have g1 : (k : Int) < (t.length : Int) := by omega
      rw [hN, rulesAt_nat, hx, decRes_of hsc hdec] at hres
      cases hres
      clear h0 hok h ha hN r1 e1 hr hsc hdec hx hk0 hneg
      go_enter Try.func15, Try.ntmps15
      go_wp2_with (first | (go_at_call 34; refine (l8Asked_any _ _ t r d _ (H.out _ b0) (HV.out _ b0)).mono ?_; rw [HA.out]; rintro e w1 ⟨rfl, b1⟩; have HX1 := Lib.hid (HX0.out.kept b1); have HC1 := Lib.hid (HC0.out.kept b1); replace b1 := below_chain b0 b1) | (go_at_call 48; refine (l8On_any _ t d _ (H.out _ b1)).mono ?_; rw [HN.out]; rintro e w2 ⟨rfl, b2⟩; have HX2 := Lib.hid (HX1.out.kept b2); obtain ⟨c0, c1, c2, c3⟩ := HC1.out.kept b2; replace b2 := below_chain b1 b2))
      replace f1 := cell_kept f1 b2
      have hl0 : w.heap.size < w2.heap.size := World.block_lt_of_cell? _ _ c0
      have hlL : bL < w2.heap.size := World.block_lt_of_cell? _ _ f1
      have HB2 := Lib.hid b2
      clear b2
      go_region_held3 (fun w' => w'.cell? ⟨w.heap.size, 0, none⟩ = some (.int .i64 r.id) ∧ w'.cell? ⟨w.heap.size, 1, none⟩ = some (.int .i64 r.series) ∧ w'.cell? ⟨w.heap.size, 2, none⟩ = some (.int .i64 r.made) ∧ w'.cell? ⟨w.heap.size, 3, none⟩ = some (s) ∧ w'.cell? ⟨bL, oL + k * 2 + 1, none⟩ = some sr)
        (first | with_reducible exact ⟨c0, c1, c2, c3, f1⟩ | with_reducible exact ⟨cell_drew c0, cell_drew c1, cell_drew c2, cell_drew c3, cell_drew f1⟩ | with_reducible exact ⟨below_al_cell c0 _, below_al_cell c1 _, below_al_cell c2 _, below_al_cell c3 _, below_al_cell f1 _⟩ | with_reducible exact ⟨cell_drew (below_al_cell c0 _), cell_drew (below_al_cell c1 _), cell_drew (below_al_cell c2 _), cell_drew (below_al_cell c3 _), cell_drew (below_al_cell f1 _)⟩ | (refine ⟨?_, ?_, ?_, ?_, ?_⟩ <;> (repeat rw [World.cell?_setCell_far _ _ _ _ (by simp; omega)]) <;> first | assumption | go_keep))
        (first | (go_at_call 48; (with_reducible refine (l8On_any _ t d _ (H.out _ (below_chain HB2.out ((Below.refl w2.heap.size w2).drew)))).mono ?_); rw [HN.out]; rintro e w4 ⟨rfl, b4⟩; have b4a : Below w2.heap.size w2 w4 := below_chain ((Below.refl w2.heap.size w2).drew) b4; replace c0 := cell_kept c0 b4a; replace c1 := cell_kept c1 b4a; replace c2 := cell_kept c2 b4a; replace c3 := cell_kept c3 b4a; replace f1 := cell_kept f1 b4a; have HX4 := Lib.hid (HX2.out.kept b4a); have hs4 := b4a.size) | (go_at_call 48; (with_reducible refine (l8On_any _ t d _ (H.out _ (below_chain HB2.out ((below_al (Below.refl w2.heap.size w2) (.cells #[.int .i64 0, .int .i64 0, .int .i64 0, .int .i64 0] 36 (0, 0))).drew)))).mono ?_); rw [HN.out]; rintro e w4 ⟨rfl, b4⟩; have b4b : Below w2.heap.size w2 w4 := below_chain ((below_al (Below.refl w2.heap.size w2) (.cells #[.int .i64 0, .int .i64 0, .int .i64 0, .int .i64 0] 36 (0, 0))).drew) b4; replace c0 := cell_kept c0 b4b; replace c1 := cell_kept c1 b4b; replace c2 := cell_kept c2 b4b; replace c3 := cell_kept c3 b4b; replace f1 := cell_kept f1 b4b; have HX4 := Lib.hid (HX2.out.kept b4b); have HY4 := Lib.hid ((UBox.new w2 ruD 36).drew.kept b4); have hs4 := b4b.size) | (go_at_call 35; have bq := b4b; (with_reducible refine (l6Deciding_any _ _ r x _ (HV.out _ (below_chain HB2.out bq)) (HR.out _ (below_chain HB2.out bq)) (ask_iff.1 HSC.out).1 (ask_iff.1 HSC.out).2 _ _ HDEC.out).mono ?_); rintro e w5 ⟨rfl, b5⟩; have b5b : Below w2.heap.size w2 w5 := below_chain bq b5; replace c0 := cell_kept c0 b5; replace c1 := cell_kept c1 b5; replace c2 := cell_kept c2 b5; replace c3 := cell_kept c3 b5; replace f1 := cell_kept f1 b5; have HX5 := Lib.hid (HX2.out.kept b5b); have HY5 := Lib.hid (HY4.out.kept b5); obtain ⟨k0, k1, k2, k3, l0, l1, l2, l3⟩ := HY5.out; simp only [ruD] at k0 k1 k2 k3; have hs5 := b5b.size; simp only) | (go_at_call 35; have bq := b4a; (with_reducible refine (l6Deciding_any _ _ r x _ (HV.out _ (below_chain HB2.out bq)) (HR.out _ (below_chain HB2.out bq)) (ask_iff.1 HSC.out).1 (ask_iff.1 HSC.out).2 _ _ HDEC.out).mono ?_); rintro e w5 ⟨rfl, b5⟩; have b5a : Below w2.heap.size w2 w5 := below_chain bq b5; replace c0 := cell_kept c0 b5; replace c1 := cell_kept c1 b5; replace c2 := cell_kept c2 b5; replace c3 := cell_kept c3 b5; replace f1 := cell_kept f1 b5; have HX5 := Lib.hid (HX2.out.kept b5a); have hs5 := b5a.size; simp only) | (go_at_call 35; have bq := below_al b4a (.cells #[.int .i64 0, .int .i64 0, .int .i64 0, .int .i64 0] 36 (0, 0)); (with_reducible refine (l6Deciding_any _ _ r x _ (HV.out _ (below_chain HB2.out bq)) (HR.out _ (below_chain HB2.out bq)) (ask_iff.1 HSC.out).1 (ask_iff.1 HSC.out).2 _ _ HDEC.out).mono ?_); rintro e w5 ⟨rfl, b5⟩; have b5c : Below w2.heap.size w2 w5 := below_chain bq b5; replace c0 := cell_kept (below_al_cell c0 _) b5; replace c1 := cell_kept (below_al_cell c1 _) b5; replace c2 := cell_kept (below_al_cell c2 _) b5; replace c3 := cell_kept (below_al_cell c3 _) b5; replace f1 := cell_kept (below_al_cell f1 _) b5; have HX5 := Lib.hid (HX2.out.kept b5c); have HY5 := Lib.hid ((UBox.new w4 ruD 36).kept b5); obtain ⟨k0, k1, k2, k3, l0, l1, l2, l3⟩ := HY5.out; simp only [ruD] at k0 k1 k2 k3; have hs5 := b5c.size; simp only))
      all_goals first
        | (have hBV := Lib.hid (below_putU (below_chain HB2.out b5b) (show w.heap.size ≤ w2.heap.size by have := HB2.out.size; have := HX2.out.lt; omega) ⟨x0, x1, x2, x3⟩); have HXV := Lib.hid (HY5.out.put ⟨x0, x1, x2, x3⟩); simp only [putU] at hBV HXV; have hne : w2.heap.size ≠ w.heap.size + 1 := (by have := HX2.out.lt; omega); have HRV := Lib.hid ((((HX5.out.far (g' := w2.heap.size) (j := 0) hne (.int .i64 x0)).far (g' := w2.heap.size) (j := 1) hne (.int .i64 x1)).far (g' := w2.heap.size) (j := 2) hne (.int .i64 x2)).far (g' := w2.heap.size) (j := 3) hne (.int .i64 x3)); generalize ((((w5.setCell ⟨w2.heap.size, 0, none⟩ (.int .i64 x0)).setCell ⟨w2.heap.size, 1, none⟩ (.int .i64 x1)).setCell ⟨w2.heap.size, 2, none⟩ (.int .i64 x2)).setCell ⟨w2.heap.size, 3, none⟩ (.int .i64 x3)) = V at hBV HXV HRV ⊢; clear k0 k1 k2 k3 l0 l1 l2 l3 hne)
        | (have hBV := Lib.hid (below_putU (below_chain HB2.out b5c) (show w.heap.size ≤ w4.heap.size by have := HB2.out.size; have := HX2.out.lt; omega) ⟨x0, x1, x2, x3⟩); have HXV := Lib.hid (HY5.out.put ⟨x0, x1, x2, x3⟩); simp only [putU] at hBV HXV; have hne : w4.heap.size ≠ w.heap.size + 1 := (by have := HX2.out.lt; omega); have HRV := Lib.hid ((((HX5.out.far (g' := w4.heap.size) (j := 0) hne (.int .i64 x0)).far (g' := w4.heap.size) (j := 1) hne (.int .i64 x1)).far (g' := w4.heap.size) (j := 2) hne (.int .i64 x2)).far (g' := w4.heap.size) (j := 3) hne (.int .i64 x3)); generalize ((((w5.setCell ⟨w4.heap.size, 0, none⟩ (.int .i64 x0)).setCell ⟨w4.heap.size, 1, none⟩ (.int .i64 x1)).setCell ⟨w4.heap.size, 2, none⟩ (.int .i64 x2)).setCell ⟨w4.heap.size, 3, none⟩ (.int .i64 x3)) = V at hBV HXV HRV ⊢; clear k0 k1 k2 k3 l0 l1 l2 l3 hne)
        | (have hBV := Lib.hid (below_al (below_chain HB2.out b5a) (.cells #[.int .i64 x0, .int .i64 x1, .int .i64 x2, .int .i64 x3] 36 (0, 0))); have HXV := Lib.hid (UBox.new w5 ⟨x0, x1, x2, x3⟩ 36); have HRV := Lib.hid (HX5.out.al (.cells #[.int .i64 x0, .int .i64 x1, .int .i64 x2, .int .i64 x3] 36 (0, 0))); simp only at HXV; generalize w5.alloc (.cells #[.int .i64 x0, .int .i64 x1, .int .i64 x2, .int .i64 x3] 36 (0, 0)) = V at hBV HXV HRV ⊢)
      all_goals
        clear c0 c1 c2 c3 f1
        obtain ⟨z0, z1, z2, z3, y0, y1, y2, y3⟩ := HRV.out
        simp only [ruD] at z0 z1 z2 z3
        obtain ⟨d0, d1, d2, d3, _, _, _, _⟩ := HXV.out
        simp only at d0 d1 d2 d3
        go_wp2_with fail
        refine bodyPost_ret (v := .tuple #[.agg #[.int .i64 x0, .int .i64 x1, .int .i64 x2, .int .i64 x3], .bool (decide (0 ≤ D))]) (by simp [results, Try.results15 , go_sem, z0, z1, z2, z3]) rfl ⟨rfl, ?_⟩
        exact below_putU hBV.out (by omega) ⟨x0, x1, x2, x3⟩

set_option maxRecDepth 20000 in
set_option maxHeartbeats 4000000 in
theorem l8Due_any (v v1 : Value) (t : List Ve) (r : Rec) (d : Int) (w : World) (h : RowR 2 rVe w v t) (h1 : RecV w v1 r) (ha : askV t r d = true) :
    Calls Try.prog 49 #[v, v1, .int .i64 d] w fun e w' => e = .returned (.bool (dueV t r d)) ∧ Below w.heap.size w w' := by
  obtain ⟨s, rfl, h0, hok⟩ := h1
  have HV := Lib.hid (show ∀ W, Below w.heap.size w W → RecV W (.agg #[.int .i64 r.id, .int .i64 r.series, .int .i64 r.made, s]) r from fun W hb => ⟨s, rfl, h0.below rEv_stable hb, hok⟩)
  have H := Lib.hid (show ∀ W, Below w.heap.size w W → RowR 2 rVe W v t from fun W hb => h.below rVe_stable hb)
  obtain ⟨a1, c1, rfl, hl1, hm1, r1⟩ := h.ves
  have R1 := Lib.hid r1
  unfold maxLen at hm1
  have b0 := below_al (Below.refl w.heap.size w) (RBOX r s 27)
  have HC0 := Lib.hid (Box4.new w r s 27)
  obtain ⟨N, hN⟩ : ∃ N, onV t d = N := ⟨_, rfl⟩
  have HN := Lib.hid hN
  by_cases hneg : N < 0
  · have hd : dueV t r d = false := by unfold dueV; rw [hN]; exact decide_eq_false (fun e => by have := e.1; omega)
    rw [hd]
    have hg : decide ((0 : Int) ≤ N) = false := decide_eq_false (by omega)
    clear h0 hok h ha hN r1 hd
    go_enter Try.func49, Try.ntmps49
    go_wp2_with (first | (go_at_call 48; refine (l8On_any _ t d _ (H.out _ b0)).mono ?_; rw [HN.out]; rintro e w2 ⟨rfl, b2⟩; replace b2 := below_chain b0 b2))
    refine wp_region_quiet_below (by kernel_rfl) (by kernel_rfl) ?_
    repeat (go_big_quiet_step (first | fail))
    refine wpQuiet_nil ?_
    intro _ hw'
    obtain ⟨⟨dq, osq⟩, hw''⟩ := hw'
    subst hw''
    have bq := b2.trans ((below_regrown w2 dq osq).mono b2.size)
    generalize grow (redrawn w2 dq) osq = w3 at bq ⊢
    go_wp2
    go_ret
    exact ⟨rfl, bq⟩
  obtain ⟨k, hk0, hk, _, _⟩ := onV_at (t := t) (d := d) (by rw [hN]; omega)
  have hNk : N = (k : Int) := by rw [← hN]; exact hk0
  subst hNk
  have hsc := askV_sch ha hk
  obtain ⟨x, hx⟩ : ∃ x, (t.getD k veD).rules = x := ⟨_, rfl⟩
  obtain ⟨bL, oL, hbL, rfl, e1⟩ := r1.resolve_left (fun e => by rw [e] at hk; simp at hk)
  obtain ⟨sr, _, f1, hr, _⟩ := e1 k hk
  rw [hx] at hr hsc
  have HR := Lib.hid (show ∀ W, Below w.heap.size w W → RowR 4 rRu W sr x from fun W hb => hr.below rRu_stable hb)
  have HSC := Lib.hid hsc
  obtain ⟨⟨x0, x1, x2, x3⟩, D, hdec⟩ : ∃ q d, decR r (forRu x r.series) = (q, d) := ⟨_, _, rfl⟩
  have HDEC := Lib.hid hdec
  have g0 : (0 : Int) ≤ (k : Int) := by omega
  have g1 : (k : Int) < (t.length : Int) := by omega
  have hdF : dueF r x = D := by unfold dueF; rw [hdec]
  have hd : dueV t r d = decide (0 ≤ D ∧ D ≤ d) := by unfold dueV; rw [hN, rulesAt_nat, hx, hdF]; exact decide_eq_decide.2 (by omega)
  rw [hd]
  have HDF := Lib.hid hdF
  clear h0 hok h ha hN r1 e1 hr hsc hdec hx hk0 hneg hd hdF
  go_enter Try.func49, Try.ntmps49
  go_wp2_with (first | (go_at_call 48; refine (l8On_any _ t d _ (H.out _ b0)).mono ?_; rw [HN.out]; rintro e w2 ⟨rfl, b2⟩; obtain ⟨c0, c1, c2, c3⟩ := HC0.out.kept b2; replace b2 := below_chain b0 b2))
  have f2 := cell_kept f1 b2
  have m0 := cell_regrown c0
  have m1 := cell_regrown c1
  have m2 := cell_regrown c2
  have m3 := cell_regrown c3
  have m4 := cell_regrown f2
  have hc : ∀ dd os, Calls Try.prog 77 #[.agg #[.int .i64 r.id, .int .i64 r.series, .int .i64 r.made, s], sr, .int .i64 d] (grow (redrawn w2 dd) os) fun e w'' => e = .returned (.bool (decide (0 ≤ D ∧ D ≤ d))) ∧ ∃ p : Regrown, w'' = grow (redrawn w2 p.d) p.os := fun dd os => Calls.regrown_of (by have := l6Due_any _ _ r x d (grow (redrawn w2 dd) os) (HV.out _ (b2.trans ((below_regrown w2 dd os).mono b2.size))) (HR.out _ (b2.trans ((below_regrown w2 dd os).mono b2.size))) HSC.out; rwa [HDF.out] at this)
  refine wp_region_quiet_below (by kernel_rfl) (by kernel_rfl) ?_
  repeat (go_big_quiet_step (first | exact hc _ _))
  refine wpQuiet_nil ?_
  intro _ hw'
  obtain ⟨⟨dq, osq⟩, hw''⟩ := hw'
  subst hw''
  have bq := b2.trans ((below_regrown w2 dq osq).mono b2.size)
  generalize grow (redrawn w2 dq) osq = w3 at bq ⊢
  go_wp2
  go_ret
  exact ⟨ret_bool (by first | rfl | simp), bq⟩

set_option maxRecDepth 20000 in
set_option maxHeartbeats 4000000 in
theorem specDueOn_any (v v1 : Value) (t : List Ve) (r : Rec) (d : Int) (w : World) (h : RowR 2 rVe w v t) (h1 : RecV w v1 r) (a b : Bool) (hres : doRes t r d = (a, b)) :
    Calls Try.prog 16 #[v, v1, .int .i64 d] w fun e w' => e = .returned (.tuple #[.bool a, .bool b]) ∧ Below w.heap.size w w' := by
  obtain ⟨s, rfl, h0, hok⟩ := h1
  have HV := Lib.hid (show ∀ W, Below w.heap.size w W → RecV W (.agg #[.int .i64 r.id, .int .i64 r.series, .int .i64 r.made, s]) r from fun W hb => ⟨s, rfl, h0.below rEv_stable hb, hok⟩)
  have H := Lib.hid (show ∀ W, Below w.heap.size w W → RowR 2 rVe W v t from fun W hb => h.below rVe_stable hb)
  obtain ⟨a1, c1, rfl, hl1, hm1, r1⟩ := h.ves
  have R1 := Lib.hid r1
  unfold maxLen at hm1
  have b0 := below_al (Below.refl w.heap.size w) (RBOX r s 27)
  have HC0 := Lib.hid (Box4.new w r s 27)
  obtain ⟨ba, ha⟩ : ∃ b, askV t r d = b := ⟨_, rfl⟩
  have HA := Lib.hid ha
  unfold doRes at hres
  cases ba
  · rw [if_neg (by rw [ha]; simp)] at hres
    cases hres
    clear h0 hok h ha r1
    go_enter Try.func16, Try.ntmps16
    go_wp2_with (first | (go_at_call 34; refine (l8Asked_any _ _ t r d _ (H.out _ b0) (HV.out _ b0)).mono ?_; rw [HA.out]; rintro e w1 ⟨rfl, b1⟩; replace b1 := below_chain b0 b1))
    go_ret2
    exact ⟨rfl, b1⟩
  · rw [if_pos ha] at hres
    obtain ⟨hA, rfl⟩ := Prod.mk.inj hres
    have HAA := Lib.hid hA
    clear h0 hok h ha r1 hres hA
    go_enter Try.func16, Try.ntmps16
    go_wp2_with (first | (go_at_call 34; refine (l8Asked_any _ _ t r d _ (H.out _ b0) (HV.out _ b0)).mono ?_; rw [HA.out]; rintro e w1 ⟨rfl, b1⟩; obtain ⟨c0, c1, c2, c3⟩ := HC0.out.kept b1; replace b1 := below_chain b0 b1) | (go_at_call 49; refine (l8Due_any _ _ t r d _ (H.out _ b1) (HV.out _ b1) HA.out).mono ?_; rw [HAA.out]; rintro e w4 ⟨rfl, b4⟩; replace b4 := below_chain b1 b4))
    go_ret2
    exact ⟨rfl, b4⟩

set_option maxRecDepth 20000 in
set_option maxHeartbeats 4000000 in
theorem specDueDays_any (v v1 : Value) (t : List Ve) (r : Rec) (w : World) (h : RowR 2 rVe w v t) (h1 : RecV w v1 r) (xs : List Int) (b : Bool) (hres : ddRes t r = (xs, b)) :
    Calls Try.prog 20 #[v, v1] w fun e w' => ∃ v', e = .returned (.tuple #[v', .bool b]) ∧ IntsO w.heap.size w'.heap.size w' v' xs ∧ Below w.heap.size w w' := by
  obtain ⟨i0, hi, hz0, hz1, hz2⟩ := info_parts Try.info_intI
  obtain ⟨s, rfl, h0, hok⟩ := h1
  have HV := Lib.hid (show ∀ W, Below w.heap.size w W → RecV W (.agg #[.int .i64 r.id, .int .i64 r.series, .int .i64 r.made, s]) r from fun W hb => ⟨s, rfl, h0.below rEv_stable hb, hok⟩)
  have H := Lib.hid (show ∀ W, Below w.heap.size w W → RowR 2 rVe W v t from fun W hb => h.below rVe_stable hb)
  obtain ⟨a1, c1, rfl, hl1, hm1, r1⟩ := h.ves
  have R1 := Lib.hid r1
  unfold maxLen at hm1
  have HC0 : Hid (Box4 ((w.alloc (RBOX r s 27)).alloc (.cells #[] 3 (0, 0))) w.heap.size r s) := Lib.hid ((Box4.new w r s 27).kept (below_al (Below.refl _ _) _))
  have he0 : (w.alloc (RBOX r s 27)).heap.size = w.heap.size + 1 := by simp
  have HI0 : Hid (IntsO (w.heap.size + 1) ((w.alloc (RBOX r s 27)).alloc (.cells #[] 3 (0, 0))).heap.size ((w.alloc (RBOX r s 27)).alloc (.cells #[] 3 (0, 0))) (.slice (some ⟨w.heap.size + 1, 0, none⟩) 0 0) []) := Lib.hid (by have := ints_new (w.alloc (RBOX r s 27)); rwa [he0] at this)
  clear he0
  have b0 := below_al (below_al (Below.refl w.heap.size w) (RBOX r s 27)) (.cells #[] 3 (0, 0))
  have hask0 : askV t r 0 = (areVe t && isRec r) := by unfold askV; simp
  obtain ⟨ba, ha⟩ : ∃ b, askV t r 0 = b := ⟨_, rfl⟩
  have HA := Lib.hid ha
  unfold ddRes at hres
  cases ba
  · rw [if_neg (by rw [hask0] at ha; simpa using ha)] at hres
    cases hres
    clear h0 hok h ha r1 hask0
    go_enter Try.func20, Try.ntmps20
    go_wp2_with (first | (go_at_call 34; refine (l8Asked_any _ _ t r 0 _ (H.out _ b0) (HV.out _ b0)).mono ?_; rw [HA.out]; rintro e w1 ⟨rfl, b1⟩; have HI1 := Lib.hid ((HI0.out.below b1).wide (Nat.le_refl _) b1.size); replace b1 := below_chain b0 b1))
    go_ret2
    exact ⟨_, rfl, HI1.out.wide (Nat.le_succ _) (Nat.le_refl _), b1⟩
  · rw [if_pos (by rw [hask0] at ha; simpa using ha)] at hres
    cases hres
    have h5 := ve_len (askV_iff.1 ha).1
    clear h0 hok h ha r1 hask0
    go_enter Try.func20, Try.ntmps20
    go_wp2_with (first | (go_at_call 34; refine (l8Asked_any _ _ t r 0 _ (H.out _ b0) (HV.out _ b0)).mono ?_; rw [HA.out]; rintro e w1 ⟨rfl, b1⟩; have HC1 := Lib.hid (HC0.out.kept b1); have HI1 := Lib.hid ((HI0.out.below b1).wide (Nat.le_refl _) b1.size); have hw1 : w.heap.size + 2 ≤ w1.heap.size := (by have := b1.size; simp at this; omega); replace b1 := below_chain b0 b1))
    have HS0 := Lib.hid (OutS.start HI1.out.1 (by have := HI1.out; omega))
    have s1 := b1.size
    go_loopw [6, 7] (fun o i wr => ∃ k : Nat, k ≤ t.length ∧ i = .int .i64 k ∧ Hid (OutS (w.heap.size + 1) w1 wr o (daysV (t.take k) r))) (fun _ i _ => t.length - (intOf i).toNat)
    case atStart => exact ⟨0, Nat.zero_le _, rfl, HS0⟩
    case round =>
      clear HS0
      obtain ⟨k, hk, rfl, HS⟩ := hrel
      have hbw := b1.trans (HS.out.bel (Nat.le_succ _))
      by_cases hlt : k < t.length
      · obtain ⟨bL, oL, hbL, rfl, e1⟩ := R1.out.resolve_left (fun e => by rw [e] at hlt; simp at hlt)
        obtain ⟨sr, _, q1, hr, _⟩ := e1 k hlt
        obtain ⟨x, hx⟩ : ∃ x, (t.getD k veD).rules = x := ⟨_, rfl⟩
        have hsc := askV_sch HA.out hlt
        rw [hx] at hr hsc
        obtain ⟨⟨x0, x1, x2, x3⟩, D, hdec⟩ : ∃ q d, decR r (forRu x r.series) = (q, d) := ⟨_, _, rfl⟩
        have hdF : dueF r x = D := by unfold dueF; rw [hdec]
        have htake := daysV_succ (r := r) hlt
        rw [hx, hdF] at htake
        obtain ⟨Pp, hP⟩ : ∃ P, daysV (t.take k) r = P := ⟨_, rfl⟩
        have hPl : Pp.length ≤ 8 := by rw [← hP, daysV_len, List.length_take]; omega
        rw [hP] at htake HS
        have HTK := Lib.hid htake
        have f1 := cell_kept q1 hbw
        have C0 := Lib.hid HC1.out.1
        have C1 := Lib.hid HC1.out.2.1
        have C2 := Lib.hid HC1.out.2.2.1
        have C3 := Lib.hid HC1.out.2.2.2
        have c0 := HS.out.cell C0.out (by omega)
        have c1 := HS.out.cell C1.out (by omega)
        have c2 := HS.out.cell C2.out (by omega)
        have c3 := HS.out.cell C3.out (by omega)
        have g0 : (0 : Int) ≤ (k : Int) := by omega
        have g1 : (k : Int) < (t.length : Int) := by omega
        have hcall : Hid (∀ W, Below wr.heap.size wr W → Calls Try.prog 35 #[.agg #[.int .i64 r.id, .int .i64 r.series, .int .i64 r.made, s], sr] W fun e w' => e = .returned (.tuple #[.agg #[.int .i64 x0, .int .i64 x1, .int .i64 x2, .int .i64 x3], .int .i64 D]) ∧ Below W.heap.size W w') := Lib.hid (fun W hW => l6Deciding_any _ _ r x W (HV.out _ (hbw.trans (hW.mono hbw.size))) (hr.below rRu_stable (hbw.trans (hW.mono hbw.size))) (ask_iff.1 hsc).1 (ask_iff.1 hsc).2 _ _ hdec)
        clear q1 hr hsc hdec hdF htake hP e1 hx
        go_wp2_with fail
        have hl0 : w.heap.size < wr.heap.size := World.block_lt_of_cell? _ _ c0
        have hlL : bL < wr.heap.size := World.block_lt_of_cell? _ _ f1
        go_region_held3 (fun w' => w'.cell? ⟨w.heap.size, 0, none⟩ = some (.int .i64 r.id) ∧ w'.cell? ⟨w.heap.size, 1, none⟩ = some (.int .i64 r.series) ∧ w'.cell? ⟨w.heap.size, 2, none⟩ = some (.int .i64 r.made) ∧ w'.cell? ⟨w.heap.size, 3, none⟩ = some (s) ∧ w'.cell? ⟨bL, oL + k * 2 + 1, none⟩ = some sr)
          (first | with_reducible exact ⟨c0, c1, c2, c3, f1⟩ | with_reducible exact ⟨cell_drew c0, cell_drew c1, cell_drew c2, cell_drew c3, cell_drew f1⟩ | with_reducible exact ⟨below_al_cell c0 _, below_al_cell c1 _, below_al_cell c2 _, below_al_cell c3 _, below_al_cell f1 _⟩ | with_reducible exact ⟨cell_drew (below_al_cell c0 _), cell_drew (below_al_cell c1 _), cell_drew (below_al_cell c2 _), cell_drew (below_al_cell c3 _), cell_drew (below_al_cell f1 _)⟩ | (refine ⟨?_, ?_, ?_, ?_, ?_⟩ <;> (repeat rw [World.cell?_setCell_far _ _ _ _ (by simp; omega)]) <;> first | assumption | go_keep))
          (first | (go_at_call 35; (with_reducible refine (hcall.out _ ((Below.refl wr.heap.size wr).drew)).mono ?_); rintro e w5 ⟨rfl, b5⟩; have bA : Below wr.heap.size wr w5 := below_chain ((Below.refl wr.heap.size wr).drew) b5; replace c0 := cell_kept c0 bA; replace c1 := cell_kept c1 bA; replace c2 := cell_kept c2 bA; replace c3 := cell_kept c3 bA; replace f1 := cell_kept f1 bA; have hs5 := bA.size; simp only) | (go_at_call 35; (with_reducible refine (hcall.out _ ((below_al (Below.refl wr.heap.size wr) (.cells #[.int .i64 0, .int .i64 0, .int .i64 0, .int .i64 0] 36 (0, 0))).drew)).mono ?_); rintro e w5 ⟨rfl, b5⟩; have bB : Below wr.heap.size wr w5 := below_chain ((below_al (Below.refl wr.heap.size wr) (.cells #[.int .i64 0, .int .i64 0, .int .i64 0, .int .i64 0] 36 (0, 0))).drew) b5; replace c0 := cell_kept c0 bB; replace c1 := cell_kept c1 bB; replace c2 := cell_kept c2 bB; replace c3 := cell_kept c3 bB; replace f1 := cell_kept f1 bB; have hs5 := bB.size; obtain ⟨k0, k1, k2, k3, l0, l1, l2, l3⟩ := ((UBox.new wr ruD 36).drew.kept b5); simp only [ruD] at k0 k1 k2 k3; simp only))
        all_goals first
          | (have hBV := Lib.hid (below_al bA (.cells #[.int .i64 x0, .int .i64 x1, .int .i64 x2, .int .i64 x3] 36 (0, 0))); generalize w5.alloc (.cells #[.int .i64 x0, .int .i64 x1, .int .i64 x2, .int .i64 x3] 36 (0, 0)) = V at hBV ⊢; clear bA b5 c0 c1 c2 c3 f1)
          | (have hBV := Lib.hid (below_putU bB (Nat.le_refl _) ⟨x0, x1, x2, x3⟩); simp only [putU] at hBV; generalize ((((w5.setCell ⟨wr.heap.size, 0, none⟩ (.int .i64 x0)).setCell ⟨wr.heap.size, 1, none⟩ (.int .i64 x1)).setCell ⟨wr.heap.size, 2, none⟩ (.int .i64 x2)).setCell ⟨wr.heap.size, 3, none⟩ (.int .i64 x3)) = V at hBV ⊢; clear bB b5 c0 c1 c2 c3 f1 k0 k1 k2 k3 l0 l1 l2 l3)
        all_goals
          have HS5 := Lib.hid (HS.out.below hBV.out)
          have hs9 := hBV.out.size
          clear hBV
          go_wp2_with (first | (at_builtin; refine wpList_append_own_at _ rfl _ _ 43 rfl (w.heap.size + 1) 3 i0 (.int .i64 0) 1 8 Try.underlying43 hi hz0 hz1 hz2 rfl (by decide) _ Pp.length (Pp.map vI) rfl (HS5.out.below (below_al (Below.refl _ _) _)).own ⟨V.heap.size, 0, none⟩ 1 1 [.int .i64 D] rfl rfl (cell_oneI _ _ _ (by simp)) (by simp [Value.oneCell']) (by unfold maxLen; omega) (by omega) (by have := HS5.out.lt; have := HS5.out.only.size; simp at *; omega) ?_; intro v' w7 hown' hgrow _ hat; have HS7 := Lib.hid ((HS5.out.below (below_al (Below.refl _ _) _)).app hown' hgrow hat); clear hown' hgrow hat))
          go_roundw
          case rel => exact ⟨k + 1, by omega, by go_num, (by rw [HTK.out]; exact HS7)⟩
          case measure => simp [intOf]; omega
      · obtain rfl : k = t.length := by omega
        rw [List.take_length] at HS
        have HO := Lib.hid HS.out.own
        go_wp2_with fail
        go_ret2
        exact ⟨_, rfl, (ints_rowS HO.out rfl).wide (Nat.le_succ _) (Nat.le_refl _), hbw⟩
end Go.Proofs.Ytdbomnhakikmfaa

namespace Go.Proofs.Ytdbomnhakikmfaa
set_option linter.unusedVariables false
open Go.RowKit Go.Sort

theorem l1MostV_any (a b : Int) (w : World) : Calls Try.prog 36 #[.int .i64 a, .int .i64 b] w fun e w' => e = .returned (.int .i64 (max a b)) ∧ w' = w := by
  by_cases h : b < a
  · go_enter Try.func36, Try.ntmps36
    go_wp2
    go_ret
    exact ⟨ret_int (by omega), rfl⟩
  · go_enter Try.func36, Try.ntmps36
    go_wp2
    go_ret
    exact ⟨ret_int (by omega), rfl⟩

set_option maxRecDepth 20000 in
set_option maxHeartbeats 4000000 in
theorem specFirstDueDay_any (v v1 : Value) (t : List Ve) (r : Rec) (w : World) (h : RowR 2 rVe w v t) (h1 : RecV w v1 r) (n : Int) (b : Bool) (hres : firRes t r = (n, b)) :
    Calls Try.prog 8 #[v, v1] w fun e w' => e = .returned (.tuple #[.int .i64 n, .bool b]) ∧ Below w.heap.size w w' := by
  obtain ⟨s, rfl, h0, hok⟩ := h1
  have HV := Lib.hid (show ∀ W, Below w.heap.size w W → RecV W (.agg #[.int .i64 r.id, .int .i64 r.series, .int .i64 r.made, s]) r from fun W hb => ⟨s, rfl, h0.below rEv_stable hb, hok⟩)
  have H := Lib.hid (show ∀ W, Below w.heap.size w W → RowR 2 rVe W v t from fun W hb => h.below rVe_stable hb)
  obtain ⟨a1, c1, rfl, hl1, hm1, r1⟩ := h.ves
  have R1 := Lib.hid r1
  unfold maxLen at hm1
  have b0 := below_al (Below.refl w.heap.size w) (RBOX r s 27)
  have HC0 := Lib.hid (Box4.new w r s 27)
  have hask0 : askV t r 0 = (areVe t && isRec r) := by unfold askV; simp
  obtain ⟨ba, ha⟩ : ∃ b, askV t r 0 = b := ⟨_, rfl⟩
  have HA := Lib.hid ha
  cases ba
  · rw [firRes_no (by rw [hask0] at ha; simpa using ha)] at hres
    cases hres
    clear h0 hok h ha r1 hask0
    go_enter Try.func8, Try.ntmps8
    go_wp2_with (first | (go_at_call 34; refine (l8Asked_any _ _ t r 0 _ (H.out _ b0) (HV.out _ b0)).mono ?_; rw [HA.out]; rintro e w1 ⟨rfl, b1⟩; replace b1 := below_chain b0 b1))
    go_ret2
    exact ⟨rfl, b1⟩
  · have hve : areVe t = true ∧ isRec r = true := by rw [hask0] at ha; simpa using ha
    have HVE := Lib.hid hve
    have HRES := Lib.hid hres
    have h5 := ve_len hve.1
    clear h0 hok h ha r1 hask0 hve hres
    go_enter Try.func8, Try.ntmps8
    go_wp2_with (first | (go_at_call 34; refine (l8Asked_any _ _ t r 0 _ (H.out _ b0) (HV.out _ b0)).mono ?_; rw [HA.out]; rintro e w1 ⟨rfl, b1⟩; have HC1 := Lib.hid (HC0.out.kept b1); replace b1 := below_chain b0 b1))
    have s1 := b1.size
    go_loopw [6] (fun i wr => ∃ k : Nat, k ≤ t.length ∧ i = .int .i64 k ∧ Hid (∀ j, j < k → hitV t r j = false) ∧ Below w1.heap.size w1 wr) (fun i _ => t.length - (intOf i).toNat)
    case atStart => exact ⟨0, Nat.zero_le _, rfl, Lib.hid (fun j hj => absurd hj (Nat.not_lt_zero _)), Below.refl _ _⟩
    case round =>
      obtain ⟨k, hk, rfl, HNH, hb⟩ := hrel
      have hbw := b1.trans (hb.mono b1.size)
      by_cases hlt : k < t.length
      · obtain ⟨bL, oL, hbL, rfl, e1⟩ := R1.out.resolve_left (fun e => by rw [e] at hlt; simp at hlt)
        obtain ⟨sr, q0, q1, hr, _⟩ := e1 k hlt
        obtain ⟨x, hx⟩ : ∃ x, (t.getD k veD).rules = x := ⟨_, rfl⟩
        obtain ⟨fk, hfk⟩ : ∃ x, (t.getD k veD).frm = x := ⟨_, rfl⟩
        have hfb := (ve_at HVE.out.1 hlt).1
        have hsc := askV_sch HA.out hlt
        rw [hx] at hr hsc
        rw [hfk] at q0 hfb
        obtain ⟨⟨x0, x1, x2, x3⟩, D, hdec⟩ : ∃ q d, decR r (forRu x r.series) = (q, d) := ⟨_, _, rfl⟩
        have hdF : dueF r x = D := by unfold dueF; rw [hdec]
        have HDF : Hid (dueF r (t.getD k veD).rules = D) := Lib.hid (by rw [hx, hdF])
        have HFK := Lib.hid hfk
        have Q0 := Lib.hid (cell_kept q0 hbw)
        have f1 := cell_kept q1 hbw
        obtain ⟨c0, c1, c2, c3⟩ := HC1.out.kept hb
        have g0 : (0 : Int) ≤ (k : Int) := by omega
        have g1 : (k : Int) < (t.length : Int) := by omega
        have gk1 : (0 : Int) ≤ (k : Int) + 1 := by omega
        have gk2 : ((k : Int) + 1).toNat = k + 1 := by omega
        have hcall : Hid (∀ W, Below wr.heap.size wr W → Calls Try.prog 35 #[.agg #[.int .i64 r.id, .int .i64 r.series, .int .i64 r.made, s], sr] W fun e w' => e = .returned (.tuple #[.agg #[.int .i64 x0, .int .i64 x1, .int .i64 x2, .int .i64 x3], .int .i64 D]) ∧ Below W.heap.size W w') := Lib.hid (fun W hW => l6Deciding_any _ _ r x W (HV.out _ (hbw.trans (hW.mono hbw.size))) (hr.below rRu_stable (hbw.trans (hW.mono hbw.size))) (ask_iff.1 hsc).1 (ask_iff.1 hsc).2 _ _ hdec)
        by_cases hn1 : k + 1 < t.length
        · obtain ⟨sr2, p0, _, _, _⟩ := e1 (k + 1) hn1
          obtain ⟨y, hy⟩ : ∃ x, (t.getD (k + 1) veD).frm = x := ⟨_, rfl⟩
          have hyb := (ve_at HVE.out.1 hn1).1
          rw [hy] at p0 hyb
          have HL : Hid (lastV t k = y - 1) := Lib.hid (by unfold lastV; rw [if_pos hn1, hy])
          have f2 := cell_kept p0 hbw
          have g3 : (k : Int) + 1 < (t.length : Int) := by omega
          clear q0 q1 p0 hy hr hsc hdec hdF e1 hx hfk
          go_wp2_with fail
          have hl0 : w.heap.size < wr.heap.size := World.block_lt_of_cell? _ _ c0
          have hlL : bL < wr.heap.size := World.block_lt_of_cell? _ _ f1
          go_region_held3 (fun w' => w'.cell? ⟨w.heap.size, 0, none⟩ = some (.int .i64 r.id) ∧ w'.cell? ⟨w.heap.size, 1, none⟩ = some (.int .i64 r.series) ∧ w'.cell? ⟨w.heap.size, 2, none⟩ = some (.int .i64 r.made) ∧ w'.cell? ⟨w.heap.size, 3, none⟩ = some (s) ∧ w'.cell? ⟨bL, oL + k * 2 + 1, none⟩ = some sr)
            (first | with_reducible exact ⟨c0, c1, c2, c3, f1⟩ | with_reducible exact ⟨cell_drew c0, cell_drew c1, cell_drew c2, cell_drew c3, cell_drew f1⟩ | with_reducible exact ⟨below_al_cell c0 _, below_al_cell c1 _, below_al_cell c2 _, below_al_cell c3 _, below_al_cell f1 _⟩ | with_reducible exact ⟨cell_drew (below_al_cell c0 _), cell_drew (below_al_cell c1 _), cell_drew (below_al_cell c2 _), cell_drew (below_al_cell c3 _), cell_drew (below_al_cell f1 _)⟩ | (refine ⟨?_, ?_, ?_, ?_, ?_⟩ <;> (repeat rw [World.cell?_setCell_far _ _ _ _ (by simp; omega)]) <;> first | assumption | go_keep))
            (first | (go_at_call 35; (with_reducible refine (hcall.out _ ((Below.refl wr.heap.size wr).drew)).mono ?_); rintro e w5 ⟨rfl, b5⟩; have bA : Below wr.heap.size wr w5 := below_chain ((Below.refl wr.heap.size wr).drew) b5; replace c0 := cell_kept c0 bA; replace c1 := cell_kept c1 bA; replace c2 := cell_kept c2 bA; replace c3 := cell_kept c3 bA; replace f1 := cell_kept f1 bA; have hs5 := bA.size; simp only) | (go_at_call 35; (with_reducible refine (hcall.out _ ((below_al (Below.refl wr.heap.size wr) (.cells #[.int .i64 0, .int .i64 0, .int .i64 0, .int .i64 0] 36 (0, 0))).drew)).mono ?_); rintro e w5 ⟨rfl, b5⟩; have bB : Below wr.heap.size wr w5 := below_chain ((below_al (Below.refl wr.heap.size wr) (.cells #[.int .i64 0, .int .i64 0, .int .i64 0, .int .i64 0] 36 (0, 0))).drew) b5; replace c0 := cell_kept c0 bB; replace c1 := cell_kept c1 bB; replace c2 := cell_kept c2 bB; replace c3 := cell_kept c3 bB; replace f1 := cell_kept f1 bB; have hs5 := bB.size; obtain ⟨k0, k1, k2, k3, l0, l1, l2, l3⟩ := ((UBox.new wr ruD 36).drew.kept b5); simp only [ruD] at k0 k1 k2 k3; simp only))
          all_goals first
            | (have hBV := Lib.hid (below_al bA (.cells #[.int .i64 x0, .int .i64 x1, .int .i64 x2, .int .i64 x3] 36 (0, 0))); generalize w5.alloc (.cells #[.int .i64 x0, .int .i64 x1, .int .i64 x2, .int .i64 x3] 36 (0, 0)) = V at hBV ⊢; clear bA b5 c0 c1 c2 c3 f1)
            | (have hBV := Lib.hid (below_putU bB (Nat.le_refl _) ⟨x0, x1, x2, x3⟩); simp only [putU] at hBV; generalize ((((w5.setCell ⟨wr.heap.size, 0, none⟩ (.int .i64 x0)).setCell ⟨wr.heap.size, 1, none⟩ (.int .i64 x1)).setCell ⟨wr.heap.size, 2, none⟩ (.int .i64 x2)).setCell ⟨wr.heap.size, 3, none⟩ (.int .i64 x3)) = V at hBV ⊢; clear bB b5 c0 c1 c2 c3 f1 k0 k1 k2 k3 l0 l1 l2 l3)
          all_goals
            have f0 := cell_kept Q0.out hBV.out
            have hb9 : Below w1.heap.size w1 V := hb.trans (hBV.out.mono hb.size)
            clear hBV
            by_cases hD0 : 0 ≤ D
            · by_cases hDL : D ≤ y - 1
              · have hhit : hitV t r k = true := hitV_iff.2 ⟨by rw [HDF.out]; exact hD0, by rw [HDF.out, HL.out]; exact hDL⟩
                have hans := HRES.out
                rw [firRes_some HVE.out (firV_some hlt hhit HNH.out), HDF.out, HFK.out] at hans
                cases hans
                clear hhit
                go_wp2_with (first | (go_at_call 36; refine (l1MostV_any _ _ _).mono ?_; rintro e w7 ⟨rfl, h7⟩; subst w7))
                go_ret2
                exact ⟨rfl, b1.trans (hb9.mono b1.size)⟩
              · have hhit : hitV t r k = false := by
                  rcases hq : hitV t r k with _ | _
                  · rfl
                  · have := (hitV_iff.1 hq).2; rw [HDF.out, HL.out] at this; exact absurd this hDL
                have HN2 : Hid (∀ j, j < k + 1 → hitV t r j = false) := Lib.hid (fun j hj => by
                  rcases Nat.lt_or_ge j k with h' | h'
                  · exact HNH.out j h'
                  · obtain rfl : j = k := by omega
                    exact hhit)
                clear hhit
                go_wp2_with fail
                go_roundw
                case rel => exact ⟨k + 1, by omega, by go_num, HN2, hb9⟩
                case measure => simp [intOf]; omega
            · have hhit : hitV t r k = false := by
                rcases hq : hitV t r k with _ | _
                · rfl
                · have := (hitV_iff.1 hq).1; rw [HDF.out] at this; exact absurd this hD0
              have HN2 : Hid (∀ j, j < k + 1 → hitV t r j = false) := Lib.hid (fun j hj => by
                rcases Nat.lt_or_ge j k with h' | h'
                · exact HNH.out j h'
                · obtain rfl : j = k := by omega
                  exact hhit)
              clear hhit
              go_wp2_with fail
              go_roundw
              case rel => exact ⟨k + 1, by omega, by go_num, HN2, hb9⟩
              case measure => simp [intOf]; omega
        · have HL : Hid (lastV t k = 20000) := Lib.hid (by unfold lastV; rw [if_neg hn1])
          have g3 : ¬ (k : Int) + 1 < (t.length : Int) := by omega
          clear q0 q1 hr hsc hdec hdF e1 hx hfk
          go_wp2_with fail
          have hl0 : w.heap.size < wr.heap.size := World.block_lt_of_cell? _ _ c0
          have hlL : bL < wr.heap.size := World.block_lt_of_cell? _ _ f1
          go_region_held3 (fun w' => w'.cell? ⟨w.heap.size, 0, none⟩ = some (.int .i64 r.id) ∧ w'.cell? ⟨w.heap.size, 1, none⟩ = some (.int .i64 r.series) ∧ w'.cell? ⟨w.heap.size, 2, none⟩ = some (.int .i64 r.made) ∧ w'.cell? ⟨w.heap.size, 3, none⟩ = some (s) ∧ w'.cell? ⟨bL, oL + k * 2 + 1, none⟩ = some sr)
            (first | with_reducible exact ⟨c0, c1, c2, c3, f1⟩ | with_reducible exact ⟨cell_drew c0, cell_drew c1, cell_drew c2, cell_drew c3, cell_drew f1⟩ | with_reducible exact ⟨below_al_cell c0 _, below_al_cell c1 _, below_al_cell c2 _, below_al_cell c3 _, below_al_cell f1 _⟩ | with_reducible exact ⟨cell_drew (below_al_cell c0 _), cell_drew (below_al_cell c1 _), cell_drew (below_al_cell c2 _), cell_drew (below_al_cell c3 _), cell_drew (below_al_cell f1 _)⟩ | (refine ⟨?_, ?_, ?_, ?_, ?_⟩ <;> (repeat rw [World.cell?_setCell_far _ _ _ _ (by simp; omega)]) <;> first | assumption | go_keep))
            (first | (go_at_call 35; (with_reducible refine (hcall.out _ ((Below.refl wr.heap.size wr).drew)).mono ?_); rintro e w5 ⟨rfl, b5⟩; have bA : Below wr.heap.size wr w5 := below_chain ((Below.refl wr.heap.size wr).drew) b5; replace c0 := cell_kept c0 bA; replace c1 := cell_kept c1 bA; replace c2 := cell_kept c2 bA; replace c3 := cell_kept c3 bA; replace f1 := cell_kept f1 bA; have hs5 := bA.size; simp only) | (go_at_call 35; (with_reducible refine (hcall.out _ ((below_al (Below.refl wr.heap.size wr) (.cells #[.int .i64 0, .int .i64 0, .int .i64 0, .int .i64 0] 36 (0, 0))).drew)).mono ?_); rintro e w5 ⟨rfl, b5⟩; have bB : Below wr.heap.size wr w5 := below_chain ((below_al (Below.refl wr.heap.size wr) (.cells #[.int .i64 0, .int .i64 0, .int .i64 0, .int .i64 0] 36 (0, 0))).drew) b5; replace c0 := cell_kept c0 bB; replace c1 := cell_kept c1 bB; replace c2 := cell_kept c2 bB; replace c3 := cell_kept c3 bB; replace f1 := cell_kept f1 bB; have hs5 := bB.size; obtain ⟨k0, k1, k2, k3, l0, l1, l2, l3⟩ := ((UBox.new wr ruD 36).drew.kept b5); simp only [ruD] at k0 k1 k2 k3; simp only))
          all_goals first
            | (have hBV := Lib.hid (below_al bA (.cells #[.int .i64 x0, .int .i64 x1, .int .i64 x2, .int .i64 x3] 36 (0, 0))); generalize w5.alloc (.cells #[.int .i64 x0, .int .i64 x1, .int .i64 x2, .int .i64 x3] 36 (0, 0)) = V at hBV ⊢; clear bA b5 c0 c1 c2 c3 f1)
            | (have hBV := Lib.hid (below_putU bB (Nat.le_refl _) ⟨x0, x1, x2, x3⟩); simp only [putU] at hBV; generalize ((((w5.setCell ⟨wr.heap.size, 0, none⟩ (.int .i64 x0)).setCell ⟨wr.heap.size, 1, none⟩ (.int .i64 x1)).setCell ⟨wr.heap.size, 2, none⟩ (.int .i64 x2)).setCell ⟨wr.heap.size, 3, none⟩ (.int .i64 x3)) = V at hBV ⊢; clear bB b5 c0 c1 c2 c3 f1 k0 k1 k2 k3 l0 l1 l2 l3)
          all_goals
            have f0 := cell_kept Q0.out hBV.out
            have hb9 : Below w1.heap.size w1 V := hb.trans (hBV.out.mono hb.size)
            clear hBV
            by_cases hD0 : 0 ≤ D
            · by_cases hDL : D ≤ 20000
              · have hhit : hitV t r k = true := hitV_iff.2 ⟨by rw [HDF.out]; exact hD0, by rw [HDF.out, HL.out]; exact hDL⟩
                have hans := HRES.out
                rw [firRes_some HVE.out (firV_some hlt hhit HNH.out), HDF.out, HFK.out] at hans
                cases hans
                clear hhit
                go_wp2_with (first | (go_at_call 36; refine (l1MostV_any _ _ _).mono ?_; rintro e w7 ⟨rfl, h7⟩; subst w7))
                go_ret2
                exact ⟨rfl, b1.trans (hb9.mono b1.size)⟩
              · have hhit : hitV t r k = false := by
                  rcases hq : hitV t r k with _ | _
                  · rfl
                  · have := (hitV_iff.1 hq).2; rw [HDF.out, HL.out] at this; exact absurd this hDL
                have HN2 : Hid (∀ j, j < k + 1 → hitV t r j = false) := Lib.hid (fun j hj => by
                  rcases Nat.lt_or_ge j k with h' | h'
                  · exact HNH.out j h'
                  · obtain rfl : j = k := by omega
                    exact hhit)
                clear hhit
                go_wp2_with fail
                go_roundw
                case rel => exact ⟨k + 1, by omega, by go_num, HN2, hb9⟩
                case measure => simp [intOf]; omega
            · have hhit : hitV t r k = false := by
                rcases hq : hitV t r k with _ | _
                · rfl
                · have := (hitV_iff.1 hq).1; rw [HDF.out] at this; exact absurd this hD0
              have HN2 : Hid (∀ j, j < k + 1 → hitV t r j = false) := Lib.hid (fun j hj => by
                rcases Nat.lt_or_ge j k with h' | h'
                · exact HNH.out j h'
                · obtain rfl : j = k := by omega
                  exact hhit)
              clear hhit
              go_wp2_with fail
              go_roundw
              case rel => exact ⟨k + 1, by omega, by go_num, HN2, hb9⟩
              case measure => simp [intOf]; omega
      · obtain rfl : k = t.length := by omega
        have hans := HRES.out
        rw [firRes_none (firV_none HNH.out)] at hans
        cases hans
        go_wp2_with fail
        go_ret2
        exact ⟨rfl, hbw⟩

set_option maxRecDepth 20000 in
set_option maxHeartbeats 4000000 in
theorem specWhyOn_any (v v1 : Value) (t : List Ve) (r : Rec) (d : Int) (w : World) (h : RowR 2 rVe w v t) (h1 : RecV w v1 r) (ss : ByteArray) (b : Bool) (hres : whyRes t r d = (ss, b)) :
    Calls Try.prog 17 #[v, v1, .int .i64 d] w fun e w' => e = .returned (.tuple #[.string ss, .bool b]) ∧ Below w.heap.size w w' := by
  obtain ⟨s, rfl, h0, hok⟩ := h1
  have HV := Lib.hid (show ∀ W, Below w.heap.size w W → RecV W (.agg #[.int .i64 r.id, .int .i64 r.series, .int .i64 r.made, s]) r from fun W hb => ⟨s, rfl, h0.below rEv_stable hb, hok⟩)
  have H := Lib.hid (show ∀ W, Below w.heap.size w W → RowR 2 rVe W v t from fun W hb => h.below rVe_stable hb)
  obtain ⟨a1, c1, rfl, hl1, hm1, r1⟩ := h.ves
  have R1 := Lib.hid r1
  unfold maxLen at hm1
  have b0 := below_al (Below.refl w.heap.size w) (RBOX r s 27)
  have HC0 := Lib.hid (Box4.new w r s 27)
  obtain ⟨ba, ha⟩ : ∃ b, askV t r d = b := ⟨_, rfl⟩
  have HA := Lib.hid ha
  obtain ⟨N, hN⟩ : ∃ N, onV t d = N := ⟨_, rfl⟩
  have HN := Lib.hid hN
  unfold whyRes at hres
  cases ba
  · rw [if_neg (by rw [ha]; simp)] at hres
    cases hres
    clear h0 hok h ha r1 hN
    go_enter Try.func17, Try.ntmps17
    go_wp2_with (first | (go_at_call 34; refine (l8Asked_any _ _ t r d _ (H.out _ b0) (HV.out _ b0)).mono ?_; rw [HA.out]; rintro e w1 ⟨rfl, b1⟩; replace b1 := below_chain b0 b1))
    go_ret2
    exact ⟨rfl, b1⟩
  · rw [if_pos ha] at hres
    by_cases hneg : N < 0
    · have hw : whyV t r d = wNone := by unfold whyV; rw [if_pos (by rw [hN]; exact hneg)]
      rw [hw] at hres
      cases hres
      clear h0 hok h ha r1 hN hw
      go_enter Try.func17, Try.ntmps17
      go_wp2_with (first | (go_at_call 34; refine (l8Asked_any _ _ t r d _ (H.out _ b0) (HV.out _ b0)).mono ?_; rw [HA.out]; rintro e w1 ⟨rfl, b1⟩; replace b1 := below_chain b0 b1) | (go_at_call 48; refine (l8On_any _ t d _ (H.out _ b1)).mono ?_; rw [HN.out]; rintro e w2 ⟨rfl, b2⟩; replace b2 := below_chain b1 b2))
      go_ret2
      exact ⟨rfl, b2⟩
    · have hge : ¬ N < 0 := hneg
      obtain ⟨k, hk0, hk, _, _⟩ := onV_at (t := t) (d := d) (by rw [hN]; omega)
      have hNk : N = (k : Int) := by rw [← hN]; exact hk0
      subst hNk
      have hsc := askV_sch ha hk
      obtain ⟨x, hx⟩ : ∃ x, (t.getD k veD).rules = x := ⟨_, rfl⟩
      obtain ⟨bL, oL, hbL, rfl, e1⟩ := r1.resolve_left (fun e => by rw [e] at hk; simp at hk)
      obtain ⟨sr, _, q1, hr, _⟩ := e1 k hk
      rw [hx] at hr hsc
      have HR := Lib.hid (show ∀ W, Below w.heap.size w W → RowR 4 rRu W sr x from fun W hb => hr.below rRu_stable hb)
      have hxl := sch_len (ask_iff.1 hsc).2
      obtain ⟨⟨x0, x1, x2, x3⟩, D, hdec⟩ : ∃ q d, decR r (forRu x r.series) = (q, d) := ⟨_, _, rfl⟩
      have hdF : dueF r x = D := by unfold dueF; rw [hdec]
      have HDF := Lib.hid hdF
      obtain ⟨R, hR⟩ : ∃ R, forRu x r.series = R := ⟨_, rfl⟩
      have HRR := Lib.hid hR
      have g0 : (0 : Int) ≤ (k : Int) := by omega
      have g1 : (k : Int) < (t.length : Int) := by omega
      have hwhy : whyV t r d = (if R.length = 0 then wSeries else if D < 0 then wEvent else if d < D then wEarly else wDue) := by unfold whyV; rw [if_neg (by rw [hN]; omega), hN, rulesAt_nat, hx]; unfold whyR; rw [hR, hdF]
      rw [hwhy] at hres
      have HRES := Lib.hid hres
      have hcall0 : Hid (∀ W, Below w.heap.size w W → Calls Try.prog 35 #[.agg #[.int .i64 r.id, .int .i64 r.series, .int .i64 r.made, s], sr] W fun e w' => e = .returned (.tuple #[.agg #[.int .i64 x0, .int .i64 x1, .int .i64 x2, .int .i64 x3], .int .i64 D]) ∧ Below W.heap.size W w') := Lib.hid (fun W hW => l6Deciding_any _ _ r x W (HV.out _ hW) (HR.out _ hW) (ask_iff.1 hsc).1 (ask_iff.1 hsc).2 _ _ hdec)
      clear h0 hok h ha r1 hN hres hwhy hr hsc hdec hdF hx hR e1 hk0 hneg
      go_enter Try.func17, Try.ntmps17
      go_wp2_with (first | (go_at_call 34; refine (l8Asked_any _ _ t r d _ (H.out _ b0) (HV.out _ b0)).mono ?_; rw [HA.out]; rintro e w1 ⟨rfl, b1⟩; have HC1 := Lib.hid (HC0.out.kept b1); replace b1 := below_chain b0 b1) | (go_at_call 48; refine (l8On_any _ t d _ (H.out _ b1)).mono ?_; rw [HN.out]; rintro e w2 ⟨rfl, b2⟩; obtain ⟨c0, c1, c2, c3⟩ := HC1.out.kept b2; have HC2 := Lib.hid (HC1.out.kept b2); replace b2 := below_chain b1 b2))
      have f1 := cell_kept q1 b2
      have F1 := Lib.hid f1
      have hcall : Hid (∀ W, Below w2.heap.size w2 W → Calls Try.prog 35 #[.agg #[.int .i64 r.id, .int .i64 r.series, .int .i64 r.made, s], sr] W fun e w' => e = .returned (.tuple #[.agg #[.int .i64 x0, .int .i64 x1, .int .i64 x2, .int .i64 x3], .int .i64 D]) ∧ Below W.heap.size W w') := Lib.hid (fun W hW => hcall0.out W (b2.trans (hW.mono b2.size)))
      have hl0 : w.heap.size < w2.heap.size := World.block_lt_of_cell? _ _ c0
      have hlL : bL < w2.heap.size := World.block_lt_of_cell? _ _ f1
      go_region_held3 (fun w' => w'.cell? ⟨w.heap.size, 0, none⟩ = some (.int .i64 r.id) ∧ w'.cell? ⟨w.heap.size, 1, none⟩ = some (.int .i64 r.series) ∧ w'.cell? ⟨w.heap.size, 2, none⟩ = some (.int .i64 r.made) ∧ w'.cell? ⟨w.heap.size, 3, none⟩ = some (s) ∧ w'.cell? ⟨bL, oL + k * 2 + 1, none⟩ = some sr)
        (first | with_reducible exact ⟨c0, c1, c2, c3, f1⟩ | with_reducible exact ⟨cell_drew c0, cell_drew c1, cell_drew c2, cell_drew c3, cell_drew f1⟩ | with_reducible exact ⟨below_al_cell c0 _, below_al_cell c1 _, below_al_cell c2 _, below_al_cell c3 _, below_al_cell f1 _⟩ | with_reducible exact ⟨cell_drew (below_al_cell c0 _), cell_drew (below_al_cell c1 _), cell_drew (below_al_cell c2 _), cell_drew (below_al_cell c3 _), cell_drew (below_al_cell f1 _)⟩ | (refine ⟨?_, ?_, ?_, ?_, ?_⟩ <;> (repeat rw [World.cell?_setCell_far _ _ _ _ (by simp; omega)]) <;> first | assumption | go_keep))
        (first | (go_at_call 35; (with_reducible refine (hcall.out _ ((Below.refl w2.heap.size w2).drew)).mono ?_); rintro e w5 ⟨rfl, b5⟩; have bA : Below w2.heap.size w2 w5 := below_chain ((Below.refl w2.heap.size w2).drew) b5; replace c0 := cell_kept c0 bA; replace c1 := cell_kept c1 bA; replace c2 := cell_kept c2 bA; replace c3 := cell_kept c3 bA; replace f1 := cell_kept f1 bA; have hs5 := bA.size; simp only) | (go_at_call 35; (with_reducible refine (hcall.out _ ((below_al (Below.refl w2.heap.size w2) (.cells #[.int .i64 0, .int .i64 0, .int .i64 0, .int .i64 0] 36 (0, 0))).drew)).mono ?_); rintro e w5 ⟨rfl, b5⟩; have bB : Below w2.heap.size w2 w5 := below_chain ((below_al (Below.refl w2.heap.size w2) (.cells #[.int .i64 0, .int .i64 0, .int .i64 0, .int .i64 0] 36 (0, 0))).drew) b5; replace c0 := cell_kept c0 bB; replace c1 := cell_kept c1 bB; replace c2 := cell_kept c2 bB; replace c3 := cell_kept c3 bB; replace f1 := cell_kept f1 bB; have hs5 := bB.size; obtain ⟨k0, k1, k2, k3, l0, l1, l2, l3⟩ := ((UBox.new w2 ruD 36).drew.kept b5); simp only [ruD] at k0 k1 k2 k3; simp only))
      all_goals first
        | (have hBV := Lib.hid (below_al bA (.cells #[.int .i64 x0, .int .i64 x1, .int .i64 x2, .int .i64 x3] 36 (0, 0))); generalize w5.alloc (.cells #[.int .i64 x0, .int .i64 x1, .int .i64 x2, .int .i64 x3] 36 (0, 0)) = V at hBV ⊢; clear bA b5 c0 c1 c2 c3 f1)
        | (have hBV := Lib.hid (below_putU bB (Nat.le_refl _) ⟨x0, x1, x2, x3⟩); simp only [putU] at hBV; generalize ((((w5.setCell ⟨w2.heap.size, 0, none⟩ (.int .i64 x0)).setCell ⟨w2.heap.size, 1, none⟩ (.int .i64 x1)).setCell ⟨w2.heap.size, 2, none⟩ (.int .i64 x2)).setCell ⟨w2.heap.size, 3, none⟩ (.int .i64 x3)) = V at hBV ⊢; clear bB b5 c0 c1 c2 c3 f1 k0 k1 k2 k3 l0 l1 l2 l3)
      all_goals
        have f1 := cell_kept F1.out hBV.out
        obtain ⟨c0, c1, c2, c3⟩ := HC2.out.kept hBV.out
        have bV : Below w.heap.size w V := b2.trans (hBV.out.mono b2.size)
        clear hBV
        by_cases hR0 : R.length = 0
        · have hans := HRES.out
          rw [if_pos hR0] at hans
          cases hans
          have hz1 : ((R.length : Int) == 0) = true := by simp [hR0]
          have hz2 : decide ((R.length : Int) = 0) = true := decide_eq_true (by omega)
          clear hR0
          go_wp2_with fail
          go_still_tail 7, (by kernel_rfl)
          change wpList _ _ _ _ _ V.drew
          have bV2 := bV.drew
          generalize V.drew = V2 at bV2 ⊢
          go_wp2_with (first | (go_at_call 50; refine (l4For_any _ x r.series _ (HR.out _ bV2) (by omega)).mono ?_; rw [HRR.out]; rintro e w6 ⟨v6, rfl, ho6, b6⟩; obtain ⟨sa, sn, sc, hv6⟩ := ho6.1.slice; obtain ⟨a6, c6, hv, hl6, hm6, _⟩ := ho6.row.rus; unfold maxLen at hm6; subst hv; clear hv6 ho6; have b7 := below_chain bV2 b6))
          go_ret2
          exact ⟨rfl, b7⟩
        · have hans := HRES.out
          rw [if_neg hR0] at hans
          have hz1 : ((R.length : Int) == 0) = false := by simp [hR0]
          have hz2 : decide ((R.length : Int) = 0) = false := decide_eq_false (by omega)
          clear hR0
          by_cases hD0 : D < 0
          · rw [if_pos hD0] at hans
            cases hans
            go_wp2_with fail
            go_still_tail 7, (by kernel_rfl)
            change wpList _ _ _ _ _ V.drew
            have bV2 := bV.drew
            generalize V.drew = V2 at bV2 ⊢
            go_wp2_with (first | (go_at_call 50; refine (l4For_any _ x r.series _ (HR.out _ bV2) (by omega)).mono ?_; rw [HRR.out]; rintro e w6 ⟨v6, rfl, ho6, b6⟩; obtain ⟨sa, sn, sc, hv6⟩ := ho6.1.slice; obtain ⟨a6, c6, hv, hl6, hm6, _⟩ := ho6.row.rus; unfold maxLen at hm6; subst hv; clear hv6 ho6; have b7 := below_chain bV2 b6))
            go_ret2
            exact ⟨rfl, b7⟩
          · rw [if_neg hD0] at hans
            by_cases hDd : d < D
            · rw [if_pos hDd] at hans
              cases hans
              go_wp2_with fail
              go_still_tail 7, (by kernel_rfl)
              change wpList _ _ _ _ _ V.drew
              have bV2 := bV.drew
              generalize V.drew = V2 at bV2 ⊢
              go_wp2_with (first | (go_at_call 50; refine (l4For_any _ x r.series _ (HR.out _ bV2) (by omega)).mono ?_; rw [HRR.out]; rintro e w6 ⟨v6, rfl, ho6, b6⟩; obtain ⟨sa, sn, sc, hv6⟩ := ho6.1.slice; obtain ⟨a6, c6, hv, hl6, hm6, _⟩ := ho6.row.rus; unfold maxLen at hm6; subst hv; clear hv6 ho6; have b7 := below_chain bV2 b6))
              go_ret2
              exact ⟨rfl, b7⟩
            · rw [if_neg hDd] at hans
              cases hans
              go_wp2_with fail
              go_still_tail 7, (by kernel_rfl)
              change wpList _ _ _ _ _ V.drew
              have bV2 := bV.drew
              generalize V.drew = V2 at bV2 ⊢
              go_wp2_with (first | (go_at_call 50; refine (l4For_any _ x r.series _ (HR.out _ bV2) (by omega)).mono ?_; rw [HRR.out]; rintro e w6 ⟨v6, rfl, ho6, b6⟩; obtain ⟨sa, sn, sc, hv6⟩ := ho6.1.slice; obtain ⟨a6, c6, hv, hl6, hm6, _⟩ := ho6.row.rus; unfold maxLen at hm6; subst hv; clear hv6 ho6; have b7 := below_chain bV2 b6))
              go_ret2
              exact ⟨rfl, b7⟩
end Go.Proofs.Ytdbomnhakikmfaa

namespace Go.Proofs.Ytdbomnhakikmfaa
set_option linter.unusedVariables false

theorem vz_hit {t : List Ve} {r : Rec} {n : Int} (h : firRes t r = (n, true)) : (areVe t = true ∧ isRec r = true) ∧ ∃ k, k < t.length ∧ hitV t r k = true ∧ (∀ j, j < k → hitV t r j = false) ∧ n = max (dueF r (t.getD k veD).rules) (t.getD k veD).frm ∧ onV t n = (k : Int) ∧ (0 ≤ n ∧ n ≤ 20000) := by
  have hv : areVe t = true ∧ isRec r = true := by
    by_cases hv : areVe t = true ∧ isRec r = true
    · exact hv
    · rw [firRes_no hv] at h; exact absurd (Prod.mk.inj h).2 (by simp)
  refine ⟨hv, ?_⟩
  rcases hf : firV t r with _ | k
  · rw [firRes_none hf] at h; exact absurd (Prod.mk.inj h).2 (by simp)
  · obtain ⟨h1, h2, h3⟩ := firV_at hf
    rw [firRes_some hv hf] at h
    have hn := (Prod.mk.inj h).1
    have ho := ((hit_on (r := r) hv.1 h1 hn).1 h2).1
    unfold onRes at ho
    by_cases hc : (areVe t = true ∧ (0 ≤ n ∧ n ≤ 20000)) ∧ 0 ≤ onV t n
    · rw [if_pos hc] at ho
      exact ⟨k, h1, h2, h3, hn.symm, (Prod.mk.inj ho).1, hc.1.2⟩
    · rw [if_neg hc] at ho; exact absurd (Prod.mk.inj ho).2 (by simp)
theorem vz_due {t : List Ve} {r : Rec} {n : Int} (h : firRes t r = (n, true)) : dueV t r n = true ∧ askV t r n = true := by
  obtain ⟨hv, k, h1, h2, h3, h4, h5, h6⟩ := vz_hit h
  have h7 := hitV_iff.1 h2
  refine ⟨?_, askV_iff.2 ⟨hv.1, hv.2, h6⟩⟩
  unfold dueV
  rw [h5, rulesAt_nat, decide_eq_true_eq]
  omega
theorem vz_do {t : List Ve} {r : Rec} {n : Int} (h : firRes t r = (n, true)) : doRes t r n = (true, true) := by
  obtain ⟨h1, h2⟩ := vz_due h
  unfold doRes; rw [if_pos h2, h1]
theorem vz_why {t : List Ve} {r : Rec} {n : Int} (h : firRes t r = (n, true)) : whyRes t r n = (wDue, true) := by
  obtain ⟨h1, h2⟩ := vz_due h
  unfold whyRes; rw [if_pos h2, whyV_due.2 h1]
theorem dec_two {r : Rec} {t : List Ru} : (decRes r t).2 = true ↔ askB r t = true ∧ 0 ≤ dueF r t := by
  unfold decRes setF
  split
  · rename_i h; simp [h]
  · rename_i h; simp only [Bool.false_eq_true, false_iff]; exact h
theorem vz_dec {t : List Ve} {r : Rec} {n : Int} (h : firRes t r = (n, true)) : (decoRes t r n).2 = true := by
  obtain ⟨h1, h2⟩ := vz_due h
  obtain ⟨hv, k, h3, h4, _, _, h5, h6⟩ := vz_hit h
  unfold decoRes
  rw [if_pos ⟨h2, by rw [h5]; omega⟩, dec_two, h5, rulesAt_nat]
  exact ⟨askV_sch h2 h3, (hitV_iff.1 h4).1⟩
theorem vz_before {t : List Ve} {r : Rec} {n : Int} (h : firRes t r = (n, true)) (hn : 0 < n) : doRes t r (n - 1) = (false, true) := by
  obtain ⟨hv, k, h1, h2, h3, h4, h5, h6⟩ := vz_hit h
  have ha : askV t r (n - 1) = true := askV_iff.2 ⟨hv.1, hv.2, by omega⟩
  unfold doRes
  rw [if_pos ha]
  rcases hb : dueV t r (n - 1) with _ | _
  · rfl
  · exfalso
    unfold dueV at hb
    rw [decide_eq_true_eq] at hb
    obtain ⟨j, e1, e2, e3, e4⟩ := onV_at hb.1
    rw [e1, rulesAt_nat] at hb
    have h7 := hitV_iff.1 h2
    obtain ⟨k', f1, f2, f3, f4⟩ := onV_at (t := t) (d := n) (by rw [h5]; omega)
    have hk : k' = k := by omega
    subst hk
    rcases Nat.lt_trichotomy j k' with hj | hj | hj
    · have hh : hitV t r j = true := by
        rw [hitV_iff]
        refine ⟨hb.2.1, ?_⟩
        unfold lastV
        rw [if_pos (by omega)]
        have := e4 (j + 1) (by omega) (by omega)
        omega
      rw [h3 j hj] at hh; cases hh
    · subst hj; omega
    · exact f4 j hj e2 (by omega)
theorem vz_told {t : List Ve} {r : Rec} {d : Int} (h : (decoRes t r d).2 = true) : (whyRes t r d).1 = wDue ∨ (whyRes t r d).1 = wEarly := by
  unfold decoRes at h
  by_cases hc : askV t r d = true ∧ 0 ≤ onV t d
  · rw [if_pos hc, dec_two] at h
    unfold whyRes whyV
    rw [if_pos hc.1]
    simp only
    rw [if_neg (by omega)]
    unfold whyR
    have h1 := (dec_told (us := forRu (rulesAt t (onV t d)) r.series)).1 h.2
    rw [if_neg (fun e => h1.1 (List.length_eq_zero_iff.1 e)), if_neg (by omega)]
    split
    · exact .inr rfl
    · exact .inl rfl
  · rw [if_neg hc] at h; cases h
end Go.Proofs.Ytdbomnhakikmfaa

namespace Go.Proofs.Ytdbomnhakikmfaa
set_option linter.unusedVariables false
open Go.RowKit Go.Sort


set_option maxHeartbeats 1000000 in
theorem vInts_any (v1 v2 : Value) (xs ys : List Int) (w : World) (h1 : RowOf vI w v1 xs) (h2 : RowOf vI w v2 ys) :
    Calls Try.prog 21 #[v1, v2] w fun e w' => e = .returned (.bool (decide (xs = ys))) ∧ Below w.heap.size w w' := by
  have hx := h1.cap
  have hy := h2.cap
  obtain ⟨a1, c1, rfl, hl1, hm1, r1⟩ := h1
  obtain ⟨a2, c2, rfl, hl2, hm2, r2⟩ := h2
  by_cases hlen : xs.length = ys.length
  · have hLen := Lib.hid hlen
    have hne : (((xs.length : Nat) : Int) != (xs.length : Int)) = false := by simp
    rw [← hlen]
    clear hlen
    have R1 := Lib.hid r1
    have R2 := Lib.hid r2
    clear r1 r2
    go_enter Try.func21, Try.ntmps21
    go_wp2
    go_loopw [5] (fun i wr => ∃ k : Nat, k ≤ xs.length ∧ i = .int .i64 k ∧ Hid (∀ j (h : j < k) (h1 : j < xs.length) (h2 : j < ys.length), xs[j] = ys[j]) ∧ Below w.heap.size w wr) (fun i _ => xs.length - (intOf i).toNat)
    case atStart => exact ⟨0, Nat.zero_le _, rfl, Lib.hid (fun j h => by omega), Below.refl _ _⟩
    case round =>
      obtain ⟨k, hk, rfl, HJ, hb⟩ := hrel
      by_cases hlt : k < xs.length
      · obtain ⟨b1, o1, hb1, rfl, e1⟩ := R1.out.resolve_left (fun e => by rw [e] at hlt; simp at hlt)
        obtain ⟨b2, o2, hb2, rfl, e2⟩ := R2.out.resolve_left (fun e => by have := hLen.out; rw [e] at this; simp at this; rw [this] at hlt; simp at hlt)
        obtain ⟨x, hx⟩ : ∃ s, xs[k] = s := ⟨_, rfl⟩
        obtain ⟨y, hy⟩ : ∃ s, ys[k]'(by have := hLen.out; omega) = s := ⟨_, rfl⟩
        have f1 := (hb.cell (p := ⟨b1, o1 + k, none⟩) hb1).trans (e1 k hlt)
        have f2 := (hb.cell (p := ⟨b2, o2 + k, none⟩) hb2).trans (e2 k (by have := hLen.out; omega))
        rw [hx] at f1
        rw [hy] at f2
        simp only [vI] at f1 f2
        have HX := Lib.hid hx
        have HY := Lib.hid hy
        have g0 : (0 : Int) ≤ (k : Int) := by omega
        have g1 : (k : Int) < (xs.length : Int) := by omega
        clear e1 e2 hx hy
        by_cases he : x = y
        · have hq : (x != y) = false := by simp [he]
          have HE := Lib.hid he
          clear he
          go_wp2
          go_quiet (fail)
          go_wp2
          go_roundw
          case rel =>
            refine ⟨k + 1, by omega, by go_num, Lib.hid (fun j h a b => ?_), below_drewN hb _⟩
            rcases Nat.lt_or_ge j k with h' | h'
            · exact HJ.out j h' a b
            · obtain rfl : j = k := by omega
              rw [HX.out, HY.out]
              exact HE.out
          case measure => simp [intOf]; omega
        · have hq : (x != y) = true := by simp [he]
          have HE := Lib.hid he
          clear he
          go_wp2
          go_quiet (fail)
          go_wp2
          go_ret
          exact ⟨ret_bool (Eq.symm (decide_eq_false (fun e => HE.out (by subst e; exact HX.out.symm.trans HY.out)))), below_drewN hb _⟩
      · go_wp2
        go_ret
        refine ⟨ret_bool (Eq.symm (decide_eq_true ?_)), hb⟩
        exact List.ext_getElem hLen.out fun i a b => HJ.out i (by omega) a b
  · have hne : (((xs.length : Nat) : Int) != (ys.length : Int)) = true := by simp; omega
    rw [decide_eq_false (fun e => hlen (by rw [e]))]
    go_enter Try.func21, Try.ntmps21
    go_wp2
    go_ret
    exact ⟨rfl, Below.refl _ _⟩

set_option maxRecDepth 20000 in
set_option maxHeartbeats 1000000 in
theorem vBig_any (a : Option Addr) (len cap : Nat) (w : World) (b : Bool) (hb : decide ((65536 : Int) < (len : Int)) = b) (hl : len ≤ 9223372036854775807) :
    Calls Try.prog 5 #[.slice a len cap] w fun e w' => e = .returned (.bool b) ∧ w = w' := by
  have HB := Lib.hid hb
  clear hb
  go_enter Try.func5, Try.ntmps5
  go_wp2
  go_ret
  exact ⟨ret_bool HB.out, rfl⟩
theorem isRow_len {k : IntKind} {w : World} {a : Option Addr} {len cap : Nat} {zs : List Int} (h : IsRow k w a len cap zs) : len ≤ 9223372036854775807 := by
  rcases h with ⟨rfl, rfl, rfl, rfl⟩ | ⟨x, rfl, hl, hm, _⟩
  · omega
  · unfold maxLen at hm; omega
theorem vInts_same (v1 v2 : Value) (xs : List Int) (w : World) (h1 : RowOf vI w v1 xs) (h2 : RowOf vI w v2 xs) :
    Calls Try.prog 21 #[v1, v2] w fun e w' => e = .returned (.bool true) ∧ Below w.heap.size w w' :=
  (vInts_any v1 v2 xs xs w h1 h2).mono fun e w' ⟨h, b⟩ => ⟨by rw [h, decide_eq_true rfl], b⟩
end Go.Proofs.Ytdbomnhakikmfaa

namespace Go.Proofs.Ytdbomnhakikmfaa
set_option linter.unusedVariables false
open Go.RowKit Go.Sort

theorem implIsSeries_any (n : Int) (w : World) : Calls Try.prog 62 #[.int .i64 n] w fun e w' => e = .returned (.bool (decide (1 ≤ n ∧ n ≤ 99))) ∧ w' = w := by
  by_cases h1 : 1 ≤ n
  · go_enter Try.func62, Try.ntmps62
    go_wp2
    go_ret
    exact ⟨ret_bool (by first | (simp; done) | (simp; omega) | (rw [Bool.eq_iff_iff]; simp; omega)), rfl⟩
  · go_enter Try.func62, Try.ntmps62
    go_wp2
    go_ret
    exact ⟨ret_bool (by first | (simp; done) | (simp; omega) | (rw [Bool.eq_iff_iff]; simp; omega)), rfl⟩

theorem keyOf_any (x : Ru) (w : World) : Calls Try.prog 70 #[.agg #[.int .i64 x.series, .int .i64 x.event, .int .i64 x.days, .int .i64 x.act]] w fun e w' => e = .returned (.agg #[.int .i64 x.series, .int .i64 x.event]) ∧ Below w.heap.size w w' := by
  obtain ⟨x0, x1, x2, x3⟩ := x
  simp only
  go_enter Try.func70, Try.ntmps70
  go_wp2_with fail
  refine bodyPost_ret (v := .agg #[.int .i64 x0, .int .i64 x1]) (by simp [results, Try.results70, go_sem]) rfl ⟨rfl, ?_⟩
  exact below_al (below_al (Below.refl _ _) _) _

theorem isBefore_any (a b : Ru) (w : World) : Calls Try.prog 69 #[.agg #[.int .i64 a.series, .int .i64 a.event], .agg #[.int .i64 b.series, .int .i64 b.event]] w fun e w' => e = .returned (.bool (bef a b)) ∧ Below w.heap.size w w' := by
  obtain ⟨x0, x1, x2, x3⟩ := a
  obtain ⟨y0, y1, y2, y3⟩ := b
  simp only [bef]
  by_cases h2 : x0 = y0
  · have e2 : (x0 != y0) = false := by simp [h2]
    have H2 := Lib.hid h2
    clear h2
    go_enter Try.func69, Try.ntmps69
    go_wp2_with fail
    go_ret
    exact ⟨ret_bool (by have := H2.out; apply decide_eq_decide.2; omega), below_al (below_al (Below.refl _ _) _) _⟩
  · have e2 : (x0 != y0) = true := by simp [h2]
    have H2 := Lib.hid h2
    clear h2
    go_enter Try.func69, Try.ntmps69
    go_wp2_with fail
    go_ret
    exact ⟨ret_bool (by have := H2.out; apply decide_eq_decide.2; omega), below_al (below_al (Below.refl _ _) _) _⟩

theorem implIsAct_any (n : Int) (w : World) : Calls Try.prog 89 #[.int .i64 n] w fun e w' => e = .returned (.bool (decide (1 ≤ n ∧ n ≤ 3))) ∧ w' = w := by
  by_cases h1 : 1 ≤ n
  · by_cases h2 : n ≤ 3
    · go_enter Try.func89, Try.ntmps89
      go_wp2
      go_ret
      exact ⟨ret_bool (by simp; omega), rfl⟩
    · go_enter Try.func89, Try.ntmps89
      go_wp2
      go_ret
      exact ⟨ret_bool (by simp; omega), rfl⟩
  · go_enter Try.func89, Try.ntmps89
    go_wp2
    go_ret
    exact ⟨ret_bool (by simp; omega), rfl⟩

set_option maxHeartbeats 2000000 in
theorem implIsRule_any (x : Ru) (w : World) : Calls Try.prog 68 #[.agg #[.int .i64 x.series, .int .i64 x.event, .int .i64 x.days, .int .i64 x.act]] w fun e w' => e = .returned (.bool (isRu x)) ∧ Below w.heap.size w w' := by
  obtain ⟨x0, x1, x2, x3⟩ := x
  simp only
  obtain ⟨b0, h0⟩ : ∃ b, decide (1 ≤ x0 ∧ x0 ≤ 99) = b := ⟨_, rfl⟩
  obtain ⟨b5, h5⟩ : ∃ b, decide (1 ≤ x3 ∧ x3 ≤ 3) = b := ⟨_, rfl⟩
  have hr : isRu ⟨x0, x1, x2, x3⟩ = (b0 && (decide ((0 ≤ x1 ∧ x1 ≤ 9) ∧ (0 ≤ x2 ∧ x2 ≤ 20000)) && b5)) := by simp only [isRu]; rw [h0, h5]; cases b0 <;> cases b5 <;> simp
  rw [hr]
  have H0 := Lib.hid h0
  have H5 := Lib.hid h5
  clear h0 h5 hr
  cases b0
  · go_enter Try.func68, Try.ntmps68
    go_wp2_with (first | (go_at_call 62; refine (implIsSeries_any _ _).mono ?_; rw [H0.out]; rintro e w' ⟨rfl, rfl⟩) | (go_at_call 89; refine (implIsAct_any _ _).mono ?_; rw [H5.out]; rintro e w' ⟨rfl, rfl⟩))
    go_ret
    exact ⟨ret_bool (by first | (simp; done) | (simp; omega) | (rw [Bool.eq_iff_iff]; simp; omega)), below_al (Below.refl _ _) _⟩
  · by_cases h1 : 0 ≤ x1
    · by_cases h2 : x1 ≤ 9
      · by_cases h3 : 0 ≤ x2
        · by_cases h4 : x2 ≤ 20000
          · go_enter Try.func68, Try.ntmps68
            go_wp2_with (first | (go_at_call 62; refine (implIsSeries_any _ _).mono ?_; rw [H0.out]; rintro e w' ⟨rfl, rfl⟩) | (go_at_call 89; refine (implIsAct_any _ _).mono ?_; rw [H5.out]; rintro e w' ⟨rfl, rfl⟩))
            go_ret
            exact ⟨ret_bool (by first | (simp; done) | (simp; omega) | (rw [Bool.eq_iff_iff]; simp; omega)), below_al (Below.refl _ _) _⟩
          · go_enter Try.func68, Try.ntmps68
            go_wp2_with (first | (go_at_call 62; refine (implIsSeries_any _ _).mono ?_; rw [H0.out]; rintro e w' ⟨rfl, rfl⟩) | (go_at_call 89; refine (implIsAct_any _ _).mono ?_; rw [H5.out]; rintro e w' ⟨rfl, rfl⟩))
            go_ret
            exact ⟨ret_bool (by first | (simp; done) | (simp; omega) | (rw [Bool.eq_iff_iff]; simp; omega)), below_al (Below.refl _ _) _⟩
        · go_enter Try.func68, Try.ntmps68
          go_wp2_with (first | (go_at_call 62; refine (implIsSeries_any _ _).mono ?_; rw [H0.out]; rintro e w' ⟨rfl, rfl⟩) | (go_at_call 89; refine (implIsAct_any _ _).mono ?_; rw [H5.out]; rintro e w' ⟨rfl, rfl⟩))
          go_ret
          exact ⟨ret_bool (by first | (simp; done) | (simp; omega) | (rw [Bool.eq_iff_iff]; simp; omega)), below_al (Below.refl _ _) _⟩
      · go_enter Try.func68, Try.ntmps68
        go_wp2_with (first | (go_at_call 62; refine (implIsSeries_any _ _).mono ?_; rw [H0.out]; rintro e w' ⟨rfl, rfl⟩) | (go_at_call 89; refine (implIsAct_any _ _).mono ?_; rw [H5.out]; rintro e w' ⟨rfl, rfl⟩))
        go_ret
        exact ⟨ret_bool (by first | (simp; done) | (simp; omega) | (rw [Bool.eq_iff_iff]; simp; omega)), below_al (Below.refl _ _) _⟩
    · go_enter Try.func68, Try.ntmps68
      go_wp2_with (first | (go_at_call 62; refine (implIsSeries_any _ _).mono ?_; rw [H0.out]; rintro e w' ⟨rfl, rfl⟩) | (go_at_call 89; refine (implIsAct_any _ _).mono ?_; rw [H5.out]; rintro e w' ⟨rfl, rfl⟩))
      go_ret
      exact ⟨ret_bool (by first | (simp; done) | (simp; omega) | (rw [Bool.eq_iff_iff]; simp; omega)), below_al (Below.refl _ _) _⟩

set_option maxRecDepth 20000 in
set_option maxHeartbeats 4000000 in
theorem implIsSchedule_any (v : Value) (t : List Ru) (w : World) (h : RowR 4 rRu w v t) :
    Calls Try.prog 38 #[v] w fun e w' => e = .returned (.bool (isSch t)) ∧ Below w.heap.size w w' := by
  have hcap := h.cap
  obtain ⟨a1, c1, hv, hl1, hm1, r1⟩ := h.rus
  subst hv
  have R1 := Lib.hid r1
  clear h r1
  unfold maxLen at hm1
  by_cases h8 : t.length ≤ 8
  · go_enter Try.func38, Try.ntmps38
    go_wp2_with fail
    go_loopw [12] (fun i wr => ∃ k : Nat, k ≤ t.length ∧ i = .int .i64 k ∧ Hid (upto (ruAtB t) k = true) ∧ wr.cell? ⟨w.heap.size, 0, none⟩ = some (.int .i64 (prevRu t k).series) ∧ wr.cell? ⟨w.heap.size, 1, none⟩ = some (.int .i64 (prevRu t k).event) ∧ wr.frozen? ⟨w.heap.size, 0, none⟩ = false ∧ wr.frozen? ⟨w.heap.size, 1, none⟩ = false ∧ w.heap.size < wr.heap.size ∧ Below w.heap.size w wr) (fun i _ => t.length - (intOf i).toNat)
    case atStart =>
      refine ⟨0, Nat.zero_le _, rfl, Lib.hid (by simp [upto]), ?_, ?_, ?_, ?_, ?_, ?_⟩
      · exact cell_new w _ _ 0 rfl
      · exact cell_new w _ _ 1 rfl
      · simp
      · simp
      · simp
      · exact below_al (Below.refl _ _) _
    case round =>
      obtain ⟨k, hk, rfl, HU, z0, z1, y0, y1, hwl, hb⟩ := hrel
      by_cases hlt : k < t.length
      · obtain ⟨b1, o1, hb1, rfl, e1⟩ := R1.out.resolve_left (fun e => by rw [e] at hlt; simp at hlt)
        obtain ⟨f, hx⟩ : ∃ s, t.getD k ruD = s := ⟨_, rfl⟩
        obtain ⟨q0, q1, q2, q3, hok⟩ := e1 k hlt
        rw [hx] at q0 q1 q2 q3 hok
        obtain ⟨x0, x1, x2, x3⟩ := f
        simp only at q0 q1 q2 q3
        have f0 := cell_kept q0 hb
        have f1 := cell_kept q1 hb
        have f2 := cell_kept q2 hb
        have f3 := cell_kept q3 hb
        have HX := Lib.hid hx
        have g0 : (0 : Int) ≤ (k : Int) := by omega
        have g1 : (k : Int) < (t.length : Int) := by omega
        obtain ⟨⟨p0, p1, p2, p3⟩, hp⟩ : ∃ s, prevRu t k = s := ⟨_, rfl⟩
        rw [hp] at z0 z1
        simp only at z0 z1
        obtain ⟨bF, hbF⟩ : ∃ b, isRu ⟨x0, x1, x2, x3⟩ = b := ⟨_, rfl⟩
        obtain ⟨bB, hbB⟩ : ∃ b, bef ⟨p0, p1, p2, p3⟩ ⟨x0, x1, x2, x3⟩ = b := ⟨_, rfl⟩
        have HF := Lib.hid hbF
        have HBB := Lib.hid hbB
        have HP := Lib.hid hp
        clear q0 q1 q2 q3 hok hx hp e1
        go_wp2_with fail
        generalize hWE : wr.alloc (.cells #[.int .i64 x0, .int .i64 x1, .int .i64 x2, .int .i64 x3] 36 (0, 0)) = wE
        have bE : Below wr.heap.size wr wE := by rw [← hWE]; exact below_al (Below.refl _ _) _
        have u0 : wE.cell? ⟨wr.heap.size, 0, none⟩ = some (.int .i64 x0) := by rw [← hWE]; exact cell_new wr _ _ 0 rfl
        have u1 : wE.cell? ⟨wr.heap.size, 1, none⟩ = some (.int .i64 x1) := by rw [← hWE]; exact cell_new wr _ _ 1 rfl
        have u2 : wE.cell? ⟨wr.heap.size, 2, none⟩ = some (.int .i64 x2) := by rw [← hWE]; exact cell_new wr _ _ 2 rfl
        have u3 : wE.cell? ⟨wr.heap.size, 3, none⟩ = some (.int .i64 x3) := by rw [← hWE]; exact cell_new wr _ _ 3 rfl
        have s0 : wE.cell? ⟨w.heap.size, 0, none⟩ = some (.int .i64 p0) := by rw [← hWE]; exact below_al_cell z0 _
        have s1 : wE.cell? ⟨w.heap.size, 1, none⟩ = some (.int .i64 p1) := by rw [← hWE]; exact below_al_cell z1 _
        have m0 := cell_regrown u0
        have m1 := cell_regrown u1
        have m2 := cell_regrown u2
        have m3 := cell_regrown u3
        have n0 := cell_regrown s0
        have n1 := cell_regrown s1
        have t0 : wE.frozen? ⟨w.heap.size, 0, none⟩ = false := by rw [← hWE]; exact frozen_kept y0 hwl (below_al (Below.refl _ _) _)
        have t1 : wE.frozen? ⟨w.heap.size, 1, none⟩ = false := by rw [← hWE]; exact frozen_kept y1 hwl (below_al (Below.refl _ _) _)
        have bwE : Below w.heap.size w wE := hb.trans (bE.mono hb.size)
        have hlE : wr.heap.size < wE.heap.size := by rw [← hWE]; simp
        have hc : ∀ d os, Calls Try.prog 68 #[.agg #[.int .i64 x0, .int .i64 x1, .int .i64 x2, .int .i64 x3]] (grow (redrawn wE d) os) fun e w'' => e = .returned (.bool bF) ∧ ∃ p : Regrown, w'' = grow (redrawn wE p.d) p.os := fun d os => Calls.regrown_of (by have := implIsRule_any ⟨x0, x1, x2, x3⟩ (grow (redrawn wE d) os); rwa [HF.out] at this)
        have hd : ∀ d os, Calls Try.prog 70 #[.agg #[.int .i64 x0, .int .i64 x1, .int .i64 x2, .int .i64 x3]] (grow (redrawn wE d) os) fun e w'' => e = .returned (.agg #[.int .i64 x0, .int .i64 x1]) ∧ ∃ p : Regrown, w'' = grow (redrawn wE p.d) p.os := fun d os => Calls.regrown_of (keyOf_any ⟨x0, x1, x2, x3⟩ (grow (redrawn wE d) os))
        have he : ∀ d os, Calls Try.prog 69 #[.agg #[.int .i64 p0, .int .i64 p1], .agg #[.int .i64 x0, .int .i64 x1]] (grow (redrawn wE d) os) fun e w'' => e = .returned (.bool bB) ∧ ∃ p : Regrown, w'' = grow (redrawn wE p.d) p.os := fun d os => Calls.regrown_of (by have := isBefore_any ⟨p0, p1, p2, p3⟩ ⟨x0, x1, x2, x3⟩ (grow (redrawn wE d) os); rwa [HBB.out] at this)
        clear hbF hbB
        cases bF
        · have hnt := notSch hlt (ruAt_no1 HX.out HF.out)
          have HNT := Lib.hid hnt
          clear hnt
          refine wp_region_quiet_below (by kernel_rfl) (by kernel_rfl) ?_
          repeat (go_big_quiet_step (first | exact hc _ _ | exact hd _ _ | exact he _ _))
          refine wpQuiet_nil ?_
          intro _ hw'
          obtain ⟨⟨dq, osq⟩, hw''⟩ := hw'
          subst hw''
          have bq := below_regrown wE dq osq
          generalize grow (redrawn wE dq) osq = w2 at bq ⊢
          go_wp2
          go_ret
          exact ⟨ret_bool HNT.out.symm, bwE.trans (bq.mono bwE.size)⟩
        · cases bB
          · have hnt := notSch hlt (ruAt_no2 HX.out (by rw [HP.out]; exact HBB.out))
            have HNT := Lib.hid hnt
            clear hnt
            refine wp_region_quiet_below (by kernel_rfl) (by kernel_rfl) ?_
            repeat (go_big_quiet_step (first | exact hc _ _ | exact hd _ _ | exact he _ _))
            refine wpQuiet_nil ?_
            intro _ hw'
            obtain ⟨⟨dq, osq⟩, hw''⟩ := hw'
            subst hw''
            have bq := below_regrown wE dq osq
            generalize grow (redrawn wE dq) osq = w2 at bq ⊢
            go_wp2
            go_ret
            exact ⟨ret_bool HNT.out.symm, bwE.trans (bq.mono bwE.size)⟩
          · have HU2 := Lib.hid (upto_succ HU.out (ruAt_yes HX.out HF.out (by rw [HP.out]; exact HBB.out)))
            refine wp_region_quiet_below (by kernel_rfl) (by kernel_rfl) ?_
            repeat (go_big_quiet_step (first | exact hc _ _ | exact hd _ _ | exact he _ _))
            refine wpQuiet_nil ?_
            intro _ hw'
            obtain ⟨⟨dq, osq⟩, hw''⟩ := hw'
            subst hw''
            have bq := below_regrown wE dq osq
            have b2 := bwE.trans (bq.mono bwE.size)
            have l2 : w.heap.size < (grow (redrawn wE dq) osq).heap.size := Nat.lt_of_lt_of_le (Nat.lt_of_le_of_lt hb.size hlE) bq.size
            have i0 := cell_kept u0 bq
            have i1 := cell_kept u1 bq
            have i2 := cell_kept u2 bq
            have i3 := cell_kept u3 bq
            have j0 := cell_kept s0 bq
            have j1 := cell_kept s1 bq
            have k0 := frozen_kept t0 (Nat.lt_of_le_of_lt hb.size hlE) bq
            have k1 := frozen_kept t1 (Nat.lt_of_le_of_lt hb.size hlE) bq
            generalize grow (redrawn wE dq) osq = w2 at *
            clear m0 m1 m2 m3 n0 n1 hc hd he u0 u1 u2 u3 s0 s1 t0 t1 bq bE bwE f0 f1 f2 f3 z0 z1 y0 y1 hWE
            go_wp2_with (first | (go_at_call 70; refine (keyOf_any ⟨x0, x1, x2, x3⟩ _).mono ?_; rintro e w3 ⟨rfl, b3⟩; have r0 := cell_kept j0 b3; have r1 := cell_kept j1 b3; have t0 := frozen_kept k0 l2 b3; have t1 := frozen_kept k1 l2 b3; have b23 := below_chain b2 b3; have l3 := Nat.lt_of_lt_of_le l2 b3.size))
            go_roundw
            case rel =>
              have e0 : prevRu t (k + 1) = ⟨x0, x1, x2, x3⟩ := HX.out
              refine ⟨k + 1, by omega, by go_num, HU2, ?_, ?_, ?_, ?_, ?_, ?_⟩
              · rw [e0, cellset_other _ (by simp), cellset_same _ r0]
              · rw [e0, cellset_same (u := .int .i64 p1) _ (by rw [cellset_other _ (by simp)]; exact r1)]
              · rw [World.frozen?_setCell, World.frozen?_setCell]; exact t0
              · rw [World.frozen?_setCell, World.frozen?_setCell]; exact t1
              · simpa [World.setCell] using l3
              · exact (b23.setCell (Nat.le_refl _) _).setCell (Nat.le_refl _) _
            case measure => simp [intOf]; omega
      · obtain rfl : k = t.length := by omega
        have HS := Lib.hid (sch_all h8 HU.out)
        go_wp2
        go_ret
        exact ⟨ret_bool HS.out.symm, hb⟩
  · have HN := Lib.hid (sch_long h8)
    go_enter Try.func38, Try.ntmps38
    go_wp2
    go_ret
    exact ⟨ret_bool HN.out.symm, Below.refl _ _⟩
end Go.Proofs.Ytdbomnhakikmfaa

namespace Go.Proofs.Ytdbomnhakikmfaa
set_option linter.unusedVariables false
open Go.RowKit Go.Shelf Go.Sort

attribute [local go_sem] Oper.semAt_some

abbrev Vc := Int × (Option Addr × Nat × Nat)
def vD : Vc := (0, (none, 0, 0))
def vS (x : Option Addr × Nat × Nat) : Value := .slice x.1 x.2.1 x.2.2
def slc : Option Value → Option Addr × Nat × Nat
  | some (.slice a n c) => (a, n, c)
  | _ => (none, 0, 0)
def VC (w : World) (v : Value) (es : List Vc) : Prop := ∃ a cap, v = .slice a es.length cap ∧ es.length ≤ cap ∧ cap ≤ maxLen ∧
    (es = [] ∨ ∃ b off, b < w.heap.size ∧ a = some ⟨b, off, none⟩ ∧ ∀ i, i < es.length → w.cell? ⟨b, off + i * 2, none⟩ = some (.int .i64 (es.getD i vD).1) ∧ w.cell? ⟨b, off + i * 2 + 1, none⟩ = some (vS (es.getD i vD).2))
theorem RowR.vcells {w : World} {v : Value} {t : List Ve} (h : RowR 2 rVe w v t) : ∃ es, es.length = t.length ∧ (∀ i, i < t.length → (es.getD i vD).1 = (t.getD i veD).frm) ∧ VC w v es := by
  obtain ⟨a, c, rfl, h1, h2, h3⟩ := h.ves
  rcases h3 with rfl | ⟨b, off, hb, rfl, hc⟩
  · exact ⟨[], rfl, fun i hi => absurd hi (Nat.not_lt_zero _), a, c, rfl, h1, h2, .inl rfl⟩
  · have key : ∀ i, i < t.length → (((List.range t.length).map (fun i => ((t.getD i veD).frm, slc (w.cell? ⟨b, off + i * 2 + 1, none⟩)))).getD i vD) = ((t.getD i veD).frm, slc (w.cell? ⟨b, off + i * 2 + 1, none⟩)) := fun i hi => by
      rw [List.getD_eq_getElem?_getD, List.getElem?_map, List.getElem?_range hi]; rfl
    refine ⟨(List.range t.length).map (fun i => ((t.getD i veD).frm, slc (w.cell? ⟨b, off + i * 2 + 1, none⟩))), by simp, fun i hi => by rw [key i hi], ?_⟩
    refine ⟨_, c, by simp, by simpa using h1, h2, .inr ⟨b, off, hb, rfl, fun i hi => ?_⟩⟩
    have hi2 : i < t.length := by simpa using hi
    obtain ⟨s, e0, e1, hr, _⟩ := hc i hi2
    obtain ⟨sa, sc, rfl, _⟩ := hr
    rw [key i hi2]
    exact ⟨e0, by rw [e1]; rfl⟩

def bwdV (t : List Vc) (k : Nat) : List (Int × Vc) := (List.range k).map (fun (j : Nat) => ((t.length : Int) - 1 - (j : Int), t.getD (t.length - 1 - j) vD))
theorem bwdV_succ (t : List Vc) (k : Nat) : bwdV t (k + 1) = bwdV t k ++ [((t.length : Int) - 1 - (k : Int), t.getD (t.length - 1 - k) vD)] := by simp [bwdV, List.range_succ]
theorem bwdV_len (t : List Vc) (k : Nat) : (bwdV t k).length = k := by simp [bwdV]
def encBV (x : Int × Vc) : Array Value := #[.int .i64 x.1, .agg #[.int .i64 x.2.1, vS x.2.2]]

def KpBV (n₀ Bs : Nat) (W W' : World) : Prop := Below n₀ W W' ∧ (Bs < W.heap.size → W'.heap[Bs]? = W.heap[Bs]?)
theorem kpBV_refl (n₀ Bs : Nat) (W : World) : KpBV n₀ Bs W W := ⟨Below.refl _ _, fun _ => rfl⟩
theorem kpBV_t {n₀ Bs : Nat} {A B C : World} (h : KpBV n₀ Bs A B) (k : KpBV n₀ Bs B C) : KpBV n₀ Bs A C := ⟨h.1.trans k.1, fun hb => (k.2 (Nat.lt_of_lt_of_le hb h.1.size)).trans (h.2 hb)⟩
theorem kpBV_b {n₀ Bs : Nat} {w : World} (hn : n₀ ≤ w.heap.size) (hBs : Bs < w.heap.size) (W : World) (l : Nat) (o o' : Obj) (hl : w.heap.size ≤ l) (h : W.heap[l]? = some o) (h1 : o.isCells = false) (h2 : o.isWalk = false) : KpBV n₀ Bs W (W.putObj l o') :=
  ⟨belowK_b hn W l o o' hl h h1 h2, fun _ => World.putObj_heap_other (by omega)⟩

set_option maxRecDepth 100000 in
set_option maxHeartbeats 2000000 in
theorem back1V_in (n : Nat) (hn : 1 ≤ n) (l Bs n₀ : Nat) (v : Value) (t : List Vc) (J Jx : List (Int × Vc) → World → Prop) (w W : World) (hr : VC w v t) (hwW : Below w.heap.size w W) (hn₀ : n₀ = w.heap.size)
    (hJ : AbidesFrom W.heap.size J)
    (hY : ∀ pre x W, J pre W → pre.length < t.length → YieldAt Fence.wide (n - 1) Try.prog l (encBV x) W fun e W' =>
      (e = .returned (.bool true) ∧ J (pre ++ [x]) W' ∧ KpBV n₀ Bs W W') ∨ (e = .returned (.bool false) ∧ Jx (pre ++ [x]) W'))
    (hcs : Boxed W Bs 24 v) (h0 : J [] W) :
    CallsIn Fence.wide n Try.prog 86 #[.func (.yield l) #[] #[], .pointer (some ⟨Bs, 0, none⟩)] W fun e W' => (∃ v, e = .returned v) ∧
      ((∃ ys, ys = bwdV t t.length ∧ J ys W') ∨ (∃ pre k, (k < t.length ∧ pre = bwdV t (k + 1)) ∧ Jx pre W')) := by
  refine callsIn_of_wp Try.func86 rfl trivial ?_ rfl
  simp only [Try.ntmps86, List.size_toArray, List.length_cons, List.length_nil, Nat.reduceAdd, Nat.reduceSub, Array.replicate_succ, Array.replicate_zero, List.push_toArray, List.append_toArray, List.nil_append, List.cons_append]
  obtain ⟨a1, c1, hv, hl1, hm1, r1⟩ := hr
  have hcap : t.length ≤ maxLen := Nat.le_trans hl1 hm1
  subst hv
  have R1 := Lib.hid r1
  have HY := Lib.hid hY
  have HJA := Lib.hid hJ
  clear hY hJ r1
  unfold maxLen at hm1 hcap
  have hcs0 := hcs.cell
  gi_wp2
  gi_loopw [3] (fun i wr => ∃ k : Nat, k ≤ t.length ∧ i = .int .i64 ((t.length : Int) - 1 - k) ∧ J (bwdV t k) wr ∧ KpBV n₀ Bs W wr)
    (fun i _ => (intOf i + 1).toNat)
  case atStart => exact ⟨0, Nat.zero_le _, by simp, h0, kpBV_refl _ _ _⟩
  case round =>
    obtain ⟨k, hk, rfl, hJs, hnx⟩ := hrel
    have hc1 := Boxed.cell (show Boxed wr Bs 24 _ from (hnx.2 hcs.lt).trans hcs)
    have HJS := Lib.hid hJs
    clear hJs
    by_cases hlt : k < t.length
    · obtain ⟨b1, o1, hb1, rfl, e1⟩ := R1.out.resolve_left (fun e => by rw [e] at hlt; simp at hlt)
      obtain ⟨j, hj⟩ : ∃ j, j = t.length - 1 - k := ⟨_, rfl⟩
      have hjl : j < t.length := by omega
      have hjz : (t.length : Int) - 1 - k = (j : Int) := by omega
      have hsucc := bwdV_succ t k
      rw [← hj, hjz] at hsucc
      obtain ⟨⟨fi, fa, fn, fc⟩, hx⟩ : ∃ s, t.getD j vD = s := ⟨_, rfl⟩
      obtain ⟨q0, q1⟩ := e1 j hjl
      rw [hx] at q0 q1 hsucc
      simp only [vS] at q0 q1
      have hWr : Below w.heap.size w wr := hwW.trans (by rw [← hn₀]; exact hnx.1)
      have f0 := cell_kept q0 hWr
      have f1 := cell_kept q1 hWr
      have HSU := Lib.hid hsucc
      have g0 : (0 : Int) ≤ (j : Int) := by omega
      have g1 : (j : Int) < (t.length : Int) := by omega
      have HJJ := Lib.hid hj
      clear q0 q1 e1 hx hsucc hj hlt
      obtain ⟨fnn, tmps, assign, body, hy, hR⟩ := HY.out (bwdV t k) ((j : Int), (fi, fa, fn, fc)) wr HJS.out (by rw [bwdV_len]; have := HJJ.out; omega)
      simp only [encBV, vS] at hy
      gi_wp2
      refine hR.mono ?_
      rintro e W3 (⟨rfl, hJ3, hk3⟩ | ⟨rfl, hJx3⟩)
      · have HJ3 := Lib.hid hJ3
        clear hJ3
        gi_wp2
        go_roundw
        case rel => exact ⟨k + 1, by have := HJJ.out; omega, congrArg _ (by have := HJJ.out; omega), by rw [HSU.out]; exact HJ3.out, kpBV_t hnx hk3⟩
        case measure => have := HJJ.out; simp [intOf]; omega
      · gi_wp2
        refine bodyPost_ret (results_none rfl _ _ _) rfl ?_
        exact ⟨⟨_, rfl⟩, .inr ⟨_, k, ⟨by have := HJJ.out; omega, HSU.out.symm⟩, hJx3⟩⟩
    · have hkt : k = t.length := by omega
      have HK := Lib.hid hkt
      have hneg : (t.length : Int) - 1 - k = -1 := by omega
      clear hkt
      gi_wp2
      go_end0
      exact ⟨⟨_, rfl⟩, .inl ⟨_, rfl, by have := HJS.out; rw [HK.out] at this; exact this⟩⟩

theorem backV_stops (n : Nat) (hn : 1 ≤ n) (Bs : Nat) (v : Value) (t : List Vc) (w w0 : World) (hr : VC w0 v t) (hw0w : Below w0.heap.size w0 w) (hBs0 : w0.heap.size ≤ Bs)
    (hcs : Boxed w Bs 24 v) :
    SeqStopsK Fence.wide n Try.prog 86 #[.pointer (some ⟨Bs, 0, none⟩)] encBV (KpBV w0.heap.size Bs) (fun ys => ys = bwdV t t.length) (fun pre => ∃ k, k < t.length ∧ pre = bwdV t (k + 1)) t.length w := fun l J Jx W hW hJ _ hY h0 =>
  (back1V_in n hn l Bs w0.heap.size v t J Jx w0 W hr (hw0w.trans (hW.mono hw0w.size)) rfl hJ hY ((hW.block Bs hcs.lt).trans hcs) h0).mono (fun e W' h => ⟨h.1, h.2.imp id (fun ⟨pre, k, h1, h2⟩ => ⟨pre, ⟨k, h1⟩, h2⟩)⟩)
end Go.Proofs.Ytdbomnhakikmfaa

namespace Go.Proofs.Ytdbomnhakikmfaa
set_option linter.unusedVariables false
open Go.RowKit Go.Shelf Go.Sort

attribute [local go_sem] Oper.semAt_some

set_option maxRecDepth 20000 in
set_option maxHeartbeats 4000000 in
theorem implAreVersions_any (v : Value) (t : List Ve) (w : World) (h : RowR 2 rVe w v t) :
    Calls Try.prog 9 #[v] w fun e w' => e = .returned (.bool (areVe t)) ∧ Below w.heap.size w w' := by
  have hcap := h.cap
  obtain ⟨a1, c1, hv, hl1, hm1, r1⟩ := h.ves
  subst hv
  have R1 := Lib.hid r1
  clear h r1
  unfold maxLen at hm1
  by_cases h5 : t.length ≤ 5
  · have h55 : (t.length : Int) ≤ 5 := by omega
    go_enter Try.func9, Try.ntmps9
    go_wp2_with fail
    go_loopw [3, 11] (fun be i wr => ∃ k : Nat, k ≤ t.length ∧ i = .int .i64 k ∧ be = .int .i64 (prevV t k) ∧ Hid (upto (veAtB t) k = true) ∧ Below w.heap.size w wr) (fun _ i _ => t.length - (intOf i).toNat)
    case atStart => exact ⟨0, Nat.zero_le _, rfl, rfl, Lib.hid (by simp [upto]), Below.refl _ _⟩
    case round =>
      obtain ⟨k, hk, rfl, rfl, HU, hb⟩ := hrel
      by_cases hlt : k < t.length
      · obtain ⟨b1, o1, hb1, rfl, e1⟩ := R1.out.resolve_left (fun e => by rw [e] at hlt; simp at hlt)
        obtain ⟨⟨x0, x1⟩, hx⟩ : ∃ s, t.getD k veD = s := ⟨_, rfl⟩
        obtain ⟨s, q0, q1, hr, hok⟩ := e1 k hlt
        rw [hx] at q0 hr hok
        simp only at q0 hr
        have hr0 := hr
        obtain ⟨sa, sc, hs, hsl, hsm, _⟩ := hr0
        subst hs
        unfold maxLen at hsm
        have f0 := cell_kept q0 hb
        have f1 := cell_kept q1 hb
        have HX := Lib.hid hx
        have HR := Lib.hid (show ∀ W, Below w.heap.size w W → RowR 4 rRu W (.slice sa x1.length sc) x1 from fun W hW => hr.below rRu_stable hW)
        have g0 : (0 : Int) ≤ (k : Int) := by omega
        have g1 : (k : Int) < (t.length : Int) := by omega
        have hw := hb.size
        obtain ⟨y, hy⟩ : ∃ s, prevV t k = s := ⟨_, rfl⟩
        have HY := Lib.hid hy
        rw [hy]
        obtain ⟨bD, hbD⟩ : ∃ b, decide ((0 : Int) ≤ x0 ∧ x0 ≤ 20000) = b := ⟨_, rfl⟩
        obtain ⟨bS, hbS⟩ : ∃ b, isSch x1 = b := ⟨_, rfl⟩
        have HDD := Lib.hid hbD
        have HSS := Lib.hid hbS
        have z0 : (wr.alloc (.cells #[.int .i64 x0, .slice sa x1.length sc] 49 (0, 0))).cell? ⟨wr.heap.size, 0, none⟩ = some (.int .i64 x0) := cell_new wr _ _ 0 rfl
        have z1 : (wr.alloc (.cells #[.int .i64 x0, .slice sa x1.length sc] 49 (0, 0))).cell? ⟨wr.heap.size, 1, none⟩ = some (.slice sa x1.length sc) := cell_new wr _ _ 1 rfl
        have bE := below_al hb (.cells #[.int .i64 x0, .slice sa x1.length sc] 49 (0, 0))
        clear q0 q1 hok hx e1 hbD hbS hr hy
        by_cases hyx : x0 ≤ y
        · have HNT := Lib.hid (notVe hlt (veAt_no HX.out (.inr (.inr (by rw [HY.out]; simp only; omega)))))
          go_wp2_with fail
          go_ret
          exact ⟨ret_bool HNT.out.symm, bE⟩
        · cases bD
          · have HNT := Lib.hid (notVe hlt (veAt_no HX.out (.inl (of_decide_eq_false HDD.out))))
            go_wp2_with (first | (go_at_call 37; refine (isDay_any _ _).mono ?_; rw [HDD.out]; rintro e w3 ⟨rfl, h3⟩; subst w3))
            go_ret
            exact ⟨ret_bool HNT.out.symm, bE⟩
          · cases bS
            · have HNT := Lib.hid (notVe hlt (veAt_no HX.out (.inr (.inl HSS.out))))
              go_wp2_with (first | (go_at_call 37; refine (isDay_any _ _).mono ?_; rw [HDD.out]; rintro e w3 ⟨rfl, h3⟩; subst w3) | (go_at_call 38; refine (implIsSchedule_any _ x1 _ (HR.out _ bE)).mono ?_; rw [HSS.out]; rintro e w4 ⟨rfl, b4⟩; replace b4 := below_chain bE b4))
              go_ret
              exact ⟨ret_bool HNT.out.symm, b4⟩
            · have HU2 := Lib.hid (upto_succ HU.out ((veAt_iff HX.out).2 ⟨of_decide_eq_true HDD.out, HSS.out, by rw [HY.out]; simp only; omega⟩))
              have HPN : Hid (prevV t (k + 1) = x0) := Lib.hid (by show (t.getD k veD).frm = x0; rw [HX.out])
              go_wp2_with (first | (go_at_call 37; refine (isDay_any _ _).mono ?_; rw [HDD.out]; rintro e w3 ⟨rfl, h3⟩; subst w3) | (go_at_call 38; refine (implIsSchedule_any _ x1 _ (HR.out _ bE)).mono ?_; rw [HSS.out]; rintro e w4 ⟨rfl, b4⟩; replace z0 := cell_kept z0 b4; replace b4 := below_chain bE b4))
              go_roundw
              case rel => exact ⟨k + 1, by omega, by first | rfl | go_num, by rw [HPN.out], HU2, b4⟩
              case measure => simp [intOf]; omega
      · obtain rfl : k = t.length := by omega
        have HS := Lib.hid (ve_all h5 HU.out)
        go_wp2
        go_ret
        exact ⟨ret_bool HS.out.symm, hb⟩
  · have HN := Lib.hid (ve_long h5)
    have h55 : (5 : Int) < (t.length : Int) := by omega
    go_enter Try.func9, Try.ntmps9
    go_wp2
    go_ret
    exact ⟨ret_bool HN.out.symm, Below.refl _ _⟩

theorem backwardVe_in (n : Nat) (a : Option Addr) (m c : Nat) (w : World) :
    CallsIn Fence.wide n Try.prog 60 #[.slice a m c] w fun e w' => e = .returned (.func (.func 86) #[] #[.pointer (some ⟨w.heap.size, 0, none⟩)]) ∧
      w' = w.alloc (.cells #[.slice a m c] 24) := by
  refine callsIn_of_wp Try.func60 rfl trivial ?_ rfl
  simp only [Try.ntmps60, List.size_toArray, List.length_cons, List.length_nil, Nat.reduceAdd, Nat.reduceSub, Array.replicate_succ, Array.replicate_zero, List.push_toArray, List.append_toArray, List.nil_append, List.cons_append]
  gi_wp2
  go_ret
  exact ⟨rfl, rfl⟩
def Box2 (W : World) (B : Nat) (x : Vc) : Prop := W.heap[B]? = some (.cells #[.int .i64 x.1, vS x.2] 49 (0, 0))
def LastV (d : Int) (pre : List (Int × Vc)) : Prop := ∃ pre2 y, pre = pre2 ++ [y] ∧ (∀ z ∈ pre2, ¬ z.2.1 ≤ d) ∧ y.2.1 ≤ d
def lastV1 (pre : List (Int × Vc)) : Int := (pre.getLast?.map (·.1)).getD 0
theorem Box2.lt {W : World} {B : Nat} {f : Vc} (h : Box2 W B f) : B < W.heap.size := (Array.getElem?_eq_some_iff.1 h).1
theorem Box2.kept {W W' : World} {row : Option Nat} {B : Nat} {f : Vc} (h : Box2 W B f) (hg : W.grownBy W' row) (hne : some B ≠ row) : Box2 W' B f := (hg.block B h.lt hne).trans h
theorem Box2.c0 {W : World} {B : Nat} {f : Vc} (h : Box2 W B f) : W.cell? ⟨B, 0, none⟩ = some (.int .i64 f.1) := blk_cell h 0

set_option maxRecDepth 100000 in
set_option maxHeartbeats 4000000 in
theorem versionOn_yes (n : Nat) (hn : 3 ≤ n) (a1 : Option Addr) (c1 : Nat) (t : List Ve) (d : Int) (w : World) (h : RowR 2 rVe w (.slice a1 t.length c1) t) (ht : areVe t = true) (hd : decide ((0 : Int) ≤ d ∧ d ≤ 20000) = true) (N : Int) (b : Bool) (hres : onRes t d = (N, b)) :
    CallsIn Fence.wide n Try.prog 26 #[.slice a1 t.length c1, .int .i64 d] w fun e w' => e = .returned (.tuple #[.int .i64 N, .bool b]) ∧ Below w.heap.size w w' := by
  have h1 : 1 ≤ n := by omega
  have h5 := ve_len ht
  obtain ⟨es, hel, hef, hvc⟩ := h.vcells
  have H := Lib.hid (show ∀ W, Below w.heap.size w W → RowR 2 rVe W (.slice a1 t.length c1) t from fun W hW => h.below rVe_stable hW)
  have HT := Lib.hid ht
  have HD := Lib.hid hd
  have HEF := Lib.hid hef
  have HEL := Lib.hid hel
  have HVC := Lib.hid hvc
  have HRES := Lib.hid hres
  have hfA : Fence.wide.fn 9 := trivial
  have hfD : Fence.wide.fn 37 := trivial
  have hfB : Fence.wide.fn 60 := trivial
  clear h ht hd hef hel hvc hres
  refine callsIn_of_wp_marks Try.func26 rfl trivial ?_ rfl
  simp only [Try.ntmps26, List.size_toArray, List.length_cons, List.length_nil, Nat.reduceAdd, Nat.reduceSub, Array.replicate_succ, Array.replicate_zero, List.push_toArray, List.append_toArray, List.nil_append, List.cons_append]
  have b0 := below_al (below_al (below_al (Below.refl w.heap.size w) (.cells #[.int .i64 d] 3 (0, 0))) (.cells #[.int .i64 0] 3 (0, 0))) (.cells #[.bool false] 4 (0, 0))
  have BB0 := Lib.hid b0
  have xI : Boxed (((w.alloc (.cells #[.int .i64 d] 3 (0, 0))).alloc (.cells #[.int .i64 0] 3 (0, 0))).alloc (.cells #[.bool false] 4 (0, 0))) w.heap.size 3 (.int .i64 d) := ((Boxed.new w 3 _).alloc _).alloc _
  have xR : Boxed (((w.alloc (.cells #[.int .i64 d] 3 (0, 0))).alloc (.cells #[.int .i64 0] 3 (0, 0))).alloc (.cells #[.bool false] 4 (0, 0))) (w.heap.size + 1) 3 (.int .i64 0) := by
    have := (Boxed.new (w.alloc (.cells #[.int .i64 d] 3 (0, 0))) 3 (.int .i64 0)).alloc (.cells #[.bool false] 4 (0, 0))
    simpa using this
  have xB : Boxed (((w.alloc (.cells #[.int .i64 d] 3 (0, 0))).alloc (.cells #[.int .i64 0] 3 (0, 0))).alloc (.cells #[.bool false] 4 (0, 0))) (w.heap.size + 1 + 1) 4 (.bool false) := by
    have := Boxed.new ((w.alloc (.cells #[.int .i64 d] 3 (0, 0))).alloc (.cells #[.int .i64 0] 3 (0, 0))) 4 (.bool false)
    simpa using this
  have XI := Lib.hid xI
  have XR := Lib.hid xR
  have XB := Lib.hid xB
  clear xI xR xB b0
  gi_wp2_with (first | (gi_at_call 9; refine (callsIn_wide.2 (implAreVersions_any _ t _ (H.out _ BB0.out))).mono ?_; rw [HT.out]; rintro e w1 ⟨rfl, b1⟩; have cI := Boxed.cell (show Boxed w1 w.heap.size 3 (.int .i64 d) from (b1.block w.heap.size XI.out.lt).trans XI.out)) | (gi_at_call 37; refine (callsIn_wide.2 (isDay_any _ _)).mono ?_; rw [HD.out]; rintro e w2 ⟨rfl, h2⟩; subst w2) | (gi_at_call 60; refine (backwardVe_in (n - 1) _ _ _ _).mono ?_; rintro e w3 ⟨rfl, h3⟩; subst w3))
  have hs1 := b1.size
  simp only [World.size_alloc] at hs1
  have yI : Boxed w1 w.heap.size 3 (.int .i64 d) := (b1.block w.heap.size XI.out.lt).trans XI.out
  have yR : Boxed w1 (w.heap.size + 1) 3 (.int .i64 0) := (b1.block (w.heap.size + 1) XR.out.lt).trans XR.out
  have yB : Boxed w1 (w.heap.size + 1 + 1) 4 (.bool false) := (b1.block (w.heap.size + 1 + 1) XB.out.lt).trans XB.out
  have hB1 : Below w.heap.size w w1 := below_chain BB0.out b1
  obtain ⟨W0, hW0⟩ : ∃ W0, w1.alloc (.cells #[.slice a1 t.length c1] 24 (0, 0)) = W0 := ⟨_, rfl⟩
  have bI : Boxed W0 w.heap.size 3 (.int .i64 d) := by rw [← hW0]; exact yI.alloc _
  have bR : Boxed W0 (w.heap.size + 1) 3 (.int .i64 0) := by rw [← hW0]; exact yR.alloc _
  have bB : Boxed W0 (w.heap.size + 1 + 1) 4 (.bool false) := by rw [← hW0]; exact yB.alloc _
  have bS : Boxed W0 w1.heap.size 24 (.slice a1 t.length c1) := by rw [← hW0]; exact Boxed.new w1 24 _
  have hB0 : Below w.heap.size w W0 := by rw [← hW0]; exact below_al hB1 _
  have hsz : W0.heap.size = w1.heap.size + 1 := by rw [← hW0]; simp
  rw [hW0]
  clear hW0 b1 yI yR yB hB1 cI
  refine wpIn_rangeFunc_ownH rfl h1 (gf := 86) (lb := #[.pointer (some ⟨w1.heap.size, 0, none⟩)]) rfl trivial (enters_of Try.func86 (by kernel_rfl) rfl)
    (backV_stops (n - 1) (by omega) w1.heap.size _ es W0 w HVC.out hB0 (by omega) bS) kpBV_t (kpBV_b (by omega) (by omega)) (Below.refl _ _) (fun _ => rfl)
    (fun pre W => (((((∀ y ∈ pre, ¬ y.2.1 ≤ d) ∧ Boxed W w.heap.size 3 (.int .i64 d)) ∧ Boxed W (w.heap.size + 1) 3 (.int .i64 0)) ∧ Boxed W (w.heap.size + 1 + 1) 4 (.bool false)) ∧ Boxed W w1.heap.size 24 (.slice a1 t.length c1)) ∧ Below w.heap.size w W)
    (fun c pre W => (((c = .ret ∧ LastV d pre) ∧ Boxed W (w.heap.size + 1) 3 (.int .i64 (lastV1 pre))) ∧ Boxed W (w.heap.size + 1 + 1) 4 (.bool true)) ∧ Below w.heap.size w W)
    (OwnFrom.and (OwnFrom.and (OwnFrom.and (OwnFrom.and (OwnFrom.and (ownFrom_pure _ (fun pre : List (Int × Vc) => ∀ y ∈ pre, ¬ y.2.1 ≤ d)) (Own.from (boxed_own w.heap.size 3 (fun _ : List (Int × Vc) => Value.int .i64 d)) _)) (Own.from (boxed_own (w.heap.size + 1) 3 (fun _ : List (Int × Vc) => Value.int .i64 0)) _)) (Own.from (boxed_own (w.heap.size + 1 + 1) 4 (fun _ : List (Int × Vc) => Value.bool false)) _)) (Own.from (boxed_own w1.heap.size 24 (fun _ : List (Int × Vc) => Value.slice a1 t.length c1)) _)) (ownFrom_below (Nat.le_refl _) (by omega)))
    (fun c => OwnFrom.and (OwnFrom.and (OwnFrom.and (ownFrom_pure _ (fun pre : List (Int × Vc) => c = .ret ∧ LastV d pre)) (Own.from (boxed_own (w.heap.size + 1) 3 (fun pre : List (Int × Vc) => Value.int .i64 (lastV1 pre))) _)) (Own.from (boxed_own (w.heap.size + 1 + 1) 4 (fun _ : List (Int × Vc) => Value.bool true)) _)) (ownFrom_below (Nat.le_refl _) (by omega)))
    ⟨⟨⟨⟨⟨fun y hy => absurd hy (by simp), bI⟩, bR⟩, bB⟩, bS⟩, hB0⟩
    (fun y a' W => ∃ Bx, w1.heap.size < Bx ∧ Box2 W Bx y.2 ∧ a' = { tmps := #[.slice a1 t.length c1, .int .i64 d, undef, .pointer (some ⟨w.heap.size, 0, none⟩), .pointer (some ⟨w.heap.size + 1, 0, none⟩), .pointer (some ⟨w.heap.size + 1 + 1, 0, none⟩), .int .i64 y.1, .pointer (some ⟨Bx, 0, none⟩), .slice a1 t.length c1, .bool true, .bool false, .bool false, .int .i64 d, .bool true, .bool false, .bool false, .slice a1 t.length c1, .func (.func 86) #[] #[.pointer (some ⟨w1.heap.size, 0, none⟩)], .int .i64 y.1, .agg #[.int .i64 y.2.1, vS y.2.2], undef, undef, undef, undef, undef], defers := [] })
    (fun y a' _ X Y row hs hg hr => by
      obtain ⟨Bx, h1, h4, h5⟩ := hs
      refine ⟨Bx, h1, h4.kept hg (fun e => ?_), h5⟩
      obtain ⟨_, o, ho, hc⟩ := hr Bx e.symm
      rw [show X.heap[Bx]? = _ from h4] at ho
      cases ho
      cases hc)
    ?assign ?body ?done ?stop
  case assign =>
    rintro l pre ⟨yk, ⟨yf, ya, yn, yc⟩⟩ W K ⟨⟨⟨⟨⟨hp, hI⟩, hR⟩, hT⟩, hS⟩, hB⟩ hK
    simp only [encBV, vS] at hK ⊢
    gi_wp2
    exact hK _ _ ((KeepsOthers.alloc _ _).from _) ⟨(Below.refl _ W).alloc hB.size _, fun hlt => Below.heap_alloc _ _ _ hlt⟩ ⟨⟨⟨⟨⟨hp, hI.alloc _⟩, hR.alloc _⟩, hT.alloc _⟩, hS.alloc _⟩, hB.alloc hB.size _⟩ ⟨W.heap.size, hS.lt, heap_alloc_new _ _, rfl⟩
  case body =>
    rintro l pre ⟨yk, ⟨yf, ya, yn, yc⟩⟩ a' W hl hr ⟨⟨⟨⟨⟨hp, hI⟩, hR⟩, hT⟩, hS⟩, hB⟩ ⟨Bx, hBx, b3, rfl⟩ hlt
    have k0 := b3.c0
    have kI := hI.cell
    have kR := hR.cell
    have fR := hR.frozen
    have kT := hT.cell
    have fT := hT.frozen
    have hsW := hB.size
    simp only at k0
    by_cases hle : yf ≤ d
    · have r1 := (hR.set (.int .i64 yk)).other (B' := w.heap.size + 1 + 1) (by omega) (.bool true)
      have t1 := (hT.other (B' := w.heap.size + 1) (by omega) (.int .i64 yk)).set (.bool true)
      have kT2 := (hT.other (B' := w.heap.size + 1) (by omega) (.int .i64 yk)).cell
      have fT2 := (hT.other (B' := w.heap.size + 1) (by omega) (.int .i64 yk)).frozen
      have hbb := (hB.setCell (p := ⟨w.heap.size + 1, 0, none⟩) (show w.heap.size ≤ w.heap.size + 1 by omega) (.int .i64 yk)).setCell (p := ⟨w.heap.size + 1 + 1, 0, none⟩) (show w.heap.size ≤ w.heap.size + 1 + 1 by omega) (.bool true)
      have HL : Hid (LastV d (pre ++ [(yk, (yf, ya, yn, yc))])) := Lib.hid ⟨pre, _, rfl, hp, hle⟩
      have HL1 : Hid (lastV1 (pre ++ [(yk, (yf, ya, yn, yc))]) = yk) := Lib.hid (by simp [lastV1])
      gi_wp2
      exact ⟨((KeepsOthers.setCell _ _ _).trans (KeepsOthers.setCell _ _ _)).from _, ⟨⟨⟨rfl, HL.out⟩, by rw [HL1.out]; exact r1⟩, t1⟩, hbb⟩
    · have hp2 : ∀ y ∈ pre ++ [(yk, (yf, ya, yn, yc))], ¬ y.2.1 ≤ d := fun y hy => by
        rcases List.mem_append.1 hy with h | h
        · exact hp y h
        · rw [List.mem_singleton.1 h]; exact hle
      have HP2 := Lib.hid hp2
      clear hp2
      gi_wp2
      exact ⟨(KeepsOthers.refl W).from _, kpBV_refl _ _ _, ⟨⟨⟨⟨⟨fun q0 q1 q2 q3 q4 hq => HP2.out (q0, q1, q2, q3, q4) hq, hI⟩, hR⟩, hT⟩, hS⟩, hB⟩⟩
  case done =>
    rintro D ys W hD rfl ⟨⟨⟨⟨⟨hp, hI⟩, hR⟩, hT⟩, hS⟩, hB⟩ hK
    have hans := HRES.out
    have hno : onV t d = -1 := onV_no fun j hj => by
      rw [← HEF.out j hj]
      have hj2 : j < es.length := by rw [HEL.out]; exact hj
      have := hp ((es.length : Int) - 1 - ((es.length - 1 - j : Nat) : Int), es.getD j vD) (by
        unfold bwdV
        refine List.mem_map.2 ⟨es.length - 1 - j, List.mem_range.2 (by omega), ?_⟩
        rw [show es.length - 1 - (es.length - 1 - j) = j by omega])
      exact this
    unfold onRes at hans
    rw [hno, if_neg (by simp)] at hans
    cases hans
    have kR := hR.cell
    have fR := hR.frozen
    have kT2 := (hT.other (B' := w.heap.size + 1) (by omega) (.int .i64 0)).cell
    have fT2 := (hT.other (B' := w.heap.size + 1) (by omega) (.int .i64 0)).frozen
    have r1 := (hR.set (.int .i64 0)).other (B' := w.heap.size + 1 + 1) (by omega) (.bool false)
    have t1 := (hT.other (B' := w.heap.size + 1) (by omega) (.int .i64 0)).set (.bool false)
    have hbb := (hB.setCell (p := ⟨w.heap.size + 1, 0, none⟩) (show w.heap.size ≤ w.heap.size + 1 by omega) (.int .i64 0)).setCell (p := ⟨w.heap.size + 1 + 1, 0, none⟩) (show w.heap.size ≤ w.heap.size + 1 + 1 by omega) (.bool false)
    have hK' := ((KeepsOthers.setCell W ⟨w.heap.size + 1, 0, none⟩ (.int .i64 0)).trans (KeepsOthers.setCell _ ⟨w.heap.size + 1 + 1, 0, none⟩ (.bool false))).same D _ hK rfl
    clear hno
    gi_wp2
    refine ⟨by simp, .inl ⟨_, _, rfl, run_takeDeferred hK', ?_⟩⟩
    have hg := grownBy_putObj' ((W.setCell ⟨w.heap.size + 1, 0, none⟩ (.int .i64 0)).setCell ⟨w.heap.size + 1 + 1, 0, none⟩ (.bool false)) D (.deferred none)
    have c0 := (r1.kept hg (fun e => by have : w.heap.size + 1 = D := by simpa using e
                                        omega)).cell
    have c1' := (t1.kept hg (fun e => by have : w.heap.size + 1 + 1 = D := by simpa using e
                                         omega)).cell
    refine ⟨.tuple #[.int .i64 0, .bool false], ?_, rfl, ?_⟩
    · simp [results, Try.results26, go_sem, c0, c1']
    · exact hbb.trans (belowK_b (w := w) (Nat.le_refl _) _ D _ _ (by omega) hK' rfl rfl)
  case stop =>
    rintro D c pre W hD ⟨kk, hkk, hpre⟩ ⟨⟨⟨⟨rfl, hLast⟩, hR⟩, hT⟩, hB⟩ hK
    have hans := HRES.out
    obtain ⟨pre2, y, hpy, hno, hyes⟩ := hLast
    have hjj : es.length - 1 - kk < t.length := by have := HEL.out; omega
    have hyy : pre2 = bwdV es kk ∧ y = ((es.length : Int) - 1 - (kk : Int), es.getD (es.length - 1 - kk) vD) := by
      rw [bwdV_succ] at hpre
      have := hpy.symm.trans hpre
      obtain ⟨e1, e2⟩ := List.append_inj' this (by simp)
      exact ⟨e1, by simpa using e2⟩
    have hl1 : lastV1 pre = ((es.length - 1 - kk : Nat) : Int) := by
      rw [hpy, hyy.2]
      simp [lastV1]
      omega
    have hon : onV t d = ((es.length - 1 - kk : Nat) : Int) := onV_is hjj (by rw [← HEF.out _ hjj]; rw [hyy.2] at hyes; exact hyes) (fun j hj1 hj2 => by
      rw [← HEF.out j hj2]
      have := hno ((es.length : Int) - 1 - ((es.length - 1 - j : Nat) : Int), es.getD j vD) (by
        rw [hyy.1]
        unfold bwdV
        refine List.mem_map.2 ⟨es.length - 1 - j, List.mem_range.2 (by have := HEL.out; omega), ?_⟩
        rw [show es.length - 1 - (es.length - 1 - j) = j by have := HEL.out; omega])
      exact this)
    unfold onRes at hans
    rw [hon, if_pos ⟨⟨HT.out, of_decide_eq_true HD.out⟩, by omega⟩] at hans
    cases hans
    rw [hl1] at hR
    clear hl1 hon hyy
    gi_wp2
    refine ⟨by simp, .inl ⟨_, _, rfl, run_takeDeferred hK, ?_⟩⟩
    have hg := grownBy_putObj' W D (.deferred none)
    have c0 := (hR.kept hg (fun e => by have : w.heap.size + 1 = D := by simpa using e
                                        omega)).cell
    have c1' := (hT.kept hg (fun e => by have : w.heap.size + 1 + 1 = D := by simpa using e
                                         omega)).cell
    refine ⟨.tuple #[.int .i64 ((es.length - 1 - kk : Nat) : Int), .bool true], ?_, rfl, ?_⟩
    · simp [results, Try.results26, go_sem, c0, c1']
    · exact hB.trans (belowK_b (w := w) (Nat.le_refl _) _ D _ _ (by omega) hK rfl rfl)

set_option maxRecDepth 20000 in
theorem implVersionOn_any (v : Value) (t : List Ve) (d : Int) (w : World) (h : RowR 2 rVe w v t) (N : Int) (b : Bool) (hres : onRes t d = (N, b)) :
    Calls Try.prog 26 #[v, .int .i64 d] w fun e w' => e = .returned (.tuple #[.int .i64 N, .bool b]) ∧ Below w.heap.size w w' := by
  have b0 := below_al (below_al (below_al (Below.refl w.heap.size w) (.cells #[.int .i64 d] 3 (0, 0))) (.cells #[.int .i64 0] 3 (0, 0))) (.cells #[.bool false] 4 (0, 0))
  have BB0 := Lib.hid b0
  have xI : Boxed (((w.alloc (.cells #[.int .i64 d] 3 (0, 0))).alloc (.cells #[.int .i64 0] 3 (0, 0))).alloc (.cells #[.bool false] 4 (0, 0))) w.heap.size 3 (.int .i64 d) := ((Boxed.new w 3 _).alloc _).alloc _
  have xR : Boxed (((w.alloc (.cells #[.int .i64 d] 3 (0, 0))).alloc (.cells #[.int .i64 0] 3 (0, 0))).alloc (.cells #[.bool false] 4 (0, 0))) (w.heap.size + 1) 3 (.int .i64 0) := by
    have := (Boxed.new (w.alloc (.cells #[.int .i64 d] 3 (0, 0))) 3 (.int .i64 0)).alloc (.cells #[.bool false] 4 (0, 0))
    simpa using this
  have xB : Boxed (((w.alloc (.cells #[.int .i64 d] 3 (0, 0))).alloc (.cells #[.int .i64 0] 3 (0, 0))).alloc (.cells #[.bool false] 4 (0, 0))) (w.heap.size + 1 + 1) 4 (.bool false) := by
    have := Boxed.new ((w.alloc (.cells #[.int .i64 d] 3 (0, 0))).alloc (.cells #[.int .i64 0] 3 (0, 0))) 4 (.bool false)
    simpa using this
  have XI := Lib.hid xI
  have XR := Lib.hid xR
  have XB := Lib.hid xB
  clear xI xR xB b0
  rcases ht : areVe t with _ | _
  · have H := Lib.hid h
    have HT := Lib.hid ht
    unfold onRes at hres
    rw [ht, if_neg (by simp)] at hres
    cases hres
    clear h ht
    go_enter Try.func26, Try.ntmps26
    go_wp2_with (first | (go_at_call 9; refine (implAreVersions_any _ t _ (H.out.below rVe_stable BB0.out)).mono ?_; rw [HT.out]; rintro e w1 ⟨rfl, b1⟩; have yR := (show Boxed w1 (w.heap.size + 1) 3 (.int .i64 0) from (b1.block (w.heap.size + 1) XR.out.lt).trans XR.out); have yB := (show Boxed w1 (w.heap.size + 1 + 1) 4 (.bool false) from (b1.block (w.heap.size + 1 + 1) XB.out.lt).trans XB.out); have c0 := yR.cell; have f0 := yR.frozen; have c1 := yB.cell; have f1 := yB.frozen; have hb1 := below_chain BB0.out b1))
    have r1 := ((yR.set (.int .i64 0)).other (B' := w.heap.size + 1 + 1) (by omega) (.bool false)).cell
    have t1 := ((yB.other (B' := w.heap.size + 1) (by omega) (.int .i64 0)).set (.bool false)).cell
    refine bodyPost_ret (v := .tuple #[.int .i64 0, .bool false]) (by simp [results, Try.results26, go_sem, r1, t1]) rfl ⟨rfl, ?_⟩
    exact (hb1.setCell (by first | (simp; done) | (simp; omega)) _).setCell (by first | (simp; done) | (simp; omega)) _
  · rcases hd : decide ((0 : Int) ≤ d ∧ d ≤ 20000) with _ | _
    · have H := Lib.hid h
      have HT := Lib.hid ht
      have HD := Lib.hid hd
      unfold onRes at hres
      rw [if_neg (fun e => of_decide_eq_false hd e.1.2)] at hres
      cases hres
      clear h ht hd
      go_enter Try.func26, Try.ntmps26
      go_wp2_with (first | (go_at_call 9; refine (implAreVersions_any _ t _ (H.out.below rVe_stable BB0.out)).mono ?_; rw [HT.out]; rintro e w1 ⟨rfl, b1⟩; have yI := (show Boxed w1 w.heap.size 3 (.int .i64 d) from (b1.block w.heap.size XI.out.lt).trans XI.out); have yR := (show Boxed w1 (w.heap.size + 1) 3 (.int .i64 0) from (b1.block (w.heap.size + 1) XR.out.lt).trans XR.out); have yB := (show Boxed w1 (w.heap.size + 1 + 1) 4 (.bool false) from (b1.block (w.heap.size + 1 + 1) XB.out.lt).trans XB.out); have ci := yI.cell; have c0 := yR.cell; have f0 := yR.frozen; have c1 := yB.cell; have f1 := yB.frozen; have hb1 := below_chain BB0.out b1) | (go_at_call 37; refine (isDay_any _ _).mono ?_; rw [HD.out]; rintro e w3 ⟨rfl, h3⟩; subst w3))
      have r1 := ((yR.set (.int .i64 0)).other (B' := w.heap.size + 1 + 1) (by omega) (.bool false)).cell
      have t1 := ((yB.other (B' := w.heap.size + 1) (by omega) (.int .i64 0)).set (.bool false)).cell
      refine bodyPost_ret (v := .tuple #[.int .i64 0, .bool false]) (by simp [results, Try.results26, go_sem, r1, t1]) rfl ⟨rfl, ?_⟩
      exact (hb1.setCell (by first | (simp; done) | (simp; omega)) _).setCell (by first | (simp; done) | (simp; omega)) _
    · obtain ⟨a1, c1, hv, _⟩ := h.ves
      subst hv
      exact callsIn_wide.1 (versionOn_yes 6 (by omega) a1 c1 t d w h ht hd N b hres)
end Go.Proofs.Ytdbomnhakikmfaa

namespace Go.Proofs.Ytdbomnhakikmfaa
set_option linter.unusedVariables false
open Go.RowKit Go.Sort

set_option maxRecDepth 20000 in
set_option maxHeartbeats 2000000 in
theorem implRulesFor_any (v : Value) (t : List Ru) (x : Int) (w : World) (h : RowR 4 rRu w v t) (hn : t.length ≤ 1048576) (xs : List Ru) (b : Bool) (hres : rufRes t x = (xs, b)) :
    Calls Try.prog 29 #[v, .int .i64 x] w fun e w' => ∃ v', e = .returned (.tuple #[v', .bool b]) ∧ RusO w.heap.size w'.heap.size w' v' xs ∧ Below w.heap.size w w' := by
  obtain ⟨i0, hi, hz0, hz1, hz2⟩ := info_parts Try.info_ru
  have H := Lib.hid h
  have hok := h.rus_ok
  have HOK := Lib.hid hok
  obtain ⟨a1, c1, hv, hl1, hm1, r1⟩ := h.rus
  subst hv
  have R1 := Lib.hid r1
  unfold maxLen at hm1
  obtain ⟨bs, hs⟩ : ∃ b, isSch t = b := ⟨_, rfl⟩
  obtain ⟨bx, hx⟩ : ∃ b, decide (1 ≤ x ∧ x ≤ 99) = b := ⟨_, rfl⟩
  unfold rufRes at hres
  rw [hs, hx] at hres
  have HS := Lib.hid hs
  have HX := Lib.hid hx
  clear h hs hx r1 hok
  cases bs
  · rw [if_neg (by simp)] at hres
    obtain ⟨rfl, rfl⟩ := Prod.mk.inj hres
    clear hres
    go_enter Try.func29, Try.ntmps29
    go_wp2_with (first | (go_at_call 38; refine (implIsSchedule_any _ t _ H.out).mono ?_; rw [HS.out]; rintro e w1 ⟨rfl, b1⟩))
    go_ret2
    exact ⟨_, rfl, RusO.nil _ _ _, b1⟩
  · cases bx
    · rw [if_neg (by simp)] at hres
      obtain ⟨rfl, rfl⟩ := Prod.mk.inj hres
      clear hres
      go_enter Try.func29, Try.ntmps29
      go_wp2_with (first | (go_at_call 38; refine (implIsSchedule_any _ t _ H.out).mono ?_; rw [HS.out]; rintro e w1 ⟨rfl, b1⟩) | (go_at_call 62; refine (implIsSeries_any _ _).mono ?_; rw [HX.out]; rintro e w' ⟨rfl, rfl⟩))
      go_ret2
      exact ⟨_, rfl, RusO.nil _ _ _, b1⟩
    · rw [if_pos (by simp)] at hres
      obtain ⟨rfl, rfl⟩ := Prod.mk.inj hres
      clear hres
      go_enter Try.func29, Try.ntmps29
      go_wp2_with (first | (go_at_call 38; refine (implIsSchedule_any _ t _ H.out).mono ?_; rw [HS.out]; rintro e w1 ⟨rfl, b1⟩) | (go_at_call 62; refine (implIsSeries_any _ _).mono ?_; rw [HX.out]; rintro e w' ⟨rfl, rfl⟩))
      go_loopw [6, 19] (fun o i wr => ∃ k : Nat, k ≤ t.length ∧ i = .int .i64 k ∧ wr.ownsRow w.heap.size 36 4 o (forRu (t.take k) x).length (((forRu (t.take k) x).map ruC).flatten) ∧ Below w.heap.size w wr) (fun _ i _ => t.length - (intOf i).toNat)
      case atStart => exact ⟨0, Nat.zero_le _, rfl, by simpa [forRu] using (RusO.nil w.heap.size w.heap.size _).1.1, b1⟩
      case round =>
        clear b1
        obtain ⟨k, hk, rfl, hO, hb⟩ := hrel
        by_cases hlt : k < t.length
        · obtain ⟨b1, o1, hb1, rfl, e1⟩ := R1.out.resolve_left (fun e => by rw [e] at hlt; simp at hlt)
          obtain ⟨q0, q1, q2, q3, hok⟩ := e1 k hlt
          have hsucc := forRu_succ (s := x) hlt
          obtain ⟨P, hP⟩ : ∃ P, forRu (t.take k) x = P := ⟨_, rfl⟩
          have hPl : P.length ≤ k := by
            rw [← hP]
            have := forRu_len (t.take k) x
            rw [List.length_take] at this
            omega
          rw [hP] at hO hsucc
          obtain ⟨⟨x0, x1, x2, x3⟩, hx⟩ : ∃ s, t.getD k ruD = s := ⟨_, rfl⟩
          rw [hx] at q0 q1 q2 q3 hsucc
          simp only at q0 q1 q2 q3 hsucc
          have f0 := cell_kept q0 hb
          have f1 := cell_kept q1 hb
          have f2 := cell_kept q2 hb
          have f3 := cell_kept q3 hb
          have HSU := Lib.hid hsucc
          have g0 : (0 : Int) ≤ (k : Int) := by omega
          have g1 : (k : Int) < (t.length : Int) := by omega
          have hsz := hb.size
          clear q0 q1 q2 q3 hok e1 hx hsucc hP
          by_cases he : x0 = x
          · have hq : (x0 == x) = true := by simp [he]
            have HSU2 := Lib.hid (HSU.out.trans (if_pos he))
            have hb2 := below_al hb (.cells #[.int .i64 x0, .int .i64 x1, .int .i64 x2, .int .i64 x3] 36 (0, 0))
            have hO2 := hO.alloc (.cells #[.int .i64 x0, .int .i64 x1, .int .i64 x2, .int .i64 x3] 36 (0, 0))
            clear he hO
            go_wp2_with (first | (at_builtin; refine wpList_append_own _ rfl _ _ 47 rfl w.heap.size 36 i0 (.agg #[.int .i64 0, .int .i64 0, .int .i64 0, .int .i64 0]) 4 32 Try.underlying47 hi hz0 hz1 hz2 rfl (by decide) _ _ _ rfl (hO2.alloc _) ⟨wr.heap.size + 1, 0, none⟩ 1 1 [.int .i64 x0, .int .i64 x1, .int .i64 x2, .int .i64 x3] rfl rfl (cells4_new' _ _ _ _ _ _ (by simp)) (by simp [Value.oneCell']) (by unfold maxLen; omega) (by omega) (by simp; omega) ?_; intro v' w4 hown' hgrow _))
            have HOWN := Lib.hid hown'
            have HB := Lib.hid (below_app hb2 (Nat.le_refl _) hO2 hgrow)
            clear hown' hgrow hO2
            go_wp2_with fail
            go_roundw
            case rel => exact ⟨k + 1, by omega, by go_num, (by rw [HSU2.out]; simpa [ruC] using HOWN.out), HB.out⟩
            case measure => simp [intOf]; omega
          · have hq : (x0 == x) = false := by simp [he]
            have HSU2 := Lib.hid (HSU.out.trans (if_neg he))
            have HO := Lib.hid (hO.alloc (.cells #[.int .i64 x0, .int .i64 x1, .int .i64 x2, .int .i64 x3] 36 (0, 0)))
            clear he hO
            go_wp2_with fail
            go_roundw
            case rel => exact ⟨k + 1, by omega, by go_num, (by rw [HSU2.out]; exact HO.out), below_al hb _⟩
            case measure => simp [intOf]; omega
        · obtain rfl : k = t.length := by omega
          rw [List.take_length] at hO
          have HF := Lib.hid (RusO.of_row hO rfl (fun f hf => HOK.out f (forRu_mem hf).1))
          clear hO
          go_wp2_with fail
          go_ret2
          exact ⟨_, rfl, HF.out, hb⟩
end Go.Proofs.Ytdbomnhakikmfaa

namespace Go.Proofs.Ytdbomnhakikmfaa
set_option linter.unusedVariables false
open Go.RowKit Go.Sort Go.Maps

structure LOK (D : DataW Unit) (made : Int) (es : List Ev) : Prop where
  tidy : Tidy D
  has_ : ∀ s : Int, has D (.int .i64 s) = (lookE made es s).isSome
  at_ : ∀ (s d : Int), lookE made es s = some d → D.atKey (.int .i64 s) (.lit (.int .i64 0)) = .lit (.int .i64 d)
theorem LOK.start (made : Int) : LOK (DataW.put (.map []) (.int .i64 0) (.lit (.int .i64 made))) made [] := by
  have hk : WideAt.IsKeyLit (.int .i64 0) := trivial
  have ht : Tidy (.map [] : DataW Unit) := tidy_empty
  refine ⟨ht.put hk _, fun s => ?_, fun s d h => ?_⟩
  · by_cases e : s = 0
    · subst e; rw [has_put_same ht.isMap hk]; rfl
    · rw [has_put_other (by simp; exact fun q => e q), has_eq]; simp [lookE, e]
  · by_cases e : s = 0
    · subst e
      simp [lookE] at h
      subst h
      exact atKey_put_same ht.isMap hk _ _
    · simp [lookE, e] at h
theorem LOK.put {D : DataW Unit} {made : Int} {es : List Ev} (h : LOK D made es) (e : Ev) : LOK (D.put (.int .i64 e.kind) (.lit (.int .i64 e.day))) made (es ++ [e]) := by
  have hk : WideAt.IsKeyLit (.int .i64 e.kind) := trivial
  refine ⟨h.tidy.put hk _, fun s => ?_, fun s d hd => ?_⟩
  · rw [lookE_snoc]
    by_cases q : e.kind = s
    · subst q; rw [has_put_same h.tidy.isMap hk, if_pos rfl]; rfl
    · rw [has_put_other (by simp; exact fun z => q z.symm), h.has_, if_neg q]
  · rw [lookE_snoc] at hd
    by_cases q : e.kind = s
    · subst q
      rw [if_pos rfl] at hd
      cases hd
      exact atKey_put_same h.tidy.isMap hk _ _
    · rw [if_neg q] at hd
      rw [atKey_put_other (by simp; exact fun z => q z.symm)]
      exact h.at_ s d hd
theorem LOK.day {D : DataW Unit} {r : Rec} (h : LOK D r.made r.evs) (hr : isRec r = true) (k : Int) : has D (.int .i64 k) = decide (0 ≤ dayOf r k) ∧ (0 ≤ dayOf r k → D.atKey (.int .i64 k) (.lit (.int .i64 0)) = .lit (.int .i64 (dayOf r k))) := by
  have h1 := lookE_dayOf hr k
  refine ⟨?_, fun h0 => ?_⟩
  · rw [h.has_, h1]
    by_cases q : dayOf r k < 0
    · rw [if_pos q, decide_eq_false (by omega)]; rfl
    · rw [if_neg q, decide_eq_true (by omega)]; rfl
  · exact h.at_ k _ (by rw [h1, if_neg (by omega)])

theorem wf_of_inI {n : Int} (h : inI n) : (Lit.int .i64 n).wf = true := by unfold inI at h; simp [Lit.wf, IntKind.min, IntKind.max, IntKind.signed, IntKind.bits]; omega
theorem key_day (s : Int) (h : inI s) : keyOf Try.prog 3 (.int .i64 s) = some (.int .i64 s) := keyOf_int_mk Try.underlying3 (wf_of_inI h)
abbrev DayS (w : World) (b n : Nat) (D : DataW Unit) : Prop := w.ownsMap Try.prog 3 (plainElem Try.prog 3) b n D
theorem zero_int (w : World) : (zeroValue 3).run Try.prog w = .ok (.int .i64 0) w := by kernel_rfl
theorem wpList_insert_own {H : Type} {P : Program} (w : World) {ops : Array Oper} {rest : List Oper} {o : Oper} {a : Act} {Q : Exit → Act → World → Prop}
    (hg : o.guard = none) (m x v : Operand) (t : TypeId) (hop : o.op = Op.insert t m x v)
    (k e : TypeId) (K : Keyed P k) (ht : P.underlying t = some (.map k e)) (R : Value → Option (DataW H × List MemPlace)) (b n : Nat) (D : DataW H)
    (hm : a.eval m = .map (some b)) (hown : w.ownsMap P k R b n D) (hn : n < maxLen) (key val : Value) (kl : Go.Lit) (hx : a.eval x = key) (hv : a.eval v = val) (hkey : keyOf P k key = some kl)
    (d : DataW H) (ps : List MemPlace) (hval : R val = some (d, ps))
    (hK : ∀ w', w'.ownsMap P k R b (n + 1) (D.put kl d) → w.grownBy w' (some b) → wpList P ops Q rest (a.put o.dst undef) w') :
    wpList P ops Q (o :: rest) a w := by
  refine wpList_plain hg fun K' hK' => ?_
  obtain ⟨w', hrun, r1, r2⟩ := hown.update K ht hn hkey hval
  unfold Oper.wp
  simp [execOp, hop, hm, hx, hv, hrun, Result.andThen]
  exact hK' _ _ (hK w' r1 r2)

def StartD (w : World) (r : Rec) (e : Ending) (w' : World) : Prop := ∃ b D, e = .returned (.map (some b)) ∧ w.heap.size ≤ b ∧ b < w'.heap.size ∧ DayS w' b (r.evs.length + 1) D ∧ LOK D r.made r.evs ∧ Below w.heap.size w w'
set_option maxRecDepth 20000 in
set_option maxHeartbeats 4000000 in
theorem startDays_any (v : Value) (r : Rec) (w : World) (h : RecV w v r) (hn : r.evs.length ≤ 1048576) :
    Calls Try.prog 92 #[v] w (StartD w r) := by
  obtain ⟨s, rfl, h1, hok⟩ := h
  obtain ⟨a1, c1, rfl, hl1, hm1, r1⟩ := h1.evs
  have R1 := Lib.hid r1
  clear h1 r1
  unfold maxLen at hm1
  have hmm := @run_makeMap Try.prog
  have him : inI r.made := hok.2.2
  have HK0 := Lib.hid (key_day 0 (by simp [inI]))
  have HVM := Lib.hid (plainElem_int (H := Unit) Try.underlying3 (wf_of_inI him))
  have M0 : Hid (DayS ((w.alloc (.cells #[.int .i64 r.id, .int .i64 r.series, .int .i64 r.made, .slice a1 r.evs.length c1] 27 (0, 0))).alloc (.map #[] 0)) (w.heap.size + 1) 0 (.map [])) :=
    Lib.hid (by simpa using World.ownsMap_made (w.alloc (.cells #[.int .i64 r.id, .int .i64 r.series, .int .i64 r.made, .slice a1 r.evs.length c1] 27 (0, 0))) Try.prog 3 (plainElem (H := Unit) Try.prog 3))
  have c3 := cell_new w #[.int .i64 r.id, .int .i64 r.series, .int .i64 r.made, .slice a1 r.evs.length c1] 27 3 (v := .slice a1 r.evs.length c1) rfl
  have c2 := cell_new w #[.int .i64 r.id, .int .i64 r.series, .int .i64 r.made, .slice a1 r.evs.length c1] 27 2 (v := .int .i64 r.made) rfl
  clear him hok
  go_enter Try.func92, Try.ntmps92
  go_wp2_with (first | (refine wpList_insert_own _ rfl _ _ _ 116 rfl 3 3 (int_keyed Try.underlying3) Try.underlying116 (plainElem (H := Unit) Try.prog 3) (w.heap.size + 1) 0 (.map []) rfl M0.out (by unfold maxLen; omega) (.int .i64 0) (.int .i64 r.made) (.int .i64 0) rfl rfl HK0.out (.lit (.int .i64 r.made)) [] HVM.out ?_; intro w2 hown2 hg2; have HM2 := Lib.hid hown2; have HG2 := Lib.hid hg2; have s2 := hg2.size; have p3 := hg2.cell (below_al_cell c3 (.map #[] 0)) (by simp); have bw2 := (below_al (below_al (Below.refl w.heap.size w) (.cells #[.int .i64 r.id, .int .i64 r.series, .int .i64 r.made, .slice a1 r.evs.length c1] 27 (0, 0))) (.map #[] 0)).grown hg2 (by simp; omega) (fun g e => by cases e; omega); simp at s2; clear hown2 hg2 M0 c3 c2))
  go_loopw [13] (fun i wr => ∃ (k : Nat) (D : DataW Unit), k ≤ r.evs.length ∧ i = .int .i64 k ∧ Hid (LOK D r.made (r.evs.take k)) ∧ Hid (DayS wr (w.heap.size + 1) (k + 1) D) ∧ Below w.heap.size w wr ∧ w.heap.size + 1 < wr.heap.size) (fun i _ => r.evs.length - (intOf i).toNat)
  case atStart => exact ⟨0, _, Nat.zero_le _, rfl, Lib.hid (by simpa using LOK.start r.made), HM2, bw2, by omega⟩
  case round =>
    clear HM2 HG2 bw2 s2
    obtain ⟨k, D, hk, rfl, HD, HM, hb, hmb⟩ := hrel
    by_cases hlt : k < r.evs.length
    · obtain ⟨b1, o1, hb1, rfl, e1⟩ := R1.out.resolve_left (fun e => by rw [e] at hlt; simp at hlt)
      obtain ⟨⟨x, y⟩, hx⟩ : ∃ s, r.evs.getD k evD = s := ⟨_, rfl⟩
      obtain ⟨q1, q2, hok⟩ := e1 k hlt
      rw [hx] at q1 q2 hok
      have f1 := cell_kept q1 hb
      have f2 := cell_kept q2 hb
      simp only at f1 f2
      have hix : inI x := hok.1
      have hiy : inI y := hok.2
      have htk : r.evs.take (k + 1) = r.evs.take k ++ [⟨x, y⟩] := by rw [List.take_succ_eq_append_getElem hlt, ← getD_lt hlt, hx]
      have HPUT := Lib.hid (HD.out.put ⟨x, y⟩)
      rw [← htk] at HPUT
      have HIN := Lib.hid (key_day x hix)
      have HVY := Lib.hid (plainElem_int (H := Unit) Try.underlying3 (wf_of_inI hiy))
      have g0 : (0 : Int) ≤ (k : Int) := by omega
      have g1 : (k : Int) < (r.evs.length : Int) := by omega
      clear q1 q2 hok e1 hx htk hix hiy
      go_wp2_with (first | (at_mapUpdate; refine wpList_mapUpdate_own _ rfl _ _ _ 116 rfl 3 3 (int_keyed Try.underlying3) Try.underlying116 (plainElem (H := Unit) Try.prog 3) (w.heap.size + 1) (k + 1) D rfl (HM.out.alloc _) (by unfold maxLen; omega) (.int .i64 x) (.int .i64 y) (.int .i64 x) rfl rfl HIN.out (.lit (.int .i64 y)) [] HVY.out ?_; intro w3 hown3 hg3; have HM3 := Lib.hid hown3; have HG3 := Lib.hid hg3; clear hown3 hg3))
      go_roundw
      case rel =>
        have s3 := HG3.out.size
        simp at s3
        exact ⟨k + 1, _, by omega, by go_num, HPUT, HM3, (hb.alloc hb.size _).grown HG3.out (by have := hb.size; simp; omega) (fun g e => by cases e; omega), by omega⟩
      case measure => simp [intOf]; omega
    · obtain rfl : k = r.evs.length := by omega
      have HD2 := Lib.hid (by have := HD.out; rw [List.take_length] at this; exact this : LOK D r.made r.evs)
      clear HD
      go_wp2_with fail
      go_ret
      exact ⟨_, D, rfl, by omega, hmb, HM.out, HD2.out, hb⟩

def perRules (r : Rec) (t : List Ru) : List Ru := if askB r t = true then forRu t r.series else []
def perEnds (r : Rec) (t : List Ru) : List Int := if askB r t = true then endsF r t else []
theorem ruf_ask {r : Rec} {t : List Ru} (hr : isRec r = true) : rufRes t r.series = if isSch t = true then (forRu t r.series, true) else ([], false) := by
  have := (isRec_iff.1 hr).2.1
  unfold rufRes
  simp [this.1, this.2]
def PeriodsD (w : World) (r : Rec) (t : List Ru) (e : Ending) (w' : World) : Prop :=
  ∃ u1 u2, e = .returned (.tuple #[u1, u2, .bool (askB r t)]) ∧ RusO w.heap.size w'.heap.size w' u1 (perRules r t) ∧ IntsO w.heap.size w'.heap.size w' u2 (perEnds r t) ∧ Below w.heap.size w w'
theorem ints_nil (lo hi : Nat) (w : World) : IntsO lo hi w (.slice none 0 0) [] := ⟨World.ownsRow_nil _ _ _ _, Under.nil _ _ _⟩
theorem ints_ofRow {lo n : Nat} {w : World} {v : Value} {xs : List Int} (h : w.ownsRow lo 3 1 v n (xs.map vI)) (hn : n = xs.length) : IntsO lo w.heap.size w v xs := ⟨by rw [← hn]; exact h, fun g hg => (h.lt g hg).2⟩
set_option maxRecDepth 20000 in
set_option maxHeartbeats 8000000 in
theorem periodsOf_any (v v1 : Value) (r : Rec) (t : List Ru) (w : World) (h : RecV w v r) (h1 : RowR 4 rRu w v1 t) (hn : t.length ≤ 1048576) :
    Calls Try.prog 74 #[v, v1] w (PeriodsD w r t) := by
  obtain ⟨i0, hi, hz0, hz1, hz2⟩ := info_parts Try.info_intI
  obtain ⟨s, rfl, h0, hok⟩ := h
  have HV := Lib.hid (show ∀ W, Below w.heap.size w W → RecV W (.agg #[.int .i64 r.id, .int .i64 r.series, .int .i64 r.made, s]) r from fun W hb => ⟨s, rfl, h0.below rEv_stable hb, hok⟩)
  have H1 := Lib.hid h1
  obtain ⟨br, hr⟩ : ∃ b, isRec r = b := ⟨_, rfl⟩
  obtain ⟨R, bR, hR⟩ : ∃ R b, rufRes t r.series = (R, b) := ⟨_, _, rfl⟩
  have HR := Lib.hid hr
  have HRR := Lib.hid hR
  clear h0 hok h1 hr hR
  have b0 := below_al (Below.refl w.heap.size w) (.cells #[.int .i64 r.id, .int .i64 r.series, .int .i64 r.made, s] 27 (0, 0))
  have HC0 := Lib.hid (Box4.new w r s 27)
  cases bR
  · have HA : Hid (askB r t = false) := Lib.hid (by
      rcases ha : askB r t with _ | _
      · rfl
      · have := ask_iff.1 ha
        have hq := HRR.out
        rw [ruf_ask this.1, if_pos this.2] at hq
        cases hq)
    go_enter Try.func74, Try.ntmps74
    go_wp2_with (first | (go_at_call 29; refine (implRulesFor_any _ t r.series _ (H1.out.below rRu_stable b0) hn R false HRR.out).mono ?_; rintro e w1 ⟨u1, rfl, ho1, b1⟩; replace b1 := below_chain b0 b1; clear ho1))
    go_ret3
    exact ⟨_, _, by rw [HA.out]; rfl, by unfold perRules; rw [HA.out]; exact RusO.nil _ _ _, by unfold perEnds; rw [HA.out]; exact ints_nil _ _ _, b1⟩
  · cases br
    · have HA : Hid (askB r t = false) := Lib.hid (by unfold askB; rw [HR.out]; rfl)
      go_enter Try.func74, Try.ntmps74
      go_wp2_with (first | (go_at_call 29; refine (implRulesFor_any _ t r.series _ (H1.out.below rRu_stable b0) hn R true HRR.out).mono ?_; rintro e w1 ⟨u1, rfl, ho1, b1⟩; obtain ⟨c0, c1, c2, c3⟩ := HC0.out.kept b1; obtain ⟨ga, gn, gc, rfl⟩ := ho1.1.slice; replace b1 := below_chain b0 b1; clear ho1) | (go_at_call 41; refine (implIsRecord_any _ r _ (HV.out _ b1)).mono ?_; rw [HR.out]; rintro e w2 ⟨rfl, b2⟩))
      go_ret3
      exact ⟨_, _, by rw [HA.out]; rfl, by unfold perRules; rw [HA.out]; exact RusO.nil _ _ _, by unfold perEnds; rw [HA.out]; exact ints_nil _ _ _, below_chain b1 b2⟩
    · have hq := HRR.out
      rw [ruf_ask HR.out] at hq
      have hs : isSch t = true := by
        rcases hs : isSch t with _ | _
        · rw [hs] at hq; simp at hq
        · rfl
      rw [if_pos hs] at hq
      obtain ⟨hRf, _⟩ := Prod.mk.inj hq
      have ha : askB r t = true := ask_iff.2 ⟨HR.out, hs⟩
      have HA := Lib.hid ha
      have HPR := Lib.hid (show perRules r t = R by unfold perRules; rw [if_pos ha, hRf])
      have HPE := Lib.hid (show perEnds r t = R.map (endR r) by unfold perEnds; rw [if_pos ha]; unfold endsF; rw [hRf])
      have HRU := Lib.hid (show ∀ u ∈ R, isRu u = true by rw [← hRf]; exact forRu_ok hs r.series)
      have hRl : R.length ≤ 8 := by rw [← hRf]; exact Nat.le_trans (forRu_len t r.series) (sch_len hs)
      have hev : r.evs.length ≤ 6 := (isRec_iff.1 HR.out).2.2.2.1
      clear hq hs hRf ha
      go_enter Try.func74, Try.ntmps74
      go_wp2_with (first | (go_at_call 29; refine (implRulesFor_any _ t r.series _ (H1.out.below rRu_stable b0) hn R true HRR.out).mono ?_; rintro e w1 ⟨u1, rfl, ho1, b1⟩; have HC1 := Lib.hid (HC0.out.kept b1); obtain ⟨c0, c1, c2, c3⟩ := HC1.out; obtain ⟨ga, gc, hgv, gl, gm, gr⟩ := ho1.row.rus; subst hgv; have HO1 := Lib.hid ho1; replace b1 := below_chain b0 b1; unfold maxLen at gm; clear ho1 gr b0 HC0) | (go_at_call 41; refine (implIsRecord_any _ r _ (HV.out _ b1)).mono ?_; rw [HR.out]; rintro e w2 ⟨rfl, b2⟩; have HO2 := Lib.hid ((HO1.out.below b2).wide (Nat.le_refl _) b2.size); replace c0 := cell_kept c0 b2; replace c1 := cell_kept c1 b2; replace c2 := cell_kept c2 b2; replace c3 := cell_kept c3 b2; replace b2 := below_chain b1 b2; clear HO1 HC1 b1) | (go_at_call 92; refine (startDays_any _ r _ (HV.out _ b2) (by omega)).mono ?_; rintro e w3 ⟨mb, D, rfl, hm1, hm2, hown3, hlok, b3⟩; have HO3 := Lib.hid ((HO2.out.below b3).wide (Nat.le_refl _) b3.size); have HM3 := Lib.hid hown3; have HL := Lib.hid hlok; replace b3 := below_chain b2 b3; clear hown3 hlok c0 c1 c2 c3 b2 HO2))
      have R3 := Lib.hid (by obtain ⟨a, c, e, _, _, r⟩ := HO3.out.row.rus; cases e; exact r : R = [] ∨ ∃ b off, b < w3.heap.size ∧ ga = some ⟨b, off, none⟩ ∧ ∀ i, i < R.length → w3.cell? ⟨b, off + i * 4, none⟩ = some (.int .i64 (R.getD i ruD).series) ∧ w3.cell? ⟨b, off + i * 4 + 1, none⟩ = some (.int .i64 (R.getD i ruD).event) ∧ w3.cell? ⟨b, off + i * 4 + 2, none⟩ = some (.int .i64 (R.getD i ruD).days) ∧ w3.cell? ⟨b, off + i * 4 + 3, none⟩ = some (.int .i64 (R.getD i ruD).act) ∧ (R.getD i ruD).ok)
      go_loopw [10, 34] (fun o i wr => ∃ k : Nat, k ≤ R.length ∧ i = .int .i64 k ∧ wr.ownsRow w3.heap.size 3 1 o ((R.take k).map (endR r)).length (((R.take k).map (endR r)).map vI) ∧ Below w3.heap.size w3 wr) (fun _ i _ => R.length - (intOf i).toNat)
      case atStart => exact ⟨0, Nat.zero_le _, rfl, by simpa using World.ownsRow_nil _ _ _ _, Below.refl _ _⟩
      case round =>
        obtain ⟨k, hk, rfl, hO, hb⟩ := hrel
        have hsz := hb.size
        by_cases hlt : k < R.length
        · obtain ⟨bb, o1, hb1, rfl, e1⟩ := R3.out.resolve_left (fun e => by rw [e] at hlt; simp at hlt)
          obtain ⟨q0, q1, q2, q3, hok⟩ := e1 k hlt
          obtain ⟨⟨x0, x1, x2, x3⟩, hx⟩ : ∃ s, R.getD k ruD = s := ⟨_, rfl⟩
          rw [hx] at q0 q1 q2 q3
          simp only at q0 q1 q2 q3
          have f0 := cell_kept q0 hb
          have f1 := cell_kept q1 hb
          have f2 := cell_kept q2 hb
          have f3 := cell_kept q3 hb
          have hxu : isRu ⟨x0, x1, x2, x3⟩ = true := by rw [← hx, getRu_lt hlt]; exact HRU.out _ (List.getElem_mem hlt)
          have hxb := isRu_iff.1 hxu
          simp only at hxb
          have htake := ends_take (r := r) hlt
          rw [hx] at htake
          obtain ⟨P, hP⟩ : ∃ P, (R.take k).map (endR r) = P := ⟨_, rfl⟩
          have hPl : P.length ≤ 8 := by rw [← hP, List.length_map, List.length_take]; omega
          rw [hP] at hO htake
          have HT := Lib.hid htake
          have HMr := Lib.hid (HM3.out.kept (grownBy_of_below hb none) (by simp))
          have hin : inI x1 := by unfold inI; omega
          have HKY := Lib.hid (key_day x1 hin)
          obtain ⟨hh, hat0⟩ := HL.out.day HR.out x1
          have hd1 := dayOf_top HR.out x1
          obtain ⟨d, hd⟩ : ∃ d, dayOf r x1 = d := ⟨_, rfl⟩
          rw [hd] at hh hat0 hd1
          have he : endR r ⟨x0, x1, x2, x3⟩ = if d < 0 then -1 else d + x2 := by unfold endR; simp only; rw [hd]
          have HE := Lib.hid he
          have HAT := Lib.hid hat0
          have g0 : (0 : Int) ≤ (k : Int) := by omega
          have g1 : (k : Int) < (R.length : Int) := by omega
          have hx2 := hxb.2.2.1
          clear q0 q1 q2 q3 hok e1 hx htake hP hxu hin hd he hat0 hxb
          by_cases hn : 0 ≤ d
          · have hh2 : Maps.has D (.int .i64 x1) = true := by rw [hh]; exact decide_eq_true hn
            have hw : IntKind.i64.wrap (d + x2) = d + x2 := Go.IntWalk.i64_in _ (by omega)
            have HV2 := Lib.hid (HAT.out hn)
            have HT2 : Hid ((R.take (k + 1)).map (endR r) = P ++ [d + x2]) := Lib.hid (by rw [HT.out, HE.out, if_neg (by omega)])
            clear hh
            go_wp2_with (first | (at_lookup; refine wpList_lookup_own_ok_int _ rfl _ _ 116 rfl 3 3 .i64 (int_keyed Try.underlying3) Try.underlying116 Try.underlying3 (zero_int _) mb (r.evs.length + 1) D rfl (HMr.out.alloc _) _ _ rfl HKY.out ?_; intro c hat hwc; rw [HV2.out] at hat; obtain rfl : d = c := (by simpa using hat); clear hat hwc; rw [hh2]) | (at_builtin; refine wpList_append_own _ rfl _ _ 43 rfl w3.heap.size 3 i0 (.int .i64 0) 1 8 Try.underlying43 hi hz0 hz1 hz2 rfl (by decide) _ _ _ rfl ((hO.alloc _).alloc _) ⟨wr.heap.size + 1, 0, none⟩ 1 1 [.int .i64 (d + x2)] rfl rfl (cell_oneI _ _ _ (by simp)) (by simp [Value.oneCell']) (by unfold maxLen; omega) (by omega) (by simp; omega) ?_; intro v' w4 hown' hgrow _))
            have HOWN := Lib.hid hown'
            have HB := Lib.hid (below_app (below_al hb _) (Nat.le_refl _) (hO.alloc _) hgrow)
            clear hown' hgrow hO
            go_wp2_with fail
            go_roundw
            case rel => exact ⟨k + 1, by omega, by go_num, (by rw [HT2.out]; simpa [vI] using HOWN.out), HB.out⟩
            case measure => simp [intOf]; omega
          · have hh2 : Maps.has D (.int .i64 x1) = false := by rw [hh]; exact decide_eq_false hn
            have HT2 : Hid ((R.take (k + 1)).map (endR r) = P ++ [-1]) := Lib.hid (by rw [HT.out, HE.out, if_pos (by omega)])
            clear hh
            go_wp2_with (first | (at_lookup; refine wpList_lookup_own_ok_int _ rfl _ _ 116 rfl 3 3 .i64 (int_keyed Try.underlying3) Try.underlying116 Try.underlying3 (zero_int _) mb (r.evs.length + 1) D rfl (HMr.out.alloc _) _ _ rfl HKY.out ?_; intro c hat hwc; clear hat hwc; rw [hh2]) | (at_builtin; refine wpList_append_own _ rfl _ _ 43 rfl w3.heap.size 3 i0 (.int .i64 0) 1 8 Try.underlying43 hi hz0 hz1 hz2 rfl (by decide) _ _ _ rfl ((hO.alloc _).alloc _) ⟨wr.heap.size + 1, 0, none⟩ 1 1 [.int .i64 (-1)] rfl rfl (cell_oneI _ _ _ (by simp)) (by simp [Value.oneCell']) (by unfold maxLen; omega) (by omega) (by simp; omega) ?_; intro v' w4 hown' hgrow _))
            have HOWN := Lib.hid hown'
            have HB := Lib.hid (below_app (below_al hb _) (Nat.le_refl _) (hO.alloc _) hgrow)
            clear hown' hgrow hO
            go_wp2_with fail
            go_roundw
            case rel => exact ⟨k + 1, by omega, by go_num, (by rw [HT2.out]; simpa [vI] using HOWN.out), HB.out⟩
            case measure => simp [intOf]; omega
        · obtain rfl : k = R.length := by omega
          rw [List.take_length] at hO
          have HO := Lib.hid hO
          clear hO
          have s3 := b3.size
          go_wp2_with fail
          go_ret3
          refine ⟨_, _, by rw [HA.out]; rfl, ?_, ?_, b3.trans (hb.mono s3)⟩
          · rw [HPR.out]; exact (HO3.out.below hb).wide (by simp) hsz
          · rw [HPE.out]; exact (ints_ofRow HO.out rfl).wide s3 (Nat.le_refl _)
end Go.Proofs.Ytdbomnhakikmfaa

namespace Go.Proofs.Ytdbomnhakikmfaa
set_option linter.unusedVariables false
open Go.RowKit

def idxI (xs : List Int) (x : Int) : Int := if x ∈ xs then (xs.findIdx (fun y => decide (y = x)) : Nat) else -1
theorem idxI_ge {xs : List Int} {x : Int} : (0 ≤ idxI xs x) ↔ x ∈ xs := by
  unfold idxI
  by_cases h : x ∈ xs
  · rw [if_pos h]; simp [h]
  · rw [if_neg h]; simp [h]
set_option maxHeartbeats 1000000 in
theorem index_any (v : Value) (xs : List Int) (x : Int) (w : World) (h : RowOf vI w v xs) :
    Calls Try.prog 75 #[v, .int .i64 x] w fun e w' => (∃ n : Int, e = .returned (.int .i64 n) ∧ (0 ≤ n ↔ x ∈ xs)) ∧ Below w.heap.size w w' := by
  have hcap := h.cap
  obtain ⟨a1, c1, rfl, hl1, hm1, r1⟩ := h
  have R1 := Lib.hid r1
  clear r1
  unfold maxLen at hm1
  go_enter Try.func75, Try.ntmps75
  go_wp2
  go_loopw [8] (fun i wr => ∃ k : Nat, k ≤ xs.length ∧ i = .int .i64 k ∧ Hid (¬ x ∈ xs.take k) ∧ Below w.heap.size w wr) (fun i _ => xs.length - (intOf i).toNat)
  case atStart => exact ⟨0, Nat.zero_le _, rfl, Lib.hid (by simp), Below.refl _ _⟩
  case round =>
    obtain ⟨k, hk, rfl, HN, hb⟩ := hrel
    by_cases hlt : k < xs.length
    · obtain ⟨b1, o1, hb1, rfl, e1⟩ := R1.out.resolve_left (fun e => by rw [e] at hlt; simp at hlt)
      obtain ⟨y, hy⟩ : ∃ s, xs[k] = s := ⟨_, rfl⟩
      have f1 := (hb.cell (p := ⟨b1, o1 + k, none⟩) hb1).trans (e1 k hlt)
      rw [hy] at f1
      simp only [vI] at f1
      have HY := Lib.hid hy
      have g0 : (0 : Int) ≤ (k : Int) := by omega
      have g1 : (k : Int) < (xs.length : Int) := by omega
      clear e1 hy
      by_cases he : x = y
      · have hq : (x == y) = true := by simp [he]
        have HE : Hid (x ∈ xs) := by rw [he, ← HY.out]; exact List.getElem_mem hlt
        clear he
        go_wp2
        go_ret
        exact ⟨⟨_, rfl, by simp [HE.out]⟩, hb⟩
      · have hq : (x == y) = false := by simp [he]
        have HE : Hid (¬ x ∈ xs.take (k + 1)) := fun h => by
          rw [List.take_succ_eq_append_getElem hlt, List.mem_append, List.mem_singleton, HY.out] at h
          exact h.elim HN.out he
        clear he
        go_wp2
        go_roundw
        case rel => exact ⟨k + 1, by omega, by go_num, HE, hb⟩
        case measure => simp [intOf]; omega
    · have hkl : k = xs.length := by omega
      have HE : Hid (¬ x ∈ xs) := by have := HN.out; rwa [hkl, List.take_length] at this
      clear hkl
      go_wp2
      go_ret
      exact ⟨⟨-1, rfl, by simp [HE.out]⟩, hb⟩
theorem contains_any (v : Value) (xs : List Int) (x : Int) (w : World) (h : RowOf vI w v xs) :
    Calls Try.prog 43 #[v, .int .i64 x] w fun e w' => e = .returned (.bool (decide (x ∈ xs))) ∧ Below w.heap.size w w' := by
  have H := Lib.hid h
  clear h
  go_enter Try.func43, Try.ntmps43
  go_wp2_with fail
  refine (index_any _ xs x _ H.out).mono ?_
  rintro e w' ⟨⟨n, rfl, hn⟩, hb⟩
  have HN := Lib.hid hn
  clear hn
  go_wp2_with fail
  go_ret
  exact ⟨ret_bool (by rw [Bool.eq_iff_iff]; simp [HN.out]), hb⟩
end Go.Proofs.Ytdbomnhakikmfaa

namespace Go.Proofs.Ytdbomnhakikmfaa
set_option linter.unusedVariables false
open Go.RowKit Go.Sort

theorem wp_scope_forward {P : Program} {Q : Exit → Act → World → Prop} {a : Act} {w : World} {c : Code} (l : Nat) (rest : Code) (hf : findLabel c l = some rest)
    (first : c.wp P (Exit.jump l (fun a w => rest.wp P (Exit.noGoto Q) a w) Q) a w) : (Code.scope c).wp P Q a w :=
  wp_scope_jumps l (fun a w => rest.wp P (Exit.noGoto Q) a w) (fun _ _ => 0) hf first (fun a w hJ => wp_mono hJ (by
    intro e a w h
    cases e <;> first | exact h | exact h.elim))
theorem per_nil {r : Rec} {t : List Ru} (h : (perRules r t).length = 0) : setF r t = (ruD, 0, false) := by
  rcases ha : askB r t with _ | _
  · exact setF_no (.inl ha)
  · refine setF_no (.inr ?_)
    unfold perRules at h
    rw [if_pos ha] at h
    have hq := ask_iff.1 ha
    rcases Int.lt_or_le (dueF r t) 0 with h1 | h1
    · exact h1
    · exact absurd (List.length_eq_zero_iff.1 h) ((set_told hq.1 hq.2).1 h1).1
theorem per_open {r : Rec} {t : List Ru} (h : (-1 : Int) ∈ perEnds r t) : setF r t = (ruD, 0, false) := by
  rcases ha : askB r t with _ | _
  · exact setF_no (.inl ha)
  · refine setF_no (.inr ?_)
    unfold perEnds at h
    rw [if_pos ha] at h
    have hq := ask_iff.1 ha
    rcases Int.lt_or_le (dueF r t) 0 with h1 | h1
    · exact h1
    · exact absurd h ((set_told hq.1 hq.2).1 h1).2
theorem per_told {r : Rec} {t : List Ru} (h : (perRules r t).length ≠ 0) (h2 : ¬ (-1 : Int) ∈ perEnds r t) : askB r t = true ∧ perRules r t = forRu t r.series ∧ perEnds r t = endsF r t ∧ setF r t = (ruleF r t, dueF r t, true) := by
  rcases ha : askB r t with _ | _
  · unfold perRules at h; rw [if_neg (by rw [ha]; simp)] at h; simp at h
  · have hq := ask_iff.1 ha
    have e1 : perRules r t = forRu t r.series := by unfold perRules; rw [if_pos ha]
    have e2 : perEnds r t = endsF r t := by unfold perEnds; rw [if_pos ha]
    refine ⟨rfl, e1, e2, setF_yes ha ((set_told hq.1 hq.2).2 ⟨fun e => h (by rw [e1, e]; rfl), by rw [← e2]; exact h2⟩)⟩
theorem per_len (r : Rec) (t : List Ru) : (perEnds r t).length = (perRules r t).length := by
  unfold perEnds perRules
  split
  · unfold endsF; rw [List.length_map]
  · rfl
theorem per_le (r : Rec) (t : List Ru) : (perRules r t).length ≤ t.length := by
  unfold perRules
  split
  · exact forRu_len _ _
  · exact Nat.zero_le _
set_option maxRecDepth 20000 in
set_option maxHeartbeats 8000000 in
theorem settle_any (v v1 : Value) (r : Rec) (t : List Ru) (w : World) (h : RecV w v r) (h1 : RowR 4 rRu w v1 t) (hn : t.length ≤ 1048576) (q : Ru) (d : Int) (b : Bool) (hres : setF r t = (q, d, b)) :
    Calls Try.prog 72 #[v, v1] w fun e w' => e = .returned (.tuple #[.agg #[.int .i64 q.series, .int .i64 q.event, .int .i64 q.days, .int .i64 q.act], .int .i64 d, .bool b]) ∧ Below w.heap.size w w' := by
  obtain ⟨s, rfl, h0, hok⟩ := h
  have HV := Lib.hid (show ∀ W, Below w.heap.size w W → RecV W (.agg #[.int .i64 r.id, .int .i64 r.series, .int .i64 r.made, s]) r from fun W hb => ⟨s, rfl, h0.below rEv_stable hb, hok⟩)
  have H1 := Lib.hid h1
  have HRES := Lib.hid hres
  have hpl := per_len r t
  have hpe := per_le r t
  obtain ⟨R, hR⟩ : ∃ R, perRules r t = R := ⟨_, rfl⟩
  obtain ⟨E, hE⟩ : ∃ E, perEnds r t = E := ⟨_, rfl⟩
  rw [hR] at hpl hpe
  rw [hE] at hpl
  have HPL := Lib.hid hpl
  have HR := Lib.hid hR
  have HE := Lib.hid hE
  clear h0 hok h1 hres hR hE hpl
  have b0 := below_al (below_al (Below.refl w.heap.size w) (RBOX r s 27)) (.cells #[.int .i64 0, .int .i64 0, .int .i64 0, .int .i64 0] 36 (0, 0))
  have HX0 : Hid (UBox ((w.alloc (RBOX r s 27)).alloc (.cells #[.int .i64 0, .int .i64 0, .int .i64 0, .int .i64 0] 36 (0, 0))) (w.heap.size + 1) ruD) := Lib.hid (by rw [← (show (w.alloc (RBOX r s 27)).heap.size = w.heap.size + 1 by simp)]; exact UBox.new (w.alloc (RBOX r s 27)) ruD 36)
  by_cases hz : R.length = 0
  · have hz1 : ((R.length : Int) == 0) = true := by simp [hz]
    have hz2 : decide ((R.length : Int) = 0) = true := decide_eq_true (by omega)
    have hz3 : decide (R.length = 0) = true := decide_eq_true hz
    have hq := HRES.out
    rw [per_nil (by rw [HR.out]; exact hz)] at hq
    cases hq
    have HZ := Lib.hid hz
    clear hz
    go_enter Try.func72, Try.ntmps72
    go_wp2_with (first | (go_at_call 74; refine (periodsOf_any _ _ r t _ (HV.out _ b0) (H1.out.below rRu_stable b0) hn).mono ?_; rintro e w1 ⟨u1, u2, rfl, ho1, ho2, b1⟩; rw [HR.out] at ho1; rw [HE.out] at ho2; have HX1 := Lib.hid (HX0.out.kept b1); obtain ⟨z0, z1, z2, z3, y0, y1, y2, y3⟩ := HX1.out; simp only [ruD] at z0 z1 z2 z3; replace b1 := below_chain b0 b1; obtain ⟨a1, n1, c1, hu1⟩ := ho1.1.slice; obtain ⟨a1', c1', hv, hl1, hm1, r1⟩ := ho1.row.rus; subst hv; unfold maxLen at hm1; clear hu1 r1 ho1 ho2))
    refine bodyPost_ret (v := .tuple #[.agg #[.int .i64 0, .int .i64 0, .int .i64 0, .int .i64 0], .int .i64 0, .bool false]) (by simp [results, Try.results72, go_sem, z0, z1, z2, z3]) rfl ⟨rfl, ?_⟩
    exact below_putU b1 (by omega) ruD
  · have hz1 : ((R.length : Int) == 0) = false := by simp [hz]
    have hz2 : decide ((R.length : Int) = 0) = false := decide_eq_false (by omega)
    have hz3 : decide (R.length = 0) = false := decide_eq_false hz
    have HZ := Lib.hid hz
    have hpos : (0 : Int) < (R.length : Int) := by omega
    clear hz
    by_cases ho : (-1 : Int) ∈ E
    · have hq := HRES.out
      rw [per_open (by rw [HE.out]; exact ho)] at hq
      cases hq
      have HO := Lib.hid (decide_eq_true ho)
      clear ho
      go_enter Try.func72, Try.ntmps72
      go_wp2_with (first | (go_at_call 74; refine (periodsOf_any _ _ r t _ (HV.out _ b0) (H1.out.below rRu_stable b0) hn).mono ?_; rintro e w1 ⟨u1, u2, rfl, ho1, ho2, b1⟩; rw [HR.out] at ho1; rw [HE.out] at ho2; have HX1 := Lib.hid (HX0.out.kept b1); replace b1 := below_chain b0 b1; obtain ⟨a1', c1', hv, hl1, hm1, r1⟩ := ho1.row.rus; subst hv; unfold maxLen at hm1; have HO2 := Lib.hid ho2; clear r1 ho1 ho2) | (go_at_call 43; refine (contains_any _ E _ _ HO2.out.row).mono ?_; rw [HO.out]; rintro e w2 ⟨rfl, b2⟩; have HX2 := Lib.hid (HX1.out.kept b2); obtain ⟨z0, z1, z2, z3, y0, y1, y2, y3⟩ := HX2.out; simp only [ruD] at z0 z1 z2 z3; replace b2 := below_chain b1 b2))
      refine bodyPost_ret (v := .tuple #[.agg #[.int .i64 0, .int .i64 0, .int .i64 0, .int .i64 0], .int .i64 0, .bool false]) (by simp [results, Try.results72, go_sem, z0, z1, z2, z3]) rfl ⟨rfl, ?_⟩
      exact below_putU b2 (by omega) ruD
    · obtain ⟨ha, hRf, hEf, hset⟩ := per_told (by rw [HR.out]; exact HZ.out) (by rw [HE.out]; exact ho)
      rw [HR.out] at hRf
      rw [HE.out] at hEf
      have hq := HRES.out
      rw [hset] at hq
      cases hq
      have HO := Lib.hid (decide_eq_false ho)
      have hask := ask_iff.1 ha
      have hshut : ∀ u ∈ R, 0 ≤ endR r u := fun u hu => by
        rcases Int.lt_or_le (endR r u) 0 with hlt | hlt
        · exact absurd (by rw [hEf]; exact (open_mem hask.1 hask.2).2 ⟨u, by rw [← hRf]; exact hu, hlt⟩) ho
        · exact hlt
      have HSH := Lib.hid hshut
      have HEM := Lib.hid (show E = R.map (endR r) by rw [hEf, hRf]; rfl)
      have hdec : decR r R = (ruleF r t, dueF r t) := by rw [hRf]; rfl
      have HRU := Lib.hid (show ∀ u ∈ R, isRu u = true by rw [hRf]; exact forRu_ok hask.2 r.series)
      have HDEC := Lib.hid hdec
      obtain ⟨Q1, hQ1⟩ : ∃ x, ruleF r t = x := ⟨_, rfl⟩
      obtain ⟨D1, hD1⟩ : ∃ x, dueF r t = x := ⟨_, rfl⟩
      rw [hQ1, hD1] at HDEC ⊢
      clear ho hRf hEf hset ha hask hshut hdec hQ1 hD1
      go_enter Try.func72, Try.ntmps72
      go_wp2_with (first | (go_at_call 74; refine (periodsOf_any _ _ r t _ (HV.out _ b0) (H1.out.below rRu_stable b0) hn).mono ?_; rintro e w1 ⟨u1, u2, rfl, ho1, ho2, b1⟩; rw [HR.out] at ho1; rw [HE.out] at ho2; have HX1 := Lib.hid (HX0.out.kept b1); replace b1 := below_chain b0 b1; obtain ⟨a1', c1', hv, hl1, hm1, r1⟩ := ho1.row.rus; subst hv; unfold maxLen at hm1; have HO1 := Lib.hid ho1; have HO2 := Lib.hid ho2; obtain ⟨a2, c2, hv2, hl2, hm2, r2⟩ := ho2.row; subst hv2; rw [HPL.out] at hl2; unfold maxLen at hm2; clear r1 r2 ho1 ho2) | (go_at_call 43; refine (contains_any _ E _ _ HO2.out.row).mono ?_; rw [HO.out]; rintro e w2 ⟨rfl, b2⟩; have HX2 := Lib.hid (HX1.out.kept b2); have hx2 := HO1.out.row.below rRu_stable b2; have hy2 := (HO2.out.below b2).row; replace b2 := below_chain b1 b2))
      have hEl : E.length = R.length := HPL.out
      have hR0 : 0 < R.length := by omega
      have hE0 : 0 < E.length := by omega
      obtain ⟨_, _, hva, _, _, rA⟩ := hx2.rus
      cases hva
      obtain ⟨bR, oR, hbR, rfl, eR⟩ := rA.resolve_left (fun e => by rw [e] at hR0; simp at hR0)
      obtain ⟨_, _, hvb, _, _, rB⟩ := hy2
      cases hvb
      obtain ⟨bE, oE, hbE, rfl, eE⟩ := rB.resolve_left (fun e => by rw [e] at hE0; simp at hE0)
      have ER := Lib.hid eR
      have EE := Lib.hid eE
      obtain ⟨q0, q1, q2, q3, hok0⟩ := eR 0 hR0
      obtain ⟨⟨x0, x1, x2, x3⟩, hx⟩ : ∃ s, R.getD 0 ruD = s := ⟨_, rfl⟩
      rw [hx] at q0 q1 q2 q3
      have p0 := eE 0 hE0
      obtain ⟨d0, hd0⟩ : ∃ x, E[0] = x := ⟨_, rfl⟩
      rw [hd0] at p0
      simp only [vI, Nat.zero_mul, Nat.add_zero] at q0 q1 q2 q3 p0
      have HXX := Lib.hid hx
      have HD0 := Lib.hid hd0
      have ge : (0 : Int) < (E.length : Int) := by omega
      clear hEl eR eE rA rB hx2 hok0 hx hd0 HO1 HO2 HX1 b1 b0 HX0
      have hd00 : d0 = endR r ⟨x0, x1, x2, x3⟩ := by
        have e1 : E[0]? = some d0 := by rw [List.getElem?_eq_getElem hE0, HD0.out]
        rw [HEM.out, List.getElem?_map, List.getElem?_eq_getElem hR0, ← getRu_lt hR0, HXX.out] at e1
        simpa using e1.symm
      have HF0 : Hid (decF r (R.drop 0) ⟨x0, x1, x2, x3⟩ d0 = (Q1, D1)) := Lib.hid (by
        have e2 := drop_ru hR0
        rw [HXX.out] at e2
        have e3 : R = ⟨x0, x1, x2, x3⟩ :: R.drop 1 := by simpa using e2
        rw [hd00, ← HDEC.out]
        conv => rhs; rw [e3]
        rw [dec_head (by rw [← e3]; intro u hu; have := HSH.out u hu; omega), ← e3, List.drop_zero])
      clear hd00
      go_region
      go_wp2_with fail
      go_loopw [11, 37] (fun due i wr => ∃ (k : Nat) (b : Ru) (dd : Int), k ≤ R.length ∧ i = .int .i64 k ∧ due = .int .i64 dd ∧ Hid (decF r (R.drop k) b dd = (Q1, D1)) ∧ Hid (UBox wr w2.heap.size b) ∧ Below w2.heap.size w2 wr) (fun _ i _ => R.length - (intOf i).toNat)
      case atStart => exact ⟨0, ⟨x0, x1, x2, x3⟩, d0, Nat.zero_le _, rfl, rfl, HF0, Lib.hid ((UBox.new w2 ⟨x0, x1, x2, x3⟩ _).drew), (below_al (Below.refl _ _) _).drew⟩
      case round =>
        clear HF0 q0 q1 q2 q3 p0
        obtain ⟨k, b, dd, hk, rfl, rfl, HF, HB, hb⟩ := hrel
        have bw := b2.trans (hb.mono b2.size)
        have HX := Lib.hid (HX2.out.kept hb)
        have hgl := HB.out.lt
        by_cases hlt : k < R.length
        · have hlE : k < E.length := by have := HPL.out; omega
          obtain ⟨q0, q1, q2, q3, hok⟩ := ER.out k hlt
          obtain ⟨⟨z0, z1, z2, z3⟩, hx⟩ : ∃ s, R.getD k ruD = s := ⟨_, rfl⟩
          rw [hx] at q0 q1 q2 q3
          have p0 := EE.out k hlE
          obtain ⟨e, he⟩ : ∃ x, E[k] = x := ⟨_, rfl⟩
          rw [he] at p0
          simp only [vI] at q0 q1 q2 q3 p0
          have hee : e = endR r ⟨z0, z1, z2, z3⟩ := by
            have e1 : E[k]? = some e := by rw [List.getElem?_eq_getElem hlE, he]
            rw [HEM.out, List.getElem?_map, List.getElem?_eq_getElem hlt, ← getRu_lt hlt, hx] at e1
            simpa using e1.symm
          have hns : ¬ endR r ⟨z0, z1, z2, z3⟩ < 0 := by rw [← hx, getRu_lt hlt]; have := HSH.out _ (List.getElem_mem hlt); omega
          have hdrop := drop_ru hlt
          rw [hx] at hdrop
          have hcons : (if dd < e ∨ (e = dd ∧ z3 < b.act) then decF r (R.drop (k + 1)) ⟨z0, z1, z2, z3⟩ e else decF r (R.drop (k + 1)) b dd) = (Q1, D1) := by
            rw [hee, ← decF_cons hns, ← hdrop]; exact HF.out
          have HCO := Lib.hid hcons
          have f0 := cell_kept q0 hb
          have f1 := cell_kept q1 hb
          have f2 := cell_kept q2 hb
          have f3 := cell_kept q3 hb
          have e0 := cell_kept p0 hb
          have g0 : (0 : Int) ≤ (k : Int) := by omega
          have g1 : (k : Int) < (R.length : Int) := by omega
          have g2 : (k : Int) < (E.length : Int) := by omega
          obtain ⟨b0, b1', b2', b3⟩ := b
          clear q0 q1 q2 q3 p0 hok hx he hee hns hdrop hcons HF
          go_wp2_with fail
          generalize hWE : wr.alloc (.cells #[.int .i64 z0, .int .i64 z1, .int .i64 z2, .int .i64 z3] 36 (0, 0)) = wE
          have bE : Below wr.heap.size wr wE := by rw [← hWE]; exact below_al (Below.refl _ _) _
          have HU : Hid (UBox wE wr.heap.size ⟨z0, z1, z2, z3⟩) := Lib.hid (by rw [← hWE]; exact UBox.new wr ⟨z0, z1, z2, z3⟩ _)
          have e0' := cell_kept e0 bE
          have HB' := Lib.hid (HB.out.kept bE)
          have bg := hb.trans (bE.mono hb.size)
          have hne : wr.heap.size ≠ w2.heap.size := by omega
          clear hWE e0 f0 f1 f2 f3 HX HB
          obtain ⟨c0, c1, c2', c3, y0, y1, y2, y3⟩ := HB'.out
          obtain ⟨u0, u1, u2, u3, t0, t1, t2, t3⟩ := HU.out
          simp only at c0 c1 c2' c3 u0 u1 u2 u3
          clear t0 t1 t2 t3
          by_cases h1 : dd < e
          · have HZ := Lib.hid HCO.out
            rw [if_pos (.inl h1)] at HZ
            refine wp_scope_forward 0 _ rfl ?_
            go_wp2_with fail
            apply wp_goto
            refine And.intro (a := 0 = 0) rfl ?_
            show Code.wp _ _ _ _ _
            go_wp2_with fail
            go_region
            rw [Exit.noGoto_normal]
            go_wp2_with fail
            go_roundw
            case rel => exact ⟨k + 1, ⟨z0, z1, z2, z3⟩, e, by omega, by go_num, rfl, HZ, Lib.hid ((HB'.out.put ⟨z0, z1, z2, z3⟩).drew), (below_putU bg (Nat.le_refl _) ⟨z0, z1, z2, z3⟩).drew⟩
            case measure => simp [intOf]; omega
          · by_cases h2 : e < dd
            · have h2d : decide (e < dd) = true := decide_eq_true h2
              have HZ := Lib.hid HCO.out
              rw [if_neg (by rintro (q | ⟨q, _⟩) <;> omega)] at HZ
              go_step3
              go_wp2_with fail
              try rw [Exit.noGoto_exit]
              go_wp2_with fail
              go_roundw
              case rel => exact ⟨k + 1, ⟨b0, b1', b2', b3⟩, dd, by omega, by go_num, rfl, HZ, HB', bg⟩
              case measure => simp [intOf]; omega
            · have h2d : decide (e < dd) = false := decide_eq_false h2
              by_cases h3 : z3 < b3
              · have h3d : decide (b3 ≤ z3) = false := decide_eq_false (by omega)
                have HZ := Lib.hid HCO.out
                rw [if_pos (.inr ⟨by omega, h3⟩)] at HZ
                go_step3
                go_wp2_with fail
                go_step3
                go_wp2_with fail
                go_region
                rw [Exit.noGoto_normal]
                go_wp2_with fail
                go_roundw
                case rel => exact ⟨k + 1, ⟨z0, z1, z2, z3⟩, e, by omega, by go_num, rfl, HZ, Lib.hid ((HB'.out.put ⟨z0, z1, z2, z3⟩).drew), (below_putU bg (Nat.le_refl _) ⟨z0, z1, z2, z3⟩).drew⟩
                case measure => simp [intOf]; omega
              · have h3d : decide (b3 ≤ z3) = true := decide_eq_true (by omega)
                have HZ := Lib.hid HCO.out
                rw [if_neg (by rintro (q | ⟨_, q⟩); · omega
                               · exact h3 q)] at HZ
                go_step3
                go_wp2_with fail
                try rw [Exit.noGoto_exit]
                go_wp2_with fail
                go_roundw
                case rel => exact ⟨k + 1, ⟨b0, b1', b2', b3⟩, dd, by omega, by go_num, rfl, HZ, HB', bg⟩
                case measure => simp [intOf]; omega
        · obtain rfl : k = R.length := by omega
          have hfin := HF.out
          rw [List.drop_length] at hfin
          obtain ⟨rfl, rfl⟩ := Prod.mk.inj (show (b, dd) = (Q1, D1) from hfin)
          obtain ⟨b0, b1', b2', b3⟩ := b
          obtain ⟨p0, p1, p2, p3, y0, y1, y2, y3⟩ := HB.out
          obtain ⟨z0, z1, z2, z3, u0, u1, u2, u3⟩ := HX.out
          simp only [ruD] at z0 z1 z2 z3 p0 p1 p2 p3 ⊢
          have hXl := HX2.out.lt
          have hne : w2.heap.size ≠ w.heap.size + 1 := by omega
          clear hfin
          go_wp2_with fail
          refine bodyPost_ret (v := .tuple #[.agg #[.int .i64 b0, .int .i64 b1', .int .i64 b2', .int .i64 b3], .int .i64 dd, .bool true]) (by simp [results, Try.results72, go_sem, z0, z1, z2, z3]) rfl ⟨rfl, ?_⟩
          exact below_putU bw (by omega) ⟨b0, b1', b2', b3⟩
end Go.Proofs.Ytdbomnhakikmfaa

namespace Go.Proofs.Ytdbomnhakikmfaa
set_option linter.unusedVariables false
open Go.RowKit

theorem Try.info_int : (Try.prog.info? 3).map (fun i => (i.zero, i.size, i.bytes)) = some (some (.int .i64 0), 1, 8) := by kernel_rfl


end Go.Proofs.Ytdbomnhakikmfaa

namespace Go.Proofs.Ytdbomnhakikmfaa
set_option linter.unusedVariables false
open Go.RowKit Go.Sort

theorem cell1_new (w : World) (v : Value) (t : TypeId) {k : Nat} (hk : k = w.heap.size) : ∀ j u, [v][j]? = some u → (w.alloc (.cells #[v] t (0, 0))).cell? ((⟨k, 0, none⟩ : Addr).add j) = some u := by
  subst hk
  intro j u hj
  rw [Addr.add_lit]
  match j, hj with
  | 0, h => cases h; exact cell_new w _ _ 0 rfl
theorem serF_iff {t : List Ru} {x : Int} : x ∈ serF t ↔ ∃ r ∈ t, r.series = x := by
  refine ⟨serF_mem, ?_⟩
  have key : ∀ (t : List Ru) (o : List Int), (x ∈ o ∨ ∃ r ∈ t, r.series = x) → x ∈ (t.foldl (fun o r => if r.series ∈ o then o else o ++ [r.series]) o) := by
    intro t
    induction t with
    | nil => intro o h; simpa using h
    | cons r l ih =>
      intro o h
      rw [List.foldl_cons]
      refine ih _ ?_
      rcases h with h | ⟨q, hq, e⟩
      · left; split
        · exact h
        · exact List.mem_append_left _ h
      · rcases List.mem_cons.1 hq with h1 | h1
        · subst h1; left; split
          · rename_i hm; rw [← e]; exact hm
          · rw [← e]; simp
        · exact .inr ⟨q, h1, e⟩
  intro h
  exact key t [] (.inr h)
theorem ser_le {t : List Ru} (h : isSch t = true) {i j : Nat} (hij : i ≤ j) (hj : j < t.length) : (t.getD i ruD).series ≤ (t.getD j ruD).series := by
  rcases Nat.lt_or_eq_of_le hij with h' | h'
  · have := sch_bef h h' hj
    rw [bef_iff] at this
    omega
  · subst h'; exact Int.le_refl _
theorem ser_compact {t : List Ru} (h : isSch t = true) : Lib.compact (t.map (·.series)) = serF t := by
  have hk : ∀ k, k ≤ t.length → Lib.compactUpTo (t.map (·.series)).toArray k = serF (t.take k) := by
    intro k
    induction k with
    | zero => intro _; simp [Lib.compactUpTo, serF]
    | succ k ih =>
      intro hk
      have hlt : k < t.length := by omega
      have g : ∀ j, j < t.length → (t.map (·.series)).toArray[j]! = (t.getD j ruD).series := fun j hj => by
        rw [getElem!_pos _ j (by simpa using hj), getRu_lt hj]; simp
      rw [Lib.compactUpTo_succ, ih (by omega), serF_succ hlt, g k hlt]
      by_cases hm : (t.getD k ruD).series ∈ serF (t.take k)
      · rw [if_pos hm]
        obtain ⟨r, hr, e⟩ := serF_iff.1 hm
        rw [List.mem_take_iff_getElem] at hr
        obtain ⟨i, hi, rfl⟩ := hr
        have h1 := ser_le h (i := i) (j := k - 1) (by omega) (by omega)
        have h2 := ser_le h (i := k - 1) (j := k) (by omega) hlt
        rw [getRu_lt (show i < t.length by omega)] at h1
        have hkn : Lib.keeps (t.map (·.series)).toArray k = false := Lib.keeps_neg (by omega) (by rw [g k hlt, g (k - 1) (by omega)]; omega)
        rw [hkn]; simp
      · rw [if_neg hm]
        have hkn : Lib.keeps (t.map (·.series)).toArray k = true := by
          rcases Nat.eq_zero_or_pos k with h0 | h0
          · subst h0; exact Lib.keeps_lt_one _ 0 (by omega)
          · refine Lib.keeps_pos ?_
            rw [g k hlt, g (k - 1) (by omega)]
            intro e
            refine hm (serF_iff.2 ⟨t.getD (k - 1) ruD, ?_, e.symm⟩)
            rw [getRu_lt (by omega), List.mem_take_iff_getElem]
            exact ⟨k - 1, by omega, rfl⟩
        rw [hkn]; simp
  have := hk t.length (Nat.le_refl _)
  rw [List.take_length] at this
  unfold Lib.compact
  rw [← this]; simp
theorem sinRes_no {t : List Ru} {xs : List Int} {b : Bool} (h : sinRes t = (xs, b)) (hn : isSch t = false) : xs = [] ∧ b = false := by
  unfold sinRes at h
  rw [if_neg (by rw [hn]; simp)] at h
  obtain ⟨h1, h2⟩ := Prod.mk.inj h
  exact ⟨h1.symm, h2.symm⟩
theorem sinRes_yes {t : List Ru} {xs : List Int} {b : Bool} (h : sinRes t = (xs, b)) (hn : isSch t = true) : xs = serF t ∧ b = true := by
  unfold sinRes at h
  rw [if_pos hn] at h
  obtain ⟨h1, h2⟩ := Prod.mk.inj h
  exact ⟨h1.symm, h2.symm⟩
theorem IntsO.of_row {lo n : Nat} {w : World} {v : Value} {xs : List Int} (h : w.ownsRow lo 3 1 v n (xs.map vI)) (hn : n = xs.length) : IntsO lo w.heap.size w v xs := ⟨by rw [← hn]; exact h, fun g hg => (h.lt g hg).2⟩


end Go.Proofs.Ytdbomnhakikmfaa

namespace Go.Proofs.Ytdbomnhakikmfaa
set_option linter.unusedVariables false
open Go.RowKit Go.Sort

theorem implEndsOf_any (v v1 : Value) (r : Rec) (t : List Ru) (w : World) (h : RecV w v r) (h1 : RowR 4 rRu w v1 t) (hn : t.length ≤ 1048576) (xs : List Int) (b : Bool) (hres : endsRes r t = (xs, b)) :
    Calls Try.prog 42 #[v, v1] w fun e w' => ∃ v', e = .returned (.tuple #[v', .bool b]) ∧ IntsO w.heap.size w'.heap.size w' v' xs ∧ Below w.heap.size w w' := by
  obtain ⟨s, rfl, h0, hok⟩ := h
  have HV := Lib.hid (show ∀ W, Below w.heap.size w W → RecV W (.agg #[.int .i64 r.id, .int .i64 r.series, .int .i64 r.made, s]) r from fun W hb => ⟨s, rfl, h0.below rEv_stable hb, hok⟩)
  have H1 := Lib.hid h1
  have b0 := below_al (Below.refl w.heap.size w) (RBOX r s 27)
  have hxs : perEnds r t = xs ∧ askB r t = b := by
    rcases ha : askB r t with _ | _
    · obtain ⟨rfl, rfl⟩ := endsRes_no hres ha
      exact ⟨by unfold perEnds; rw [if_neg (by rw [ha]; simp)], rfl⟩
    · obtain ⟨rfl, rfl⟩ := endsRes_yes hres ha
      exact ⟨by unfold perEnds; rw [if_pos ha], rfl⟩
  have HXS := Lib.hid hxs
  clear h0 hok h1 hres hxs
  go_enter Try.func42, Try.ntmps42
  go_wp2_with (first | (go_at_call 74; refine (periodsOf_any _ _ r t _ (HV.out _ b0) (H1.out.below rRu_stable b0) hn).mono ?_; rintro e w1 ⟨u1, u2, rfl, ho1, ho2, b1⟩; rw [HXS.out.1] at ho2; rw [HXS.out.2]; have HO2 := Lib.hid ho2; replace b1 := below_chain b0 b1; clear ho1 ho2))
  go_ret2
  exact ⟨_, rfl, HO2.out.wide (by simp) (Nat.le_refl _), b1⟩

theorem implDueDay_any (v v1 : Value) (r : Rec) (t : List Ru) (w : World) (h : RecV w v r) (h1 : RowR 4 rRu w v1 t) (hn : t.length ≤ 1048576) (d : Int) (b : Bool) (hres : dueRes r t = (d, b)) :
    Calls Try.prog 51 #[v, v1] w fun e w' => e = .returned (.tuple #[.int .i64 d, .bool b]) ∧ Below w.heap.size w w' := by
  obtain ⟨s, rfl, h0, hok⟩ := h
  have HV := Lib.hid (show ∀ W, Below w.heap.size w W → RecV W (.agg #[.int .i64 r.id, .int .i64 r.series, .int .i64 r.made, s]) r from fun W hb => ⟨s, rfl, h0.below rEv_stable hb, hok⟩)
  have H1 := Lib.hid h1
  have b0 := below_al (Below.refl w.heap.size w) (RBOX r s 27)
  obtain ⟨q, d', b', hs⟩ : ∃ q d' b', setF r t = (q, d', b') := ⟨_, _, _, rfl⟩
  unfold dueRes at hres
  rw [hs] at hres
  obtain ⟨rfl, rfl⟩ := Prod.mk.inj hres
  have HS := Lib.hid hs
  clear h0 hok h1 hres hs
  go_enter Try.func51, Try.ntmps51
  go_wp2_with (first | (go_at_call 72; refine (settle_any _ _ r t _ (HV.out _ b0) (H1.out.below rRu_stable b0) hn q d' b' HS.out).mono ?_; rintro e w1 ⟨rfl, b1⟩; replace b1 := below_chain b0 b1))
  go_ret2
  exact ⟨rfl, below_al b1 _⟩

theorem implDecidingRule_any (v v1 : Value) (r : Rec) (t : List Ru) (w : World) (h : RecV w v r) (h1 : RowR 4 rRu w v1 t) (hn : t.length ≤ 1048576) (q : Ru) (b : Bool) (hres : decRes r t = (q, b)) :
    Calls Try.prog 40 #[v, v1] w fun e w' => e = .returned (.tuple #[.agg #[.int .i64 q.series, .int .i64 q.event, .int .i64 q.days, .int .i64 q.act], .bool b]) ∧ Below w.heap.size w w' := by
  obtain ⟨s, rfl, h0, hok⟩ := h
  have HV := Lib.hid (show ∀ W, Below w.heap.size w W → RecV W (.agg #[.int .i64 r.id, .int .i64 r.series, .int .i64 r.made, s]) r from fun W hb => ⟨s, rfl, h0.below rEv_stable hb, hok⟩)
  have H1 := Lib.hid h1
  have b0 := below_al (Below.refl w.heap.size w) (RBOX r s 27)
  obtain ⟨q', d', b', hs⟩ : ∃ q d' b', setF r t = (q, d', b') := ⟨_, _, _, rfl⟩
  unfold decRes at hres
  rw [hs] at hres
  obtain ⟨rfl, rfl⟩ := Prod.mk.inj hres
  have HS := Lib.hid hs
  replace b0 := below_al b0 (.cells #[.int .i64 0, .int .i64 0, .int .i64 0, .int .i64 0] 36 (0, 0))
  have HX0 : Hid (UBox ((w.alloc (RBOX r s 27)).alloc (.cells #[.int .i64 0, .int .i64 0, .int .i64 0, .int .i64 0] 36 (0, 0))) (w.heap.size + 1) ruD) := Lib.hid (by rw [← (show (w.alloc (RBOX r s 27)).heap.size = w.heap.size + 1 by simp)]; exact UBox.new (w.alloc (RBOX r s 27)) ruD 36)
  clear h0 hok h1 hres hs
  obtain ⟨x0, x1, x2, x3⟩ := q'
  go_enter Try.func40, Try.ntmps40
  go_wp2_with (first | (go_at_call 72; refine (settle_any _ _ r t _ (HV.out _ b0) (H1.out.below rRu_stable b0) hn _ d' b' HS.out).mono ?_; rintro e w1 ⟨rfl, b1⟩; have HX1 := Lib.hid ((HX0.out.kept b1).al (.cells #[.int .i64 x0, .int .i64 x1, .int .i64 x2, .int .i64 x3] 36 (0, 0))); obtain ⟨z0, z1, z2, z3, y0, y1, y2, y3⟩ := HX1.out; simp only [ruD] at z0 z1 z2 z3; replace b1 := below_chain b0 b1; simp only))
  refine bodyPost_ret (v := .tuple #[.agg #[.int .i64 x0, .int .i64 x1, .int .i64 x2, .int .i64 x3], .bool b']) (by simp [results, Try.results40 , go_sem, z0, z1, z2, z3]) rfl ⟨rfl, ?_⟩
  exact below_putU (below_al b1 _) (by omega) ⟨x0, x1, x2, x3⟩



theorem perEnds_map (r : Rec) (t : List Ru) : perEnds r t = (perRules r t).map (endR r) := by
  unfold perEnds perRules
  split
  · rfl
  · rfl
theorem per_sign {r : Rec} {t : List Ru} : ∀ u ∈ perRules r t, (endR r u = -1 ↔ endR r u < 0) := by
  intro u hu
  rcases ha : askB r t with _ | _
  · unfold perRules at hu; rw [if_neg (by rw [ha]; simp)] at hu; cases hu
  · have hq := ask_iff.1 ha
    unfold perRules at hu
    rw [if_pos ha] at hu
    exact endR_eq hq.1 (forRu_ok hq.2 _ u hu)

theorem hit_set {r : Rec} {t : List Ru} {d a : Int} {q : Ru} {n : Int} {b : Bool} (ha : askB r t = true) (h : setF r t = (q, n, b)) : hitB t d a r = (b && (decide (n ≤ d) && decide (q.act = a))) := by
  unfold hitB
  rcases Int.lt_or_le (dueF r t) 0 with h1 | h1
  · rw [setF_no (.inr h1)] at h
    cases h
    simp; omega
  · rw [setF_yes ha h1] at h
    cases h
    rw [Bool.eq_iff_iff]
    simp [h1]
    constructor
    · rintro ⟨x, y⟩; exact ⟨y, x⟩
    · rintro ⟨x, y⟩; exact ⟨y, x⟩

theorem none_iff {t : List Ru} {r : Rec} : noneB t r = decide (¬ r.series ∈ serF t) := by
  unfold noneB
  apply decide_eq_decide.2
  rw [serF_iff, List.length_eq_zero_iff]
  unfold forRu
  rw [List.filter_eq_nil_iff]
  constructor
  · rintro h ⟨u, hu, e⟩; exact h u hu (by simp [e])
  · intro h u hu e; exact h ⟨u, hu, by simpa using e⟩

end Go.Proofs.Ytdbomnhakikmfaa

namespace Go.Proofs.Ytdbomnhakikmfaa
set_option linter.unusedVariables false
open Go.RowKit Go.Sort

set_option maxHeartbeats 1000000 in
theorem maxI_any (v : Value) (xs : List Int) (M : Int) (w : World) (h : RowOf vI w v xs) (h1 : M ∈ xs) (h2 : ∀ x ∈ xs, x ≤ M) :
    Calls Try.prog 44 #[v] w fun e w' => e = .returned (.int .i64 M) ∧ Below w.heap.size w w' := by
  have hcap := h.cap
  obtain ⟨a1, c1, rfl, hl1, hm1, r1⟩ := h
  unfold maxLen at hm1
  have hpos : 0 < xs.length := List.length_pos_of_mem h1
  obtain ⟨b1, o1, hb1, rfl, e1⟩ := r1.resolve_left (fun e => by rw [e] at hpos; simp at hpos)
  have f0 := e1 0 hpos
  simp only [vI, Nat.add_zero] at f0
  obtain ⟨x0, hx0⟩ : ∃ x, xs[0] = x := ⟨_, rfl⟩
  rw [hx0] at f0
  have E1 := Lib.hid e1
  have H1 := Lib.hid h1
  have H2 := Lib.hid h2
  have HX0 := Lib.hid hx0
  have hp1 : ¬ (xs.length : Int) < 1 := by omega
  have hp2 : (0 : Int) < (xs.length : Int) := by omega
  clear e1 h1 h2 hx0
  go_enter Try.func44, Try.ntmps44
  go_wp2_with fail
  go_loopw [3, 4] (fun m i wr => ∃ (k : Nat) (y : Int), 1 ≤ k ∧ k ≤ xs.length ∧ i = .int .i64 k ∧ m = .int .i64 y ∧ Hid (y ∈ xs ∧ ∀ j (h : j < xs.length), j < k → xs[j] ≤ y) ∧ Below w.heap.size w wr) (fun _ i _ => xs.length - (intOf i).toNat)
  case atStart => exact ⟨1, x0, Nat.le_refl _, hpos, rfl, rfl, Lib.hid ⟨by rw [← HX0.out]; exact List.getElem_mem _, fun j h hj => by obtain rfl : j = 0 := (by omega); rw [HX0.out]; exact Int.le_refl _⟩, Below.refl _ _⟩
  case round =>
    obtain ⟨k, y, hk1, hk, rfl, rfl, HY, hb⟩ := hrel
    by_cases hlt : k < xs.length
    · obtain ⟨x, hx⟩ : ∃ x, xs[k] = x := ⟨_, rfl⟩
      have f1 := (hb.cell (p := ⟨b1, o1 + k, none⟩) hb1).trans (E1.out k hlt)
      rw [hx] at f1
      simp only [vI] at f1
      have HX := Lib.hid hx
      have g0 : (0 : Int) ≤ (k : Int) := by omega
      have g1 : (k : Int) < (xs.length : Int) := by omega
      have HY2 : Hid (max y x ∈ xs ∧ ∀ j (h : j < xs.length), j < k + 1 → xs[j] ≤ max y x) := Lib.hid ⟨by
        rcases Int.le_total y x with h | h
        · rw [Int.max_eq_right h, ← HX.out]; exact List.getElem_mem _
        · rw [Int.max_eq_left h]; exact HY.out.1, fun j h hj => by
        rcases Nat.lt_or_ge j k with h' | h'
        · have := HY.out.2 j h h'; omega
        · obtain rfl : j = k := by omega
          rw [HX.out]; omega⟩
      clear hx
      go_wp2_with fail
      go_roundw
      case rel => exact ⟨k + 1, max y x, by omega, by omega, by go_num, by first | rfl | (congr 1; omega), HY2, hb⟩
      case measure => simp [intOf]; omega
    · go_wp2_with fail
      go_ret
      refine ⟨ret_int ?_, hb⟩
      have q1 := H2.out y HY.out.1
      obtain ⟨i, hi, he⟩ := List.getElem_of_mem H1.out
      have q2 := HY.out.2 i hi (by omega)
      omega

set_option maxRecDepth 20000 in
set_option maxHeartbeats 4000000 in
theorem implWhyOn_any (v v1 : Value) (t : List Ve) (r : Rec) (d : Int) (w : World) (h : RowR 2 rVe w v t) (h1 : RecV w v1 r) (ss : ByteArray) (b : Bool) (hres : whyRes t r d = (ss, b)) :
    Calls Try.prog 13 #[v, v1, .int .i64 d] w fun e w' => e = .returned (.tuple #[.string ss, .bool b]) ∧ Below w.heap.size w w' := by
  obtain ⟨s, rfl, h0, hok⟩ := h1
  have HV := Lib.hid (show ∀ W, Below w.heap.size w W → RecV W (.agg #[.int .i64 r.id, .int .i64 r.series, .int .i64 r.made, s]) r from fun W hb => ⟨s, rfl, h0.below rEv_stable hb, hok⟩)
  have H := Lib.hid (show ∀ W, Below w.heap.size w W → RowR 2 rVe W v t from fun W hb => h.below rVe_stable hb)
  obtain ⟨a1, c1, rfl, hl1, hm1, r1⟩ := h.ves
  have R1 := Lib.hid r1
  unfold maxLen at hm1
  have b0 := below_al (Below.refl w.heap.size w) (RBOX r s 27)
  have HC0 := Lib.hid (Box4.new w r s 27)
  obtain ⟨bA, hA⟩ : ∃ b, areVe t = b := ⟨_, rfl⟩
  obtain ⟨bR, hR⟩ : ∃ b, isRec r = b := ⟨_, rfl⟩
  obtain ⟨bD, hD⟩ : ∃ b, decide ((0 : Int) ≤ d ∧ d ≤ 20000) = b := ⟨_, rfl⟩
  have hall : askV t r d = (bA && (bR && bD)) := by unfold askV; rw [hA, hR, hD]
  have HA := Lib.hid hA
  have HR := Lib.hid hR
  have HD := Lib.hid hD
  unfold whyRes at hres
  cases bA
  · rw [if_neg (by rw [hall]; simp)] at hres
    cases hres
    clear h0 hok h r1 hA hR hD hall
    go_enter Try.func13, Try.ntmps13
    go_wp2_with (first | (go_at_call 9; refine (implAreVersions_any _ t _ (H.out _ b0)).mono ?_; rw [HA.out]; rintro e w1 ⟨rfl, b1⟩; replace b1 := below_chain b0 b1))
    go_ret2
    exact ⟨rfl, b1⟩
  · cases bR
    · rw [if_neg (by rw [hall]; simp)] at hres
      cases hres
      clear h0 hok h r1 hA hR hD hall
      go_enter Try.func13, Try.ntmps13
      go_wp2_with (first | (go_at_call 9; refine (implAreVersions_any _ t _ (H.out _ b0)).mono ?_; rw [HA.out]; rintro e w1 ⟨rfl, b1⟩; have HC1 := Lib.hid (HC0.out.kept b1); obtain ⟨c0, c1, c2, c3⟩ := HC1.out; replace b1 := below_chain b0 b1) | (go_at_call 41; refine (implIsRecord_any _ r _ (HV.out _ b1)).mono ?_; rw [HR.out]; rintro e w2 ⟨rfl, b2⟩; replace b2 := below_chain b1 b2))
      go_ret2
      exact ⟨rfl, b2⟩
    · cases bD
      · rw [if_neg (by rw [hall]; simp)] at hres
        cases hres
        clear h0 hok h r1 hA hR hD hall
        go_enter Try.func13, Try.ntmps13
        go_wp2_with (first | (go_at_call 9; refine (implAreVersions_any _ t _ (H.out _ b0)).mono ?_; rw [HA.out]; rintro e w1 ⟨rfl, b1⟩; have HC1 := Lib.hid (HC0.out.kept b1); obtain ⟨c0, c1, c2, c3⟩ := HC1.out; replace b1 := below_chain b0 b1) | (go_at_call 41; refine (implIsRecord_any _ r _ (HV.out _ b1)).mono ?_; rw [HR.out]; rintro e w2 ⟨rfl, b2⟩; replace b2 := below_chain b1 b2) | (go_at_call 37; refine (isDay_any _ _).mono ?_; rw [HD.out]; rintro e w3 ⟨rfl, h3⟩; subst w3))
        go_ret2
        exact ⟨rfl, b2⟩
      · have ha : askV t r d = true := by rw [hall]; rfl
        rw [if_pos ha] at hres
        have HASK := Lib.hid ha
        obtain ⟨N, hN⟩ : ∃ N, onV t d = N := ⟨_, rfl⟩
        by_cases hneg : N < 0
        · have hw : whyV t r d = wNone := by unfold whyV; rw [if_pos (by rw [hN]; exact hneg)]
          rw [hw] at hres
          cases hres
          have hon : onRes t d = (0, false) := by unfold onRes; rw [if_neg (fun e => by have := e.2; rw [hN] at this; omega)]
          have HON := Lib.hid hon
          clear h0 hok h r1 hA hR hD hall ha hN hw hon
          go_enter Try.func13, Try.ntmps13
          go_wp2_with (first | (go_at_call 9; refine (implAreVersions_any _ t _ (H.out _ b0)).mono ?_; rw [HA.out]; rintro e w1 ⟨rfl, b1⟩; have HC1 := Lib.hid (HC0.out.kept b1); obtain ⟨c0, c1, c2, c3⟩ := HC1.out; replace b1 := below_chain b0 b1) | (go_at_call 41; refine (implIsRecord_any _ r _ (HV.out _ b1)).mono ?_; rw [HR.out]; rintro e w2 ⟨rfl, b2⟩; replace b2 := below_chain b1 b2) | (go_at_call 37; refine (isDay_any _ _).mono ?_; rw [HD.out]; rintro e w3 ⟨rfl, h3⟩; subst w3) | (go_at_call 26; refine (implVersionOn_any _ t d _ (H.out _ b2) 0 false HON.out).mono ?_; rintro e w4 ⟨rfl, b4⟩; replace b4 := below_chain b2 b4))
          go_ret2
          exact ⟨rfl, b4⟩
        · have hge : ¬ N < 0 := hneg
          obtain ⟨k, hk0, hk, _, _⟩ := onV_at (t := t) (d := d) (by rw [hN]; omega)
          have hNk : N = (k : Int) := by rw [← hN]; exact hk0
          subst hNk
          have hon : onRes t d = ((k : Int), true) := by unfold onRes; rw [if_pos ⟨⟨hA, of_decide_eq_true hD⟩, by rw [hN]; omega⟩, hN]
          have HON := Lib.hid hon
          have hsc := askV_sch ha hk
          obtain ⟨x, hx⟩ : ∃ x, (t.getD k veD).rules = x := ⟨_, rfl⟩
          obtain ⟨bL, oL, hbL, rfl, e1⟩ := r1.resolve_left (fun e => by rw [e] at hk; simp at hk)
          obtain ⟨sr, _, q1, hr, _⟩ := e1 k hk
          rw [hx] at hr hsc
          have HRW := Lib.hid (show ∀ W, Below w.heap.size w W → RowR 4 rRu W sr x from fun W hb => hr.below rRu_stable hb)
          obtain ⟨hr1, hs1⟩ := ask_iff.1 hsc
          have hxl := sch_len hs1
          obtain ⟨E, hE⟩ : ∃ E, endsF r x = E := ⟨_, rfl⟩
          have hends : endsRes r x = (E, true) := by unfold endsRes; rw [if_pos hsc, hE]
          have HEN := Lib.hid hends
          have hEl : E.length ≤ 8 := by rw [← hE]; unfold endsF; rw [List.length_map]; exact Nat.le_trans (forRu_len x r.series) hxl
          have hwhy : whyV t r d = whyR r x d := by unfold whyV; rw [if_neg (by rw [hN]; omega), hN, rulesAt_nat, hx]
          rw [hwhy] at hres
          have g0 : (0 : Int) ≤ (k : Int) := by omega
          have g1 : (k : Int) < (t.length : Int) := by omega
          have HWN := Lib.hid (show E.length = 0 → whyR r x d = wSeries from fun h => why_none (by rw [hE]; exact h))
          have HWE := Lib.hid (show ¬ E.length = 0 → (-1 : Int) ∈ E → whyR r x d = wEvent from fun h h' => why_event hr1 hs1 (by rw [hE]; exact h) (by rw [hE]; exact h'))
          have HWT := Lib.hid (show ¬ E.length = 0 → ¬ (-1 : Int) ∈ E → (dueF r x ∈ E ∧ ∀ y ∈ E, y ≤ dueF r x) ∧ whyR r x d = (if d < dueF r x then wEarly else wDue) from fun h h' => by
            obtain ⟨q1, q2⟩ := why_told (d := d) hr1 hs1 (by rw [hE]; exact h) (by rw [hE]; exact h')
            have q3 := due_max q1
            rw [hE] at q3
            exact ⟨⟨q3.2, q3.1⟩, q2⟩)
          have HRES := Lib.hid hres
          clear h0 hok h r1 hA hR hD hall ha hN hon hres hwhy hr hsc hx e1 hk0 hneg hends hE hr1 hs1 hge
          obtain ⟨M, hM⟩ : ∃ M, dueF r x = M := ⟨_, rfl⟩
          rw [hM] at HWT
          clear hM
          by_cases hE0 : E.length = 0
          · have hans := HRES.out
            rw [HWN.out hE0] at hans
            cases hans
            have hz1 : ((E.length : Int) == 0) = true := by simp [hE0]
            have hz2 : decide ((E.length : Int) = 0) = true := decide_eq_true (by omega)
            clear hE0
            go_enter Try.func13, Try.ntmps13
            go_wp2_with (first | (go_at_call 9; refine (implAreVersions_any _ t _ (H.out _ b0)).mono ?_; rw [HA.out]; rintro e w1 ⟨rfl, b1⟩; have HC1 := Lib.hid (HC0.out.kept b1); obtain ⟨c0, c1, c2, c3⟩ := HC1.out; replace b1 := below_chain b0 b1) | (go_at_call 41; refine (implIsRecord_any _ r _ (HV.out _ b1)).mono ?_; rw [HR.out]; rintro e w2 ⟨rfl, b2⟩; have HC2 := Lib.hid (HC1.out.kept b2); replace b2 := below_chain b1 b2) | (go_at_call 37; refine (isDay_any _ _).mono ?_; rw [HD.out]; rintro e w3 ⟨rfl, h3⟩; subst w3) | (go_at_call 26; refine (implVersionOn_any _ t d _ (H.out _ b2) _ true HON.out).mono ?_; rintro e w4 ⟨rfl, b4⟩; obtain ⟨c0, c1, c2, c3⟩ := HC2.out.kept b4; replace b4 := below_chain b2 b4; have f1 := cell_kept q1 b4))
            have hl0 : w.heap.size < w4.heap.size := World.block_lt_of_cell? _ _ c0
            have hlL : bL < w4.heap.size := World.block_lt_of_cell? _ _ f1
            go_region_held3 (fun w' => w'.cell? ⟨w.heap.size, 0, none⟩ = some (.int .i64 r.id) ∧ w'.cell? ⟨w.heap.size, 1, none⟩ = some (.int .i64 r.series) ∧ w'.cell? ⟨w.heap.size, 2, none⟩ = some (.int .i64 r.made) ∧ w'.cell? ⟨w.heap.size, 3, none⟩ = some (s) ∧ w'.cell? ⟨bL, oL + k * 2 + 1, none⟩ = some sr)
              (first | with_reducible exact ⟨c0, c1, c2, c3, f1⟩ | with_reducible exact ⟨cell_drew c0, cell_drew c1, cell_drew c2, cell_drew c3, cell_drew f1⟩ | with_reducible exact ⟨below_al_cell c0 _, below_al_cell c1 _, below_al_cell c2 _, below_al_cell c3 _, below_al_cell f1 _⟩ | with_reducible exact ⟨cell_drew (below_al_cell c0 _), cell_drew (below_al_cell c1 _), cell_drew (below_al_cell c2 _), cell_drew (below_al_cell c3 _), cell_drew (below_al_cell f1 _)⟩ | (refine ⟨?_, ?_, ?_, ?_, ?_⟩ <;> (repeat rw [World.cell?_setCell_far _ _ _ _ (by first | (simp; done) | (simp; omega))]) <;> first | assumption | go_keep))
              (first | (go_at_call 42; (with_reducible refine (implEndsOf_any _ _ r x _ (HV.out _ b4.drew) (HRW.out _ b4.drew) (by omega) _ true HEN.out).mono ?_); rintro e w6 ⟨v6, rfl, ho6, b6⟩; obtain ⟨a6, c6, hv, hl6, hm6, _⟩ := ho6.row; unfold maxLen at hm6; subst hv; have HO6 := Lib.hid ho6; replace c0 := cell_kept (cell_drew c0) b6; replace c1 := cell_kept (cell_drew c1) b6; replace c2 := cell_kept (cell_drew c2) b6; replace c3 := cell_kept (cell_drew c3) b6; replace f1 := cell_kept (cell_drew f1) b6; replace b6 := below_chain b4.drew b6; clear ho6))
            clear c0 c1 c2 c3 f1
            go_wp2_with (first | fail)
            go_ret2
            exact ⟨rfl, b6⟩
          · have hz1 : ((E.length : Int) == 0) = false := by simp [hE0]
            have hz2 : decide ((E.length : Int) = 0) = false := decide_eq_false (by omega)
            by_cases ho : (-1 : Int) ∈ E
            · have hans := HRES.out
              rw [HWE.out hE0 ho] at hans
              cases hans
              have HO := Lib.hid (decide_eq_true ho)
              clear hE0 ho
              go_enter Try.func13, Try.ntmps13
              go_wp2_with (first | (go_at_call 9; refine (implAreVersions_any _ t _ (H.out _ b0)).mono ?_; rw [HA.out]; rintro e w1 ⟨rfl, b1⟩; have HC1 := Lib.hid (HC0.out.kept b1); obtain ⟨c0, c1, c2, c3⟩ := HC1.out; replace b1 := below_chain b0 b1) | (go_at_call 41; refine (implIsRecord_any _ r _ (HV.out _ b1)).mono ?_; rw [HR.out]; rintro e w2 ⟨rfl, b2⟩; have HC2 := Lib.hid (HC1.out.kept b2); replace b2 := below_chain b1 b2) | (go_at_call 37; refine (isDay_any _ _).mono ?_; rw [HD.out]; rintro e w3 ⟨rfl, h3⟩; subst w3) | (go_at_call 26; refine (implVersionOn_any _ t d _ (H.out _ b2) _ true HON.out).mono ?_; rintro e w4 ⟨rfl, b4⟩; obtain ⟨c0, c1, c2, c3⟩ := HC2.out.kept b4; replace b4 := below_chain b2 b4; have f1 := cell_kept q1 b4))
              have hl0 : w.heap.size < w4.heap.size := World.block_lt_of_cell? _ _ c0
              have hlL : bL < w4.heap.size := World.block_lt_of_cell? _ _ f1
              go_region_held3 (fun w' => w'.cell? ⟨w.heap.size, 0, none⟩ = some (.int .i64 r.id) ∧ w'.cell? ⟨w.heap.size, 1, none⟩ = some (.int .i64 r.series) ∧ w'.cell? ⟨w.heap.size, 2, none⟩ = some (.int .i64 r.made) ∧ w'.cell? ⟨w.heap.size, 3, none⟩ = some (s) ∧ w'.cell? ⟨bL, oL + k * 2 + 1, none⟩ = some sr)
                (first | with_reducible exact ⟨c0, c1, c2, c3, f1⟩ | with_reducible exact ⟨cell_drew c0, cell_drew c1, cell_drew c2, cell_drew c3, cell_drew f1⟩ | with_reducible exact ⟨below_al_cell c0 _, below_al_cell c1 _, below_al_cell c2 _, below_al_cell c3 _, below_al_cell f1 _⟩ | with_reducible exact ⟨cell_drew (below_al_cell c0 _), cell_drew (below_al_cell c1 _), cell_drew (below_al_cell c2 _), cell_drew (below_al_cell c3 _), cell_drew (below_al_cell f1 _)⟩ | (refine ⟨?_, ?_, ?_, ?_, ?_⟩ <;> (repeat rw [World.cell?_setCell_far _ _ _ _ (by first | (simp; done) | (simp; omega))]) <;> first | assumption | go_keep))
                (first | (go_at_call 42; (with_reducible refine (implEndsOf_any _ _ r x _ (HV.out _ b4.drew) (HRW.out _ b4.drew) (by omega) _ true HEN.out).mono ?_); rintro e w6 ⟨v6, rfl, ho6, b6⟩; obtain ⟨a6, c6, hv, hl6, hm6, _⟩ := ho6.row; unfold maxLen at hm6; subst hv; have HO6 := Lib.hid ho6; replace c0 := cell_kept (cell_drew c0) b6; replace c1 := cell_kept (cell_drew c1) b6; replace c2 := cell_kept (cell_drew c2) b6; replace c3 := cell_kept (cell_drew c3) b6; replace f1 := cell_kept (cell_drew f1) b6; replace b6 := below_chain b4.drew b6; clear ho6))
              clear c0 c1 c2 c3 f1
              go_wp2_with (first | fail | (go_at_call 43; refine (contains_any _ E (-1) _ HO6.out.row).mono ?_; rw [HO.out]; rintro e w7 ⟨rfl, b7⟩; have HO7 := Lib.hid (HO6.out.below b7); replace b7 := below_chain b6 b7))
              go_ret2
              exact ⟨rfl, b7⟩
            · obtain ⟨hmm, hwy⟩ := HWT.out hE0 ho
              have HO := Lib.hid (decide_eq_false ho)
              have HMM := Lib.hid hmm
              have hans := HRES.out
              rw [hwy] at hans
              clear hE0 ho hmm hwy
              by_cases hdM : d < M
              · rw [if_pos hdM] at hans
                cases hans
                go_enter Try.func13, Try.ntmps13
                go_wp2_with (first | (go_at_call 9; refine (implAreVersions_any _ t _ (H.out _ b0)).mono ?_; rw [HA.out]; rintro e w1 ⟨rfl, b1⟩; have HC1 := Lib.hid (HC0.out.kept b1); obtain ⟨c0, c1, c2, c3⟩ := HC1.out; replace b1 := below_chain b0 b1) | (go_at_call 41; refine (implIsRecord_any _ r _ (HV.out _ b1)).mono ?_; rw [HR.out]; rintro e w2 ⟨rfl, b2⟩; have HC2 := Lib.hid (HC1.out.kept b2); replace b2 := below_chain b1 b2) | (go_at_call 37; refine (isDay_any _ _).mono ?_; rw [HD.out]; rintro e w3 ⟨rfl, h3⟩; subst w3) | (go_at_call 26; refine (implVersionOn_any _ t d _ (H.out _ b2) _ true HON.out).mono ?_; rintro e w4 ⟨rfl, b4⟩; obtain ⟨c0, c1, c2, c3⟩ := HC2.out.kept b4; replace b4 := below_chain b2 b4; have f1 := cell_kept q1 b4))
                have hl0 : w.heap.size < w4.heap.size := World.block_lt_of_cell? _ _ c0
                have hlL : bL < w4.heap.size := World.block_lt_of_cell? _ _ f1
                go_region_held3 (fun w' => w'.cell? ⟨w.heap.size, 0, none⟩ = some (.int .i64 r.id) ∧ w'.cell? ⟨w.heap.size, 1, none⟩ = some (.int .i64 r.series) ∧ w'.cell? ⟨w.heap.size, 2, none⟩ = some (.int .i64 r.made) ∧ w'.cell? ⟨w.heap.size, 3, none⟩ = some (s) ∧ w'.cell? ⟨bL, oL + k * 2 + 1, none⟩ = some sr)
                  (first | with_reducible exact ⟨c0, c1, c2, c3, f1⟩ | with_reducible exact ⟨cell_drew c0, cell_drew c1, cell_drew c2, cell_drew c3, cell_drew f1⟩ | with_reducible exact ⟨below_al_cell c0 _, below_al_cell c1 _, below_al_cell c2 _, below_al_cell c3 _, below_al_cell f1 _⟩ | with_reducible exact ⟨cell_drew (below_al_cell c0 _), cell_drew (below_al_cell c1 _), cell_drew (below_al_cell c2 _), cell_drew (below_al_cell c3 _), cell_drew (below_al_cell f1 _)⟩ | (refine ⟨?_, ?_, ?_, ?_, ?_⟩ <;> (repeat rw [World.cell?_setCell_far _ _ _ _ (by first | (simp; done) | (simp; omega))]) <;> first | assumption | go_keep))
                  (first | (go_at_call 42; (with_reducible refine (implEndsOf_any _ _ r x _ (HV.out _ b4.drew) (HRW.out _ b4.drew) (by omega) _ true HEN.out).mono ?_); rintro e w6 ⟨v6, rfl, ho6, b6⟩; obtain ⟨a6, c6, hv, hl6, hm6, _⟩ := ho6.row; unfold maxLen at hm6; subst hv; have HO6 := Lib.hid ho6; replace c0 := cell_kept (cell_drew c0) b6; replace c1 := cell_kept (cell_drew c1) b6; replace c2 := cell_kept (cell_drew c2) b6; replace c3 := cell_kept (cell_drew c3) b6; replace f1 := cell_kept (cell_drew f1) b6; replace b6 := below_chain b4.drew b6; clear ho6))
                clear c0 c1 c2 c3 f1
                go_wp2_with (first | fail | (go_at_call 43; refine (contains_any _ E (-1) _ HO6.out.row).mono ?_; rw [HO.out]; rintro e w7 ⟨rfl, b7⟩; have HO7 := Lib.hid (HO6.out.below b7); replace b7 := below_chain b6 b7) | (go_at_call 44; refine (maxI_any _ E M _ HO7.out.row HMM.out.1 HMM.out.2).mono ?_; rintro e w8 ⟨rfl, b8⟩; replace b8 := below_chain b7 b8))
                go_ret2
                exact ⟨rfl, b8⟩
              · rw [if_neg hdM] at hans
                cases hans
                go_enter Try.func13, Try.ntmps13
                go_wp2_with (first | (go_at_call 9; refine (implAreVersions_any _ t _ (H.out _ b0)).mono ?_; rw [HA.out]; rintro e w1 ⟨rfl, b1⟩; have HC1 := Lib.hid (HC0.out.kept b1); obtain ⟨c0, c1, c2, c3⟩ := HC1.out; replace b1 := below_chain b0 b1) | (go_at_call 41; refine (implIsRecord_any _ r _ (HV.out _ b1)).mono ?_; rw [HR.out]; rintro e w2 ⟨rfl, b2⟩; have HC2 := Lib.hid (HC1.out.kept b2); replace b2 := below_chain b1 b2) | (go_at_call 37; refine (isDay_any _ _).mono ?_; rw [HD.out]; rintro e w3 ⟨rfl, h3⟩; subst w3) | (go_at_call 26; refine (implVersionOn_any _ t d _ (H.out _ b2) _ true HON.out).mono ?_; rintro e w4 ⟨rfl, b4⟩; obtain ⟨c0, c1, c2, c3⟩ := HC2.out.kept b4; replace b4 := below_chain b2 b4; have f1 := cell_kept q1 b4))
                have hl0 : w.heap.size < w4.heap.size := World.block_lt_of_cell? _ _ c0
                have hlL : bL < w4.heap.size := World.block_lt_of_cell? _ _ f1
                go_region_held3 (fun w' => w'.cell? ⟨w.heap.size, 0, none⟩ = some (.int .i64 r.id) ∧ w'.cell? ⟨w.heap.size, 1, none⟩ = some (.int .i64 r.series) ∧ w'.cell? ⟨w.heap.size, 2, none⟩ = some (.int .i64 r.made) ∧ w'.cell? ⟨w.heap.size, 3, none⟩ = some (s) ∧ w'.cell? ⟨bL, oL + k * 2 + 1, none⟩ = some sr)
                  (first | with_reducible exact ⟨c0, c1, c2, c3, f1⟩ | with_reducible exact ⟨cell_drew c0, cell_drew c1, cell_drew c2, cell_drew c3, cell_drew f1⟩ | with_reducible exact ⟨below_al_cell c0 _, below_al_cell c1 _, below_al_cell c2 _, below_al_cell c3 _, below_al_cell f1 _⟩ | with_reducible exact ⟨cell_drew (below_al_cell c0 _), cell_drew (below_al_cell c1 _), cell_drew (below_al_cell c2 _), cell_drew (below_al_cell c3 _), cell_drew (below_al_cell f1 _)⟩ | (refine ⟨?_, ?_, ?_, ?_, ?_⟩ <;> (repeat rw [World.cell?_setCell_far _ _ _ _ (by first | (simp; done) | (simp; omega))]) <;> first | assumption | go_keep))
                  (first | (go_at_call 42; (with_reducible refine (implEndsOf_any _ _ r x _ (HV.out _ b4.drew) (HRW.out _ b4.drew) (by omega) _ true HEN.out).mono ?_); rintro e w6 ⟨v6, rfl, ho6, b6⟩; obtain ⟨a6, c6, hv, hl6, hm6, _⟩ := ho6.row; unfold maxLen at hm6; subst hv; have HO6 := Lib.hid ho6; replace c0 := cell_kept (cell_drew c0) b6; replace c1 := cell_kept (cell_drew c1) b6; replace c2 := cell_kept (cell_drew c2) b6; replace c3 := cell_kept (cell_drew c3) b6; replace f1 := cell_kept (cell_drew f1) b6; replace b6 := below_chain b4.drew b6; clear ho6))
                clear c0 c1 c2 c3 f1
                go_wp2_with (first | fail | (go_at_call 43; refine (contains_any _ E (-1) _ HO6.out.row).mono ?_; rw [HO.out]; rintro e w7 ⟨rfl, b7⟩; have HO7 := Lib.hid (HO6.out.below b7); replace b7 := below_chain b6 b7) | (go_at_call 44; refine (maxI_any _ E M _ HO7.out.row HMM.out.1 HMM.out.2).mono ?_; rintro e w8 ⟨rfl, b8⟩; replace b8 := below_chain b7 b8))
                go_ret2
                exact ⟨rfl, b8⟩

set_option maxRecDepth 20000 in
set_option maxHeartbeats 4000000 in
theorem implDueOn_any (v v1 : Value) (t : List Ve) (r : Rec) (d : Int) (w : World) (h : RowR 2 rVe w v t) (h1 : RecV w v1 r) (a b : Bool) (hres : doRes t r d = (a, b)) :
    Calls Try.prog 11 #[v, v1, .int .i64 d] w fun e w' => e = .returned (.tuple #[.bool a, .bool b]) ∧ Below w.heap.size w w' := by
  obtain ⟨s, rfl, h0, hok⟩ := h1
  have HV := Lib.hid (show ∀ W, Below w.heap.size w W → RecV W (.agg #[.int .i64 r.id, .int .i64 r.series, .int .i64 r.made, s]) r from fun W hb => ⟨s, rfl, h0.below rEv_stable hb, hok⟩)
  have H := Lib.hid (show ∀ W, Below w.heap.size w W → RowR 2 rVe W v t from fun W hb => h.below rVe_stable hb)
  obtain ⟨a1, c1, rfl, hl1, hm1, r1⟩ := h.ves
  have R1 := Lib.hid r1
  unfold maxLen at hm1
  have b0 := below_al (Below.refl w.heap.size w) (RBOX r s 27)
  have HC0 := Lib.hid (Box4.new w r s 27)
  obtain ⟨ss, bb, hw⟩ : ∃ ss bb, whyRes t r d = (ss, bb) := ⟨_, _, rfl⟩
  rw [do_why, hw] at hres
  simp only at hres
  cases hres
  have HW := Lib.hid hw
  have hcmp : (ss.toList == (⟨#[100, 117, 101]⟩ : ByteArray).toList) = decide (ss = wDue) := by
    by_cases e : ss = wDue
    · subst e; simp [wDue]
    · rw [decide_eq_false e]; exact beq_bytes_ne e
  obtain ⟨bq, hbq⟩ : ∃ b, decide (ss = wDue) = b := ⟨_, rfl⟩
  rw [hbq] at hcmp ⊢
  clear h0 hok h r1 hw hbq
  go_enter Try.func11, Try.ntmps11
  go_wp2_with (first | (go_at_call 13; refine (implWhyOn_any _ _ t r d _ (H.out _ b0) (HV.out _ b0) _ _ HW.out).mono ?_; rintro e w1 ⟨rfl, b1⟩; replace b1 := below_chain b0 b1))
  go_ret2
  exact ⟨by simp; simpa using hcmp, b1⟩
end Go.Proofs.Ytdbomnhakikmfaa

namespace Go.Proofs.Ytdbomnhakikmfaa
set_option linter.unusedVariables false
open Go.RowKit Go.Sort

set_option maxRecDepth 20000 in
set_option maxHeartbeats 4000000 in
theorem implDueDays_any (v v1 : Value) (t : List Ve) (r : Rec) (w : World) (h : RowR 2 rVe w v t) (h1 : RecV w v1 r) (xs : List Int) (b : Bool) (hres : ddRes t r = (xs, b)) :
    Calls Try.prog 19 #[v, v1] w fun e w' => ∃ v', e = .returned (.tuple #[v', .bool b]) ∧ IntsO w.heap.size w'.heap.size w' v' xs ∧ Below w.heap.size w w' := by
  obtain ⟨i0, hi, hz0, hz1, hz2⟩ := info_parts Try.info_intI
  obtain ⟨s, rfl, h0, hok⟩ := h1
  have HV := Lib.hid (show ∀ W, Below w.heap.size w W → RecV W (.agg #[.int .i64 r.id, .int .i64 r.series, .int .i64 r.made, s]) r from fun W hb => ⟨s, rfl, h0.below rEv_stable hb, hok⟩)
  have H := Lib.hid (show ∀ W, Below w.heap.size w W → RowR 2 rVe W v t from fun W hb => h.below rVe_stable hb)
  obtain ⟨a1, c1, rfl, hl1, hm1, r1⟩ := h.ves
  have R1 := Lib.hid r1
  unfold maxLen at hm1
  have b0 := below_al (Below.refl w.heap.size w) (RBOX r s 27)
  have HC0 := Lib.hid (Box4.new w r s 27)
  obtain ⟨bA, hA⟩ : ∃ b, areVe t = b := ⟨_, rfl⟩
  obtain ⟨bR, hR⟩ : ∃ b, isRec r = b := ⟨_, rfl⟩
  have HA := Lib.hid hA
  have HR := Lib.hid hR
  unfold ddRes at hres
  rw [hA, hR] at hres
  cases bA
  · rw [if_neg (by simp)] at hres
    cases hres
    clear h0 hok h r1 hA hR
    go_enter Try.func19, Try.ntmps19
    go_wp2_with (first | (go_at_call 9; refine (implAreVersions_any _ t _ (H.out _ b0)).mono ?_; rw [HA.out]; rintro e w1 ⟨rfl, b1⟩; replace b1 := below_chain b0 b1))
    go_ret2
    exact ⟨_, rfl, ints_nil _ _ _, b1⟩
  · cases bR
    · rw [if_neg (by simp)] at hres
      cases hres
      clear h0 hok h r1 hA hR
      go_enter Try.func19, Try.ntmps19
      go_wp2_with (first | (go_at_call 9; refine (implAreVersions_any _ t _ (H.out _ b0)).mono ?_; rw [HA.out]; rintro e w1 ⟨rfl, b1⟩; have HC1 := Lib.hid (HC0.out.kept b1); obtain ⟨c0, c1, c2, c3⟩ := HC1.out; replace b1 := below_chain b0 b1) | (go_at_call 41; refine (implIsRecord_any _ r _ (HV.out _ b1)).mono ?_; rw [HR.out]; rintro e w2 ⟨rfl, b2⟩; replace b2 := below_chain b1 b2))
      go_ret2
      exact ⟨_, rfl, ints_nil _ _ _, b2⟩
    · rw [if_pos ⟨rfl, rfl⟩] at hres
      cases hres
      have h5 := ve_len hA
      clear h0 hok h r1 hA hR
      go_enter Try.func19, Try.ntmps19
      go_wp2_with (first | (go_at_call 9; refine (implAreVersions_any _ t _ (H.out _ b0)).mono ?_; rw [HA.out]; rintro e w1 ⟨rfl, b1⟩; have HC1 := Lib.hid (HC0.out.kept b1); obtain ⟨c0, c1, c2, c3⟩ := HC1.out; replace b1 := below_chain b0 b1) | (go_at_call 41; refine (implIsRecord_any _ r _ (HV.out _ b1)).mono ?_; rw [HR.out]; rintro e w2 ⟨rfl, b2⟩; have HC2 := Lib.hid (HC1.out.kept b2); replace b2 := below_chain b1 b2))
      have s2 := b2.size
      go_loopw [6, 21] (fun o i wr => ∃ k : Nat, k ≤ t.length ∧ i = .int .i64 k ∧ wr.ownsRow w2.heap.size 3 1 o (daysV (t.take k) r).length ((daysV (t.take k) r).map vI) ∧ Below w2.heap.size w2 wr) (fun _ i _ => t.length - (intOf i).toNat)
      case atStart => exact ⟨0, Nat.zero_le _, rfl, by simpa [daysV] using World.ownsRow_nil _ _ _ _, Below.refl _ _⟩
      case round =>
        obtain ⟨k, hk, rfl, hO, hb⟩ := hrel
        have hbw := b2.trans (hb.mono s2)
        by_cases hlt : k < t.length
        · obtain ⟨bL, oL, hbL, rfl, e1⟩ := R1.out.resolve_left (fun e => by rw [e] at hlt; simp at hlt)
          obtain ⟨sr, q0, q1, hr, _⟩ := e1 k hlt
          obtain ⟨x, hx⟩ : ∃ x, (t.getD k veD).rules = x := ⟨_, rfl⟩
          obtain ⟨fk, hfk⟩ : ∃ x, (t.getD k veD).frm = x := ⟨_, rfl⟩
          have hsc : askB r x = true := by rw [← hx]; exact ask_iff.2 ⟨HR.out, (ve_at HA.out hlt).2.1⟩
          rw [hx] at hr
          rw [hfk] at q0
          have hr0 := hr
          obtain ⟨sa, sc, hsr, _, hsm, _⟩ := hr0
          subst hsr
          have hxl := sch_len (ask_iff.1 hsc).2
          have HRW := Lib.hid (show ∀ W, Below w.heap.size w W → RowR 4 rRu W (.slice sa x.length sc) x from fun W hb => hr.below rRu_stable hb)
          have f0 := cell_kept q0 hbw
          have f1 := cell_kept q1 hbw
          have htake := daysV_succ (r := r) hlt
          rw [hx] at htake
          have hlen : (daysV (t.take k) r).length ≤ 5 := by rw [daysV_len, List.length_take]; omega
          obtain ⟨Pp, hP⟩ : ∃ P, daysV (t.take k) r = P := ⟨_, rfl⟩
          rw [hP] at hO hlen htake
          have HTK := Lib.hid htake
          obtain ⟨n, bs, hdr⟩ : ∃ n b, dueRes r x = (n, b) := ⟨_, _, rfl⟩
          have HDR := Lib.hid hdr
          have HDV : Hid ((bs = true → dueF r x = n) ∧ (bs = false → dueF r x = -1)) := Lib.hid (by
            unfold dueRes at hdr
            rcases Int.lt_or_le (dueF r x) 0 with hl | hl
            · rw [setF_no (.inr hl)] at hdr
              cases hdr
              exact ⟨(fun e => by cases e), fun _ => dueF_neg (by omega)⟩
            · rw [setF_yes hsc hl] at hdr
              cases hdr
              exact ⟨fun _ => rfl, (fun e => by cases e)⟩)
          have g0 : (0 : Int) ≤ (k : Int) := by omega
          have g1 : (k : Int) < (t.length : Int) := by omega
          have hsz := hb.size
          have HO := Lib.hid hO
          have HX1 := Lib.hid (HC2.out.kept hb)
          obtain ⟨c0, c1, c2, c3⟩ := HC2.out.kept (below_al hb (.cells #[.int .i64 fk, .slice sa x.length sc] 49 (0, 0)))
          have z1 : (wr.alloc (.cells #[.int .i64 fk, .slice sa x.length sc] 49 (0, 0))).cell? ⟨wr.heap.size, 1, none⟩ = some (.slice sa x.length sc) := cell_new wr _ _ 1 rfl
          have bE := below_al hbw (.cells #[.int .i64 fk, .slice sa x.length sc] 49 (0, 0))
          have bE2 := below_al (Below.refl wr.heap.size wr) (.cells #[.int .i64 fk, .slice sa x.length sc] 49 (0, 0))
          clear q0 q1 hr hsc hx hfk e1 htake hP hdr hO
          cases bs
          · have HTK2 := Lib.hid (HTK.out.trans (by rw [HDV.out.2 rfl] : Pp ++ [dueF r x] = Pp ++ [-1]))
            go_wp2_with (first | (go_at_call 51; refine (implDueDay_any _ _ r x _ (HV.out _ bE) (HRW.out _ bE) (by omega) n _ HDR.out).mono ?_; rintro e w5 ⟨rfl, b5⟩; have bR5 := below_chain bE2 b5; have HO5 := Lib.hid (ownsRow_below HO.out bR5); have bW5 := hb.trans (bR5.mono hsz); have hs5 := bW5.size) | (at_builtin; refine wpList_append_own _ rfl _ _ 43 rfl w2.heap.size 3 i0 (.int .i64 0) 1 8 Try.underlying43 hi hz0 hz1 hz2 rfl (by decide) _ Pp.length (Pp.map vI) rfl (HO5.out.alloc _) ⟨w5.heap.size, 0, none⟩ 1 1 [.int .i64 (-1)] rfl rfl (cell_oneI _ _ _ (by simp)) (by simp [Value.oneCell']) (by unfold maxLen; omega) (by omega) (by first | (simp; done) | (simp; omega)) ?_; intro v' w7 hown' hgrow _))
            have HOWN := Lib.hid hown'
            have HB := Lib.hid (below_app bW5 (Nat.le_refl _) HO5.out hgrow)
            clear hown' hgrow
            go_wp2_with fail
            go_roundw
            case rel => exact ⟨k + 1, by omega, by first | rfl | go_num, (by rw [HTK2.out]; simpa [vI] using HOWN.out), HB.out⟩
            case measure => simp [intOf]; omega
          · have HTK2 := Lib.hid (HTK.out.trans (by rw [HDV.out.1 rfl] : Pp ++ [dueF r x] = Pp ++ [n]))
            go_wp2_with (first | (go_at_call 51; refine (implDueDay_any _ _ r x _ (HV.out _ bE) (HRW.out _ bE) (by omega) n _ HDR.out).mono ?_; rintro e w5 ⟨rfl, b5⟩; have bR5 := below_chain bE2 b5; have HO5 := Lib.hid (ownsRow_below HO.out bR5); have bW5 := hb.trans (bR5.mono hsz); have hs5 := bW5.size) | (at_builtin; refine wpList_append_own _ rfl _ _ 43 rfl w2.heap.size 3 i0 (.int .i64 0) 1 8 Try.underlying43 hi hz0 hz1 hz2 rfl (by decide) _ Pp.length (Pp.map vI) rfl (HO5.out.alloc _) ⟨w5.heap.size, 0, none⟩ 1 1 [.int .i64 n] rfl rfl (cell_oneI _ _ _ (by simp)) (by simp [Value.oneCell']) (by unfold maxLen; omega) (by omega) (by first | (simp; done) | (simp; omega)) ?_; intro v' w7 hown' hgrow _))
            have HOWN := Lib.hid hown'
            have HB := Lib.hid (below_app bW5 (Nat.le_refl _) HO5.out hgrow)
            clear hown' hgrow
            go_wp2_with fail
            go_roundw
            case rel => exact ⟨k + 1, by omega, by first | rfl | go_num, (by rw [HTK2.out]; simpa [vI] using HOWN.out), HB.out⟩
            case measure => simp [intOf]; omega
        · obtain rfl : k = t.length := by omega
          rw [List.take_length] at hO
          have HO := Lib.hid hO
          clear hO
          go_wp2_with fail
          go_ret2
          exact ⟨_, rfl, (ints_rowS HO.out rfl).wide s2 (Nat.le_refl _), hbw⟩
end Go.Proofs.Ytdbomnhakikmfaa

namespace Go.Proofs.Ytdbomnhakikmfaa
set_option linter.unusedVariables false
open Go.RowKit Go.Sort

set_option maxRecDepth 20000 in
set_option maxHeartbeats 4000000 in
theorem implFirstDueDay_any (v v1 : Value) (t : List Ve) (r : Rec) (w : World) (h : RowR 2 rVe w v t) (h1 : RecV w v1 r) (n : Int) (b : Bool) (hres : firRes t r = (n, b)) :
    Calls Try.prog 7 #[v, v1] w fun e w' => e = .returned (.tuple #[.int .i64 n, .bool b]) ∧ Below w.heap.size w w' := by
  obtain ⟨s, rfl, h0, hok⟩ := h1
  have HV := Lib.hid (show ∀ W, Below w.heap.size w W → RecV W (.agg #[.int .i64 r.id, .int .i64 r.series, .int .i64 r.made, s]) r from fun W hb => ⟨s, rfl, h0.below rEv_stable hb, hok⟩)
  have H := Lib.hid (show ∀ W, Below w.heap.size w W → RowR 2 rVe W v t from fun W hb => h.below rVe_stable hb)
  obtain ⟨a1, c1, rfl, hl1, hm1, r1⟩ := h.ves
  have R1 := Lib.hid r1
  unfold maxLen at hm1
  have b0 := below_al (Below.refl w.heap.size w) (RBOX r s 27)
  have HC0 := Lib.hid (Box4.new w r s 27)
  obtain ⟨xs, bb, hdd⟩ : ∃ xs b, ddRes t r = (xs, b) := ⟨_, _, rfl⟩
  have HDD := Lib.hid hdd
  have HRES := Lib.hid hres
  have hxl : xs.length ≤ t.length := ddRes_len hdd
  have HASK : Hid (0 < xs.length → areVe t = true ∧ isRec r = true) := Lib.hid (fun hp => by
    unfold ddRes at hdd
    split at hdd
    · assumption
    · cases hdd; simp at hp)
  have HXV : Hid (areVe t = true ∧ isRec r = true → xs = daysV t r) := Lib.hid (fun hp => by
    unfold ddRes at hdd
    rw [if_pos hp] at hdd
    cases hdd; rfl)
  clear h0 hok h r1 hdd hres
  go_enter Try.func7, Try.ntmps7
  go_wp2_with (first | (go_at_call 19; refine (implDueDays_any _ _ t r _ (H.out _ b0) (HV.out _ b0) xs bb HDD.out).mono ?_; rintro e w1 ⟨v1, rfl, ho1, b1⟩; obtain ⟨a2, c2, hv2, hl2, hm2, r2⟩ := ho1.row; unfold maxLen at hm2; subst hv2; have R2 := Lib.hid r2; replace b1 := below_chain b0 b1; clear ho1 r2))
  have s1 := b1.size
  go_loopw [21] (fun i wr => ∃ k : Nat, k ≤ xs.length ∧ i = .int .i64 k ∧ Hid (∀ j, j < k → hitV t r j = false) ∧ Below w1.heap.size w1 wr) (fun i _ => xs.length - (intOf i).toNat)
  case atStart => exact ⟨0, Nat.zero_le _, rfl, Lib.hid (fun j hj => absurd hj (Nat.not_lt_zero _)), Below.refl _ _⟩
  case round =>
    obtain ⟨k, hk, rfl, HNH, hb⟩ := hrel
    have hbw := b1.trans (hb.mono s1)
    by_cases hlt : k < xs.length
    · have hve := HASK.out (by omega)
      have HVE := Lib.hid hve
      have hkt : k < t.length := by omega
      obtain ⟨bL, oL, hbL, rfl, e1⟩ := R1.out.resolve_left (fun e => by rw [e] at hkt; simp at hkt)
      obtain ⟨sr, q0, q1, hr, _⟩ := e1 k hkt
      obtain ⟨fk, hfk⟩ : ∃ x, (t.getD k veD).frm = x := ⟨_, rfl⟩
      rw [hfk] at q0
      have f0 := cell_kept q0 hbw
      obtain ⟨bE, oE, hbE, rfl, eE⟩ := R2.out.resolve_left (fun e => by rw [e] at hlt; simp at hlt)
      obtain ⟨D, hD⟩ : ∃ x, dueF r (t.getD k veD).rules = x := ⟨_, rfl⟩
      have hDx : xs[k] = D := by
        have e := HXV.out hve
        have e2 : xs[k]? = (daysV t r)[k]? := by rw [e]
        rw [List.getElem?_eq_getElem hlt] at e2
        have e3 := daysV_at (r := r) hkt
        rw [List.getD_eq_getElem?_getD, ← e2] at e3
        rw [← hD, ← e3]; rfl
      have p0 := eE k hlt
      rw [hDx] at p0
      simp only [vI] at p0
      have f2 := cell_kept p0 hb
      obtain ⟨M, hMi⟩ : ∃ M, (if D < fk then fk else D) = M := ⟨_, rfl⟩
      have hM : max D fk = M := by rw [← hMi]; split <;> omega
      obtain ⟨N, bo, hon⟩ : ∃ N b, onRes t M = (N, b) := ⟨_, _, rfl⟩
      have HON := Lib.hid hon
      have hhit := hit_on (r := r) hve.1 hkt (f := M) (by rw [hD, hfk]; exact hM)
      rw [hon, hD] at hhit
      have HHIT := Lib.hid hhit
      have HM := Lib.hid hMi
      have HM2 := Lib.hid hM
      have HFM : Hid (hitV t r k = true → firRes t r = (M, true)) := Lib.hid (fun h => by rw [firRes_some hve (firV_some hkt h HNH.out), hD, hfk, hM])
      have HN2 : Hid (hitV t r k = false → ∀ j, j < k + 1 → hitV t r j = false) := Lib.hid (fun hf j hj => by
        rcases Nat.lt_or_ge j k with h' | h'
        · exact HNH.out j h'
        · obtain rfl : j = k := by omega
          exact hf)
      have g0 : (0 : Int) ≤ (k : Int) := by omega
      have g1 : (k : Int) < (t.length : Int) := by omega
      have g2 : (k : Int) < (xs.length : Int) := by omega
      clear q0 q1 hr e1 hfk hve p0 eE hD hDx hon hhit hM hMi
      by_cases hb1 : bo = true
      · subst hb1
        by_cases hNk : N = (k : Int)
        · by_cases hDn : D = -1
          · have hf : hitV t r k = false := by
              rcases hq : hitV t r k with _ | _
              · rfl
              · exact absurd hDn (HHIT.out.1 hq).2
            have HN3 := Lib.hid (HN2.out hf)
            have e1 : (N == (k : Int)) = true := by simp [hNk]
            have e2 : (D != -1) = false := by simp [hDn]
            clear hf hNk hDn
            go_wp2_with (first | (go_at_call 26; (first | rw [HM.out] | rw [HM2.out]); (with_reducible refine (implVersionOn_any _ t _ _ (H.out _ hbw) N _ HON.out).mono ?_); rintro e w4 ⟨rfl, b4⟩))
            go_roundw
            case rel => exact ⟨k + 1, by omega, by first | rfl | go_num, HN3, hb.trans (b4.mono hb.size)⟩
            case measure => simp [intOf]; omega
          · have hf : hitV t r k = true := HHIT.out.2 ⟨by rw [hNk], hDn⟩
            have hans := HRES.out
            rw [HFM.out hf] at hans
            cases hans
            have e1 : (N == (k : Int)) = true := by simp [hNk]
            have e2 : (D != -1) = true := by simp [hDn]
            clear hf hNk hDn
            go_wp2_with (first | (go_at_call 26; (first | rw [HM.out] | rw [HM2.out]); (with_reducible refine (implVersionOn_any _ t _ _ (H.out _ hbw) N _ HON.out).mono ?_); rintro e w4 ⟨rfl, b4⟩))
            go_ret2
            exact ⟨by first | rfl | rw [HM.out] | rw [HM2.out], hbw.trans (b4.mono hbw.size)⟩
        · have hf : hitV t r k = false := by
            rcases hq : hitV t r k with _ | _
            · rfl
            · exact absurd (Prod.mk.inj (HHIT.out.1 hq).1).1 hNk
          have HN3 := Lib.hid (HN2.out hf)
          have e1 : (N == (k : Int)) = false := by simp [hNk]
          clear hf hNk
          go_wp2_with (first | (go_at_call 26; (first | rw [HM.out] | rw [HM2.out]); (with_reducible refine (implVersionOn_any _ t _ _ (H.out _ hbw) N _ HON.out).mono ?_); rintro e w4 ⟨rfl, b4⟩))
          go_roundw
          case rel => exact ⟨k + 1, by omega, by first | rfl | go_num, HN3, hb.trans (b4.mono hb.size)⟩
          case measure => simp [intOf]; omega
      · have hbf : bo = false := by simpa using hb1
        subst hbf
        have hf : hitV t r k = false := by
          rcases hq : hitV t r k with _ | _
          · rfl
          · have := (Prod.mk.inj (HHIT.out.1 hq).1).2; cases this
        have HN3 := Lib.hid (HN2.out hf)
        clear hf hb1
        go_wp2_with (first | (go_at_call 26; (first | rw [HM.out] | rw [HM2.out]); (with_reducible refine (implVersionOn_any _ t _ _ (H.out _ hbw) N _ HON.out).mono ?_); rintro e w4 ⟨rfl, b4⟩))
        go_roundw
        case rel => exact ⟨k + 1, by omega, by first | rfl | go_num, HN3, hb.trans (b4.mono hb.size)⟩
        case measure => simp [intOf]; omega
    · obtain rfl : k = xs.length := by omega
      have hno : firRes t r = (0, false) := by
        by_cases hve : areVe t = true ∧ isRec r = true
        · refine firRes_none (firV_none ?_)
          have e := HXV.out hve
          have := HNH.out
          rw [e, daysV_len] at this
          exact this
        · exact firRes_no hve
      have hans := HRES.out
      rw [hno] at hans
      cases hans
      clear hno
      go_wp2_with fail
      go_ret2
      exact ⟨rfl, hbw⟩
end Go.Proofs.Ytdbomnhakikmfaa

namespace Go.Proofs.Ytdbomnhakikmfaa
set_option linter.unusedVariables false
open Go.RowKit Go.Sort

set_option maxRecDepth 20000 in
set_option maxHeartbeats 4000000 in
theorem implDecidesOn_any (v v1 : Value) (t : List Ve) (r : Rec) (d : Int) (w : World) (h : RowR 2 rVe w v t) (h1 : RecV w v1 r) (q : Ru) (b : Bool) (hres : decoRes t r d = (q, b)) :
    Calls Try.prog 12 #[v, v1, .int .i64 d] w fun e w' => e = .returned (.tuple #[.agg #[.int .i64 q.series, .int .i64 q.event, .int .i64 q.days, .int .i64 q.act], .bool b]) ∧ Below w.heap.size w w' := by
  obtain ⟨s, rfl, h0, hok⟩ := h1
  have HV := Lib.hid (show ∀ W, Below w.heap.size w W → RecV W (.agg #[.int .i64 r.id, .int .i64 r.series, .int .i64 r.made, s]) r from fun W hb => ⟨s, rfl, h0.below rEv_stable hb, hok⟩)
  have H := Lib.hid (show ∀ W, Below w.heap.size w W → RowR 2 rVe W v t from fun W hb => h.below rVe_stable hb)
  obtain ⟨a1, c1, rfl, hl1, hm1, r1⟩ := h.ves
  have R1 := Lib.hid r1
  unfold maxLen at hm1
  have b0 := below_al (below_al (Below.refl w.heap.size w) (RBOX r s 27)) (.cells #[.int .i64 0, .int .i64 0, .int .i64 0, .int .i64 0] 36 (0, 0))
  have HC0 : Hid (Box4 ((w.alloc (RBOX r s 27)).alloc (.cells #[.int .i64 0, .int .i64 0, .int .i64 0, .int .i64 0] 36 (0, 0))) w.heap.size r s) := Lib.hid ((Box4.new w r s 27).kept (below_al (Below.refl _ _) _))
  have HX0 : Hid (UBox ((w.alloc (RBOX r s 27)).alloc (.cells #[.int .i64 0, .int .i64 0, .int .i64 0, .int .i64 0] 36 (0, 0))) (w.heap.size + 1) ruD) := Lib.hid (by rw [← (show (w.alloc (RBOX r s 27)).heap.size = w.heap.size + 1 by simp)]; exact UBox.new (w.alloc (RBOX r s 27)) ruD 36)
  obtain ⟨N, bo, hon⟩ : ∃ N b, onRes t d = (N, b) := ⟨_, _, rfl⟩
  have HON := Lib.hid hon
  cases bo
  · have hno : decoRes t r d = (ruD, false) := by
      unfold decoRes
      rw [if_neg]
      rintro ⟨e1, e2⟩
      obtain ⟨q1, q2, q3⟩ := askV_iff.1 e1
      unfold onRes at hon
      rw [if_pos ⟨⟨q1, q3⟩, e2⟩] at hon
      cases hon
    rw [hno] at hres
    cases hres
    clear h0 hok h r1 hon hno
    go_enter Try.func12, Try.ntmps12
    go_wp2_with (first | (go_at_call 26; refine (implVersionOn_any _ t d _ (H.out _ b0) N false HON.out).mono ?_; rintro e w1 ⟨rfl, b1⟩; have HX1 := Lib.hid (HX0.out.kept b1); obtain ⟨z0, z1, z2, z3, y0, y1, y2, y3⟩ := HX1.out; simp only [ruD] at z0 z1 z2 z3; replace b1 := below_chain b0 b1))
    refine bodyPost_ret (v := .tuple #[.agg #[.int .i64 0, .int .i64 0, .int .i64 0, .int .i64 0], .bool false]) (by simp [results, Try.results12 , go_sem, z0, z1, z2, z3]) rfl ⟨rfl, ?_⟩
    exact below_putU b1 (by omega) ruD
  · have hyes : (areVe t = true ∧ (0 ≤ d ∧ d ≤ 20000)) ∧ 0 ≤ onV t d ∧ onV t d = N := by
      unfold onRes at hon
      split at hon
      · rename_i hc
        cases hon
        exact ⟨hc.1, hc.2, rfl⟩
      · cases hon
    obtain ⟨k, hk0, hk, _, _⟩ := onV_at (t := t) (d := d) hyes.2.1
    have hNk : N = (k : Int) := by rw [← hyes.2.2]; exact hk0
    subst hNk
    obtain ⟨x, hx⟩ : ∃ x, (t.getD k veD).rules = x := ⟨_, rfl⟩
    have hdec : decRes r x = (q, b) := by
      rw [← hres]
      unfold decoRes
      by_cases hr : isRec r = true
      · rw [if_pos ⟨askV_iff.2 ⟨hyes.1.1, hr, hyes.1.2⟩, hyes.2.1⟩, hyes.2.2, rulesAt_nat, hx]
      · rw [if_neg (fun e => hr (askV_iff.1 e.1).2.1)]
        unfold decRes
        rw [setF_no (.inl (by unfold askB; rw [Bool.eq_false_iff.2 hr]; rfl))]
    have HDEC := Lib.hid hdec
    obtain ⟨bL, oL, hbL, rfl, e1⟩ := r1.resolve_left (fun e => by rw [e] at hk; simp at hk)
    obtain ⟨sr, _, q1, hr, _⟩ := e1 k hk
    rw [hx] at hr
    have hxl : x.length ≤ 8 := by rw [← hx]; exact sch_len (ve_at hyes.1.1 hk).2.1
    have HRW := Lib.hid (show ∀ W, Below w.heap.size w W → RowR 4 rRu W sr x from fun W hb => hr.below rRu_stable hb)
    have g0 : (0 : Int) ≤ (k : Int) := by omega
    have g1 : (k : Int) < (t.length : Int) := by omega
    obtain ⟨x0, x1, x2, x3⟩ := q
    clear h0 hok h r1 hon hres hx hdec e1 hr hyes hk0
    go_enter Try.func12, Try.ntmps12
    go_wp2_with (first | (go_at_call 26; refine (implVersionOn_any _ t d _ (H.out _ b0) _ true HON.out).mono ?_; rintro e w1 ⟨rfl, b1⟩; have HX1 := Lib.hid (HX0.out.kept b1); obtain ⟨c0, c1, c2, c3⟩ := HC0.out.kept b1; replace b1 := below_chain b0 b1; have f1 := cell_kept q1 b1))
    have hl0 : w.heap.size < w1.heap.size := World.block_lt_of_cell? _ _ c0
    have hl1 : w.heap.size + 1 < w1.heap.size := HX1.out.lt
    have hlL : bL < w1.heap.size := World.block_lt_of_cell? _ _ f1
    have hlM : bL < w.heap.size := hbL
    go_region_held3 (fun w' => w'.cell? ⟨w.heap.size, 0, none⟩ = some (.int .i64 r.id) ∧ w'.cell? ⟨w.heap.size, 1, none⟩ = some (.int .i64 r.series) ∧ w'.cell? ⟨w.heap.size, 2, none⟩ = some (.int .i64 r.made) ∧ w'.cell? ⟨w.heap.size, 3, none⟩ = some (s) ∧ w'.cell? ⟨bL, oL + k * 2 + 1, none⟩ = some sr)
      (first | with_reducible exact ⟨c0, c1, c2, c3, f1⟩ | with_reducible exact ⟨cell_drew c0, cell_drew c1, cell_drew c2, cell_drew c3, cell_drew f1⟩ | with_reducible exact ⟨below_al_cell c0 _, below_al_cell c1 _, below_al_cell c2 _, below_al_cell c3 _, below_al_cell f1 _⟩ | with_reducible exact ⟨cell_drew (below_al_cell c0 _), cell_drew (below_al_cell c1 _), cell_drew (below_al_cell c2 _), cell_drew (below_al_cell c3 _), cell_drew (below_al_cell f1 _)⟩ | (refine ⟨?_, ?_, ?_, ?_, ?_⟩ <;> (repeat rw [World.cell?_setCell_far _ _ _ _ (by first | (simp; done) | (simp; omega))]) <;> first | assumption | go_keep))
      (first | (go_at_call 40; (with_reducible refine (implDecidingRule_any _ _ r x _ (HV.out _ b1.drew) (HRW.out _ b1.drew) (by omega) _ _ HDEC.out).mono ?_); rintro e w3 ⟨rfl, b3⟩; have HX3 := Lib.hid (HX1.out.drew.kept b3); obtain ⟨z0, z1, z2, z3, y0, y1, y2, y3⟩ := HX3.out; simp only [ruD] at z0 z1 z2 z3; replace c0 := cell_kept (cell_drew c0) b3; replace c1 := cell_kept (cell_drew c1) b3; replace c2 := cell_kept (cell_drew c2) b3; replace c3 := cell_kept (cell_drew c3) b3; replace f1 := cell_kept (cell_drew f1) b3; have hs3 := b3.size; replace b3 := below_chain b1.drew b3; simp only))
    go_wp2_with fail
    refine bodyPost_ret (v := .tuple #[.agg #[.int .i64 x0, .int .i64 x1, .int .i64 x2, .int .i64 x3], .bool b]) (by simp [results, Try.results12 , go_sem, z0, z1, z2, z3]) rfl ⟨rfl, ?_⟩
    exact below_putU b3 (by omega) ⟨x0, x1, x2, x3⟩
end Go.Proofs.Ytdbomnhakikmfaa

namespace Go.Proofs.Ytdbomnhakikmfaa
set_option linter.unusedVariables false
set_option maxRecDepth 20000
open Go.RowKit Go.ChangeShapes Go.WideShapes Go.Deep

structure By8 where
  a : Option Addr
  len : Nat
  cap : Nat
  zs : List Int
def ByV (w : World) (v : Value) (x : By8) : Prop := v = .slice x.a x.len x.cap ∧ IsRow .u8 w x.a x.len x.cap x.zs
section
variable {H : Type} {enc : TypeId × Value → H} {w : World} {base b0 : Nat} {held : Bool} {r : Reach} {v : Value} {d : DataW H} {p : List MemPlace}
theorem arg_code (hv : Value.okWide Try.prog w r b0 22 v) (h : DataW.Trod enc Try.prog w base (fun _ => true) held 22 v d p) : ∃ x, ByV w v x := by
  obtain ⟨a0, len0, cap0, rfl⟩ := okWide_slice Try.underlying22 hv
  obtain ⟨fuel, hf⟩ := h
  rcases open_ints Try.underlying22 Try.underlying5 (by kernel_rfl) hf with ⟨hcs, _⟩ | ⟨x, l, c, zs, hcs, _, hl, hm, hz, _, hcell, hwz⟩
  · simp [Value.cells] at hcs
    obtain ⟨rfl, rfl, rfl⟩ := hcs
    exact ⟨⟨none, 0, 0, []⟩, rfl, .inl ⟨rfl, rfl, rfl, rfl⟩⟩
  · simp [Value.cells] at hcs
    obtain ⟨rfl, rfl, rfl⟩ := hcs
    exact ⟨⟨some x, len0, cap0, zs⟩, rfl, .inr ⟨_, rfl, hl, hm, by simpa using hz, hcell, hwz⟩⟩
end
end Go.Proofs.Ytdbomnhakikmfaa
