/- Ris, Has, HoS, Ho3S, Ho4S, Ho6M, RuFor, Box4, PerS, EqRec, Recs, AreRec, AddS, PerS2, Ho6S, DrawHm, HoQ, in one text. -/
import Derived.Test.YtenjajcknmfhfaaFoM
import Derived.Test.YtenjajcknmfhfaaCells
import Derived.Test.YtenjajcknmfhfaaL1In
import Derived.Test.YtenjajcknmfhfaaInts
import Derived.Lib.QuietBelow
import Derived.BigQuiet
import Derived.WalkSmall
import Derived.Lib.Hide
import Derived.Test.YtenjajcknmfhfaaTyHo
import Derived.Test.YtenjajcknmfhfaaDayI
import Derived.Test.YtenjajcknmfhfaaIsRec
import Derived.Test.YtenjajcknmfhfaaIntsK
import Derived.Test.YtenjajcknmfhfaaHoM
import Derived.Test.YtenjajcknmfhfaaHzB
import Derived.Test.YtenjajcknmfhfaaRuCells
import Derived.Test.YtenjajcknmfhfaaToRec
import Derived.Deep.DeepCutAuto
import Derived.Deep.RegionHeld3
import Derived.Test.YtenjajcknmfhfaaPerM
import Derived.Test.YtenjajcknmfhfaaDayOf
import Derived.Test.YtenjajcknmfhfaaPuts
import Derived.Deep.QuietTactic
import Derived.Test.YtenjajcknmfhfaaRecM
import Derived.Test.YtenjajcknmfhfaaIsRecI
import Derived.Test.YtenjajcknmfhfaaAddX
import Derived.Deep.CutBlock
import Derived.Test.YtenjajcknmfhfaaInSer1
namespace Go.Proofs.Ytenjajcknmfhfaa
set_option linter.unusedVariables false
open Go.RowKit Go.Sort

theorem notRis {lo hi : Int} {xs : List Int} {k : Nat} (hk : k < xs.length) (h : risAt lo hi xs k = false) : risB lo hi xs = false := by unfold risB; exact upto_false hk h

set_option maxHeartbeats 2000000 in
theorem l1Rising_any (v : Value) (xs : List Int) (lo hi : Int) (w : World) (h : RowOf vI w v xs) :
    Calls Try.prog 87 #[v, .int .i64 lo, .int .i64 hi] w fun e w' => e = .returned (.bool (risB lo hi xs)) ∧ Below w.heap.size w w' := by
  have hcap := h.cap
  obtain ⟨a1, c1, rfl, hl1, hm1, r1⟩ := h
  have R1 := Lib.hid r1
  clear r1
  unfold maxLen at hm1
  go_enter Try.func87, Try.ntmps87
  go_wp2
  go_loopw [7] (fun i wr => ∃ k : Nat, k ≤ xs.length ∧ i = .int .i64 k ∧ Hid (upto (risAt lo hi xs) k = true) ∧ Below w.heap.size w wr) (fun i _ => xs.length - (intOf i).toNat)
  case atStart => exact ⟨0, Nat.zero_le _, rfl, Lib.hid (by simp [upto]), Below.refl _ _⟩
  case round =>
    obtain ⟨k, hk, rfl, HU, hb⟩ := hrel
    have hw := hb.size
    by_cases hlt : k < xs.length
    · obtain ⟨b1, o1, hb1, rfl, e1⟩ := R1.out.resolve_left (fun e => by rw [e] at hlt; simp at hlt)
      obtain ⟨y, hy⟩ : ∃ s, xs.getD k 0 = s := ⟨_, rfl⟩
      have f1 := (hb.cell (p := ⟨b1, o1 + k, none⟩) hb1).trans (e1 k hlt)
      rw [← getI_lt hlt, hy] at f1
      simp only [vI] at f1
      have HY := Lib.hid hy
      have g0 : (0 : Int) ≤ (k : Int) := by omega
      have g1 : (k : Int) < (xs.length : Int) := by omega
      obtain ⟨bi, hbi⟩ : ∃ b, decide (lo ≤ y ∧ y ≤ hi) = b := ⟨_, rfl⟩
      have HBI := Lib.hid hbi
      have E1 := Lib.hid e1
      clear e1 hy hbi
      cases bi
      · have HNT : Hid (risB lo hi xs = false) := Lib.hid (notRis hlt (by unfold risAt; rw [HY.out, HBI.out]; rfl))
        go_wp2_with fail
        have m1 := cell_regrown f1
        have hc : ∀ d os, Calls Try.prog 79 #[.int .i64 y, .int .i64 lo, .int .i64 hi] (grow (redrawn wr d) os) fun e w'' => e = .returned (.bool false) ∧ ∃ p : Regrown, w'' = grow (redrawn wr p.d) p.os := fun d os => Calls.regrown_of ((l1In_any y lo hi _).mono (by rw [HBI.out]; rintro e w' ⟨rfl, rfl⟩; exact ⟨rfl, Below.refl _ _⟩))
        refine wp_region_quiet_below (by kernel_rfl) (by kernel_rfl) ?_
        repeat (go_big_quiet_step (first | exact hc _ _))
        refine wpQuiet_nil ?_
        intro _ hw'
        obtain ⟨⟨dq, osq⟩, hw''⟩ := hw'
        subst hw''
        have bq := below_regrown wr dq osq
        generalize grow (redrawn wr dq) osq = w2 at bq ⊢
        go_wp2
        go_ret
        exact ⟨ret_bool HNT.out.symm, hb.trans (bq.mono hw)⟩
      · rcases Nat.eq_zero_or_pos k with hk0 | hk0
        · have dk : decide ((0 : Int) < (k : Int)) = false := decide_eq_false (by omega)
          have dk2 : decide (0 < k) = false := decide_eq_false (by omega)
          have HAT : Hid (risAt lo hi xs k = true) := Lib.hid (by unfold risAt; rw [HY.out, HBI.out, decide_eq_true hk0]; rfl)
          clear hk0
          go_wp2_with fail
          have m1 := cell_regrown f1
          have hc : ∀ d os, Calls Try.prog 79 #[.int .i64 y, .int .i64 lo, .int .i64 hi] (grow (redrawn wr d) os) fun e w'' => e = .returned (.bool true) ∧ ∃ p : Regrown, w'' = grow (redrawn wr p.d) p.os := fun d os => Calls.regrown_of ((l1In_any y lo hi _).mono (by rw [HBI.out]; rintro e w' ⟨rfl, rfl⟩; exact ⟨rfl, Below.refl _ _⟩))
          refine wp_region_quiet_below (by kernel_rfl) (by kernel_rfl) ?_
          repeat (go_big_quiet_step (first | exact hc _ _))
          refine wpQuiet_nil ?_
          intro _ hw'
          obtain ⟨⟨dq, osq⟩, hw''⟩ := hw'
          subst hw''
          have bq := below_regrown wr dq osq
          generalize grow (redrawn wr dq) osq = w2 at bq ⊢
          go_wp2
          go_roundw
          case rel => exact ⟨k + 1, by omega, by go_num, Lib.hid (upto_succ HU.out HAT.out), hb.trans (bq.mono hw)⟩
          case measure => simp [intOf]; omega
        · obtain ⟨j, rfl⟩ : ∃ j, k = j + 1 := ⟨k - 1, by omega⟩
          obtain ⟨z, hz⟩ : ∃ s, xs.getD j 0 = s := ⟨_, rfl⟩
          have f2 := (hb.cell (p := ⟨b1, o1 + j, none⟩) hb1).trans (E1.out j (by omega))
          rw [← getI_lt (by omega), hz] at f2
          simp only [vI] at f2
          have HZ := Lib.hid hz
          have g2 : (j : Int) < (xs.length : Int) := by omega
          have g3 : (0 : Int) ≤ (j : Int) := by omega
          have g4 : (0 : Int) < (j : Int) + 1 := by omega
          clear hz hk0
          by_cases hP : y ≤ z
          · have HNT : Hid (risB lo hi xs = false) := Lib.hid (notRis hlt (by unfold risAt; rw [HY.out, HBI.out, show j + 1 - 1 = j by omega, HZ.out, decide_eq_false (by omega : ¬ j + 1 = 0), decide_eq_false (by omega : ¬ z < y)]; rfl))
            go_wp2_with fail
            have m1 := cell_regrown f1
            have m2 := cell_regrown f2
            have hc : ∀ d os, Calls Try.prog 79 #[.int .i64 y, .int .i64 lo, .int .i64 hi] (grow (redrawn wr d) os) fun e w'' => e = .returned (.bool true) ∧ ∃ p : Regrown, w'' = grow (redrawn wr p.d) p.os := fun d os => Calls.regrown_of ((l1In_any y lo hi _).mono (by rw [HBI.out]; rintro e w' ⟨rfl, rfl⟩; exact ⟨rfl, Below.refl _ _⟩))
            refine wp_region_quiet_below (by kernel_rfl) (by kernel_rfl) ?_
            repeat (go_big_quiet_step (first | exact hc _ _))
            refine wpQuiet_nil ?_
            intro _ hw'
            obtain ⟨⟨dq, osq⟩, hw''⟩ := hw'
            subst hw''
            have bq := below_regrown wr dq osq
            generalize grow (redrawn wr dq) osq = w2 at bq ⊢
            go_wp2
            go_ret
            exact ⟨ret_bool HNT.out.symm, hb.trans (bq.mono hw)⟩
          · have HAT : Hid (risAt lo hi xs (j + 1) = true) := Lib.hid (by unfold risAt; rw [HY.out, HBI.out, show j + 1 - 1 = j by omega, HZ.out, decide_eq_true (by omega : z < y)]; simp)
            have dP : decide (y ≤ z) = false := decide_eq_false hP
            go_wp2_with fail
            have m1 := cell_regrown f1
            have m2 := cell_regrown f2
            have hc : ∀ d os, Calls Try.prog 79 #[.int .i64 y, .int .i64 lo, .int .i64 hi] (grow (redrawn wr d) os) fun e w'' => e = .returned (.bool true) ∧ ∃ p : Regrown, w'' = grow (redrawn wr p.d) p.os := fun d os => Calls.regrown_of ((l1In_any y lo hi _).mono (by rw [HBI.out]; rintro e w' ⟨rfl, rfl⟩; exact ⟨rfl, Below.refl _ _⟩))
            refine wp_region_quiet_below (by kernel_rfl) (by kernel_rfl) ?_
            repeat (go_big_quiet_step (first | exact hc _ _))
            refine wpQuiet_nil ?_
            intro _ hw'
            obtain ⟨⟨dq, osq⟩, hw''⟩ := hw'
            subst hw''
            have bq := below_regrown wr dq osq
            generalize grow (redrawn wr dq) osq = w2 at bq ⊢
            go_wp2
            go_roundw
            case rel => exact ⟨j + 1 + 1, by omega, by go_num, Lib.hid (upto_succ HU.out HAT.out), hb.trans (bq.mono hw)⟩
            case measure => simp [intOf]; omega
    · have hkl : k = xs.length := by omega
      have HE : Hid (risB lo hi xs = true) := Lib.hid (by have := HU.out; rwa [hkl] at this)
      clear hkl
      go_wp2
      go_ret
      exact ⟨ret_bool HE.out.symm, hb⟩


end Go.Proofs.Ytenjajcknmfhfaa

namespace Go.Proofs.Ytenjajcknmfhfaa
set_option linter.unusedVariables false
open Go.RowKit

theorem Try.info_int : (Try.prog.info? 3).map (fun i => (i.zero, i.size, i.bytes)) = some (some (.int .i64 0), 1, 8) := by kernel_rfl

set_option maxHeartbeats 1000000 in
theorem l1Has_any (v : Value) (xs : List Int) (x : Int) (w : World) (h : RowOf vI w v xs) :
    Calls Try.prog 93 #[v, .int .i64 x] w fun e w' => e = .returned (.bool (decide (x ∈ xs))) ∧ Below w.heap.size w w' := by
  have hcap := h.cap
  obtain ⟨a1, c1, rfl, hl1, hm1, r1⟩ := h
  have R1 := Lib.hid r1
  clear r1
  unfold maxLen at hm1
  go_enter Try.func93, Try.ntmps93
  go_wp2
  go_loopw [5] (fun i wr => ∃ k : Nat, k ≤ xs.length ∧ i = .int .i64 k ∧ Hid (¬ x ∈ xs.take k) ∧ Below w.heap.size w wr) (fun i _ => xs.length - (intOf i).toNat)
  case atStart => exact ⟨0, Nat.zero_le _, rfl, Lib.hid (by simp), Below.refl _ _⟩
  case round =>
    obtain ⟨k, hk, rfl, HN, hb⟩ := hrel
    by_cases hlt : k < xs.length
    · obtain ⟨b1, o1, hb1, rfl, e1⟩ := R1.out.resolve_left (fun e => by rw [e] at hlt; simp at hlt)
      obtain ⟨y, hy⟩ : ∃ s, xs[k] = s := ⟨_, rfl⟩
      have f1 := (hb.cell (p := ⟨b1, o1 + k, none⟩) hb1).trans (e1 k hlt)
      rw [hy] at f1
      simp only [vI] at f1
      have HY := Lib.hid hy
      have g0 : (0 : Int) ≤ (k : Int) := by omega
      have g1 : (k : Int) < (xs.length : Int) := by omega
      clear e1 hy
      by_cases he : y = x
      · have hq : (y == x) = true := by simp [he]
        have HE : Hid (x ∈ xs) := by rw [← he, ← HY.out]; exact List.getElem_mem hlt
        clear he
        go_wp2
        go_ret
        exact ⟨ret_bool (Eq.symm (decide_eq_true HE.out)), hb⟩
      · have hq : (y == x) = false := by simp [he]
        have HE : Hid (¬ x ∈ xs.take (k + 1)) := fun h => by
          rw [List.take_succ_eq_append_getElem hlt, List.mem_append, List.mem_singleton, HY.out] at h
          exact h.elim HN.out (fun h => he h.symm)
        clear he
        go_wp2
        go_roundw
        case rel => exact ⟨k + 1, by omega, by go_num, HE, hb⟩
        case measure => simp [intOf]; omega
    · have hkl : k = xs.length := by omega
      have HE : Hid (¬ x ∈ xs) := by have := HN.out; rwa [hkl, List.take_length] at this
      clear hkl
      go_wp2
      go_ret
      exact ⟨ret_bool (Eq.symm (decide_eq_false HE.out)), hb⟩

end Go.Proofs.Ytenjajcknmfhfaa

namespace Go.Proofs.Ytenjajcknmfhfaa
set_option linter.unusedVariables false
open Go.RowKit Go.Sort

set_option maxRecDepth 20000 in
set_option maxHeartbeats 4000000 in
theorem l9One_any (v : Value) (h : Ho) (w : World) (hv : HoV w v h) :
    Calls Try.prog 161 #[v] w fun e w' => e = .returned (.bool (hoOne h)) ∧ Below w.heap.size w w' := by
  obtain ⟨s, rfl, hr, hok⟩ := hv
  obtain ⟨x0, x1, x2, x3, x4, x5⟩ := h
  simp only at hr ⊢
  have hcap := hr.cap
  have HS := Lib.hid (show ∀ W, Below w.heap.size w W → RowOf vI W s x3 from fun W hW => hr.below hW)
  obtain ⟨sa, sc, rfl, _⟩ := hr
  obtain ⟨b0, h0⟩ : ∃ b, decide (1 ≤ x0 ∧ x0 ≤ 99) = b := ⟨_, rfl⟩
  obtain ⟨b1, h1⟩ : ∃ b, decide (0 ≤ x1 ∧ x1 ≤ 20000) = b := ⟨_, rfl⟩
  obtain ⟨b2, h2⟩ : ∃ b, decide (x1 + 1 ≤ x2 ∧ x2 ≤ 20000) = b := ⟨_, rfl⟩
  obtain ⟨b3, h3⟩ : ∃ b, risB 1 99 x3 = b := ⟨_, rfl⟩
  obtain ⟨b4, h4⟩ : ∃ b, decide (0 ≤ x4 ∧ x4 ≤ 20000) = b := ⟨_, rfl⟩
  obtain ⟨b5, h5⟩ : ∃ b, decide (x4 ≤ x5 ∧ x5 ≤ 20000) = b := ⟨_, rfl⟩
  have hr : hoOne ⟨x0, x1, x2, x3, x4, x5⟩ = (b0 && ((b1 && (decide (x2 = -1) || b2)) && ((decide (x3.length ≤ 5) && b3) && (b4 && b5)))) := by
    rw [← h0, ← h1, ← h2, ← h3, ← h4, ← h5, Bool.eq_iff_iff]
    simp only [hoOne_iff, Bool.and_eq_true, Bool.or_eq_true, decide_eq_true_eq]
  rw [hr]
  have HBX := Lib.hid (show ∀ W, Below (w.alloc (.cells #[.int .i64 x0, .int .i64 x1, .int .i64 x2, .slice sa x3.length sc, .int .i64 x4, .int .i64 x5] 140 (0, 0))).heap.size (w.alloc (.cells #[.int .i64 x0, .int .i64 x1, .int .i64 x2, .slice sa x3.length sc, .int .i64 x4, .int .i64 x5] 140 (0, 0))) W → W.cell? ⟨w.heap.size, 0, none⟩ = some (.int .i64 x0) ∧ W.cell? ⟨w.heap.size, 1, none⟩ = some (.int .i64 x1) ∧ W.cell? ⟨w.heap.size, 2, none⟩ = some (.int .i64 x2) ∧ W.cell? ⟨w.heap.size, 3, none⟩ = some (.slice sa x3.length sc) ∧ W.cell? ⟨w.heap.size, 4, none⟩ = some (.int .i64 x4) ∧ W.cell? ⟨w.heap.size, 5, none⟩ = some (.int .i64 x5) from
    fun W hW => ⟨cell_kept (cell_new w _ _ 0 rfl) hW, cell_kept (cell_new w _ _ 1 rfl) hW, cell_kept (cell_new w _ _ 2 rfl) hW, cell_kept (cell_new w _ _ 3 rfl) hW, cell_kept (cell_new w _ _ 4 rfl) hW, cell_kept (cell_new w _ _ 5 rfl) hW⟩)
  have H0 := Lib.hid h0
  have H1 := Lib.hid h1
  have H2 := Lib.hid h2
  have H3 := Lib.hid h3
  have H4 := Lib.hid h4
  have H5 := Lib.hid h5
  have hB : b1 = true → 0 ≤ x1 ∧ x1 ≤ 20000 := fun e => of_decide_eq_true (h1.trans e)
  clear h0 h1 h2 h3 h4 h5 hr hok
  cases b0
  · clear hB
    go_enter Try.func161, Try.ntmps161
    go_wp2_with (first | (go_at_call 79; refine (l1In_any _ _ _ _).mono ?_; (first | rw [H0.out] | rw [H2.out] | rw [H5.out]); rintro e w' ⟨rfl, rfl⟩))
    go_ret
    exact ⟨ret_bool (by rfl), below_al (Below.refl _ _) _⟩
  · cases b1
    · clear hB
      go_enter Try.func161, Try.ntmps161
      go_wp2_with (first | (go_at_call 79; refine (l1In_any _ _ _ _).mono ?_; (first | rw [H0.out] | rw [H2.out] | rw [H5.out]); rintro e w' ⟨rfl, rfl⟩) | (go_at_call 115; refine (l2Day_any _ _).mono ?_; (first | rw [H1.out] | rw [H4.out]); rintro e w' ⟨rfl, h'⟩; subst h'))
      go_ret
      exact ⟨ret_bool (by rfl), below_al (Below.refl _ _) _⟩
    · have hB2 := hB rfl
      have hB3 := hB2.1
      have hB4 := hB2.2
      have hw1 : IntKind.i64.wrap (x1 + 1) = x1 + 1 := Go.IntWalk.i64_in _ (by omega)
      clear hB hB2
      by_cases hu : x2 = -1
      · have hq : (x2 != -1) = false := by simp [hu]
        have HU := Lib.hid hu
        clear hu
        by_cases hl : x3.length ≤ 5
        · have hl2 : (x3.length : Int) ≤ 5 := by omega
          have HLE := Lib.hid hl
          clear hl
          cases b3
          · skip
            go_enter Try.func161, Try.ntmps161
            go_wp2_with (first | (go_at_call 79; refine (l1In_any _ _ _ _).mono ?_; (first | rw [H0.out] | rw [H2.out] | rw [H5.out]); rintro e w' ⟨rfl, rfl⟩) | (go_at_call 115; refine (l2Day_any _ _).mono ?_; (first | rw [H1.out] | rw [H4.out]); rintro e w' ⟨rfl, h'⟩; subst h') | (go_at_call 87; refine (l1Rising_any _ x3 1 99 _ (HS.out _ (below_al (Below.refl _ _) _))).mono ?_; rw [H3.out]; rintro e w3 ⟨rfl, b3⟩; obtain ⟨c0, c1, c2, c3, c4, c5⟩ := HBX.out _ b3))
            go_ret
            exact ⟨ret_bool (by simp [HLE.out]), below_chain (below_al (Below.refl _ _) _) b3⟩
          · cases b4
            · skip
              go_enter Try.func161, Try.ntmps161
              go_wp2_with (first | (go_at_call 79; refine (l1In_any _ _ _ _).mono ?_; (first | rw [H0.out] | rw [H2.out] | rw [H5.out]); rintro e w' ⟨rfl, rfl⟩) | (go_at_call 115; refine (l2Day_any _ _).mono ?_; (first | rw [H1.out] | rw [H4.out]); rintro e w' ⟨rfl, h'⟩; subst h') | (go_at_call 87; refine (l1Rising_any _ x3 1 99 _ (HS.out _ (below_al (Below.refl _ _) _))).mono ?_; rw [H3.out]; rintro e w3 ⟨rfl, b3⟩; obtain ⟨c0, c1, c2, c3, c4, c5⟩ := HBX.out _ b3))
              go_ret
              exact ⟨ret_bool (by simp [HLE.out]), below_chain (below_al (Below.refl _ _) _) b3⟩
            · skip
              go_enter Try.func161, Try.ntmps161
              go_wp2_with (first | (go_at_call 79; refine (l1In_any _ _ _ _).mono ?_; (first | rw [H0.out] | rw [H2.out] | rw [H5.out]); rintro e w' ⟨rfl, rfl⟩) | (go_at_call 115; refine (l2Day_any _ _).mono ?_; (first | rw [H1.out] | rw [H4.out]); rintro e w' ⟨rfl, h'⟩; subst h') | (go_at_call 87; refine (l1Rising_any _ x3 1 99 _ (HS.out _ (below_al (Below.refl _ _) _))).mono ?_; rw [H3.out]; rintro e w3 ⟨rfl, b3⟩; obtain ⟨c0, c1, c2, c3, c4, c5⟩ := HBX.out _ b3))
              go_ret
              exact ⟨ret_bool (by simp [HLE.out, HU.out]), below_chain (below_al (Below.refl _ _) _) b3⟩
        · have hl2 : ¬ (x3.length : Int) ≤ 5 := by omega
          have HLE := Lib.hid hl
          clear hl
          go_enter Try.func161, Try.ntmps161
          go_wp2_with (first | (go_at_call 79; refine (l1In_any _ _ _ _).mono ?_; (first | rw [H0.out] | rw [H2.out] | rw [H5.out]); rintro e w' ⟨rfl, rfl⟩) | (go_at_call 115; refine (l2Day_any _ _).mono ?_; (first | rw [H1.out] | rw [H4.out]); rintro e w' ⟨rfl, h'⟩; subst h'))
          go_ret
          exact ⟨ret_bool (by simp [HLE.out]), below_al (Below.refl _ _) _⟩
      · have hq : (x2 != -1) = true := by simp [hu]
        have HU := Lib.hid hu
        clear hu
        cases b2
        · skip
          go_enter Try.func161, Try.ntmps161
          go_wp2_with (first | (go_at_call 79; refine (l1In_any _ _ _ _).mono ?_; (first | rw [H0.out] | rw [H2.out] | rw [H5.out]); rintro e w' ⟨rfl, rfl⟩) | (go_at_call 115; refine (l2Day_any _ _).mono ?_; (first | rw [H1.out] | rw [H4.out]); rintro e w' ⟨rfl, h'⟩; subst h'))
          go_ret
          exact ⟨ret_bool (by simp [HU.out]), below_al (Below.refl _ _) _⟩
        · skip
          by_cases hl : x3.length ≤ 5
          · have hl2 : (x3.length : Int) ≤ 5 := by omega
            have HLE := Lib.hid hl
            clear hl
            cases b3
            · skip
              go_enter Try.func161, Try.ntmps161
              go_wp2_with (first | (go_at_call 79; refine (l1In_any _ _ _ _).mono ?_; (first | rw [H0.out] | rw [H2.out] | rw [H5.out]); rintro e w' ⟨rfl, rfl⟩) | (go_at_call 115; refine (l2Day_any _ _).mono ?_; (first | rw [H1.out] | rw [H4.out]); rintro e w' ⟨rfl, h'⟩; subst h') | (go_at_call 87; refine (l1Rising_any _ x3 1 99 _ (HS.out _ (below_al (Below.refl _ _) _))).mono ?_; rw [H3.out]; rintro e w3 ⟨rfl, b3⟩; obtain ⟨c0, c1, c2, c3, c4, c5⟩ := HBX.out _ b3))
              go_ret
              exact ⟨ret_bool (by simp [HLE.out]), below_chain (below_al (Below.refl _ _) _) b3⟩
            · cases b4
              · skip
                go_enter Try.func161, Try.ntmps161
                go_wp2_with (first | (go_at_call 79; refine (l1In_any _ _ _ _).mono ?_; (first | rw [H0.out] | rw [H2.out] | rw [H5.out]); rintro e w' ⟨rfl, rfl⟩) | (go_at_call 115; refine (l2Day_any _ _).mono ?_; (first | rw [H1.out] | rw [H4.out]); rintro e w' ⟨rfl, h'⟩; subst h') | (go_at_call 87; refine (l1Rising_any _ x3 1 99 _ (HS.out _ (below_al (Below.refl _ _) _))).mono ?_; rw [H3.out]; rintro e w3 ⟨rfl, b3⟩; obtain ⟨c0, c1, c2, c3, c4, c5⟩ := HBX.out _ b3))
                go_ret
                exact ⟨ret_bool (by simp [HLE.out]), below_chain (below_al (Below.refl _ _) _) b3⟩
              · skip
                go_enter Try.func161, Try.ntmps161
                go_wp2_with (first | (go_at_call 79; refine (l1In_any _ _ _ _).mono ?_; (first | rw [H0.out] | rw [H2.out] | rw [H5.out]); rintro e w' ⟨rfl, rfl⟩) | (go_at_call 115; refine (l2Day_any _ _).mono ?_; (first | rw [H1.out] | rw [H4.out]); rintro e w' ⟨rfl, h'⟩; subst h') | (go_at_call 87; refine (l1Rising_any _ x3 1 99 _ (HS.out _ (below_al (Below.refl _ _) _))).mono ?_; rw [H3.out]; rintro e w3 ⟨rfl, b3⟩; obtain ⟨c0, c1, c2, c3, c4, c5⟩ := HBX.out _ b3))
                go_ret
                exact ⟨ret_bool (by simp [HLE.out]), below_chain (below_al (Below.refl _ _) _) b3⟩
          · have hl2 : ¬ (x3.length : Int) ≤ 5 := by omega
            have HLE := Lib.hid hl
            clear hl
            go_enter Try.func161, Try.ntmps161
            go_wp2_with (first | (go_at_call 79; refine (l1In_any _ _ _ _).mono ?_; (first | rw [H0.out] | rw [H2.out] | rw [H5.out]); rintro e w' ⟨rfl, rfl⟩) | (go_at_call 115; refine (l2Day_any _ _).mono ?_; (first | rw [H1.out] | rw [H4.out]); rintro e w' ⟨rfl, h'⟩; subst h'))
            go_ret
            exact ⟨ret_bool (by simp [HLE.out]), below_al (Below.refl _ _) _⟩

set_option maxRecDepth 20000 in
set_option maxHeartbeats 4000000 in
theorem l9Good_any (v : Value) (t : List Ho) (w : World) (h : RowR 6 rHo w v t) :
    Calls Try.prog 127 #[v] w fun e w' => e = .returned (.bool (areHo t)) ∧ Below w.heap.size w w' := by
  have hcap := h.cap
  obtain ⟨a1, c1, hv, hl1, hm1, r1⟩ := h.hos
  subst hv
  have R1 := Lib.hid r1
  clear h r1
  unfold maxLen at hm1
  go_enter Try.func127, Try.ntmps127
  go_wp2
  go_loopw [3] (fun i wr => ∃ k : Nat, k ≤ t.length ∧ i = .int .i64 k ∧ Hid (upto (hoAtB t) k = true) ∧ Below w.heap.size w wr) (fun i _ => t.length - (intOf i).toNat)
  case atStart => exact ⟨0, Nat.zero_le _, rfl, Lib.hid (by simp [upto]), Below.refl _ _⟩
  case round =>
    obtain ⟨k, hk, rfl, HU, hb⟩ := hrel
    by_cases hlt : k < t.length
    · obtain ⟨b1, o1, hb1, rfl, e1⟩ := R1.out.resolve_left (fun e => by rw [e] at hlt; simp at hlt)
      obtain ⟨⟨x0, x1, x2, x3, x4, x5⟩, hx⟩ : ∃ s, t.getD k hoD = s := ⟨_, rfl⟩
      obtain ⟨s, q0, q1, q2, q3, q4, q5, hr, hok⟩ := e1 k hlt
      rw [hx] at q0 q1 q2 q4 q5 hr hok
      simp only at q0 q1 q2 q4 q5 hr
      have hV : HoV wr (.agg #[.int .i64 x0, .int .i64 x1, .int .i64 x2, s, .int .i64 x4, .int .i64 x5]) ⟨x0, x1, x2, x3, x4, x5⟩ := ⟨s, rfl, hr.below hb, hok⟩
      have m0 := cell_regrown (cell_kept q0 hb)
      have m1 := cell_regrown (cell_kept q1 hb)
      have m2 := cell_regrown (cell_kept q2 hb)
      have m3 := cell_regrown (cell_kept q3 hb)
      have m4 := cell_regrown (cell_kept q4 hb)
      have m5 := cell_regrown (cell_kept q5 hb)
      have hAT := hoAt_iff hx
      have HX := Lib.hid hx
      have g0 : (0 : Int) ≤ (k : Int) := by omega
      have g1 : (k : Int) < (t.length : Int) := by omega
      have hw := hb.size
      obtain ⟨bF, hbF⟩ : ∃ b, hoOne ⟨x0, x1, x2, x3, x4, x5⟩ = b := ⟨_, rfl⟩
      have HID : Hid (bF = true → (0 : Int) < x0) := Lib.hid (fun e => by rw [← hbF] at e; have := (hoOne_iff.1 e).1.1; simp only at this; omega)
      rw [hbF] at hAT
      have hc : ∀ d os, Calls Try.prog 161 #[.agg #[.int .i64 x0, .int .i64 x1, .int .i64 x2, s, .int .i64 x4, .int .i64 x5]] (grow (redrawn wr d) os) fun e w'' => e = .returned (.bool bF) ∧ ∃ p : Regrown, w'' = grow (redrawn wr p.d) p.os := fun d os => Calls.regrown_of (by have := l9One_any _ _ (grow (redrawn wr d) os) (hV.below (below_regrown wr d os)); rwa [hbF] at this)
      have HAT := Lib.hid hAT
      obtain ⟨sa, sc, rfl, _⟩ := hr
      clear q0 q1 q2 q3 q4 q5 hok hx hbF hV hAT
      cases bF
      · have HNT : Hid (areHo t = false) := Lib.hid (notHo hlt (by rw [Bool.eq_false_iff]; intro hc; have := (HAT.out.1 hc).1; cases this))
        go_wp2_with fail
        refine wp_region_quiet_below (by kernel_rfl) (by kernel_rfl) ?_
        repeat (go_big_quiet_step (first | exact hc _ _))
        refine wpQuiet_nil ?_
        intro _ hw'
        obtain ⟨⟨dq, osq⟩, hw''⟩ := hw'
        subst hw''
        have bq := below_regrown wr dq osq
        generalize grow (redrawn wr dq) osq = w2 at bq ⊢
        go_wp2
        go_ret
        exact ⟨ret_bool HNT.out.symm, hb.trans (bq.mono hw)⟩
      · rcases Nat.eq_zero_or_pos k with hk0 | hk0
        · have dk : decide ((0 : Int) < (k : Int)) = false := decide_eq_false (by omega)
          have dk2 : decide (0 < k) = false := decide_eq_false (by omega)
          have HU2 : Hid (upto (hoAtB t) (k + 1) = true) := Lib.hid (upto_succ HU.out (HAT.out.2 ⟨rfl, by rw [hk0]; exact HID.out rfl⟩))
          clear hk0
          go_wp2_with fail
          refine wp_region_quiet_below (by kernel_rfl) (by kernel_rfl) ?_
          repeat (go_big_quiet_step (first | exact hc _ _))
          refine wpQuiet_nil ?_
          intro _ hw'
          obtain ⟨⟨dq, osq⟩, hw''⟩ := hw'
          subst hw''
          have bq := below_regrown wr dq osq
          generalize grow (redrawn wr dq) osq = w2 at bq ⊢
          go_wp2
          go_roundw
          case rel => exact ⟨k + 1, by omega, by go_num, HU2, hb.trans (bq.mono hw)⟩
          case measure => simp [intOf]; omega
        · obtain ⟨L, rfl⟩ : ∃ L, k = L + 1 := ⟨k - 1, by omega⟩
          obtain ⟨y0, hy⟩ : ∃ y, (t.getD L hoD).id = y := ⟨_, rfl⟩
          obtain ⟨_, p0, _⟩ := e1 L (by omega)
          rw [hy] at p0
          have n0 := cell_regrown (cell_kept p0 hb)
          have gl : ((L + 1 : Nat) : Int) - 1 = (L : Int) := by omega
          have gL0 : (0 : Int) ≤ (L : Int) := by omega
          have gL1 : (L : Int) < (t.length : Int) := by omega
          have dk : (0 : Int) < (L : Int) + 1 := by omega
          have hpv : prevHo t (L + 1) = y0 := hy
          by_cases hP : x0 ≤ y0
          · have HNT : Hid (areHo t = false) := Lib.hid (notHo hlt (by rw [Bool.eq_false_iff]; intro hc; have h2 := (HAT.out.1 hc).2; rw [hpv] at h2; simp only at h2; omega))
            clear hpv hy hk0 p0 e1
            go_wp2_with fail
            refine wp_region_quiet_below (by kernel_rfl) (by kernel_rfl) ?_
            repeat (go_big_quiet_step (first | exact hc _ _))
            refine wpQuiet_nil ?_
            intro _ hw'
            obtain ⟨⟨dq, osq⟩, hw''⟩ := hw'
            subst hw''
            have bq := below_regrown wr dq osq
            generalize grow (redrawn wr dq) osq = w2 at bq ⊢
            go_wp2
            go_ret
            exact ⟨ret_bool HNT.out.symm, hb.trans (bq.mono hw)⟩
          · have HU2 : Hid (upto (hoAtB t) (L + 1 + 1) = true) := Lib.hid (upto_succ HU.out (HAT.out.2 ⟨rfl, by rw [hpv]; simp only; omega⟩))
            have dP : decide (x0 ≤ y0) = false := decide_eq_false hP
            clear hpv hy hk0 p0 e1
            go_wp2_with fail
            refine wp_region_quiet_below (by kernel_rfl) (by kernel_rfl) ?_
            repeat (go_big_quiet_step (first | exact hc _ _))
            refine wpQuiet_nil ?_
            intro _ hw'
            obtain ⟨⟨dq, osq⟩, hw''⟩ := hw'
            subst hw''
            have bq := below_regrown wr dq osq
            generalize grow (redrawn wr dq) osq = w2 at bq ⊢
            go_wp2
            go_roundw
            case rel => exact ⟨L + 1 + 1, by omega, by go_num, HU2, hb.trans (bq.mono hw)⟩
            case measure => simp [intOf]; omega
    · have hkl : k = t.length := by omega
      have HE : Hid (areHo t = decide (t.length ≤ 8)) := Lib.hid (ho_upto (by have := HU.out; rwa [hkl] at this))
      clear hkl
      by_cases h8 : t.length ≤ 8
      · have g8 : (t.length : Int) ≤ 8 := by omega
        have HE2 := Lib.hid (HE.out.trans (decide_eq_true h8))
        clear h8
        go_wp2
        go_ret
        exact ⟨ret_bool HE2.out.symm, hb⟩
      · have g8 : ¬ (t.length : Int) ≤ 8 := by omega
        have HE2 := Lib.hid (HE.out.trans (decide_eq_false h8))
        clear h8
        go_wp2
        go_ret
        exact ⟨ret_bool HE2.out.symm, hb⟩

set_option maxRecDepth 20000 in
set_option maxHeartbeats 4000000 in
theorem l9Covers_any (v v1 : Value) (h : Ho) (r : Rec) (d : Int) (w : World) (hv : HoV w v h) (h1 : RecV w v1 r) (hd : d ≤ 20000) :
    Calls Try.prog 160 #[v, v1, .int .i64 d] w fun e w' => e = .returned (.bool (covB h r d)) ∧ Below w.heap.size w w' := by
  obtain ⟨s, rfl, hr, hok⟩ := hv
  obtain ⟨s2, rfl, hr2, hok2⟩ := h1
  obtain ⟨x0, x1, x2, x3, x4, x5⟩ := h
  obtain ⟨y0, y1, y2, y3⟩ := r
  simp only at hr hr2 ⊢
  have hcap := hr.cap
  have HS := Lib.hid (show ∀ W, Below w.heap.size w W → RowOf vI W s x3 from fun W hW => hr.below hW)
  obtain ⟨sa, sc, rfl, _⟩ := hr
  obtain ⟨sb, sd, rfl, _⟩ := hr2
  obtain ⟨b3, h3⟩ : ∃ b, decide (y1 ∈ x3) = b := ⟨_, rfl⟩
  obtain ⟨b5, h5⟩ : ∃ b, decide (x4 ≤ y2 ∧ y2 ≤ x5) = b := ⟨_, rfl⟩
  obtain ⟨bf, hf⟩ : ∃ b, decide (x1 ≤ d ∧ (x2 = -1 ∨ d < x2)) = b := ⟨_, rfl⟩
  have hres : covB ⟨x0, x1, x2, x3, x4, x5⟩ ⟨y0, y1, y2, y3⟩ d = (bf && ((decide (x3.length = 0) || b3) && b5)) := by
    unfold covB conB
    rw [← force_eq (h := ⟨x0, x1, x2, x3, x4, x5⟩) hd]
    simp only
    rw [hf, h3, h5]
  rw [hres]
  have H3 := Lib.hid h3
  have H5 := Lib.hid h5
  have HF := Lib.hid hf
  generalize hW0 : (w.alloc (.cells #[.int .i64 x0, .int .i64 x1, .int .i64 x2, .slice sa x3.length sc, .int .i64 x4, .int .i64 x5] 140 (0, 0))).alloc (.cells #[.int .i64 y0, .int .i64 y1, .int .i64 y2, .slice sb y3.length sd] 63 (0, 0)) = W0
  have bW : Below w.heap.size w W0 := by rw [← hW0]; exact below_al (below_al (Below.refl _ _) _) _
  have HBX := Lib.hid (show ∀ W, Below W0.heap.size W0 W → W.cell? ⟨w.heap.size, 0, none⟩ = some (.int .i64 x0) ∧ W.cell? ⟨w.heap.size, 4, none⟩ = some (.int .i64 x4) ∧ W.cell? ⟨w.heap.size, 5, none⟩ = some (.int .i64 x5) ∧ W.cell? ⟨w.heap.size + 1, 2, none⟩ = some (.int .i64 y2) from
    fun W hW => by
      subst hW0
      exact ⟨cell_kept (below_al_cell (cell_new w _ _ 0 rfl) _) hW, cell_kept (below_al_cell (cell_new w _ _ 4 rfl) _) hW, cell_kept (below_al_cell (cell_new w _ _ 5 rfl) _) hW, cell_kept (by simp) hW⟩)
  have BW := Lib.hid bW
  have HEQ := Lib.hid hW0
  clear h3 h5 hf hres hok hok2 hW0 bW
  by_cases f1 : x1 ≤ d
  · by_cases f2 : x2 = -1
    · have hq : (x2 == -1) = true := by simp [f2]
      have HBF : Hid (bf = true) := Lib.hid (by rw [← HF.out]; exact decide_eq_true ⟨f1, .inl f2⟩)
      clear f2
      obtain rfl : bf = true := HBF.out
      by_cases hl : x3.length = 0
      · have hl2 : (x3.length : Int) = 0 := by omega
        have hq2 : ((x3.length : Int) == 0) = true := by simp [hl2]
        have HL := Lib.hid hl
        clear hl hl2
        go_enter Try.func160, Try.ntmps160
        go_wp2_with (first | (go_at_call 93; refine (l1Has_any _ x3 y1 _ (HS.out _ (below_al (below_al (Below.refl _ _) _) _))).mono ?_; rw [H3.out, HEQ.out]; rintro e w3 ⟨rfl, b3⟩; obtain ⟨c0, c4, c5, c6⟩ := HBX.out _ b3) | (go_at_call 79; refine (l1In_any _ _ _ _).mono ?_; rw [H5.out]; rintro e w' ⟨rfl, rfl⟩))
        go_ret
        exact ⟨ret_bool (by simp [HL.out]), below_al (below_al (Below.refl _ _) _) _⟩
      · have hq2 : ((x3.length : Int) == 0) = false := beq_false_of_ne (by omega)
        have HL := Lib.hid hl
        clear hl
        cases b3
        · skip
          go_enter Try.func160, Try.ntmps160
          go_wp2_with (first | (go_at_call 93; refine (l1Has_any _ x3 y1 _ (HS.out _ (below_al (below_al (Below.refl _ _) _) _))).mono ?_; rw [H3.out, HEQ.out]; rintro e w3 ⟨rfl, b3⟩; obtain ⟨c0, c4, c5, c6⟩ := HBX.out _ b3) | (go_at_call 79; refine (l1In_any _ _ _ _).mono ?_; rw [H5.out]; rintro e w' ⟨rfl, rfl⟩))
          go_ret
          exact ⟨ret_bool (by simp [HL.out]), BW.out.trans (b3.mono BW.out.size)⟩
        · skip
          go_enter Try.func160, Try.ntmps160
          go_wp2_with (first | (go_at_call 93; refine (l1Has_any _ x3 y1 _ (HS.out _ (below_al (below_al (Below.refl _ _) _) _))).mono ?_; rw [H3.out, HEQ.out]; rintro e w3 ⟨rfl, b3⟩; obtain ⟨c0, c4, c5, c6⟩ := HBX.out _ b3) | (go_at_call 79; refine (l1In_any _ _ _ _).mono ?_; rw [H5.out]; rintro e w' ⟨rfl, rfl⟩))
          go_ret
          exact ⟨ret_bool (by simp), BW.out.trans (b3.mono BW.out.size)⟩
    · have hq : (x2 == -1) = false := by simp [f2]
      by_cases f3 : d < x2
      · have HBF : Hid (bf = true) := Lib.hid (by rw [← HF.out]; exact decide_eq_true ⟨f1, .inr f3⟩)
        clear f2
        obtain rfl : bf = true := HBF.out
        by_cases hl : x3.length = 0
        · have hl2 : (x3.length : Int) = 0 := by omega
          have hq2 : ((x3.length : Int) == 0) = true := by simp [hl2]
          have HL := Lib.hid hl
          clear hl hl2
          go_enter Try.func160, Try.ntmps160
          go_wp2_with (first | (go_at_call 93; refine (l1Has_any _ x3 y1 _ (HS.out _ (below_al (below_al (Below.refl _ _) _) _))).mono ?_; rw [H3.out, HEQ.out]; rintro e w3 ⟨rfl, b3⟩; obtain ⟨c0, c4, c5, c6⟩ := HBX.out _ b3) | (go_at_call 79; refine (l1In_any _ _ _ _).mono ?_; rw [H5.out]; rintro e w' ⟨rfl, rfl⟩))
          go_ret
          exact ⟨ret_bool (by simp [HL.out]), below_al (below_al (Below.refl _ _) _) _⟩
        · have hq2 : ((x3.length : Int) == 0) = false := beq_false_of_ne (by omega)
          have HL := Lib.hid hl
          clear hl
          cases b3
          · skip
            go_enter Try.func160, Try.ntmps160
            go_wp2_with (first | (go_at_call 93; refine (l1Has_any _ x3 y1 _ (HS.out _ (below_al (below_al (Below.refl _ _) _) _))).mono ?_; rw [H3.out, HEQ.out]; rintro e w3 ⟨rfl, b3⟩; obtain ⟨c0, c4, c5, c6⟩ := HBX.out _ b3) | (go_at_call 79; refine (l1In_any _ _ _ _).mono ?_; rw [H5.out]; rintro e w' ⟨rfl, rfl⟩))
            go_ret
            exact ⟨ret_bool (by simp [HL.out]), BW.out.trans (b3.mono BW.out.size)⟩
          · skip
            go_enter Try.func160, Try.ntmps160
            go_wp2_with (first | (go_at_call 93; refine (l1Has_any _ x3 y1 _ (HS.out _ (below_al (below_al (Below.refl _ _) _) _))).mono ?_; rw [H3.out, HEQ.out]; rintro e w3 ⟨rfl, b3⟩; obtain ⟨c0, c4, c5, c6⟩ := HBX.out _ b3) | (go_at_call 79; refine (l1In_any _ _ _ _).mono ?_; rw [H5.out]; rintro e w' ⟨rfl, rfl⟩))
            go_ret
            exact ⟨ret_bool (by simp), BW.out.trans (b3.mono BW.out.size)⟩
      · have HBF : Hid (bf = false) := Lib.hid (by rw [← HF.out]; exact decide_eq_false (fun h => by rcases h.2 with h | h <;> contradiction))
        clear f2
        obtain rfl : bf = false := HBF.out
        go_enter Try.func160, Try.ntmps160
        go_wp2_with (first | (go_at_call 93; refine (l1Has_any _ x3 y1 _ (HS.out _ (below_al (below_al (Below.refl _ _) _) _))).mono ?_; rw [H3.out, HEQ.out]; rintro e w3 ⟨rfl, b3⟩; obtain ⟨c0, c4, c5, c6⟩ := HBX.out _ b3) | (go_at_call 79; refine (l1In_any _ _ _ _).mono ?_; rw [H5.out]; rintro e w' ⟨rfl, rfl⟩))
        go_ret
        exact ⟨ret_bool (by rfl), below_al (below_al (Below.refl _ _) _) _⟩
  · have HBF : Hid (bf = false) := Lib.hid (by rw [← HF.out]; exact decide_eq_false (fun h => f1 h.1))
    obtain rfl : bf = false := HBF.out
    go_enter Try.func160, Try.ntmps160
    go_wp2_with (first | (go_at_call 93; refine (l1Has_any _ x3 y1 _ (HS.out _ (below_al (below_al (Below.refl _ _) _) _))).mono ?_; rw [H3.out, HEQ.out]; rintro e w3 ⟨rfl, b3⟩; obtain ⟨c0, c4, c5, c6⟩ := HBX.out _ b3) | (go_at_call 79; refine (l1In_any _ _ _ _).mono ?_; rw [H5.out]; rintro e w' ⟨rfl, rfl⟩))
    go_ret
    exact ⟨ret_bool (by rfl), below_al (below_al (Below.refl _ _) _) _⟩
end Go.Proofs.Ytenjajcknmfhfaa

namespace Go.Proofs.Ytenjajcknmfhfaa
set_option linter.unusedVariables false
open Go.RowKit Go.Sort

set_option maxRecDepth 20000 in
set_option maxHeartbeats 4000000 in
theorem l9Asked_any (v v1 : Value) (t : List Ho) (r : Rec) (d : Int) (w : World) (h : RowR 6 rHo w v t) (h1 : RecV w v1 r) :
    Calls Try.prog 122 #[v, v1, .int .i64 d] w fun e w' => e = .returned (.bool (askH t r d)) ∧ Below w.heap.size w w' := by
  obtain ⟨s, rfl, hr, hok⟩ := h1
  obtain ⟨y0, y1, y2, y3⟩ := r
  simp only at hr ⊢
  have HV := Lib.hid (show ∀ W, Below w.heap.size w W → RecV W (.agg #[.int .i64 y0, .int .i64 y1, .int .i64 y2, s]) ⟨y0, y1, y2, y3⟩ from fun W hW => ⟨s, rfl, hr.below rEv_stable hW, hok⟩)
  obtain ⟨sb, sd, rfl, _⟩ := hr
  have HBX := Lib.hid (show ∀ W, Below (w.alloc (.cells #[.int .i64 y0, .int .i64 y1, .int .i64 y2, .slice sb y3.length sd] 63 (0, 0))).heap.size (w.alloc (.cells #[.int .i64 y0, .int .i64 y1, .int .i64 y2, .slice sb y3.length sd] 63 (0, 0))) W → W.cell? ⟨w.heap.size, 0, none⟩ = some (.int .i64 y0) ∧ W.cell? ⟨w.heap.size, 1, none⟩ = some (.int .i64 y1) ∧ W.cell? ⟨w.heap.size, 2, none⟩ = some (.int .i64 y2) ∧ W.cell? ⟨w.heap.size, 3, none⟩ = some (.slice sb y3.length sd) from
    fun W hW => ⟨cell_kept (cell_new w _ _ 0 rfl) hW, cell_kept (cell_new w _ _ 1 rfl) hW, cell_kept (cell_new w _ _ 2 rfl) hW, cell_kept (cell_new w _ _ 3 rfl) hW⟩)
  have H := Lib.hid h
  obtain ⟨bg, hg⟩ : ∃ b, areHo t = b := ⟨_, rfl⟩
  obtain ⟨br, hrr⟩ : ∃ b, isRec ⟨y0, y1, y2, y3⟩ = b := ⟨_, rfl⟩
  obtain ⟨bd, hd⟩ : ∃ b, decide (0 ≤ d ∧ d ≤ 20000) = b := ⟨_, rfl⟩
  have hres : askH t ⟨y0, y1, y2, y3⟩ d = (bg && (br && bd)) := by unfold askH; rw [hg, hrr, hd]
  rw [hres]
  have HG := Lib.hid hg
  have HR := Lib.hid hrr
  have HD := Lib.hid hd
  clear h hg hrr hd hres hok
  cases bg
  · skip
    go_enter Try.func122, Try.ntmps122
    go_wp2_with (first | (go_at_call 127; refine (l9Good_any _ t _ (H.out.below rHo_stable (below_al (Below.refl _ _) _))).mono ?_; rw [HG.out]; rintro e w1 ⟨rfl, b1⟩; obtain ⟨c0, c1, c2, c3⟩ := HBX.out _ b1))
    go_ret
    exact ⟨rfl, below_chain (below_al (Below.refl _ _) _) b1⟩
  · cases br
    · skip
      go_enter Try.func122, Try.ntmps122
      go_wp2_with (first | (go_at_call 127; refine (l9Good_any _ t _ (H.out.below rHo_stable (below_al (Below.refl _ _) _))).mono ?_; rw [HG.out]; rintro e w1 ⟨rfl, b1⟩; obtain ⟨c0, c1, c2, c3⟩ := HBX.out _ b1) | (go_at_call 158; refine (l2Record_any _ ⟨y0, y1, y2, y3⟩ _ (HV.out _ (below_chain (below_al (Below.refl _ _) _) b1))).mono ?_; rw [HR.out]; rintro e w2 ⟨rfl, b2⟩; replace b1 := b1.trans (b2.mono b1.size)))
      go_ret
      exact ⟨rfl, below_chain (below_al (Below.refl _ _) _) b1⟩
    · skip
      go_enter Try.func122, Try.ntmps122
      go_wp2_with (first | (go_at_call 127; refine (l9Good_any _ t _ (H.out.below rHo_stable (below_al (Below.refl _ _) _))).mono ?_; rw [HG.out]; rintro e w1 ⟨rfl, b1⟩; obtain ⟨c0, c1, c2, c3⟩ := HBX.out _ b1) | (go_at_call 158; refine (l2Record_any _ ⟨y0, y1, y2, y3⟩ _ (HV.out _ (below_chain (below_al (Below.refl _ _) _) b1))).mono ?_; rw [HR.out]; rintro e w2 ⟨rfl, b2⟩; replace b1 := b1.trans (b2.mono b1.size)) | (go_at_call 115; refine (l2Day_any _ _).mono ?_; rw [HD.out]; rintro e w3 ⟨rfl, h3⟩; subst w3))
      go_ret
      exact ⟨rfl, below_chain (below_al (Below.refl _ _) _) b1⟩

set_option maxRecDepth 20000 in
set_option maxHeartbeats 4000000 in
theorem l9On_any (v v1 : Value) (t : List Ho) (r : Rec) (d : Int) (w : World) (h : RowR 6 rHo w v t) (h1 : RecV w v1 r) (hn : t.length ≤ 1048576) (hd : d ≤ 20000) :
    Calls Try.prog 125 #[v, v1, .int .i64 d] w fun e w' => ∃ v', e = .returned v' ∧ IntsO w.heap.size w'.heap.size w' v' (onHo t r d) ∧ Below w.heap.size w w' := by
  obtain ⟨i0, hi, hz0, hz1, hz2⟩ := info_parts Try.info_intI
  obtain ⟨s, rfl, hr, hok⟩ := h1
  obtain ⟨y0, y1, y2, y3⟩ := r
  simp only at hr ⊢
  have HV := Lib.hid (show ∀ W, Below w.heap.size w W → RecV W (.agg #[.int .i64 y0, .int .i64 y1, .int .i64 y2, s]) ⟨y0, y1, y2, y3⟩ from fun W hW => ⟨s, rfl, hr.below rEv_stable hW, hok⟩)
  obtain ⟨sb, sd, rfl, _⟩ := hr
  obtain ⟨a1, c1, rfl, hl1, hm1, r1⟩ := h.hos
  have R1 := Lib.hid r1
  have HDD := Lib.hid hd
  clear h r1 hok hd
  unfold maxLen at hm1
  go_enter Try.func125, Try.ntmps125
  go_wp2_with fail
  generalize hW1 : w.alloc (.cells #[.int .i64 y0, .int .i64 y1, .int .i64 y2, .slice sb y3.length sd] 63 (0, 0)) = W1
  have bW : Below w.heap.size w W1 := by rw [← hW1]; exact below_al (Below.refl _ _) _
  have z0 : W1.cell? ⟨w.heap.size, 0, none⟩ = some (.int .i64 y0) := by rw [← hW1]; exact cell_new w _ _ 0 rfl
  have z1 : W1.cell? ⟨w.heap.size, 1, none⟩ = some (.int .i64 y1) := by rw [← hW1]; exact cell_new w _ _ 1 rfl
  have z2 : W1.cell? ⟨w.heap.size, 2, none⟩ = some (.int .i64 y2) := by rw [← hW1]; exact cell_new w _ _ 2 rfl
  have z3 : W1.cell? ⟨w.heap.size, 3, none⟩ = some (.slice sb y3.length sd) := by rw [← hW1]; exact cell_new w _ _ 3 rfl
  have hsW := bW.size
  have HSW := Lib.hid (show W1.heap.size = w.heap.size + 1 by rw [← hW1]; simp)
  clear hW1
  have HI0 := Lib.hid (ints_newK W1).1
  go_loopw [7, 8] (fun o i wr => ∃ k : Nat, k ≤ t.length ∧ i = .int .i64 k ∧ wr.ownsRow W1.heap.size 3 1 o (onHo (t.take k) ⟨y0, y1, y2, y3⟩ d).length ((onHo (t.take k) ⟨y0, y1, y2, y3⟩ d).map vI) ∧ Below W1.heap.size W1 wr) (fun _ i _ => t.length - (intOf i).toNat)
  case atStart => exact ⟨0, Nat.zero_le _, rfl, by have h0 := HI0.out; rw [← HSW.out]; simpa [onHo] using h0, below_al (Below.refl _ _) _⟩
  case round =>
    obtain ⟨k, hk, rfl, hO, hb⟩ := hrel
    have hbw := bW.trans (hb.mono hsW)
    have hsz := hb.size
    by_cases hlt : k < t.length
    · obtain ⟨bR, oR, hbR, rfl, e1⟩ := R1.out.resolve_left (fun e => by rw [e] at hlt; simp at hlt)
      obtain ⟨⟨x0, x1, x2, x3, x4, x5⟩, hx⟩ : ∃ s, t.getD k hoD = s := ⟨_, rfl⟩
      obtain ⟨s, q0, q1, q2, q3, q4, q5, hr, hok⟩ := e1 k hlt
      rw [hx] at q0 q1 q2 q4 q5 hr hok
      simp only at q0 q1 q2 q4 q5 hr
      have f0 := cell_kept q0 hbw
      have m0 := cell_regrown f0
      have m1 := cell_regrown (cell_kept q1 hbw)
      have m2 := cell_regrown (cell_kept q2 hbw)
      have m3 := cell_regrown (cell_kept q3 hbw)
      have m4 := cell_regrown (cell_kept q4 hbw)
      have m5 := cell_regrown (cell_kept q5 hbw)
      have n0 := cell_regrown (cell_kept z0 hb)
      have n1 := cell_regrown (cell_kept z1 hb)
      have n2 := cell_regrown (cell_kept z2 hb)
      have n3 := cell_regrown (cell_kept z3 hb)
      have hV : HoV wr (.agg #[.int .i64 x0, .int .i64 x1, .int .i64 x2, s, .int .i64 x4, .int .i64 x5]) ⟨x0, x1, x2, x3, x4, x5⟩ := ⟨s, rfl, hr.below hbw, hok⟩
      obtain ⟨sa, sc, rfl, _⟩ := hr
      have hsucc := onHo_succ (r := ⟨y0, y1, y2, y3⟩) (d := d) hlt
      have hlen := onHo_len (t.take k) ⟨y0, y1, y2, y3⟩ d
      rw [List.length_take] at hlen
      rw [hx] at hsucc
      obtain ⟨bC, hbC⟩ : ∃ b, covB ⟨x0, x1, x2, x3, x4, x5⟩ ⟨y0, y1, y2, y3⟩ d = b := ⟨_, rfl⟩
      rw [hbC] at hsucc
      obtain ⟨Pp, hP⟩ : ∃ P, onHo (t.take k) ⟨y0, y1, y2, y3⟩ d = P := ⟨_, rfl⟩
      rw [hP] at hO hlen hsucc
      have HSU := Lib.hid hsucc
      have HO := Lib.hid hO
      have g0 : (0 : Int) ≤ (k : Int) := by omega
      have g1 : (k : Int) < (t.length : Int) := by omega
      have hc : ∀ D os, Calls Try.prog 160 #[.agg #[.int .i64 x0, .int .i64 x1, .int .i64 x2, .slice sa x3.length sc, .int .i64 x4, .int .i64 x5], .agg #[.int .i64 y0, .int .i64 y1, .int .i64 y2, .slice sb y3.length sd], .int .i64 d] (grow (redrawn wr D) os) fun e w'' => e = .returned (.bool bC) ∧ ∃ p : Regrown, w'' = grow (redrawn wr p.d) p.os := fun D os => Calls.regrown_of (by have := l9Covers_any _ _ _ _ d (grow (redrawn wr D) os) (hV.below (below_regrown wr D os)) (HV.out _ (hbw.trans ((below_regrown wr D os).mono hbw.size))) HDD.out; rwa [hbC] at this)
      clear q0 q1 q2 q3 q4 q5 hok hx e1 hsucc hP hbC hV hO
      cases bC
      · have HSU2 := Lib.hid (HSU.out.trans (if_neg (by simp)))
        go_wp2_with fail
        refine wp_region_quiet_below (by kernel_rfl) (by kernel_rfl) ?_
        repeat (go_big_quiet_step (first | exact hc _ _))
        refine wpQuiet_nil ?_
        intro _ hw'
        obtain ⟨⟨dq, osq⟩, hw''⟩ := hw'
        subst hw''
        have bq := below_regrown wr dq osq
        have y0f := cell_kept f0 bq
        have HO2 := Lib.hid (ownsRow_below HO.out bq)
        have hb2 := hb.trans (bq.mono hsz)
        have hs2 := hb2.size
        generalize grow (redrawn wr dq) osq = w2 at *
        go_wp2
        go_roundw
        case rel => exact ⟨k + 1, by omega, by go_num, (by rw [HSU2.out]; exact HO2.out), hb2⟩
        case measure => simp [intOf]; omega
      · have HSU2 := Lib.hid (HSU.out.trans (if_pos rfl))
        go_wp2_with fail
        refine wp_region_quiet_below (by kernel_rfl) (by kernel_rfl) ?_
        repeat (go_big_quiet_step (first | exact hc _ _))
        refine wpQuiet_nil ?_
        intro _ hw'
        obtain ⟨⟨dq, osq⟩, hw''⟩ := hw'
        subst hw''
        have bq := below_regrown wr dq osq
        have y0f := cell_kept f0 bq
        have HO2 := Lib.hid (ownsRow_below HO.out bq)
        have hb2 := hb.trans (bq.mono hsz)
        have hs2 := hb2.size
        generalize grow (redrawn wr dq) osq = w2 at *
        go_wp2_with (first | (at_builtin; refine wpList_append_own _ rfl _ _ 26 rfl W1.heap.size 3 i0 (.int .i64 0) 1 8 Try.underlying26 hi hz0 hz1 hz2 rfl (by decide) _ _ _ rfl (HO2.out.alloc _) ⟨w2.heap.size, 0, none⟩ 1 1 [.int .i64 x0] rfl rfl (cell_oneI _ _ _ (by simp)) (by simp [Value.oneCell']) (by unfold maxLen; omega) (by omega) (by simp; omega) ?_; intro v' w7 hown' hgrow _))
        have HOWN := Lib.hid hown'
        have HB := Lib.hid (below_app hb2 (Nat.le_refl _) HO2.out hgrow)
        clear hown' hgrow
        go_wp2_with fail
        go_roundw
        case rel => exact ⟨k + 1, by omega, by go_num, (by rw [HSU2.out]; simpa [vI] using HOWN.out), HB.out⟩
        case measure => simp [intOf]; omega
    · obtain rfl : k = t.length := by omega
      rw [List.take_length] at hO
      have HO := Lib.hid hO
      clear hO
      go_wp2_with fail
      go_ret
      exact ⟨_, rfl, (ints_rowK HO.out rfl).wide hsW (Nat.le_refl _), hbw⟩

theorem specAreHolds_any (v : Value) (t : List Ho) (w : World) (h : RowR 6 rHo w v t) :
    Calls Try.prog 58 #[v] w fun e w' => e = .returned (.bool (areHo t)) ∧ Below w.heap.size w w' := by
  have H := Lib.hid h
  clear h
  go_enter Try.func58, Try.ntmps58
  go_wp2_with (first | (go_at_call 127; refine (l9Good_any _ t _ H.out).mono ?_; rintro e w' ⟨rfl, b1⟩))
  go_ret
  exact ⟨rfl, b1⟩

set_option maxRecDepth 20000 in
set_option maxHeartbeats 4000000 in
theorem specHoldsOn_any (v v1 : Value) (t : List Ho) (r : Rec) (d : Int) (w : World) (h : RowR 6 rHo w v t) (h1 : RecV w v1 r) (xs : List Int) (b : Bool) (hres : hoRes t r d = (xs, b)) :
    Calls Try.prog 68 #[v, v1, .int .i64 d] w fun e w' => ∃ v', e = .returned (.tuple #[v', .bool b]) ∧ IntsO w.heap.size w'.heap.size w' v' xs ∧ Below w.heap.size w w' := by
  obtain ⟨s, rfl, hr, hok⟩ := h1
  obtain ⟨y0, y1, y2, y3⟩ := r
  simp only at hr ⊢
  have HV := Lib.hid (show ∀ W, Below w.heap.size w W → RecV W (.agg #[.int .i64 y0, .int .i64 y1, .int .i64 y2, s]) ⟨y0, y1, y2, y3⟩ from fun W hW => ⟨s, rfl, hr.below rEv_stable hW, hok⟩)
  obtain ⟨sb, sd, rfl, _⟩ := hr
  have HBX := Lib.hid (show ∀ W, Below (w.alloc (.cells #[.int .i64 y0, .int .i64 y1, .int .i64 y2, .slice sb y3.length sd] 63 (0, 0))).heap.size (w.alloc (.cells #[.int .i64 y0, .int .i64 y1, .int .i64 y2, .slice sb y3.length sd] 63 (0, 0))) W → W.cell? ⟨w.heap.size, 0, none⟩ = some (.int .i64 y0) ∧ W.cell? ⟨w.heap.size, 1, none⟩ = some (.int .i64 y1) ∧ W.cell? ⟨w.heap.size, 2, none⟩ = some (.int .i64 y2) ∧ W.cell? ⟨w.heap.size, 3, none⟩ = some (.slice sb y3.length sd) from
    fun W hW => ⟨cell_kept (cell_new w _ _ 0 rfl) hW, cell_kept (cell_new w _ _ 1 rfl) hW, cell_kept (cell_new w _ _ 2 rfl) hW, cell_kept (cell_new w _ _ 3 rfl) hW⟩)
  have H := Lib.hid h
  obtain ⟨ba, ha⟩ : ∃ b, askH t ⟨y0, y1, y2, y3⟩ d = b := ⟨_, rfl⟩
  have HA := Lib.hid ha
  have NO := Lib.hid (fun hn => hoRes_no hres hn)
  have YES := Lib.hid (fun hn => hoRes_yes hres hn)
  clear h ha hres hok
  cases ba
  · obtain ⟨rfl, rfl⟩ := NO.out (by rw [HA.out]; simp)
    go_enter Try.func68, Try.ntmps68
    go_wp2_with (first | (go_at_call 122; refine (l9Asked_any _ _ t _ d _ (H.out.below rHo_stable (below_al (Below.refl _ _) _)) (HV.out _ (below_al (Below.refl _ _) _))).mono ?_; rw [HA.out]; rintro e w1 ⟨rfl, b1⟩; have HI1 := Lib.hid (ints_newK w1)))
    go_ret2
    exact ⟨_, rfl, HI1.out.wide (below_chain (below_al (Below.refl _ _) _) b1).size (Nat.le_refl _), below_al (below_chain (below_al (Below.refl _ _) _) b1) _⟩
  · obtain ⟨rfl, rfl⟩ := YES.out HA.out
    go_enter Try.func68, Try.ntmps68
    go_wp2_with (first | (go_at_call 122; refine (l9Asked_any _ _ t _ d _ (H.out.below rHo_stable (below_al (Below.refl _ _) _)) (HV.out _ (below_al (Below.refl _ _) _))).mono ?_; rw [HA.out]; rintro e w1 ⟨rfl, b1⟩; obtain ⟨c0, c1, c2, c3⟩ := HBX.out _ b1; replace b1 := below_chain (below_al (Below.refl w.heap.size w) _) b1) | (go_at_call 125; refine (l9On_any _ _ t _ d _ (H.out.below rHo_stable b1) (HV.out _ b1) (by have := ho_len (askH_iff.1 HA.out).1; omega) (askH_iff.1 HA.out).2.2.2).mono ?_; rintro e w2 ⟨v', rfl, hi, b2⟩))
    go_ret2
    exact ⟨_, rfl, hi.wide b1.size (Nat.le_refl _), below_chain b1 b2⟩
end Go.Proofs.Ytenjajcknmfhfaa

namespace Go.Proofs.Ytenjajcknmfhfaa
set_option linter.unusedVariables false
open Go.RowKit Go.Sort

set_option maxRecDepth 20000 in
set_option maxHeartbeats 4000000 in
theorem l9Free_any (v v1 : Value) (t : List Ho) (r : Rec) (d : Int) (w : World) (h : RowR 6 rHo w v t) (h1 : RecV w v1 r) (ht : areHo t = true) (hd : 0 ≤ d ∧ d ≤ 20000) :
    Calls Try.prog 131 #[v, v1, .int .i64 d] w fun e w' => e = .returned (.int .i64 (freeF t r d)) ∧ Below w.heap.size w w' := by
  obtain ⟨s, rfl, hr, hok⟩ := h1
  obtain ⟨y0, y1, y2, y3⟩ := r
  simp only at hr ⊢
  have HV := Lib.hid (show ∀ W, Below w.heap.size w W → RecV W (.agg #[.int .i64 y0, .int .i64 y1, .int .i64 y2, s]) ⟨y0, y1, y2, y3⟩ from fun W hW => ⟨s, rfl, hr.below rEv_stable hW, hok⟩)
  obtain ⟨sb, sd, rfl, _⟩ := hr
  obtain ⟨a1, c1, rfl, hl1, hm1, r1⟩ := h.hos
  have R1 := Lib.hid r1
  have HTT := Lib.hid ht
  have HDD := Lib.hid hd
  have hn8 := ho_len ht
  clear h r1 hok hd ht
  unfold maxLen at hm1
  go_enter Try.func131, Try.ntmps131
  go_wp2_with fail
  generalize hW1 : w.alloc (.cells #[.int .i64 y0, .int .i64 y1, .int .i64 y2, .slice sb y3.length sd] 63 (0, 0)) = W1
  have bW : Below w.heap.size w W1 := by rw [← hW1]; exact below_al (Below.refl _ _) _
  have z0 : W1.cell? ⟨w.heap.size, 0, none⟩ = some (.int .i64 y0) := by rw [← hW1]; exact cell_new w _ _ 0 rfl
  have z1 : W1.cell? ⟨w.heap.size, 1, none⟩ = some (.int .i64 y1) := by rw [← hW1]; exact cell_new w _ _ 1 rfl
  have z2 : W1.cell? ⟨w.heap.size, 2, none⟩ = some (.int .i64 y2) := by rw [← hW1]; exact cell_new w _ _ 2 rfl
  have z3 : W1.cell? ⟨w.heap.size, 3, none⟩ = some (.slice sb y3.length sd) := by rw [← hW1]; exact cell_new w _ _ 3 rfl
  have hsW := bW.size
  clear hW1
  go_loopw [2, 7] (fun dy n wr => ∃ (k : Nat) (D : Int), k ≤ t.length + 1 ∧ n = .int .i64 k ∧ dy = .int .i64 D ∧ Hid (d ≤ D ∧ D ≤ 20000 ∧ (∀ x, d ≤ x → x < D → heldB t ⟨y0, y1, y2, y3⟩ x = true) ∧ (heldB t ⟨y0, y1, y2, y3⟩ D = false ∨ k ≤ gone t D)) ∧ Below W1.heap.size W1 wr) (fun _ n _ => t.length + 1 - (intOf n).toNat)
  case atStart => exact ⟨0, d, Nat.zero_le _, rfl, rfl, Lib.hid ⟨Int.le_refl _, HDD.out.2, fun x a b => absurd a (by omega), .inr (Nat.zero_le _)⟩, Below.refl _ _⟩
  case round =>
    obtain ⟨k, D, hk, rfl, rfl, HQ, hb⟩ := hrel
    obtain ⟨wo, hwo⟩ : ∃ x, x = wr := ⟨_, rfl⟩
    subst hwo
    have hso := hb.size
    by_cases hlt : k ≤ t.length
    · have g1 : (k : Int) ≤ (t.length : Int) := by omega
      go_wp2_with fail
      go_loopw [2, 8] (fun dy i wr => ∃ (j : Nat) (E : Int), j ≤ t.length ∧ i = .int .i64 j ∧ dy = .int .i64 E ∧ Hid (d ≤ E ∧ E ≤ 20000 ∧ (∀ x, d ≤ x → x < E → heldB t ⟨y0, y1, y2, y3⟩ x = true) ∧ (heldB t ⟨y0, y1, y2, y3⟩ E = false ∨ k + 1 ≤ gone t E ∨ (k ≤ gone t E ∧ ∀ q, q < j → covB (t.getD q hoD) ⟨y0, y1, y2, y3⟩ E = false))) ∧ Below W1.heap.size W1 wr) (fun _ i _ => t.length - (intOf i).toNat)
      case atStart =>
        refine ⟨0, D, Nat.zero_le _, rfl, rfl, Lib.hid ⟨HQ.out.1, HQ.out.2.1, HQ.out.2.2.1, ?_⟩, hb⟩
        rcases HQ.out.2.2.2 with h | h
        · exact .inl h
        · exact .inr (.inr ⟨h, fun q hq => absurd hq (Nat.not_lt_zero _)⟩)
      case round =>
        obtain ⟨j, E, hj, rfl, rfl, HE, hb2⟩ := hrel
        have hbw := bW.trans (hb2.mono hsW)
        have hsz := hb2.size
        by_cases hjt : j < t.length
        · obtain ⟨bR, oR, hbR, rfl, e1⟩ := R1.out.resolve_left (fun e => by rw [e] at hjt; simp at hjt)
          obtain ⟨⟨x0, x1, x2, x3, x4, x5⟩, hx⟩ : ∃ s, t.getD j hoD = s := ⟨_, rfl⟩
          obtain ⟨s, q0, q1, q2, q3, q4, q5, hr, hok⟩ := e1 j hjt
          rw [hx] at q0 q1 q2 q4 q5 hr hok
          simp only at q0 q1 q2 q4 q5 hr
          have f2 := cell_kept q2 hbw
          have m0 := cell_regrown (cell_kept q0 hbw)
          have m1 := cell_regrown (cell_kept q1 hbw)
          have m2 := cell_regrown f2
          have m3 := cell_regrown (cell_kept q3 hbw)
          have m4 := cell_regrown (cell_kept q4 hbw)
          have m5 := cell_regrown (cell_kept q5 hbw)
          have n0 := cell_regrown (cell_kept z0 hb2)
          have n1 := cell_regrown (cell_kept z1 hb2)
          have n2 := cell_regrown (cell_kept z2 hb2)
          have n3 := cell_regrown (cell_kept z3 hb2)
          have hV : HoV wr (.agg #[.int .i64 x0, .int .i64 x1, .int .i64 x2, s, .int .i64 x4, .int .i64 x5]) ⟨x0, x1, x2, x3, x4, x5⟩ := ⟨s, rfl, hr.below hbw, hok⟩
          obtain ⟨sa, sc, rfl, _⟩ := hr
          obtain ⟨bC, hbC⟩ : ∃ b, covB ⟨x0, x1, x2, x3, x4, x5⟩ ⟨y0, y1, y2, y3⟩ E = b := ⟨_, rfl⟩
          have g2 : (0 : Int) ≤ (j : Int) := by omega
          have g3 : (j : Int) < (t.length : Int) := by omega
          have hc : ∀ D os, Calls Try.prog 160 #[.agg #[.int .i64 x0, .int .i64 x1, .int .i64 x2, .slice sa x3.length sc, .int .i64 x4, .int .i64 x5], .agg #[.int .i64 y0, .int .i64 y1, .int .i64 y2, .slice sb y3.length sd], .int .i64 E] (grow (redrawn wr D) os) fun e w'' => e = .returned (.bool bC) ∧ ∃ p : Regrown, w'' = grow (redrawn wr p.d) p.os := fun D os => Calls.regrown_of (by have := l9Covers_any _ _ _ _ E (grow (redrawn wr D) os) (hV.below (below_regrown wr D os)) (HV.out _ (hbw.trans ((below_regrown wr D os).mono hbw.size))) HE.out.2.1; rwa [hbC] at this)
          have HX := Lib.hid hx
          have HBC := Lib.hid hbC
          clear q0 q1 q2 q3 q4 q5 hok hx e1 hbC hV
          cases bC
          · go_wp2_with fail
            refine wp_region_quiet_below (by kernel_rfl) (by kernel_rfl) ?_
            repeat (go_big_quiet_step (first | exact hc _ _))
            refine wpQuiet_nil ?_
            intro _ hw'
            obtain ⟨⟨dq, osq⟩, hw''⟩ := hw'
            subst hw''
            have bq := below_regrown wr dq osq
            have y2f := cell_kept f2 bq
            have hb3 := hb2.trans (bq.mono hsz)
            generalize grow (redrawn wr dq) osq = w2 at *
            go_wp2
            go_roundw
            case rel =>
              refine ⟨j + 1, E, by omega, by go_num, rfl, Lib.hid ⟨HE.out.1, HE.out.2.1, HE.out.2.2.1, ?_⟩, hb3⟩
              rcases HE.out.2.2.2 with h | h | ⟨h, h'⟩
              · exact .inl h
              · exact .inr (.inl h)
              · refine .inr (.inr ⟨h, fun q hq => ?_⟩)
                rcases Nat.lt_or_ge q j with h2 | h2
                · exact h' q h2
                · obtain rfl : q = j := by omega
                  rw [HX.out]; exact HBC.out
            case measure => simp [intOf]; omega
          · have hcv : covB (t.getD j hoD) ⟨y0, y1, y2, y3⟩ E = true := by rw [HX.out]; exact HBC.out
            have hone := ho_at HTT.out hjt
            have hend := endH_bd hone
            have hcE := (covB_iff.1 hcv).1.2
            have hspan : ∀ x, d ≤ x → x < endH (t.getD j hoD) → heldB t ⟨y0, y1, y2, y3⟩ x = true := fun x a b => by
              rcases Int.lt_or_le x E with h | h
              · exact HE.out.2.2.1 x a h
              · exact held_at hjt (cov_span hcv h b)
            have hgo : k + 1 ≤ gone t (endH (t.getD j hoD)) := by
              rcases HE.out.2.2.2 with h | h | ⟨h, _⟩
              · rw [held_at hjt hcv] at h; cases h
              · exact Nat.le_trans h (gone_mono (Int.le_of_lt hcE))
              · have := gone_step hjt hcE; omega
            have hEd := HE.out.1
            by_cases hu : x2 = -1
            · have hq : (x2 == -1) = true := by simp [hu]
              have hend2 : endH (t.getD j hoD) = 20001 := by rw [HX.out]; unfold endH; rw [if_pos hu]
              have HFR : Hid (freeF t ⟨y0, y1, y2, y3⟩ d = 20001) := Lib.hid (free_top (fun x a b => hspan x a (by omega)))
              have HU := Lib.hid hu
              clear hu hcv hone hend hcE hspan hgo hend2 hEd
              go_wp2_with fail
              refine wp_region_quiet_below (by kernel_rfl) (by kernel_rfl) ?_
              repeat (go_big_quiet_step (first | exact hc _ _))
              refine wpQuiet_nil ?_
              intro _ hw'
              obtain ⟨⟨dq, osq⟩, hw''⟩ := hw'
              subst hw''
              have bq := below_regrown wr dq osq
              have y2f := cell_kept f2 bq
              have hb3 := hb2.trans (bq.mono hsz)
              generalize grow (redrawn wr dq) osq = w2 at *
              go_wp2
              go_ret
              exact ⟨ret_int HFR.out.symm, bW.trans (hb3.mono hsW)⟩
            · have hq : (x2 == -1) = false := by simp [hu]
              have hend2 : endH (t.getD j hoD) = x2 := by rw [HX.out]; unfold endH; rw [if_neg hu]
              have hx2 : x2 ≤ 20000 := by
                have := (hoOne_iff.1 hone).2.1.2
                rw [HX.out] at this
                simp only at this
                rcases this with h | h
                · exact absurd h hu
                · exact h.2
              rw [hend2] at hspan hgo hcE
              have HFR : Hid (d ≤ x2 ∧ x2 ≤ 20000 ∧ (∀ x, d ≤ x → x < x2 → heldB t ⟨y0, y1, y2, y3⟩ x = true) ∧ k + 1 ≤ gone t x2) := Lib.hid ⟨by omega, hx2, hspan, hgo⟩
              have HU := Lib.hid hu
              clear hu hcv hone hend hcE hspan hgo hend2 hEd hx2
              go_wp2_with fail
              refine wp_region_quiet_below (by kernel_rfl) (by kernel_rfl) ?_
              repeat (go_big_quiet_step (first | exact hc _ _))
              refine wpQuiet_nil ?_
              intro _ hw'
              obtain ⟨⟨dq, osq⟩, hw''⟩ := hw'
              subst hw''
              have bq := below_regrown wr dq osq
              have y2f := cell_kept f2 bq
              have hb3 := hb2.trans (bq.mono hsz)
              generalize grow (redrawn wr dq) osq = w2 at *
              go_wp2
              go_roundw
              case rel => exact ⟨j + 1, x2, by omega, by go_num, rfl, Lib.hid ⟨HFR.out.1, HFR.out.2.1, HFR.out.2.2.1, .inr (.inl HFR.out.2.2.2)⟩, hb3⟩
              case measure => simp [intOf]; omega
        · have hjl : j = t.length := by omega
          have HK : Hid (heldB t ⟨y0, y1, y2, y3⟩ E = false ∨ k + 1 ≤ gone t E) := Lib.hid (by
            rcases HE.out.2.2.2 with h | h | ⟨_, h'⟩
            · exact .inl h
            · exact .inr h
            · exact .inl (held_no (fun q hq => h' q (by omega))))
          clear hjl
          go_wp2_with fail
          go_roundw
          case rel => exact ⟨k + 1, E, by omega, by go_num, rfl, Lib.hid ⟨HE.out.1, HE.out.2.1, HE.out.2.2.1, HK.out⟩, hb2⟩
          case measure => simp [intOf]; omega
    · have HFR : Hid (freeF t ⟨y0, y1, y2, y3⟩ d = D) := Lib.hid (by
        have hg := gone_le t D
        obtain ⟨q1, q2, q3, q4⟩ := HQ.out
        rcases q4 with h | h
        · exact free_is HDD.out.1 q1 q2 h q3
        · omega)
      have g1 : ¬ (k : Int) ≤ (t.length : Int) := by omega
      go_wp2_with fail
      go_ret
      exact ⟨ret_int HFR.out.symm, bW.trans (hb.mono hsW)⟩

set_option maxRecDepth 20000 in
set_option maxHeartbeats 4000000 in
theorem specFreeDay_any (v v1 : Value) (t : List Ho) (r : Rec) (d : Int) (w : World) (h : RowR 6 rHo w v t) (h1 : RecV w v1 r) (n : Int) (b : Bool) (hres : freRes t r d = (n, b)) :
    Calls Try.prog 66 #[v, v1, .int .i64 d] w fun e w' => e = .returned (.tuple #[.int .i64 n, .bool b]) ∧ Below w.heap.size w w' := by
  obtain ⟨s, rfl, hr, hok⟩ := h1
  obtain ⟨y0, y1, y2, y3⟩ := r
  simp only at hr ⊢
  have HV := Lib.hid (show ∀ W, Below w.heap.size w W → RecV W (.agg #[.int .i64 y0, .int .i64 y1, .int .i64 y2, s]) ⟨y0, y1, y2, y3⟩ from fun W hW => ⟨s, rfl, hr.below rEv_stable hW, hok⟩)
  obtain ⟨sb, sd, rfl, _⟩ := hr
  have HBX := Lib.hid (show ∀ W, Below (w.alloc (.cells #[.int .i64 y0, .int .i64 y1, .int .i64 y2, .slice sb y3.length sd] 63 (0, 0))).heap.size (w.alloc (.cells #[.int .i64 y0, .int .i64 y1, .int .i64 y2, .slice sb y3.length sd] 63 (0, 0))) W → W.cell? ⟨w.heap.size, 0, none⟩ = some (.int .i64 y0) ∧ W.cell? ⟨w.heap.size, 1, none⟩ = some (.int .i64 y1) ∧ W.cell? ⟨w.heap.size, 2, none⟩ = some (.int .i64 y2) ∧ W.cell? ⟨w.heap.size, 3, none⟩ = some (.slice sb y3.length sd) from
    fun W hW => ⟨cell_kept (cell_new w _ _ 0 rfl) hW, cell_kept (cell_new w _ _ 1 rfl) hW, cell_kept (cell_new w _ _ 2 rfl) hW, cell_kept (cell_new w _ _ 3 rfl) hW⟩)
  have H := Lib.hid h
  obtain ⟨ba, ha⟩ : ∃ b, askH t ⟨y0, y1, y2, y3⟩ d = b := ⟨_, rfl⟩
  obtain ⟨F, hF⟩ : ∃ F, freeF t ⟨y0, y1, y2, y3⟩ d = F := ⟨_, rfl⟩
  have HA := Lib.hid ha
  have HFF := Lib.hid hF
  have NO := Lib.hid (fun hn => freRes_no hres hn)
  have YES := Lib.hid (fun hn => freRes_yes hres hn)
  clear h ha hres hok hF
  cases ba
  · obtain ⟨rfl, rfl⟩ := NO.out (by rw [HA.out]; simp)
    go_enter Try.func66, Try.ntmps66
    go_wp2_with (first | (go_at_call 122; refine (l9Asked_any _ _ t _ d _ (H.out.below rHo_stable (below_al (Below.refl _ _) _)) (HV.out _ (below_al (Below.refl _ _) _))).mono ?_; rw [HA.out]; rintro e w1 ⟨rfl, b1⟩; obtain ⟨c0, c1, c2, c3⟩ := HBX.out _ b1; have b1w := below_chain (below_al (Below.refl w.heap.size w) _) b1))
    go_ret2
    exact ⟨rfl, b1w⟩
  · have HAH := Lib.hid (askH_iff.1 HA.out).1
    have HDD := Lib.hid (askH_iff.1 HA.out).2.2
    by_cases hg : 20000 < F
    · obtain ⟨rfl, rfl⟩ := NO.out (by rw [HFF.out]; omega)
      go_enter Try.func66, Try.ntmps66
      go_wp2_with (first | (go_at_call 122; refine (l9Asked_any _ _ t _ d _ (H.out.below rHo_stable (below_al (Below.refl _ _) _)) (HV.out _ (below_al (Below.refl _ _) _))).mono ?_; rw [HA.out]; rintro e w1 ⟨rfl, b1⟩; obtain ⟨c0, c1, c2, c3⟩ := HBX.out _ b1; have b1w := below_chain (below_al (Below.refl w.heap.size w) _) b1) | (go_at_call 131; refine (l9Free_any _ _ t ⟨y0, y1, y2, y3⟩ d _ (H.out.below rHo_stable b1w) (HV.out _ b1w) HAH.out HDD.out).mono ?_; rw [HFF.out]; rintro e w2 ⟨rfl, b2⟩; replace b1 := b1.trans (b2.mono b1.size); obtain ⟨c0, c1, c2, c3⟩ := HBX.out _ b1; replace b1w := b1w.trans (b2.mono b1w.size); clear b2))
      go_ret2
      exact ⟨rfl, b1w⟩
    · obtain ⟨e0, rfl⟩ := YES.out ⟨HA.out, by rw [HFF.out]; omega⟩
      rw [HFF.out] at e0
      subst e0
      have dg : decide (20000 < n) = false := decide_eq_false hg
      go_enter Try.func66, Try.ntmps66
      go_wp2_with (first | (go_at_call 122; refine (l9Asked_any _ _ t _ d _ (H.out.below rHo_stable (below_al (Below.refl _ _) _)) (HV.out _ (below_al (Below.refl _ _) _))).mono ?_; rw [HA.out]; rintro e w1 ⟨rfl, b1⟩; obtain ⟨c0, c1, c2, c3⟩ := HBX.out _ b1; have b1w := below_chain (below_al (Below.refl w.heap.size w) _) b1) | (go_at_call 131; refine (l9Free_any _ _ t ⟨y0, y1, y2, y3⟩ d _ (H.out.below rHo_stable b1w) (HV.out _ b1w) HAH.out HDD.out).mono ?_; rw [HFF.out]; rintro e w2 ⟨rfl, b2⟩; replace b1 := b1.trans (b2.mono b1.size); obtain ⟨c0, c1, c2, c3⟩ := HBX.out _ b1; replace b1w := b1w.trans (b2.mono b1w.size); clear b2))
      go_ret2
      exact ⟨rfl, b1w⟩

end Go.Proofs.Ytenjajcknmfhfaa

namespace Go.Proofs.Ytenjajcknmfhfaa
set_option linter.unusedVariables false

theorem rule_none {r : Rec} {u : List Ru} (h : dueF r u < 0) : ruleF r u = ruD := by
  unfold dueF ruleF at *
  generalize forRu u r.series = us at *
  unfold decR at *
  by_cases ho : ∃ x ∈ us, endR r x < 0
  · rw [decF_open us _ _ ho]
  · have hs : ∀ x ∈ us, ¬ endR r x < 0 := fun x hx hn => ho ⟨x, hx, hn⟩
    obtain ⟨_, _, i3⟩ := decF_shut us ruD (-1) hs
    rcases i3 with ⟨e, _⟩ | ⟨e1, e2⟩
    · exact e
    · have := hs _ e1
      omega
theorem rule_act {r : Rec} {u : List Ru} (h : (ruleF r u).act = 3) : 0 ≤ dueF r u := by
  rcases Int.lt_or_le (dueF r u) 0 with h1 | h1
  · rw [rule_none h1] at h
    simp [ruD] at h
  · exact h1
theorem may_eq {t : List Ho} {r : Rec} {u : List Ru} {d : Int} {bq ba bh : Bool} (h1 : decide (0 ≤ dueF r u ∧ dueF r u ≤ d) = bq) (h2 : decide ((ruleF r u).act = 3) = ba) (h3 : heldB t r d = bh) : mayB t r u d = ((bq && ba) && !bh) := by
  unfold mayB
  rw [Bool.decide_and, h1, h2, h3]
theorem askH_zero {t : List Ho} {r : Rec} : askH t r 0 = true ↔ areHo t = true ∧ isRec r = true := by
  rw [askH_iff]
  constructor
  · rintro ⟨a, b, _⟩; exact ⟨a, b⟩
  · rintro ⟨a, b⟩; exact ⟨a, b, by omega⟩
theorem fd_free {t : List Ho} {r : Rec} {u : List Ru} (h : askB r u = true) (h0 : 0 ≤ dueF r u) (h3 : (ruleF r u).act = 3) : fdRes t r u = freRes t r (dueF r u) := by
  obtain ⟨hr, hu⟩ := ask_iff.1 h
  unfold fdRes freRes
  by_cases hc : fdAsk t r u = true
  · obtain ⟨q1, q2, q3, q4, q5⟩ := fdAsk_iff.1 hc
    rw [if_pos hc, if_pos ⟨askH_iff.2 ⟨(askH_zero.1 q1).1, hr, q3⟩, q5⟩]
  · rw [if_neg hc, if_neg]
    rintro ⟨q1, q2⟩
    obtain ⟨a, b, c⟩ := askH_iff.1 q1
    exact hc (fdAsk_iff.2 ⟨askH_zero.2 ⟨a, b⟩, hu, c, h3, q2⟩)
theorem fd_none {t : List Ho} {r : Rec} {u : List Ru} (h : askB r u = false ∨ dueF r u < 0 ∨ ¬ (ruleF r u).act = 3) : fdRes t r u = (0, false) := by
  unfold fdRes
  rw [if_neg]
  intro hc
  obtain ⟨q1, q2, q3, q4, q5⟩ := fdAsk_iff.1 hc
  rcases h with h | h | h
  · rw [ask_iff.2 ⟨(askH_zero.1 q1).2, q2⟩] at h; cases h
  · omega
  · exact h q4
end Go.Proofs.Ytenjajcknmfhfaa

namespace Go.Proofs.Ytenjajcknmfhfaa
set_option linter.unusedVariables false
open Go.RowKit Go.Sort

set_option maxRecDepth 20000 in
set_option maxHeartbeats 2000000 in
theorem l4For_any (v : Value) (t : List Ru) (x : Int) (w : World) (h : RowR 4 rRu w v t) (hn : t.length ≤ 1048576) :
    Calls Try.prog 88 #[v, .int .i64 x] w fun e w' => ∃ v', e = .returned v' ∧ RusO w.heap.size w'.heap.size w' v' (forRu t x) ∧ Below w.heap.size w w' := by
  obtain ⟨i0, hi, hz0, hz1, hz2⟩ := info_parts Try.info_ru
  have hok := h.rus_ok
  have HOK := Lib.hid hok
  obtain ⟨a1, c1, hv, hl1, hm1, r1⟩ := h.rus
  subst hv
  have R1 := Lib.hid r1
  clear h r1 hok
  unfold maxLen at hm1
  go_enter Try.func88, Try.ntmps88
  go_wp2_with fail
  go_loopw [5, 6] (fun o i wr => ∃ k : Nat, k ≤ t.length ∧ i = .int .i64 k ∧ wr.ownsRow w.heap.size 56 4 o (forRu (t.take k) x).length (((forRu (t.take k) x).map ruC).flatten) ∧ Below w.heap.size w wr) (fun _ i _ => t.length - (intOf i).toNat)
  case atStart => exact ⟨0, Nat.zero_le _, rfl, by simpa [forRu] using World.ownsRow_made w #[] 0 (Nat.le_refl _) (Nat.zero_le _) rfl, below_al (Below.refl _ _) _⟩
  case round =>
    obtain ⟨k, hk, rfl, hO, hb⟩ := hrel
    by_cases hlt : k < t.length
    · obtain ⟨b1, o1, hb1, rfl, e1⟩ := R1.out.resolve_left (fun e => by rw [e] at hlt; simp at hlt)
      obtain ⟨q0, q1, q2, q3, hok⟩ := e1 k hlt
      have hsucc := forRu_succ (s := x) hlt
      obtain ⟨P, hP⟩ : ∃ P, forRu (t.take k) x = P := ⟨_, rfl⟩
      have hPl : P.length ≤ k := by
        rw [← hP]
        have := forRu_len (t.take k) x
        rw [List.length_take] at this
        omega
      rw [hP] at hO hsucc
      obtain ⟨⟨x0, x1, x2, x3⟩, hx⟩ : ∃ s, t.getD k ruD = s := ⟨_, rfl⟩
      rw [hx] at q0 q1 q2 q3 hsucc
      simp only at q0 q1 q2 q3 hsucc
      have f0 := cell_kept q0 hb
      have f1 := cell_kept q1 hb
      have f2 := cell_kept q2 hb
      have f3 := cell_kept q3 hb
      have HSU := Lib.hid hsucc
      have g0 : (0 : Int) ≤ (k : Int) := by omega
      have g1 : (k : Int) < (t.length : Int) := by omega
      have hsz := hb.size
      clear q0 q1 q2 q3 hok e1 hx hsucc hP
      by_cases he : x0 = x
      · have hq : (x0 == x) = true := by simp [he]
        have HSU2 := Lib.hid (HSU.out.trans (if_pos he))
        clear he
        go_wp2_with (first | (at_builtin; refine wpList_append_own _ rfl _ _ 40 rfl w.heap.size 56 i0 (.agg #[.int .i64 0, .int .i64 0, .int .i64 0, .int .i64 0]) 4 32 Try.underlying40 hi hz0 hz1 hz2 rfl (by decide) _ _ _ rfl (hO.alloc _) ⟨wr.heap.size, 0, none⟩ 1 1 [.int .i64 x0, .int .i64 x1, .int .i64 x2, .int .i64 x3] rfl rfl (cells4_new' _ _ _ _ _ _ (by simp)) (by simp [Value.oneCell']) (by unfold maxLen; omega) (by omega) (by simp; omega) ?_; intro v' w4 hown' hgrow _))
        have HOWN := Lib.hid hown'
        have HB := Lib.hid (below_app hb (Nat.le_refl _) hO hgrow)
        clear hown' hgrow hO
        go_wp2_with fail
        go_roundw
        case rel => exact ⟨k + 1, by omega, by go_num, (by rw [HSU2.out]; simpa [ruC] using HOWN.out), HB.out⟩
        case measure => simp [intOf]; omega
      · have hq : (x0 == x) = false := by simp [he]
        have HSU2 := Lib.hid (HSU.out.trans (if_neg he))
        have HO := Lib.hid hO
        clear he hO
        go_wp2_with fail
        go_roundw
        case rel => exact ⟨k + 1, by omega, by go_num, (by rw [HSU2.out]; exact HO.out), hb⟩
        case measure => simp [intOf]; omega
    · obtain rfl : k = t.length := by omega
      rw [List.take_length] at hO
      have HF := Lib.hid (RusO.of_row hO rfl (fun f hf => HOK.out f (forRu_mem hf).1))
      clear hO
      go_wp2_with fail
      go_ret
      exact ⟨_, rfl, HF.out, hb⟩

end Go.Proofs.Ytenjajcknmfhfaa

namespace Go.Proofs.Ytenjajcknmfhfaa
set_option linter.unusedVariables false
open Go.RowKit

def Box4 (w : World) (g : Nat) (r : Rec) (s : Value) : Prop := w.cell? ⟨g, 0, none⟩ = some (.int .i64 r.id) ∧ w.cell? ⟨g, 1, none⟩ = some (.int .i64 r.series) ∧ w.cell? ⟨g, 2, none⟩ = some (.int .i64 r.made) ∧ w.cell? ⟨g, 3, none⟩ = some s
theorem Box4.kept {a b : World} {g : Nat} {r : Rec} {s : Value} (h : Box4 a g r s) (hb : Below a.heap.size a b) : Box4 b g r s := ⟨cell_kept h.1 hb, cell_kept h.2.1 hb, cell_kept h.2.2.1 hb, cell_kept h.2.2.2 hb⟩
theorem Box4.only {a b : World} {g lo hi : Nat} {r : Rec} {s : Value} (h : Box4 a g r s) (ho : Only lo hi a b) (hg : g < lo ∨ hi ≤ g) : Box4 b g r s := by
  have hlt := World.block_lt_of_cell? _ _ h.1
  have hb := ho.block g hlt hg
  have key : ∀ j, b.cell? ⟨g, j, none⟩ = a.cell? ⟨g, j, none⟩ := fun j => World.cell?_of_block (w := a) hb
  exact ⟨(key 0).trans h.1, (key 1).trans h.2.1, (key 2).trans h.2.2.1, (key 3).trans h.2.2.2⟩
theorem Box4.new (w : World) (r : Rec) (s : Value) (t : TypeId) : Box4 (w.alloc (.cells #[.int .i64 r.id, .int .i64 r.series, .int .i64 r.made, s] t (0, 0))) w.heap.size r s := ⟨cell_new w _ _ 0 rfl, cell_new w _ _ 1 rfl, cell_new w _ _ 2 rfl, cell_new w _ _ 3 rfl⟩
theorem Box4.lt {a : World} {g : Nat} {r : Rec} {s : Value} (h : Box4 a g r s) : g < a.heap.size := World.block_lt_of_cell? _ _ h.1
def Ev2 (w : World) (g : Nat) (ek ed : Int) : Prop := w.cell? ⟨g, 0, none⟩ = some (.int .i64 ek) ∧ w.cell? ⟨g, 1, none⟩ = some (.int .i64 ed)
theorem Ev2.kept {a b : World} {g : Nat} {ek ed : Int} (h : Ev2 a g ek ed) (hb : Below a.heap.size a b) : Ev2 b g ek ed := ⟨cell_kept h.1 hb, cell_kept h.2 hb⟩
theorem Ev2.only {a b : World} {g lo hi : Nat} {ek ed : Int} (h : Ev2 a g ek ed) (ho : Only lo hi a b) (hg : g < lo ∨ hi ≤ g) : Ev2 b g ek ed := by
  have hb := ho.block g (World.block_lt_of_cell? _ _ h.1) hg
  have key : ∀ j, b.cell? ⟨g, j, none⟩ = a.cell? ⟨g, j, none⟩ := fun j => World.cell?_of_block (w := a) hb
  exact ⟨(key 0).trans h.1, (key 1).trans h.2⟩
theorem RecO.only2 {lo hi lo' hi' : Nat} {w w' : World} {v : Value} {r : Rec} (h : RecO lo hi w v r) (hb : Only lo' hi' w w') (hh : hi ≤ lo') : RecO lo hi w' v r := by
  obtain ⟨s, e, h, k⟩ := h
  exact ⟨s, e, ⟨h.1.only2 hb (h.2.2.up hh), h.2⟩, k⟩
theorem only_set (w : World) (g j : Nat) (u : Value) : Only g (g + 1) w (w.setCell ⟨g, j, none⟩ u) :=
  ⟨rfl, rfl, rfl, by simp, fun k _ hh => Below.heap_setCell w ⟨g, j, none⟩ u k (by simp; omega)⟩
theorem only_put (w : World) (G : Nat) (x y z u : Value) : Only G (G + 1) w ((((w.setCell ⟨G, 0, none⟩ x).setCell ⟨G, 1, none⟩ y).setCell ⟨G, 2, none⟩ z).setCell ⟨G, 3, none⟩ u) :=
  (((only_set _ _ _ _).trans (only_set _ _ _ _)).trans (only_set _ _ _ _)).trans (only_set _ _ _ _)
theorem set_other {w : World} {a b : Addr} (v : Value) (h : a ≠ b) : (w.setCell a v).cell? b = w.cell? b := by
  apply World.cell?_setCell_other
  exact h
theorem set_same {w : World} {a : Addr} {u : Value} (v : Value) (h : w.cell? a = some u) : (w.setCell a v).cell? a = some v := by
  apply World.cell?_setCell_same
  exact h
theorem box4_put {W : World} {G : Nat} {r : Rec} {s a b c d : Value} {t : TypeId} (h : W.heap[G]? = some (.cells #[a, b, c, d] t (0, 0))) :
    Box4 ((((W.setCell ⟨G, 0, none⟩ (.int .i64 r.id)).setCell ⟨G, 1, none⟩ (.int .i64 r.series)).setCell ⟨G, 2, none⟩ (.int .i64 r.made)).setCell ⟨G, 3, none⟩ s) G r s := by
  have c0 := box_cell h 0 rfl
  have c1 := box_cell h 1 rfl
  have c2 := box_cell h 2 rfl
  have c3 := box_cell h 3 rfl
  have n01 : (⟨G, 0, none⟩ : Addr) ≠ ⟨G, 1, none⟩ := by simp
  have n02 : (⟨G, 0, none⟩ : Addr) ≠ ⟨G, 2, none⟩ := by simp
  have n03 : (⟨G, 0, none⟩ : Addr) ≠ ⟨G, 3, none⟩ := by simp
  have n12 : (⟨G, 1, none⟩ : Addr) ≠ ⟨G, 2, none⟩ := by simp
  have n13 : (⟨G, 1, none⟩ : Addr) ≠ ⟨G, 3, none⟩ := by simp
  have n23 : (⟨G, 2, none⟩ : Addr) ≠ ⟨G, 3, none⟩ := by simp
  refine ⟨?_, ?_, ?_, ?_⟩
  · rw [set_other _ n03.symm, set_other _ n02.symm, set_other _ n01.symm]
    exact set_same _ c0
  · rw [set_other _ n13.symm, set_other _ n12.symm]
    exact set_same (u := b) _ (by rw [set_other _ n01]; exact c1)
  · rw [set_other _ n23.symm]
    exact set_same (u := c) _ (by rw [set_other _ n12, set_other _ n02]; exact c2)
  · exact set_same (u := d) _ (by rw [set_other _ n23, set_other _ n13, set_other _ n03]; exact c3)

def Got (B : Nat) (w V : World) (x : Rec) (s : Value) (ek ed : Int) (y : Rec) (sl : Value) (G lo hi : Nat) : Prop :=
  Box4 V B x s ∧ Ev2 V (B + 1) ek ed ∧ RecO lo hi V (.agg #[.int .i64 y.id, .int .i64 y.series, .int .i64 y.made, sl]) y ∧ Box4 V G y sl ∧ Below w.heap.size w V ∧ w.heap.size ≤ G ∧ w.heap.size ≤ lo ∧ hi ≤ V.heap.size ∧ (G < lo ∨ hi ≤ G) ∧ lo ≤ V.heap.size
theorem got_a {B : Nat} {w W : World} {x y : Rec} {s sl a b c d : Value} {ek ed : Int} {G lo hi : Nat} {t : TypeId} (hQ : W.heap[G]? = some (.cells #[a, b, c, d] t (0, 0))) (hA : Box4 W B x s) (hE : Ev2 W (B + 1) ek ed)
    (hR : RecO lo hi W (.agg #[.int .i64 y.id, .int .i64 y.series, .int .i64 y.made, sl]) y) (hB : Below w.heap.size w W) (hG : w.heap.size ≤ G) (hl : G < lo) (hh : hi ≤ W.heap.size) (hw : B + 2 ≤ w.heap.size) (hq : lo ≤ W.heap.size) :
    Got B w ((((W.setCell ⟨G, 0, none⟩ (.int .i64 y.id)).setCell ⟨G, 1, none⟩ (.int .i64 y.series)).setCell ⟨G, 2, none⟩ (.int .i64 y.made)).setCell ⟨G, 3, none⟩ sl) x s ek ed y sl G lo hi := by
  have o := only_put W G (.int .i64 y.id) (.int .i64 y.series) (.int .i64 y.made) sl
  have hB' : Below w.heap.size W ((((W.setCell ⟨G, 0, none⟩ (.int .i64 y.id)).setCell ⟨G, 1, none⟩ (.int .i64 y.series)).setCell ⟨G, 2, none⟩ (.int .i64 y.made)).setCell ⟨G, 3, none⟩ sl) := ⟨o.os, o.tape, o.output, o.size, fun k hk => o.block k (Nat.lt_of_lt_of_le hk hB.size) (.inl (by omega))⟩
  exact ⟨hA.only o (.inl (by omega)), hE.only o (.inl (by omega)), hR.only o hl, box4_put hQ, hB.trans hB', hG, by omega, Nat.le_trans hh o.size, .inl hl, Nat.le_trans hq o.size⟩
theorem got_b {B : Nat} {w W : World} {x y : Rec} {s sl : Value} {ek ed : Int} {lo hi : Nat} {t : TypeId} (hA : Box4 W B x s) (hE : Ev2 W (B + 1) ek ed)
    (hR : RecO lo hi W (.agg #[.int .i64 y.id, .int .i64 y.series, .int .i64 y.made, sl]) y) (hB : Below w.heap.size w W) (hl : w.heap.size ≤ lo) (hh : hi ≤ W.heap.size) (hq : lo ≤ W.heap.size) :
    Got B w (W.alloc (.cells #[.int .i64 y.id, .int .i64 y.series, .int .i64 y.made, sl] t (0, 0))) x s ek ed y sl W.heap.size lo hi := by
  have b := below_al (Below.refl W.heap.size W) (.cells #[.int .i64 y.id, .int .i64 y.series, .int .i64 y.made, sl] t (0, 0))
  exact ⟨hA.kept b, hE.kept b, hR.below b, Box4.new W y sl t, below_al hB _, hB.size, hl, by simp; omega, .inr hh, by simp; omega⟩
theorem cell_drew {W : World} {a : Addr} {u : Value} (h : W.cell? a = some u) : W.drew.cell? a = some u := h
end Go.Proofs.Ytenjajcknmfhfaa

namespace Go.Proofs.Ytenjajcknmfhfaa
set_option linter.unusedVariables false
open Go.RowKit Go.Sort

abbrev RBOX (r : Rec) (s : Value) (t : TypeId) : Obj := .cells #[.int .i64 r.id, .int .i64 r.series, .int .i64 r.made, s] t (0, 0)

theorem l6End_any (v : Value) (r : Rec) (x : Ru) (w : World) (h : RecV w v r) (hr : isRec r = true) (hx : isRu x = true) :
    Calls Try.prog 159 #[v, .agg #[.int .i64 x.series, .int .i64 x.event, .int .i64 x.days, .int .i64 x.act]] w fun e w' => e = .returned (.int .i64 (endR r x)) ∧ Below w.heap.size w w' := by
  obtain ⟨s, rfl, h0, hok⟩ := h
  have HV := Lib.hid (show ∀ W, Below w.heap.size w W → RecV W (.agg #[.int .i64 r.id, .int .i64 r.series, .int .i64 r.made, s]) r from fun W hb => ⟨s, rfl, h0.below rEv_stable hb, hok⟩)
  have hd1 := dayOf_top hr x.event
  have hd2 := dayOf_least hr x.event
  have hx2 := (isRu_iff.1 hx).2.2.1
  obtain ⟨x0, x1, x2, x3⟩ := x
  simp only at hd1 hd2 hx2 ⊢
  obtain ⟨d, hd⟩ : ∃ d, dayOf r x1 = d := ⟨_, rfl⟩
  rw [hd] at hd1 hd2
  have he : endR r ⟨x0, x1, x2, x3⟩ = if d < 0 then -1 else d + x2 := by unfold endR; simp only; rw [hd]
  rw [he]
  have HD := Lib.hid hd
  clear h0 hok hd he hx hr
  have b0 := below_al (below_al (Below.refl w.heap.size w) (RBOX r s 63)) (.cells #[.int .i64 x0, .int .i64 x1, .int .i64 x2, .int .i64 x3] 56 (0, 0))
  have c2 := cell_new (w.alloc (RBOX r s 63)) #[.int .i64 x0, .int .i64 x1, .int .i64 x2, .int .i64 x3] 56 2 (v := .int .i64 x2) rfl
  by_cases hn : d < 0
  · have HN := Lib.hid (if_pos hn : (if d < 0 then -1 else d + x2) = -1)
    rw [HN.out]
    go_enter Try.func159, Try.ntmps159
    go_wp2_with (first | (go_at_call 183; refine (l2DayOf_any _ r x1 _ (HV.out _ b0)).mono ?_; rw [HD.out]; rintro e w1 ⟨rfl, b1⟩))
    go_ret
    exact ⟨rfl, below_chain b0 b1⟩
  · have HN := Lib.hid (if_neg hn : (if d < 0 then -1 else d + x2) = d + x2)
    rw [HN.out]
    have hw : IntKind.i64.wrap (d + x2) = d + x2 := Go.IntWalk.i64_in _ (by omega)
    go_enter Try.func159, Try.ntmps159
    go_wp2_with (first | (go_at_call 183; refine (l2DayOf_any _ r x1 _ (HV.out _ b0)).mono ?_; rw [HD.out]; rintro e w1 ⟨rfl, b1⟩; replace c2 := cell_kept c2 b1; simp at c2))
    go_ret
    exact ⟨rfl, below_chain b0 b1⟩

structure UBox (w : World) (g : Nat) (u : Ru) : Prop where
  c0 : w.cell? ⟨g, 0, none⟩ = some (.int .i64 u.series)
  c1 : w.cell? ⟨g, 1, none⟩ = some (.int .i64 u.event)
  c2 : w.cell? ⟨g, 2, none⟩ = some (.int .i64 u.days)
  c3 : w.cell? ⟨g, 3, none⟩ = some (.int .i64 u.act)
  y0 : w.frozen? ⟨g, 0, none⟩ = false
  y1 : w.frozen? ⟨g, 1, none⟩ = false
  y2 : w.frozen? ⟨g, 2, none⟩ = false
  y3 : w.frozen? ⟨g, 3, none⟩ = false
theorem UBox.lt {w : World} {g : Nat} {u : Ru} (h : UBox w g u) : g < w.heap.size := World.block_lt_of_cell? _ _ h.c0
theorem UBox.under {a b : World} {g n : Nat} {u : Ru} (h : UBox a g u) (hg : g < n) (hb : Below n a b) : UBox b g u :=
  ⟨(hb.cell (p := ⟨g, 0, none⟩) hg).trans h.c0, (hb.cell (p := ⟨g, 1, none⟩) hg).trans h.c1, (hb.cell (p := ⟨g, 2, none⟩) hg).trans h.c2, (hb.cell (p := ⟨g, 3, none⟩) hg).trans h.c3,
   (hb.frozen (p := ⟨g, 0, none⟩) hg).trans h.y0, (hb.frozen (p := ⟨g, 1, none⟩) hg).trans h.y1, (hb.frozen (p := ⟨g, 2, none⟩) hg).trans h.y2, (hb.frozen (p := ⟨g, 3, none⟩) hg).trans h.y3⟩
theorem UBox.kept {a b : World} {g : Nat} {u : Ru} (h : UBox a g u) (hb : Below a.heap.size a b) : UBox b g u := h.under h.lt hb
theorem UBox.new (w : World) (u : Ru) (t : TypeId) : UBox (w.alloc (.cells #[.int .i64 u.series, .int .i64 u.event, .int .i64 u.days, .int .i64 u.act] t (0, 0))) w.heap.size u :=
  ⟨cell_new w _ _ 0 rfl, cell_new w _ _ 1 rfl, cell_new w _ _ 2 rfl, cell_new w _ _ 3 rfl, by simp, by simp, by simp, by simp⟩
theorem UBox.al {w : World} {g : Nat} {u : Ru} (h : UBox w g u) (o : Obj) : UBox (w.alloc o) g u := h.kept (below_al (Below.refl _ _) o)
theorem UBox.drewN {w : World} {g : Nat} {u : Ru} (h : UBox w g u) (n : Nat) : UBox (w.drewN n) g u := ⟨h.c0, h.c1, h.c2, h.c3, h.y0, h.y1, h.y2, h.y3⟩
theorem UBox.drew {w : World} {g : Nat} {u : Ru} (h : UBox w g u) : UBox w.drew g u := ⟨h.c0, h.c1, h.c2, h.c3, h.y0, h.y1, h.y2, h.y3⟩
theorem below_drewN {n : Nat} {a b : World} (h : Below n a b) (k : Nat) : Below n a (b.drewN k) := ⟨h.os, h.tape, h.output, h.size, h.block⟩
theorem UBox.far {w : World} {g g' j : Nat} {u : Ru} (h : UBox w g u) (hn : g' ≠ g) (v : Value) : UBox (w.setCell ⟨g', j, none⟩ v) g u :=
  ⟨(cellset_other _ (by simp)).trans h.c0, (cellset_other _ (by simp)).trans h.c1, (cellset_other _ (by simp)).trans h.c2, (cellset_other _ (by simp)).trans h.c3,
   by rw [World.frozen?_setCell]; exact h.y0, by rw [World.frozen?_setCell]; exact h.y1, by rw [World.frozen?_setCell]; exact h.y2, by rw [World.frozen?_setCell]; exact h.y3⟩
abbrev putU (w : World) (g : Nat) (x : Ru) : World := (((w.setCell ⟨g, 0, none⟩ (.int .i64 x.series)).setCell ⟨g, 1, none⟩ (.int .i64 x.event)).setCell ⟨g, 2, none⟩ (.int .i64 x.days)).setCell ⟨g, 3, none⟩ (.int .i64 x.act)
theorem UBox.put {w : World} {g : Nat} {u : Ru} (h : UBox w g u) (x : Ru) : UBox (putU w g x) g x := by
  have n01 : (⟨g, 1, none⟩ : Addr) ≠ ⟨g, 0, none⟩ := by simp
  have n02 : (⟨g, 2, none⟩ : Addr) ≠ ⟨g, 0, none⟩ := by simp
  have n03 : (⟨g, 3, none⟩ : Addr) ≠ ⟨g, 0, none⟩ := by simp
  have n12 : (⟨g, 2, none⟩ : Addr) ≠ ⟨g, 1, none⟩ := by simp
  have n13 : (⟨g, 3, none⟩ : Addr) ≠ ⟨g, 1, none⟩ := by simp
  have n23 : (⟨g, 3, none⟩ : Addr) ≠ ⟨g, 2, none⟩ := by simp
  refine ⟨?_, ?_, ?_, ?_, ?_, ?_, ?_, ?_⟩
  · unfold putU; rw [cellset_other _ n03, cellset_other _ n02, cellset_other _ n01, cellset_same _ h.c0]
  · unfold putU; rw [cellset_other _ n13, cellset_other _ n12]; exact cellset_same (u := .int .i64 u.event) _ (by rw [cellset_other _ n01.symm]; exact h.c1)
  · unfold putU; rw [cellset_other _ n23]; exact cellset_same (u := .int .i64 u.days) _ (by rw [cellset_other _ n12.symm, cellset_other _ n02.symm]; exact h.c2)
  · unfold putU; exact cellset_same (u := .int .i64 u.act) _ (by rw [cellset_other _ n23.symm, cellset_other _ n13.symm, cellset_other _ n03.symm]; exact h.c3)
  · unfold putU; simp only [World.frozen?_setCell]; exact h.y0
  · unfold putU; simp only [World.frozen?_setCell]; exact h.y1
  · unfold putU; simp only [World.frozen?_setCell]; exact h.y2
  · unfold putU; simp only [World.frozen?_setCell]; exact h.y3
theorem below_putU {n : Nat} {w w' : World} {g : Nat} (hb : Below n w w') (hg : n ≤ g) (x : Ru) : Below n w (putU w' g x) := (((hb.setCell hg _).setCell hg _).setCell hg _).setCell hg _

theorem l6End_grown (v : Value) (r : Rec) (x : Ru) (E : Int) (hE : endR r x = E) (wx : World) (h : ∀ W, Below wx.heap.size wx W → RecV W v r) (hr : isRec r = true) (hx : isRu x = true) (d : Nat) (os : Array Obj) :
    Calls Try.prog 159 #[v, .agg #[.int .i64 x.series, .int .i64 x.event, .int .i64 x.days, .int .i64 x.act]] (grow (redrawn wx d) os) fun e w'' => e = .returned (.int .i64 E) ∧ ∃ p : Regrown, w'' = grow (redrawn wx p.d) p.os := by
  subst hE
  exact Calls.regrown_of (l6End_any v r x _ (h _ (below_regrown wx d os)) hr hx)

set_option maxRecDepth 20000 in
set_option maxHeartbeats 8000000 in
theorem l6Deciding_any (v v1 : Value) (r : Rec) (t : List Ru) (w : World) (h : RecV w v r) (h1 : RowR 4 rRu w v1 t) (hr : isRec r = true) (ht : isSch t = true) (q : Ru) (d : Int) (hres : decR r (forRu t r.series) = (q, d)) :
    Calls Try.prog 123 #[v, v1] w fun e w' => e = .returned (.tuple #[.agg #[.int .i64 q.series, .int .i64 q.event, .int .i64 q.days, .int .i64 q.act], .int .i64 d]) ∧ Below w.heap.size w w' := by
  obtain ⟨s, rfl, h0, hok⟩ := h
  have HV := Lib.hid (show ∀ W, Below w.heap.size w W → RecV W (.agg #[.int .i64 r.id, .int .i64 r.series, .int .i64 r.made, s]) r from fun W hb => ⟨s, rfl, h0.below rEv_stable hb, hok⟩)
  have H1 := Lib.hid h1
  have HR := Lib.hid hr
  have HT := Lib.hid ht
  have hn8 := sch_len ht
  obtain ⟨R, hR⟩ : ∃ R, forRu t r.series = R := ⟨_, rfl⟩
  have hRl : R.length ≤ t.length := by rw [← hR]; exact forRu_len t r.series
  have HRU := Lib.hid (show ∀ u ∈ R, isRu u = true by rw [← hR]; exact forRu_ok ht r.series)
  rw [hR] at hres
  have HRR := Lib.hid hR
  have HRES := Lib.hid hres
  clear h0 hok h1 hr ht hR hres
  have b0 := below_al (below_al (Below.refl w.heap.size w) (RBOX r s 63)) (.cells #[.int .i64 0, .int .i64 0, .int .i64 0, .int .i64 0] 56 (0, 0))
  have HX0 : Hid (UBox ((w.alloc (RBOX r s 63)).alloc (.cells #[.int .i64 0, .int .i64 0, .int .i64 0, .int .i64 0] 56 (0, 0))) (w.heap.size + 1) ruD) := Lib.hid (by rw [← (show (w.alloc (RBOX r s 63)).heap.size = w.heap.size + 1 by simp)]; exact UBox.new (w.alloc (RBOX r s 63)) ruD 56)
  have HC0 : Hid (Box4 ((w.alloc (RBOX r s 63)).alloc (.cells #[.int .i64 0, .int .i64 0, .int .i64 0, .int .i64 0] 56 (0, 0))) w.heap.size r s) := Lib.hid ((Box4.new w r s 63).kept (below_al (Below.refl _ _) _))
  go_enter Try.func123, Try.ntmps123
  go_wp2_with (first | (go_at_call 88; refine (l4For_any _ t r.series _ (H1.out.below rRu_stable b0) (by omega)).mono ?_; rw [HRR.out]; rintro e w1 ⟨v2, rfl, ho1, b1⟩; obtain ⟨a1, cp1, hv, hl1, hm1, r1⟩ := ho1.row.rus; subst hv; have R1 := Lib.hid r1; clear ho1 r1; unfold maxLen at hm1; have HX1 := Lib.hid (HX0.out.kept b1); have HC1 := Lib.hid (HC0.out.kept b1); replace b1 := below_chain b0 b1; clear b0 HX0 HC0))
  have hgw : w.heap.size ≤ w1.heap.size := b1.size
  have HXl : w.heap.size + 1 < w1.heap.size := HX1.out.lt
  have HB0 : Hid (UBox (w1.alloc (.cells #[.int .i64 0, .int .i64 0, .int .i64 0, .int .i64 0] 56 (0, 0))) w1.heap.size ruD) := Lib.hid (UBox.new w1 ruD 56)
  go_loopw [8, 9] (fun due i wr => ∃ (k : Nat) (b : Ru) (dd : Int), k ≤ R.length ∧ i = .int .i64 k ∧ due = .int .i64 dd ∧ Hid (decF r (R.drop k) b dd = decR r R) ∧ Hid (UBox wr w1.heap.size b) ∧ Below w1.heap.size w1 wr) (fun _ i _ => R.length - (intOf i).toNat)
  case atStart => exact ⟨0, ruD, -1, Nat.zero_le _, rfl, rfl, Lib.hid rfl, HB0, below_al (Below.refl _ _) _⟩
  case round =>
    clear HB0
    obtain ⟨k, b, dd, hk, rfl, rfl, HF, HB, hb⟩ := hrel
    have hb2 := hb
    have HX := Lib.hid (HX1.out.kept hb2)
    have HC := Lib.hid (HC1.out.kept hb2)
    have bw := b1.trans (hb2.mono b1.size)
    have hgl := HB.out.lt
    by_cases hlt : k < R.length
    · obtain ⟨bb, o1, hb1, rfl, e1⟩ := R1.out.resolve_left (fun e => by rw [e] at hlt; simp at hlt)
      obtain ⟨q0, q1, q2, q3, hok⟩ := e1 k hlt
      obtain ⟨⟨x0, x1, x2, x3⟩, hx⟩ : ∃ s, R.getD k ruD = s := ⟨_, rfl⟩
      rw [hx] at q0 q1 q2 q3
      simp only at q0 q1 q2 q3
      have f0 := cell_kept q0 hb2
      have f1 := cell_kept q1 hb2
      have f2 := cell_kept q2 hb2
      have f3 := cell_kept q3 hb2
      have hxu : isRu ⟨x0, x1, x2, x3⟩ = true := by rw [← hx, getRu_lt hlt]; exact HRU.out _ (List.getElem_mem hlt)
      have hdrop := drop_ru hlt
      rw [hx] at hdrop
      have HFF := Lib.hid (by rw [← hdrop]; exact HF.out : decF r (⟨x0, x1, x2, x3⟩ :: R.drop (k + 1)) b dd = decR r R)
      obtain ⟨E, hE⟩ : ∃ E, endR r ⟨x0, x1, x2, x3⟩ = E := ⟨_, rfl⟩
      have HE := Lib.hid hE
      have g0 : (0 : Int) ≤ (k : Int) := by omega
      have g1 : (k : Int) < (R.length : Int) := by omega
      have c0 := HC.out.1
      have c1 := HC.out.2.1
      have c2 := HC.out.2.2.1
      have c3 := HC.out.2.2.2
      have k0 := cell_regrown f0
      have k1 := cell_regrown f1
      have k2 := cell_regrown f2
      have k3 := cell_regrown f3
      have m0 := cell_regrown c0
      have m1 := cell_regrown c1
      have m2 := cell_regrown c2
      have m3 := cell_regrown c3
      have hc := l6End_grown (.agg #[.int .i64 r.id, .int .i64 r.series, .int .i64 r.made, s]) r ⟨x0, x1, x2, x3⟩ E hE wr (fun W hW => HV.out W (bw.trans (hW.mono bw.size))) HR.out hxu
      simp only at hc
      clear q0 q1 q2 q3 hok e1 hx hdrop hE hxu HF
      go_wp2_with fail
      refine wp_region_quiet_below (by kernel_rfl) (by kernel_rfl) ?_
      repeat (go_big_quiet_step (first | exact hc _ _))
      refine wpQuiet_nil ?_
      intro _ hw'
      obtain ⟨⟨dq, osq⟩, hw''⟩ := hw'
      subst hw''
      have bq := below_regrown wr dq osq
      have HXq := Lib.hid (HX.out.kept bq)
      have HBq := Lib.hid (HB.out.kept bq)
      have i0 := cell_kept f0 bq
      have i1 := cell_kept f1 bq
      have i2 := cell_kept f2 bq
      have i3 := cell_kept f3 bq
      have bgz : Below w1.heap.size w1 (grow (redrawn wr dq) osq) := hb.trans (bq.mono (by have := hb.size; omega))
      have bwz := bw.trans (bq.mono bw.size)
      generalize grow (redrawn wr dq) osq = wz at *
      clear k0 k1 k2 k3 m0 m1 m2 m3 hc c0 c1 c2 c3 f0 f1 f2 f3 HX HC HB bq hb hb2 bw
      obtain ⟨b0, b1', b2, b3⟩ := b
      obtain ⟨p0, p1, p2, p3, y0, y1, y2, y3⟩ := HBq.out
      simp only at p0 p1 p2 p3
      by_cases hEn : E < 0
      · have HZ := Lib.hid ((decF_stop (by rw [HE.out]; exact hEn)).symm.trans HFF.out)
        obtain ⟨z0, z1, z2, z3, u0, u1, u2, u3⟩ := HXq.out
        simp only [ruD] at z0 z1 z2 z3
        have hq := HRES.out
        rw [← HZ.out] at hq
        obtain ⟨rfl, rfl⟩ := Prod.mk.inj hq
        clear hq
        go_wp2_with fail
        refine bodyPost_ret (v := .tuple #[.agg #[.int .i64 0, .int .i64 0, .int .i64 0, .int .i64 0], .int .i64 (-1)]) (by simp [results, Try.results123 , go_sem, z0, z1, z2, z3]) rfl ⟨rfl, ?_⟩
        exact below_putU bwz (by omega) ruD
      · have HNE := Lib.hid (show ¬ endR r ⟨x0, x1, x2, x3⟩ < 0 by rw [HE.out]; exact hEn)
        by_cases h1 : dd < E
        · have h1d : decide (dd < E) = true := decide_eq_true h1
          have HZ := Lib.hid ((decF_cons HNE.out).symm.trans HFF.out)
          rw [if_pos (.inl (by rw [HE.out]; exact h1)), HE.out] at HZ
          go_wp2_with fail
          go_quiet (fail)
          go_wp2_with fail
          go_roundw
          case rel => exact ⟨k + 1, ⟨x0, x1, x2, x3⟩, E, by omega, by go_num, rfl, HZ, Lib.hid ((HBq.out.drewN _).put ⟨x0, x1, x2, x3⟩), below_putU (below_drewN bgz _) (Nat.le_refl _) ⟨x0, x1, x2, x3⟩⟩
          case measure => simp [intOf]; omega
        · have h1d : decide (dd < E) = false := decide_eq_false h1
          by_cases h2 : E = dd
          · subst h2
            by_cases h3 : x3 < b3
            · have h3d : decide (x3 < b3) = true := decide_eq_true h3
              have HZ := Lib.hid ((decF_cons HNE.out).symm.trans HFF.out)
              rw [if_pos (.inr ⟨HE.out, h3⟩), HE.out] at HZ
              go_wp2_with fail
              go_quiet (fail)
              go_wp2_with fail
              go_roundw
              case rel => exact ⟨k + 1, ⟨x0, x1, x2, x3⟩, E, by omega, by go_num, rfl, HZ, Lib.hid ((HBq.out.drewN _).put ⟨x0, x1, x2, x3⟩), below_putU (below_drewN bgz _) (Nat.le_refl _) ⟨x0, x1, x2, x3⟩⟩
              case measure => simp [intOf]; omega
            · have h3d : decide (x3 < b3) = false := decide_eq_false h3
              have HZ := Lib.hid ((decF_cons HNE.out).symm.trans HFF.out)
              rw [if_neg (by rw [HE.out]; rintro (q | ⟨_, q⟩); exact h1 q; exact h3 q)] at HZ
              go_wp2_with fail
              go_quiet (fail)
              go_wp2_with fail
              go_roundw
              case rel => exact ⟨k + 1, ⟨b0, b1', b2, b3⟩, _, by omega, by go_num, rfl, HZ, Lib.hid (HBq.out.drewN _), below_drewN bgz _⟩
              case measure => simp [intOf]; omega
          · have h2d : (E == dd) = false := by simp [h2]
            have HZ := Lib.hid ((decF_cons HNE.out).symm.trans HFF.out)
            rw [if_neg (by rw [HE.out]; rintro (q | ⟨q, _⟩); exact h1 q; exact h2 q)] at HZ
            go_wp2_with fail
            go_quiet (fail)
            go_wp2_with fail
            go_roundw
            case rel => exact ⟨k + 1, ⟨b0, b1', b2, b3⟩, _, by omega, by go_num, rfl, HZ, Lib.hid (HBq.out.drewN _), below_drewN bgz _⟩
            case measure => simp [intOf]; omega
    · obtain rfl : k = R.length := by omega
      have hfin := HF.out
      rw [List.drop_length, HRES.out] at hfin
      obtain ⟨rfl, rfl⟩ := Prod.mk.inj (show (b, dd) = (q, d) from hfin)
      obtain ⟨b0, b1', b2, b3⟩ := b
      obtain ⟨p0, p1, p2, p3, y0, y1, y2, y3⟩ := HB.out
      obtain ⟨z0, z1, z2, z3, u0, u1, u2, u3⟩ := HX.out
      simp only [ruD] at z0 z1 z2 z3 p0 p1 p2 p3 ⊢
      have hne : w1.heap.size ≠ w.heap.size + 1 := by omega
      clear hfin
      go_wp2_with fail
      refine bodyPost_ret (v := .tuple #[.agg #[.int .i64 b0, .int .i64 b1', .int .i64 b2, .int .i64 b3], .int .i64 dd]) (by simp [results, Try.results123 , go_sem, z0, z1, z2, z3]) rfl ⟨rfl, ?_⟩
      exact below_putU bw (by omega) ⟨b0, b1', b2, b3⟩


end Go.Proofs.Ytenjajcknmfhfaa

namespace Go.Proofs.Ytenjajcknmfhfaa
set_option linter.unusedVariables false
open Go.RowKit





end Go.Proofs.Ytenjajcknmfhfaa

namespace Go.Proofs.Ytenjajcknmfhfaa
set_option linter.unusedVariables false
open Go.RowKit

theorem RowR.recs {w : World} {v : Value} {rs : List Rec} (h : RowR 4 rRec w v rs) : ∃ a cap, v = .slice a rs.length cap ∧ rs.length ≤ cap ∧ cap ≤ maxLen ∧
    (rs = [] ∨ ∃ b off, b < w.heap.size ∧ a = some ⟨b, off, none⟩ ∧ ∀ i, i < rs.length → ∃ s, w.cell? ⟨b, off + i * 4, none⟩ = some (.int .i64 (rs.getD i recD).id) ∧ w.cell? ⟨b, off + i * 4 + 1, none⟩ = some (.int .i64 (rs.getD i recD).series) ∧
      w.cell? ⟨b, off + i * 4 + 2, none⟩ = some (.int .i64 (rs.getD i recD).made) ∧ w.cell? ⟨b, off + i * 4 + 3, none⟩ = some s ∧ RowR 2 rEv w s (rs.getD i recD).evs ∧ (rs.getD i recD).ok) := by
  obtain ⟨a, cap, rfl, h1, h2, h3⟩ := h
  refine ⟨a, cap, rfl, h1, h2, h3.imp id ?_⟩
  rintro ⟨b, off, hlt, rfl, hc⟩
  refine ⟨b, off, hlt, rfl, fun i hi => ?_⟩
  obtain ⟨cs, hl, hcs, s, rfl, hr, hok⟩ := hc i hi
  have f0 := hcs 0 (by omega)
  have f1 := hcs 1 (by omega)
  have f2 := hcs 2 (by omega)
  have f3 := hcs 3 (by omega)
  simp only [List.getElem_cons_zero, List.getElem_cons_succ, Nat.add_zero] at f0 f1 f2 f3
  rw [getDr_lt hi]
  exact ⟨s, f0, f1, f2, f3, hr, hok⟩

def szR (rs : List Rec) : Nat := (rs.map (fun r => r.evs.length)).sum
theorem szR_take_succ (rs : List Rec) (k : Nat) (h : k < rs.length) : szR (rs.take (k + 1)) = szR (rs.take k) + (rs.getD k recD).evs.length := by
  unfold szR
  rw [List.take_add_one, List.getElem?_eq_getElem h, getDr_lt h, List.map_append, List.sum_append]
  simp only [Option.toList_some, List.map_cons, List.map_nil, List.sum_cons, List.sum_nil, Nat.add_zero]
theorem szR_take_le (rs : List Rec) (k : Nat) : szR (rs.take k) ≤ szR rs := by
  have h : szR rs = szR (rs.take k) + szR (rs.drop k) := by
    unfold szR
    rw [← List.sum_append, ← List.map_append, List.take_append_drop]
  omega
theorem szR_at (rs : List Rec) (i : Nat) (h : i < rs.length) : (rs.getD i recD).evs.length ≤ szR rs := by
  have h1 := szR_take_succ rs i h
  have h2 := szR_take_le rs (i + 1)
  omega


theorem Try.info_record : (Try.prog.info? 63).map (fun i => (i.zero, i.size, i.bytes)) = some (some (.agg #[.int .i64 0, .int .i64 0, .int .i64 0, .slice none 0 0]), 4, 48) := by kernel_rfl

def recC (r : Rec) (s : Value) : List Value := [.int .i64 r.id, .int .i64 r.series, .int .i64 r.made, s]
def RecsO (lo hi : Nat) (w : World) (v : Value) (rs : List Rec) : Prop :=
  ∃ (css : List (List Value)) (f : Nat → Nat), css.length = rs.length ∧ Own lo 63 4 w v css ∧ Under (f 0) v ∧ lo ≤ f 0 ∧ (∀ i, i < rs.length → f i ≤ f (i + 1)) ∧ f rs.length ≤ hi ∧
    ∀ i (h1 : i < css.length) (h2 : i < rs.length), ∃ s, css[i] = recC rs[i] s ∧ EvsO (f i) (f (i + 1)) w s rs[i].evs ∧ rs[i].ok
theorem RecsO.row {lo hi : Nat} {w : World} {v : Value} {rs : List Rec} (h : RecsO lo hi w v rs) : RowR 4 rRec w v rs := by
  obtain ⟨css, f, hl, ho, _, _, _, _, he⟩ := h
  refine ho.row hl fun i h1 h2 => ?_
  obtain ⟨s, e, hs, hok⟩ := he i h1 h2
  exact ⟨s, e, hs.row, hok⟩
theorem RecsO.below {lo hi : Nat} {w w' : World} {v : Value} {rs : List Rec} (h : RecsO lo hi w v rs) (hb : Below w.heap.size w w') : RecsO lo hi w' v rs := by
  obtain ⟨css, f, hl, ho, h1, h2, h3, h4, he⟩ := h
  refine ⟨css, f, hl, ho.below hb, h1, h2, h3, h4, fun i a b => ?_⟩
  obtain ⟨s, e, hs, hok⟩ := he i a b
  exact ⟨s, e, hs.below hb, hok⟩

theorem RecsO.only {lo hi lo' hi' : Nat} {w w' : World} {v : Value} {rs : List Rec} (h : RecsO lo hi w v rs) (hb : Only lo' hi' w w') (hh : hi' ≤ lo) : RecsO lo hi w' v rs := by
  obtain ⟨css, f, hl, ho, h1, h2, h3, h4, he⟩ := h
  refine ⟨css, f, hl, ho.only hb hh, h1, h2, h3, h4, fun i a b => ?_⟩
  obtain ⟨s, e, hs, hok⟩ := he i a b
  exact ⟨s, e, hs.only hb (by have := mono_up h3 0 i (Nat.zero_le _) (by omega); omega), hok⟩


end Go.Proofs.Ytenjajcknmfhfaa

namespace Go.Proofs.Ytenjajcknmfhfaa
set_option linter.unusedVariables false
open Go.RowKit Go.Sort

theorem notRecs {rs : List Rec} {k : Nat} (hk : k < rs.length) (h : recAtB rs k = false) : areRecs rs = false := by
  simp only [areRecs]
  rw [upto_false hk h]
  simp



end Go.Proofs.Ytenjajcknmfhfaa

namespace Go.Proofs.Ytenjajcknmfhfaa
set_option linter.unusedVariables false
open Go.RowKit Go.Sort

theorem below_sz3 {w a : World} {o1 o2 o3 : Obj} (h : Below (((w.alloc o1).alloc o2).alloc o3).heap.size (((w.alloc o1).alloc o2).alloc o3) a) : w.heap.size + 3 ≤ a.heap.size := by
  have := h.size
  simp at this
  omega

end Go.Proofs.Ytenjajcknmfhfaa

namespace Go.Proofs.Ytenjajcknmfhfaa
set_option linter.unusedVariables false
open Go.RowKit Go.Sort

theorem ints_rowS {lo n : Nat} {w : World} {v : Value} {xs : List Int} (h : w.ownsRow lo 3 1 v n (xs.map vI)) (hn : n = xs.length) : IntsO lo w.heap.size w v xs := ⟨by rw [← hn]; exact h, fun g hg => (h.lt g hg).2⟩
theorem ints_new (w : World) : IntsO w.heap.size (w.alloc (.cells #[] 3 (0, 0))).heap.size (w.alloc (.cells #[] 3 (0, 0))) (.slice (some ⟨w.heap.size, 0, none⟩) 0 0) [] := ints_rowS (World.ownsRow_made w #[] 0 (Nat.le_refl _) (Nat.zero_le _) rfl) rfl

structure OutS (g : Nat) (w2 wr : World) (o : Value) (xs : List Int) : Prop where
  own : wr.ownsRow g 3 1 o xs.length (xs.map vI)
  at_ : ∀ k, o.ownBlock = some k → k = g ∨ w2.heap.size ≤ k
  only : Only g (g + 1) w2 wr
  lt : g < w2.heap.size
theorem OutS.start {g : Nat} {w2 : World} (h : w2.ownsRow g 3 1 (.slice (some ⟨g, 0, none⟩) 0 0) 0 []) (hl : g < w2.heap.size) : OutS g w2 w2 (.slice (some ⟨g, 0, none⟩) 0 0) [] :=
  ⟨h, fun k hk => .inl (by simpa [Value.ownBlock] using hk.symm), Only.refl _ _ _, hl⟩
theorem OutS.below {g : Nat} {w2 wr w' : World} {o : Value} {xs : List Int} (h : OutS g w2 wr o xs) (hb : Below wr.heap.size wr w') : OutS g w2 w' o xs :=
  ⟨ownsRow_below h.own hb, h.at_, h.only.trans (Only.of_below hb), h.lt⟩
theorem OutS.app {g : Nat} {w2 w5 w7 : World} {o v' : Value} {xs : List Int} {x : Int} (h : OutS g w2 w5 o xs) (hown : w7.ownsRow g 3 1 v' (xs.length + 1) (xs.map vI ++ [.int .i64 x])) (hg : w5.grownBy w7 o.ownBlock) (hat : v'.ownBlock = o.ownBlock ∨ v'.ownBlock = some w5.heap.size) : OutS g w2 w7 v' (xs ++ [x]) := by
  have hs := h.only.size
  refine ⟨by simpa [vI] using hown, fun k hk => ?_, ⟨hg.os.trans h.only.os, hg.tape.trans h.only.tape, hg.output.trans h.only.output, Nat.le_trans hs hg.size, fun k hk hn => ?_⟩, h.lt⟩
  · rcases hat with e | e
    · exact h.at_ k (by rw [← e]; exact hk)
    · rw [e] at hk; cases hk; exact .inr hs
  · refine (hg.block k (by omega) (fun e => ?_)).trans (h.only.block k hk hn)
    rcases h.at_ k e.symm with h1 | h1 <;> omega
theorem OutS.cell {g b j : Nat} {w2 wr : World} {o v : Value} {xs : List Int} (h : OutS g w2 wr o xs) (hc : w2.cell? ⟨b, j, none⟩ = some v) (hb : b ≠ g) : wr.cell? ⟨b, j, none⟩ = some v :=
  (World.cell?_of_block (h.only.block b (World.block_lt_of_cell? _ _ hc) (by omega))).trans hc
theorem OutS.bel {g n : Nat} {w2 wr : World} {o : Value} {xs : List Int} (h : OutS g w2 wr o xs) (hn : n ≤ g) : Below n w2 wr := (h.only.below (Nat.le_of_lt h.lt)).mono hn



theorem l6Due_any (v v1 : Value) (r : Rec) (t : List Ru) (dy : Int) (w : World) (h : RecV w v r) (h1 : RowR 4 rRu w v1 t) (ha' : askB r t = true) :
    Calls Try.prog 124 #[v, v1, .int .i64 dy] w fun e w' => e = .returned (.bool (decide (0 ≤ dueF r t ∧ dueF r t ≤ dy))) ∧ Below w.heap.size w w' := by
  obtain ⟨s, rfl, h0, hok⟩ := h
  have HV := Lib.hid (show ∀ W, Below w.heap.size w W → RecV W (.agg #[.int .i64 r.id, .int .i64 r.series, .int .i64 r.made, s]) r from fun W hb => ⟨s, rfl, h0.below rEv_stable hb, hok⟩)
  have H1 := Lib.hid h1
  obtain ⟨ba, ha⟩ : ∃ b, askB r t = b := ⟨_, rfl⟩
  have HA := Lib.hid ha
  have b1 := below_al (Below.refl w.heap.size w) (RBOX r s 63)
  obtain ⟨Q, D, hdec⟩ : ∃ q d, decR r (forRu t r.series) = (q, d) := ⟨_, _, rfl⟩
  have hrf : ruleF r t = Q := by unfold ruleF; rw [hdec]
  have hdf : dueF r t = D := by unfold dueF; rw [hdec]
  have HDEC := Lib.hid hdec
  have HRF := Lib.hid hrf
  have HDF := Lib.hid hdf
  rw [hdf]
  obtain rfl : ba = true := ha.symm.trans ha'
  clear h0 hok h1 ha hdec hrf hdf
  go_enter Try.func124, Try.ntmps124
  go_wp2_with (first | (go_at_call 123; refine (l6Deciding_any _ _ r t _ (HV.out _ b1) (H1.out.below rRu_stable b1) (ask_iff.1 HA.out).1 (ask_iff.1 HA.out).2 _ _ HDEC.out).mono ?_; rintro e w2 ⟨rfl, b2⟩; replace b2 := below_chain b1 b2; simp only) | (go_at_call 79; refine (l1In_any _ _ _ _).mono ?_; rintro e w3 ⟨rfl, h3⟩; subst w3))
  go_ret
  exact ⟨ret_bool (by first | rfl | simp), below_al b2 _⟩







end Go.Proofs.Ytenjajcknmfhfaa

namespace Go.Proofs.Ytenjajcknmfhfaa
set_option linter.unusedVariables false
open Go.RowKit Go.Sort

set_option maxRecDepth 20000 in
set_option maxHeartbeats 4000000 in
theorem specMayDestroy_any (v v1 v2 : Value) (t : List Ho) (r : Rec) (u : List Ru) (d : Int) (w : World) (h : RowR 6 rHo w v t) (h1 : RecV w v1 r) (h2 : RowR 4 rRu w v2 u) (a b : Bool) (hres : mayRes t r u d = (a, b)) :
    Calls Try.prog 56 #[v, v1, v2, .int .i64 d] w fun e w' => e = .returned (.tuple #[.bool a, .bool b]) ∧ Below w.heap.size w w' := by
  obtain ⟨s, rfl, hr, hok⟩ := h1
  obtain ⟨y0, y1, y2, y3⟩ := r
  simp only at hr ⊢
  have HV := Lib.hid (show ∀ W, Below w.heap.size w W → RecV W (.agg #[.int .i64 y0, .int .i64 y1, .int .i64 y2, s]) ⟨y0, y1, y2, y3⟩ from fun W hW => ⟨s, rfl, hr.below rEv_stable hW, hok⟩)
  obtain ⟨sb, sd, rfl, _⟩ := hr
  have HBX := Lib.hid (show ∀ W, Below (w.alloc (.cells #[.int .i64 y0, .int .i64 y1, .int .i64 y2, .slice sb y3.length sd] 63 (0, 0))).heap.size (w.alloc (.cells #[.int .i64 y0, .int .i64 y1, .int .i64 y2, .slice sb y3.length sd] 63 (0, 0))) W → W.cell? ⟨w.heap.size, 0, none⟩ = some (.int .i64 y0) ∧ W.cell? ⟨w.heap.size, 1, none⟩ = some (.int .i64 y1) ∧ W.cell? ⟨w.heap.size, 2, none⟩ = some (.int .i64 y2) ∧ W.cell? ⟨w.heap.size, 3, none⟩ = some (.slice sb y3.length sd) from
    fun W hW => ⟨cell_kept (cell_new w _ _ 0 rfl) hW, cell_kept (cell_new w _ _ 1 rfl) hW, cell_kept (cell_new w _ _ 2 rfl) hW, cell_kept (cell_new w _ _ 3 rfl) hW⟩)
  have H := Lib.hid h
  have HU := Lib.hid h2
  obtain ⟨ba, ha⟩ : ∃ b, askH t ⟨y0, y1, y2, y3⟩ d = b := ⟨_, rfl⟩
  obtain ⟨bs, hs⟩ : ∃ b, isSch u = b := ⟨_, rfl⟩
  have HA := Lib.hid ha
  have HS := Lib.hid hs
  have NO := Lib.hid (fun hn => mayRes_no hres hn)
  have YES := Lib.hid (fun hn => mayRes_yes hres hn)
  clear h h2 ha hs hres hok
  cases ba
  · skip
    obtain ⟨rfl, rfl⟩ := NO.out (fun hc => by rw [HA.out] at hc; exact absurd hc.1 (by simp))
    go_enter Try.func56, Try.ntmps56
    go_wp2_with (first | (go_at_call 122; refine (l9Asked_any _ _ t _ d _ (H.out.below rHo_stable (below_al (Below.refl _ _) _)) (HV.out _ (below_al (Below.refl _ _) _))).mono ?_; rw [HA.out]; rintro e w1 ⟨rfl, b1⟩; obtain ⟨c0, c1, c2, c3⟩ := HBX.out _ b1; have b1w := below_chain (below_al (Below.refl w.heap.size w) _) b1))
    go_ret2
    exact ⟨rfl, b1w⟩
  · cases bs
    · skip
      obtain ⟨rfl, rfl⟩ := NO.out (fun hc => by rw [HS.out] at hc; exact absurd hc.2 (by simp))
      go_enter Try.func56, Try.ntmps56
      go_wp2_with (first | (go_at_call 122; refine (l9Asked_any _ _ t _ d _ (H.out.below rHo_stable (below_al (Below.refl _ _) _)) (HV.out _ (below_al (Below.refl _ _) _))).mono ?_; rw [HA.out]; rintro e w1 ⟨rfl, b1⟩; obtain ⟨c0, c1, c2, c3⟩ := HBX.out _ b1; have b1w := below_chain (below_al (Below.refl w.heap.size w) _) b1) | (go_at_call 86; refine (l4Good_any _ u _ (HU.out.below rRu_stable b1w)).mono ?_; rw [HS.out]; rintro e w2 ⟨rfl, b2⟩; replace b1 := b1.trans (b2.mono b1.size); obtain ⟨c0, c1, c2, c3⟩ := HBX.out _ b1; replace b1w := b1w.trans (b2.mono b1w.size); clear b2))
      go_ret2
      exact ⟨rfl, b1w⟩
    · obtain ⟨ea, rfl⟩ := YES.out ⟨HA.out, HS.out⟩
      have HR := Lib.hid (askH_iff.1 HA.out).2.1
      obtain ⟨⟨q0, q1, q2, q3⟩, D, hdec⟩ : ∃ q d, decR ⟨y0, y1, y2, y3⟩ (forRu u y1) = (q, d) := ⟨_, _, rfl⟩
      have hdue : dueF ⟨y0, y1, y2, y3⟩ u = D := by unfold dueF; rw [hdec]
      have hrul : ruleF ⟨y0, y1, y2, y3⟩ u = ⟨q0, q1, q2, q3⟩ := by unfold ruleF; rw [hdec]
      obtain ⟨bq, hbq⟩ : ∃ b, decide (0 ≤ dueF ⟨y0, y1, y2, y3⟩ u ∧ dueF ⟨y0, y1, y2, y3⟩ u ≤ d) = b := ⟨_, rfl⟩
      obtain ⟨N, hN⟩ : ∃ N : Nat, (onHo t ⟨y0, y1, y2, y3⟩ d).length = N := ⟨_, rfl⟩
      obtain ⟨bt, hbt⟩ : ∃ b, decide (q3 = 3) = b := ⟨_, rfl⟩
      have EA := Lib.hid (ea.trans (may_eq (d := d) hbq (show decide ((ruleF ⟨y0, y1, y2, y3⟩ u).act = 3) = bt by rw [hrul]; exact hbt) (show heldB t ⟨y0, y1, y2, y3⟩ d = decide (0 < N) by rw [← onHo_held, hN])))
      have HDEC := Lib.hid hdec
      have HBQ := Lib.hid hbq
      have HON := Lib.hid hN
      have HBT := Lib.hid hbt
      clear ea hdec hdue hrul hbq hN hbt NO YES
      by_cases h3 : q3 = 3
      · have hq : (q3 == 3) = true := by simp [h3]
        obtain rfl : bt = true := HBT.out.symm.trans (decide_eq_true h3)
        have H3 := Lib.hid h3
        clear h3
        cases bq
        · obtain rfl : a = false := by rw [EA.out]; rfl
          go_enter Try.func56, Try.ntmps56
          go_wp2_with (first | (go_at_call 122; refine (l9Asked_any _ _ t _ d _ (H.out.below rHo_stable (below_al (Below.refl _ _) _)) (HV.out _ (below_al (Below.refl _ _) _))).mono ?_; rw [HA.out]; rintro e w1 ⟨rfl, b1⟩; obtain ⟨c0, c1, c2, c3⟩ := HBX.out _ b1; have b1w := below_chain (below_al (Below.refl w.heap.size w) _) b1) | (go_at_call 86; refine (l4Good_any _ u _ (HU.out.below rRu_stable b1w)).mono ?_; rw [HS.out]; rintro e w2 ⟨rfl, b2⟩; replace b1 := b1.trans (b2.mono b1.size); obtain ⟨c0, c1, c2, c3⟩ := HBX.out _ b1; replace b1w := b1w.trans (b2.mono b1w.size); clear b2) | (go_at_call 123; refine (l6Deciding_any _ _ ⟨y0, y1, y2, y3⟩ u _ (HV.out _ b1w) (HU.out.below rRu_stable b1w) HR.out HS.out _ _ HDEC.out).mono ?_; rintro e w3 ⟨rfl, b3⟩; replace b1 := below_al (b1.trans (b3.mono b1.size)) (.cells #[.int .i64 q0, .int .i64 q1, .int .i64 q2, .int .i64 q3] 56 (0, 0)); obtain ⟨c0, c1, c2, c3⟩ := HBX.out _ b1; replace b1w := below_al (b1w.trans (b3.mono b1w.size)) (.cells #[.int .i64 q0, .int .i64 q1, .int .i64 q2, .int .i64 q3] 56 (0, 0)); clear b3; simp only) | (go_at_call 124; refine (l6Due_any _ _ ⟨y0, y1, y2, y3⟩ u d _ (HV.out _ b1w) (HU.out.below rRu_stable b1w) (ask_iff.2 ⟨HR.out, HS.out⟩)).mono ?_; rw [HBQ.out]; rintro e w4 ⟨rfl, b4⟩; replace b1 := b1.trans (b4.mono b1.size); obtain ⟨c0, c1, c2, c3⟩ := HBX.out _ b1; replace b1w := b1w.trans (b4.mono b1w.size); clear b4))
          go_ret2
          exact ⟨rfl, b1w⟩
        · by_cases hn : N = 0
          · have hnq : ((N : Int) == 0) = true := by simp [hn]
            obtain rfl : a = true := by rw [EA.out, hn]; rfl
            have HN := Lib.hid hn
            clear hn
            go_enter Try.func56, Try.ntmps56
            go_wp2_with (first | (go_at_call 122; refine (l9Asked_any _ _ t _ d _ (H.out.below rHo_stable (below_al (Below.refl _ _) _)) (HV.out _ (below_al (Below.refl _ _) _))).mono ?_; rw [HA.out]; rintro e w1 ⟨rfl, b1⟩; obtain ⟨c0, c1, c2, c3⟩ := HBX.out _ b1; have b1w := below_chain (below_al (Below.refl w.heap.size w) _) b1) | (go_at_call 86; refine (l4Good_any _ u _ (HU.out.below rRu_stable b1w)).mono ?_; rw [HS.out]; rintro e w2 ⟨rfl, b2⟩; replace b1 := b1.trans (b2.mono b1.size); obtain ⟨c0, c1, c2, c3⟩ := HBX.out _ b1; replace b1w := b1w.trans (b2.mono b1w.size); clear b2) | (go_at_call 123; refine (l6Deciding_any _ _ ⟨y0, y1, y2, y3⟩ u _ (HV.out _ b1w) (HU.out.below rRu_stable b1w) HR.out HS.out _ _ HDEC.out).mono ?_; rintro e w3 ⟨rfl, b3⟩; replace b1 := below_al (b1.trans (b3.mono b1.size)) (.cells #[.int .i64 q0, .int .i64 q1, .int .i64 q2, .int .i64 q3] 56 (0, 0)); obtain ⟨c0, c1, c2, c3⟩ := HBX.out _ b1; replace b1w := below_al (b1w.trans (b3.mono b1w.size)) (.cells #[.int .i64 q0, .int .i64 q1, .int .i64 q2, .int .i64 q3] 56 (0, 0)); clear b3; simp only) | (go_at_call 124; refine (l6Due_any _ _ ⟨y0, y1, y2, y3⟩ u d _ (HV.out _ b1w) (HU.out.below rRu_stable b1w) (ask_iff.2 ⟨HR.out, HS.out⟩)).mono ?_; rw [HBQ.out]; rintro e w4 ⟨rfl, b4⟩; replace b1 := b1.trans (b4.mono b1.size); obtain ⟨c0, c1, c2, c3⟩ := HBX.out _ b1; replace b1w := b1w.trans (b4.mono b1w.size); clear b4) | (go_at_call 125; refine (l9On_any _ _ t ⟨y0, y1, y2, y3⟩ d _ (H.out.below rHo_stable b1w) (HV.out _ b1w) (by have := ho_len (askH_iff.1 HA.out).1; omega) (askH_iff.1 HA.out).2.2.2).mono ?_; rintro e w5 ⟨v', rfl, hi, b5⟩; obtain ⟨ao, co, rfl, _⟩ := hi.row; rw [HON.out]; replace b1w := b1w.trans (b5.mono b1w.size); clear hi b5))
            go_ret2
            exact ⟨rfl, b1w⟩
          · have hnq : ((N : Int) == 0) = false := beq_false_of_ne (by omega)
            obtain rfl : a = false := by rw [EA.out, decide_eq_true (by omega : 0 < N)]; rfl
            have HN := Lib.hid hn
            clear hn
            go_enter Try.func56, Try.ntmps56
            go_wp2_with (first | (go_at_call 122; refine (l9Asked_any _ _ t _ d _ (H.out.below rHo_stable (below_al (Below.refl _ _) _)) (HV.out _ (below_al (Below.refl _ _) _))).mono ?_; rw [HA.out]; rintro e w1 ⟨rfl, b1⟩; obtain ⟨c0, c1, c2, c3⟩ := HBX.out _ b1; have b1w := below_chain (below_al (Below.refl w.heap.size w) _) b1) | (go_at_call 86; refine (l4Good_any _ u _ (HU.out.below rRu_stable b1w)).mono ?_; rw [HS.out]; rintro e w2 ⟨rfl, b2⟩; replace b1 := b1.trans (b2.mono b1.size); obtain ⟨c0, c1, c2, c3⟩ := HBX.out _ b1; replace b1w := b1w.trans (b2.mono b1w.size); clear b2) | (go_at_call 123; refine (l6Deciding_any _ _ ⟨y0, y1, y2, y3⟩ u _ (HV.out _ b1w) (HU.out.below rRu_stable b1w) HR.out HS.out _ _ HDEC.out).mono ?_; rintro e w3 ⟨rfl, b3⟩; replace b1 := below_al (b1.trans (b3.mono b1.size)) (.cells #[.int .i64 q0, .int .i64 q1, .int .i64 q2, .int .i64 q3] 56 (0, 0)); obtain ⟨c0, c1, c2, c3⟩ := HBX.out _ b1; replace b1w := below_al (b1w.trans (b3.mono b1w.size)) (.cells #[.int .i64 q0, .int .i64 q1, .int .i64 q2, .int .i64 q3] 56 (0, 0)); clear b3; simp only) | (go_at_call 124; refine (l6Due_any _ _ ⟨y0, y1, y2, y3⟩ u d _ (HV.out _ b1w) (HU.out.below rRu_stable b1w) (ask_iff.2 ⟨HR.out, HS.out⟩)).mono ?_; rw [HBQ.out]; rintro e w4 ⟨rfl, b4⟩; replace b1 := b1.trans (b4.mono b1.size); obtain ⟨c0, c1, c2, c3⟩ := HBX.out _ b1; replace b1w := b1w.trans (b4.mono b1w.size); clear b4) | (go_at_call 125; refine (l9On_any _ _ t ⟨y0, y1, y2, y3⟩ d _ (H.out.below rHo_stable b1w) (HV.out _ b1w) (by have := ho_len (askH_iff.1 HA.out).1; omega) (askH_iff.1 HA.out).2.2.2).mono ?_; rintro e w5 ⟨v', rfl, hi, b5⟩; obtain ⟨ao, co, rfl, _⟩ := hi.row; rw [HON.out]; replace b1w := b1w.trans (b5.mono b1w.size); clear hi b5))
            go_ret2
            exact ⟨rfl, b1w⟩
      · have hq : (q3 == 3) = false := by simp [h3]
        obtain rfl : bt = false := HBT.out.symm.trans (decide_eq_false h3)
        obtain rfl : a = false := by rw [EA.out]; simp
        clear h3
        go_enter Try.func56, Try.ntmps56
        go_wp2_with (first | (go_at_call 122; refine (l9Asked_any _ _ t _ d _ (H.out.below rHo_stable (below_al (Below.refl _ _) _)) (HV.out _ (below_al (Below.refl _ _) _))).mono ?_; rw [HA.out]; rintro e w1 ⟨rfl, b1⟩; obtain ⟨c0, c1, c2, c3⟩ := HBX.out _ b1; have b1w := below_chain (below_al (Below.refl w.heap.size w) _) b1) | (go_at_call 86; refine (l4Good_any _ u _ (HU.out.below rRu_stable b1w)).mono ?_; rw [HS.out]; rintro e w2 ⟨rfl, b2⟩; replace b1 := b1.trans (b2.mono b1.size); obtain ⟨c0, c1, c2, c3⟩ := HBX.out _ b1; replace b1w := b1w.trans (b2.mono b1w.size); clear b2) | (go_at_call 123; refine (l6Deciding_any _ _ ⟨y0, y1, y2, y3⟩ u _ (HV.out _ b1w) (HU.out.below rRu_stable b1w) HR.out HS.out _ _ HDEC.out).mono ?_; rintro e w3 ⟨rfl, b3⟩; replace b1 := below_al (b1.trans (b3.mono b1.size)) (.cells #[.int .i64 q0, .int .i64 q1, .int .i64 q2, .int .i64 q3] 56 (0, 0)); obtain ⟨c0, c1, c2, c3⟩ := HBX.out _ b1; replace b1w := below_al (b1w.trans (b3.mono b1w.size)) (.cells #[.int .i64 q0, .int .i64 q1, .int .i64 q2, .int .i64 q3] 56 (0, 0)); clear b3; simp only))
        go_ret2
        exact ⟨rfl, b1w⟩

set_option maxRecDepth 20000 in
set_option maxHeartbeats 4000000 in
theorem specFirstDestruction_any (v v1 v2 : Value) (t : List Ho) (r : Rec) (u : List Ru) (w : World) (h : RowR 6 rHo w v t) (h1 : RecV w v1 r) (h2 : RowR 4 rRu w v2 u) (n : Int) (b : Bool) (hres : fdRes t r u = (n, b)) :
    Calls Try.prog 63 #[v, v1, v2] w fun e w' => e = .returned (.tuple #[.int .i64 n, .bool b]) ∧ Below w.heap.size w w' := by
  obtain ⟨s, rfl, hr, hok⟩ := h1
  obtain ⟨y0, y1, y2, y3⟩ := r
  simp only at hr ⊢
  have HV := Lib.hid (show ∀ W, Below w.heap.size w W → RecV W (.agg #[.int .i64 y0, .int .i64 y1, .int .i64 y2, s]) ⟨y0, y1, y2, y3⟩ from fun W hW => ⟨s, rfl, hr.below rEv_stable hW, hok⟩)
  obtain ⟨sb, sd, rfl, _⟩ := hr
  have HBX := Lib.hid (show ∀ W, Below (w.alloc (.cells #[.int .i64 y0, .int .i64 y1, .int .i64 y2, .slice sb y3.length sd] 63 (0, 0))).heap.size (w.alloc (.cells #[.int .i64 y0, .int .i64 y1, .int .i64 y2, .slice sb y3.length sd] 63 (0, 0))) W → W.cell? ⟨w.heap.size, 0, none⟩ = some (.int .i64 y0) ∧ W.cell? ⟨w.heap.size, 1, none⟩ = some (.int .i64 y1) ∧ W.cell? ⟨w.heap.size, 2, none⟩ = some (.int .i64 y2) ∧ W.cell? ⟨w.heap.size, 3, none⟩ = some (.slice sb y3.length sd) from
    fun W hW => ⟨cell_kept (cell_new w _ _ 0 rfl) hW, cell_kept (cell_new w _ _ 1 rfl) hW, cell_kept (cell_new w _ _ 2 rfl) hW, cell_kept (cell_new w _ _ 3 rfl) hW⟩)
  have H := Lib.hid h
  have HU := Lib.hid h2
  obtain ⟨ba, ha⟩ : ∃ b, askH t ⟨y0, y1, y2, y3⟩ 0 = b := ⟨_, rfl⟩
  obtain ⟨bs, hs⟩ : ∃ b, isSch u = b := ⟨_, rfl⟩
  have HA := Lib.hid ha
  have HS := Lib.hid hs
  have NO := Lib.hid (fun hn => fdRes_no hres hn)
  have YES := Lib.hid (fun hn => fdRes_yes hres hn)
  clear h h2 ha hs hres hok
  cases ba
  · skip
    obtain ⟨rfl, rfl⟩ := NO.out (fun hc => by have := (fdAsk_iff.1 hc).1; rw [HA.out] at this; cases this)
    go_enter Try.func63, Try.ntmps63
    go_wp2_with (first | (go_at_call 122; refine (l9Asked_any _ _ t _ 0 _ (H.out.below rHo_stable (below_al (Below.refl _ _) _)) (HV.out _ (below_al (Below.refl _ _) _))).mono ?_; rw [HA.out]; rintro e w1 ⟨rfl, b1⟩; obtain ⟨c0, c1, c2, c3⟩ := HBX.out _ b1; have b1w := below_chain (below_al (Below.refl w.heap.size w) _) b1))
    go_ret2
    exact ⟨rfl, b1w⟩
  · cases bs
    · skip
      obtain ⟨rfl, rfl⟩ := NO.out (fun hc => by have := (fdAsk_iff.1 hc).2.1; rw [HS.out] at this; cases this)
      go_enter Try.func63, Try.ntmps63
      go_wp2_with (first | (go_at_call 122; refine (l9Asked_any _ _ t _ 0 _ (H.out.below rHo_stable (below_al (Below.refl _ _) _)) (HV.out _ (below_al (Below.refl _ _) _))).mono ?_; rw [HA.out]; rintro e w1 ⟨rfl, b1⟩; obtain ⟨c0, c1, c2, c3⟩ := HBX.out _ b1; have b1w := below_chain (below_al (Below.refl w.heap.size w) _) b1) | (go_at_call 86; refine (l4Good_any _ u _ (HU.out.below rRu_stable b1w)).mono ?_; rw [HS.out]; rintro e w2 ⟨rfl, b2⟩; replace b1 := b1.trans (b2.mono b1.size); obtain ⟨c0, c1, c2, c3⟩ := HBX.out _ b1; replace b1w := b1w.trans (b2.mono b1w.size); clear b2))
      go_ret2
      exact ⟨rfl, b1w⟩
    · have HR := Lib.hid (askH_iff.1 HA.out).2.1
      obtain ⟨⟨q0, q1, q2, q3⟩, D, hdec⟩ : ∃ q d, decR ⟨y0, y1, y2, y3⟩ (forRu u y1) = (q, d) := ⟨_, _, rfl⟩
      have hdue : dueF ⟨y0, y1, y2, y3⟩ u = D := by unfold dueF; rw [hdec]
      have hrul : ruleF ⟨y0, y1, y2, y3⟩ u = ⟨q0, q1, q2, q3⟩ := by unfold ruleF; rw [hdec]
      have HDEC := Lib.hid hdec
      have HDUE := Lib.hid hdue
      have HRUL := Lib.hid hrul
      clear hdec hdue hrul
      by_cases h3 : q3 = 3
      · have hq : (q3 != 3) = false := by simp [h3]
        have hD0 : 0 ≤ D := by rw [← HDUE.out]; exact rule_act (by rw [HRUL.out]; exact h3)
        have H3 := Lib.hid h3
        clear h3
        by_cases hg : 20000 < D
        · obtain ⟨rfl, rfl⟩ := NO.out (fun hc => by have := (fdAsk_iff.1 hc).2.2.1.2; rw [HDUE.out] at this; omega)
          go_enter Try.func63, Try.ntmps63
          go_wp2_with (first | (go_at_call 122; refine (l9Asked_any _ _ t _ 0 _ (H.out.below rHo_stable (below_al (Below.refl _ _) _)) (HV.out _ (below_al (Below.refl _ _) _))).mono ?_; rw [HA.out]; rintro e w1 ⟨rfl, b1⟩; obtain ⟨c0, c1, c2, c3⟩ := HBX.out _ b1; have b1w := below_chain (below_al (Below.refl w.heap.size w) _) b1) | (go_at_call 86; refine (l4Good_any _ u _ (HU.out.below rRu_stable b1w)).mono ?_; rw [HS.out]; rintro e w2 ⟨rfl, b2⟩; replace b1 := b1.trans (b2.mono b1.size); obtain ⟨c0, c1, c2, c3⟩ := HBX.out _ b1; replace b1w := b1w.trans (b2.mono b1w.size); clear b2) | (go_at_call 123; refine (l6Deciding_any _ _ ⟨y0, y1, y2, y3⟩ u _ (HV.out _ b1w) (HU.out.below rRu_stable b1w) HR.out HS.out _ _ HDEC.out).mono ?_; rintro e w3 ⟨rfl, b3⟩; replace b1 := below_al (b1.trans (b3.mono b1.size)) (.cells #[.int .i64 q0, .int .i64 q1, .int .i64 q2, .int .i64 q3] 56 (0, 0)); obtain ⟨c0, c1, c2, c3⟩ := HBX.out _ b1; replace b1w := below_al (b1w.trans (b3.mono b1w.size)) (.cells #[.int .i64 q0, .int .i64 q1, .int .i64 q2, .int .i64 q3] 56 (0, 0)); clear b3; simp only))
          go_ret2
          exact ⟨rfl, b1w⟩
        · have dg : decide (20000 < D) = false := decide_eq_false hg
          have HDD : Hid (0 ≤ D ∧ D ≤ 20000) := Lib.hid ⟨hD0, by omega⟩
          obtain ⟨F, hF⟩ : ∃ F, freeF t ⟨y0, y1, y2, y3⟩ D = F := ⟨_, rfl⟩
          have HFF := Lib.hid hF
          clear hF
          by_cases hf : 20000 < F
          · obtain ⟨rfl, rfl⟩ := NO.out (fun hc => by have := (fdAsk_iff.1 hc).2.2.2.2; rw [HDUE.out, HFF.out] at this; omega)
            go_enter Try.func63, Try.ntmps63
            go_wp2_with (first | (go_at_call 122; refine (l9Asked_any _ _ t _ 0 _ (H.out.below rHo_stable (below_al (Below.refl _ _) _)) (HV.out _ (below_al (Below.refl _ _) _))).mono ?_; rw [HA.out]; rintro e w1 ⟨rfl, b1⟩; obtain ⟨c0, c1, c2, c3⟩ := HBX.out _ b1; have b1w := below_chain (below_al (Below.refl w.heap.size w) _) b1) | (go_at_call 86; refine (l4Good_any _ u _ (HU.out.below rRu_stable b1w)).mono ?_; rw [HS.out]; rintro e w2 ⟨rfl, b2⟩; replace b1 := b1.trans (b2.mono b1.size); obtain ⟨c0, c1, c2, c3⟩ := HBX.out _ b1; replace b1w := b1w.trans (b2.mono b1w.size); clear b2) | (go_at_call 123; refine (l6Deciding_any _ _ ⟨y0, y1, y2, y3⟩ u _ (HV.out _ b1w) (HU.out.below rRu_stable b1w) HR.out HS.out _ _ HDEC.out).mono ?_; rintro e w3 ⟨rfl, b3⟩; replace b1 := below_al (b1.trans (b3.mono b1.size)) (.cells #[.int .i64 q0, .int .i64 q1, .int .i64 q2, .int .i64 q3] 56 (0, 0)); obtain ⟨c0, c1, c2, c3⟩ := HBX.out _ b1; replace b1w := below_al (b1w.trans (b3.mono b1w.size)) (.cells #[.int .i64 q0, .int .i64 q1, .int .i64 q2, .int .i64 q3] 56 (0, 0)); clear b3; simp only) | (go_at_call 131; refine (l9Free_any _ _ t ⟨y0, y1, y2, y3⟩ D _ (H.out.below rHo_stable b1w) (HV.out _ b1w) (askH_iff.1 HA.out).1 HDD.out).mono ?_; rw [HFF.out]; rintro e w4 ⟨rfl, b4⟩; replace b1 := b1.trans (b4.mono b1.size); obtain ⟨c0, c1, c2, c3⟩ := HBX.out _ b1; replace b1w := b1w.trans (b4.mono b1w.size); clear b4))
            go_ret2
            exact ⟨rfl, b1w⟩
          · have df : decide (20000 < F) = false := decide_eq_false hf
            obtain ⟨e0, rfl⟩ := YES.out (fdAsk_iff.2 ⟨HA.out, HS.out, by rw [HDUE.out]; exact HDD.out, by rw [HRUL.out]; exact H3.out, by rw [HDUE.out, HFF.out]; omega⟩)
            rw [HDUE.out, HFF.out] at e0
            subst e0
            go_enter Try.func63, Try.ntmps63
            go_wp2_with (first | (go_at_call 122; refine (l9Asked_any _ _ t _ 0 _ (H.out.below rHo_stable (below_al (Below.refl _ _) _)) (HV.out _ (below_al (Below.refl _ _) _))).mono ?_; rw [HA.out]; rintro e w1 ⟨rfl, b1⟩; obtain ⟨c0, c1, c2, c3⟩ := HBX.out _ b1; have b1w := below_chain (below_al (Below.refl w.heap.size w) _) b1) | (go_at_call 86; refine (l4Good_any _ u _ (HU.out.below rRu_stable b1w)).mono ?_; rw [HS.out]; rintro e w2 ⟨rfl, b2⟩; replace b1 := b1.trans (b2.mono b1.size); obtain ⟨c0, c1, c2, c3⟩ := HBX.out _ b1; replace b1w := b1w.trans (b2.mono b1w.size); clear b2) | (go_at_call 123; refine (l6Deciding_any _ _ ⟨y0, y1, y2, y3⟩ u _ (HV.out _ b1w) (HU.out.below rRu_stable b1w) HR.out HS.out _ _ HDEC.out).mono ?_; rintro e w3 ⟨rfl, b3⟩; replace b1 := below_al (b1.trans (b3.mono b1.size)) (.cells #[.int .i64 q0, .int .i64 q1, .int .i64 q2, .int .i64 q3] 56 (0, 0)); obtain ⟨c0, c1, c2, c3⟩ := HBX.out _ b1; replace b1w := below_al (b1w.trans (b3.mono b1w.size)) (.cells #[.int .i64 q0, .int .i64 q1, .int .i64 q2, .int .i64 q3] 56 (0, 0)); clear b3; simp only) | (go_at_call 131; refine (l9Free_any _ _ t ⟨y0, y1, y2, y3⟩ D _ (H.out.below rHo_stable b1w) (HV.out _ b1w) (askH_iff.1 HA.out).1 HDD.out).mono ?_; rw [HFF.out]; rintro e w4 ⟨rfl, b4⟩; replace b1 := b1.trans (b4.mono b1.size); obtain ⟨c0, c1, c2, c3⟩ := HBX.out _ b1; replace b1w := b1w.trans (b4.mono b1w.size); clear b4))
            go_ret2
            exact ⟨rfl, b1w⟩
      · have hq : (q3 != 3) = true := by simp [h3]
        obtain ⟨rfl, rfl⟩ := NO.out (fun hc => by have := (fdAsk_iff.1 hc).2.2.2.1; rw [HRUL.out] at this; exact h3 this)
        clear h3
        go_enter Try.func63, Try.ntmps63
        go_wp2_with (first | (go_at_call 122; refine (l9Asked_any _ _ t _ 0 _ (H.out.below rHo_stable (below_al (Below.refl _ _) _)) (HV.out _ (below_al (Below.refl _ _) _))).mono ?_; rw [HA.out]; rintro e w1 ⟨rfl, b1⟩; obtain ⟨c0, c1, c2, c3⟩ := HBX.out _ b1; have b1w := below_chain (below_al (Below.refl w.heap.size w) _) b1) | (go_at_call 86; refine (l4Good_any _ u _ (HU.out.below rRu_stable b1w)).mono ?_; rw [HS.out]; rintro e w2 ⟨rfl, b2⟩; replace b1 := b1.trans (b2.mono b1.size); obtain ⟨c0, c1, c2, c3⟩ := HBX.out _ b1; replace b1w := b1w.trans (b2.mono b1w.size); clear b2) | (go_at_call 123; refine (l6Deciding_any _ _ ⟨y0, y1, y2, y3⟩ u _ (HV.out _ b1w) (HU.out.below rRu_stable b1w) HR.out HS.out _ _ HDEC.out).mono ?_; rintro e w3 ⟨rfl, b3⟩; replace b1 := below_al (b1.trans (b3.mono b1.size)) (.cells #[.int .i64 q0, .int .i64 q1, .int .i64 q2, .int .i64 q3] 56 (0, 0)); obtain ⟨c0, c1, c2, c3⟩ := HBX.out _ b1; replace b1w := below_al (b1w.trans (b3.mono b1w.size)) (.cells #[.int .i64 q0, .int .i64 q1, .int .i64 q2, .int .i64 q3] 56 (0, 0)); clear b3; simp only))
        go_ret2
        exact ⟨rfl, b1w⟩
end Go.Proofs.Ytenjajcknmfhfaa

namespace Go.Proofs.Ytenjajcknmfhfaa
set_option linter.unusedVariables false
set_option linter.unusedSimpArgs false
open Go.RowKit

def HhMay (w : World) (e : Ending) (w' : World) : Prop := ∃ (r : Rec) (g c : Nat) (v v2 : Value) (es : List (Ho × Value)) (u : List Ru) (n : Int), e = .returned (.tuple #[v, .agg #[.int .i64 r.id, .int .i64 r.series, .int .i64 r.made, .slice (some ⟨g, 0, none⟩) r.evs.length c], v2, .int .i64 n]) ∧ inI n ∧ u.length ≤ 16 ∧ RusO w.heap.size w'.heap.size w' v2 u ∧ HhIs w w' v es r g c
theorem wrap_inM (x : Int) : inI (IntKind.i64.wrap x) := wrap_inH x
set_option maxRecDepth 20000 in
set_option maxHeartbeats 8000000 in
theorem drawMayDes_any (a : Option Addr) (len cap : Nat) (zs : List Int) (w : World) (h : IsRow .u8 w a len cap zs) (hl : len ≤ 1099511627776) :
    Calls Try.prog 54 #[.slice a len cap] w (HhMay w) := by
  obtain ⟨R, hR⟩ : ∃ R, w.heap.size = R := ⟨_, rfl⟩
  obtain ⟨B, hB⟩ : ∃ B, R + 1 = B := ⟨_, rfl⟩
  have hRB : R < B := by omega
  have hwR : w.heap.size ≤ R := by omega
  have hs0 : (w.alloc (.cells #[.int .i64 0, .int .i64 0, .int .i64 0, .slice none 0 0] 63 (0, 0))).heap.size = B := by simp; omega
  have hs1 : ((w.alloc (.cells #[.int .i64 0, .int .i64 0, .int .i64 0, .slice none 0 0] 63 (0, 0))).alloc (.cells #[.slice a len cap, .int .i64 0, .int .u64 0] 104 (0, 0))).heap.size = B + 1 := by simp; omega
  have hcur := cur_new (isRow_afterI h (below_al (Below.refl _ _) (.cells #[.int .i64 0, .int .i64 0, .int .i64 0, .slice none 0 0] 63 (0, 0)))) hl 104
  rw [hs0] at hcur
  have HD0 : Hid (Dk w ((w.alloc (.cells #[.int .i64 0, .int .i64 0, .int .i64 0, .slice none 0 0] 63 (0, 0))).alloc (.cells #[.slice a len cap, .int .i64 0, .int .u64 0] 104 (0, 0))) B 0) := Lib.hid ⟨hcur, grownBy_of_below (below_al (below_al (Below.refl _ _) _) _) _⟩
  have HR0 : Hid (BxV ((w.alloc (.cells #[.int .i64 0, .int .i64 0, .int .i64 0, .slice none 0 0] 63 (0, 0))).alloc (.cells #[.slice a len cap, .int .i64 0, .int .u64 0] 104 (0, 0))) R [.int .i64 0, .int .i64 0, .int .i64 0, .slice none 0 0]) := Lib.hid ((BxV.new' hR _ _).al _)
  have HS1 := Lib.hid hs1
  clear h hcur hs0 hs1
  have HRE := Lib.hid hR
  have HBE := Lib.hid hB
  clear hR hB
  go_enter Try.func54, Try.ntmps54
  go_upto_region 2 with fail
  try rw [HRE.out]
  try rw [HBE.out]
  generalize hW1 : (w.alloc (.cells #[.int .i64 0, .int .i64 0, .int .i64 0, .slice none 0 0] 63 (0, 0))).alloc (.cells #[.slice a len cap, .int .i64 0, .int .u64 0] 104 (0, 0)) = W1 at *
  have HW1 := Lib.hid hW1
  clear hW1
  go_wp2_with fail
  refine (holds_any B 0 _ HD0.out.cur (by omega)).mono ?_
  rintro e w2 ⟨v, es, rfl, hel, ho, hc, hg⟩
  rw [HS1.out] at ho
  have HD := Lib.hid (HD0.out.step hc hg)
  have HR := Lib.hid (HR0.out.grown hg (by simp; omega))
  have HO := Lib.hid ho
  have hB2 : B < w2.heap.size := hc.lt
  clear hc hg ho HD0 HR0
  go_wp2_with fail
  refine (record_any B 400 12 _ HD.out.cur (by omega) (by unfold inI; omega)).mono ?_
  rintro e w3 ⟨⟨id, se, ma, xs⟩, g, c, rfl, hok, hma, hxl, he, hc, hg⟩
  (try dsimp only at hok hma hxl he)
  (try dsimp only)
  have HE : Hid (EvsO (B + 1) w3.heap.size w3 (.slice (some ⟨g, 0, none⟩) xs.length c) xs) := Lib.hid (he.wide hB2 (Nat.le_refl _))
  replace HD := Lib.hid (HD.out.step hc hg)
  replace HR := Lib.hid (HR.out.grown hg (by simp; omega))
  replace HO := Lib.hid (HO.out.grown hg (by omega))
  have HOK := Lib.hid hok
  clear hc hg he hok
  obtain ⟨G, hF⟩ : ∃ G, w3.heap.size = G := ⟨_, rfl⟩
  have hBG : B < G := by have := HD.out.cur.lt; omega
  have HB : Hid (BxV (w3.alloc (.cells #[.int .i64 id, .int .i64 se, .int .i64 ma, .slice (some ⟨g, 0, none⟩) xs.length c] 63 (0, 0))) G [.int .i64 id, .int .i64 se, .int .i64 ma, .slice (some ⟨g, 0, none⟩) xs.length c]) := Lib.hid (BxV.new' hF _ _)
  replace HD := Lib.hid (HD.out.al (.cells #[.int .i64 id, .int .i64 se, .int .i64 ma, .slice (some ⟨g, 0, none⟩) xs.length c] 63 (0, 0)))
  replace HR := Lib.hid (HR.out.al (.cells #[.int .i64 id, .int .i64 se, .int .i64 ma, .slice (some ⟨g, 0, none⟩) xs.length c] 63 (0, 0)))
  replace HO := Lib.hid (HO.out.alloc (.cells #[.int .i64 id, .int .i64 se, .int .i64 ma, .slice (some ⟨g, 0, none⟩) xs.length c] 63 (0, 0)))
  replace HE : Hid (EvsO (B + 1) G (w3.alloc (.cells #[.int .i64 id, .int .i64 se, .int .i64 ma, .slice (some ⟨g, 0, none⟩) xs.length c] 63 (0, 0))) (.slice (some ⟨g, 0, none⟩) xs.length c) xs) := Lib.hid (by have := HE.out.alloc (.cells #[.int .i64 id, .int .i64 se, .int .i64 ma, .slice (some ⟨g, 0, none⟩) xs.length c] 63 (0, 0)); rwa [hF] at this)
  go_upto_region 4 with fail
  try rw [hF]
  have HFE := Lib.hid hF
  clear hF
  generalize hW3 : w3.alloc (.cells #[.int .i64 id, .int .i64 se, .int .i64 ma, .slice (some ⟨g, 0, none⟩) xs.length c] 63 (0, 0)) = W3 at *
  have HW3 := Lib.hid hW3
  clear hW3
  have c0 : W3.cell? ⟨G, 0, none⟩ = some (.int .i64 id) := HB.out.cell 0
  have c1 : W3.cell? ⟨G, 1, none⟩ = some (.int .i64 se) := HB.out.cell 1
  have c2 : W3.cell? ⟨G, 2, none⟩ = some (.int .i64 ma) := HB.out.cell 2
  have c3 : W3.cell? ⟨G, 3, none⟩ = some (.slice (some ⟨g, 0, none⟩) xs.length c) := HB.out.cell 3
  go_wp2_with fail
  refine (suited_any B 460 (B + 1) G id se ma g c xs _ HD.out.cur (by omega) HE.out (by omega) (by have := HB.out.lt; omega) HOK.out.2.1 (by omega)).mono ?_
  rintro e w4 ⟨v2, u, rfl, hul, hu, hc, hg⟩
  have HU : Hid (RusO (B + 1) w4.heap.size w4 v2 u) := Lib.hid (hu.wide (by have := HB.out.lt; omega) (Nat.le_refl _))
  replace HE : Hid (EvsO (B + 1) w4.heap.size w4 (.slice (some ⟨g, 0, none⟩) xs.length c) xs) := Lib.hid ((HE.out.grown hg (by omega)).wide (Nat.le_refl _) (Nat.le_trans (by have := HB.out.lt; omega) hg.size))
  replace HD := Lib.hid (HD.out.step hc hg)
  replace HR := Lib.hid (HR.out.grown hg (by simp; omega))
  replace HO := Lib.hid (HO.out.grown hg (by omega))
  replace HB := Lib.hid (HB.out.grown hg (by simp; omega))
  clear hc hg hu c0 c1 c2 c3
  have c0 := HB.out.cell 0
  have c1 := HB.out.cell 1
  have c2 := HB.out.cell 2
  have c3 := HB.out.cell 3
  simp at c0 c1 c2 c3
  obtain ⟨fd, ok, hfd⟩ : ∃ n b, fdRes (es.map Prod.fst) ⟨id, se, ma, xs⟩ u = (n, b) := ⟨_, _, rfl⟩
  have HFD := Lib.hid hfd
  clear hfd
  go_wp2_with fail
  refine (specFirstDestruction_any v _ v2 (es.map Prod.fst) ⟨id, se, ma, xs⟩ u _ HO.out.reads ⟨_, rfl, HE.out.row, HOK.out⟩ HU.out.row fd ok HFD.out).mono ?_
  rintro e w5 ⟨rfl, b5⟩
  replace HE : Hid (EvsO (B + 1) w5.heap.size w5 (.slice (some ⟨g, 0, none⟩) xs.length c) xs) := Lib.hid ((HE.out.below b5).wide (Nat.le_refl _) b5.size)
  replace HU : Hid (RusO (B + 1) w5.heap.size w5 v2 u) := Lib.hid ((HU.out.below b5).wide (Nat.le_refl _) b5.size)
  replace HD := Lib.hid (HD.out.below b5)
  replace HR := Lib.hid (HR.out.below b5)
  replace HO := Lib.hid (HO.out.belowW b5)
  replace HB := Lib.hid (HB.out.below b5)
  clear b5 c0 c1 c2 c3
  cases ok
  case false =>
    go_wp2_with fail
    have c0 : w5.cell? ⟨G, 0, none⟩ = some (.int .i64 id) := HB.out.cell 0
    have c1 : w5.cell? ⟨G, 1, none⟩ = some (.int .i64 se) := HB.out.cell 1
    have c2 : w5.cell? ⟨G, 2, none⟩ = some (.int .i64 ma) := HB.out.cell 2
    have c3 : w5.cell? ⟨G, 3, none⟩ = some (.slice (some ⟨g, 0, none⟩) xs.length c) := HB.out.cell 3
    have hBw : B < w5.heap.size := HD.out.cur.lt
    go_upto_region 8 with fail
    go_region_held3 (fun w' => w'.cell? ⟨G, 0, none⟩ = some (.int .i64 id) ∧ w'.cell? ⟨G, 1, none⟩ = some (.int .i64 se) ∧ w'.cell? ⟨G, 2, none⟩ = some (.int .i64 ma) ∧ w'.cell? ⟨G, 3, none⟩ = some (.slice (some ⟨g, 0, none⟩) xs.length c) ) (first | with_reducible exact ⟨c0, c1, c2, c3⟩ | with_reducible exact ⟨cell_drew c0, cell_drew c1, cell_drew c2, cell_drew c3⟩ | (refine ⟨?_, ?_, ?_, ?_⟩ <;> (repeat rw [World.cell?_setCell_far _ _ _ _ (by first | (simp; done) | (simp; omega))]) <;> first | assumption | go_keep)) (first | (go_at_call 119; refine (holdDay_any B 960 v (es.map Prod.fst) _ HD.out.drew.cur (by omega) HO.out.drew.reads (fun g hg e => by subst e; have := (HO.out.row.lt g hg).1; omega) (by simp; omega)).mono ?_; rintro e w9 ⟨n, rfl, hn, hc, hg⟩; replace HD := Lib.hid (HD.out.drew.step hc hg); replace HR := Lib.hid (HR.out.drew.grown hg (by simp; omega)); replace HO := Lib.hid (HO.out.drew.grown hg (by omega)); replace HE : Hid (EvsO (B + 1) w9.heap.size w9 (.slice (some ⟨g, 0, none⟩) xs.length c) xs) := Lib.hid (((HE.out.below (Below.refl _ _).drew).grown hg (by omega)).wide (Nat.le_refl _) hg.size); replace HU : Hid (RusO (B + 1) w9.heap.size w9 v2 u) := Lib.hid (((HU.out.below (Below.refl _ _).drew).grown hg (by omega)).wide (Nat.le_refl _) hg.size); replace HB := Lib.hid (HB.out.drew.grown hg (by simp; omega)); replace c0 := HB.out.cell 0; replace c1 := HB.out.cell 1; replace c2 := HB.out.cell 2; replace c3 := HB.out.cell 3; simp at c0 c1 c2 c3; have r0 := HR.out.cell 0; have r1 := HR.out.cell 1; have r2 := HR.out.cell 2; have r3 := HR.out.cell 3; simp at r0 r1 r2 r3; have z0 := HR.out.frozen 0; have z1 := HR.out.frozen 1; have z2 := HR.out.frozen 2; have z3 := HR.out.frozen 3; clear hc hg))
    all_goals
      go_wp2_with fail
      refine bodyPost_ret (v := .tuple #[v, .agg #[.int .i64 id, .int .i64 se, .int .i64 ma, .slice (some ⟨g, 0, none⟩) xs.length c], v2, .int .i64 (n)]) (by simp [results, Try.results54, go_sem, r0, r1, r2, r3]) rfl ?_
      have hne : ∀ k, Value.ownBlock (.slice (some ⟨g, 0, none⟩) xs.length c) = some k → k ≠ R := fun k hk => by have := HE.out.1.ge k hk; omega
      have hE := (((HE.out.setOther (G := R) (j := 0) (x := .int .i64 id) hne).setOther (G := R) (j := 1) (x := .int .i64 se) hne).setOther (G := R) (j := 2) (x := .int .i64 ma) hne).setOther (G := R) (j := 3) (x := (.slice (some ⟨g, 0, none⟩) xs.length c)) hne
      have hO := HO.out.put4 (R := R) (by omega) (.int .i64 id) (.int .i64 se) (.int .i64 ma) (.slice (some ⟨g, 0, none⟩) xs.length c)
      have hb4 : Below w.heap.size w w9 := below_of_grownBy HD.out.gr (Nat.le_refl _) (fun k e => by cases e; omega)
      have hb := (((hb4.setCell (p := ⟨R, 0, none⟩) hwR (.int .i64 id)).setCell (p := ⟨R, 1, none⟩) hwR (.int .i64 se)).setCell (p := ⟨R, 2, none⟩) hwR (.int .i64 ma)).setCell (p := ⟨R, 3, none⟩) hwR (.slice (some ⟨g, 0, none⟩) xs.length c)
      have hneU : ∀ k, Value.ownBlock v2 = some k → k ≠ R := fun k hk => by have := HU.out.1.ge k hk; omega
      have hU := (((HU.out.setOther (G := R) (j := 0) (x := .int .i64 id) hneU).setOther (G := R) (j := 1) (x := .int .i64 se) hneU).setOther (G := R) (j := 2) (x := .int .i64 ma) hneU).setOther (G := R) (j := 3) (x := (.slice (some ⟨g, 0, none⟩) xs.length c)) hneU
      exact ⟨⟨id, se, ma, xs⟩, g, c, v, v2, es, u, _, rfl, hn, hul, hU.wide (by omega) (by simp), ⟨HOK.out, hel, hxl, hO.low (by omega), hE.wide (by omega) (by simp), hb⟩⟩
  case true =>
    go_wp2_with fail
    refine (one_any B 960 2 _ HD.out.cur (by omega) (by omega) (by omega)).mono ?_
    rintro e w6 ⟨b2, rfl, hc, hg⟩
    replace HE : Hid (EvsO (B + 1) w6.heap.size w6 (.slice (some ⟨g, 0, none⟩) xs.length c) xs) := Lib.hid ((HE.out.grown hg (by omega)).wide (Nat.le_refl _) hg.size)
    replace HU : Hid (RusO (B + 1) w6.heap.size w6 v2 u) := Lib.hid ((HU.out.grown hg (by omega)).wide (Nat.le_refl _) hg.size)
    replace HD := Lib.hid (HD.out.step hc hg)
    replace HR := Lib.hid (HR.out.grown hg (by simp; omega))
    replace HO := Lib.hid (HO.out.grown hg (by omega))
    replace HB := Lib.hid (HB.out.grown hg (by simp; omega))
    clear hc hg
    cases b2
    case true =>
      have c0 : w6.cell? ⟨G, 0, none⟩ = some (.int .i64 id) := HB.out.cell 0
      have c1 : w6.cell? ⟨G, 1, none⟩ = some (.int .i64 se) := HB.out.cell 1
      have c2 : w6.cell? ⟨G, 2, none⟩ = some (.int .i64 ma) := HB.out.cell 2
      have c3 : w6.cell? ⟨G, 3, none⟩ = some (.slice (some ⟨g, 0, none⟩) xs.length c) := HB.out.cell 3
      have hBw : B < w6.heap.size := HD.out.cur.lt
      go_upto_region 7 with fail
      go_region_held3 (fun w' => w'.cell? ⟨G, 0, none⟩ = some (.int .i64 id) ∧ w'.cell? ⟨G, 1, none⟩ = some (.int .i64 se) ∧ w'.cell? ⟨G, 2, none⟩ = some (.int .i64 ma) ∧ w'.cell? ⟨G, 3, none⟩ = some (.slice (some ⟨g, 0, none⟩) xs.length c) ) (first | with_reducible exact ⟨c0, c1, c2, c3⟩ | with_reducible exact ⟨cell_drew c0, cell_drew c1, cell_drew c2, cell_drew c3⟩ | (refine ⟨?_, ?_, ?_, ?_⟩ <;> (repeat rw [World.cell?_setCell_far _ _ _ _ (by first | (simp; done) | (simp; omega))]) <;> first | assumption | go_keep)) (first | (go_at_call 81; refine (pick_any B 962 2 _ HD.out.drew.cur (by omega) (by omega) (by omega)).mono ?_; rintro e w9 ⟨r, rfl, ha0, ha1, hc, hg⟩; replace HD := Lib.hid (HD.out.drew.step hc hg); replace HR := Lib.hid (HR.out.drew.grown hg (by simp; omega)); replace HO := Lib.hid (HO.out.drew.grown hg (by omega)); replace HE : Hid (EvsO (B + 1) w9.heap.size w9 (.slice (some ⟨g, 0, none⟩) xs.length c) xs) := Lib.hid (((HE.out.below (Below.refl _ _).drew).grown hg (by omega)).wide (Nat.le_refl _) hg.size); replace HU : Hid (RusO (B + 1) w9.heap.size w9 v2 u) := Lib.hid (((HU.out.below (Below.refl _ _).drew).grown hg (by omega)).wide (Nat.le_refl _) hg.size); replace HB := Lib.hid (HB.out.drew.grown hg (by simp; omega)); replace c0 := HB.out.cell 0; replace c1 := HB.out.cell 1; replace c2 := HB.out.cell 2; replace c3 := HB.out.cell 3; simp at c0 c1 c2 c3; have r0 := HR.out.cell 0; have r1 := HR.out.cell 1; have r2 := HR.out.cell 2; have r3 := HR.out.cell 3; simp at r0 r1 r2 r3; have z0 := HR.out.frozen 0; have z1 := HR.out.frozen 1; have z2 := HR.out.frozen 2; have z3 := HR.out.frozen 3; clear hc hg))
      all_goals
        go_wp2_with fail
        refine bodyPost_ret (v := .tuple #[v, .agg #[.int .i64 id, .int .i64 se, .int .i64 ma, .slice (some ⟨g, 0, none⟩) xs.length c], v2, .int .i64 (IntKind.i64.wrap (fd - r))]) (by simp [results, Try.results54, go_sem, r0, r1, r2, r3]) rfl ?_
        have hne : ∀ k, Value.ownBlock (.slice (some ⟨g, 0, none⟩) xs.length c) = some k → k ≠ R := fun k hk => by have := HE.out.1.ge k hk; omega
        have hE := (((HE.out.setOther (G := R) (j := 0) (x := .int .i64 id) hne).setOther (G := R) (j := 1) (x := .int .i64 se) hne).setOther (G := R) (j := 2) (x := .int .i64 ma) hne).setOther (G := R) (j := 3) (x := (.slice (some ⟨g, 0, none⟩) xs.length c)) hne
        have hO := HO.out.put4 (R := R) (by omega) (.int .i64 id) (.int .i64 se) (.int .i64 ma) (.slice (some ⟨g, 0, none⟩) xs.length c)
        have hb4 : Below w.heap.size w w9 := below_of_grownBy HD.out.gr (Nat.le_refl _) (fun k e => by cases e; omega)
        have hb := (((hb4.setCell (p := ⟨R, 0, none⟩) hwR (.int .i64 id)).setCell (p := ⟨R, 1, none⟩) hwR (.int .i64 se)).setCell (p := ⟨R, 2, none⟩) hwR (.int .i64 ma)).setCell (p := ⟨R, 3, none⟩) hwR (.slice (some ⟨g, 0, none⟩) xs.length c)
        have hneU : ∀ k, Value.ownBlock v2 = some k → k ≠ R := fun k hk => by have := HU.out.1.ge k hk; omega
        have hU := (((HU.out.setOther (G := R) (j := 0) (x := .int .i64 id) hneU).setOther (G := R) (j := 1) (x := .int .i64 se) hneU).setOther (G := R) (j := 2) (x := .int .i64 ma) hneU).setOther (G := R) (j := 3) (x := (.slice (some ⟨g, 0, none⟩) xs.length c)) hneU
        exact ⟨⟨id, se, ma, xs⟩, g, c, v, v2, es, u, _, rfl, wrap_inM _, hul, hU.wide (by omega) (by simp), ⟨HOK.out, hel, hxl, hO.low (by omega), hE.wide (by omega) (by simp), hb⟩⟩
    case false =>
      have c0 : w6.cell? ⟨G, 0, none⟩ = some (.int .i64 id) := HB.out.cell 0
      have c1 : w6.cell? ⟨G, 1, none⟩ = some (.int .i64 se) := HB.out.cell 1
      have c2 : w6.cell? ⟨G, 2, none⟩ = some (.int .i64 ma) := HB.out.cell 2
      have c3 : w6.cell? ⟨G, 3, none⟩ = some (.slice (some ⟨g, 0, none⟩) xs.length c) := HB.out.cell 3
      have hBw : B < w6.heap.size := HD.out.cur.lt
      go_upto_region 8 with fail
      go_region_held3 (fun w' => w'.cell? ⟨G, 0, none⟩ = some (.int .i64 id) ∧ w'.cell? ⟨G, 1, none⟩ = some (.int .i64 se) ∧ w'.cell? ⟨G, 2, none⟩ = some (.int .i64 ma) ∧ w'.cell? ⟨G, 3, none⟩ = some (.slice (some ⟨g, 0, none⟩) xs.length c) ) (first | with_reducible exact ⟨c0, c1, c2, c3⟩ | with_reducible exact ⟨cell_drew c0, cell_drew c1, cell_drew c2, cell_drew c3⟩ | (refine ⟨?_, ?_, ?_, ?_⟩ <;> (repeat rw [World.cell?_setCell_far _ _ _ _ (by first | (simp; done) | (simp; omega))]) <;> first | assumption | go_keep)) (first | (go_at_call 119; refine (holdDay_any B 962 v (es.map Prod.fst) _ HD.out.drew.cur (by omega) HO.out.drew.reads (fun g hg e => by subst e; have := (HO.out.row.lt g hg).1; omega) (by simp; omega)).mono ?_; rintro e w9 ⟨n, rfl, hn, hc, hg⟩; replace HD := Lib.hid (HD.out.drew.step hc hg); replace HR := Lib.hid (HR.out.drew.grown hg (by simp; omega)); replace HO := Lib.hid (HO.out.drew.grown hg (by omega)); replace HE : Hid (EvsO (B + 1) w9.heap.size w9 (.slice (some ⟨g, 0, none⟩) xs.length c) xs) := Lib.hid (((HE.out.below (Below.refl _ _).drew).grown hg (by omega)).wide (Nat.le_refl _) hg.size); replace HU : Hid (RusO (B + 1) w9.heap.size w9 v2 u) := Lib.hid (((HU.out.below (Below.refl _ _).drew).grown hg (by omega)).wide (Nat.le_refl _) hg.size); replace HB := Lib.hid (HB.out.drew.grown hg (by simp; omega)); replace c0 := HB.out.cell 0; replace c1 := HB.out.cell 1; replace c2 := HB.out.cell 2; replace c3 := HB.out.cell 3; simp at c0 c1 c2 c3; have r0 := HR.out.cell 0; have r1 := HR.out.cell 1; have r2 := HR.out.cell 2; have r3 := HR.out.cell 3; simp at r0 r1 r2 r3; have z0 := HR.out.frozen 0; have z1 := HR.out.frozen 1; have z2 := HR.out.frozen 2; have z3 := HR.out.frozen 3; clear hc hg))
      all_goals
        go_wp2_with fail
        refine bodyPost_ret (v := .tuple #[v, .agg #[.int .i64 id, .int .i64 se, .int .i64 ma, .slice (some ⟨g, 0, none⟩) xs.length c], v2, .int .i64 (n)]) (by simp [results, Try.results54, go_sem, r0, r1, r2, r3]) rfl ?_
        have hne : ∀ k, Value.ownBlock (.slice (some ⟨g, 0, none⟩) xs.length c) = some k → k ≠ R := fun k hk => by have := HE.out.1.ge k hk; omega
        have hE := (((HE.out.setOther (G := R) (j := 0) (x := .int .i64 id) hne).setOther (G := R) (j := 1) (x := .int .i64 se) hne).setOther (G := R) (j := 2) (x := .int .i64 ma) hne).setOther (G := R) (j := 3) (x := (.slice (some ⟨g, 0, none⟩) xs.length c)) hne
        have hO := HO.out.put4 (R := R) (by omega) (.int .i64 id) (.int .i64 se) (.int .i64 ma) (.slice (some ⟨g, 0, none⟩) xs.length c)
        have hb4 : Below w.heap.size w w9 := below_of_grownBy HD.out.gr (Nat.le_refl _) (fun k e => by cases e; omega)
        have hb := (((hb4.setCell (p := ⟨R, 0, none⟩) hwR (.int .i64 id)).setCell (p := ⟨R, 1, none⟩) hwR (.int .i64 se)).setCell (p := ⟨R, 2, none⟩) hwR (.int .i64 ma)).setCell (p := ⟨R, 3, none⟩) hwR (.slice (some ⟨g, 0, none⟩) xs.length c)
        have hneU : ∀ k, Value.ownBlock v2 = some k → k ≠ R := fun k hk => by have := HU.out.1.ge k hk; omega
        have hU := (((HU.out.setOther (G := R) (j := 0) (x := .int .i64 id) hneU).setOther (G := R) (j := 1) (x := .int .i64 se) hneU).setOther (G := R) (j := 2) (x := .int .i64 ma) hneU).setOther (G := R) (j := 3) (x := (.slice (some ⟨g, 0, none⟩) xs.length c)) hneU
        exact ⟨⟨id, se, ma, xs⟩, g, c, v, v2, es, u, _, rfl, hn, hul, hU.wide (by omega) (by simp), ⟨HOK.out, hel, hxl, hO.low (by omega), hE.wide (by omega) (by simp), hb⟩⟩
end Go.Proofs.Ytenjajcknmfhfaa

namespace Go.Proofs.Ytenjajcknmfhfaa
set_option linter.unusedVariables false

theorem on_empty {t : List Ho} {r : Rec} {d : Int} : onHo t r d = [] ↔ heldB t r d = false := by
  have h := onHo_held (t := t) (r := r) (d := d)
  constructor
  · intro e
    rw [← h, e]; rfl
  · intro e
    rw [e, decide_eq_false_iff_not] at h
    exact List.length_eq_zero_iff.1 (by omega)
theorem hq_may {t : List Ho} {r : Rec} {u : List Ru} {d : Int} {b : Bool} (h : mayRes t r u d = (true, b)) : hoRes t r d = ([], true) ∧ askH t r d = true ∧ isSch u = true ∧ 0 ≤ dueF r u ∧ dueF r u ≤ d := by
  unfold mayRes at h
  split at h
  · rename_i hh
    have h1 := (Prod.mk.inj h).1
    unfold mayB at h1
    simp only [Bool.and_eq_true, decide_eq_true_eq, Bool.not_eq_true'] at h1
    refine ⟨?_, hh.1, hh.2, h1.1.1.1, h1.1.1.2⟩
    unfold hoRes
    rw [if_pos hh.1, on_empty.2 h1.2]
  · cases h
theorem hq_due {t : List Ho} {r : Rec} {u : List Ru} {d : Int} {b : Bool} (h : mayRes t r u d = (true, b)) : isdRes r u d = (true, true) := by
  obtain ⟨_, h2, h3, h4, h5⟩ := hq_may h
  obtain ⟨_, a2, a3⟩ := askH_iff.1 h2
  unfold isdRes
  rw [if_pos ⟨ask_iff.2 ⟨a2, h3⟩, a3⟩, decide_eq_true ⟨h4, h5⟩]
theorem hq_first {t : List Ho} {r : Rec} {u : List Ru} {n : Int} (h : fdRes t r u = (n, true)) : mayRes t r u n = (true, true) ∧ (0 < n → mayRes t r u (n - 1) = (false, true)) := by
  unfold fdRes at h
  split at h
  · rename_i hh
    obtain ⟨e, _⟩ := Prod.mk.inj h
    obtain ⟨q1, q2, q3, q4, q5⟩ := fdAsk_iff.1 hh
    obtain ⟨a1, a2⟩ := askH_zero.1 q1
    obtain ⟨f1, f2⟩ := free_told (t := t) (r := r) (d := dueF r u) q3.1
    rw [e] at f1 f2 q5
    have f3 : dueF r u ≤ n ∧ n ≤ 20000 ∧ heldB t r n = false := by
      rcases f2 with f2 | f2
      · omega
      · exact f2
    refine ⟨?_, fun h0 => ?_⟩
    · unfold mayRes mayB
      rw [if_pos ⟨askH_iff.2 ⟨a1, a2, by omega⟩, q2⟩, f3.2.2, decide_eq_true ⟨⟨q3.1, f3.1⟩, q4⟩]; rfl
    · unfold mayRes mayB
      rw [if_pos ⟨askH_iff.2 ⟨a1, a2, by omega⟩, q2⟩]
      by_cases hd : dueF r u ≤ n - 1
      · rw [f1 (n - 1) hd (by omega)]; simp
      · rw [decide_eq_false (fun q => hd q.1.2)]; rfl
  · cases h
theorem hq_free {t : List Ho} {r : Rec} {d n : Int} (h : freRes t r d = (n, true)) : hoRes t r n = ([], true) ∧ d ≤ n ∧ (d < n → ∃ xs, hoRes t r (n - 1) = (xs, true) ∧ xs ≠ []) := by
  unfold freRes at h
  split at h
  · rename_i hh
    obtain ⟨e, _⟩ := Prod.mk.inj h
    obtain ⟨a1, a2, a3⟩ := askH_iff.1 hh.1
    obtain ⟨f1, f2⟩ := free_told (t := t) (r := r) (d := d) a3.1
    have h5 := hh.2
    rw [e] at f1 f2 h5
    have f3 : d ≤ n ∧ n ≤ 20000 ∧ heldB t r n = false := by
      rcases f2 with f2 | f2
      · omega
      · exact f2
    refine ⟨?_, f3.1, fun hl => ⟨onHo t r (n - 1), ?_, fun q => ?_⟩⟩
    · unfold hoRes
      rw [if_pos (askH_iff.2 ⟨a1, a2, by omega⟩), on_empty.2 f3.2.2]
    · unfold hoRes
      rw [if_pos (askH_iff.2 ⟨a1, a2, by omega⟩)]
    · have := f1 (n - 1) (by omega) (by omega)
      rw [on_empty.1 q] at this; cases this
  · cases h
end Go.Proofs.Ytenjajcknmfhfaa
