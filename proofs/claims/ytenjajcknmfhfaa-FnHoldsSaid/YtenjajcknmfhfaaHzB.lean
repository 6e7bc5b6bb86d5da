/- SlRu, RuS, DropRuS, PutRuS, DrawSc, DrawSu, DrawIr, DrawHo, in one text. -/
import Derived.Test.YtenjajcknmfhfaaToRu
import Derived.Test.YtenjajcknmfhfaaPuts
import Derived.ArgAppend
import Derived.Test.YtenjajcknmfhfaaL1In
import Derived.Lib.QuietBelow
import Derived.BigQuiet
import Derived.WalkSmall
import Derived.Test.YtenjajcknmfhfaaRuCells
import Derived.Deep.RegionLaw
import Derived.Deep.RegionHeld3
import Derived.Test.YtenjajcknmfhfaaDrawRu
import Derived.Test.YtenjajcknmfhfaaGen
import Derived.Test.YtenjajcknmfhfaaDrawRe
import Derived.Test.YtenjajcknmfhfaaHolds
import Derived.Test.YtenjajcknmfhfaaHoldDay
namespace Go.Proofs.Ytenjajcknmfhfaa
set_option linter.unusedVariables false
open Go.RowKit

theorem ruC_len (f : Ru) : (ruC f).length = 4 := rfl
theorem ruC_one (f : Ru) : ∀ u ∈ ruC f, u.oneCell' = true := by
  intro u hu
  simp [ruC] at hu
  rcases hu with rfl | rfl | rfl | rfl <;> rfl
theorem RusO.of_row {lo n : Nat} {w : World} {v : Value} {t : List Ru} (h : w.ownsRow lo 56 4 v n ((t.map ruC).flatten)) (hn : n = t.length) (hok : ∀ f ∈ t, f.ok) : RusO lo w.heap.size w v t :=
  ⟨⟨by rw [List.length_map, ← hn]; exact h, fun cs hc => by obtain ⟨x, _, rfl⟩ := List.mem_map.1 hc; rfl⟩, hok, fun g hg => (h.lt g hg).2⟩
theorem rus_cells {w : World} {ad : Addr} {n c : Nat} {t : List Ru} (h : RowR 4 rRu w (.slice (some ad) n c) t) : ∀ W, Below w.heap.size w W → ∀ j u, (t.map ruC).flatten[j]? = some u → W.cell? (ad.add j) = some u := by
  obtain ⟨b, off, spot⟩ := ad
  obtain ⟨a, cap, e, h1, h2, h3⟩ := h
  cases e
  rcases h3 with rfl | ⟨b', off', hb, e, hc⟩
  · intro W _ j u hj; simp at hj
  · cases e
    intro W hW j u hj
    rw [Addr.add_lit]
    exact cell_kept (RowR.flat (R := rRu) (fun _ _ _ h => h.1) ruC_len (by decide) (⟨_, _, rfl, h1, h2, .inr ⟨b, off, hb, rfl, hc⟩⟩ : RowR 4 rRu w _ t) j u hj) hW
theorem RusO.empty {lo : Nat} (w : World) (h : lo ≤ w.heap.size) : RusO lo (w.alloc (.cells #[] 56 (0, 0))).heap.size (w.alloc (.cells #[] 56 (0, 0))) (.slice (some ⟨w.heap.size, 0, none⟩) 0 0) [] :=
  RusO.of_row (n := 0) (World.ownsRow_made w #[] 0 h (Nat.zero_le _) rfl) rfl (by simp)
theorem RusO.cells {lo hi : Nat} {w : World} {g n c : Nat} {t : List Ru} (h : RusO lo hi w (.slice (some ⟨g, 0, none⟩) n c) t) : ∀ j u, (t.map ruC).flatten[j]? = some u → w.cell? ((⟨g, 0, none⟩ : Addr).add j) = some u := by
  rcases Nat.eq_zero_or_pos t.length with h0 | h0
  · intro j u hj; rw [List.length_eq_zero_iff.1 h0] at hj; simp at hj
  · intro j u hj
    have := h.row
    exact rus_cells this w (Below.refl _ _) j u hj

end Go.Proofs.Ytenjajcknmfhfaa

namespace Go.Proofs.Ytenjajcknmfhfaa
set_option linter.unusedVariables false
open Go.RowKit Go.Sort

theorem specRu_any (x : Ru) (w : World) : Calls Try.prog 141 #[.agg #[.int .i64 x.series, .int .i64 x.event, .int .i64 x.days, .int .i64 x.act]] w fun e w' => e = .returned (.bool (isRu x)) ∧ Below w.heap.size w w' := by
  obtain ⟨x0, x1, x2, x3⟩ := x
  simp only
  obtain ⟨b0, h0⟩ : ∃ b, decide (1 ≤ x0 ∧ x0 ≤ 99) = b := ⟨_, rfl⟩
  obtain ⟨b1, h1⟩ : ∃ b, decide (0 ≤ x1 ∧ x1 ≤ 9) = b := ⟨_, rfl⟩
  obtain ⟨b2, h2⟩ : ∃ b, decide (0 ≤ x2 ∧ x2 ≤ 20000) = b := ⟨_, rfl⟩
  obtain ⟨b3, h3⟩ : ∃ b, decide (1 ≤ x3 ∧ x3 ≤ 3) = b := ⟨_, rfl⟩
  have hr : isRu ⟨x0, x1, x2, x3⟩ = (b0 && (b1 && (b2 && b3))) := by simp only [isRu]; rw [h0, h1, h2, h3]
  rw [hr]
  have H0 := Lib.hid h0
  have H1 := Lib.hid h1
  have H2 := Lib.hid h2
  have H3 := Lib.hid h3
  clear h0 h1 h2 h3 hr
  cases b0
  · go_enter Try.func141, Try.ntmps141
    go_wp2_with (first | (go_at_call 79; refine (l1In_any _ _ _ _).mono ?_; (first | rw [H0.out] | rw [H1.out] | rw [H2.out] | rw [H3.out]); rintro e w' ⟨rfl, rfl⟩))
    go_ret
    exact ⟨rfl, below_al (Below.refl _ _) _⟩
  · cases b1
    · go_enter Try.func141, Try.ntmps141
      go_wp2_with (first | (go_at_call 79; refine (l1In_any _ _ _ _).mono ?_; (first | rw [H0.out] | rw [H1.out] | rw [H2.out] | rw [H3.out]); rintro e w' ⟨rfl, rfl⟩))
      go_ret
      exact ⟨rfl, below_al (Below.refl _ _) _⟩
    · cases b2
      · go_enter Try.func141, Try.ntmps141
        go_wp2_with (first | (go_at_call 79; refine (l1In_any _ _ _ _).mono ?_; (first | rw [H0.out] | rw [H1.out] | rw [H2.out] | rw [H3.out]); rintro e w' ⟨rfl, rfl⟩))
        go_ret
        exact ⟨rfl, below_al (Below.refl _ _) _⟩
      · go_enter Try.func141, Try.ntmps141
        go_wp2_with (first | (go_at_call 79; refine (l1In_any _ _ _ _).mono ?_; (first | rw [H0.out] | rw [H1.out] | rw [H2.out] | rw [H3.out]); rintro e w' ⟨rfl, rfl⟩))
        go_ret
        exact ⟨rfl, below_al (Below.refl _ _) _⟩

theorem specBef_any (a b : Ru) (w : World) : Calls Try.prog 142 #[.agg #[.int .i64 a.series, .int .i64 a.event, .int .i64 a.days, .int .i64 a.act], .agg #[.int .i64 b.series, .int .i64 b.event, .int .i64 b.days, .int .i64 b.act]] w fun e w' => e = .returned (.bool (bef a b)) ∧ Below w.heap.size w w' := by
  obtain ⟨x0, x1, x2, x3⟩ := a
  obtain ⟨y0, y1, y2, y3⟩ := b
  simp only [bef]
  by_cases h1 : x0 < y0
  · go_enter Try.func142, Try.ntmps142
    go_wp2_with fail
    go_ret
    exact ⟨ret_bool (by simp [h1]), below_al (below_al (Below.refl _ _) _) _⟩
  · by_cases h2 : x0 = y0
    · have e2 : (x0 == y0) = true := by simp [h2]
      by_cases h3 : x1 < y1
      · have H2 := Lib.hid h2
        clear h2
        go_enter Try.func142, Try.ntmps142
        go_wp2_with fail
        go_ret
        exact ⟨ret_bool (by simp [H2.out]), below_al (below_al (Below.refl _ _) _) _⟩
      · have H2 := Lib.hid h2
        clear h2
        go_enter Try.func142, Try.ntmps142
        go_wp2_with fail
        go_ret
        exact ⟨ret_bool (by simp [h3, H2.out]), below_al (below_al (Below.refl _ _) _) _⟩
    · have e2 : (x0 == y0) = false := by simp [h2]
      have H2 := Lib.hid h2
      clear h2
      go_enter Try.func142, Try.ntmps142
      go_wp2_with fail
      go_ret
      exact ⟨ret_bool (by have := H2.out; simp [h1, this]), below_al (below_al (Below.refl _ _) _) _⟩


set_option maxRecDepth 20000 in
set_option maxHeartbeats 2000000 in
theorem l4Good_any (v : Value) (t : List Ru) (w : World) (h : RowR 4 rRu w v t) :
    Calls Try.prog 86 #[v] w fun e w' => e = .returned (.bool (isSch t)) ∧ Below w.heap.size w w' := by
  have hcap := h.cap
  obtain ⟨a1, c1, hv, hl1, hm1, r1⟩ := h.rus
  subst hv
  have R1 := Lib.hid r1
  clear h r1
  unfold maxLen at hm1
  go_enter Try.func86, Try.ntmps86
  go_wp2
  go_loopw [3] (fun i wr => ∃ k : Nat, k ≤ t.length ∧ i = .int .i64 k ∧ Hid (upto (ruAtB t) k = true) ∧ Below w.heap.size w wr) (fun i _ => t.length - (intOf i).toNat)
  case atStart => exact ⟨0, Nat.zero_le _, rfl, Lib.hid (by simp [upto]), Below.refl _ _⟩
  case round =>
    obtain ⟨k, hk, rfl, HU, hb⟩ := hrel
    by_cases hlt : k < t.length
    · obtain ⟨b1, o1, hb1, rfl, e1⟩ := R1.out.resolve_left (fun e => by rw [e] at hlt; simp at hlt)
      obtain ⟨f, hx⟩ : ∃ s, t.getD k ruD = s := ⟨_, rfl⟩
      obtain ⟨q0, q1, q2, q3, hok⟩ := e1 k hlt
      rw [hx] at q0 q1 q2 q3 hok
      obtain ⟨x0, x1, x2, x3⟩ := f
      simp only at q0 q1 q2 q3
      have f0 := cell_kept q0 hb
      have f1 := cell_kept q1 hb
      have f2 := cell_kept q2 hb
      have f3 := cell_kept q3 hb
      have HX := Lib.hid hx
      have g0 : (0 : Int) ≤ (k : Int) := by omega
      have g1 : (k : Int) < (t.length : Int) := by omega
      have hw := hb.size
      obtain ⟨bF, hbF⟩ : ∃ b, isRu ⟨x0, x1, x2, x3⟩ = b := ⟨_, rfl⟩
      have HF := Lib.hid hbF
      have m0 := cell_regrown f0
      have m1 := cell_regrown f1
      have m2 := cell_regrown f2
      have m3 := cell_regrown f3
      have hc : ∀ d os, Calls Try.prog 141 #[.agg #[.int .i64 x0, .int .i64 x1, .int .i64 x2, .int .i64 x3]] (grow (redrawn wr d) os) fun e w'' => e = .returned (.bool bF) ∧ ∃ p : Regrown, w'' = grow (redrawn wr p.d) p.os := fun d os => Calls.regrown_of (by have := specRu_any ⟨x0, x1, x2, x3⟩ (grow (redrawn wr d) os); rwa [hbF] at this)
      clear q0 q1 q2 q3 hok hx hbF
      cases bF
      · have hnt := notSch hlt (ruAt_no1 HX.out HF.out)
        have HNT := Lib.hid hnt
        clear hnt
        go_wp2_with fail
        refine wp_region_quiet_below (by kernel_rfl) (by kernel_rfl) ?_
        repeat (go_big_quiet_step (first | exact hc _ _))
        refine wpQuiet_nil ?_
        intro _ hw'
        obtain ⟨⟨dq, osq⟩, hw''⟩ := hw'
        subst hw''
        have bq := below_regrown wr dq osq
        generalize grow (redrawn wr dq) osq = w2 at bq ⊢
        go_wp2
        go_ret
        exact ⟨ret_bool HNT.out.symm, hb.trans (bq.mono hw)⟩
      · by_cases hk0 : k = 0
        · have dk : decide ((0 : Int) < (k : Int)) = false := decide_eq_false (by omega)
          have dk2 : decide (0 < k) = false := decide_eq_false (by omega)
          have hat := ruAt_yes HX.out HF.out (by rw [hk0]; exact bef_first HF.out)
          have HU2 := Lib.hid (upto_succ HU.out hat)
          clear hat hk0
          go_wp2_with fail
          refine wp_region_quiet_below (by kernel_rfl) (by kernel_rfl) ?_
          repeat (go_big_quiet_step (first | exact hc _ _))
          refine wpQuiet_nil ?_
          intro _ hw'
          obtain ⟨⟨dq, osq⟩, hw''⟩ := hw'
          subst hw''
          have bq := below_regrown wr dq osq
          generalize grow (redrawn wr dq) osq = w2 at bq ⊢
          go_wp2
          go_roundw
          case rel => exact ⟨k + 1, by omega, by go_num, HU2, hb.trans (bq.mono hw)⟩
          case measure => simp [intOf]; omega
        · obtain ⟨L, hL⟩ : ∃ L, k = L + 1 := ⟨k - 1, by omega⟩
          have dk : decide ((0 : Int) < (k : Int)) = true := decide_eq_true (by omega)
          have dk2 : decide (0 < k) = true := decide_eq_true (by omega)
          have gl : (k : Int) - 1 = (L : Int) := by omega
          have gL0 : (0 : Int) ≤ (L : Int) := by omega
          have gL1 : (L : Int) < (t.length : Int) := by omega
          obtain ⟨⟨y0, y1, y2, y3⟩, hy⟩ : ∃ s, t.getD L ruD = s := ⟨_, rfl⟩
          obtain ⟨p0, p1, p2, p3, _⟩ := e1 L (by omega)
          rw [hy] at p0 p1 p2 p3
          simp only at p0 p1 p2 p3
          have n0 := cell_regrown (cell_kept p0 hb)
          have n1 := cell_regrown (cell_kept p1 hb)
          have n2 := cell_regrown (cell_kept p2 hb)
          have n3 := cell_regrown (cell_kept p3 hb)
          obtain ⟨bB, hbB⟩ : ∃ b, bef ⟨y0, y1, y2, y3⟩ ⟨x0, x1, x2, x3⟩ = b := ⟨_, rfl⟩
          have hd : ∀ d os, Calls Try.prog 142 #[.agg #[.int .i64 y0, .int .i64 y1, .int .i64 y2, .int .i64 y3], .agg #[.int .i64 x0, .int .i64 x1, .int .i64 x2, .int .i64 x3]] (grow (redrawn wr d) os) fun e w'' => e = .returned (.bool bB) ∧ ∃ p : Regrown, w'' = grow (redrawn wr p.d) p.os := fun d os => Calls.regrown_of (by have := specBef_any ⟨y0, y1, y2, y3⟩ ⟨x0, x1, x2, x3⟩ (grow (redrawn wr d) os); rwa [hbB] at this)
          have hpv : prevRu t k = ⟨y0, y1, y2, y3⟩ := by rw [hL]; exact hy
          have hYES : Hid (bB = true → upto (ruAtB t) (k + 1) = true) := Lib.hid (fun e => upto_succ HU.out (ruAt_yes HX.out HF.out (by rw [hpv, hbB, e])))
          have hNO : Hid (bB = false → isSch t = false) := Lib.hid (fun e => notSch hlt (ruAt_no2 HX.out (by rw [hpv, hbB, e])))
          clear p0 p1 p2 p3 hy hbB hpv e1 hL hk0
          cases bB
          · have HNT := Lib.hid (hNO.out rfl)
            go_wp2_with fail
            refine wp_region_quiet_below (by kernel_rfl) (by kernel_rfl) ?_
            repeat (go_big_quiet_step (first | exact hc _ _ | exact hd _ _))
            refine wpQuiet_nil ?_
            intro _ hw'
            obtain ⟨⟨dq, osq⟩, hw''⟩ := hw'
            subst hw''
            have bq := below_regrown wr dq osq
            generalize grow (redrawn wr dq) osq = w2 at bq ⊢
            go_wp2
            go_ret
            exact ⟨ret_bool HNT.out.symm, hb.trans (bq.mono hw)⟩
          · have HU2 := Lib.hid (hYES.out rfl)
            go_wp2_with fail
            refine wp_region_quiet_below (by kernel_rfl) (by kernel_rfl) ?_
            repeat (go_big_quiet_step (first | exact hc _ _ | exact hd _ _))
            refine wpQuiet_nil ?_
            intro _ hw'
            obtain ⟨⟨dq, osq⟩, hw''⟩ := hw'
            subst hw''
            have bq := below_regrown wr dq osq
            generalize grow (redrawn wr dq) osq = w2 at bq ⊢
            go_wp2
            go_roundw
            case rel => exact ⟨k + 1, by omega, by go_num, HU2, hb.trans (bq.mono hw)⟩
            case measure => simp [intOf]; omega
    · obtain rfl : k = t.length := by omega
      have hs := sch_upto HU.out
      have HS := Lib.hid hs
      clear hs
      go_wp2
      go_ret
      exact ⟨ret_bool (by rw [HS.out]; exact decide_eq_decide.2 (by omega)), hb⟩
end Go.Proofs.Ytenjajcknmfhfaa

namespace Go.Proofs.Ytenjajcknmfhfaa
set_option linter.unusedVariables false
open Go.RowKit Go.Sort

set_option maxRecDepth 20000 in
set_option maxHeartbeats 2000000 in
theorem l4Without_any (v : Value) (t : List Ru) (q : Ru) (w : World) (h : RowR 4 rRu w v t) (hn : t.length ≤ 1048576) :
    Calls Try.prog 165 #[v, .int .i64 q.series, .int .i64 q.event] w fun e w' => ∃ v', e = .returned v' ∧ RusO w.heap.size w'.heap.size w' v' (delRu t q) ∧ Below w.heap.size w w' ∧ ∃ ad n c, v' = .slice (some ad) n c := by
  obtain ⟨i0, hi, hz0, hz1, hz2⟩ := info_parts Try.info_ru
  have hok := h.rus_ok
  have HOK := Lib.hid hok
  obtain ⟨qs, qe, qd, qa⟩ := q
  obtain ⟨a1, c1, hv, hl1, hm1, r1⟩ := h.rus
  subst hv
  have R1 := Lib.hid r1
  clear h r1 hok
  unfold maxLen at hm1
  go_enter Try.func165, Try.ntmps165
  go_wp2_with fail
  go_loopw [7, 8] (fun o i wr => ∃ k : Nat, k ≤ t.length ∧ i = .int .i64 k ∧ wr.ownsRow w.heap.size 56 4 o (delRu (t.take k) ⟨qs, qe, qd, qa⟩).length (((delRu (t.take k) ⟨qs, qe, qd, qa⟩).map ruC).flatten) ∧ Below w.heap.size w wr ∧ o ≠ .slice none 0 0) (fun _ i _ => t.length - (intOf i).toNat)
  case atStart => exact ⟨0, Nat.zero_le _, rfl, by simpa [delRu] using World.ownsRow_made w #[] 0 (Nat.le_refl _) (Nat.zero_le _) rfl, below_al (Below.refl _ _) _, by simp⟩
  case round =>
    obtain ⟨k, hk, rfl, hO, hb, hnn⟩ := hrel
    by_cases hlt : k < t.length
    · obtain ⟨b1, o1, hb1, rfl, e1⟩ := R1.out.resolve_left (fun e => by rw [e] at hlt; simp at hlt)
      obtain ⟨q0, q1, q2, q3, hok⟩ := e1 k hlt
      have hsucc := delRu_succ (q := ⟨qs, qe, qd, qa⟩) hlt
      obtain ⟨P, hP⟩ : ∃ P, delRu (t.take k) ⟨qs, qe, qd, qa⟩ = P := ⟨_, rfl⟩
      have hPl : P.length ≤ k := by
        rw [← hP]
        have := delRu_len (t.take k) ⟨qs, qe, qd, qa⟩
        rw [List.length_take] at this
        omega
      rw [hP] at hO hsucc
      obtain ⟨⟨x0, x1, x2, x3⟩, hx⟩ : ∃ s, t.getD k ruD = s := ⟨_, rfl⟩
      rw [hx] at q0 q1 q2 q3 hsucc
      simp only at q0 q1 q2 q3
      have f0 := cell_kept q0 hb
      have f1 := cell_kept q1 hb
      have f2 := cell_kept q2 hb
      have f3 := cell_kept q3 hb
      have HSU := Lib.hid hsucc
      have HNN := Lib.hid hnn
      have g0 : (0 : Int) ≤ (k : Int) := by omega
      have g1 : (k : Int) < (t.length : Int) := by omega
      have hsz := hb.size
      clear q0 q1 q2 q3 hok e1 hx hsucc hP hnn
      by_cases hs : x0 = qs
      · have d0 : (x0 != qs) = false := by simp [hs]
        by_cases he : x1 = qe
        · have d1 : (x1 != qe) = false := by simp [he]
          have HSU2 := Lib.hid (HSU.out.trans (if_pos (keyB_iff.2 ⟨hs, he⟩)))
          have HO := Lib.hid hO
          clear hs he hO
          go_wp2_with fail
          go_roundw
          case rel => exact ⟨k + 1, by omega, by go_num, (by rw [HSU2.out]; exact HO.out), hb, HNN.out⟩
          case measure => simp [intOf]; omega
        · have d1 : (x1 != qe) = true := by simp [he]
          have HSU2 := Lib.hid (HSU.out.trans (if_neg (fun e => he (keyB_iff.1 e).2)))
          clear hs he
          go_wp2_with (first | (at_builtin; refine wpList_append_own _ rfl _ _ 40 rfl w.heap.size 56 i0 (.agg #[.int .i64 0, .int .i64 0, .int .i64 0, .int .i64 0]) 4 32 Try.underlying40 hi hz0 hz1 hz2 rfl (by decide) _ _ _ rfl (hO.alloc _) ⟨wr.heap.size, 0, none⟩ 1 1 [.int .i64 x0, .int .i64 x1, .int .i64 x2, .int .i64 x3] rfl rfl (cells4_new' _ _ _ _ _ _ (by simp)) (by simp [Value.oneCell']) (by unfold maxLen; omega) (by omega) (by simp; omega) ?_; intro v' w4 hown' hgrow _))
          have HOWN := Lib.hid hown'
          have HB := Lib.hid (below_app hb (Nat.le_refl _) hO hgrow)
          clear hown' hgrow hO
          go_wp2_with fail
          go_roundw
          case rel => exact ⟨k + 1, by omega, by go_num, (by rw [HSU2.out]; simpa [ruC] using HOWN.out), HB.out, (by rintro rfl; rcases HOWN.out.2 with ⟨_, e⟩ | ⟨_, _, _, e, _⟩; (· omega); cases e)⟩
          case measure => simp [intOf]; omega
      · have d0 : (x0 != qs) = true := by simp [hs]
        have HSU2 := Lib.hid (HSU.out.trans (if_neg (fun e => hs (keyB_iff.1 e).1)))
        clear hs
        go_wp2_with (first | (at_builtin; refine wpList_append_own _ rfl _ _ 40 rfl w.heap.size 56 i0 (.agg #[.int .i64 0, .int .i64 0, .int .i64 0, .int .i64 0]) 4 32 Try.underlying40 hi hz0 hz1 hz2 rfl (by decide) _ _ _ rfl (hO.alloc _) ⟨wr.heap.size, 0, none⟩ 1 1 [.int .i64 x0, .int .i64 x1, .int .i64 x2, .int .i64 x3] rfl rfl (cells4_new' _ _ _ _ _ _ (by simp)) (by simp [Value.oneCell']) (by unfold maxLen; omega) (by omega) (by simp; omega) ?_; intro v' w4 hown' hgrow _))
        have HOWN := Lib.hid hown'
        have HB := Lib.hid (below_app hb (Nat.le_refl _) hO hgrow)
        clear hown' hgrow hO
        go_wp2_with fail
        go_roundw
        case rel => exact ⟨k + 1, by omega, by go_num, (by rw [HSU2.out]; simpa [ruC] using HOWN.out), HB.out, (by rintro rfl; rcases HOWN.out.2 with ⟨_, e⟩ | ⟨_, _, _, e, _⟩; (· omega); cases e)⟩
        case measure => simp [intOf]; omega
    · obtain rfl : k = t.length := by omega
      rw [List.take_length] at hO
      have HF := Lib.hid (RusO.of_row hO rfl (fun f hf => HOK.out f (List.mem_filter.1 hf).1))
      have HN : Hid (∃ ad n c, u7 = .slice (some ad) n c) := Lib.hid (by
        rcases hO.2 with ⟨e, _⟩ | ⟨g, cap, _, e, _⟩
        · exact absurd e hnn
        · exact ⟨_, _, _, e⟩)
      clear hO hnn
      go_wp2_with fail
      go_ret
      exact ⟨_, rfl, HF.out, hb, HN.out⟩

theorem dropRes_no {t : List Ru} {q : Ru} {xs : List Ru} {b : Bool} (h : dropRes t q = (xs, b)) (hn : isSch t = false ∨ (delRu t q).length = t.length) : xs = [] ∧ b = false := by
  unfold dropRes at h
  rw [if_neg (by rcases hn with e | e <;> simp [e])] at h
  obtain ⟨h1, h2⟩ := Prod.mk.inj h
  exact ⟨h1.symm, h2.symm⟩
theorem dropRes_yes {t : List Ru} {q : Ru} {xs : List Ru} {b : Bool} (h : dropRes t q = (xs, b)) (hs : isSch t = true) (hl : (delRu t q).length ≠ t.length) : xs = delRu t q ∧ b = true := by
  unfold dropRes at h
  rw [if_pos ⟨hs, hl⟩] at h
  obtain ⟨h1, h2⟩ := Prod.mk.inj h
  exact ⟨h1.symm, h2.symm⟩

end Go.Proofs.Ytenjajcknmfhfaa

namespace Go.Proofs.Ytenjajcknmfhfaa
set_option linter.unusedVariables false
open Go.RowKit Go.Sort

theorem putRes_no {t : List Ru} {r : Ru} {xs : List Ru} {b : Bool} (h : putRes t r = (xs, b)) (hn : isSch t = false ∨ isSch (putRu t r) = false) : xs = [] ∧ b = false := by
  unfold putRes at h
  rw [if_neg (by rcases hn with e | e <;> simp [e])] at h
  obtain ⟨h1, h2⟩ := Prod.mk.inj h
  exact ⟨h1.symm, h2.symm⟩
theorem putRes_yes {t : List Ru} {r : Ru} {xs : List Ru} {b : Bool} (h : putRes t r = (xs, b)) (hs : isSch t = true) (hl : isSch (putRu t r) = true) : xs = putRu t r ∧ b = true := by
  unfold putRes at h
  rw [if_pos ⟨hs, hl⟩] at h
  obtain ⟨h1, h2⟩ := Prod.mk.inj h
  exact ⟨h1.symm, h2.symm⟩

theorem cells_grown {W W' : World} {row : Option Nat} {ad : Addr} {cs : List Value} (hg : W.grownBy W' row) (hc : ∀ j u, cs[j]? = some u → W.cell? (ad.add j) = some u) (hne : some ad.block ≠ row) : ∀ j u, cs[j]? = some u → W'.cell? (ad.add j) = some u := fun j u hj =>
  (World.cell?_of_block (w := W) (hg.block _ (World.block_lt_of_cell? _ _ (hc j u hj)) (by show some (ad.add j).block ≠ row; rw [show (ad.add j).block = ad.block by unfold Addr.add; split <;> rfl]; exact hne))).trans (hc j u hj)

set_option maxRecDepth 20000 in
set_option maxHeartbeats 8000000 in
theorem specPutRule_any (v : Value) (t : List Ru) (r : Ru) (w : World) (h : RowR 4 rRu w v t) (hr : r.ok) (hn : t.length ≤ 1048576) (xs : List Ru) (b : Bool) (hres : putRes t r = (xs, b)) :
    Calls Try.prog 138 #[v, .agg #[.int .i64 r.series, .int .i64 r.event, .int .i64 r.days, .int .i64 r.act]] w fun e w' => ∃ v', e = .returned (.tuple #[v', .bool b]) ∧ RusO w.heap.size w'.heap.size w' v' xs ∧ Below w.heap.size w w' := by
  obtain ⟨i0, hi, hz0, hz1, hz2⟩ := info_parts Try.info_ru
  have H := Lib.hid h
  have HRES := Lib.hid hres
  have HOK := Lib.hid h.rus_ok
  have HR := Lib.hid hr
  obtain ⟨a, c, hv, hl1, hm1, _⟩ := h.rus
  subst hv
  unfold maxLen at hm1
  obtain ⟨bs, hs⟩ : ∃ b, isSch t = b := ⟨_, rfl⟩
  obtain ⟨bo, ho⟩ : ∃ b, isRu r = b := ⟨_, rfl⟩
  have HS := Lib.hid hs
  have HO := Lib.hid ho
  have H1 := fun W => specRu_any r W
  rw [ho] at H1
  obtain ⟨r0, r1, r2, r3⟩ := r
  simp only at H1
  have H1H := Lib.hid H1
  clear h hr hres hs ho H1
  cases bs
  · obtain ⟨rfl, rfl⟩ := putRes_no HRES.out (.inl HS.out)
    go_enter Try.func138, Try.ntmps138
    go_wp2_with (first | (go_at_call 86; refine (l4Good_any _ t _ (H.out.below rRu_stable (below_al (Below.refl _ _) _))).mono ?_; rw [HS.out]; rintro e w1 ⟨rfl, b1⟩; have zz0 := cell_kept (cell_new (v := .int .i64 r0) w #[.int .i64 r0, .int .i64 r1, .int .i64 r2, .int .i64 r3] 56 0 rfl) b1; have zz1 := cell_kept (cell_new (v := .int .i64 r1) w #[.int .i64 r0, .int .i64 r1, .int .i64 r2, .int .i64 r3] 56 1 rfl) b1; have zz2 := cell_kept (cell_new (v := .int .i64 r2) w #[.int .i64 r0, .int .i64 r1, .int .i64 r2, .int .i64 r3] 56 2 rfl) b1; have zz3 := cell_kept (cell_new (v := .int .i64 r3) w #[.int .i64 r0, .int .i64 r1, .int .i64 r2, .int .i64 r3] 56 3 rfl) b1))
    go_ret2
    exact ⟨_, rfl, RusO.empty _ (below_chain (below_al (Below.refl _ _) _) b1).size, below_al (below_chain (below_al (Below.refl _ _) _) b1) _⟩
  · cases bo
    · obtain ⟨rfl, rfl⟩ := putRes_no HRES.out (.inr (put_valid HO.out))
      go_enter Try.func138, Try.ntmps138
      go_wp2_with (first | (go_at_call 86; refine (l4Good_any _ t _ (H.out.below rRu_stable (below_al (Below.refl _ _) _))).mono ?_; rw [HS.out]; rintro e w1 ⟨rfl, b1⟩; have zz0 := cell_kept (cell_new (v := .int .i64 r0) w #[.int .i64 r0, .int .i64 r1, .int .i64 r2, .int .i64 r3] 56 0 rfl) b1; have zz1 := cell_kept (cell_new (v := .int .i64 r1) w #[.int .i64 r0, .int .i64 r1, .int .i64 r2, .int .i64 r3] 56 1 rfl) b1; have zz2 := cell_kept (cell_new (v := .int .i64 r2) w #[.int .i64 r0, .int .i64 r1, .int .i64 r2, .int .i64 r3] 56 2 rfl) b1; have zz3 := cell_kept (cell_new (v := .int .i64 r3) w #[.int .i64 r0, .int .i64 r1, .int .i64 r2, .int .i64 r3] 56 3 rfl) b1) | (go_at_call 141; refine (H1H.out _).mono ?_; rintro e w2 ⟨rfl, b2⟩; have z0 := cell_kept zz0 b2; have z1 := cell_kept zz1 b2; have z2 := cell_kept zz2 b2; have z3 := cell_kept zz3 b2))
      go_ret2
      exact ⟨_, rfl, RusO.empty _ (below_chain (below_chain (below_al (Below.refl _ _) _) b1) b2).size, below_al (below_chain (below_chain (below_al (Below.refl _ _) _) b1) b2) _⟩
    · obtain ⟨D, hD⟩ : ∃ D, delRu t ⟨r0, r1, r2, r3⟩ = D := ⟨_, rfl⟩
      have hDl : D.length ≤ 8 := by rw [← hD]; exact Nat.le_trans (delRu_len t _) (sch_len HS.out)
      have HD := Lib.hid hD
      clear hD
      go_enter Try.func138, Try.ntmps138
      go_wp2_with (first | (go_at_call 86; refine (l4Good_any _ t _ (H.out.below rRu_stable (below_al (Below.refl _ _) _))).mono ?_; rw [HS.out]; rintro e w1 ⟨rfl, b1⟩; have zz0 := cell_kept (cell_new (v := .int .i64 r0) w #[.int .i64 r0, .int .i64 r1, .int .i64 r2, .int .i64 r3] 56 0 rfl) b1; have zz1 := cell_kept (cell_new (v := .int .i64 r1) w #[.int .i64 r0, .int .i64 r1, .int .i64 r2, .int .i64 r3] 56 1 rfl) b1; have zz2 := cell_kept (cell_new (v := .int .i64 r2) w #[.int .i64 r0, .int .i64 r1, .int .i64 r2, .int .i64 r3] 56 2 rfl) b1; have zz3 := cell_kept (cell_new (v := .int .i64 r3) w #[.int .i64 r0, .int .i64 r1, .int .i64 r2, .int .i64 r3] 56 3 rfl) b1) | (go_at_call 141; refine (H1H.out _).mono ?_; rintro e w2 ⟨rfl, b2⟩; have z0 := cell_kept zz0 b2; have z1 := cell_kept zz1 b2; have z2 := cell_kept zz2 b2; have z3 := cell_kept zz3 b2) | (go_at_call 165; refine (l4Without_any _ t ⟨r0, r1, r2, r3⟩ _ (H.out.below rRu_stable (below_chain (below_chain (below_al (Below.refl _ _) _) b1) b2)) hn).mono ?_; rw [HD.out]; rintro e w3 ⟨v3, rfl, ho3, b3, adD, nD, cD1, eD1⟩; subst eD1; obtain ⟨g, capD, ev, hgl, hgs, hcD, hcM⟩ := ho3.1.form.resolve_left (fun e => by cases e.1); rw [List.length_map] at ev hcD; cases ev; have HO3 := Lib.hid ho3; have HB3 := Lib.hid (below_chain (below_chain (below_chain (below_al (Below.refl _ _) _) b1) b2) b3); replace z0 := cell_kept z0 b3; replace z1 := cell_kept z1 b3; replace z2 := cell_kept z2 b3; replace z3 := cell_kept z3 b3; clear ho3 b1 b2 b3 zz0 zz1 zz2 zz3))
      have hsz3 := HB3.out.size
      unfold maxLen at hcM
      obtain ⟨_, cD, eD, hl2, hm2, rD⟩ := HO3.out.row.rus
      cases eD
      have RD := Lib.hid rD
      clear rD
      unfold maxLen at hm2
      have cD0 := z0
      go_loopw [7] (fun i wr => ∃ k : Nat, k ≤ D.length ∧ i = .int .i64 k ∧ Hid (∀ j, j < k → bef (D.getD j ruD) ⟨r0, r1, r2, r3⟩ = true) ∧ Below w3.heap.size w3 wr) (fun i _ => D.length - (intOf i).toNat)
      case atStart => exact ⟨0, Nat.zero_le _, rfl, Lib.hid (fun j hj => absurd hj (Nat.not_lt_zero _)), Below.refl _ _⟩
      case round =>
        obtain ⟨k, hk, rfl, HK, hb⟩ := hrel
        have hsz := hb.size
        have y0 := cell_kept z0 hb
        have y1 := cell_kept z1 hb
        have y2 := cell_kept z2 hb
        have y3 := cell_kept z3 hb
        by_cases hlt : k < D.length
        · obtain ⟨f, hx⟩ : ∃ s, D.getD k ruD = s := ⟨_, rfl⟩
          obtain ⟨bD, oD, hbD, eeD, e1⟩ := RD.out.resolve_left (fun e => by rw [e] at hlt; simp at hlt)
          cases eeD
          obtain ⟨q0, q1, q2, q3, hok⟩ := e1 k hlt
          rw [hx] at q0 q1 q2 q3 hok
          obtain ⟨x0, x1, x2, x3⟩ := f
          simp only [Nat.zero_add] at q0 q1 q2 q3
          have f0 := cell_kept q0 hb
          have f1 := cell_kept q1 hb
          have f2 := cell_kept q2 hb
          have f3 := cell_kept q3 hb
          have HX := Lib.hid hx
          have g0 : (0 : Int) ≤ (k : Int) := by omega
          have g1 : (k : Int) < (D.length : Int) := by omega
          obtain ⟨bB, hbB⟩ : ∃ b, bef ⟨x0, x1, x2, x3⟩ ⟨r0, r1, r2, r3⟩ = b := ⟨_, rfl⟩
          have HBB := Lib.hid hbB
          have m0 := cell_regrown f0
          have m1 := cell_regrown f1
          have m2 := cell_regrown f2
          have m3 := cell_regrown f3
          have n0 := cell_regrown y0
          have n1 := cell_regrown y1
          have n2 := cell_regrown y2
          have n3 := cell_regrown y3
          have hd : ∀ d os, Calls Try.prog 142 #[.agg #[.int .i64 x0, .int .i64 x1, .int .i64 x2, .int .i64 x3], .agg #[.int .i64 r0, .int .i64 r1, .int .i64 r2, .int .i64 r3]] (grow (redrawn wr d) os) fun e w'' => e = .returned (.bool bB) ∧ ∃ p : Regrown, w'' = grow (redrawn wr p.d) p.os := fun d os => Calls.regrown_of (by have := specBef_any ⟨x0, x1, x2, x3⟩ ⟨r0, r1, r2, r3⟩ (grow (redrawn wr d) os); rwa [HBB.out] at this)
          clear q0 q1 q2 q3 hok hx e1 hbB
          cases bB
          · go_wp2_with fail
            refine wp_region_quiet_below (by kernel_rfl) (by kernel_rfl) ?_
            repeat (go_big_quiet_step (first | exact hd _ _))
            refine wpQuiet_nil ?_
            intro _ hw'
            obtain ⟨⟨dq, osq⟩, hw''⟩ := hw'
            subst hw''
            have bq := below_regrown wr dq osq
            have hb4 := hb.trans (bq.mono hsz)
            have HT : Hid (putRu t ⟨r0, r1, r2, r3⟩ = D.take k ++ ⟨r0, r1, r2, r3⟩ :: D.drop k) := Lib.hid (by
              have e := put_spec (r := ⟨r0, r1, r2, r3⟩) (k := k) HS.out (by rw [HD.out]; exact hk) (by rw [HD.out]; exact HK.out) (by rw [HD.out]; intro _; rw [HX.out]; exact HBB.out)
              rwa [HD.out] at e)
            generalize grow (redrawn wr dq) osq = w4 at *
            clear m0 m1 m2 m3 n0 n1 n2 n3 hd f0 f1 f2 f3 y0 y1 y2 y3 bq hb HX HBB
            have hO4 := HO3.out.below hb4
            have hcells := rus_cells hO4.row
            obtain ⟨NEWS1, hN1⟩ : ∃ N, ((D.take k).map ruC).flatten = N := ⟨_, rfl⟩
            obtain ⟨NEWS2, hN2⟩ : ∃ N, ((D.drop k).map ruC).flatten = N := ⟨_, rfl⟩
            have HL1 : Hid (NEWS1.length = k * 4) := Lib.hid (by rw [← hN1, flat_map_len ruC_len, List.length_take, Nat.min_eq_left hk])
            have HL2 : Hid (NEWS2.length = (D.length - k) * 4) := Lib.hid (by rw [← hN2, flat_map_len ruC_len, List.length_drop])
            have HO1 : Hid (∀ u ∈ NEWS1, u.oneCell' = true) := Lib.hid (by rw [← hN1]; exact flat_one ruC_one _)
            have HO2 : Hid (∀ u ∈ NEWS2, u.oneCell' = true) := Lib.hid (by rw [← hN2]; exact flat_one ruC_one _)
            have HN1 : Hid (∀ W, Below w4.heap.size w4 W → ∀ j u, NEWS1[j]? = some u → W.cell? ((⟨g, 0, none⟩ : Addr).add j) = some u) := Lib.hid (fun W hW j u hj => by
              refine hcells W hW j u ?_
              rw [← hN1, ← flatC_take ruC_len, List.getElem?_take] at hj
              split at hj
              · exact hj
              · cases hj)
            obtain ⟨adr, hA, hN2c⟩ : ∃ A : Addr, (if cD1 = k then some (⟨g, 0, none⟩ : Addr) else some ⟨g, k * 4, none⟩) = some A ∧ Hid (∀ W, Below w4.heap.size w4 W → ∀ j u, NEWS2[j]? = some u → W.cell? (A.add j) = some u) := by
              by_cases hc : cD1 = k
              · refine ⟨⟨g, 0, none⟩, by simp [hc], Lib.hid (fun W hW j u hj => ?_)⟩
                have h0 : NEWS2.length = 0 := by rw [HL2.out]; omega
                rw [List.length_eq_zero_iff.1 h0] at hj
                simp at hj
              · refine ⟨⟨g, k * 4, none⟩, by simp [hc], Lib.hid (fun W hW j u hj => ?_)⟩
                rw [Addr.add_lit]
                have := hcells W hW (k * 4 + j) u (by rw [← dropC_at ruC_len hk, hN2]; exact hj)
                rw [Addr.add_lit, Nat.zero_add] at this
                exact this
            have HN2 := hN2c
            have HN1E := Lib.hid hN1
            have HN2E := Lib.hid hN2
            have y0 := cell_kept z0 hb4
            have y1 := cell_kept z1 hb4
            have y2 := cell_kept z2 hb4
            have y3 := cell_kept z3 hb4
            have Y0 := Lib.hid y0
            have Y1 := Lib.hid y1
            have Y2 := Lib.hid y2
            have Y3 := Lib.hid y3
            have s34 := hb4.size
            have b0 : Below w4.heap.size w4 w4.drew := (Below.refl _ _).drew
            have kI0 : (0 : Int) ≤ (k : Int) := by omega
            have kI1 : (k : Int) ≤ (D.length : Int) := by omega
            have kc : k ≤ cD1 := by omega
            clear hN1 hN2 hN2c hcells hO4 cD0
            go_wp2_with fail
            go_region_held3 (fun w' => w'.cell? ⟨w.heap.size, 0, none⟩ = some (.int .i64 r0) ∧ w'.cell? ⟨w.heap.size, 1, none⟩ = some (.int .i64 r1) ∧ w'.cell? ⟨w.heap.size, 2, none⟩ = some (.int .i64 r2) ∧ w'.cell? ⟨w.heap.size, 3, none⟩ = some (.int .i64 r3)) (first | exact ⟨y0, y1, y2, y3⟩ | go_keep) (first | (rw [if_pos (by rfl)]; refine wp_append_own _ _ _ _ rfl w4.heap.size 56 i0 (.agg #[.int .i64 0, .int .i64 0, .int .i64 0, .int .i64 0]) 4 32 Try.underlying40 hi hz0 hz1 hz2 rfl (by decide) (.slice (some ⟨w4.heap.size, 0, none⟩) 0 0) 0 [] (by rfl) (by first | exact World.ownsRow_made w4.drew #[] 0 (Nat.le_refl _) (Nat.zero_le _) rfl | exact World.ownsRow.alloc (World.ownsRow_made w4.drew #[] 0 (Nat.le_refl _) (Nat.zero_le _) rfl) _) ⟨g, 0, none⟩ k cD1 NEWS1 (by rfl) HL1.out (by exact HN1.out _ (by first | exact below_al b0 _ | exact below_al (below_al b0 _) _)) HO1.out (by unfold maxLen; omega) (by omega) (by (first | omega | (simp; done) | (simp; omega))) ?_; intro v5 w5 hown5 hg5 _; have b5 : Below w4.heap.size w4 w5 := Below.grown (by first | exact below_al b0 _ | exact below_al (below_al b0 _) _) hg5 (by (first | omega | (simp; done) | (simp; omega))) (by intro kk hk; cases hk; exact Nat.le_refl _); have s5 := b5.size; replace y0 := cell_kept Y0.out b5; replace y1 := cell_kept Y1.out b5; replace y2 := cell_kept Y2.out b5; replace y3 := cell_kept Y3.out b5) | (rw [if_pos (by rfl)]; refine wp_append_own _ _ _ _ rfl w4.heap.size 56 i0 (.agg #[.int .i64 0, .int .i64 0, .int .i64 0, .int .i64 0]) 4 32 Try.underlying40 hi hz0 hz1 hz2 rfl (by decide) (.slice (some ⟨w4.heap.size + 1, 0, none⟩) 0 0) 0 [] (by rfl) (by have hh := World.ownsRow_made (base := w4.heap.size) (e := 56) (size := 4) (w4.drew.alloc (.cells #[.int .i64 r0, .int .i64 r1, .int .i64 r2, .int .i64 r3] 56 (0, 0))) #[] 0 (by simp) (Nat.zero_le _) rfl; rw [show (w4.drew.alloc (.cells #[.int .i64 r0, .int .i64 r1, .int .i64 r2, .int .i64 r3] 56 (0, 0))).heap.size = w4.heap.size + 1 by simp] at hh; exact hh) ⟨g, 0, none⟩ k cD1 NEWS1 (by rfl) HL1.out (by exact HN1.out _ (by first | exact below_al b0 _ | exact below_al (below_al b0 _) _)) HO1.out (by unfold maxLen; omega) (by omega) (by (first | omega | (simp; done) | (simp; omega))) ?_; intro v5 w5 hown5 hg5 _; have b5 : Below w4.heap.size w4 w5 := Below.grown (by first | exact below_al b0 _ | exact below_al (below_al b0 _) _) hg5 (by (first | omega | (simp; done) | (simp; omega))) (by intro kk hk; cases hk; exact Nat.le_succ _); have s5 := b5.size; replace y0 := cell_kept Y0.out b5; replace y1 := cell_kept Y1.out b5; replace y2 := cell_kept Y2.out b5; replace y3 := cell_kept Y3.out b5) | (rw [if_pos (by rfl)]; refine wp_append_own _ _ _ _ rfl w4.heap.size 56 i0 (.agg #[.int .i64 0, .int .i64 0, .int .i64 0, .int .i64 0]) 4 32 Try.underlying40 hi hz0 hz1 hz2 rfl (by decide) v5 (0 + k) ([] ++ NEWS1) (by rfl) (by exact hown5.alloc _) ⟨w5.heap.size, 0, none⟩ 1 1 [.int .i64 r0, .int .i64 r1, .int .i64 r2, .int .i64 r3] (by rfl) rfl (by exact cells4_new' _ _ _ _ _ _ rfl) (by simp [Value.oneCell']) (by unfold maxLen; omega) (by omega) (by (first | omega | (simp; done) | (simp; omega))) ?_; intro v6 w6 hown6 hg6 _; have b6 : Below w4.heap.size w4 w6 := Below.grown (by first | exact b5 | exact below_al b5 _) hg6 (by (first | omega | (simp; done) | (simp; omega))) (by exact fun kk hk => (hown5.lt kk hk).1); have s6 := b6.size; replace y0 := cell_kept Y0.out b6; replace y1 := cell_kept Y1.out b6; replace y2 := cell_kept Y2.out b6; replace y3 := cell_kept Y3.out b6) | (rw [if_pos (by rfl)]; refine wp_append_own _ _ _ _ rfl w4.heap.size 56 i0 (.agg #[.int .i64 0, .int .i64 0, .int .i64 0, .int .i64 0]) 4 32 Try.underlying40 hi hz0 hz1 hz2 rfl (by decide) v5 (0 + k) ([] ++ NEWS1) (by rfl) (by exact hown5) ⟨w4.heap.size + 1, 0, none⟩ 1 1 [.int .i64 r0, .int .i64 r1, .int .i64 r2, .int .i64 r3] (by rfl) rfl (by exact cells_grown hg5 (cells4_new' _ _ _ _ _ _ (by simp)) (by simp [Value.ownBlock])) (by simp [Value.oneCell']) (by unfold maxLen; omega) (by omega) (by (first | omega | (simp; done) | (simp; omega))) ?_; intro v6 w6 hown6 hg6 _; have b6 : Below w4.heap.size w4 w6 := Below.grown (by first | exact b5 | exact below_al b5 _) hg6 (by (first | omega | (simp; done) | (simp; omega))) (by exact fun kk hk => (hown5.lt kk hk).1); have s6 := b6.size; replace y0 := cell_kept Y0.out b6; replace y1 := cell_kept Y1.out b6; replace y2 := cell_kept Y2.out b6; replace y3 := cell_kept Y3.out b6) | (rw [if_pos (by rfl)]; refine wp_append_own _ _ _ _ rfl w4.heap.size 56 i0 (.agg #[.int .i64 0, .int .i64 0, .int .i64 0, .int .i64 0]) 4 32 Try.underlying40 hi hz0 hz1 hz2 rfl (by decide) v5 (0 + k) ([] ++ NEWS1) (by rfl) (by exact hown5) ⟨w4.heap.size, 0, none⟩ 1 1 [.int .i64 r0, .int .i64 r1, .int .i64 r2, .int .i64 r3] (by rfl) rfl (by exact cells_grown hg5 (fun j u hj => below_al_cell (cells4_new' _ _ _ _ _ _ rfl j u hj) _) (by simp [Value.ownBlock])) (by simp [Value.oneCell']) (by unfold maxLen; omega) (by omega) (by (first | omega | (simp; done) | (simp; omega))) ?_; intro v6 w6 hown6 hg6 _; have b6 : Below w4.heap.size w4 w6 := Below.grown (by first | exact b5 | exact below_al b5 _) hg6 (by (first | omega | (simp; done) | (simp; omega))) (by exact fun kk hk => (hown5.lt kk hk).1); have s6 := b6.size; replace y0 := cell_kept Y0.out b6; replace y1 := cell_kept Y1.out b6; replace y2 := cell_kept Y2.out b6; replace y3 := cell_kept Y3.out b6) | (rw [if_pos (by rfl)]; refine wp_append_own _ _ _ _ rfl w4.heap.size 56 i0 (.agg #[.int .i64 0, .int .i64 0, .int .i64 0, .int .i64 0]) 4 32 Try.underlying40 hi hz0 hz1 hz2 rfl (by decide) v6 (0 + k + 1) ([] ++ NEWS1 ++ [.int .i64 r0, .int .i64 r1, .int .i64 r2, .int .i64 r3]) (by rfl) (by exact hown6) adr (D.length - k) (cD1 - k) NEWS2 (by rfl) HL2.out (by exact HN2.out _ b6) HO2.out (by unfold maxLen; omega) (by omega) (by (first | omega | (simp; done) | (simp; omega))) ?_; intro v7 w7 hown7 hg7 _; have b7 : Below w4.heap.size w4 w7 := Below.grown (by exact b6) hg7 (by (first | omega | (simp; done) | (simp; omega))) (by exact fun kk hk => (hown6.lt kk hk).1); have s7 := b7.size; replace y0 := cell_kept Y0.out b7; replace y1 := cell_kept Y1.out b7; replace y2 := cell_kept Y2.out b7; replace y3 := cell_kept Y3.out b7))
            all_goals
              have hown8 := ownsRow_base_a' hown7 (base' := w.heap.size) (by omega)
              have hF : RusO w.heap.size w7.heap.size w7 v7 (D.take k ++ ⟨r0, r1, r2, r3⟩ :: D.drop k) := RusO.of_row (n := 0 + k + 1 + (D.length - k)) (by
                have e : ((D.take k ++ (⟨r0, r1, r2, r3⟩ : Ru) :: D.drop k).map ruC).flatten = ([] ++ NEWS1 ++ [.int .i64 r0, .int .i64 r1, .int .i64 r2, .int .i64 r3] ++ NEWS2 : List Value) := by
                  rw [List.map_append, List.flatten_append, List.map_cons, List.flatten_cons, HN1E.out, HN2E.out]
                  simp [ruC]
                rw [e]; exact hown8) (by rw [List.length_append, List.length_cons, List.length_take, List.length_drop]; omega) (fun f hf => by
                rcases List.mem_append.1 hf with h | h
                · exact HO3.out.2.1 f (List.mem_of_mem_take h)
                · rcases List.mem_cons.1 h with h | h
                  · subst h; exact HR.out
                  · exact HO3.out.2.1 f (List.mem_of_mem_drop h))
              have HF := Lib.hid hF
              have HB7 := Lib.hid b7
              have hb7' : Below w.heap.size w w7 := HB3.out.trans ((hb4.trans (b7.mono s34)).mono hsz3)
              have HB77 := Lib.hid hb7'
              clear hown8 hown7 hown6 hown5 hg5 hg6 hg7 b5 b6 b7 s5 s6 y0 y1 y2 y3 Y0 Y1 Y2 Y3 hF hb7' HN1 HN2 hA HL1 HL2 HO1 HO2
              obtain ⟨bA, hbA⟩ : ∃ b, isSch (D.take k ++ ⟨r0, r1, r2, r3⟩ :: D.drop k) = b := ⟨_, rfl⟩
              have HBA := Lib.hid hbA
              clear hbA
              obtain ⟨ga, gn, gc, rfl⟩ := HF.out.1.slice
              go_wp2_with fail
              refine (l4Good_any _ (D.take k ++ ⟨r0, r1, r2, r3⟩ :: D.drop k) _ HF.out.row).mono ?_
              rw [HBA.out]
              rintro e w8 ⟨rfl, b8⟩
              have hb8 : Below w.heap.size w w8 := HB77.out.trans (b8.mono HB77.out.size)
              have HF8 := Lib.hid (HF.out.below b8)
              have s8 := b8.size
              clear b8
              cases bA
              · obtain ⟨rfl, rfl⟩ := putRes_no HRES.out (.inr (by rw [HT.out]; exact HBA.out))
                go_wp2_with fail
                go_ret2
                exact ⟨_, rfl, RusO.empty _ hb8.size, below_al hb8 _⟩
              · obtain ⟨rfl, rfl⟩ := putRes_yes HRES.out HS.out (by rw [HT.out]; exact HBA.out)
                go_wp2_with fail
                go_ret2
                exact ⟨_, rfl, by rw [HT.out]; exact HF8.out.wide (Nat.le_refl _) s8, hb8⟩
          · go_wp2_with fail
            refine wp_region_quiet_below (by kernel_rfl) (by kernel_rfl) ?_
            repeat (go_big_quiet_step (first | exact hd _ _))
            refine wpQuiet_nil ?_
            intro _ hw'
            obtain ⟨⟨dq, osq⟩, hw''⟩ := hw'
            subst hw''
            have bq := below_regrown wr dq osq
            have hb4 := hb.trans (bq.mono hsz)
            generalize grow (redrawn wr dq) osq = w4 at *
            go_wp2_with fail
            go_roundw
            case rel =>
              refine ⟨k + 1, by omega, by go_num, Lib.hid (fun j hj => ?_), hb4⟩
              rcases Nat.lt_or_ge j k with h' | h'
              · exact HK.out j h'
              · obtain rfl : j = k := by omega
                rw [HX.out]; exact HBB.out
            case measure => simp [intOf]; omega
        · have hkl : k = D.length := by omega
          have HT : Hid (putRu t ⟨r0, r1, r2, r3⟩ = D.take k ++ ⟨r0, r1, r2, r3⟩ :: D.drop k) := Lib.hid (by
            have e := put_spec (r := ⟨r0, r1, r2, r3⟩) (k := k) HS.out (by rw [HD.out]; exact hk) (by rw [HD.out]; exact HK.out) (by rw [HD.out]; intro h; omega)
            rwa [HD.out] at e)
          have m0 := cell_regrown y0
          have m1 := cell_regrown y1
          have m2 := cell_regrown y2
          have m3 := cell_regrown y3
          have hd : True := trivial
          have HKL := Lib.hid hkl
          clear hkl
          go_wp2_with fail
          refine wp_region_quiet_below (by kernel_rfl) (by kernel_rfl) ?_
          repeat (go_big_quiet_step (first | fail))
          refine wpQuiet_nil ?_
          intro _ hw'
          obtain ⟨⟨dq, osq⟩, hw''⟩ := hw'
          subst hw''
          have bq := below_regrown wr dq osq
          have hb4 := hb.trans (bq.mono hsz)
          generalize grow (redrawn wr dq) osq = w4 at *
          clear m0 m1 m2 m3 y0 y1 y2 y3 bq hb
          have hO4 := HO3.out.below hb4
          have hcells := rus_cells hO4.row
          obtain ⟨NEWS1, hN1⟩ : ∃ N, ((D.take k).map ruC).flatten = N := ⟨_, rfl⟩
          obtain ⟨NEWS2, hN2⟩ : ∃ N, ((D.drop k).map ruC).flatten = N := ⟨_, rfl⟩
          have HL1 : Hid (NEWS1.length = k * 4) := Lib.hid (by rw [← hN1, flat_map_len ruC_len, List.length_take, Nat.min_eq_left hk])
          have HL2 : Hid (NEWS2.length = (D.length - k) * 4) := Lib.hid (by rw [← hN2, flat_map_len ruC_len, List.length_drop])
          have HO1 : Hid (∀ u ∈ NEWS1, u.oneCell' = true) := Lib.hid (by rw [← hN1]; exact flat_one ruC_one _)
          have HO2 : Hid (∀ u ∈ NEWS2, u.oneCell' = true) := Lib.hid (by rw [← hN2]; exact flat_one ruC_one _)
          have HN1 : Hid (∀ W, Below w4.heap.size w4 W → ∀ j u, NEWS1[j]? = some u → W.cell? ((⟨g, 0, none⟩ : Addr).add j) = some u) := Lib.hid (fun W hW j u hj => by
            refine hcells W hW j u ?_
            rw [← hN1, ← flatC_take ruC_len, List.getElem?_take] at hj
            split at hj
            · exact hj
            · cases hj)
          obtain ⟨adr, hA, hN2c⟩ : ∃ A : Addr, (if cD1 = k then some (⟨g, 0, none⟩ : Addr) else some ⟨g, k * 4, none⟩) = some A ∧ Hid (∀ W, Below w4.heap.size w4 W → ∀ j u, NEWS2[j]? = some u → W.cell? (A.add j) = some u) := by
            by_cases hc : cD1 = k
            · refine ⟨⟨g, 0, none⟩, by simp [hc], Lib.hid (fun W hW j u hj => ?_)⟩
              have h0 : NEWS2.length = 0 := by rw [HL2.out]; omega
              rw [List.length_eq_zero_iff.1 h0] at hj
              simp at hj
            · refine ⟨⟨g, k * 4, none⟩, by simp [hc], Lib.hid (fun W hW j u hj => ?_)⟩
              rw [Addr.add_lit]
              have := hcells W hW (k * 4 + j) u (by rw [← dropC_at ruC_len hk, hN2]; exact hj)
              rw [Addr.add_lit, Nat.zero_add] at this
              exact this
          have HN2 := hN2c
          have HN1E := Lib.hid hN1
          have HN2E := Lib.hid hN2
          have y0 := cell_kept z0 hb4
          have y1 := cell_kept z1 hb4
          have y2 := cell_kept z2 hb4
          have y3 := cell_kept z3 hb4
          have Y0 := Lib.hid y0
          have Y1 := Lib.hid y1
          have Y2 := Lib.hid y2
          have Y3 := Lib.hid y3
          have s34 := hb4.size
          have b0 : Below w4.heap.size w4 w4.drew := (Below.refl _ _).drew
          have kI0 : (0 : Int) ≤ (k : Int) := by omega
          have kI1 : (k : Int) ≤ (D.length : Int) := by omega
          have kc : k ≤ cD1 := by omega
          clear hN1 hN2 hN2c hcells hO4 cD0
          go_wp2_with fail
          go_region_held3 (fun w' => w'.cell? ⟨w.heap.size, 0, none⟩ = some (.int .i64 r0) ∧ w'.cell? ⟨w.heap.size, 1, none⟩ = some (.int .i64 r1) ∧ w'.cell? ⟨w.heap.size, 2, none⟩ = some (.int .i64 r2) ∧ w'.cell? ⟨w.heap.size, 3, none⟩ = some (.int .i64 r3)) (first | exact ⟨y0, y1, y2, y3⟩ | go_keep) (first | (rw [if_pos (by rfl)]; refine wp_append_own _ _ _ _ rfl w4.heap.size 56 i0 (.agg #[.int .i64 0, .int .i64 0, .int .i64 0, .int .i64 0]) 4 32 Try.underlying40 hi hz0 hz1 hz2 rfl (by decide) (.slice (some ⟨w4.heap.size, 0, none⟩) 0 0) 0 [] (by rfl) (by first | exact World.ownsRow_made w4.drew #[] 0 (Nat.le_refl _) (Nat.zero_le _) rfl | exact World.ownsRow.alloc (World.ownsRow_made w4.drew #[] 0 (Nat.le_refl _) (Nat.zero_le _) rfl) _) ⟨g, 0, none⟩ k cD1 NEWS1 (by rfl) HL1.out (by exact HN1.out _ (by first | exact below_al b0 _ | exact below_al (below_al b0 _) _)) HO1.out (by unfold maxLen; omega) (by omega) (by (first | omega | (simp; done) | (simp; omega))) ?_; intro v5 w5 hown5 hg5 _; have b5 : Below w4.heap.size w4 w5 := Below.grown (by first | exact below_al b0 _ | exact below_al (below_al b0 _) _) hg5 (by (first | omega | (simp; done) | (simp; omega))) (by intro kk hk; cases hk; exact Nat.le_refl _); have s5 := b5.size; replace y0 := cell_kept Y0.out b5; replace y1 := cell_kept Y1.out b5; replace y2 := cell_kept Y2.out b5; replace y3 := cell_kept Y3.out b5) | (rw [if_pos (by rfl)]; refine wp_append_own _ _ _ _ rfl w4.heap.size 56 i0 (.agg #[.int .i64 0, .int .i64 0, .int .i64 0, .int .i64 0]) 4 32 Try.underlying40 hi hz0 hz1 hz2 rfl (by decide) (.slice (some ⟨w4.heap.size + 1, 0, none⟩) 0 0) 0 [] (by rfl) (by have hh := World.ownsRow_made (base := w4.heap.size) (e := 56) (size := 4) (w4.drew.alloc (.cells #[.int .i64 r0, .int .i64 r1, .int .i64 r2, .int .i64 r3] 56 (0, 0))) #[] 0 (by simp) (Nat.zero_le _) rfl; rw [show (w4.drew.alloc (.cells #[.int .i64 r0, .int .i64 r1, .int .i64 r2, .int .i64 r3] 56 (0, 0))).heap.size = w4.heap.size + 1 by simp] at hh; exact hh) ⟨g, 0, none⟩ k cD1 NEWS1 (by rfl) HL1.out (by exact HN1.out _ (by first | exact below_al b0 _ | exact below_al (below_al b0 _) _)) HO1.out (by unfold maxLen; omega) (by omega) (by (first | omega | (simp; done) | (simp; omega))) ?_; intro v5 w5 hown5 hg5 _; have b5 : Below w4.heap.size w4 w5 := Below.grown (by first | exact below_al b0 _ | exact below_al (below_al b0 _) _) hg5 (by (first | omega | (simp; done) | (simp; omega))) (by intro kk hk; cases hk; exact Nat.le_succ _); have s5 := b5.size; replace y0 := cell_kept Y0.out b5; replace y1 := cell_kept Y1.out b5; replace y2 := cell_kept Y2.out b5; replace y3 := cell_kept Y3.out b5) | (rw [if_pos (by rfl)]; refine wp_append_own _ _ _ _ rfl w4.heap.size 56 i0 (.agg #[.int .i64 0, .int .i64 0, .int .i64 0, .int .i64 0]) 4 32 Try.underlying40 hi hz0 hz1 hz2 rfl (by decide) v5 (0 + k) ([] ++ NEWS1) (by rfl) (by exact hown5.alloc _) ⟨w5.heap.size, 0, none⟩ 1 1 [.int .i64 r0, .int .i64 r1, .int .i64 r2, .int .i64 r3] (by rfl) rfl (by exact cells4_new' _ _ _ _ _ _ rfl) (by simp [Value.oneCell']) (by unfold maxLen; omega) (by omega) (by (first | omega | (simp; done) | (simp; omega))) ?_; intro v6 w6 hown6 hg6 _; have b6 : Below w4.heap.size w4 w6 := Below.grown (by first | exact b5 | exact below_al b5 _) hg6 (by (first | omega | (simp; done) | (simp; omega))) (by exact fun kk hk => (hown5.lt kk hk).1); have s6 := b6.size; replace y0 := cell_kept Y0.out b6; replace y1 := cell_kept Y1.out b6; replace y2 := cell_kept Y2.out b6; replace y3 := cell_kept Y3.out b6) | (rw [if_pos (by rfl)]; refine wp_append_own _ _ _ _ rfl w4.heap.size 56 i0 (.agg #[.int .i64 0, .int .i64 0, .int .i64 0, .int .i64 0]) 4 32 Try.underlying40 hi hz0 hz1 hz2 rfl (by decide) v5 (0 + k) ([] ++ NEWS1) (by rfl) (by exact hown5) ⟨w4.heap.size + 1, 0, none⟩ 1 1 [.int .i64 r0, .int .i64 r1, .int .i64 r2, .int .i64 r3] (by rfl) rfl (by exact cells_grown hg5 (cells4_new' _ _ _ _ _ _ (by simp)) (by simp [Value.ownBlock])) (by simp [Value.oneCell']) (by unfold maxLen; omega) (by omega) (by (first | omega | (simp; done) | (simp; omega))) ?_; intro v6 w6 hown6 hg6 _; have b6 : Below w4.heap.size w4 w6 := Below.grown (by first | exact b5 | exact below_al b5 _) hg6 (by (first | omega | (simp; done) | (simp; omega))) (by exact fun kk hk => (hown5.lt kk hk).1); have s6 := b6.size; replace y0 := cell_kept Y0.out b6; replace y1 := cell_kept Y1.out b6; replace y2 := cell_kept Y2.out b6; replace y3 := cell_kept Y3.out b6) | (rw [if_pos (by rfl)]; refine wp_append_own _ _ _ _ rfl w4.heap.size 56 i0 (.agg #[.int .i64 0, .int .i64 0, .int .i64 0, .int .i64 0]) 4 32 Try.underlying40 hi hz0 hz1 hz2 rfl (by decide) v5 (0 + k) ([] ++ NEWS1) (by rfl) (by exact hown5) ⟨w4.heap.size, 0, none⟩ 1 1 [.int .i64 r0, .int .i64 r1, .int .i64 r2, .int .i64 r3] (by rfl) rfl (by exact cells_grown hg5 (fun j u hj => below_al_cell (cells4_new' _ _ _ _ _ _ rfl j u hj) _) (by simp [Value.ownBlock])) (by simp [Value.oneCell']) (by unfold maxLen; omega) (by omega) (by (first | omega | (simp; done) | (simp; omega))) ?_; intro v6 w6 hown6 hg6 _; have b6 : Below w4.heap.size w4 w6 := Below.grown (by first | exact b5 | exact below_al b5 _) hg6 (by (first | omega | (simp; done) | (simp; omega))) (by exact fun kk hk => (hown5.lt kk hk).1); have s6 := b6.size; replace y0 := cell_kept Y0.out b6; replace y1 := cell_kept Y1.out b6; replace y2 := cell_kept Y2.out b6; replace y3 := cell_kept Y3.out b6) | (rw [if_pos (by rfl)]; refine wp_append_own _ _ _ _ rfl w4.heap.size 56 i0 (.agg #[.int .i64 0, .int .i64 0, .int .i64 0, .int .i64 0]) 4 32 Try.underlying40 hi hz0 hz1 hz2 rfl (by decide) v6 (0 + k + 1) ([] ++ NEWS1 ++ [.int .i64 r0, .int .i64 r1, .int .i64 r2, .int .i64 r3]) (by rfl) (by exact hown6) adr (D.length - k) (cD1 - k) NEWS2 (by rfl) HL2.out (by exact HN2.out _ b6) HO2.out (by unfold maxLen; omega) (by omega) (by (first | omega | (simp; done) | (simp; omega))) ?_; intro v7 w7 hown7 hg7 _; have b7 : Below w4.heap.size w4 w7 := Below.grown (by exact b6) hg7 (by (first | omega | (simp; done) | (simp; omega))) (by exact fun kk hk => (hown6.lt kk hk).1); have s7 := b7.size; replace y0 := cell_kept Y0.out b7; replace y1 := cell_kept Y1.out b7; replace y2 := cell_kept Y2.out b7; replace y3 := cell_kept Y3.out b7))
          all_goals
            have hown8 := ownsRow_base_a' hown7 (base' := w.heap.size) (by omega)
            have hF : RusO w.heap.size w7.heap.size w7 v7 (D.take k ++ ⟨r0, r1, r2, r3⟩ :: D.drop k) := RusO.of_row (n := 0 + k + 1 + (D.length - k)) (by
              have e : ((D.take k ++ (⟨r0, r1, r2, r3⟩ : Ru) :: D.drop k).map ruC).flatten = ([] ++ NEWS1 ++ [.int .i64 r0, .int .i64 r1, .int .i64 r2, .int .i64 r3] ++ NEWS2 : List Value) := by
                rw [List.map_append, List.flatten_append, List.map_cons, List.flatten_cons, HN1E.out, HN2E.out]
                simp [ruC]
              rw [e]; exact hown8) (by rw [List.length_append, List.length_cons, List.length_take, List.length_drop]; omega) (fun f hf => by
              rcases List.mem_append.1 hf with h | h
              · exact HO3.out.2.1 f (List.mem_of_mem_take h)
              · rcases List.mem_cons.1 h with h | h
                · subst h; exact HR.out
                · exact HO3.out.2.1 f (List.mem_of_mem_drop h))
            have HF := Lib.hid hF
            have HB7 := Lib.hid b7
            have hb7' : Below w.heap.size w w7 := HB3.out.trans ((hb4.trans (b7.mono s34)).mono hsz3)
            have HB77 := Lib.hid hb7'
            clear hown8 hown7 hown6 hown5 hg5 hg6 hg7 b5 b6 b7 s5 s6 y0 y1 y2 y3 Y0 Y1 Y2 Y3 hF hb7' HN1 HN2 hA HL1 HL2 HO1 HO2
            obtain ⟨bA, hbA⟩ : ∃ b, isSch (D.take k ++ ⟨r0, r1, r2, r3⟩ :: D.drop k) = b := ⟨_, rfl⟩
            have HBA := Lib.hid hbA
            clear hbA
            obtain ⟨ga, gn, gc, rfl⟩ := HF.out.1.slice
            go_wp2_with fail
            refine (l4Good_any _ (D.take k ++ ⟨r0, r1, r2, r3⟩ :: D.drop k) _ HF.out.row).mono ?_
            rw [HBA.out]
            rintro e w8 ⟨rfl, b8⟩
            have hb8 : Below w.heap.size w w8 := HB77.out.trans (b8.mono HB77.out.size)
            have HF8 := Lib.hid (HF.out.below b8)
            have s8 := b8.size
            clear b8
            cases bA
            · obtain ⟨rfl, rfl⟩ := putRes_no HRES.out (.inr (by rw [HT.out]; exact HBA.out))
              go_wp2_with fail
              go_ret2
              exact ⟨_, rfl, RusO.empty _ hb8.size, below_al hb8 _⟩
            · obtain ⟨rfl, rfl⟩ := putRes_yes HRES.out HS.out (by rw [HT.out]; exact HBA.out)
              go_wp2_with fail
              go_ret2
              exact ⟨_, rfl, by rw [HT.out]; exact HF8.out.wide (Nat.le_refl _) s8, hb8⟩
end Go.Proofs.Ytenjajcknmfhfaa

namespace Go.Proofs.Ytenjajcknmfhfaa
set_option linter.unusedVariables false
open Go.RowKit Go.Sort

def SchDrawn (w : World) (B K : Nat) (e : Ending) (w' : World) : Prop := ∃ v t, e = .returned v ∧ t.length ≤ 16 ∧ RusO w.heap.size w'.heap.size w' v t ∧ Cur w' B K ∧ w.grownBy w' (some B)
theorem put_eight {t xs : List Ru} {u : Ru} (h : putRes t u = (xs, true)) : xs.length ≤ 8 := by
  unfold putRes at h
  split at h
  · rename_i hc; cases h; exact sch_len hc.2
  · cases h
theorem RusO.ofO {lo hi n : Nat} {w : World} {v : Value} {t : List Ru} (h : RusO lo hi w v t) : w.ownsRow lo 56 4 v t.length ((t.map ruC).flatten) := by
  have := h.1.1
  rwa [List.length_map] at this
theorem lit_ru (k : Nat) (h : k ≤ 16) : (⟨1, (k : Int), 5, 3⟩ : Ru).ok := ⟨by simp [inI], by simp only [inI]; omega, by simp [inI], by simp [inI]⟩
set_option maxRecDepth 20000 in
set_option maxHeartbeats 4000000 in
theorem schedule_any (B K : Nat) (w : World) (h : Cur w B K) (hK : K ≤ 50000) :
    Calls Try.prog 82 #[.pointer (some ⟨B, 0, none⟩)] w (SchDrawn w B (K + 400)) := by
  obtain ⟨i0, hi, hz0, hz1, hz2⟩ := info_parts Try.info_ru
  have hlt := h.lt
  have HD0 : Hid (Dk w (w.alloc (.cells #[] 56 (0, 0))) B K) := Lib.hid ((Dk.start h).al _)
  have HO0 : Hid (RusO w.heap.size (w.alloc (.cells #[] 56 (0, 0))).heap.size (w.alloc (.cells #[] 56 (0, 0))) (.slice (some ⟨w.heap.size, 0, none⟩) 0 0) []) := Lib.hid (RusO.empty w (Nat.le_refl _))
  clear h
  go_enter Try.func82, Try.ntmps82
  go_wp2_with fail
  refine (pick_any B K 7 _ HD0.out.cur (by omega) (by omega) (by omega)).mono ?_
  rintro e w1 ⟨n0, rfl, hn0, hn1, hc, hg⟩
  obtain ⟨N, rfl⟩ := Int.eq_ofNat_of_zero_le hn0
  have hN : N ≤ 6 := by omega
  have HD1 := Lib.hid (HD0.out.step hc hg)
  have HO1 := Lib.hid ((HO0.out.grown hg hlt).wide (Nat.le_refl _) hg.size)
  clear hc hg hn0 hn1 HD0 HO0
  go_wp2_with fail
  go_loopw [3, 4] (fun l n wr => ∃ (k : Nat) (t : List Ru), k ≤ N ∧ n = .int .i64 k ∧ t.length ≤ 8 ∧ Hid (RusO w.heap.size wr.heap.size wr l t) ∧ Hid (Dk w wr B (K + 2 + 30 * (N - k)))) (fun _ n _ => (intOf n).toNat)
  case atStart => exact ⟨N, [], Nat.le_refl _, rfl, by simp, HO1, Lib.hid (HD1.out.le (by omega))⟩
  case round =>
    clear HO1 HD1
    obtain ⟨k, t, hk, rfl, htl, HO, HD⟩ := hrel
    obtain ⟨M, hM⟩ : ∃ M, K + 2 + 30 * (N - k) = M := ⟨_, rfl⟩
    rw [hM] at HD
    by_cases hpos : 0 < k
    · have gk : (0 : Int) < (k : Int) := by omega
      have gk2 : decide ((0 : Int) < (k : Int)) = true := decide_eq_true gk
      have hkw : IntKind.i64.wrap ((k : Int) - 1) = ((k - 1 : Nat) : Int) := by
        rw [Go.IntWalk.i64_in _ (by omega)]
        omega
      go_wp2_with fail
      refine (rule_any B M _ HD.out.cur (by omega)).mono ?_
      rintro e w2 ⟨u, rfl, hok, hc, hg⟩
      have HD2 := Lib.hid (HD.out.step hc hg)
      have HO2 := Lib.hid ((HO.out.grown hg hlt).wide (Nat.le_refl _) hg.size)
      obtain ⟨xs, b, hres⟩ : ∃ xs b, putRes t u = (xs, b) := ⟨_, _, rfl⟩
      have HRES := Lib.hid hres
      clear hc hg HD HO hres
      go_wp2_with fail
      refine (specPutRule_any _ t u _ HO2.out.row hok (by omega) xs b HRES.out).mono ?_
      rintro e w3 ⟨v3, rfl, ho3, b3⟩
      have HD3 := Lib.hid (HD2.out.below b3)
      have HO3 := Lib.hid ((HO2.out.below b3).wide (Nat.le_refl _) b3.size)
      have HX3 := Lib.hid (ho3.wide HD2.out.sz (Nat.le_refl _))
      clear ho3 b3 HD2 HO2
      cases b
      · go_wp2_with fail
        go_roundw
        case rel => exact ⟨k - 1, t, by omega, rfl, htl, HO3, Lib.hid (HD3.out.le (by omega))⟩
        case measure => simp [intOf]; omega
      · have hxl := put_eight HRES.out
        go_wp2_with fail
        go_roundw
        case rel => exact ⟨k - 1, xs, by omega, rfl, hxl, HX3, Lib.hid (HD3.out.le (by omega))⟩
        case measure => simp [intOf]; omega
    · obtain rfl : k = 0 := by omega
      clear hpos hk
      go_wp2_with fail
      refine (pick_any B M 32 _ HD.out.cur (by omega) (by omega) (by omega)).mono ?_
      rintro e w2 ⟨m, rfl, hm0, hm1, hc, hg⟩
      have HD2 := Lib.hid (HD.out.step hc hg)
      have HO2 := Lib.hid ((HO.out.grown hg hlt).wide (Nat.le_refl _) hg.size)
      have hM2 : M ≤ K + 182 := by omega
      clear hc hg HD HO hM
      by_cases e0 : m = 0
      · subst e0
        go_wp2_with fail
        refine (rule_any B (M + 2) _ HD2.out.cur (by omega)).mono ?_
        rintro e w3 ⟨⟨x0, x1, x2, x3⟩, rfl, hok, hc, hg⟩
        have HD3 := Lib.hid (HD2.out.step hc hg)
        have HO3 := Lib.hid ((HO2.out.grown hg hlt).wide (Nat.le_refl _) hg.size)
        have HOK := Lib.hid hok
        have HOK3 := Lib.hid HO3.out.2.1
        have hsz := HD3.out.sz
        clear hc hg HD2 HO2 hok
        simp only
        go_wp2_with (first | (at_builtin; refine wpList_append_own _ rfl _ _ 40 rfl w.heap.size 56 i0 (.agg #[.int .i64 0, .int .i64 0, .int .i64 0, .int .i64 0]) 4 32 Try.underlying40 hi hz0 hz1 hz2 rfl (by decide) u3 t.length ((t.map ruC).flatten) rfl (HO3.out.ofO (n := 0) |>.alloc _) ⟨w3.heap.size, 0, none⟩ 1 1 [.int .i64 x0, .int .i64 x1, .int .i64 x2, .int .i64 x3] rfl rfl (cells4_new' _ _ _ _ _ _ (by simp)) (by simp [Value.oneCell']) (by unfold maxLen; omega) (by omega) (by simp; omega) ?_; intro v' w4 hown' hgrow _))
        have HX4 : Hid (RusO w.heap.size w4.heap.size w4 v' (t ++ [⟨x0, x1, x2, x3⟩])) := Lib.hid (RusO.of_row (n := t.length + 1) (by
          have e : ((t ++ [(⟨x0, x1, x2, x3⟩ : Ru)]).map ruC).flatten = ((t.map ruC).flatten ++ [.int .i64 x0, .int .i64 x1, .int .i64 x2, .int .i64 x3] : List Value) := by
            rw [List.map_append, List.flatten_append]
            simp [ruC]
          rw [e]; exact hown') (by simp) (fun f hf => by
          rcases List.mem_append.1 hf with h | h
          · exact HOK3.out f h
          · rw [List.mem_singleton.1 h]; exact HOK.out))
        have HD4 := Lib.hid ((HD3.out.al (.cells #[.int .i64 x0, .int .i64 x1, .int .i64 x2, .int .i64 x3] 56 (0, 0))).app hgrow (fun k hk => (HO3.out.1.1.lt k hk).1) hlt)
        clear hown' hgrow
        go_wp2_with fail
        go_ret
        exact ⟨_, _, rfl, by simp; omega, HX4.out, HD4.out.cur.le_K (by omega), HD4.out.gr⟩
      · have b0 : (m == 0) = false := beq_eq_false_iff_ne.2 e0
        by_cases e1 : m = 1
        · subst e1
          clear HO2
          have HD3 : Hid (Dk w (w2.alloc (.cells #[] 56 (0, 0))) B (M + 2)) := Lib.hid (HD2.out.al _)
          have HO3 : Hid (RusO w.heap.size (w2.alloc (.cells #[] 56 (0, 0))).heap.size (w2.alloc (.cells #[] 56 (0, 0))) (.slice (some ⟨w2.heap.size, 0, none⟩) 0 0) []) := Lib.hid (RusO.empty w2 HD2.out.sz)
          clear HD2
          go_wp2_with fail
          go_loopw [3] (fun l wr => ∃ (a : Option Addr) (c : Nat) (t : List Ru), t.length ≤ 9 ∧ l = .slice a t.length c ∧ Hid (RusO w.heap.size wr.heap.size wr (.slice a t.length c) t) ∧ Hid (Dk w wr B (M + 2 + 2 * t.length))) (fun l _ => match l with | .slice _ n _ => 12 - n | _ => 0)
          case atStart => exact ⟨_, _, [], by simp, rfl, HO3, HD3⟩
          case round =>
            clear HO3 HD3
            obtain ⟨a, c, t, ht, rfl, HO, HD⟩ := hrel
            go_wp2_with fail
            refine (pick_any B (M + 2 + 2 * t.length) 2 _ HD.out.cur (by omega) (by omega) (by omega)).mono ?_
            rintro e w3 ⟨d, rfl, hd0, hd1, hc, hg⟩
            have HD3 := Lib.hid (HD.out.step hc hg)
            have HO3 := Lib.hid ((HO.out.grown hg hlt).wide (Nat.le_refl _) hg.size)
            have HOK3 := Lib.hid HO3.out.2.1
            have hsz := HD3.out.sz
            clear hc hg HD HO
            have hw : IntKind.i64.wrap (8 + d) = 8 + d := Go.IntWalk.i64_in _ (by omega)
            by_cases hq : (t.length : Int) < 8 + d
            · have hq2 : decide ((t.length : Int) < 8 + d) = true := decide_eq_true hq
              go_wp2_with (first | (at_builtin; refine wpList_append_own _ rfl _ _ 40 rfl w.heap.size 56 i0 (.agg #[.int .i64 0, .int .i64 0, .int .i64 0, .int .i64 0]) 4 32 Try.underlying40 hi hz0 hz1 hz2 rfl (by decide) (.slice a t.length c) t.length ((t.map ruC).flatten) rfl (HO3.out.ofO (n := 0) |>.alloc _) ⟨w3.heap.size, 0, none⟩ 1 1 [.int .i64 1, .int .i64 (t.length : Int), .int .i64 5, .int .i64 3] rfl rfl (cells4_new' _ _ _ _ _ _ (by simp)) (by simp [Value.oneCell']) (by unfold maxLen; omega) (by omega) (by simp; omega) ?_; intro v' w4 hown' hgrow _))
              have HX4 : Hid (RusO w.heap.size w4.heap.size w4 v' (t ++ [⟨1, (t.length : Int), 5, 3⟩])) := Lib.hid (RusO.of_row (n := t.length + 1) (by
                have e : ((t ++ [(⟨1, (t.length : Int), 5, 3⟩ : Ru)]).map ruC).flatten = ((t.map ruC).flatten ++ [.int .i64 1, .int .i64 (t.length : Int), .int .i64 5, .int .i64 3] : List Value) := by
                  rw [List.map_append, List.flatten_append]
                  simp [ruC]
                rw [e]; exact hown') (by simp) (fun f hf => by
                rcases List.mem_append.1 hf with h | h
                · exact HOK3.out f h
                · rw [List.mem_singleton.1 h]; exact lit_ru t.length (by omega)))
              have HD4 := Lib.hid ((HD3.out.al (.cells #[.int .i64 1, .int .i64 (t.length : Int), .int .i64 5, .int .i64 3] 56 (0, 0))).app hgrow (fun k hk => (HO3.out.1.1.lt k hk).1) hlt)
              obtain ⟨na, nn, nc, rfl⟩ := HX4.out.1.slice
              obtain rfl : nn = t.length + 1 := by
                rcases hown'.2 with ⟨e, _⟩ | ⟨g, cap, cur, e, _⟩ <;> cases e <;> first | rfl | omega
              clear hown' hgrow
              go_wp2_with fail
              go_roundw
              case rel => exact ⟨na, nc, t ++ [⟨1, (t.length : Int), 5, 3⟩], by simp; omega, by simp, by simpa using HX4, Lib.hid (HD4.out.le (by simp; omega))⟩
              case measure => simp; omega
            · have hq2 : decide ((t.length : Int) < 8 + d) = false := decide_eq_false hq
              go_wp2_with fail
              go_ret
              exact ⟨_, t, rfl, by omega, HO3.out, HD3.out.cur.le_K (by omega), HD3.out.gr⟩
        · have b1 : (m == 1) = false := beq_eq_false_iff_ne.2 e1
          go_wp2_with fail
          go_ret
          exact ⟨_, t, rfl, by omega, HO2.out, HD2.out.cur.le_K (by omega), HD2.out.gr⟩
end Go.Proofs.Ytenjajcknmfhfaa

namespace Go.Proofs.Ytenjajcknmfhfaa
set_option linter.unusedVariables false
set_option linter.unusedSimpArgs false
open Go.RowKit Go.Sort

theorem RusO.setOther {lo hi G j : Nat} {w : World} {v x : Value} {t : List Ru} (h : RusO lo hi w v t) (hn : ∀ k, v.ownBlock = some k → k ≠ G) : RusO lo hi (w.setCell ⟨G, j, none⟩ x) v t := by
  refine ⟨⟨h.1.1.kept (row := some G) ⟨rfl, rfl, rfl, by simp, fun k _ hk => Below.heap_setCell w ⟨G, j, none⟩ x k (fun e => hk (by rw [e]))⟩ ?_, h.1.2⟩, h.2⟩
  rcases hv : v.ownBlock with _ | k
  · exact .inl rfl
  · exact .inr fun e => hn k hv (Option.some.inj e)
structure SSt (w wx : World) (B K F lo hi : Nat) (x0 x1 x2 : Int) (g c : Nat) (xs : List Ev) (l : Value) (t : List Ru) (u : Nat) : Prop where
  dk : Dk w wx B K
  box : BxV wx F [.int .i64 x0, .int .i64 x1, .int .i64 x2, .slice (some ⟨g, 0, none⟩) xs.length c]
  evs : EvsO lo hi wx (.slice (some ⟨g, 0, none⟩) xs.length c) xs
  rus : RusO w.heap.size u wx l t
section
variable {w wx w9 : World} {B K K9 F lo hi u u9 : Nat} {x0 x1 x2 : Int} {g c : Nat} {xs : List Ev} {l l9 : Value} {t t9 : List Ru}
theorem SSt.step (h : SSt w wx B K F lo hi x0 x1 x2 g c xs l t u) (hB : B < w.heap.size) (hF : w.heap.size ≤ F) (hlo : B < lo) (hc : Cur w9 B K9) (hg : wx.grownBy w9 (some B)) : SSt w w9 B K9 F lo hi x0 x1 x2 g c xs l t u :=
  ⟨h.dk.step hc hg, h.box.grown hg (by simp; omega), h.evs.grown hg hlo, h.rus.grown hg hB⟩
theorem SSt.below (h : SSt w wx B K F lo hi x0 x1 x2 g c xs l t u) (hb : Below wx.heap.size wx w9) : SSt w w9 B K F lo hi x0 x1 x2 g c xs l t u := ⟨h.dk.below hb, h.box.below hb, h.evs.below hb, h.rus.below hb⟩
theorem SSt.al (h : SSt w wx B K F lo hi x0 x1 x2 g c xs l t u) (o : Obj) : SSt w (wx.alloc o) B K F lo hi x0 x1 x2 g c xs l t u := h.below (below_al (Below.refl _ _) o)
theorem SSt.drew (h : SSt w wx B K F lo hi x0 x1 x2 g c xs l t u) : SSt w wx.drew B K F lo hi x0 x1 x2 g c xs l t u := h.below (Below.refl _ _).drew
theorem SSt.le (h : SSt w wx B K F lo hi x0 x1 x2 g c xs l t u) (hk : K ≤ K9) (hu : u ≤ u9) : SSt w wx B K9 F lo hi x0 x1 x2 g c xs l t u9 := ⟨h.dk.le hk, h.box, h.evs, h.rus.wide (Nat.le_refl _) hu⟩
theorem SSt.lst (h : SSt w wx B K F lo hi x0 x1 x2 g c xs l t u) (hr : RusO w.heap.size u9 wx l9 t9) : SSt w wx B K F lo hi x0 x1 x2 g c xs l9 t9 u9 := ⟨h.dk, h.box, h.evs, hr⟩
theorem SSt.put {G j : Nat} {x : Value} (h : SSt w wx B K F lo hi x0 x1 x2 g c xs l t u) (hG : w.heap.size ≤ G) (hB : B < w.heap.size) (hF : F < G) (hg : g ≠ G) (hu : u ≤ G) : SSt w (wx.setCell ⟨G, j, none⟩ x) B K F lo hi x0 x1 x2 g c xs l t u :=
  ⟨h.dk.set hG (by omega), h.box.other (by omega), h.evs.setOther (fun k hk => by simp [Value.ownBlock] at hk; omega), h.rus.setOther (fun k hk => by have := h.rus.2.2 k hk; omega)⟩
end
theorem SSt.f1 {w wx : World} {B K F lo hi u : Nat} {x0 x1 x2 : Int} {g c : Nat} {xs : List Ev} {l : Value} {t : List Ru} (h : SSt w wx B K F lo hi x0 x1 x2 g c xs l t u) : wx.cell? ⟨F, 1, none⟩ = some (.int .i64 x1) := by have := h.box.cell 1; simpa using this
set_option maxRecDepth 20000 in
set_option maxHeartbeats 8000000 in
theorem suited_any (B K lo hi : Nat) (x0 x1 x2 : Int) (g c : Nat) (xs : List Ev) (w : World) (h : Cur w B K) (hK : K ≤ 40000) (he : EvsO lo hi w (.slice (some ⟨g, 0, none⟩) xs.length c) xs) (hBlo : B < lo) (hhi : hi ≤ w.heap.size) (ix1 : inI x1) (hxl : xs.length ≤ 16) :
    Calls Try.prog 105 #[.pointer (some ⟨B, 0, none⟩), .agg #[.int .i64 x0, .int .i64 x1, .int .i64 x2, .slice (some ⟨g, 0, none⟩) xs.length c]] w (SchDrawn w B (K + 500)) := by
  have hlt := h.lt
  obtain ⟨F, hF⟩ : ∃ F, w.heap.size = F := ⟨_, rfl⟩
  have hwF : w.heap.size ≤ F := by omega
  have hgF : g < F := by have := he.2.2 g rfl; omega
  have HD0 : Hid (Dk w (w.alloc (.cells #[.int .i64 x0, .int .i64 x1, .int .i64 x2, .slice (some ⟨g, 0, none⟩) xs.length c] 63 (0, 0))) B K) := Lib.hid ((Dk.start h).al _)
  have HB0 : Hid (BxV (w.alloc (.cells #[.int .i64 x0, .int .i64 x1, .int .i64 x2, .slice (some ⟨g, 0, none⟩) xs.length c] 63 (0, 0))) F [.int .i64 x0, .int .i64 x1, .int .i64 x2, .slice (some ⟨g, 0, none⟩) xs.length c]) := Lib.hid (BxV.new' hF _ _)
  have HE0 := Lib.hid (he.below (below_al (Below.refl _ _) (.cells #[.int .i64 x0, .int .i64 x1, .int .i64 x2, .slice (some ⟨g, 0, none⟩) xs.length c] 63 (0, 0))))
  clear h he
  go_enter Try.func105, Try.ntmps105
  go_wp2_with fail
  refine (schedule_any B K _ HD0.out.cur (by omega)).mono ?_
  rintro e w1 ⟨l0, t0, rfl, htl0, hr0, hc, hg⟩
  have HS1 : Hid (SSt w w1 B (K + 400) F lo hi x0 x1 x2 g c xs l0 t0 w1.heap.size) := Lib.hid ⟨HD0.out.step hc hg, HB0.out.grown hg (by simp; omega), HE0.out.grown hg hBlo, hr0.wide (by simp) (Nat.le_refl _)⟩
  clear hc hg hr0 HD0 HB0 HE0
  try rw [hF]
  have HF := Lib.hid hF
  clear hF
  go_wp2_with fail
  refine (pick_any B (K + 400) 4 _ HS1.out.dk.cur (by omega) (by omega) (by omega)).mono ?_
  rintro e w2 ⟨n0, rfl, hn0, hn1, hc, hg⟩
  obtain ⟨N, rfl⟩ := Int.eq_ofNat_of_zero_le hn0
  have hN : N ≤ 3 := by omega
  have HS2 := Lib.hid ((HS1.out.step hlt hwF hBlo hc hg).le (Nat.le_refl _) hg.size)
  clear hc hg hn0 hn1 HS1
  go_wp2_with fail
  go_loopw [5, 6] (fun l n wr => ∃ (k : Nat) (t : List Ru), k ≤ N ∧ n = .int .i64 k ∧ t.length ≤ 16 ∧ Hid (SSt w wr B (K + 402 + 20 * (N - k)) F lo hi x0 x1 x2 g c xs l t wr.heap.size)) (fun _ n _ => (intOf n).toNat)
  case atStart => exact ⟨N, t0, Nat.le_refl _, rfl, htl0, Lib.hid (HS2.out.le (by omega) (Nat.le_refl _))⟩
  case round =>
    clear HS2
    obtain ⟨k, t, hk, rfl, htl, HS⟩ := hrel
    obtain ⟨M, hM⟩ : ∃ M, K + 402 + 20 * (N - k) = M := ⟨_, rfl⟩
    rw [hM] at HS
    have HM : Hid (k ≤ N ∧ K + 402 + 20 * (N - k) = M) := Lib.hid ⟨hk, hM⟩
    have hM2 : M ≤ K + 470 := by omega
    clear hM
    by_cases hpos : 0 < k
    · have gk : (0 : Int) < (k : Int) := by omega
      have gk2 : decide ((0 : Int) < (k : Int)) = true := decide_eq_true gk
      have hkw : IntKind.i64.wrap ((k : Int) - 1) = ((k - 1 : Nat) : Int) := by
        rw [Go.IntWalk.i64_in _ (by omega)]
        omega
      go_wp2_with fail
      refine (l4Good_any _ t _ HS.out.rus.row).mono ?_
      rintro e w4 ⟨rfl, b4⟩
      have HS4 := Lib.hid ((HS.out.below b4).le (Nat.le_refl _) b4.size)
      clear b4 HS
      rcases hsch : isSch t with _ | _
      · try rw [hsch]
        go_wp2_with fail
        go_ret
        exact ⟨_, t, rfl, by omega, HS4.out.rus, HS4.out.dk.cur.le_K (by omega), HS4.out.dk.gr⟩
      · try rw [hsch]
        clear hsch
        go_upto_region 5 with fail
        go_cut [7] (fun q wx => ∃ (G : Nat) (ev dy p : Int), q = .pointer (some ⟨G, 0, none⟩) ∧ (0 ≤ ev ∧ ev ≤ 3) ∧ (0 ≤ dy ∧ dy ≤ 1000) ∧ (0 ≤ p ∧ p < 3) ∧ F < G ∧ w4.heap.size ≤ G ∧ Hid (SSt w wx B (M + 6) F lo hi x0 x1 x2 g c xs u5 t w4.heap.size) ∧ Hid (BxV wx G [.int .i64 x1, .int .i64 ev, .int .i64 dy, .int .i64 (1 + p)]))
        case first =>
          have hHd0 := HS4.out.drew.f1
          have HSd := Lib.hid HS4.out.drew
          refine wp_region_held_drew (S := (fun w' : World => w'.cell? ⟨F, 1, none⟩ = some (.int .i64 x1))) (by kernel_rfl) ?_ (fun hHeld => ?_)
          · exact HS4.out.drew.f1
          clear hHd0
          have HB4 : Hid (B < w4.heap.size ∧ F < w4.heap.size ∧ w.heap.size ≤ w4.heap.size) := Lib.hid ⟨HS4.out.dk.cur.lt, HS4.out.box.lt, HS4.out.dk.sz⟩
          clear HS4
          refine gen_dr (W := w4) ?_
          intro W0 hW0 hz0
          have HS0_ := Lib.hid (by rw [hW0]; exact HSd.out : SSt w W0 B (M + 0) F lo hi x0 x1 x2 g c xs u5 t w4.heap.size)
          have HT0_ : Hid (w4.heap.size ≤ W0.heap.size) := Lib.hid (by rw [hz0]; exact Nat.le_refl _)
          replace hHeld : (fun w' : World => w'.cell? ⟨F, 1, none⟩ = some (.int .i64 x1)) W0 := HS0_.out.f1
          clear hW0 hz0 HSd
          refine wpAnyH_take (i := 0) (v := ?_) rfl (by kernel_rfl) (by kernel_rfl) (by kernel_rfl) (fun _ _ _ h => h) (Or.inl ⟨by rfl, ?_⟩) (by assumption) ?_
          rotate_left
          · (intro w hSw; (try dsimp only at hSw); go_simp; first | done | with_reducible rfl)
          (try simp only [Act.put, List.setIfInBounds_toArray, List.set_cons_zero, List.set_cons_succ, List.getElem_toArray, List.getElem_cons_succ, List.getElem_cons_zero])
          refine wpAnyH_take (i := 1) (v := ?_) rfl (by kernel_rfl) (by kernel_rfl) (by kernel_rfl) (fun _ _ _ h => h) (Or.inl ⟨by rfl, ?_⟩) (by assumption) ?_
          rotate_left
          · (intro w hSw; (try dsimp only at hSw); go_simp; first | done | with_reducible rfl)
          (try simp only [Act.put, List.setIfInBounds_toArray, List.set_cons_zero, List.set_cons_succ, List.getElem_toArray, List.getElem_cons_succ, List.getElem_cons_zero])
          refine wpAnyH_take (i := 2) (v := ?_) rfl (by kernel_rfl) (by kernel_rfl) (by kernel_rfl) (fun _ _ _ h => h) (Or.inl ⟨by rfl, ?_⟩) (by assumption) ?_
          rotate_left
          · (intro w hSw; (try dsimp only at hSw); go_simp; first | done | with_reducible rfl)
          (try simp only [Act.put, List.setIfInBounds_toArray, List.set_cons_zero, List.set_cons_succ, List.getElem_toArray, List.getElem_cons_succ, List.getElem_cons_zero])
          refine wpAnyH_take (i := 5) (v := ?_) rfl (by kernel_rfl) (by kernel_rfl) (by kernel_rfl) (fun _ _ _ h => h) (Or.inl ⟨by rfl, ?_⟩) (by assumption) ?_
          rotate_left
          · (intro w hSw; (try dsimp only at hSw); go_simp; first | done | with_reducible rfl)
          (try simp only [Act.put, List.setIfInBounds_toArray, List.set_cons_zero, List.set_cons_succ, List.getElem_toArray, List.getElem_cons_succ, List.getElem_cons_zero])
          refine wpAnyH_take (i := 8) (v := ?_) rfl (by kernel_rfl) (by kernel_rfl) (by kernel_rfl) (fun _ _ _ h => h) (Or.inl ⟨by rfl, ?_⟩) (by assumption) ?_
          rotate_left
          · (intro w hSw; (try dsimp only at hSw); go_simp; first | done | with_reducible rfl)
          (try simp only [Act.put, List.setIfInBounds_toArray, List.set_cons_zero, List.set_cons_succ, List.getElem_toArray, List.getElem_cons_succ, List.getElem_cons_zero])
          refine wpAnyH_ready (rs := [3, 6, 12]) (by kernel_rfl) (by simp) ?_
          refine AllReadyH.cons rfl (fun K hK => ?_) (AllReadyH.cons rfl (fun K hK => ?_) (AllReadyH.cons rfl (fun K hK => ?_) AllReadyH.nil))
          · go_simp
            refine hK.out _ _ ?_ (fun hHeld => ?_)
            · exact (HS0_.out.al _).f1
            · clear hK K hHeld
              (try simp only [Act.put, List.setIfInBounds_toArray, List.set_cons_zero, List.set_cons_succ, List.getElem_toArray, List.getElem_cons_succ, List.getElem_cons_zero])
              refine gen_al (W := W0) ?_
              intro W1 hWn
              have HS1_ := Lib.hid (by rw [hWn]; exact HS0_.out.al _ : SSt w W1 B (M + 0) F lo hi x0 x1 x2 g c xs u5 t w4.heap.size)
              have HT1_ : Hid (w4.heap.size ≤ W1.heap.size) := Lib.hid (by rw [hWn]; exact Nat.le_trans HT0_.out (by simp))
              have HL1_3 : Hid (NL W1 W0.heap.size [0, 0, 1, 2, 3]) := Lib.hid (by rw [hWn]; exact new_nums W0 [0, 0, 1, 2, 3] 3 _ rfl)
              have HN1_3 : Hid (W0.heap.size ≠ B) := Lib.hid (by have := HS0_.out.dk.cur.lt; omega)
              have hHeld : (fun w' : World => w'.cell? ⟨F, 1, none⟩ = some (.int .i64 x1)) W1 := HS1_.out.f1
              clear hWn HS0_ HT0_
              refine wpAnyH_ready (rs := [4, 6, 12]) (by kernel_rfl) (by simp) ?_
              refine AllReadyH.cons rfl (fun K hK => ?_) (AllReadyH.cons rfl (fun K hK => ?_) (AllReadyH.cons rfl (fun K hK => ?_) AllReadyH.nil))
              · go_simp
                go_at_call 77
                refine (amongZ_any B (M + 0) W0.heap.size 0 5 5 [0, 0, 1, 2, 3] _ HS1_.out.dk.cur (by omega) rfl (by omega) (by omega) HN1_3.out HL1_3.out).mono ?_
                rintro e W2 ⟨ev, rfl, mev, hc, hg⟩
                have bev : 0 ≤ ev ∧ ev ≤ 3 := by simp at mev; omega
                clear mev
                have HS2_ := Lib.hid (HS1_.out.step hlt hwF hBlo hc hg)
                have HT2_ : Hid (w4.heap.size ≤ W2.heap.size) := Lib.hid (Nat.le_trans HT1_.out hg.size)
                clear hc hg HS1_ HT1_ HL1_3
                (try go_wp2_with fail)
                refine hK.out _ _ ?_ (fun hHeld => ?_)
                · exact HS2_.out.f1
                · clear hK K
                  (try simp only [Act.put, List.setIfInBounds_toArray, List.set_cons_zero, List.set_cons_succ, List.getElem_toArray, List.getElem_cons_succ, List.getElem_cons_zero])
                  refine wpAnyH_ready (rs := [6, 12]) (by kernel_rfl) (by simp) ?_
                  refine AllReadyH.cons rfl (fun K hK => ?_) (AllReadyH.cons rfl (fun K hK => ?_) AllReadyH.nil)
                  · go_simp
                    refine hK.out _ _ ?_ (fun hHeld => ?_)
                    · exact (HS2_.out.al _).f1
                    · clear hK K hHeld
                      (try simp only [Act.put, List.setIfInBounds_toArray, List.set_cons_zero, List.set_cons_succ, List.getElem_toArray, List.getElem_cons_succ, List.getElem_cons_zero])
                      refine gen_al (W := W2) ?_
                      intro W3 hWn
                      have HS3_ := Lib.hid (by rw [hWn]; exact HS2_.out.al _ : SSt w W3 B (M + 2) F lo hi x0 x1 x2 g c xs u5 t w4.heap.size)
                      have HT3_ : Hid (w4.heap.size ≤ W3.heap.size) := Lib.hid (by rw [hWn]; exact Nat.le_trans HT2_.out (by simp))
                      have HL3_6 : Hid (NL W3 W2.heap.size [0, 30, 365, 1000]) := Lib.hid (by rw [hWn]; exact new_nums W2 [0, 30, 365, 1000] 3 _ rfl)
                      have HN3_6 : Hid (W2.heap.size ≠ B) := Lib.hid (by have := HS2_.out.dk.cur.lt; omega)
                      have hHeld : (fun w' : World => w'.cell? ⟨F, 1, none⟩ = some (.int .i64 x1)) W3 := HS3_.out.f1
                      clear hWn HS2_ HT2_
                      refine wpAnyH_ready (rs := [7, 12]) (by kernel_rfl) (by simp) ?_
                      refine AllReadyH.cons rfl (fun K hK => ?_) (AllReadyH.cons rfl (fun K hK => ?_) AllReadyH.nil)
                      · go_simp
                        go_at_call 77
                        refine (amongZ_any B (M + 2) W2.heap.size 0 4 4 [0, 30, 365, 1000] _ HS3_.out.dk.cur (by omega) rfl (by omega) (by omega) HN3_6.out HL3_6.out).mono ?_
                        rintro e W4 ⟨dy, rfl, mdy, hc, hg⟩
                        have bdy : 0 ≤ dy ∧ dy ≤ 1000 := by simp at mdy; omega
                        clear mdy
                        have HS4_ := Lib.hid (HS3_.out.step hlt hwF hBlo hc hg)
                        have HT4_ : Hid (w4.heap.size ≤ W4.heap.size) := Lib.hid (Nat.le_trans HT3_.out hg.size)
                        clear hc hg HS3_ HT3_ HL3_6
                        (try go_wp2_with fail)
                        refine hK.out _ _ ?_ (fun hHeld => ?_)
                        · exact HS4_.out.f1
                        · clear hK K
                          (try simp only [Act.put, List.setIfInBounds_toArray, List.set_cons_zero, List.set_cons_succ, List.getElem_toArray, List.getElem_cons_succ, List.getElem_cons_zero])
                          refine wpAnyH_ready (rs := [9, 12]) (by kernel_rfl) (by simp) ?_
                          refine AllReadyH.cons rfl (fun K hK => ?_) (AllReadyH.cons rfl (fun K hK => ?_) AllReadyH.nil)
                          · go_simp
                            go_at_call 81
                            refine (pick_any B (M + 4) 3 _ HS4_.out.dk.cur (by omega) (by omega) (by omega)).mono ?_
                            rintro e W5 ⟨p, rfl, hp0, hp1, hc, hg⟩
                            have hwp : IntKind.i64.wrap (1 + p) = 1 + p := Go.IntWalk.i64_in _ (by omega)
                            have HS5_ := Lib.hid (HS4_.out.step hlt hwF hBlo hc hg)
                            have HT5_ : Hid (w4.heap.size ≤ W5.heap.size) := Lib.hid (Nat.le_trans HT4_.out hg.size)
                            clear hc hg HS4_ HT4_
                            (try go_wp2_with fail)
                            refine hK.out _ _ ?_ (fun hHeld => ?_)
                            · exact HS5_.out.f1
                            · clear hK K
                              (try simp only [Act.put, List.setIfInBounds_toArray, List.set_cons_zero, List.set_cons_succ, List.getElem_toArray, List.getElem_cons_succ, List.getElem_cons_zero])
                              refine wpAnyH_take (i := 10) (v := ?_) rfl (by kernel_rfl) (by kernel_rfl) (by kernel_rfl) (fun _ _ _ h => h) (Or.inl ⟨by rfl, ?_⟩) (by assumption) ?_
                              rotate_left
                              · (intro w hSw; (try dsimp only at hSw); go_simp; first | done | with_reducible rfl)
                              (try simp only [Act.put, List.setIfInBounds_toArray, List.set_cons_zero, List.set_cons_succ, List.getElem_toArray, List.getElem_cons_succ, List.getElem_cons_zero])
                              refine wpAnyH_take (i := 11) (v := ?_) rfl (by kernel_rfl) (by kernel_rfl) (by kernel_rfl) (fun _ _ _ h => h) (Or.inl ⟨by rfl, ?_⟩) (by assumption) ?_
                              rotate_left
                              · (intro w hSw; (try dsimp only at hSw); go_simp; first | done | with_reducible rfl)
                              (try simp only [Act.put, List.setIfInBounds_toArray, List.set_cons_zero, List.set_cons_succ, List.getElem_toArray, List.getElem_cons_succ, List.getElem_cons_zero])
                              refine wpAnyH_ready (rs := [12]) (by kernel_rfl) (by simp) ?_
                              refine AllReadyH.cons rfl (fun K hK => ?_) AllReadyH.nil
                              · go_simp
                                refine hK.out _ _ ?_ (fun hHeld => ?_)
                                · exact (HS5_.out.al _).f1
                                · clear hK K hHeld
                                  (try simp only [Act.put, List.setIfInBounds_toArray, List.set_cons_zero, List.set_cons_succ, List.getElem_toArray, List.getElem_cons_succ, List.getElem_cons_zero])
                                  refine gen_al (W := W5) ?_
                                  intro W6 hWn
                                  have HS6_ := Lib.hid (by rw [hWn]; exact HS5_.out.al _ : SSt w W6 B (M + 6) F lo hi x0 x1 x2 g c xs u5 t w4.heap.size)
                                  have HT6_ : Hid (w4.heap.size ≤ W6.heap.size) := Lib.hid (by rw [hWn]; exact Nat.le_trans HT5_.out (by simp))
                                  have HG6_ : Hid (BxV W6 W5.heap.size [.int .i64 0, .int .i64 0, .int .i64 0, .int .i64 0]) := Lib.hid (by rw [hWn]; exact BxV.new W5 _ _)
                                  have HGT : Hid (w4.heap.size ≤ W5.heap.size) := HT5_
                                  have hHeld : (fun w' : World => w'.cell? ⟨F, 1, none⟩ = some (.int .i64 x1)) W6 := HS6_.out.f1
                                  clear hWn HS5_ HT5_
                                  have q1 : w.heap.size ≤ W5.heap.size := by have := HGT.out; have := HB4.out; omega
                                  have q2 : F < W5.heap.size := by have := HGT.out; have := HB4.out; omega
                                  have q3 : g ≠ W5.heap.size := by have := HGT.out; have := HB4.out; omega
                                  have q4 : w4.heap.size ≤ W5.heap.size := HGT.out
                                  have z0 := HG6_.out.cell 0
                                  have z1 := HG6_.out.cell 1
                                  have z2 := HG6_.out.cell 2
                                  have z3 := HG6_.out.cell 3
                                  have y0 := HG6_.out.frozen 0
                                  have y1 := HG6_.out.frozen 1
                                  have y2 := HG6_.out.frozen 2
                                  have y3 := HG6_.out.frozen 3
                                  simp at z0 z1 z2 z3
                                  have HF9 := Lib.hid (SSt.put (G := W5.heap.size) (j := 3) (x := .int .i64 (1 + p)) (SSt.put (G := W5.heap.size) (j := 2) (x := .int .i64 dy) (SSt.put (G := W5.heap.size) (j := 1) (x := .int .i64 ev) (SSt.put (G := W5.heap.size) (j := 0) (x := .int .i64 x1) HS6_.out q1 hlt q2 q3 q4) q1 hlt q2 q3 q4) q1 hlt q2 q3 q4) q1 hlt q2 q3 q4)
                                  have HB9 := Lib.hid (BxV.set (cs' := [.int .i64 x1, .int .i64 ev, .int .i64 dy, .int .i64 (1 + p)]) 3 (.int .i64 (1 + p)) (BxV.set (cs' := [.int .i64 x1, .int .i64 ev, .int .i64 dy, .int .i64 0]) 2 (.int .i64 dy) (BxV.set (cs' := [.int .i64 x1, .int .i64 ev, .int .i64 0, .int .i64 0]) 1 (.int .i64 ev) (BxV.set (cs' := [.int .i64 x1, .int .i64 0, .int .i64 0, .int .i64 0]) 0 (.int .i64 x1) HG6_.out rfl) rfl) rfl) rfl)
                                  refine wpAnyH_ready (rs := [13]) (by kernel_rfl) (by simp) ?_
                                  refine AllReadyH.cons rfl (fun K hK => ?_) AllReadyH.nil
                                  go_simp
                                  refine hK.out _ _ ?_ (fun hHeld => ?_)
                                  · exact HF9.out.f1
                                  · clear hK K
                                    (try simp only [Act.put, List.setIfInBounds_toArray, List.set_cons_zero, List.set_cons_succ, List.getElem_toArray, List.getElem_cons_succ, List.getElem_cons_zero])
                                    refine wpAnyH_done (by kernel_rfl) ?_ _
                                    (try go_wp2_with fail)
                                    go_meet
                                    exact ⟨_, ev, dy, p, rfl, bev, bdy, ⟨hp0, hp1⟩, q2, q4, HF9, HB9⟩
                          · go_simp
                            refine hK.out _ _ ?_ (fun hHeld => ?_)
                            · exact (HS4_.out.al _).f1
                            · clear hK K hHeld
                              (try simp only [Act.put, List.setIfInBounds_toArray, List.set_cons_zero, List.set_cons_succ, List.getElem_toArray, List.getElem_cons_succ, List.getElem_cons_zero])
                              refine gen_al (W := W4) ?_
                              intro W7 hWn
                              have HS7_ := Lib.hid (by rw [hWn]; exact HS4_.out.al _ : SSt w W7 B (M + 4) F lo hi x0 x1 x2 g c xs u5 t w4.heap.size)
                              have HT7_ : Hid (w4.heap.size ≤ W7.heap.size) := Lib.hid (by rw [hWn]; exact Nat.le_trans HT4_.out (by simp))
                              have HG7_ : Hid (BxV W7 W4.heap.size [.int .i64 0, .int .i64 0, .int .i64 0, .int .i64 0]) := Lib.hid (by rw [hWn]; exact BxV.new W4 _ _)
                              have HGT : Hid (w4.heap.size ≤ W4.heap.size) := HT4_
                              have hHeld : (fun w' : World => w'.cell? ⟨F, 1, none⟩ = some (.int .i64 x1)) W7 := HS7_.out.f1
                              clear hWn HS4_ HT4_
                              refine wpAnyH_ready (rs := [9]) (by kernel_rfl) (by simp) ?_
                              refine AllReadyH.cons rfl (fun K hK => ?_) AllReadyH.nil
                              · go_simp
                                go_at_call 81
                                refine (pick_any B (M + 4) 3 _ HS7_.out.dk.cur (by omega) (by omega) (by omega)).mono ?_
                                rintro e W8 ⟨p, rfl, hp0, hp1, hc, hg⟩
                                have hwp : IntKind.i64.wrap (1 + p) = 1 + p := Go.IntWalk.i64_in _ (by omega)
                                have HS8_ := Lib.hid (HS7_.out.step hlt hwF hBlo hc hg)
                                have HT8_ : Hid (w4.heap.size ≤ W8.heap.size) := Lib.hid (Nat.le_trans HT7_.out hg.size)
                                have HG8_ : Hid (BxV W8 W4.heap.size [.int .i64 0, .int .i64 0, .int .i64 0, .int .i64 0]) := Lib.hid (HG7_.out.grown hg (by have := HGT.out; have := HB4.out; simp; omega))
                                clear hc hg HS7_ HT7_ HG7_
                                (try go_wp2_with fail)
                                refine hK.out _ _ ?_ (fun hHeld => ?_)
                                · exact HS8_.out.f1
                                · clear hK K
                                  (try simp only [Act.put, List.setIfInBounds_toArray, List.set_cons_zero, List.set_cons_succ, List.getElem_toArray, List.getElem_cons_succ, List.getElem_cons_zero])
                                  refine wpAnyH_take (i := 10) (v := ?_) rfl (by kernel_rfl) (by kernel_rfl) (by kernel_rfl) (fun _ _ _ h => h) (Or.inl ⟨by rfl, ?_⟩) (by assumption) ?_
                                  rotate_left
                                  · (intro w hSw; (try dsimp only at hSw); go_simp; first | done | with_reducible rfl)
                                  (try simp only [Act.put, List.setIfInBounds_toArray, List.set_cons_zero, List.set_cons_succ, List.getElem_toArray, List.getElem_cons_succ, List.getElem_cons_zero])
                                  refine wpAnyH_take (i := 11) (v := ?_) rfl (by kernel_rfl) (by kernel_rfl) (by kernel_rfl) (fun _ _ _ h => h) (Or.inl ⟨by rfl, ?_⟩) (by assumption) ?_
                                  rotate_left
                                  · (intro w hSw; (try dsimp only at hSw); go_simp; first | done | with_reducible rfl)
                                  (try simp only [Act.put, List.setIfInBounds_toArray, List.set_cons_zero, List.set_cons_succ, List.getElem_toArray, List.getElem_cons_succ, List.getElem_cons_zero])
                                  have q1 : w.heap.size ≤ W4.heap.size := by have := HGT.out; have := HB4.out; omega
                                  have q2 : F < W4.heap.size := by have := HGT.out; have := HB4.out; omega
                                  have q3 : g ≠ W4.heap.size := by have := HGT.out; have := HB4.out; omega
                                  have q4 : w4.heap.size ≤ W4.heap.size := HGT.out
                                  have z0 := HG8_.out.cell 0
                                  have z1 := HG8_.out.cell 1
                                  have z2 := HG8_.out.cell 2
                                  have z3 := HG8_.out.cell 3
                                  have y0 := HG8_.out.frozen 0
                                  have y1 := HG8_.out.frozen 1
                                  have y2 := HG8_.out.frozen 2
                                  have y3 := HG8_.out.frozen 3
                                  simp at z0 z1 z2 z3
                                  have HF9 := Lib.hid (SSt.put (G := W4.heap.size) (j := 3) (x := .int .i64 (1 + p)) (SSt.put (G := W4.heap.size) (j := 2) (x := .int .i64 dy) (SSt.put (G := W4.heap.size) (j := 1) (x := .int .i64 ev) (SSt.put (G := W4.heap.size) (j := 0) (x := .int .i64 x1) HS8_.out q1 hlt q2 q3 q4) q1 hlt q2 q3 q4) q1 hlt q2 q3 q4) q1 hlt q2 q3 q4)
                                  have HB9 := Lib.hid (BxV.set (cs' := [.int .i64 x1, .int .i64 ev, .int .i64 dy, .int .i64 (1 + p)]) 3 (.int .i64 (1 + p)) (BxV.set (cs' := [.int .i64 x1, .int .i64 ev, .int .i64 dy, .int .i64 0]) 2 (.int .i64 dy) (BxV.set (cs' := [.int .i64 x1, .int .i64 ev, .int .i64 0, .int .i64 0]) 1 (.int .i64 ev) (BxV.set (cs' := [.int .i64 x1, .int .i64 0, .int .i64 0, .int .i64 0]) 0 (.int .i64 x1) HG8_.out rfl) rfl) rfl) rfl)
                                  refine wpAnyH_ready (rs := [13]) (by kernel_rfl) (by simp) ?_
                                  refine AllReadyH.cons rfl (fun K hK => ?_) AllReadyH.nil
                                  go_simp
                                  refine hK.out _ _ ?_ (fun hHeld => ?_)
                                  · exact HF9.out.f1
                                  · clear hK K
                                    (try simp only [Act.put, List.setIfInBounds_toArray, List.set_cons_zero, List.set_cons_succ, List.getElem_toArray, List.getElem_cons_succ, List.getElem_cons_zero])
                                    refine wpAnyH_done (by kernel_rfl) ?_ _
                                    (try go_wp2_with fail)
                                    go_meet
                                    exact ⟨_, ev, dy, p, rfl, bev, bdy, ⟨hp0, hp1⟩, q2, q4, HF9, HB9⟩
                      · go_simp
                        refine hK.out _ _ ?_ (fun hHeld => ?_)
                        · exact (HS3_.out.al _).f1
                        · clear hK K hHeld
                          (try simp only [Act.put, List.setIfInBounds_toArray, List.set_cons_zero, List.set_cons_succ, List.getElem_toArray, List.getElem_cons_succ, List.getElem_cons_zero])
                          refine gen_al (W := W3) ?_
                          intro W9 hWn
                          have HS9_ := Lib.hid (by rw [hWn]; exact HS3_.out.al _ : SSt w W9 B (M + 2) F lo hi x0 x1 x2 g c xs u5 t w4.heap.size)
                          have HT9_ : Hid (w4.heap.size ≤ W9.heap.size) := Lib.hid (by rw [hWn]; exact Nat.le_trans HT3_.out (by simp))
                          have HL9_6 : Hid (NL W9 W2.heap.size [0, 30, 365, 1000]) := Lib.hid (by rw [hWn]; exact HL3_6.out.al _)
                          have HG9_ : Hid (BxV W9 W3.heap.size [.int .i64 0, .int .i64 0, .int .i64 0, .int .i64 0]) := Lib.hid (by rw [hWn]; exact BxV.new W3 _ _)
                          have HGT : Hid (w4.heap.size ≤ W3.heap.size) := HT3_
                          have hHeld : (fun w' : World => w'.cell? ⟨F, 1, none⟩ = some (.int .i64 x1)) W9 := HS9_.out.f1
                          clear hWn HS3_ HT3_ HL3_6
                          refine wpAnyH_ready (rs := [7]) (by kernel_rfl) (by simp) ?_
                          refine AllReadyH.cons rfl (fun K hK => ?_) AllReadyH.nil
                          · go_simp
                            go_at_call 77
                            refine (amongZ_any B (M + 2) W2.heap.size 0 4 4 [0, 30, 365, 1000] _ HS9_.out.dk.cur (by omega) rfl (by omega) (by omega) HN3_6.out HL9_6.out).mono ?_
                            rintro e W10 ⟨dy, rfl, mdy, hc, hg⟩
                            have bdy : 0 ≤ dy ∧ dy ≤ 1000 := by simp at mdy; omega
                            clear mdy
                            have HS10_ := Lib.hid (HS9_.out.step hlt hwF hBlo hc hg)
                            have HT10_ : Hid (w4.heap.size ≤ W10.heap.size) := Lib.hid (Nat.le_trans HT9_.out hg.size)
                            have HG10_ : Hid (BxV W10 W3.heap.size [.int .i64 0, .int .i64 0, .int .i64 0, .int .i64 0]) := Lib.hid (HG9_.out.grown hg (by have := HGT.out; have := HB4.out; simp; omega))
                            clear hc hg HS9_ HT9_ HL9_6 HG9_
                            (try go_wp2_with fail)
                            refine hK.out _ _ ?_ (fun hHeld => ?_)
                            · exact HS10_.out.f1
                            · clear hK K
                              (try simp only [Act.put, List.setIfInBounds_toArray, List.set_cons_zero, List.set_cons_succ, List.getElem_toArray, List.getElem_cons_succ, List.getElem_cons_zero])
                              refine wpAnyH_ready (rs := [9]) (by kernel_rfl) (by simp) ?_
                              refine AllReadyH.cons rfl (fun K hK => ?_) AllReadyH.nil
                              · go_simp
                                go_at_call 81
                                refine (pick_any B (M + 4) 3 _ HS10_.out.dk.cur (by omega) (by omega) (by omega)).mono ?_
                                rintro e W11 ⟨p, rfl, hp0, hp1, hc, hg⟩
                                have hwp : IntKind.i64.wrap (1 + p) = 1 + p := Go.IntWalk.i64_in _ (by omega)
                                have HS11_ := Lib.hid (HS10_.out.step hlt hwF hBlo hc hg)
                                have HT11_ : Hid (w4.heap.size ≤ W11.heap.size) := Lib.hid (Nat.le_trans HT10_.out hg.size)
                                have HG11_ : Hid (BxV W11 W3.heap.size [.int .i64 0, .int .i64 0, .int .i64 0, .int .i64 0]) := Lib.hid (HG10_.out.grown hg (by have := HGT.out; have := HB4.out; simp; omega))
                                clear hc hg HS10_ HT10_ HG10_
                                (try go_wp2_with fail)
                                refine hK.out _ _ ?_ (fun hHeld => ?_)
                                · exact HS11_.out.f1
                                · clear hK K
                                  (try simp only [Act.put, List.setIfInBounds_toArray, List.set_cons_zero, List.set_cons_succ, List.getElem_toArray, List.getElem_cons_succ, List.getElem_cons_zero])
                                  refine wpAnyH_take (i := 10) (v := ?_) rfl (by kernel_rfl) (by kernel_rfl) (by kernel_rfl) (fun _ _ _ h => h) (Or.inl ⟨by rfl, ?_⟩) (by assumption) ?_
                                  rotate_left
                                  · (intro w hSw; (try dsimp only at hSw); go_simp; first | done | with_reducible rfl)
                                  (try simp only [Act.put, List.setIfInBounds_toArray, List.set_cons_zero, List.set_cons_succ, List.getElem_toArray, List.getElem_cons_succ, List.getElem_cons_zero])
                                  refine wpAnyH_take (i := 11) (v := ?_) rfl (by kernel_rfl) (by kernel_rfl) (by kernel_rfl) (fun _ _ _ h => h) (Or.inl ⟨by rfl, ?_⟩) (by assumption) ?_
                                  rotate_left
                                  · (intro w hSw; (try dsimp only at hSw); go_simp; first | done | with_reducible rfl)
                                  (try simp only [Act.put, List.setIfInBounds_toArray, List.set_cons_zero, List.set_cons_succ, List.getElem_toArray, List.getElem_cons_succ, List.getElem_cons_zero])
                                  have q1 : w.heap.size ≤ W3.heap.size := by have := HGT.out; have := HB4.out; omega
                                  have q2 : F < W3.heap.size := by have := HGT.out; have := HB4.out; omega
                                  have q3 : g ≠ W3.heap.size := by have := HGT.out; have := HB4.out; omega
                                  have q4 : w4.heap.size ≤ W3.heap.size := HGT.out
                                  have z0 := HG11_.out.cell 0
                                  have z1 := HG11_.out.cell 1
                                  have z2 := HG11_.out.cell 2
                                  have z3 := HG11_.out.cell 3
                                  have y0 := HG11_.out.frozen 0
                                  have y1 := HG11_.out.frozen 1
                                  have y2 := HG11_.out.frozen 2
                                  have y3 := HG11_.out.frozen 3
                                  simp at z0 z1 z2 z3
                                  have HF9 := Lib.hid (SSt.put (G := W3.heap.size) (j := 3) (x := .int .i64 (1 + p)) (SSt.put (G := W3.heap.size) (j := 2) (x := .int .i64 dy) (SSt.put (G := W3.heap.size) (j := 1) (x := .int .i64 ev) (SSt.put (G := W3.heap.size) (j := 0) (x := .int .i64 x1) HS11_.out q1 hlt q2 q3 q4) q1 hlt q2 q3 q4) q1 hlt q2 q3 q4) q1 hlt q2 q3 q4)
                                  have HB9 := Lib.hid (BxV.set (cs' := [.int .i64 x1, .int .i64 ev, .int .i64 dy, .int .i64 (1 + p)]) 3 (.int .i64 (1 + p)) (BxV.set (cs' := [.int .i64 x1, .int .i64 ev, .int .i64 dy, .int .i64 0]) 2 (.int .i64 dy) (BxV.set (cs' := [.int .i64 x1, .int .i64 ev, .int .i64 0, .int .i64 0]) 1 (.int .i64 ev) (BxV.set (cs' := [.int .i64 x1, .int .i64 0, .int .i64 0, .int .i64 0]) 0 (.int .i64 x1) HG11_.out rfl) rfl) rfl) rfl)
                                  refine wpAnyH_ready (rs := [13]) (by kernel_rfl) (by simp) ?_
                                  refine AllReadyH.cons rfl (fun K hK => ?_) AllReadyH.nil
                                  go_simp
                                  refine hK.out _ _ ?_ (fun hHeld => ?_)
                                  · exact HF9.out.f1
                                  · clear hK K
                                    (try simp only [Act.put, List.setIfInBounds_toArray, List.set_cons_zero, List.set_cons_succ, List.getElem_toArray, List.getElem_cons_succ, List.getElem_cons_zero])
                                    refine wpAnyH_done (by kernel_rfl) ?_ _
                                    (try go_wp2_with fail)
                                    go_meet
                                    exact ⟨_, ev, dy, p, rfl, bev, bdy, ⟨hp0, hp1⟩, q2, q4, HF9, HB9⟩
                  · go_simp
                    refine hK.out _ _ ?_ (fun hHeld => ?_)
                    · exact (HS2_.out.al _).f1
                    · clear hK K hHeld
                      (try simp only [Act.put, List.setIfInBounds_toArray, List.set_cons_zero, List.set_cons_succ, List.getElem_toArray, List.getElem_cons_succ, List.getElem_cons_zero])
                      refine gen_al (W := W2) ?_
                      intro W12 hWn
                      have HS12_ := Lib.hid (by rw [hWn]; exact HS2_.out.al _ : SSt w W12 B (M + 2) F lo hi x0 x1 x2 g c xs u5 t w4.heap.size)
                      have HT12_ : Hid (w4.heap.size ≤ W12.heap.size) := Lib.hid (by rw [hWn]; exact Nat.le_trans HT2_.out (by simp))
                      have HG12_ : Hid (BxV W12 W2.heap.size [.int .i64 0, .int .i64 0, .int .i64 0, .int .i64 0]) := Lib.hid (by rw [hWn]; exact BxV.new W2 _ _)
                      have HGT : Hid (w4.heap.size ≤ W2.heap.size) := HT2_
                      have hHeld : (fun w' : World => w'.cell? ⟨F, 1, none⟩ = some (.int .i64 x1)) W12 := HS12_.out.f1
                      clear hWn HS2_ HT2_
                      refine wpAnyH_ready (rs := [6]) (by kernel_rfl) (by simp) ?_
                      refine AllReadyH.cons rfl (fun K hK => ?_) AllReadyH.nil
                      · go_simp
                        refine hK.out _ _ ?_ (fun hHeld => ?_)
                        · exact (HS12_.out.al _).f1
                        · clear hK K hHeld
                          (try simp only [Act.put, List.setIfInBounds_toArray, List.set_cons_zero, List.set_cons_succ, List.getElem_toArray, List.getElem_cons_succ, List.getElem_cons_zero])
                          refine gen_al (W := W12) ?_
                          intro W13 hWn
                          have HS13_ := Lib.hid (by rw [hWn]; exact HS12_.out.al _ : SSt w W13 B (M + 2) F lo hi x0 x1 x2 g c xs u5 t w4.heap.size)
                          have HT13_ : Hid (w4.heap.size ≤ W13.heap.size) := Lib.hid (by rw [hWn]; exact Nat.le_trans HT12_.out (by simp))
                          have HG13_ : Hid (BxV W13 W2.heap.size [.int .i64 0, .int .i64 0, .int .i64 0, .int .i64 0]) := Lib.hid (by rw [hWn]; exact HG12_.out.al _)
                          have HL13_6 : Hid (NL W13 W12.heap.size [0, 30, 365, 1000]) := Lib.hid (by rw [hWn]; exact new_nums W12 [0, 30, 365, 1000] 3 _ rfl)
                          have HN13_6 : Hid (W12.heap.size ≠ B) := Lib.hid (by have := HS12_.out.dk.cur.lt; omega)
                          have hHeld : (fun w' : World => w'.cell? ⟨F, 1, none⟩ = some (.int .i64 x1)) W13 := HS13_.out.f1
                          clear hWn HS12_ HT12_ HG12_
                          refine wpAnyH_ready (rs := [7]) (by kernel_rfl) (by simp) ?_
                          refine AllReadyH.cons rfl (fun K hK => ?_) AllReadyH.nil
                          · go_simp
                            go_at_call 77
                            refine (amongZ_any B (M + 2) W12.heap.size 0 4 4 [0, 30, 365, 1000] _ HS13_.out.dk.cur (by omega) rfl (by omega) (by omega) HN13_6.out HL13_6.out).mono ?_
                            rintro e W14 ⟨dy, rfl, mdy, hc, hg⟩
                            have bdy : 0 ≤ dy ∧ dy ≤ 1000 := by simp at mdy; omega
                            clear mdy
                            have HS14_ := Lib.hid (HS13_.out.step hlt hwF hBlo hc hg)
                            have HT14_ : Hid (w4.heap.size ≤ W14.heap.size) := Lib.hid (Nat.le_trans HT13_.out hg.size)
                            have HG14_ : Hid (BxV W14 W2.heap.size [.int .i64 0, .int .i64 0, .int .i64 0, .int .i64 0]) := Lib.hid (HG13_.out.grown hg (by have := HGT.out; have := HB4.out; simp; omega))
                            clear hc hg HS13_ HT13_ HL13_6 HG13_
                            (try go_wp2_with fail)
                            refine hK.out _ _ ?_ (fun hHeld => ?_)
                            · exact HS14_.out.f1
                            · clear hK K
                              (try simp only [Act.put, List.setIfInBounds_toArray, List.set_cons_zero, List.set_cons_succ, List.getElem_toArray, List.getElem_cons_succ, List.getElem_cons_zero])
                              refine wpAnyH_ready (rs := [9]) (by kernel_rfl) (by simp) ?_
                              refine AllReadyH.cons rfl (fun K hK => ?_) AllReadyH.nil
                              · go_simp
                                go_at_call 81
                                refine (pick_any B (M + 4) 3 _ HS14_.out.dk.cur (by omega) (by omega) (by omega)).mono ?_
                                rintro e W15 ⟨p, rfl, hp0, hp1, hc, hg⟩
                                have hwp : IntKind.i64.wrap (1 + p) = 1 + p := Go.IntWalk.i64_in _ (by omega)
                                have HS15_ := Lib.hid (HS14_.out.step hlt hwF hBlo hc hg)
                                have HT15_ : Hid (w4.heap.size ≤ W15.heap.size) := Lib.hid (Nat.le_trans HT14_.out hg.size)
                                have HG15_ : Hid (BxV W15 W2.heap.size [.int .i64 0, .int .i64 0, .int .i64 0, .int .i64 0]) := Lib.hid (HG14_.out.grown hg (by have := HGT.out; have := HB4.out; simp; omega))
                                clear hc hg HS14_ HT14_ HG14_
                                (try go_wp2_with fail)
                                refine hK.out _ _ ?_ (fun hHeld => ?_)
                                · exact HS15_.out.f1
                                · clear hK K
                                  (try simp only [Act.put, List.setIfInBounds_toArray, List.set_cons_zero, List.set_cons_succ, List.getElem_toArray, List.getElem_cons_succ, List.getElem_cons_zero])
                                  refine wpAnyH_take (i := 10) (v := ?_) rfl (by kernel_rfl) (by kernel_rfl) (by kernel_rfl) (fun _ _ _ h => h) (Or.inl ⟨by rfl, ?_⟩) (by assumption) ?_
                                  rotate_left
                                  · (intro w hSw; (try dsimp only at hSw); go_simp; first | done | with_reducible rfl)
                                  (try simp only [Act.put, List.setIfInBounds_toArray, List.set_cons_zero, List.set_cons_succ, List.getElem_toArray, List.getElem_cons_succ, List.getElem_cons_zero])
                                  refine wpAnyH_take (i := 11) (v := ?_) rfl (by kernel_rfl) (by kernel_rfl) (by kernel_rfl) (fun _ _ _ h => h) (Or.inl ⟨by rfl, ?_⟩) (by assumption) ?_
                                  rotate_left
                                  · (intro w hSw; (try dsimp only at hSw); go_simp; first | done | with_reducible rfl)
                                  (try simp only [Act.put, List.setIfInBounds_toArray, List.set_cons_zero, List.set_cons_succ, List.getElem_toArray, List.getElem_cons_succ, List.getElem_cons_zero])
                                  have q1 : w.heap.size ≤ W2.heap.size := by have := HGT.out; have := HB4.out; omega
                                  have q2 : F < W2.heap.size := by have := HGT.out; have := HB4.out; omega
                                  have q3 : g ≠ W2.heap.size := by have := HGT.out; have := HB4.out; omega
                                  have q4 : w4.heap.size ≤ W2.heap.size := HGT.out
                                  have z0 := HG15_.out.cell 0
                                  have z1 := HG15_.out.cell 1
                                  have z2 := HG15_.out.cell 2
                                  have z3 := HG15_.out.cell 3
                                  have y0 := HG15_.out.frozen 0
                                  have y1 := HG15_.out.frozen 1
                                  have y2 := HG15_.out.frozen 2
                                  have y3 := HG15_.out.frozen 3
                                  simp at z0 z1 z2 z3
                                  have HF9 := Lib.hid (SSt.put (G := W2.heap.size) (j := 3) (x := .int .i64 (1 + p)) (SSt.put (G := W2.heap.size) (j := 2) (x := .int .i64 dy) (SSt.put (G := W2.heap.size) (j := 1) (x := .int .i64 ev) (SSt.put (G := W2.heap.size) (j := 0) (x := .int .i64 x1) HS15_.out q1 hlt q2 q3 q4) q1 hlt q2 q3 q4) q1 hlt q2 q3 q4) q1 hlt q2 q3 q4)
                                  have HB9 := Lib.hid (BxV.set (cs' := [.int .i64 x1, .int .i64 ev, .int .i64 dy, .int .i64 (1 + p)]) 3 (.int .i64 (1 + p)) (BxV.set (cs' := [.int .i64 x1, .int .i64 ev, .int .i64 dy, .int .i64 0]) 2 (.int .i64 dy) (BxV.set (cs' := [.int .i64 x1, .int .i64 ev, .int .i64 0, .int .i64 0]) 1 (.int .i64 ev) (BxV.set (cs' := [.int .i64 x1, .int .i64 0, .int .i64 0, .int .i64 0]) 0 (.int .i64 x1) HG15_.out rfl) rfl) rfl) rfl)
                                  refine wpAnyH_ready (rs := [13]) (by kernel_rfl) (by simp) ?_
                                  refine AllReadyH.cons rfl (fun K hK => ?_) AllReadyH.nil
                                  go_simp
                                  refine hK.out _ _ ?_ (fun hHeld => ?_)
                                  · exact HF9.out.f1
                                  · clear hK K
                                    (try simp only [Act.put, List.setIfInBounds_toArray, List.set_cons_zero, List.set_cons_succ, List.getElem_toArray, List.getElem_cons_succ, List.getElem_cons_zero])
                                    refine wpAnyH_done (by kernel_rfl) ?_ _
                                    (try go_wp2_with fail)
                                    go_meet
                                    exact ⟨_, ev, dy, p, rfl, bev, bdy, ⟨hp0, hp1⟩, q2, q4, HF9, HB9⟩
              · go_simp
                refine hK.out _ _ ?_ (fun hHeld => ?_)
                · exact (HS1_.out.al _).f1
                · clear hK K hHeld
                  (try simp only [Act.put, List.setIfInBounds_toArray, List.set_cons_zero, List.set_cons_succ, List.getElem_toArray, List.getElem_cons_succ, List.getElem_cons_zero])
                  refine gen_al (W := W1) ?_
                  intro W16 hWn
                  have HS16_ := Lib.hid (by rw [hWn]; exact HS1_.out.al _ : SSt w W16 B (M + 0) F lo hi x0 x1 x2 g c xs u5 t w4.heap.size)
                  have HT16_ : Hid (w4.heap.size ≤ W16.heap.size) := Lib.hid (by rw [hWn]; exact Nat.le_trans HT1_.out (by simp))
                  have HL16_3 : Hid (NL W16 W0.heap.size [0, 0, 1, 2, 3]) := Lib.hid (by rw [hWn]; exact HL1_3.out.al _)
                  have HL16_6 : Hid (NL W16 W1.heap.size [0, 30, 365, 1000]) := Lib.hid (by rw [hWn]; exact new_nums W1 [0, 30, 365, 1000] 3 _ rfl)
                  have HN16_6 : Hid (W1.heap.size ≠ B) := Lib.hid (by have := HS1_.out.dk.cur.lt; omega)
                  have hHeld : (fun w' : World => w'.cell? ⟨F, 1, none⟩ = some (.int .i64 x1)) W16 := HS16_.out.f1
                  clear hWn HS1_ HT1_ HL1_3
                  refine wpAnyH_ready (rs := [4, 12]) (by kernel_rfl) (by simp) ?_
                  refine AllReadyH.cons rfl (fun K hK => ?_) (AllReadyH.cons rfl (fun K hK => ?_) AllReadyH.nil)
                  · go_simp
                    go_at_call 77
                    refine (amongZ_any B (M + 0) W0.heap.size 0 5 5 [0, 0, 1, 2, 3] _ HS16_.out.dk.cur (by omega) rfl (by omega) (by omega) HN1_3.out HL16_3.out).mono ?_
                    rintro e W17 ⟨ev, rfl, mev, hc, hg⟩
                    have bev : 0 ≤ ev ∧ ev ≤ 3 := by simp at mev; omega
                    clear mev
                    have HS17_ := Lib.hid (HS16_.out.step hlt hwF hBlo hc hg)
                    have HT17_ : Hid (w4.heap.size ≤ W17.heap.size) := Lib.hid (Nat.le_trans HT16_.out hg.size)
                    have HL17_6 : Hid (NL W17 W1.heap.size [0, 30, 365, 1000]) := Lib.hid (HL16_6.out.grown hg HN16_6.out)
                    clear hc hg HS16_ HT16_ HL16_3 HL16_6
                    (try go_wp2_with fail)
                    refine hK.out _ _ ?_ (fun hHeld => ?_)
                    · exact HS17_.out.f1
                    · clear hK K
                      (try simp only [Act.put, List.setIfInBounds_toArray, List.set_cons_zero, List.set_cons_succ, List.getElem_toArray, List.getElem_cons_succ, List.getElem_cons_zero])
                      refine wpAnyH_ready (rs := [7, 12]) (by kernel_rfl) (by simp) ?_
                      refine AllReadyH.cons rfl (fun K hK => ?_) (AllReadyH.cons rfl (fun K hK => ?_) AllReadyH.nil)
                      · go_simp
                        go_at_call 77
                        refine (amongZ_any B (M + 2) W1.heap.size 0 4 4 [0, 30, 365, 1000] _ HS17_.out.dk.cur (by omega) rfl (by omega) (by omega) HN16_6.out HL17_6.out).mono ?_
                        rintro e W18 ⟨dy, rfl, mdy, hc, hg⟩
                        have bdy : 0 ≤ dy ∧ dy ≤ 1000 := by simp at mdy; omega
                        clear mdy
                        have HS18_ := Lib.hid (HS17_.out.step hlt hwF hBlo hc hg)
                        have HT18_ : Hid (w4.heap.size ≤ W18.heap.size) := Lib.hid (Nat.le_trans HT17_.out hg.size)
                        clear hc hg HS17_ HT17_ HL17_6
                        (try go_wp2_with fail)
                        refine hK.out _ _ ?_ (fun hHeld => ?_)
                        · exact HS18_.out.f1
                        · clear hK K
                          (try simp only [Act.put, List.setIfInBounds_toArray, List.set_cons_zero, List.set_cons_succ, List.getElem_toArray, List.getElem_cons_succ, List.getElem_cons_zero])
                          refine wpAnyH_ready (rs := [9, 12]) (by kernel_rfl) (by simp) ?_
                          refine AllReadyH.cons rfl (fun K hK => ?_) (AllReadyH.cons rfl (fun K hK => ?_) AllReadyH.nil)
                          · go_simp
                            go_at_call 81
                            refine (pick_any B (M + 4) 3 _ HS18_.out.dk.cur (by omega) (by omega) (by omega)).mono ?_
                            rintro e W19 ⟨p, rfl, hp0, hp1, hc, hg⟩
                            have hwp : IntKind.i64.wrap (1 + p) = 1 + p := Go.IntWalk.i64_in _ (by omega)
                            have HS19_ := Lib.hid (HS18_.out.step hlt hwF hBlo hc hg)
                            have HT19_ : Hid (w4.heap.size ≤ W19.heap.size) := Lib.hid (Nat.le_trans HT18_.out hg.size)
                            clear hc hg HS18_ HT18_
                            (try go_wp2_with fail)
                            refine hK.out _ _ ?_ (fun hHeld => ?_)
                            · exact HS19_.out.f1
                            · clear hK K
                              (try simp only [Act.put, List.setIfInBounds_toArray, List.set_cons_zero, List.set_cons_succ, List.getElem_toArray, List.getElem_cons_succ, List.getElem_cons_zero])
                              refine wpAnyH_take (i := 10) (v := ?_) rfl (by kernel_rfl) (by kernel_rfl) (by kernel_rfl) (fun _ _ _ h => h) (Or.inl ⟨by rfl, ?_⟩) (by assumption) ?_
                              rotate_left
                              · (intro w hSw; (try dsimp only at hSw); go_simp; first | done | with_reducible rfl)
                              (try simp only [Act.put, List.setIfInBounds_toArray, List.set_cons_zero, List.set_cons_succ, List.getElem_toArray, List.getElem_cons_succ, List.getElem_cons_zero])
                              refine wpAnyH_take (i := 11) (v := ?_) rfl (by kernel_rfl) (by kernel_rfl) (by kernel_rfl) (fun _ _ _ h => h) (Or.inl ⟨by rfl, ?_⟩) (by assumption) ?_
                              rotate_left
                              · (intro w hSw; (try dsimp only at hSw); go_simp; first | done | with_reducible rfl)
                              (try simp only [Act.put, List.setIfInBounds_toArray, List.set_cons_zero, List.set_cons_succ, List.getElem_toArray, List.getElem_cons_succ, List.getElem_cons_zero])
                              refine wpAnyH_ready (rs := [12]) (by kernel_rfl) (by simp) ?_
                              refine AllReadyH.cons rfl (fun K hK => ?_) AllReadyH.nil
                              · go_simp
                                refine hK.out _ _ ?_ (fun hHeld => ?_)
                                · exact (HS19_.out.al _).f1
                                · clear hK K hHeld
                                  (try simp only [Act.put, List.setIfInBounds_toArray, List.set_cons_zero, List.set_cons_succ, List.getElem_toArray, List.getElem_cons_succ, List.getElem_cons_zero])
                                  refine gen_al (W := W19) ?_
                                  intro W20 hWn
                                  have HS20_ := Lib.hid (by rw [hWn]; exact HS19_.out.al _ : SSt w W20 B (M + 6) F lo hi x0 x1 x2 g c xs u5 t w4.heap.size)
                                  have HT20_ : Hid (w4.heap.size ≤ W20.heap.size) := Lib.hid (by rw [hWn]; exact Nat.le_trans HT19_.out (by simp))
                                  have HG20_ : Hid (BxV W20 W19.heap.size [.int .i64 0, .int .i64 0, .int .i64 0, .int .i64 0]) := Lib.hid (by rw [hWn]; exact BxV.new W19 _ _)
                                  have HGT : Hid (w4.heap.size ≤ W19.heap.size) := HT19_
                                  have hHeld : (fun w' : World => w'.cell? ⟨F, 1, none⟩ = some (.int .i64 x1)) W20 := HS20_.out.f1
                                  clear hWn HS19_ HT19_
                                  have q1 : w.heap.size ≤ W19.heap.size := by have := HGT.out; have := HB4.out; omega
                                  have q2 : F < W19.heap.size := by have := HGT.out; have := HB4.out; omega
                                  have q3 : g ≠ W19.heap.size := by have := HGT.out; have := HB4.out; omega
                                  have q4 : w4.heap.size ≤ W19.heap.size := HGT.out
                                  have z0 := HG20_.out.cell 0
                                  have z1 := HG20_.out.cell 1
                                  have z2 := HG20_.out.cell 2
                                  have z3 := HG20_.out.cell 3
                                  have y0 := HG20_.out.frozen 0
                                  have y1 := HG20_.out.frozen 1
                                  have y2 := HG20_.out.frozen 2
                                  have y3 := HG20_.out.frozen 3
                                  simp at z0 z1 z2 z3
                                  have HF9 := Lib.hid (SSt.put (G := W19.heap.size) (j := 3) (x := .int .i64 (1 + p)) (SSt.put (G := W19.heap.size) (j := 2) (x := .int .i64 dy) (SSt.put (G := W19.heap.size) (j := 1) (x := .int .i64 ev) (SSt.put (G := W19.heap.size) (j := 0) (x := .int .i64 x1) HS20_.out q1 hlt q2 q3 q4) q1 hlt q2 q3 q4) q1 hlt q2 q3 q4) q1 hlt q2 q3 q4)
                                  have HB9 := Lib.hid (BxV.set (cs' := [.int .i64 x1, .int .i64 ev, .int .i64 dy, .int .i64 (1 + p)]) 3 (.int .i64 (1 + p)) (BxV.set (cs' := [.int .i64 x1, .int .i64 ev, .int .i64 dy, .int .i64 0]) 2 (.int .i64 dy) (BxV.set (cs' := [.int .i64 x1, .int .i64 ev, .int .i64 0, .int .i64 0]) 1 (.int .i64 ev) (BxV.set (cs' := [.int .i64 x1, .int .i64 0, .int .i64 0, .int .i64 0]) 0 (.int .i64 x1) HG20_.out rfl) rfl) rfl) rfl)
                                  refine wpAnyH_ready (rs := [13]) (by kernel_rfl) (by simp) ?_
                                  refine AllReadyH.cons rfl (fun K hK => ?_) AllReadyH.nil
                                  go_simp
                                  refine hK.out _ _ ?_ (fun hHeld => ?_)
                                  · exact HF9.out.f1
                                  · clear hK K
                                    (try simp only [Act.put, List.setIfInBounds_toArray, List.set_cons_zero, List.set_cons_succ, List.getElem_toArray, List.getElem_cons_succ, List.getElem_cons_zero])
                                    refine wpAnyH_done (by kernel_rfl) ?_ _
                                    (try go_wp2_with fail)
                                    go_meet
                                    exact ⟨_, ev, dy, p, rfl, bev, bdy, ⟨hp0, hp1⟩, q2, q4, HF9, HB9⟩
                          · go_simp
                            refine hK.out _ _ ?_ (fun hHeld => ?_)
                            · exact (HS18_.out.al _).f1
                            · clear hK K hHeld
                              (try simp only [Act.put, List.setIfInBounds_toArray, List.set_cons_zero, List.set_cons_succ, List.getElem_toArray, List.getElem_cons_succ, List.getElem_cons_zero])
                              refine gen_al (W := W18) ?_
                              intro W21 hWn
                              have HS21_ := Lib.hid (by rw [hWn]; exact HS18_.out.al _ : SSt w W21 B (M + 4) F lo hi x0 x1 x2 g c xs u5 t w4.heap.size)
                              have HT21_ : Hid (w4.heap.size ≤ W21.heap.size) := Lib.hid (by rw [hWn]; exact Nat.le_trans HT18_.out (by simp))
                              have HG21_ : Hid (BxV W21 W18.heap.size [.int .i64 0, .int .i64 0, .int .i64 0, .int .i64 0]) := Lib.hid (by rw [hWn]; exact BxV.new W18 _ _)
                              have HGT : Hid (w4.heap.size ≤ W18.heap.size) := HT18_
                              have hHeld : (fun w' : World => w'.cell? ⟨F, 1, none⟩ = some (.int .i64 x1)) W21 := HS21_.out.f1
                              clear hWn HS18_ HT18_
                              refine wpAnyH_ready (rs := [9]) (by kernel_rfl) (by simp) ?_
                              refine AllReadyH.cons rfl (fun K hK => ?_) AllReadyH.nil
                              · go_simp
                                go_at_call 81
                                refine (pick_any B (M + 4) 3 _ HS21_.out.dk.cur (by omega) (by omega) (by omega)).mono ?_
                                rintro e W22 ⟨p, rfl, hp0, hp1, hc, hg⟩
                                have hwp : IntKind.i64.wrap (1 + p) = 1 + p := Go.IntWalk.i64_in _ (by omega)
                                have HS22_ := Lib.hid (HS21_.out.step hlt hwF hBlo hc hg)
                                have HT22_ : Hid (w4.heap.size ≤ W22.heap.size) := Lib.hid (Nat.le_trans HT21_.out hg.size)
                                have HG22_ : Hid (BxV W22 W18.heap.size [.int .i64 0, .int .i64 0, .int .i64 0, .int .i64 0]) := Lib.hid (HG21_.out.grown hg (by have := HGT.out; have := HB4.out; simp; omega))
                                clear hc hg HS21_ HT21_ HG21_
                                (try go_wp2_with fail)
                                refine hK.out _ _ ?_ (fun hHeld => ?_)
                                · exact HS22_.out.f1
                                · clear hK K
                                  (try simp only [Act.put, List.setIfInBounds_toArray, List.set_cons_zero, List.set_cons_succ, List.getElem_toArray, List.getElem_cons_succ, List.getElem_cons_zero])
                                  refine wpAnyH_take (i := 10) (v := ?_) rfl (by kernel_rfl) (by kernel_rfl) (by kernel_rfl) (fun _ _ _ h => h) (Or.inl ⟨by rfl, ?_⟩) (by assumption) ?_
                                  rotate_left
                                  · (intro w hSw; (try dsimp only at hSw); go_simp; first | done | with_reducible rfl)
                                  (try simp only [Act.put, List.setIfInBounds_toArray, List.set_cons_zero, List.set_cons_succ, List.getElem_toArray, List.getElem_cons_succ, List.getElem_cons_zero])
                                  refine wpAnyH_take (i := 11) (v := ?_) rfl (by kernel_rfl) (by kernel_rfl) (by kernel_rfl) (fun _ _ _ h => h) (Or.inl ⟨by rfl, ?_⟩) (by assumption) ?_
                                  rotate_left
                                  · (intro w hSw; (try dsimp only at hSw); go_simp; first | done | with_reducible rfl)
                                  (try simp only [Act.put, List.setIfInBounds_toArray, List.set_cons_zero, List.set_cons_succ, List.getElem_toArray, List.getElem_cons_succ, List.getElem_cons_zero])
                                  have q1 : w.heap.size ≤ W18.heap.size := by have := HGT.out; have := HB4.out; omega
                                  have q2 : F < W18.heap.size := by have := HGT.out; have := HB4.out; omega
                                  have q3 : g ≠ W18.heap.size := by have := HGT.out; have := HB4.out; omega
                                  have q4 : w4.heap.size ≤ W18.heap.size := HGT.out
                                  have z0 := HG22_.out.cell 0
                                  have z1 := HG22_.out.cell 1
                                  have z2 := HG22_.out.cell 2
                                  have z3 := HG22_.out.cell 3
                                  have y0 := HG22_.out.frozen 0
                                  have y1 := HG22_.out.frozen 1
                                  have y2 := HG22_.out.frozen 2
                                  have y3 := HG22_.out.frozen 3
                                  simp at z0 z1 z2 z3
                                  have HF9 := Lib.hid (SSt.put (G := W18.heap.size) (j := 3) (x := .int .i64 (1 + p)) (SSt.put (G := W18.heap.size) (j := 2) (x := .int .i64 dy) (SSt.put (G := W18.heap.size) (j := 1) (x := .int .i64 ev) (SSt.put (G := W18.heap.size) (j := 0) (x := .int .i64 x1) HS22_.out q1 hlt q2 q3 q4) q1 hlt q2 q3 q4) q1 hlt q2 q3 q4) q1 hlt q2 q3 q4)
                                  have HB9 := Lib.hid (BxV.set (cs' := [.int .i64 x1, .int .i64 ev, .int .i64 dy, .int .i64 (1 + p)]) 3 (.int .i64 (1 + p)) (BxV.set (cs' := [.int .i64 x1, .int .i64 ev, .int .i64 dy, .int .i64 0]) 2 (.int .i64 dy) (BxV.set (cs' := [.int .i64 x1, .int .i64 ev, .int .i64 0, .int .i64 0]) 1 (.int .i64 ev) (BxV.set (cs' := [.int .i64 x1, .int .i64 0, .int .i64 0, .int .i64 0]) 0 (.int .i64 x1) HG22_.out rfl) rfl) rfl) rfl)
                                  refine wpAnyH_ready (rs := [13]) (by kernel_rfl) (by simp) ?_
                                  refine AllReadyH.cons rfl (fun K hK => ?_) AllReadyH.nil
                                  go_simp
                                  refine hK.out _ _ ?_ (fun hHeld => ?_)
                                  · exact HF9.out.f1
                                  · clear hK K
                                    (try simp only [Act.put, List.setIfInBounds_toArray, List.set_cons_zero, List.set_cons_succ, List.getElem_toArray, List.getElem_cons_succ, List.getElem_cons_zero])
                                    refine wpAnyH_done (by kernel_rfl) ?_ _
                                    (try go_wp2_with fail)
                                    go_meet
                                    exact ⟨_, ev, dy, p, rfl, bev, bdy, ⟨hp0, hp1⟩, q2, q4, HF9, HB9⟩
                      · go_simp
                        refine hK.out _ _ ?_ (fun hHeld => ?_)
                        · exact (HS17_.out.al _).f1
                        · clear hK K hHeld
                          (try simp only [Act.put, List.setIfInBounds_toArray, List.set_cons_zero, List.set_cons_succ, List.getElem_toArray, List.getElem_cons_succ, List.getElem_cons_zero])
                          refine gen_al (W := W17) ?_
                          intro W23 hWn
                          have HS23_ := Lib.hid (by rw [hWn]; exact HS17_.out.al _ : SSt w W23 B (M + 2) F lo hi x0 x1 x2 g c xs u5 t w4.heap.size)
                          have HT23_ : Hid (w4.heap.size ≤ W23.heap.size) := Lib.hid (by rw [hWn]; exact Nat.le_trans HT17_.out (by simp))
                          have HL23_6 : Hid (NL W23 W1.heap.size [0, 30, 365, 1000]) := Lib.hid (by rw [hWn]; exact HL17_6.out.al _)
                          have HG23_ : Hid (BxV W23 W17.heap.size [.int .i64 0, .int .i64 0, .int .i64 0, .int .i64 0]) := Lib.hid (by rw [hWn]; exact BxV.new W17 _ _)
                          have HGT : Hid (w4.heap.size ≤ W17.heap.size) := HT17_
                          have hHeld : (fun w' : World => w'.cell? ⟨F, 1, none⟩ = some (.int .i64 x1)) W23 := HS23_.out.f1
                          clear hWn HS17_ HT17_ HL17_6
                          refine wpAnyH_ready (rs := [7]) (by kernel_rfl) (by simp) ?_
                          refine AllReadyH.cons rfl (fun K hK => ?_) AllReadyH.nil
                          · go_simp
                            go_at_call 77
                            refine (amongZ_any B (M + 2) W1.heap.size 0 4 4 [0, 30, 365, 1000] _ HS23_.out.dk.cur (by omega) rfl (by omega) (by omega) HN16_6.out HL23_6.out).mono ?_
                            rintro e W24 ⟨dy, rfl, mdy, hc, hg⟩
                            have bdy : 0 ≤ dy ∧ dy ≤ 1000 := by simp at mdy; omega
                            clear mdy
                            have HS24_ := Lib.hid (HS23_.out.step hlt hwF hBlo hc hg)
                            have HT24_ : Hid (w4.heap.size ≤ W24.heap.size) := Lib.hid (Nat.le_trans HT23_.out hg.size)
                            have HG24_ : Hid (BxV W24 W17.heap.size [.int .i64 0, .int .i64 0, .int .i64 0, .int .i64 0]) := Lib.hid (HG23_.out.grown hg (by have := HGT.out; have := HB4.out; simp; omega))
                            clear hc hg HS23_ HT23_ HL23_6 HG23_
                            (try go_wp2_with fail)
                            refine hK.out _ _ ?_ (fun hHeld => ?_)
                            · exact HS24_.out.f1
                            · clear hK K
                              (try simp only [Act.put, List.setIfInBounds_toArray, List.set_cons_zero, List.set_cons_succ, List.getElem_toArray, List.getElem_cons_succ, List.getElem_cons_zero])
                              refine wpAnyH_ready (rs := [9]) (by kernel_rfl) (by simp) ?_
                              refine AllReadyH.cons rfl (fun K hK => ?_) AllReadyH.nil
                              · go_simp
                                go_at_call 81
                                refine (pick_any B (M + 4) 3 _ HS24_.out.dk.cur (by omega) (by omega) (by omega)).mono ?_
                                rintro e W25 ⟨p, rfl, hp0, hp1, hc, hg⟩
                                have hwp : IntKind.i64.wrap (1 + p) = 1 + p := Go.IntWalk.i64_in _ (by omega)
                                have HS25_ := Lib.hid (HS24_.out.step hlt hwF hBlo hc hg)
                                have HT25_ : Hid (w4.heap.size ≤ W25.heap.size) := Lib.hid (Nat.le_trans HT24_.out hg.size)
                                have HG25_ : Hid (BxV W25 W17.heap.size [.int .i64 0, .int .i64 0, .int .i64 0, .int .i64 0]) := Lib.hid (HG24_.out.grown hg (by have := HGT.out; have := HB4.out; simp; omega))
                                clear hc hg HS24_ HT24_ HG24_
                                (try go_wp2_with fail)
                                refine hK.out _ _ ?_ (fun hHeld => ?_)
                                · exact HS25_.out.f1
                                · clear hK K
                                  (try simp only [Act.put, List.setIfInBounds_toArray, List.set_cons_zero, List.set_cons_succ, List.getElem_toArray, List.getElem_cons_succ, List.getElem_cons_zero])
                                  refine wpAnyH_take (i := 10) (v := ?_) rfl (by kernel_rfl) (by kernel_rfl) (by kernel_rfl) (fun _ _ _ h => h) (Or.inl ⟨by rfl, ?_⟩) (by assumption) ?_
                                  rotate_left
                                  · (intro w hSw; (try dsimp only at hSw); go_simp; first | done | with_reducible rfl)
                                  (try simp only [Act.put, List.setIfInBounds_toArray, List.set_cons_zero, List.set_cons_succ, List.getElem_toArray, List.getElem_cons_succ, List.getElem_cons_zero])
                                  refine wpAnyH_take (i := 11) (v := ?_) rfl (by kernel_rfl) (by kernel_rfl) (by kernel_rfl) (fun _ _ _ h => h) (Or.inl ⟨by rfl, ?_⟩) (by assumption) ?_
                                  rotate_left
                                  · (intro w hSw; (try dsimp only at hSw); go_simp; first | done | with_reducible rfl)
                                  (try simp only [Act.put, List.setIfInBounds_toArray, List.set_cons_zero, List.set_cons_succ, List.getElem_toArray, List.getElem_cons_succ, List.getElem_cons_zero])
                                  have q1 : w.heap.size ≤ W17.heap.size := by have := HGT.out; have := HB4.out; omega
                                  have q2 : F < W17.heap.size := by have := HGT.out; have := HB4.out; omega
                                  have q3 : g ≠ W17.heap.size := by have := HGT.out; have := HB4.out; omega
                                  have q4 : w4.heap.size ≤ W17.heap.size := HGT.out
                                  have z0 := HG25_.out.cell 0
                                  have z1 := HG25_.out.cell 1
                                  have z2 := HG25_.out.cell 2
                                  have z3 := HG25_.out.cell 3
                                  have y0 := HG25_.out.frozen 0
                                  have y1 := HG25_.out.frozen 1
                                  have y2 := HG25_.out.frozen 2
                                  have y3 := HG25_.out.frozen 3
                                  simp at z0 z1 z2 z3
                                  have HF9 := Lib.hid (SSt.put (G := W17.heap.size) (j := 3) (x := .int .i64 (1 + p)) (SSt.put (G := W17.heap.size) (j := 2) (x := .int .i64 dy) (SSt.put (G := W17.heap.size) (j := 1) (x := .int .i64 ev) (SSt.put (G := W17.heap.size) (j := 0) (x := .int .i64 x1) HS25_.out q1 hlt q2 q3 q4) q1 hlt q2 q3 q4) q1 hlt q2 q3 q4) q1 hlt q2 q3 q4)
                                  have HB9 := Lib.hid (BxV.set (cs' := [.int .i64 x1, .int .i64 ev, .int .i64 dy, .int .i64 (1 + p)]) 3 (.int .i64 (1 + p)) (BxV.set (cs' := [.int .i64 x1, .int .i64 ev, .int .i64 dy, .int .i64 0]) 2 (.int .i64 dy) (BxV.set (cs' := [.int .i64 x1, .int .i64 ev, .int .i64 0, .int .i64 0]) 1 (.int .i64 ev) (BxV.set (cs' := [.int .i64 x1, .int .i64 0, .int .i64 0, .int .i64 0]) 0 (.int .i64 x1) HG25_.out rfl) rfl) rfl) rfl)
                                  refine wpAnyH_ready (rs := [13]) (by kernel_rfl) (by simp) ?_
                                  refine AllReadyH.cons rfl (fun K hK => ?_) AllReadyH.nil
                                  go_simp
                                  refine hK.out _ _ ?_ (fun hHeld => ?_)
                                  · exact HF9.out.f1
                                  · clear hK K
                                    (try simp only [Act.put, List.setIfInBounds_toArray, List.set_cons_zero, List.set_cons_succ, List.getElem_toArray, List.getElem_cons_succ, List.getElem_cons_zero])
                                    refine wpAnyH_done (by kernel_rfl) ?_ _
                                    (try go_wp2_with fail)
                                    go_meet
                                    exact ⟨_, ev, dy, p, rfl, bev, bdy, ⟨hp0, hp1⟩, q2, q4, HF9, HB9⟩
                  · go_simp
                    refine hK.out _ _ ?_ (fun hHeld => ?_)
                    · exact (HS16_.out.al _).f1
                    · clear hK K hHeld
                      (try simp only [Act.put, List.setIfInBounds_toArray, List.set_cons_zero, List.set_cons_succ, List.getElem_toArray, List.getElem_cons_succ, List.getElem_cons_zero])
                      refine gen_al (W := W16) ?_
                      intro W26 hWn
                      have HS26_ := Lib.hid (by rw [hWn]; exact HS16_.out.al _ : SSt w W26 B (M + 0) F lo hi x0 x1 x2 g c xs u5 t w4.heap.size)
                      have HT26_ : Hid (w4.heap.size ≤ W26.heap.size) := Lib.hid (by rw [hWn]; exact Nat.le_trans HT16_.out (by simp))
                      have HL26_3 : Hid (NL W26 W0.heap.size [0, 0, 1, 2, 3]) := Lib.hid (by rw [hWn]; exact HL16_3.out.al _)
                      have HL26_6 : Hid (NL W26 W1.heap.size [0, 30, 365, 1000]) := Lib.hid (by rw [hWn]; exact HL16_6.out.al _)
                      have HG26_ : Hid (BxV W26 W16.heap.size [.int .i64 0, .int .i64 0, .int .i64 0, .int .i64 0]) := Lib.hid (by rw [hWn]; exact BxV.new W16 _ _)
                      have HGT : Hid (w4.heap.size ≤ W16.heap.size) := HT16_
                      have hHeld : (fun w' : World => w'.cell? ⟨F, 1, none⟩ = some (.int .i64 x1)) W26 := HS26_.out.f1
                      clear hWn HS16_ HT16_ HL16_3 HL16_6
                      refine wpAnyH_ready (rs := [4]) (by kernel_rfl) (by simp) ?_
                      refine AllReadyH.cons rfl (fun K hK => ?_) AllReadyH.nil
                      · go_simp
                        go_at_call 77
                        refine (amongZ_any B (M + 0) W0.heap.size 0 5 5 [0, 0, 1, 2, 3] _ HS26_.out.dk.cur (by omega) rfl (by omega) (by omega) HN1_3.out HL26_3.out).mono ?_
                        rintro e W27 ⟨ev, rfl, mev, hc, hg⟩
                        have bev : 0 ≤ ev ∧ ev ≤ 3 := by simp at mev; omega
                        clear mev
                        have HS27_ := Lib.hid (HS26_.out.step hlt hwF hBlo hc hg)
                        have HT27_ : Hid (w4.heap.size ≤ W27.heap.size) := Lib.hid (Nat.le_trans HT26_.out hg.size)
                        have HL27_6 : Hid (NL W27 W1.heap.size [0, 30, 365, 1000]) := Lib.hid (HL26_6.out.grown hg HN16_6.out)
                        have HG27_ : Hid (BxV W27 W16.heap.size [.int .i64 0, .int .i64 0, .int .i64 0, .int .i64 0]) := Lib.hid (HG26_.out.grown hg (by have := HGT.out; have := HB4.out; simp; omega))
                        clear hc hg HS26_ HT26_ HL26_3 HL26_6 HG26_
                        (try go_wp2_with fail)
                        refine hK.out _ _ ?_ (fun hHeld => ?_)
                        · exact HS27_.out.f1
                        · clear hK K
                          (try simp only [Act.put, List.setIfInBounds_toArray, List.set_cons_zero, List.set_cons_succ, List.getElem_toArray, List.getElem_cons_succ, List.getElem_cons_zero])
                          refine wpAnyH_ready (rs := [7]) (by kernel_rfl) (by simp) ?_
                          refine AllReadyH.cons rfl (fun K hK => ?_) AllReadyH.nil
                          · go_simp
                            go_at_call 77
                            refine (amongZ_any B (M + 2) W1.heap.size 0 4 4 [0, 30, 365, 1000] _ HS27_.out.dk.cur (by omega) rfl (by omega) (by omega) HN16_6.out HL27_6.out).mono ?_
                            rintro e W28 ⟨dy, rfl, mdy, hc, hg⟩
                            have bdy : 0 ≤ dy ∧ dy ≤ 1000 := by simp at mdy; omega
                            clear mdy
                            have HS28_ := Lib.hid (HS27_.out.step hlt hwF hBlo hc hg)
                            have HT28_ : Hid (w4.heap.size ≤ W28.heap.size) := Lib.hid (Nat.le_trans HT27_.out hg.size)
                            have HG28_ : Hid (BxV W28 W16.heap.size [.int .i64 0, .int .i64 0, .int .i64 0, .int .i64 0]) := Lib.hid (HG27_.out.grown hg (by have := HGT.out; have := HB4.out; simp; omega))
                            clear hc hg HS27_ HT27_ HL27_6 HG27_
                            (try go_wp2_with fail)
                            refine hK.out _ _ ?_ (fun hHeld => ?_)
                            · exact HS28_.out.f1
                            · clear hK K
                              (try simp only [Act.put, List.setIfInBounds_toArray, List.set_cons_zero, List.set_cons_succ, List.getElem_toArray, List.getElem_cons_succ, List.getElem_cons_zero])
                              refine wpAnyH_ready (rs := [9]) (by kernel_rfl) (by simp) ?_
                              refine AllReadyH.cons rfl (fun K hK => ?_) AllReadyH.nil
                              · go_simp
                                go_at_call 81
                                refine (pick_any B (M + 4) 3 _ HS28_.out.dk.cur (by omega) (by omega) (by omega)).mono ?_
                                rintro e W29 ⟨p, rfl, hp0, hp1, hc, hg⟩
                                have hwp : IntKind.i64.wrap (1 + p) = 1 + p := Go.IntWalk.i64_in _ (by omega)
                                have HS29_ := Lib.hid (HS28_.out.step hlt hwF hBlo hc hg)
                                have HT29_ : Hid (w4.heap.size ≤ W29.heap.size) := Lib.hid (Nat.le_trans HT28_.out hg.size)
                                have HG29_ : Hid (BxV W29 W16.heap.size [.int .i64 0, .int .i64 0, .int .i64 0, .int .i64 0]) := Lib.hid (HG28_.out.grown hg (by have := HGT.out; have := HB4.out; simp; omega))
                                clear hc hg HS28_ HT28_ HG28_
                                (try go_wp2_with fail)
                                refine hK.out _ _ ?_ (fun hHeld => ?_)
                                · exact HS29_.out.f1
                                · clear hK K
                                  (try simp only [Act.put, List.setIfInBounds_toArray, List.set_cons_zero, List.set_cons_succ, List.getElem_toArray, List.getElem_cons_succ, List.getElem_cons_zero])
                                  refine wpAnyH_take (i := 10) (v := ?_) rfl (by kernel_rfl) (by kernel_rfl) (by kernel_rfl) (fun _ _ _ h => h) (Or.inl ⟨by rfl, ?_⟩) (by assumption) ?_
                                  rotate_left
                                  · (intro w hSw; (try dsimp only at hSw); go_simp; first | done | with_reducible rfl)
                                  (try simp only [Act.put, List.setIfInBounds_toArray, List.set_cons_zero, List.set_cons_succ, List.getElem_toArray, List.getElem_cons_succ, List.getElem_cons_zero])
                                  refine wpAnyH_take (i := 11) (v := ?_) rfl (by kernel_rfl) (by kernel_rfl) (by kernel_rfl) (fun _ _ _ h => h) (Or.inl ⟨by rfl, ?_⟩) (by assumption) ?_
                                  rotate_left
                                  · (intro w hSw; (try dsimp only at hSw); go_simp; first | done | with_reducible rfl)
                                  (try simp only [Act.put, List.setIfInBounds_toArray, List.set_cons_zero, List.set_cons_succ, List.getElem_toArray, List.getElem_cons_succ, List.getElem_cons_zero])
                                  have q1 : w.heap.size ≤ W16.heap.size := by have := HGT.out; have := HB4.out; omega
                                  have q2 : F < W16.heap.size := by have := HGT.out; have := HB4.out; omega
                                  have q3 : g ≠ W16.heap.size := by have := HGT.out; have := HB4.out; omega
                                  have q4 : w4.heap.size ≤ W16.heap.size := HGT.out
                                  have z0 := HG29_.out.cell 0
                                  have z1 := HG29_.out.cell 1
                                  have z2 := HG29_.out.cell 2
                                  have z3 := HG29_.out.cell 3
                                  have y0 := HG29_.out.frozen 0
                                  have y1 := HG29_.out.frozen 1
                                  have y2 := HG29_.out.frozen 2
                                  have y3 := HG29_.out.frozen 3
                                  simp at z0 z1 z2 z3
                                  have HF9 := Lib.hid (SSt.put (G := W16.heap.size) (j := 3) (x := .int .i64 (1 + p)) (SSt.put (G := W16.heap.size) (j := 2) (x := .int .i64 dy) (SSt.put (G := W16.heap.size) (j := 1) (x := .int .i64 ev) (SSt.put (G := W16.heap.size) (j := 0) (x := .int .i64 x1) HS29_.out q1 hlt q2 q3 q4) q1 hlt q2 q3 q4) q1 hlt q2 q3 q4) q1 hlt q2 q3 q4)
                                  have HB9 := Lib.hid (BxV.set (cs' := [.int .i64 x1, .int .i64 ev, .int .i64 dy, .int .i64 (1 + p)]) 3 (.int .i64 (1 + p)) (BxV.set (cs' := [.int .i64 x1, .int .i64 ev, .int .i64 dy, .int .i64 0]) 2 (.int .i64 dy) (BxV.set (cs' := [.int .i64 x1, .int .i64 ev, .int .i64 0, .int .i64 0]) 1 (.int .i64 ev) (BxV.set (cs' := [.int .i64 x1, .int .i64 0, .int .i64 0, .int .i64 0]) 0 (.int .i64 x1) HG29_.out rfl) rfl) rfl) rfl)
                                  refine wpAnyH_ready (rs := [13]) (by kernel_rfl) (by simp) ?_
                                  refine AllReadyH.cons rfl (fun K hK => ?_) AllReadyH.nil
                                  go_simp
                                  refine hK.out _ _ ?_ (fun hHeld => ?_)
                                  · exact HF9.out.f1
                                  · clear hK K
                                    (try simp only [Act.put, List.setIfInBounds_toArray, List.set_cons_zero, List.set_cons_succ, List.getElem_toArray, List.getElem_cons_succ, List.getElem_cons_zero])
                                    refine wpAnyH_done (by kernel_rfl) ?_ _
                                    (try go_wp2_with fail)
                                    go_meet
                                    exact ⟨_, ev, dy, p, rfl, bev, bdy, ⟨hp0, hp1⟩, q2, q4, HF9, HB9⟩
              · go_simp
                refine hK.out _ _ ?_ (fun hHeld => ?_)
                · exact (HS1_.out.al _).f1
                · clear hK K hHeld
                  (try simp only [Act.put, List.setIfInBounds_toArray, List.set_cons_zero, List.set_cons_succ, List.getElem_toArray, List.getElem_cons_succ, List.getElem_cons_zero])
                  refine gen_al (W := W1) ?_
                  intro W30 hWn
                  have HS30_ := Lib.hid (by rw [hWn]; exact HS1_.out.al _ : SSt w W30 B (M + 0) F lo hi x0 x1 x2 g c xs u5 t w4.heap.size)
                  have HT30_ : Hid (w4.heap.size ≤ W30.heap.size) := Lib.hid (by rw [hWn]; exact Nat.le_trans HT1_.out (by simp))
                  have HL30_3 : Hid (NL W30 W0.heap.size [0, 0, 1, 2, 3]) := Lib.hid (by rw [hWn]; exact HL1_3.out.al _)
                  have HG30_ : Hid (BxV W30 W1.heap.size [.int .i64 0, .int .i64 0, .int .i64 0, .int .i64 0]) := Lib.hid (by rw [hWn]; exact BxV.new W1 _ _)
                  have HGT : Hid (w4.heap.size ≤ W1.heap.size) := HT1_
                  have hHeld : (fun w' : World => w'.cell? ⟨F, 1, none⟩ = some (.int .i64 x1)) W30 := HS30_.out.f1
                  clear hWn HS1_ HT1_ HL1_3
                  refine wpAnyH_ready (rs := [4, 6]) (by kernel_rfl) (by simp) ?_
                  refine AllReadyH.cons rfl (fun K hK => ?_) (AllReadyH.cons rfl (fun K hK => ?_) AllReadyH.nil)
                  · go_simp
                    go_at_call 77
                    refine (amongZ_any B (M + 0) W0.heap.size 0 5 5 [0, 0, 1, 2, 3] _ HS30_.out.dk.cur (by omega) rfl (by omega) (by omega) HN1_3.out HL30_3.out).mono ?_
                    rintro e W31 ⟨ev, rfl, mev, hc, hg⟩
                    have bev : 0 ≤ ev ∧ ev ≤ 3 := by simp at mev; omega
                    clear mev
                    have HS31_ := Lib.hid (HS30_.out.step hlt hwF hBlo hc hg)
                    have HT31_ : Hid (w4.heap.size ≤ W31.heap.size) := Lib.hid (Nat.le_trans HT30_.out hg.size)
                    have HG31_ : Hid (BxV W31 W1.heap.size [.int .i64 0, .int .i64 0, .int .i64 0, .int .i64 0]) := Lib.hid (HG30_.out.grown hg (by have := HGT.out; have := HB4.out; simp; omega))
                    clear hc hg HS30_ HT30_ HL30_3 HG30_
                    (try go_wp2_with fail)
                    refine hK.out _ _ ?_ (fun hHeld => ?_)
                    · exact HS31_.out.f1
                    · clear hK K
                      (try simp only [Act.put, List.setIfInBounds_toArray, List.set_cons_zero, List.set_cons_succ, List.getElem_toArray, List.getElem_cons_succ, List.getElem_cons_zero])
                      refine wpAnyH_ready (rs := [6]) (by kernel_rfl) (by simp) ?_
                      refine AllReadyH.cons rfl (fun K hK => ?_) AllReadyH.nil
                      · go_simp
                        refine hK.out _ _ ?_ (fun hHeld => ?_)
                        · exact (HS31_.out.al _).f1
                        · clear hK K hHeld
                          (try simp only [Act.put, List.setIfInBounds_toArray, List.set_cons_zero, List.set_cons_succ, List.getElem_toArray, List.getElem_cons_succ, List.getElem_cons_zero])
                          refine gen_al (W := W31) ?_
                          intro W32 hWn
                          have HS32_ := Lib.hid (by rw [hWn]; exact HS31_.out.al _ : SSt w W32 B (M + 2) F lo hi x0 x1 x2 g c xs u5 t w4.heap.size)
                          have HT32_ : Hid (w4.heap.size ≤ W32.heap.size) := Lib.hid (by rw [hWn]; exact Nat.le_trans HT31_.out (by simp))
                          have HG32_ : Hid (BxV W32 W1.heap.size [.int .i64 0, .int .i64 0, .int .i64 0, .int .i64 0]) := Lib.hid (by rw [hWn]; exact HG31_.out.al _)
                          have HL32_6 : Hid (NL W32 W31.heap.size [0, 30, 365, 1000]) := Lib.hid (by rw [hWn]; exact new_nums W31 [0, 30, 365, 1000] 3 _ rfl)
                          have HN32_6 : Hid (W31.heap.size ≠ B) := Lib.hid (by have := HS31_.out.dk.cur.lt; omega)
                          have hHeld : (fun w' : World => w'.cell? ⟨F, 1, none⟩ = some (.int .i64 x1)) W32 := HS32_.out.f1
                          clear hWn HS31_ HT31_ HG31_
                          refine wpAnyH_ready (rs := [7]) (by kernel_rfl) (by simp) ?_
                          refine AllReadyH.cons rfl (fun K hK => ?_) AllReadyH.nil
                          · go_simp
                            go_at_call 77
                            refine (amongZ_any B (M + 2) W31.heap.size 0 4 4 [0, 30, 365, 1000] _ HS32_.out.dk.cur (by omega) rfl (by omega) (by omega) HN32_6.out HL32_6.out).mono ?_
                            rintro e W33 ⟨dy, rfl, mdy, hc, hg⟩
                            have bdy : 0 ≤ dy ∧ dy ≤ 1000 := by simp at mdy; omega
                            clear mdy
                            have HS33_ := Lib.hid (HS32_.out.step hlt hwF hBlo hc hg)
                            have HT33_ : Hid (w4.heap.size ≤ W33.heap.size) := Lib.hid (Nat.le_trans HT32_.out hg.size)
                            have HG33_ : Hid (BxV W33 W1.heap.size [.int .i64 0, .int .i64 0, .int .i64 0, .int .i64 0]) := Lib.hid (HG32_.out.grown hg (by have := HGT.out; have := HB4.out; simp; omega))
                            clear hc hg HS32_ HT32_ HL32_6 HG32_
                            (try go_wp2_with fail)
                            refine hK.out _ _ ?_ (fun hHeld => ?_)
                            · exact HS33_.out.f1
                            · clear hK K
                              (try simp only [Act.put, List.setIfInBounds_toArray, List.set_cons_zero, List.set_cons_succ, List.getElem_toArray, List.getElem_cons_succ, List.getElem_cons_zero])
                              refine wpAnyH_ready (rs := [9]) (by kernel_rfl) (by simp) ?_
                              refine AllReadyH.cons rfl (fun K hK => ?_) AllReadyH.nil
                              · go_simp
                                go_at_call 81
                                refine (pick_any B (M + 4) 3 _ HS33_.out.dk.cur (by omega) (by omega) (by omega)).mono ?_
                                rintro e W34 ⟨p, rfl, hp0, hp1, hc, hg⟩
                                have hwp : IntKind.i64.wrap (1 + p) = 1 + p := Go.IntWalk.i64_in _ (by omega)
                                have HS34_ := Lib.hid (HS33_.out.step hlt hwF hBlo hc hg)
                                have HT34_ : Hid (w4.heap.size ≤ W34.heap.size) := Lib.hid (Nat.le_trans HT33_.out hg.size)
                                have HG34_ : Hid (BxV W34 W1.heap.size [.int .i64 0, .int .i64 0, .int .i64 0, .int .i64 0]) := Lib.hid (HG33_.out.grown hg (by have := HGT.out; have := HB4.out; simp; omega))
                                clear hc hg HS33_ HT33_ HG33_
                                (try go_wp2_with fail)
                                refine hK.out _ _ ?_ (fun hHeld => ?_)
                                · exact HS34_.out.f1
                                · clear hK K
                                  (try simp only [Act.put, List.setIfInBounds_toArray, List.set_cons_zero, List.set_cons_succ, List.getElem_toArray, List.getElem_cons_succ, List.getElem_cons_zero])
                                  refine wpAnyH_take (i := 10) (v := ?_) rfl (by kernel_rfl) (by kernel_rfl) (by kernel_rfl) (fun _ _ _ h => h) (Or.inl ⟨by rfl, ?_⟩) (by assumption) ?_
                                  rotate_left
                                  · (intro w hSw; (try dsimp only at hSw); go_simp; first | done | with_reducible rfl)
                                  (try simp only [Act.put, List.setIfInBounds_toArray, List.set_cons_zero, List.set_cons_succ, List.getElem_toArray, List.getElem_cons_succ, List.getElem_cons_zero])
                                  refine wpAnyH_take (i := 11) (v := ?_) rfl (by kernel_rfl) (by kernel_rfl) (by kernel_rfl) (fun _ _ _ h => h) (Or.inl ⟨by rfl, ?_⟩) (by assumption) ?_
                                  rotate_left
                                  · (intro w hSw; (try dsimp only at hSw); go_simp; first | done | with_reducible rfl)
                                  (try simp only [Act.put, List.setIfInBounds_toArray, List.set_cons_zero, List.set_cons_succ, List.getElem_toArray, List.getElem_cons_succ, List.getElem_cons_zero])
                                  have q1 : w.heap.size ≤ W1.heap.size := by have := HGT.out; have := HB4.out; omega
                                  have q2 : F < W1.heap.size := by have := HGT.out; have := HB4.out; omega
                                  have q3 : g ≠ W1.heap.size := by have := HGT.out; have := HB4.out; omega
                                  have q4 : w4.heap.size ≤ W1.heap.size := HGT.out
                                  have z0 := HG34_.out.cell 0
                                  have z1 := HG34_.out.cell 1
                                  have z2 := HG34_.out.cell 2
                                  have z3 := HG34_.out.cell 3
                                  have y0 := HG34_.out.frozen 0
                                  have y1 := HG34_.out.frozen 1
                                  have y2 := HG34_.out.frozen 2
                                  have y3 := HG34_.out.frozen 3
                                  simp at z0 z1 z2 z3
                                  have HF9 := Lib.hid (SSt.put (G := W1.heap.size) (j := 3) (x := .int .i64 (1 + p)) (SSt.put (G := W1.heap.size) (j := 2) (x := .int .i64 dy) (SSt.put (G := W1.heap.size) (j := 1) (x := .int .i64 ev) (SSt.put (G := W1.heap.size) (j := 0) (x := .int .i64 x1) HS34_.out q1 hlt q2 q3 q4) q1 hlt q2 q3 q4) q1 hlt q2 q3 q4) q1 hlt q2 q3 q4)
                                  have HB9 := Lib.hid (BxV.set (cs' := [.int .i64 x1, .int .i64 ev, .int .i64 dy, .int .i64 (1 + p)]) 3 (.int .i64 (1 + p)) (BxV.set (cs' := [.int .i64 x1, .int .i64 ev, .int .i64 dy, .int .i64 0]) 2 (.int .i64 dy) (BxV.set (cs' := [.int .i64 x1, .int .i64 ev, .int .i64 0, .int .i64 0]) 1 (.int .i64 ev) (BxV.set (cs' := [.int .i64 x1, .int .i64 0, .int .i64 0, .int .i64 0]) 0 (.int .i64 x1) HG34_.out rfl) rfl) rfl) rfl)
                                  refine wpAnyH_ready (rs := [13]) (by kernel_rfl) (by simp) ?_
                                  refine AllReadyH.cons rfl (fun K hK => ?_) AllReadyH.nil
                                  go_simp
                                  refine hK.out _ _ ?_ (fun hHeld => ?_)
                                  · exact HF9.out.f1
                                  · clear hK K
                                    (try simp only [Act.put, List.setIfInBounds_toArray, List.set_cons_zero, List.set_cons_succ, List.getElem_toArray, List.getElem_cons_succ, List.getElem_cons_zero])
                                    refine wpAnyH_done (by kernel_rfl) ?_ _
                                    (try go_wp2_with fail)
                                    go_meet
                                    exact ⟨_, ev, dy, p, rfl, bev, bdy, ⟨hp0, hp1⟩, q2, q4, HF9, HB9⟩
                  · go_simp
                    refine hK.out _ _ ?_ (fun hHeld => ?_)
                    · exact (HS30_.out.al _).f1
                    · clear hK K hHeld
                      (try simp only [Act.put, List.setIfInBounds_toArray, List.set_cons_zero, List.set_cons_succ, List.getElem_toArray, List.getElem_cons_succ, List.getElem_cons_zero])
                      refine gen_al (W := W30) ?_
                      intro W35 hWn
                      have HS35_ := Lib.hid (by rw [hWn]; exact HS30_.out.al _ : SSt w W35 B (M + 0) F lo hi x0 x1 x2 g c xs u5 t w4.heap.size)
                      have HT35_ : Hid (w4.heap.size ≤ W35.heap.size) := Lib.hid (by rw [hWn]; exact Nat.le_trans HT30_.out (by simp))
                      have HL35_3 : Hid (NL W35 W0.heap.size [0, 0, 1, 2, 3]) := Lib.hid (by rw [hWn]; exact HL30_3.out.al _)
                      have HG35_ : Hid (BxV W35 W1.heap.size [.int .i64 0, .int .i64 0, .int .i64 0, .int .i64 0]) := Lib.hid (by rw [hWn]; exact HG30_.out.al _)
                      have HL35_6 : Hid (NL W35 W30.heap.size [0, 30, 365, 1000]) := Lib.hid (by rw [hWn]; exact new_nums W30 [0, 30, 365, 1000] 3 _ rfl)
                      have HN35_6 : Hid (W30.heap.size ≠ B) := Lib.hid (by have := HS30_.out.dk.cur.lt; omega)
                      have hHeld : (fun w' : World => w'.cell? ⟨F, 1, none⟩ = some (.int .i64 x1)) W35 := HS35_.out.f1
                      clear hWn HS30_ HT30_ HL30_3 HG30_
                      refine wpAnyH_ready (rs := [4]) (by kernel_rfl) (by simp) ?_
                      refine AllReadyH.cons rfl (fun K hK => ?_) AllReadyH.nil
                      · go_simp
                        go_at_call 77
                        refine (amongZ_any B (M + 0) W0.heap.size 0 5 5 [0, 0, 1, 2, 3] _ HS35_.out.dk.cur (by omega) rfl (by omega) (by omega) HN1_3.out HL35_3.out).mono ?_
                        rintro e W36 ⟨ev, rfl, mev, hc, hg⟩
                        have bev : 0 ≤ ev ∧ ev ≤ 3 := by simp at mev; omega
                        clear mev
                        have HS36_ := Lib.hid (HS35_.out.step hlt hwF hBlo hc hg)
                        have HT36_ : Hid (w4.heap.size ≤ W36.heap.size) := Lib.hid (Nat.le_trans HT35_.out hg.size)
                        have HL36_6 : Hid (NL W36 W30.heap.size [0, 30, 365, 1000]) := Lib.hid (HL35_6.out.grown hg HN35_6.out)
                        have HG36_ : Hid (BxV W36 W1.heap.size [.int .i64 0, .int .i64 0, .int .i64 0, .int .i64 0]) := Lib.hid (HG35_.out.grown hg (by have := HGT.out; have := HB4.out; simp; omega))
                        clear hc hg HS35_ HT35_ HL35_3 HL35_6 HG35_
                        (try go_wp2_with fail)
                        refine hK.out _ _ ?_ (fun hHeld => ?_)
                        · exact HS36_.out.f1
                        · clear hK K
                          (try simp only [Act.put, List.setIfInBounds_toArray, List.set_cons_zero, List.set_cons_succ, List.getElem_toArray, List.getElem_cons_succ, List.getElem_cons_zero])
                          refine wpAnyH_ready (rs := [7]) (by kernel_rfl) (by simp) ?_
                          refine AllReadyH.cons rfl (fun K hK => ?_) AllReadyH.nil
                          · go_simp
                            go_at_call 77
                            refine (amongZ_any B (M + 2) W30.heap.size 0 4 4 [0, 30, 365, 1000] _ HS36_.out.dk.cur (by omega) rfl (by omega) (by omega) HN35_6.out HL36_6.out).mono ?_
                            rintro e W37 ⟨dy, rfl, mdy, hc, hg⟩
                            have bdy : 0 ≤ dy ∧ dy ≤ 1000 := by simp at mdy; omega
                            clear mdy
                            have HS37_ := Lib.hid (HS36_.out.step hlt hwF hBlo hc hg)
                            have HT37_ : Hid (w4.heap.size ≤ W37.heap.size) := Lib.hid (Nat.le_trans HT36_.out hg.size)
                            have HG37_ : Hid (BxV W37 W1.heap.size [.int .i64 0, .int .i64 0, .int .i64 0, .int .i64 0]) := Lib.hid (HG36_.out.grown hg (by have := HGT.out; have := HB4.out; simp; omega))
                            clear hc hg HS36_ HT36_ HL36_6 HG36_
                            (try go_wp2_with fail)
                            refine hK.out _ _ ?_ (fun hHeld => ?_)
                            · exact HS37_.out.f1
                            · clear hK K
                              (try simp only [Act.put, List.setIfInBounds_toArray, List.set_cons_zero, List.set_cons_succ, List.getElem_toArray, List.getElem_cons_succ, List.getElem_cons_zero])
                              refine wpAnyH_ready (rs := [9]) (by kernel_rfl) (by simp) ?_
                              refine AllReadyH.cons rfl (fun K hK => ?_) AllReadyH.nil
                              · go_simp
                                go_at_call 81
                                refine (pick_any B (M + 4) 3 _ HS37_.out.dk.cur (by omega) (by omega) (by omega)).mono ?_
                                rintro e W38 ⟨p, rfl, hp0, hp1, hc, hg⟩
                                have hwp : IntKind.i64.wrap (1 + p) = 1 + p := Go.IntWalk.i64_in _ (by omega)
                                have HS38_ := Lib.hid (HS37_.out.step hlt hwF hBlo hc hg)
                                have HT38_ : Hid (w4.heap.size ≤ W38.heap.size) := Lib.hid (Nat.le_trans HT37_.out hg.size)
                                have HG38_ : Hid (BxV W38 W1.heap.size [.int .i64 0, .int .i64 0, .int .i64 0, .int .i64 0]) := Lib.hid (HG37_.out.grown hg (by have := HGT.out; have := HB4.out; simp; omega))
                                clear hc hg HS37_ HT37_ HG37_
                                (try go_wp2_with fail)
                                refine hK.out _ _ ?_ (fun hHeld => ?_)
                                · exact HS38_.out.f1
                                · clear hK K
                                  (try simp only [Act.put, List.setIfInBounds_toArray, List.set_cons_zero, List.set_cons_succ, List.getElem_toArray, List.getElem_cons_succ, List.getElem_cons_zero])
                                  refine wpAnyH_take (i := 10) (v := ?_) rfl (by kernel_rfl) (by kernel_rfl) (by kernel_rfl) (fun _ _ _ h => h) (Or.inl ⟨by rfl, ?_⟩) (by assumption) ?_
                                  rotate_left
                                  · (intro w hSw; (try dsimp only at hSw); go_simp; first | done | with_reducible rfl)
                                  (try simp only [Act.put, List.setIfInBounds_toArray, List.set_cons_zero, List.set_cons_succ, List.getElem_toArray, List.getElem_cons_succ, List.getElem_cons_zero])
                                  refine wpAnyH_take (i := 11) (v := ?_) rfl (by kernel_rfl) (by kernel_rfl) (by kernel_rfl) (fun _ _ _ h => h) (Or.inl ⟨by rfl, ?_⟩) (by assumption) ?_
                                  rotate_left
                                  · (intro w hSw; (try dsimp only at hSw); go_simp; first | done | with_reducible rfl)
                                  (try simp only [Act.put, List.setIfInBounds_toArray, List.set_cons_zero, List.set_cons_succ, List.getElem_toArray, List.getElem_cons_succ, List.getElem_cons_zero])
                                  have q1 : w.heap.size ≤ W1.heap.size := by have := HGT.out; have := HB4.out; omega
                                  have q2 : F < W1.heap.size := by have := HGT.out; have := HB4.out; omega
                                  have q3 : g ≠ W1.heap.size := by have := HGT.out; have := HB4.out; omega
                                  have q4 : w4.heap.size ≤ W1.heap.size := HGT.out
                                  have z0 := HG38_.out.cell 0
                                  have z1 := HG38_.out.cell 1
                                  have z2 := HG38_.out.cell 2
                                  have z3 := HG38_.out.cell 3
                                  have y0 := HG38_.out.frozen 0
                                  have y1 := HG38_.out.frozen 1
                                  have y2 := HG38_.out.frozen 2
                                  have y3 := HG38_.out.frozen 3
                                  simp at z0 z1 z2 z3
                                  have HF9 := Lib.hid (SSt.put (G := W1.heap.size) (j := 3) (x := .int .i64 (1 + p)) (SSt.put (G := W1.heap.size) (j := 2) (x := .int .i64 dy) (SSt.put (G := W1.heap.size) (j := 1) (x := .int .i64 ev) (SSt.put (G := W1.heap.size) (j := 0) (x := .int .i64 x1) HS38_.out q1 hlt q2 q3 q4) q1 hlt q2 q3 q4) q1 hlt q2 q3 q4) q1 hlt q2 q3 q4)
                                  have HB9 := Lib.hid (BxV.set (cs' := [.int .i64 x1, .int .i64 ev, .int .i64 dy, .int .i64 (1 + p)]) 3 (.int .i64 (1 + p)) (BxV.set (cs' := [.int .i64 x1, .int .i64 ev, .int .i64 dy, .int .i64 0]) 2 (.int .i64 dy) (BxV.set (cs' := [.int .i64 x1, .int .i64 ev, .int .i64 0, .int .i64 0]) 1 (.int .i64 ev) (BxV.set (cs' := [.int .i64 x1, .int .i64 0, .int .i64 0, .int .i64 0]) 0 (.int .i64 x1) HG38_.out rfl) rfl) rfl) rfl)
                                  refine wpAnyH_ready (rs := [13]) (by kernel_rfl) (by simp) ?_
                                  refine AllReadyH.cons rfl (fun K hK => ?_) AllReadyH.nil
                                  go_simp
                                  refine hK.out _ _ ?_ (fun hHeld => ?_)
                                  · exact HF9.out.f1
                                  · clear hK K
                                    (try simp only [Act.put, List.setIfInBounds_toArray, List.set_cons_zero, List.set_cons_succ, List.getElem_toArray, List.getElem_cons_succ, List.getElem_cons_zero])
                                    refine wpAnyH_done (by kernel_rfl) ?_ _
                                    (try go_wp2_with fail)
                                    go_meet
                                    exact ⟨_, ev, dy, p, rfl, bev, bdy, ⟨hp0, hp1⟩, q2, q4, HF9, HB9⟩
          · go_simp
            refine hK.out _ _ ?_ (fun hHeld => ?_)
            · exact (HS0_.out.al _).f1
            · clear hK K hHeld
              (try simp only [Act.put, List.setIfInBounds_toArray, List.set_cons_zero, List.set_cons_succ, List.getElem_toArray, List.getElem_cons_succ, List.getElem_cons_zero])
              refine gen_al (W := W0) ?_
              intro W39 hWn
              have HS39_ := Lib.hid (by rw [hWn]; exact HS0_.out.al _ : SSt w W39 B (M + 0) F lo hi x0 x1 x2 g c xs u5 t w4.heap.size)
              have HT39_ : Hid (w4.heap.size ≤ W39.heap.size) := Lib.hid (by rw [hWn]; exact Nat.le_trans HT0_.out (by simp))
              have HL39_6 : Hid (NL W39 W0.heap.size [0, 30, 365, 1000]) := Lib.hid (by rw [hWn]; exact new_nums W0 [0, 30, 365, 1000] 3 _ rfl)
              have HN39_6 : Hid (W0.heap.size ≠ B) := Lib.hid (by have := HS0_.out.dk.cur.lt; omega)
              have hHeld : (fun w' : World => w'.cell? ⟨F, 1, none⟩ = some (.int .i64 x1)) W39 := HS39_.out.f1
              clear hWn HS0_ HT0_
              refine wpAnyH_ready (rs := [3, 12]) (by kernel_rfl) (by simp) ?_
              refine AllReadyH.cons rfl (fun K hK => ?_) (AllReadyH.cons rfl (fun K hK => ?_) AllReadyH.nil)
              · go_simp
                refine hK.out _ _ ?_ (fun hHeld => ?_)
                · exact (HS39_.out.al _).f1
                · clear hK K hHeld
                  (try simp only [Act.put, List.setIfInBounds_toArray, List.set_cons_zero, List.set_cons_succ, List.getElem_toArray, List.getElem_cons_succ, List.getElem_cons_zero])
                  refine gen_al (W := W39) ?_
                  intro W40 hWn
                  have HS40_ := Lib.hid (by rw [hWn]; exact HS39_.out.al _ : SSt w W40 B (M + 0) F lo hi x0 x1 x2 g c xs u5 t w4.heap.size)
                  have HT40_ : Hid (w4.heap.size ≤ W40.heap.size) := Lib.hid (by rw [hWn]; exact Nat.le_trans HT39_.out (by simp))
                  have HL40_6 : Hid (NL W40 W0.heap.size [0, 30, 365, 1000]) := Lib.hid (by rw [hWn]; exact HL39_6.out.al _)
                  have HL40_3 : Hid (NL W40 W39.heap.size [0, 0, 1, 2, 3]) := Lib.hid (by rw [hWn]; exact new_nums W39 [0, 0, 1, 2, 3] 3 _ rfl)
                  have HN40_3 : Hid (W39.heap.size ≠ B) := Lib.hid (by have := HS39_.out.dk.cur.lt; omega)
                  have hHeld : (fun w' : World => w'.cell? ⟨F, 1, none⟩ = some (.int .i64 x1)) W40 := HS40_.out.f1
                  clear hWn HS39_ HT39_ HL39_6
                  refine wpAnyH_ready (rs := [4, 12]) (by kernel_rfl) (by simp) ?_
                  refine AllReadyH.cons rfl (fun K hK => ?_) (AllReadyH.cons rfl (fun K hK => ?_) AllReadyH.nil)
                  · go_simp
                    go_at_call 77
                    refine (amongZ_any B (M + 0) W39.heap.size 0 5 5 [0, 0, 1, 2, 3] _ HS40_.out.dk.cur (by omega) rfl (by omega) (by omega) HN40_3.out HL40_3.out).mono ?_
                    rintro e W41 ⟨ev, rfl, mev, hc, hg⟩
                    have bev : 0 ≤ ev ∧ ev ≤ 3 := by simp at mev; omega
                    clear mev
                    have HS41_ := Lib.hid (HS40_.out.step hlt hwF hBlo hc hg)
                    have HT41_ : Hid (w4.heap.size ≤ W41.heap.size) := Lib.hid (Nat.le_trans HT40_.out hg.size)
                    have HL41_6 : Hid (NL W41 W0.heap.size [0, 30, 365, 1000]) := Lib.hid (HL40_6.out.grown hg HN39_6.out)
                    clear hc hg HS40_ HT40_ HL40_3 HL40_6
                    (try go_wp2_with fail)
                    refine hK.out _ _ ?_ (fun hHeld => ?_)
                    · exact HS41_.out.f1
                    · clear hK K
                      (try simp only [Act.put, List.setIfInBounds_toArray, List.set_cons_zero, List.set_cons_succ, List.getElem_toArray, List.getElem_cons_succ, List.getElem_cons_zero])
                      refine wpAnyH_ready (rs := [7, 12]) (by kernel_rfl) (by simp) ?_
                      refine AllReadyH.cons rfl (fun K hK => ?_) (AllReadyH.cons rfl (fun K hK => ?_) AllReadyH.nil)
                      · go_simp
                        go_at_call 77
                        refine (amongZ_any B (M + 2) W0.heap.size 0 4 4 [0, 30, 365, 1000] _ HS41_.out.dk.cur (by omega) rfl (by omega) (by omega) HN39_6.out HL41_6.out).mono ?_
                        rintro e W42 ⟨dy, rfl, mdy, hc, hg⟩
                        have bdy : 0 ≤ dy ∧ dy ≤ 1000 := by simp at mdy; omega
                        clear mdy
                        have HS42_ := Lib.hid (HS41_.out.step hlt hwF hBlo hc hg)
                        have HT42_ : Hid (w4.heap.size ≤ W42.heap.size) := Lib.hid (Nat.le_trans HT41_.out hg.size)
                        clear hc hg HS41_ HT41_ HL41_6
                        (try go_wp2_with fail)
                        refine hK.out _ _ ?_ (fun hHeld => ?_)
                        · exact HS42_.out.f1
                        · clear hK K
                          (try simp only [Act.put, List.setIfInBounds_toArray, List.set_cons_zero, List.set_cons_succ, List.getElem_toArray, List.getElem_cons_succ, List.getElem_cons_zero])
                          refine wpAnyH_ready (rs := [9, 12]) (by kernel_rfl) (by simp) ?_
                          refine AllReadyH.cons rfl (fun K hK => ?_) (AllReadyH.cons rfl (fun K hK => ?_) AllReadyH.nil)
                          · go_simp
                            go_at_call 81
                            refine (pick_any B (M + 4) 3 _ HS42_.out.dk.cur (by omega) (by omega) (by omega)).mono ?_
                            rintro e W43 ⟨p, rfl, hp0, hp1, hc, hg⟩
                            have hwp : IntKind.i64.wrap (1 + p) = 1 + p := Go.IntWalk.i64_in _ (by omega)
                            have HS43_ := Lib.hid (HS42_.out.step hlt hwF hBlo hc hg)
                            have HT43_ : Hid (w4.heap.size ≤ W43.heap.size) := Lib.hid (Nat.le_trans HT42_.out hg.size)
                            clear hc hg HS42_ HT42_
                            (try go_wp2_with fail)
                            refine hK.out _ _ ?_ (fun hHeld => ?_)
                            · exact HS43_.out.f1
                            · clear hK K
                              (try simp only [Act.put, List.setIfInBounds_toArray, List.set_cons_zero, List.set_cons_succ, List.getElem_toArray, List.getElem_cons_succ, List.getElem_cons_zero])
                              refine wpAnyH_take (i := 10) (v := ?_) rfl (by kernel_rfl) (by kernel_rfl) (by kernel_rfl) (fun _ _ _ h => h) (Or.inl ⟨by rfl, ?_⟩) (by assumption) ?_
                              rotate_left
                              · (intro w hSw; (try dsimp only at hSw); go_simp; first | done | with_reducible rfl)
                              (try simp only [Act.put, List.setIfInBounds_toArray, List.set_cons_zero, List.set_cons_succ, List.getElem_toArray, List.getElem_cons_succ, List.getElem_cons_zero])
                              refine wpAnyH_take (i := 11) (v := ?_) rfl (by kernel_rfl) (by kernel_rfl) (by kernel_rfl) (fun _ _ _ h => h) (Or.inl ⟨by rfl, ?_⟩) (by assumption) ?_
                              rotate_left
                              · (intro w hSw; (try dsimp only at hSw); go_simp; first | done | with_reducible rfl)
                              (try simp only [Act.put, List.setIfInBounds_toArray, List.set_cons_zero, List.set_cons_succ, List.getElem_toArray, List.getElem_cons_succ, List.getElem_cons_zero])
                              refine wpAnyH_ready (rs := [12]) (by kernel_rfl) (by simp) ?_
                              refine AllReadyH.cons rfl (fun K hK => ?_) AllReadyH.nil
                              · go_simp
                                refine hK.out _ _ ?_ (fun hHeld => ?_)
                                · exact (HS43_.out.al _).f1
                                · clear hK K hHeld
                                  (try simp only [Act.put, List.setIfInBounds_toArray, List.set_cons_zero, List.set_cons_succ, List.getElem_toArray, List.getElem_cons_succ, List.getElem_cons_zero])
                                  refine gen_al (W := W43) ?_
                                  intro W44 hWn
                                  have HS44_ := Lib.hid (by rw [hWn]; exact HS43_.out.al _ : SSt w W44 B (M + 6) F lo hi x0 x1 x2 g c xs u5 t w4.heap.size)
                                  have HT44_ : Hid (w4.heap.size ≤ W44.heap.size) := Lib.hid (by rw [hWn]; exact Nat.le_trans HT43_.out (by simp))
                                  have HG44_ : Hid (BxV W44 W43.heap.size [.int .i64 0, .int .i64 0, .int .i64 0, .int .i64 0]) := Lib.hid (by rw [hWn]; exact BxV.new W43 _ _)
                                  have HGT : Hid (w4.heap.size ≤ W43.heap.size) := HT43_
                                  have hHeld : (fun w' : World => w'.cell? ⟨F, 1, none⟩ = some (.int .i64 x1)) W44 := HS44_.out.f1
                                  clear hWn HS43_ HT43_
                                  have q1 : w.heap.size ≤ W43.heap.size := by have := HGT.out; have := HB4.out; omega
                                  have q2 : F < W43.heap.size := by have := HGT.out; have := HB4.out; omega
                                  have q3 : g ≠ W43.heap.size := by have := HGT.out; have := HB4.out; omega
                                  have q4 : w4.heap.size ≤ W43.heap.size := HGT.out
                                  have z0 := HG44_.out.cell 0
                                  have z1 := HG44_.out.cell 1
                                  have z2 := HG44_.out.cell 2
                                  have z3 := HG44_.out.cell 3
                                  have y0 := HG44_.out.frozen 0
                                  have y1 := HG44_.out.frozen 1
                                  have y2 := HG44_.out.frozen 2
                                  have y3 := HG44_.out.frozen 3
                                  simp at z0 z1 z2 z3
                                  have HF9 := Lib.hid (SSt.put (G := W43.heap.size) (j := 3) (x := .int .i64 (1 + p)) (SSt.put (G := W43.heap.size) (j := 2) (x := .int .i64 dy) (SSt.put (G := W43.heap.size) (j := 1) (x := .int .i64 ev) (SSt.put (G := W43.heap.size) (j := 0) (x := .int .i64 x1) HS44_.out q1 hlt q2 q3 q4) q1 hlt q2 q3 q4) q1 hlt q2 q3 q4) q1 hlt q2 q3 q4)
                                  have HB9 := Lib.hid (BxV.set (cs' := [.int .i64 x1, .int .i64 ev, .int .i64 dy, .int .i64 (1 + p)]) 3 (.int .i64 (1 + p)) (BxV.set (cs' := [.int .i64 x1, .int .i64 ev, .int .i64 dy, .int .i64 0]) 2 (.int .i64 dy) (BxV.set (cs' := [.int .i64 x1, .int .i64 ev, .int .i64 0, .int .i64 0]) 1 (.int .i64 ev) (BxV.set (cs' := [.int .i64 x1, .int .i64 0, .int .i64 0, .int .i64 0]) 0 (.int .i64 x1) HG44_.out rfl) rfl) rfl) rfl)
                                  refine wpAnyH_ready (rs := [13]) (by kernel_rfl) (by simp) ?_
                                  refine AllReadyH.cons rfl (fun K hK => ?_) AllReadyH.nil
                                  go_simp
                                  refine hK.out _ _ ?_ (fun hHeld => ?_)
                                  · exact HF9.out.f1
                                  · clear hK K
                                    (try simp only [Act.put, List.setIfInBounds_toArray, List.set_cons_zero, List.set_cons_succ, List.getElem_toArray, List.getElem_cons_succ, List.getElem_cons_zero])
                                    refine wpAnyH_done (by kernel_rfl) ?_ _
                                    (try go_wp2_with fail)
                                    go_meet
                                    exact ⟨_, ev, dy, p, rfl, bev, bdy, ⟨hp0, hp1⟩, q2, q4, HF9, HB9⟩
                          · go_simp
                            refine hK.out _ _ ?_ (fun hHeld => ?_)
                            · exact (HS42_.out.al _).f1
                            · clear hK K hHeld
                              (try simp only [Act.put, List.setIfInBounds_toArray, List.set_cons_zero, List.set_cons_succ, List.getElem_toArray, List.getElem_cons_succ, List.getElem_cons_zero])
                              refine gen_al (W := W42) ?_
                              intro W45 hWn
                              have HS45_ := Lib.hid (by rw [hWn]; exact HS42_.out.al _ : SSt w W45 B (M + 4) F lo hi x0 x1 x2 g c xs u5 t w4.heap.size)
                              have HT45_ : Hid (w4.heap.size ≤ W45.heap.size) := Lib.hid (by rw [hWn]; exact Nat.le_trans HT42_.out (by simp))
                              have HG45_ : Hid (BxV W45 W42.heap.size [.int .i64 0, .int .i64 0, .int .i64 0, .int .i64 0]) := Lib.hid (by rw [hWn]; exact BxV.new W42 _ _)
                              have HGT : Hid (w4.heap.size ≤ W42.heap.size) := HT42_
                              have hHeld : (fun w' : World => w'.cell? ⟨F, 1, none⟩ = some (.int .i64 x1)) W45 := HS45_.out.f1
                              clear hWn HS42_ HT42_
                              refine wpAnyH_ready (rs := [9]) (by kernel_rfl) (by simp) ?_
                              refine AllReadyH.cons rfl (fun K hK => ?_) AllReadyH.nil
                              · go_simp
                                go_at_call 81
                                refine (pick_any B (M + 4) 3 _ HS45_.out.dk.cur (by omega) (by omega) (by omega)).mono ?_
                                rintro e W46 ⟨p, rfl, hp0, hp1, hc, hg⟩
                                have hwp : IntKind.i64.wrap (1 + p) = 1 + p := Go.IntWalk.i64_in _ (by omega)
                                have HS46_ := Lib.hid (HS45_.out.step hlt hwF hBlo hc hg)
                                have HT46_ : Hid (w4.heap.size ≤ W46.heap.size) := Lib.hid (Nat.le_trans HT45_.out hg.size)
                                have HG46_ : Hid (BxV W46 W42.heap.size [.int .i64 0, .int .i64 0, .int .i64 0, .int .i64 0]) := Lib.hid (HG45_.out.grown hg (by have := HGT.out; have := HB4.out; simp; omega))
                                clear hc hg HS45_ HT45_ HG45_
                                (try go_wp2_with fail)
                                refine hK.out _ _ ?_ (fun hHeld => ?_)
                                · exact HS46_.out.f1
                                · clear hK K
                                  (try simp only [Act.put, List.setIfInBounds_toArray, List.set_cons_zero, List.set_cons_succ, List.getElem_toArray, List.getElem_cons_succ, List.getElem_cons_zero])
                                  refine wpAnyH_take (i := 10) (v := ?_) rfl (by kernel_rfl) (by kernel_rfl) (by kernel_rfl) (fun _ _ _ h => h) (Or.inl ⟨by rfl, ?_⟩) (by assumption) ?_
                                  rotate_left
                                  · (intro w hSw; (try dsimp only at hSw); go_simp; first | done | with_reducible rfl)
                                  (try simp only [Act.put, List.setIfInBounds_toArray, List.set_cons_zero, List.set_cons_succ, List.getElem_toArray, List.getElem_cons_succ, List.getElem_cons_zero])
                                  refine wpAnyH_take (i := 11) (v := ?_) rfl (by kernel_rfl) (by kernel_rfl) (by kernel_rfl) (fun _ _ _ h => h) (Or.inl ⟨by rfl, ?_⟩) (by assumption) ?_
                                  rotate_left
                                  · (intro w hSw; (try dsimp only at hSw); go_simp; first | done | with_reducible rfl)
                                  (try simp only [Act.put, List.setIfInBounds_toArray, List.set_cons_zero, List.set_cons_succ, List.getElem_toArray, List.getElem_cons_succ, List.getElem_cons_zero])
                                  have q1 : w.heap.size ≤ W42.heap.size := by have := HGT.out; have := HB4.out; omega
                                  have q2 : F < W42.heap.size := by have := HGT.out; have := HB4.out; omega
                                  have q3 : g ≠ W42.heap.size := by have := HGT.out; have := HB4.out; omega
                                  have q4 : w4.heap.size ≤ W42.heap.size := HGT.out
                                  have z0 := HG46_.out.cell 0
                                  have z1 := HG46_.out.cell 1
                                  have z2 := HG46_.out.cell 2
                                  have z3 := HG46_.out.cell 3
                                  have y0 := HG46_.out.frozen 0
                                  have y1 := HG46_.out.frozen 1
                                  have y2 := HG46_.out.frozen 2
                                  have y3 := HG46_.out.frozen 3
                                  simp at z0 z1 z2 z3
                                  have HF9 := Lib.hid (SSt.put (G := W42.heap.size) (j := 3) (x := .int .i64 (1 + p)) (SSt.put (G := W42.heap.size) (j := 2) (x := .int .i64 dy) (SSt.put (G := W42.heap.size) (j := 1) (x := .int .i64 ev) (SSt.put (G := W42.heap.size) (j := 0) (x := .int .i64 x1) HS46_.out q1 hlt q2 q3 q4) q1 hlt q2 q3 q4) q1 hlt q2 q3 q4) q1 hlt q2 q3 q4)
                                  have HB9 := Lib.hid (BxV.set (cs' := [.int .i64 x1, .int .i64 ev, .int .i64 dy, .int .i64 (1 + p)]) 3 (.int .i64 (1 + p)) (BxV.set (cs' := [.int .i64 x1, .int .i64 ev, .int .i64 dy, .int .i64 0]) 2 (.int .i64 dy) (BxV.set (cs' := [.int .i64 x1, .int .i64 ev, .int .i64 0, .int .i64 0]) 1 (.int .i64 ev) (BxV.set (cs' := [.int .i64 x1, .int .i64 0, .int .i64 0, .int .i64 0]) 0 (.int .i64 x1) HG46_.out rfl) rfl) rfl) rfl)
                                  refine wpAnyH_ready (rs := [13]) (by kernel_rfl) (by simp) ?_
                                  refine AllReadyH.cons rfl (fun K hK => ?_) AllReadyH.nil
                                  go_simp
                                  refine hK.out _ _ ?_ (fun hHeld => ?_)
                                  · exact HF9.out.f1
                                  · clear hK K
                                    (try simp only [Act.put, List.setIfInBounds_toArray, List.set_cons_zero, List.set_cons_succ, List.getElem_toArray, List.getElem_cons_succ, List.getElem_cons_zero])
                                    refine wpAnyH_done (by kernel_rfl) ?_ _
                                    (try go_wp2_with fail)
                                    go_meet
                                    exact ⟨_, ev, dy, p, rfl, bev, bdy, ⟨hp0, hp1⟩, q2, q4, HF9, HB9⟩
                      · go_simp
                        refine hK.out _ _ ?_ (fun hHeld => ?_)
                        · exact (HS41_.out.al _).f1
                        · clear hK K hHeld
                          (try simp only [Act.put, List.setIfInBounds_toArray, List.set_cons_zero, List.set_cons_succ, List.getElem_toArray, List.getElem_cons_succ, List.getElem_cons_zero])
                          refine gen_al (W := W41) ?_
                          intro W47 hWn
                          have HS47_ := Lib.hid (by rw [hWn]; exact HS41_.out.al _ : SSt w W47 B (M + 2) F lo hi x0 x1 x2 g c xs u5 t w4.heap.size)
                          have HT47_ : Hid (w4.heap.size ≤ W47.heap.size) := Lib.hid (by rw [hWn]; exact Nat.le_trans HT41_.out (by simp))
                          have HL47_6 : Hid (NL W47 W0.heap.size [0, 30, 365, 1000]) := Lib.hid (by rw [hWn]; exact HL41_6.out.al _)
                          have HG47_ : Hid (BxV W47 W41.heap.size [.int .i64 0, .int .i64 0, .int .i64 0, .int .i64 0]) := Lib.hid (by rw [hWn]; exact BxV.new W41 _ _)
                          have HGT : Hid (w4.heap.size ≤ W41.heap.size) := HT41_
                          have hHeld : (fun w' : World => w'.cell? ⟨F, 1, none⟩ = some (.int .i64 x1)) W47 := HS47_.out.f1
                          clear hWn HS41_ HT41_ HL41_6
                          refine wpAnyH_ready (rs := [7]) (by kernel_rfl) (by simp) ?_
                          refine AllReadyH.cons rfl (fun K hK => ?_) AllReadyH.nil
                          · go_simp
                            go_at_call 77
                            refine (amongZ_any B (M + 2) W0.heap.size 0 4 4 [0, 30, 365, 1000] _ HS47_.out.dk.cur (by omega) rfl (by omega) (by omega) HN39_6.out HL47_6.out).mono ?_
                            rintro e W48 ⟨dy, rfl, mdy, hc, hg⟩
                            have bdy : 0 ≤ dy ∧ dy ≤ 1000 := by simp at mdy; omega
                            clear mdy
                            have HS48_ := Lib.hid (HS47_.out.step hlt hwF hBlo hc hg)
                            have HT48_ : Hid (w4.heap.size ≤ W48.heap.size) := Lib.hid (Nat.le_trans HT47_.out hg.size)
                            have HG48_ : Hid (BxV W48 W41.heap.size [.int .i64 0, .int .i64 0, .int .i64 0, .int .i64 0]) := Lib.hid (HG47_.out.grown hg (by have := HGT.out; have := HB4.out; simp; omega))
                            clear hc hg HS47_ HT47_ HL47_6 HG47_
                            (try go_wp2_with fail)
                            refine hK.out _ _ ?_ (fun hHeld => ?_)
                            · exact HS48_.out.f1
                            · clear hK K
                              (try simp only [Act.put, List.setIfInBounds_toArray, List.set_cons_zero, List.set_cons_succ, List.getElem_toArray, List.getElem_cons_succ, List.getElem_cons_zero])
                              refine wpAnyH_ready (rs := [9]) (by kernel_rfl) (by simp) ?_
                              refine AllReadyH.cons rfl (fun K hK => ?_) AllReadyH.nil
                              · go_simp
                                go_at_call 81
                                refine (pick_any B (M + 4) 3 _ HS48_.out.dk.cur (by omega) (by omega) (by omega)).mono ?_
                                rintro e W49 ⟨p, rfl, hp0, hp1, hc, hg⟩
                                have hwp : IntKind.i64.wrap (1 + p) = 1 + p := Go.IntWalk.i64_in _ (by omega)
                                have HS49_ := Lib.hid (HS48_.out.step hlt hwF hBlo hc hg)
                                have HT49_ : Hid (w4.heap.size ≤ W49.heap.size) := Lib.hid (Nat.le_trans HT48_.out hg.size)
                                have HG49_ : Hid (BxV W49 W41.heap.size [.int .i64 0, .int .i64 0, .int .i64 0, .int .i64 0]) := Lib.hid (HG48_.out.grown hg (by have := HGT.out; have := HB4.out; simp; omega))
                                clear hc hg HS48_ HT48_ HG48_
                                (try go_wp2_with fail)
                                refine hK.out _ _ ?_ (fun hHeld => ?_)
                                · exact HS49_.out.f1
                                · clear hK K
                                  (try simp only [Act.put, List.setIfInBounds_toArray, List.set_cons_zero, List.set_cons_succ, List.getElem_toArray, List.getElem_cons_succ, List.getElem_cons_zero])
                                  refine wpAnyH_take (i := 10) (v := ?_) rfl (by kernel_rfl) (by kernel_rfl) (by kernel_rfl) (fun _ _ _ h => h) (Or.inl ⟨by rfl, ?_⟩) (by assumption) ?_
                                  rotate_left
                                  · (intro w hSw; (try dsimp only at hSw); go_simp; first | done | with_reducible rfl)
                                  (try simp only [Act.put, List.setIfInBounds_toArray, List.set_cons_zero, List.set_cons_succ, List.getElem_toArray, List.getElem_cons_succ, List.getElem_cons_zero])
                                  refine wpAnyH_take (i := 11) (v := ?_) rfl (by kernel_rfl) (by kernel_rfl) (by kernel_rfl) (fun _ _ _ h => h) (Or.inl ⟨by rfl, ?_⟩) (by assumption) ?_
                                  rotate_left
                                  · (intro w hSw; (try dsimp only at hSw); go_simp; first | done | with_reducible rfl)
                                  (try simp only [Act.put, List.setIfInBounds_toArray, List.set_cons_zero, List.set_cons_succ, List.getElem_toArray, List.getElem_cons_succ, List.getElem_cons_zero])
                                  have q1 : w.heap.size ≤ W41.heap.size := by have := HGT.out; have := HB4.out; omega
                                  have q2 : F < W41.heap.size := by have := HGT.out; have := HB4.out; omega
                                  have q3 : g ≠ W41.heap.size := by have := HGT.out; have := HB4.out; omega
                                  have q4 : w4.heap.size ≤ W41.heap.size := HGT.out
                                  have z0 := HG49_.out.cell 0
                                  have z1 := HG49_.out.cell 1
                                  have z2 := HG49_.out.cell 2
                                  have z3 := HG49_.out.cell 3
                                  have y0 := HG49_.out.frozen 0
                                  have y1 := HG49_.out.frozen 1
                                  have y2 := HG49_.out.frozen 2
                                  have y3 := HG49_.out.frozen 3
                                  simp at z0 z1 z2 z3
                                  have HF9 := Lib.hid (SSt.put (G := W41.heap.size) (j := 3) (x := .int .i64 (1 + p)) (SSt.put (G := W41.heap.size) (j := 2) (x := .int .i64 dy) (SSt.put (G := W41.heap.size) (j := 1) (x := .int .i64 ev) (SSt.put (G := W41.heap.size) (j := 0) (x := .int .i64 x1) HS49_.out q1 hlt q2 q3 q4) q1 hlt q2 q3 q4) q1 hlt q2 q3 q4) q1 hlt q2 q3 q4)
                                  have HB9 := Lib.hid (BxV.set (cs' := [.int .i64 x1, .int .i64 ev, .int .i64 dy, .int .i64 (1 + p)]) 3 (.int .i64 (1 + p)) (BxV.set (cs' := [.int .i64 x1, .int .i64 ev, .int .i64 dy, .int .i64 0]) 2 (.int .i64 dy) (BxV.set (cs' := [.int .i64 x1, .int .i64 ev, .int .i64 0, .int .i64 0]) 1 (.int .i64 ev) (BxV.set (cs' := [.int .i64 x1, .int .i64 0, .int .i64 0, .int .i64 0]) 0 (.int .i64 x1) HG49_.out rfl) rfl) rfl) rfl)
                                  refine wpAnyH_ready (rs := [13]) (by kernel_rfl) (by simp) ?_
                                  refine AllReadyH.cons rfl (fun K hK => ?_) AllReadyH.nil
                                  go_simp
                                  refine hK.out _ _ ?_ (fun hHeld => ?_)
                                  · exact HF9.out.f1
                                  · clear hK K
                                    (try simp only [Act.put, List.setIfInBounds_toArray, List.set_cons_zero, List.set_cons_succ, List.getElem_toArray, List.getElem_cons_succ, List.getElem_cons_zero])
                                    refine wpAnyH_done (by kernel_rfl) ?_ _
                                    (try go_wp2_with fail)
                                    go_meet
                                    exact ⟨_, ev, dy, p, rfl, bev, bdy, ⟨hp0, hp1⟩, q2, q4, HF9, HB9⟩
                  · go_simp
                    refine hK.out _ _ ?_ (fun hHeld => ?_)
                    · exact (HS40_.out.al _).f1
                    · clear hK K hHeld
                      (try simp only [Act.put, List.setIfInBounds_toArray, List.set_cons_zero, List.set_cons_succ, List.getElem_toArray, List.getElem_cons_succ, List.getElem_cons_zero])
                      refine gen_al (W := W40) ?_
                      intro W50 hWn
                      have HS50_ := Lib.hid (by rw [hWn]; exact HS40_.out.al _ : SSt w W50 B (M + 0) F lo hi x0 x1 x2 g c xs u5 t w4.heap.size)
                      have HT50_ : Hid (w4.heap.size ≤ W50.heap.size) := Lib.hid (by rw [hWn]; exact Nat.le_trans HT40_.out (by simp))
                      have HL50_6 : Hid (NL W50 W0.heap.size [0, 30, 365, 1000]) := Lib.hid (by rw [hWn]; exact HL40_6.out.al _)
                      have HL50_3 : Hid (NL W50 W39.heap.size [0, 0, 1, 2, 3]) := Lib.hid (by rw [hWn]; exact HL40_3.out.al _)
                      have HG50_ : Hid (BxV W50 W40.heap.size [.int .i64 0, .int .i64 0, .int .i64 0, .int .i64 0]) := Lib.hid (by rw [hWn]; exact BxV.new W40 _ _)
                      have HGT : Hid (w4.heap.size ≤ W40.heap.size) := HT40_
                      have hHeld : (fun w' : World => w'.cell? ⟨F, 1, none⟩ = some (.int .i64 x1)) W50 := HS50_.out.f1
                      clear hWn HS40_ HT40_ HL40_6 HL40_3
                      refine wpAnyH_ready (rs := [4]) (by kernel_rfl) (by simp) ?_
                      refine AllReadyH.cons rfl (fun K hK => ?_) AllReadyH.nil
                      · go_simp
                        go_at_call 77
                        refine (amongZ_any B (M + 0) W39.heap.size 0 5 5 [0, 0, 1, 2, 3] _ HS50_.out.dk.cur (by omega) rfl (by omega) (by omega) HN40_3.out HL50_3.out).mono ?_
                        rintro e W51 ⟨ev, rfl, mev, hc, hg⟩
                        have bev : 0 ≤ ev ∧ ev ≤ 3 := by simp at mev; omega
                        clear mev
                        have HS51_ := Lib.hid (HS50_.out.step hlt hwF hBlo hc hg)
                        have HT51_ : Hid (w4.heap.size ≤ W51.heap.size) := Lib.hid (Nat.le_trans HT50_.out hg.size)
                        have HL51_6 : Hid (NL W51 W0.heap.size [0, 30, 365, 1000]) := Lib.hid (HL50_6.out.grown hg HN39_6.out)
                        have HG51_ : Hid (BxV W51 W40.heap.size [.int .i64 0, .int .i64 0, .int .i64 0, .int .i64 0]) := Lib.hid (HG50_.out.grown hg (by have := HGT.out; have := HB4.out; simp; omega))
                        clear hc hg HS50_ HT50_ HL50_3 HL50_6 HG50_
                        (try go_wp2_with fail)
                        refine hK.out _ _ ?_ (fun hHeld => ?_)
                        · exact HS51_.out.f1
                        · clear hK K
                          (try simp only [Act.put, List.setIfInBounds_toArray, List.set_cons_zero, List.set_cons_succ, List.getElem_toArray, List.getElem_cons_succ, List.getElem_cons_zero])
                          refine wpAnyH_ready (rs := [7]) (by kernel_rfl) (by simp) ?_
                          refine AllReadyH.cons rfl (fun K hK => ?_) AllReadyH.nil
                          · go_simp
                            go_at_call 77
                            refine (amongZ_any B (M + 2) W0.heap.size 0 4 4 [0, 30, 365, 1000] _ HS51_.out.dk.cur (by omega) rfl (by omega) (by omega) HN39_6.out HL51_6.out).mono ?_
                            rintro e W52 ⟨dy, rfl, mdy, hc, hg⟩
                            have bdy : 0 ≤ dy ∧ dy ≤ 1000 := by simp at mdy; omega
                            clear mdy
                            have HS52_ := Lib.hid (HS51_.out.step hlt hwF hBlo hc hg)
                            have HT52_ : Hid (w4.heap.size ≤ W52.heap.size) := Lib.hid (Nat.le_trans HT51_.out hg.size)
                            have HG52_ : Hid (BxV W52 W40.heap.size [.int .i64 0, .int .i64 0, .int .i64 0, .int .i64 0]) := Lib.hid (HG51_.out.grown hg (by have := HGT.out; have := HB4.out; simp; omega))
                            clear hc hg HS51_ HT51_ HL51_6 HG51_
                            (try go_wp2_with fail)
                            refine hK.out _ _ ?_ (fun hHeld => ?_)
                            · exact HS52_.out.f1
                            · clear hK K
                              (try simp only [Act.put, List.setIfInBounds_toArray, List.set_cons_zero, List.set_cons_succ, List.getElem_toArray, List.getElem_cons_succ, List.getElem_cons_zero])
                              refine wpAnyH_ready (rs := [9]) (by kernel_rfl) (by simp) ?_
                              refine AllReadyH.cons rfl (fun K hK => ?_) AllReadyH.nil
                              · go_simp
                                go_at_call 81
                                refine (pick_any B (M + 4) 3 _ HS52_.out.dk.cur (by omega) (by omega) (by omega)).mono ?_
                                rintro e W53 ⟨p, rfl, hp0, hp1, hc, hg⟩
                                have hwp : IntKind.i64.wrap (1 + p) = 1 + p := Go.IntWalk.i64_in _ (by omega)
                                have HS53_ := Lib.hid (HS52_.out.step hlt hwF hBlo hc hg)
                                have HT53_ : Hid (w4.heap.size ≤ W53.heap.size) := Lib.hid (Nat.le_trans HT52_.out hg.size)
                                have HG53_ : Hid (BxV W53 W40.heap.size [.int .i64 0, .int .i64 0, .int .i64 0, .int .i64 0]) := Lib.hid (HG52_.out.grown hg (by have := HGT.out; have := HB4.out; simp; omega))
                                clear hc hg HS52_ HT52_ HG52_
                                (try go_wp2_with fail)
                                refine hK.out _ _ ?_ (fun hHeld => ?_)
                                · exact HS53_.out.f1
                                · clear hK K
                                  (try simp only [Act.put, List.setIfInBounds_toArray, List.set_cons_zero, List.set_cons_succ, List.getElem_toArray, List.getElem_cons_succ, List.getElem_cons_zero])
                                  refine wpAnyH_take (i := 10) (v := ?_) rfl (by kernel_rfl) (by kernel_rfl) (by kernel_rfl) (fun _ _ _ h => h) (Or.inl ⟨by rfl, ?_⟩) (by assumption) ?_
                                  rotate_left
                                  · (intro w hSw; (try dsimp only at hSw); go_simp; first | done | with_reducible rfl)
                                  (try simp only [Act.put, List.setIfInBounds_toArray, List.set_cons_zero, List.set_cons_succ, List.getElem_toArray, List.getElem_cons_succ, List.getElem_cons_zero])
                                  refine wpAnyH_take (i := 11) (v := ?_) rfl (by kernel_rfl) (by kernel_rfl) (by kernel_rfl) (fun _ _ _ h => h) (Or.inl ⟨by rfl, ?_⟩) (by assumption) ?_
                                  rotate_left
                                  · (intro w hSw; (try dsimp only at hSw); go_simp; first | done | with_reducible rfl)
                                  (try simp only [Act.put, List.setIfInBounds_toArray, List.set_cons_zero, List.set_cons_succ, List.getElem_toArray, List.getElem_cons_succ, List.getElem_cons_zero])
                                  have q1 : w.heap.size ≤ W40.heap.size := by have := HGT.out; have := HB4.out; omega
                                  have q2 : F < W40.heap.size := by have := HGT.out; have := HB4.out; omega
                                  have q3 : g ≠ W40.heap.size := by have := HGT.out; have := HB4.out; omega
                                  have q4 : w4.heap.size ≤ W40.heap.size := HGT.out
                                  have z0 := HG53_.out.cell 0
                                  have z1 := HG53_.out.cell 1
                                  have z2 := HG53_.out.cell 2
                                  have z3 := HG53_.out.cell 3
                                  have y0 := HG53_.out.frozen 0
                                  have y1 := HG53_.out.frozen 1
                                  have y2 := HG53_.out.frozen 2
                                  have y3 := HG53_.out.frozen 3
                                  simp at z0 z1 z2 z3
                                  have HF9 := Lib.hid (SSt.put (G := W40.heap.size) (j := 3) (x := .int .i64 (1 + p)) (SSt.put (G := W40.heap.size) (j := 2) (x := .int .i64 dy) (SSt.put (G := W40.heap.size) (j := 1) (x := .int .i64 ev) (SSt.put (G := W40.heap.size) (j := 0) (x := .int .i64 x1) HS53_.out q1 hlt q2 q3 q4) q1 hlt q2 q3 q4) q1 hlt q2 q3 q4) q1 hlt q2 q3 q4)
                                  have HB9 := Lib.hid (BxV.set (cs' := [.int .i64 x1, .int .i64 ev, .int .i64 dy, .int .i64 (1 + p)]) 3 (.int .i64 (1 + p)) (BxV.set (cs' := [.int .i64 x1, .int .i64 ev, .int .i64 dy, .int .i64 0]) 2 (.int .i64 dy) (BxV.set (cs' := [.int .i64 x1, .int .i64 ev, .int .i64 0, .int .i64 0]) 1 (.int .i64 ev) (BxV.set (cs' := [.int .i64 x1, .int .i64 0, .int .i64 0, .int .i64 0]) 0 (.int .i64 x1) HG53_.out rfl) rfl) rfl) rfl)
                                  refine wpAnyH_ready (rs := [13]) (by kernel_rfl) (by simp) ?_
                                  refine AllReadyH.cons rfl (fun K hK => ?_) AllReadyH.nil
                                  go_simp
                                  refine hK.out _ _ ?_ (fun hHeld => ?_)
                                  · exact HF9.out.f1
                                  · clear hK K
                                    (try simp only [Act.put, List.setIfInBounds_toArray, List.set_cons_zero, List.set_cons_succ, List.getElem_toArray, List.getElem_cons_succ, List.getElem_cons_zero])
                                    refine wpAnyH_done (by kernel_rfl) ?_ _
                                    (try go_wp2_with fail)
                                    go_meet
                                    exact ⟨_, ev, dy, p, rfl, bev, bdy, ⟨hp0, hp1⟩, q2, q4, HF9, HB9⟩
              · go_simp
                refine hK.out _ _ ?_ (fun hHeld => ?_)
                · exact (HS39_.out.al _).f1
                · clear hK K hHeld
                  (try simp only [Act.put, List.setIfInBounds_toArray, List.set_cons_zero, List.set_cons_succ, List.getElem_toArray, List.getElem_cons_succ, List.getElem_cons_zero])
                  refine gen_al (W := W39) ?_
                  intro W54 hWn
                  have HS54_ := Lib.hid (by rw [hWn]; exact HS39_.out.al _ : SSt w W54 B (M + 0) F lo hi x0 x1 x2 g c xs u5 t w4.heap.size)
                  have HT54_ : Hid (w4.heap.size ≤ W54.heap.size) := Lib.hid (by rw [hWn]; exact Nat.le_trans HT39_.out (by simp))
                  have HL54_6 : Hid (NL W54 W0.heap.size [0, 30, 365, 1000]) := Lib.hid (by rw [hWn]; exact HL39_6.out.al _)
                  have HG54_ : Hid (BxV W54 W39.heap.size [.int .i64 0, .int .i64 0, .int .i64 0, .int .i64 0]) := Lib.hid (by rw [hWn]; exact BxV.new W39 _ _)
                  have HGT : Hid (w4.heap.size ≤ W39.heap.size) := HT39_
                  have hHeld : (fun w' : World => w'.cell? ⟨F, 1, none⟩ = some (.int .i64 x1)) W54 := HS54_.out.f1
                  clear hWn HS39_ HT39_ HL39_6
                  refine wpAnyH_ready (rs := [3]) (by kernel_rfl) (by simp) ?_
                  refine AllReadyH.cons rfl (fun K hK => ?_) AllReadyH.nil
                  · go_simp
                    refine hK.out _ _ ?_ (fun hHeld => ?_)
                    · exact (HS54_.out.al _).f1
                    · clear hK K hHeld
                      (try simp only [Act.put, List.setIfInBounds_toArray, List.set_cons_zero, List.set_cons_succ, List.getElem_toArray, List.getElem_cons_succ, List.getElem_cons_zero])
                      refine gen_al (W := W54) ?_
                      intro W55 hWn
                      have HS55_ := Lib.hid (by rw [hWn]; exact HS54_.out.al _ : SSt w W55 B (M + 0) F lo hi x0 x1 x2 g c xs u5 t w4.heap.size)
                      have HT55_ : Hid (w4.heap.size ≤ W55.heap.size) := Lib.hid (by rw [hWn]; exact Nat.le_trans HT54_.out (by simp))
                      have HL55_6 : Hid (NL W55 W0.heap.size [0, 30, 365, 1000]) := Lib.hid (by rw [hWn]; exact HL54_6.out.al _)
                      have HG55_ : Hid (BxV W55 W39.heap.size [.int .i64 0, .int .i64 0, .int .i64 0, .int .i64 0]) := Lib.hid (by rw [hWn]; exact HG54_.out.al _)
                      have HL55_3 : Hid (NL W55 W54.heap.size [0, 0, 1, 2, 3]) := Lib.hid (by rw [hWn]; exact new_nums W54 [0, 0, 1, 2, 3] 3 _ rfl)
                      have HN55_3 : Hid (W54.heap.size ≠ B) := Lib.hid (by have := HS54_.out.dk.cur.lt; omega)
                      have hHeld : (fun w' : World => w'.cell? ⟨F, 1, none⟩ = some (.int .i64 x1)) W55 := HS55_.out.f1
                      clear hWn HS54_ HT54_ HL54_6 HG54_
                      refine wpAnyH_ready (rs := [4]) (by kernel_rfl) (by simp) ?_
                      refine AllReadyH.cons rfl (fun K hK => ?_) AllReadyH.nil
                      · go_simp
                        go_at_call 77
                        refine (amongZ_any B (M + 0) W54.heap.size 0 5 5 [0, 0, 1, 2, 3] _ HS55_.out.dk.cur (by omega) rfl (by omega) (by omega) HN55_3.out HL55_3.out).mono ?_
                        rintro e W56 ⟨ev, rfl, mev, hc, hg⟩
                        have bev : 0 ≤ ev ∧ ev ≤ 3 := by simp at mev; omega
                        clear mev
                        have HS56_ := Lib.hid (HS55_.out.step hlt hwF hBlo hc hg)
                        have HT56_ : Hid (w4.heap.size ≤ W56.heap.size) := Lib.hid (Nat.le_trans HT55_.out hg.size)
                        have HL56_6 : Hid (NL W56 W0.heap.size [0, 30, 365, 1000]) := Lib.hid (HL55_6.out.grown hg HN39_6.out)
                        have HG56_ : Hid (BxV W56 W39.heap.size [.int .i64 0, .int .i64 0, .int .i64 0, .int .i64 0]) := Lib.hid (HG55_.out.grown hg (by have := HGT.out; have := HB4.out; simp; omega))
                        clear hc hg HS55_ HT55_ HL55_3 HL55_6 HG55_
                        (try go_wp2_with fail)
                        refine hK.out _ _ ?_ (fun hHeld => ?_)
                        · exact HS56_.out.f1
                        · clear hK K
                          (try simp only [Act.put, List.setIfInBounds_toArray, List.set_cons_zero, List.set_cons_succ, List.getElem_toArray, List.getElem_cons_succ, List.getElem_cons_zero])
                          refine wpAnyH_ready (rs := [7]) (by kernel_rfl) (by simp) ?_
                          refine AllReadyH.cons rfl (fun K hK => ?_) AllReadyH.nil
                          · go_simp
                            go_at_call 77
                            refine (amongZ_any B (M + 2) W0.heap.size 0 4 4 [0, 30, 365, 1000] _ HS56_.out.dk.cur (by omega) rfl (by omega) (by omega) HN39_6.out HL56_6.out).mono ?_
                            rintro e W57 ⟨dy, rfl, mdy, hc, hg⟩
                            have bdy : 0 ≤ dy ∧ dy ≤ 1000 := by simp at mdy; omega
                            clear mdy
                            have HS57_ := Lib.hid (HS56_.out.step hlt hwF hBlo hc hg)
                            have HT57_ : Hid (w4.heap.size ≤ W57.heap.size) := Lib.hid (Nat.le_trans HT56_.out hg.size)
                            have HG57_ : Hid (BxV W57 W39.heap.size [.int .i64 0, .int .i64 0, .int .i64 0, .int .i64 0]) := Lib.hid (HG56_.out.grown hg (by have := HGT.out; have := HB4.out; simp; omega))
                            clear hc hg HS56_ HT56_ HL56_6 HG56_
                            (try go_wp2_with fail)
                            refine hK.out _ _ ?_ (fun hHeld => ?_)
                            · exact HS57_.out.f1
                            · clear hK K
                              (try simp only [Act.put, List.setIfInBounds_toArray, List.set_cons_zero, List.set_cons_succ, List.getElem_toArray, List.getElem_cons_succ, List.getElem_cons_zero])
                              refine wpAnyH_ready (rs := [9]) (by kernel_rfl) (by simp) ?_
                              refine AllReadyH.cons rfl (fun K hK => ?_) AllReadyH.nil
                              · go_simp
                                go_at_call 81
                                refine (pick_any B (M + 4) 3 _ HS57_.out.dk.cur (by omega) (by omega) (by omega)).mono ?_
                                rintro e W58 ⟨p, rfl, hp0, hp1, hc, hg⟩
                                have hwp : IntKind.i64.wrap (1 + p) = 1 + p := Go.IntWalk.i64_in _ (by omega)
                                have HS58_ := Lib.hid (HS57_.out.step hlt hwF hBlo hc hg)
                                have HT58_ : Hid (w4.heap.size ≤ W58.heap.size) := Lib.hid (Nat.le_trans HT57_.out hg.size)
                                have HG58_ : Hid (BxV W58 W39.heap.size [.int .i64 0, .int .i64 0, .int .i64 0, .int .i64 0]) := Lib.hid (HG57_.out.grown hg (by have := HGT.out; have := HB4.out; simp; omega))
                                clear hc hg HS57_ HT57_ HG57_
                                (try go_wp2_with fail)
                                refine hK.out _ _ ?_ (fun hHeld => ?_)
                                · exact HS58_.out.f1
                                · clear hK K
                                  (try simp only [Act.put, List.setIfInBounds_toArray, List.set_cons_zero, List.set_cons_succ, List.getElem_toArray, List.getElem_cons_succ, List.getElem_cons_zero])
                                  refine wpAnyH_take (i := 10) (v := ?_) rfl (by kernel_rfl) (by kernel_rfl) (by kernel_rfl) (fun _ _ _ h => h) (Or.inl ⟨by rfl, ?_⟩) (by assumption) ?_
                                  rotate_left
                                  · (intro w hSw; (try dsimp only at hSw); go_simp; first | done | with_reducible rfl)
                                  (try simp only [Act.put, List.setIfInBounds_toArray, List.set_cons_zero, List.set_cons_succ, List.getElem_toArray, List.getElem_cons_succ, List.getElem_cons_zero])
                                  refine wpAnyH_take (i := 11) (v := ?_) rfl (by kernel_rfl) (by kernel_rfl) (by kernel_rfl) (fun _ _ _ h => h) (Or.inl ⟨by rfl, ?_⟩) (by assumption) ?_
                                  rotate_left
                                  · (intro w hSw; (try dsimp only at hSw); go_simp; first | done | with_reducible rfl)
                                  (try simp only [Act.put, List.setIfInBounds_toArray, List.set_cons_zero, List.set_cons_succ, List.getElem_toArray, List.getElem_cons_succ, List.getElem_cons_zero])
                                  have q1 : w.heap.size ≤ W39.heap.size := by have := HGT.out; have := HB4.out; omega
                                  have q2 : F < W39.heap.size := by have := HGT.out; have := HB4.out; omega
                                  have q3 : g ≠ W39.heap.size := by have := HGT.out; have := HB4.out; omega
                                  have q4 : w4.heap.size ≤ W39.heap.size := HGT.out
                                  have z0 := HG58_.out.cell 0
                                  have z1 := HG58_.out.cell 1
                                  have z2 := HG58_.out.cell 2
                                  have z3 := HG58_.out.cell 3
                                  have y0 := HG58_.out.frozen 0
                                  have y1 := HG58_.out.frozen 1
                                  have y2 := HG58_.out.frozen 2
                                  have y3 := HG58_.out.frozen 3
                                  simp at z0 z1 z2 z3
                                  have HF9 := Lib.hid (SSt.put (G := W39.heap.size) (j := 3) (x := .int .i64 (1 + p)) (SSt.put (G := W39.heap.size) (j := 2) (x := .int .i64 dy) (SSt.put (G := W39.heap.size) (j := 1) (x := .int .i64 ev) (SSt.put (G := W39.heap.size) (j := 0) (x := .int .i64 x1) HS58_.out q1 hlt q2 q3 q4) q1 hlt q2 q3 q4) q1 hlt q2 q3 q4) q1 hlt q2 q3 q4)
                                  have HB9 := Lib.hid (BxV.set (cs' := [.int .i64 x1, .int .i64 ev, .int .i64 dy, .int .i64 (1 + p)]) 3 (.int .i64 (1 + p)) (BxV.set (cs' := [.int .i64 x1, .int .i64 ev, .int .i64 dy, .int .i64 0]) 2 (.int .i64 dy) (BxV.set (cs' := [.int .i64 x1, .int .i64 ev, .int .i64 0, .int .i64 0]) 1 (.int .i64 ev) (BxV.set (cs' := [.int .i64 x1, .int .i64 0, .int .i64 0, .int .i64 0]) 0 (.int .i64 x1) HG58_.out rfl) rfl) rfl) rfl)
                                  refine wpAnyH_ready (rs := [13]) (by kernel_rfl) (by simp) ?_
                                  refine AllReadyH.cons rfl (fun K hK => ?_) AllReadyH.nil
                                  go_simp
                                  refine hK.out _ _ ?_ (fun hHeld => ?_)
                                  · exact HF9.out.f1
                                  · clear hK K
                                    (try simp only [Act.put, List.setIfInBounds_toArray, List.set_cons_zero, List.set_cons_succ, List.getElem_toArray, List.getElem_cons_succ, List.getElem_cons_zero])
                                    refine wpAnyH_done (by kernel_rfl) ?_ _
                                    (try go_wp2_with fail)
                                    go_meet
                                    exact ⟨_, ev, dy, p, rfl, bev, bdy, ⟨hp0, hp1⟩, q2, q4, HF9, HB9⟩
          · go_simp
            refine hK.out _ _ ?_ (fun hHeld => ?_)
            · exact (HS0_.out.al _).f1
            · clear hK K hHeld
              (try simp only [Act.put, List.setIfInBounds_toArray, List.set_cons_zero, List.set_cons_succ, List.getElem_toArray, List.getElem_cons_succ, List.getElem_cons_zero])
              refine gen_al (W := W0) ?_
              intro W59 hWn
              have HS59_ := Lib.hid (by rw [hWn]; exact HS0_.out.al _ : SSt w W59 B (M + 0) F lo hi x0 x1 x2 g c xs u5 t w4.heap.size)
              have HT59_ : Hid (w4.heap.size ≤ W59.heap.size) := Lib.hid (by rw [hWn]; exact Nat.le_trans HT0_.out (by simp))
              have HG59_ : Hid (BxV W59 W0.heap.size [.int .i64 0, .int .i64 0, .int .i64 0, .int .i64 0]) := Lib.hid (by rw [hWn]; exact BxV.new W0 _ _)
              have HGT : Hid (w4.heap.size ≤ W0.heap.size) := HT0_
              have hHeld : (fun w' : World => w'.cell? ⟨F, 1, none⟩ = some (.int .i64 x1)) W59 := HS59_.out.f1
              clear hWn HS0_ HT0_
              refine wpAnyH_ready (rs := [3, 6]) (by kernel_rfl) (by simp) ?_
              refine AllReadyH.cons rfl (fun K hK => ?_) (AllReadyH.cons rfl (fun K hK => ?_) AllReadyH.nil)
              · go_simp
                refine hK.out _ _ ?_ (fun hHeld => ?_)
                · exact (HS59_.out.al _).f1
                · clear hK K hHeld
                  (try simp only [Act.put, List.setIfInBounds_toArray, List.set_cons_zero, List.set_cons_succ, List.getElem_toArray, List.getElem_cons_succ, List.getElem_cons_zero])
                  refine gen_al (W := W59) ?_
                  intro W60 hWn
                  have HS60_ := Lib.hid (by rw [hWn]; exact HS59_.out.al _ : SSt w W60 B (M + 0) F lo hi x0 x1 x2 g c xs u5 t w4.heap.size)
                  have HT60_ : Hid (w4.heap.size ≤ W60.heap.size) := Lib.hid (by rw [hWn]; exact Nat.le_trans HT59_.out (by simp))
                  have HG60_ : Hid (BxV W60 W0.heap.size [.int .i64 0, .int .i64 0, .int .i64 0, .int .i64 0]) := Lib.hid (by rw [hWn]; exact HG59_.out.al _)
                  have HL60_3 : Hid (NL W60 W59.heap.size [0, 0, 1, 2, 3]) := Lib.hid (by rw [hWn]; exact new_nums W59 [0, 0, 1, 2, 3] 3 _ rfl)
                  have HN60_3 : Hid (W59.heap.size ≠ B) := Lib.hid (by have := HS59_.out.dk.cur.lt; omega)
                  have hHeld : (fun w' : World => w'.cell? ⟨F, 1, none⟩ = some (.int .i64 x1)) W60 := HS60_.out.f1
                  clear hWn HS59_ HT59_ HG59_
                  refine wpAnyH_ready (rs := [4, 6]) (by kernel_rfl) (by simp) ?_
                  refine AllReadyH.cons rfl (fun K hK => ?_) (AllReadyH.cons rfl (fun K hK => ?_) AllReadyH.nil)
                  · go_simp
                    go_at_call 77
                    refine (amongZ_any B (M + 0) W59.heap.size 0 5 5 [0, 0, 1, 2, 3] _ HS60_.out.dk.cur (by omega) rfl (by omega) (by omega) HN60_3.out HL60_3.out).mono ?_
                    rintro e W61 ⟨ev, rfl, mev, hc, hg⟩
                    have bev : 0 ≤ ev ∧ ev ≤ 3 := by simp at mev; omega
                    clear mev
                    have HS61_ := Lib.hid (HS60_.out.step hlt hwF hBlo hc hg)
                    have HT61_ : Hid (w4.heap.size ≤ W61.heap.size) := Lib.hid (Nat.le_trans HT60_.out hg.size)
                    have HG61_ : Hid (BxV W61 W0.heap.size [.int .i64 0, .int .i64 0, .int .i64 0, .int .i64 0]) := Lib.hid (HG60_.out.grown hg (by have := HGT.out; have := HB4.out; simp; omega))
                    clear hc hg HS60_ HT60_ HL60_3 HG60_
                    (try go_wp2_with fail)
                    refine hK.out _ _ ?_ (fun hHeld => ?_)
                    · exact HS61_.out.f1
                    · clear hK K
                      (try simp only [Act.put, List.setIfInBounds_toArray, List.set_cons_zero, List.set_cons_succ, List.getElem_toArray, List.getElem_cons_succ, List.getElem_cons_zero])
                      refine wpAnyH_ready (rs := [6]) (by kernel_rfl) (by simp) ?_
                      refine AllReadyH.cons rfl (fun K hK => ?_) AllReadyH.nil
                      · go_simp
                        refine hK.out _ _ ?_ (fun hHeld => ?_)
                        · exact (HS61_.out.al _).f1
                        · clear hK K hHeld
                          (try simp only [Act.put, List.setIfInBounds_toArray, List.set_cons_zero, List.set_cons_succ, List.getElem_toArray, List.getElem_cons_succ, List.getElem_cons_zero])
                          refine gen_al (W := W61) ?_
                          intro W62 hWn
                          have HS62_ := Lib.hid (by rw [hWn]; exact HS61_.out.al _ : SSt w W62 B (M + 2) F lo hi x0 x1 x2 g c xs u5 t w4.heap.size)
                          have HT62_ : Hid (w4.heap.size ≤ W62.heap.size) := Lib.hid (by rw [hWn]; exact Nat.le_trans HT61_.out (by simp))
                          have HG62_ : Hid (BxV W62 W0.heap.size [.int .i64 0, .int .i64 0, .int .i64 0, .int .i64 0]) := Lib.hid (by rw [hWn]; exact HG61_.out.al _)
                          have HL62_6 : Hid (NL W62 W61.heap.size [0, 30, 365, 1000]) := Lib.hid (by rw [hWn]; exact new_nums W61 [0, 30, 365, 1000] 3 _ rfl)
                          have HN62_6 : Hid (W61.heap.size ≠ B) := Lib.hid (by have := HS61_.out.dk.cur.lt; omega)
                          have hHeld : (fun w' : World => w'.cell? ⟨F, 1, none⟩ = some (.int .i64 x1)) W62 := HS62_.out.f1
                          clear hWn HS61_ HT61_ HG61_
                          refine wpAnyH_ready (rs := [7]) (by kernel_rfl) (by simp) ?_
                          refine AllReadyH.cons rfl (fun K hK => ?_) AllReadyH.nil
                          · go_simp
                            go_at_call 77
                            refine (amongZ_any B (M + 2) W61.heap.size 0 4 4 [0, 30, 365, 1000] _ HS62_.out.dk.cur (by omega) rfl (by omega) (by omega) HN62_6.out HL62_6.out).mono ?_
                            rintro e W63 ⟨dy, rfl, mdy, hc, hg⟩
                            have bdy : 0 ≤ dy ∧ dy ≤ 1000 := by simp at mdy; omega
                            clear mdy
                            have HS63_ := Lib.hid (HS62_.out.step hlt hwF hBlo hc hg)
                            have HT63_ : Hid (w4.heap.size ≤ W63.heap.size) := Lib.hid (Nat.le_trans HT62_.out hg.size)
                            have HG63_ : Hid (BxV W63 W0.heap.size [.int .i64 0, .int .i64 0, .int .i64 0, .int .i64 0]) := Lib.hid (HG62_.out.grown hg (by have := HGT.out; have := HB4.out; simp; omega))
                            clear hc hg HS62_ HT62_ HL62_6 HG62_
                            (try go_wp2_with fail)
                            refine hK.out _ _ ?_ (fun hHeld => ?_)
                            · exact HS63_.out.f1
                            · clear hK K
                              (try simp only [Act.put, List.setIfInBounds_toArray, List.set_cons_zero, List.set_cons_succ, List.getElem_toArray, List.getElem_cons_succ, List.getElem_cons_zero])
                              refine wpAnyH_ready (rs := [9]) (by kernel_rfl) (by simp) ?_
                              refine AllReadyH.cons rfl (fun K hK => ?_) AllReadyH.nil
                              · go_simp
                                go_at_call 81
                                refine (pick_any B (M + 4) 3 _ HS63_.out.dk.cur (by omega) (by omega) (by omega)).mono ?_
                                rintro e W64 ⟨p, rfl, hp0, hp1, hc, hg⟩
                                have hwp : IntKind.i64.wrap (1 + p) = 1 + p := Go.IntWalk.i64_in _ (by omega)
                                have HS64_ := Lib.hid (HS63_.out.step hlt hwF hBlo hc hg)
                                have HT64_ : Hid (w4.heap.size ≤ W64.heap.size) := Lib.hid (Nat.le_trans HT63_.out hg.size)
                                have HG64_ : Hid (BxV W64 W0.heap.size [.int .i64 0, .int .i64 0, .int .i64 0, .int .i64 0]) := Lib.hid (HG63_.out.grown hg (by have := HGT.out; have := HB4.out; simp; omega))
                                clear hc hg HS63_ HT63_ HG63_
                                (try go_wp2_with fail)
                                refine hK.out _ _ ?_ (fun hHeld => ?_)
                                · exact HS64_.out.f1
                                · clear hK K
                                  (try simp only [Act.put, List.setIfInBounds_toArray, List.set_cons_zero, List.set_cons_succ, List.getElem_toArray, List.getElem_cons_succ, List.getElem_cons_zero])
                                  refine wpAnyH_take (i := 10) (v := ?_) rfl (by kernel_rfl) (by kernel_rfl) (by kernel_rfl) (fun _ _ _ h => h) (Or.inl ⟨by rfl, ?_⟩) (by assumption) ?_
                                  rotate_left
                                  · (intro w hSw; (try dsimp only at hSw); go_simp; first | done | with_reducible rfl)
                                  (try simp only [Act.put, List.setIfInBounds_toArray, List.set_cons_zero, List.set_cons_succ, List.getElem_toArray, List.getElem_cons_succ, List.getElem_cons_zero])
                                  refine wpAnyH_take (i := 11) (v := ?_) rfl (by kernel_rfl) (by kernel_rfl) (by kernel_rfl) (fun _ _ _ h => h) (Or.inl ⟨by rfl, ?_⟩) (by assumption) ?_
                                  rotate_left
                                  · (intro w hSw; (try dsimp only at hSw); go_simp; first | done | with_reducible rfl)
                                  (try simp only [Act.put, List.setIfInBounds_toArray, List.set_cons_zero, List.set_cons_succ, List.getElem_toArray, List.getElem_cons_succ, List.getElem_cons_zero])
                                  have q1 : w.heap.size ≤ W0.heap.size := by have := HGT.out; have := HB4.out; omega
                                  have q2 : F < W0.heap.size := by have := HGT.out; have := HB4.out; omega
                                  have q3 : g ≠ W0.heap.size := by have := HGT.out; have := HB4.out; omega
                                  have q4 : w4.heap.size ≤ W0.heap.size := HGT.out
                                  have z0 := HG64_.out.cell 0
                                  have z1 := HG64_.out.cell 1
                                  have z2 := HG64_.out.cell 2
                                  have z3 := HG64_.out.cell 3
                                  have y0 := HG64_.out.frozen 0
                                  have y1 := HG64_.out.frozen 1
                                  have y2 := HG64_.out.frozen 2
                                  have y3 := HG64_.out.frozen 3
                                  simp at z0 z1 z2 z3
                                  have HF9 := Lib.hid (SSt.put (G := W0.heap.size) (j := 3) (x := .int .i64 (1 + p)) (SSt.put (G := W0.heap.size) (j := 2) (x := .int .i64 dy) (SSt.put (G := W0.heap.size) (j := 1) (x := .int .i64 ev) (SSt.put (G := W0.heap.size) (j := 0) (x := .int .i64 x1) HS64_.out q1 hlt q2 q3 q4) q1 hlt q2 q3 q4) q1 hlt q2 q3 q4) q1 hlt q2 q3 q4)
                                  have HB9 := Lib.hid (BxV.set (cs' := [.int .i64 x1, .int .i64 ev, .int .i64 dy, .int .i64 (1 + p)]) 3 (.int .i64 (1 + p)) (BxV.set (cs' := [.int .i64 x1, .int .i64 ev, .int .i64 dy, .int .i64 0]) 2 (.int .i64 dy) (BxV.set (cs' := [.int .i64 x1, .int .i64 ev, .int .i64 0, .int .i64 0]) 1 (.int .i64 ev) (BxV.set (cs' := [.int .i64 x1, .int .i64 0, .int .i64 0, .int .i64 0]) 0 (.int .i64 x1) HG64_.out rfl) rfl) rfl) rfl)
                                  refine wpAnyH_ready (rs := [13]) (by kernel_rfl) (by simp) ?_
                                  refine AllReadyH.cons rfl (fun K hK => ?_) AllReadyH.nil
                                  go_simp
                                  refine hK.out _ _ ?_ (fun hHeld => ?_)
                                  · exact HF9.out.f1
                                  · clear hK K
                                    (try simp only [Act.put, List.setIfInBounds_toArray, List.set_cons_zero, List.set_cons_succ, List.getElem_toArray, List.getElem_cons_succ, List.getElem_cons_zero])
                                    refine wpAnyH_done (by kernel_rfl) ?_ _
                                    (try go_wp2_with fail)
                                    go_meet
                                    exact ⟨_, ev, dy, p, rfl, bev, bdy, ⟨hp0, hp1⟩, q2, q4, HF9, HB9⟩
                  · go_simp
                    refine hK.out _ _ ?_ (fun hHeld => ?_)
                    · exact (HS60_.out.al _).f1
                    · clear hK K hHeld
                      (try simp only [Act.put, List.setIfInBounds_toArray, List.set_cons_zero, List.set_cons_succ, List.getElem_toArray, List.getElem_cons_succ, List.getElem_cons_zero])
                      refine gen_al (W := W60) ?_
                      intro W65 hWn
                      have HS65_ := Lib.hid (by rw [hWn]; exact HS60_.out.al _ : SSt w W65 B (M + 0) F lo hi x0 x1 x2 g c xs u5 t w4.heap.size)
                      have HT65_ : Hid (w4.heap.size ≤ W65.heap.size) := Lib.hid (by rw [hWn]; exact Nat.le_trans HT60_.out (by simp))
                      have HL65_3 : Hid (NL W65 W59.heap.size [0, 0, 1, 2, 3]) := Lib.hid (by rw [hWn]; exact HL60_3.out.al _)
                      have HG65_ : Hid (BxV W65 W0.heap.size [.int .i64 0, .int .i64 0, .int .i64 0, .int .i64 0]) := Lib.hid (by rw [hWn]; exact HG60_.out.al _)
                      have HL65_6 : Hid (NL W65 W60.heap.size [0, 30, 365, 1000]) := Lib.hid (by rw [hWn]; exact new_nums W60 [0, 30, 365, 1000] 3 _ rfl)
                      have HN65_6 : Hid (W60.heap.size ≠ B) := Lib.hid (by have := HS60_.out.dk.cur.lt; omega)
                      have hHeld : (fun w' : World => w'.cell? ⟨F, 1, none⟩ = some (.int .i64 x1)) W65 := HS65_.out.f1
                      clear hWn HS60_ HT60_ HL60_3 HG60_
                      refine wpAnyH_ready (rs := [4]) (by kernel_rfl) (by simp) ?_
                      refine AllReadyH.cons rfl (fun K hK => ?_) AllReadyH.nil
                      · go_simp
                        go_at_call 77
                        refine (amongZ_any B (M + 0) W59.heap.size 0 5 5 [0, 0, 1, 2, 3] _ HS65_.out.dk.cur (by omega) rfl (by omega) (by omega) HN60_3.out HL65_3.out).mono ?_
                        rintro e W66 ⟨ev, rfl, mev, hc, hg⟩
                        have bev : 0 ≤ ev ∧ ev ≤ 3 := by simp at mev; omega
                        clear mev
                        have HS66_ := Lib.hid (HS65_.out.step hlt hwF hBlo hc hg)
                        have HT66_ : Hid (w4.heap.size ≤ W66.heap.size) := Lib.hid (Nat.le_trans HT65_.out hg.size)
                        have HL66_6 : Hid (NL W66 W60.heap.size [0, 30, 365, 1000]) := Lib.hid (HL65_6.out.grown hg HN65_6.out)
                        have HG66_ : Hid (BxV W66 W0.heap.size [.int .i64 0, .int .i64 0, .int .i64 0, .int .i64 0]) := Lib.hid (HG65_.out.grown hg (by have := HGT.out; have := HB4.out; simp; omega))
                        clear hc hg HS65_ HT65_ HL65_3 HL65_6 HG65_
                        (try go_wp2_with fail)
                        refine hK.out _ _ ?_ (fun hHeld => ?_)
                        · exact HS66_.out.f1
                        · clear hK K
                          (try simp only [Act.put, List.setIfInBounds_toArray, List.set_cons_zero, List.set_cons_succ, List.getElem_toArray, List.getElem_cons_succ, List.getElem_cons_zero])
                          refine wpAnyH_ready (rs := [7]) (by kernel_rfl) (by simp) ?_
                          refine AllReadyH.cons rfl (fun K hK => ?_) AllReadyH.nil
                          · go_simp
                            go_at_call 77
                            refine (amongZ_any B (M + 2) W60.heap.size 0 4 4 [0, 30, 365, 1000] _ HS66_.out.dk.cur (by omega) rfl (by omega) (by omega) HN65_6.out HL66_6.out).mono ?_
                            rintro e W67 ⟨dy, rfl, mdy, hc, hg⟩
                            have bdy : 0 ≤ dy ∧ dy ≤ 1000 := by simp at mdy; omega
                            clear mdy
                            have HS67_ := Lib.hid (HS66_.out.step hlt hwF hBlo hc hg)
                            have HT67_ : Hid (w4.heap.size ≤ W67.heap.size) := Lib.hid (Nat.le_trans HT66_.out hg.size)
                            have HG67_ : Hid (BxV W67 W0.heap.size [.int .i64 0, .int .i64 0, .int .i64 0, .int .i64 0]) := Lib.hid (HG66_.out.grown hg (by have := HGT.out; have := HB4.out; simp; omega))
                            clear hc hg HS66_ HT66_ HL66_6 HG66_
                            (try go_wp2_with fail)
                            refine hK.out _ _ ?_ (fun hHeld => ?_)
                            · exact HS67_.out.f1
                            · clear hK K
                              (try simp only [Act.put, List.setIfInBounds_toArray, List.set_cons_zero, List.set_cons_succ, List.getElem_toArray, List.getElem_cons_succ, List.getElem_cons_zero])
                              refine wpAnyH_ready (rs := [9]) (by kernel_rfl) (by simp) ?_
                              refine AllReadyH.cons rfl (fun K hK => ?_) AllReadyH.nil
                              · go_simp
                                go_at_call 81
                                refine (pick_any B (M + 4) 3 _ HS67_.out.dk.cur (by omega) (by omega) (by omega)).mono ?_
                                rintro e W68 ⟨p, rfl, hp0, hp1, hc, hg⟩
                                have hwp : IntKind.i64.wrap (1 + p) = 1 + p := Go.IntWalk.i64_in _ (by omega)
                                have HS68_ := Lib.hid (HS67_.out.step hlt hwF hBlo hc hg)
                                have HT68_ : Hid (w4.heap.size ≤ W68.heap.size) := Lib.hid (Nat.le_trans HT67_.out hg.size)
                                have HG68_ : Hid (BxV W68 W0.heap.size [.int .i64 0, .int .i64 0, .int .i64 0, .int .i64 0]) := Lib.hid (HG67_.out.grown hg (by have := HGT.out; have := HB4.out; simp; omega))
                                clear hc hg HS67_ HT67_ HG67_
                                (try go_wp2_with fail)
                                refine hK.out _ _ ?_ (fun hHeld => ?_)
                                · exact HS68_.out.f1
                                · clear hK K
                                  (try simp only [Act.put, List.setIfInBounds_toArray, List.set_cons_zero, List.set_cons_succ, List.getElem_toArray, List.getElem_cons_succ, List.getElem_cons_zero])
                                  refine wpAnyH_take (i := 10) (v := ?_) rfl (by kernel_rfl) (by kernel_rfl) (by kernel_rfl) (fun _ _ _ h => h) (Or.inl ⟨by rfl, ?_⟩) (by assumption) ?_
                                  rotate_left
                                  · (intro w hSw; (try dsimp only at hSw); go_simp; first | done | with_reducible rfl)
                                  (try simp only [Act.put, List.setIfInBounds_toArray, List.set_cons_zero, List.set_cons_succ, List.getElem_toArray, List.getElem_cons_succ, List.getElem_cons_zero])
                                  refine wpAnyH_take (i := 11) (v := ?_) rfl (by kernel_rfl) (by kernel_rfl) (by kernel_rfl) (fun _ _ _ h => h) (Or.inl ⟨by rfl, ?_⟩) (by assumption) ?_
                                  rotate_left
                                  · (intro w hSw; (try dsimp only at hSw); go_simp; first | done | with_reducible rfl)
                                  (try simp only [Act.put, List.setIfInBounds_toArray, List.set_cons_zero, List.set_cons_succ, List.getElem_toArray, List.getElem_cons_succ, List.getElem_cons_zero])
                                  have q1 : w.heap.size ≤ W0.heap.size := by have := HGT.out; have := HB4.out; omega
                                  have q2 : F < W0.heap.size := by have := HGT.out; have := HB4.out; omega
                                  have q3 : g ≠ W0.heap.size := by have := HGT.out; have := HB4.out; omega
                                  have q4 : w4.heap.size ≤ W0.heap.size := HGT.out
                                  have z0 := HG68_.out.cell 0
                                  have z1 := HG68_.out.cell 1
                                  have z2 := HG68_.out.cell 2
                                  have z3 := HG68_.out.cell 3
                                  have y0 := HG68_.out.frozen 0
                                  have y1 := HG68_.out.frozen 1
                                  have y2 := HG68_.out.frozen 2
                                  have y3 := HG68_.out.frozen 3
                                  simp at z0 z1 z2 z3
                                  have HF9 := Lib.hid (SSt.put (G := W0.heap.size) (j := 3) (x := .int .i64 (1 + p)) (SSt.put (G := W0.heap.size) (j := 2) (x := .int .i64 dy) (SSt.put (G := W0.heap.size) (j := 1) (x := .int .i64 ev) (SSt.put (G := W0.heap.size) (j := 0) (x := .int .i64 x1) HS68_.out q1 hlt q2 q3 q4) q1 hlt q2 q3 q4) q1 hlt q2 q3 q4) q1 hlt q2 q3 q4)
                                  have HB9 := Lib.hid (BxV.set (cs' := [.int .i64 x1, .int .i64 ev, .int .i64 dy, .int .i64 (1 + p)]) 3 (.int .i64 (1 + p)) (BxV.set (cs' := [.int .i64 x1, .int .i64 ev, .int .i64 dy, .int .i64 0]) 2 (.int .i64 dy) (BxV.set (cs' := [.int .i64 x1, .int .i64 ev, .int .i64 0, .int .i64 0]) 1 (.int .i64 ev) (BxV.set (cs' := [.int .i64 x1, .int .i64 0, .int .i64 0, .int .i64 0]) 0 (.int .i64 x1) HG68_.out rfl) rfl) rfl) rfl)
                                  refine wpAnyH_ready (rs := [13]) (by kernel_rfl) (by simp) ?_
                                  refine AllReadyH.cons rfl (fun K hK => ?_) AllReadyH.nil
                                  go_simp
                                  refine hK.out _ _ ?_ (fun hHeld => ?_)
                                  · exact HF9.out.f1
                                  · clear hK K
                                    (try simp only [Act.put, List.setIfInBounds_toArray, List.set_cons_zero, List.set_cons_succ, List.getElem_toArray, List.getElem_cons_succ, List.getElem_cons_zero])
                                    refine wpAnyH_done (by kernel_rfl) ?_ _
                                    (try go_wp2_with fail)
                                    go_meet
                                    exact ⟨_, ev, dy, p, rfl, bev, bdy, ⟨hp0, hp1⟩, q2, q4, HF9, HB9⟩
              · go_simp
                refine hK.out _ _ ?_ (fun hHeld => ?_)
                · exact (HS59_.out.al _).f1
                · clear hK K hHeld
                  (try simp only [Act.put, List.setIfInBounds_toArray, List.set_cons_zero, List.set_cons_succ, List.getElem_toArray, List.getElem_cons_succ, List.getElem_cons_zero])
                  refine gen_al (W := W59) ?_
                  intro W69 hWn
                  have HS69_ := Lib.hid (by rw [hWn]; exact HS59_.out.al _ : SSt w W69 B (M + 0) F lo hi x0 x1 x2 g c xs u5 t w4.heap.size)
                  have HT69_ : Hid (w4.heap.size ≤ W69.heap.size) := Lib.hid (by rw [hWn]; exact Nat.le_trans HT59_.out (by simp))
                  have HG69_ : Hid (BxV W69 W0.heap.size [.int .i64 0, .int .i64 0, .int .i64 0, .int .i64 0]) := Lib.hid (by rw [hWn]; exact HG59_.out.al _)
                  have HL69_6 : Hid (NL W69 W59.heap.size [0, 30, 365, 1000]) := Lib.hid (by rw [hWn]; exact new_nums W59 [0, 30, 365, 1000] 3 _ rfl)
                  have HN69_6 : Hid (W59.heap.size ≠ B) := Lib.hid (by have := HS59_.out.dk.cur.lt; omega)
                  have hHeld : (fun w' : World => w'.cell? ⟨F, 1, none⟩ = some (.int .i64 x1)) W69 := HS69_.out.f1
                  clear hWn HS59_ HT59_ HG59_
                  refine wpAnyH_ready (rs := [3]) (by kernel_rfl) (by simp) ?_
                  refine AllReadyH.cons rfl (fun K hK => ?_) AllReadyH.nil
                  · go_simp
                    refine hK.out _ _ ?_ (fun hHeld => ?_)
                    · exact (HS69_.out.al _).f1
                    · clear hK K hHeld
                      (try simp only [Act.put, List.setIfInBounds_toArray, List.set_cons_zero, List.set_cons_succ, List.getElem_toArray, List.getElem_cons_succ, List.getElem_cons_zero])
                      refine gen_al (W := W69) ?_
                      intro W70 hWn
                      have HS70_ := Lib.hid (by rw [hWn]; exact HS69_.out.al _ : SSt w W70 B (M + 0) F lo hi x0 x1 x2 g c xs u5 t w4.heap.size)
                      have HT70_ : Hid (w4.heap.size ≤ W70.heap.size) := Lib.hid (by rw [hWn]; exact Nat.le_trans HT69_.out (by simp))
                      have HL70_6 : Hid (NL W70 W59.heap.size [0, 30, 365, 1000]) := Lib.hid (by rw [hWn]; exact HL69_6.out.al _)
                      have HG70_ : Hid (BxV W70 W0.heap.size [.int .i64 0, .int .i64 0, .int .i64 0, .int .i64 0]) := Lib.hid (by rw [hWn]; exact HG69_.out.al _)
                      have HL70_3 : Hid (NL W70 W69.heap.size [0, 0, 1, 2, 3]) := Lib.hid (by rw [hWn]; exact new_nums W69 [0, 0, 1, 2, 3] 3 _ rfl)
                      have HN70_3 : Hid (W69.heap.size ≠ B) := Lib.hid (by have := HS69_.out.dk.cur.lt; omega)
                      have hHeld : (fun w' : World => w'.cell? ⟨F, 1, none⟩ = some (.int .i64 x1)) W70 := HS70_.out.f1
                      clear hWn HS69_ HT69_ HL69_6 HG69_
                      refine wpAnyH_ready (rs := [4]) (by kernel_rfl) (by simp) ?_
                      refine AllReadyH.cons rfl (fun K hK => ?_) AllReadyH.nil
                      · go_simp
                        go_at_call 77
                        refine (amongZ_any B (M + 0) W69.heap.size 0 5 5 [0, 0, 1, 2, 3] _ HS70_.out.dk.cur (by omega) rfl (by omega) (by omega) HN70_3.out HL70_3.out).mono ?_
                        rintro e W71 ⟨ev, rfl, mev, hc, hg⟩
                        have bev : 0 ≤ ev ∧ ev ≤ 3 := by simp at mev; omega
                        clear mev
                        have HS71_ := Lib.hid (HS70_.out.step hlt hwF hBlo hc hg)
                        have HT71_ : Hid (w4.heap.size ≤ W71.heap.size) := Lib.hid (Nat.le_trans HT70_.out hg.size)
                        have HL71_6 : Hid (NL W71 W59.heap.size [0, 30, 365, 1000]) := Lib.hid (HL70_6.out.grown hg HN69_6.out)
                        have HG71_ : Hid (BxV W71 W0.heap.size [.int .i64 0, .int .i64 0, .int .i64 0, .int .i64 0]) := Lib.hid (HG70_.out.grown hg (by have := HGT.out; have := HB4.out; simp; omega))
                        clear hc hg HS70_ HT70_ HL70_3 HL70_6 HG70_
                        (try go_wp2_with fail)
                        refine hK.out _ _ ?_ (fun hHeld => ?_)
                        · exact HS71_.out.f1
                        · clear hK K
                          (try simp only [Act.put, List.setIfInBounds_toArray, List.set_cons_zero, List.set_cons_succ, List.getElem_toArray, List.getElem_cons_succ, List.getElem_cons_zero])
                          refine wpAnyH_ready (rs := [7]) (by kernel_rfl) (by simp) ?_
                          refine AllReadyH.cons rfl (fun K hK => ?_) AllReadyH.nil
                          · go_simp
                            go_at_call 77
                            refine (amongZ_any B (M + 2) W59.heap.size 0 4 4 [0, 30, 365, 1000] _ HS71_.out.dk.cur (by omega) rfl (by omega) (by omega) HN69_6.out HL71_6.out).mono ?_
                            rintro e W72 ⟨dy, rfl, mdy, hc, hg⟩
                            have bdy : 0 ≤ dy ∧ dy ≤ 1000 := by simp at mdy; omega
                            clear mdy
                            have HS72_ := Lib.hid (HS71_.out.step hlt hwF hBlo hc hg)
                            have HT72_ : Hid (w4.heap.size ≤ W72.heap.size) := Lib.hid (Nat.le_trans HT71_.out hg.size)
                            have HG72_ : Hid (BxV W72 W0.heap.size [.int .i64 0, .int .i64 0, .int .i64 0, .int .i64 0]) := Lib.hid (HG71_.out.grown hg (by have := HGT.out; have := HB4.out; simp; omega))
                            clear hc hg HS71_ HT71_ HL71_6 HG71_
                            (try go_wp2_with fail)
                            refine hK.out _ _ ?_ (fun hHeld => ?_)
                            · exact HS72_.out.f1
                            · clear hK K
                              (try simp only [Act.put, List.setIfInBounds_toArray, List.set_cons_zero, List.set_cons_succ, List.getElem_toArray, List.getElem_cons_succ, List.getElem_cons_zero])
                              refine wpAnyH_ready (rs := [9]) (by kernel_rfl) (by simp) ?_
                              refine AllReadyH.cons rfl (fun K hK => ?_) AllReadyH.nil
                              · go_simp
                                go_at_call 81
                                refine (pick_any B (M + 4) 3 _ HS72_.out.dk.cur (by omega) (by omega) (by omega)).mono ?_
                                rintro e W73 ⟨p, rfl, hp0, hp1, hc, hg⟩
                                have hwp : IntKind.i64.wrap (1 + p) = 1 + p := Go.IntWalk.i64_in _ (by omega)
                                have HS73_ := Lib.hid (HS72_.out.step hlt hwF hBlo hc hg)
                                have HT73_ : Hid (w4.heap.size ≤ W73.heap.size) := Lib.hid (Nat.le_trans HT72_.out hg.size)
                                have HG73_ : Hid (BxV W73 W0.heap.size [.int .i64 0, .int .i64 0, .int .i64 0, .int .i64 0]) := Lib.hid (HG72_.out.grown hg (by have := HGT.out; have := HB4.out; simp; omega))
                                clear hc hg HS72_ HT72_ HG72_
                                (try go_wp2_with fail)
                                refine hK.out _ _ ?_ (fun hHeld => ?_)
                                · exact HS73_.out.f1
                                · clear hK K
                                  (try simp only [Act.put, List.setIfInBounds_toArray, List.set_cons_zero, List.set_cons_succ, List.getElem_toArray, List.getElem_cons_succ, List.getElem_cons_zero])
                                  refine wpAnyH_take (i := 10) (v := ?_) rfl (by kernel_rfl) (by kernel_rfl) (by kernel_rfl) (fun _ _ _ h => h) (Or.inl ⟨by rfl, ?_⟩) (by assumption) ?_
                                  rotate_left
                                  · (intro w hSw; (try dsimp only at hSw); go_simp; first | done | with_reducible rfl)
                                  (try simp only [Act.put, List.setIfInBounds_toArray, List.set_cons_zero, List.set_cons_succ, List.getElem_toArray, List.getElem_cons_succ, List.getElem_cons_zero])
                                  refine wpAnyH_take (i := 11) (v := ?_) rfl (by kernel_rfl) (by kernel_rfl) (by kernel_rfl) (fun _ _ _ h => h) (Or.inl ⟨by rfl, ?_⟩) (by assumption) ?_
                                  rotate_left
                                  · (intro w hSw; (try dsimp only at hSw); go_simp; first | done | with_reducible rfl)
                                  (try simp only [Act.put, List.setIfInBounds_toArray, List.set_cons_zero, List.set_cons_succ, List.getElem_toArray, List.getElem_cons_succ, List.getElem_cons_zero])
                                  have q1 : w.heap.size ≤ W0.heap.size := by have := HGT.out; have := HB4.out; omega
                                  have q2 : F < W0.heap.size := by have := HGT.out; have := HB4.out; omega
                                  have q3 : g ≠ W0.heap.size := by have := HGT.out; have := HB4.out; omega
                                  have q4 : w4.heap.size ≤ W0.heap.size := HGT.out
                                  have z0 := HG73_.out.cell 0
                                  have z1 := HG73_.out.cell 1
                                  have z2 := HG73_.out.cell 2
                                  have z3 := HG73_.out.cell 3
                                  have y0 := HG73_.out.frozen 0
                                  have y1 := HG73_.out.frozen 1
                                  have y2 := HG73_.out.frozen 2
                                  have y3 := HG73_.out.frozen 3
                                  simp at z0 z1 z2 z3
                                  have HF9 := Lib.hid (SSt.put (G := W0.heap.size) (j := 3) (x := .int .i64 (1 + p)) (SSt.put (G := W0.heap.size) (j := 2) (x := .int .i64 dy) (SSt.put (G := W0.heap.size) (j := 1) (x := .int .i64 ev) (SSt.put (G := W0.heap.size) (j := 0) (x := .int .i64 x1) HS73_.out q1 hlt q2 q3 q4) q1 hlt q2 q3 q4) q1 hlt q2 q3 q4) q1 hlt q2 q3 q4)
                                  have HB9 := Lib.hid (BxV.set (cs' := [.int .i64 x1, .int .i64 ev, .int .i64 dy, .int .i64 (1 + p)]) 3 (.int .i64 (1 + p)) (BxV.set (cs' := [.int .i64 x1, .int .i64 ev, .int .i64 dy, .int .i64 0]) 2 (.int .i64 dy) (BxV.set (cs' := [.int .i64 x1, .int .i64 ev, .int .i64 0, .int .i64 0]) 1 (.int .i64 ev) (BxV.set (cs' := [.int .i64 x1, .int .i64 0, .int .i64 0, .int .i64 0]) 0 (.int .i64 x1) HG73_.out rfl) rfl) rfl) rfl)
                                  refine wpAnyH_ready (rs := [13]) (by kernel_rfl) (by simp) ?_
                                  refine AllReadyH.cons rfl (fun K hK => ?_) AllReadyH.nil
                                  go_simp
                                  refine hK.out _ _ ?_ (fun hHeld => ?_)
                                  · exact HF9.out.f1
                                  · clear hK K
                                    (try simp only [Act.put, List.setIfInBounds_toArray, List.set_cons_zero, List.set_cons_succ, List.getElem_toArray, List.getElem_cons_succ, List.getElem_cons_zero])
                                    refine wpAnyH_done (by kernel_rfl) ?_ _
                                    (try go_wp2_with fail)
                                    go_meet
                                    exact ⟨_, ev, dy, p, rfl, bev, bdy, ⟨hp0, hp1⟩, q2, q4, HF9, HB9⟩
        case rest =>
          obtain ⟨G, ev, dy, p, rfl, bev, bdy, ⟨hp0, hp1⟩, hFG, hGT, HS5, HG5⟩ := hcut
          have HT : Hid (w4.heap.size ≤ G) := Lib.hid hGT
          have HBF4 : Hid (B < w4.heap.size ∧ F < w4.heap.size ∧ w.heap.size ≤ w4.heap.size) := Lib.hid ⟨HS4.out.dk.cur.lt, HS4.out.box.lt, HS4.out.dk.sz⟩
          clear hGT HS4
          obtain ⟨W5, hW5⟩ : ∃ x, x = wc := ⟨_, rfl⟩
          subst hW5
          have f3 := HS5.out.box.cell 3
          simp at f3
          by_cases hx : xs.length = 0
          · have hx2 : ¬ (0 : Int) < (xs.length : Int) := by omega
            have hx3 : decide ((0 : Int) < (xs.length : Int)) = false := decide_eq_false hx2
            clear hx
            have g0 := HG5.out.cell 0
            have g1 := HG5.out.cell 1
            have g2 := HG5.out.cell 2
            have g3 := HG5.out.cell 3
            simp at g0 g1 g2 g3
            obtain ⟨ys, b9, hres⟩ : ∃ ys b, putRes t ⟨x1, ev, dy, 1 + p⟩ = (ys, b) := ⟨_, _, rfl⟩
            have HRES := Lib.hid hres
            clear hres
            go_wp2_with fail
            refine (specPutRule_any _ t ⟨x1, ev, dy, 1 + p⟩ _ HS5.out.rus.row ⟨ix1, by show inI ev; unfold inI; omega, by show inI dy; unfold inI; omega, by show inI (1 + p); unfold inI; omega⟩ (by omega) ys b9 HRES.out).mono ?_
            rintro e w9 ⟨v9, rfl, ho9, b9_⟩
            have hu9 := HS5.out.dk.sz
            have HS9 := Lib.hid (HS5.out.below b9_)
            have HX9 := Lib.hid (ho9.wide hu9 (Nat.le_refl _))
            have hsz9 := b9_.size
            have hl9 := HG5.out.lt
            (try simp at hl9)
            (try simp at hsz9)
            clear ho9 b9_ HS5 HG5 g0 g1 g2 g3
            cases b9
            · go_wp2_with fail
              go_roundw
              case rel => exact ⟨k - 1, t, by omega, rfl, htl, Lib.hid (HS9.out.le (by have := HM.out; omega) (by have := HT.out; omega))⟩
              case measure => simp [intOf]; omega
            · have hyl := put_eight HRES.out
              go_wp2_with fail
              go_roundw
              case rel => exact ⟨k - 1, ys, by omega, rfl, by omega, Lib.hid ((HS9.out.lst HX9.out).le (by have := HM.out; omega) (Nat.le_refl _))⟩
              case measure => simp [intOf]; omega
          · have hx2 : (0 : Int) < (xs.length : Int) := by omega
            have hx3 : decide ((0 : Int) < (xs.length : Int)) = true := decide_eq_true hx2
            go_wp2_with fail
            refine (one_any B (M + 6) 2 _ HS5.out.dk.cur (by omega) (by omega) (by omega)).mono ?_
            rintro e w6 ⟨bb, rfl, hc, hg⟩
            have HS6 := Lib.hid (HS5.out.step hlt hwF hBlo hc hg)
            have HG6 := Lib.hid (HG5.out.grown hg (by simp; omega))
            clear hc hg HS5 HG5 f3
            cases bb
            · have g0 := HG6.out.cell 0
              have g1 := HG6.out.cell 1
              have g2 := HG6.out.cell 2
              have g3 := HG6.out.cell 3
              simp at g0 g1 g2 g3
              obtain ⟨ys, b9, hres⟩ : ∃ ys b, putRes t ⟨x1, ev, dy, 1 + p⟩ = (ys, b) := ⟨_, _, rfl⟩
              have HRES := Lib.hid hres
              clear hres
              go_wp2_with fail
              refine (specPutRule_any _ t ⟨x1, ev, dy, 1 + p⟩ _ HS6.out.rus.row ⟨ix1, by show inI ev; unfold inI; omega, by show inI dy; unfold inI; omega, by show inI (1 + p); unfold inI; omega⟩ (by omega) ys b9 HRES.out).mono ?_
              rintro e w9 ⟨v9, rfl, ho9, b9_⟩
              have hu9 := HS6.out.dk.sz
              have HS9 := Lib.hid (HS6.out.below b9_)
              have HX9 := Lib.hid (ho9.wide hu9 (Nat.le_refl _))
              have hsz9 := b9_.size
              have hl9 := HG6.out.lt
              (try simp at hl9)
              (try simp at hsz9)
              clear ho9 b9_ HS6 HG6 g0 g1 g2 g3
              cases b9
              · go_wp2_with fail
                go_roundw
                case rel => exact ⟨k - 1, t, by omega, rfl, htl, Lib.hid (HS9.out.le (by have := HM.out; omega) (by have := HT.out; omega))⟩
                case measure => simp [intOf]; omega
              · have hyl := put_eight HRES.out
                go_wp2_with fail
                go_roundw
                case rel => exact ⟨k - 1, ys, by omega, rfl, by omega, Lib.hid ((HS9.out.lst HX9.out).le (by have := HM.out; omega) (Nat.le_refl _))⟩
                case measure => simp [intOf]; omega
            · go_upto_region 7 with fail
              have f1 := HS6.out.box.cell 3
              simp at f1
              have e1 := HG6.out.cell 1
              have e1f := HG6.out.frozen 1
              simp at e1
              go_region_law (first | (go_simp; go_at_call 81; refine (pick_any B (M + 8) xs.length _ HS6.out.drew.dk.cur (by omega) (by omega) (by omega)).mono ?_; rintro e w7 ⟨i0, rfl, hi0, hi1, hc, hg⟩; obtain ⟨i, rfl⟩ := Int.eq_ofNat_of_zero_le hi0; have hil : i < xs.length := (by omega); have HS7 := Lib.hid (HS6.out.drew.step hlt hwF hBlo hc hg); have HG7 := Lib.hid (HG6.out.drew.grown hg (by simp; omega)); have f17 := HS7.out.box.cell 3; simp at f17; have e17 := HG7.out.cell 1; have e17f := HG7.out.frozen 1; simp at e17; have HEV : Hid (inI xs[i].kind) := Lib.hid (HS7.out.evs.2.1 _ (List.getElem_mem hil)).1; have ci := HS7.out.evs.1.cell i 0 (by simpa using hil) (by omega); simp [evC] at ci; clear hc hg))
              all_goals
                have HS8 := Lib.hid (HS7.out.put (G := G) (j := 1) (x := .int .i64 (xs[i].kind)) (by omega) hlt hFG (by omega) HT.out)
                have HG8 := Lib.hid (HG7.out.set (cs' := [.int .i64 x1, .int .i64 xs[i].kind, .int .i64 dy, .int .i64 (1 + p)]) 1 (.int .i64 xs[i].kind) rfl)
                clear HS7 HG7 e1 e1f f1 e17 e17f f17 ci HS6 HG6
                have g0 := HG8.out.cell 0
                have g1 := HG8.out.cell 1
                have g2 := HG8.out.cell 2
                have g3 := HG8.out.cell 3
                simp at g0 g1 g2 g3
                obtain ⟨ys, b9, hres⟩ : ∃ ys b, putRes t ⟨x1, xs[i].kind, dy, 1 + p⟩ = (ys, b) := ⟨_, _, rfl⟩
                have HRES := Lib.hid hres
                clear hres
                go_wp2_with fail
                refine (specPutRule_any _ t ⟨x1, xs[i].kind, dy, 1 + p⟩ _ HS8.out.rus.row ⟨ix1, HEV.out, by show inI dy; unfold inI; omega, by show inI (1 + p); unfold inI; omega⟩ (by omega) ys b9 HRES.out).mono ?_
                rintro e w9 ⟨v9, rfl, ho9, b9_⟩
                have hu9 := HS8.out.dk.sz
                have HS9 := Lib.hid (HS8.out.below b9_)
                have HX9 := Lib.hid (ho9.wide hu9 (Nat.le_refl _))
                have hsz9 := b9_.size
                have hl9 := HG8.out.lt
                (try simp at hl9)
                (try simp at hsz9)
                clear ho9 b9_ HS8 HG8 g0 g1 g2 g3
                cases b9
                · go_wp2_with fail
                  go_roundw
                  case rel => exact ⟨k - 1, t, by omega, rfl, htl, Lib.hid (HS9.out.le (by have := HM.out; omega) (by have := HT.out; omega))⟩
                  case measure => simp [intOf]; omega
                · have hyl := put_eight HRES.out
                  go_wp2_with fail
                  go_roundw
                  case rel => exact ⟨k - 1, ys, by omega, rfl, by omega, Lib.hid ((HS9.out.lst HX9.out).le (by have := HM.out; omega) (Nat.le_refl _))⟩
                  case measure => simp [intOf]; omega
    · obtain rfl : k = 0 := by omega
      go_wp2_with fail
      go_ret
      exact ⟨_, t, rfl, by omega, HS.out.rus, HS.out.dk.cur.le_K (by omega), HS.out.dk.gr⟩
end Go.Proofs.Ytenjajcknmfhfaa

namespace Go.Proofs.Ytenjajcknmfhfaa
set_option linter.unusedVariables false
set_option linter.unusedSimpArgs false
open Go.RowKit

theorem isRow_afterI {k : IntKind} {w w' : World} {a : Option Addr} {len cap : Nat} {zs : List Int} (h : IsRow k w a len cap zs) (hb : Below w.heap.size w w') : IsRow k w' a len cap zs := by
  refine h.imp id ?_
  rintro ⟨x, rfl, hl, hm, hz, hc, hw⟩
  refine ⟨x, rfl, hl, hm, hz, fun i hi => ?_, hw⟩
  have := hc i hi
  exact (hb.cell (World.block_lt_of_cell? w _ this)).trans this
def IrDrawn (w : World) (e : Ending) (w' : World) : Prop := ∃ (r : Rec) (g c : Nat), e = .returned (.agg #[.int .i64 r.id, .int .i64 r.series, .int .i64 r.made, .slice (some ⟨g, 0, none⟩) r.evs.length c]) ∧ r.ok ∧ EvsO w.heap.size w'.heap.size w' (.slice (some ⟨g, 0, none⟩) r.evs.length c) r.evs ∧ Below w.heap.size w w'
set_option maxRecDepth 20000 in
set_option maxHeartbeats 8000000 in
theorem drawIsRec_any (a : Option Addr) (len cap : Nat) (zs : List Int) (w : World) (h : IsRow .u8 w a len cap zs) (hl : len ≤ 1099511627776) :
    Calls Try.prog 40 #[.slice a len cap] w (IrDrawn w) := by
  obtain ⟨R, hR⟩ : ∃ R, w.heap.size = R := ⟨_, rfl⟩
  obtain ⟨B, hB⟩ : ∃ B, R + 1 = B := ⟨_, rfl⟩
  have hRB : R < B := by omega
  have hwR : w.heap.size ≤ R := by omega
  have hs0 : (w.alloc (.cells #[.int .i64 0, .int .i64 0, .int .i64 0, .slice none 0 0] 63 (0, 0))).heap.size = B := by simp; omega
  have hs1 : ((w.alloc (.cells #[.int .i64 0, .int .i64 0, .int .i64 0, .slice none 0 0] 63 (0, 0))).alloc (.cells #[.slice a len cap, .int .i64 0, .int .u64 0] 104 (0, 0))).heap.size = B + 1 := by simp; omega
  have hcur := cur_new (isRow_afterI h (below_al (Below.refl _ _) (.cells #[.int .i64 0, .int .i64 0, .int .i64 0, .slice none 0 0] 63 (0, 0)))) hl 104
  rw [hs0] at hcur
  have HD0 : Hid (Dk w ((w.alloc (.cells #[.int .i64 0, .int .i64 0, .int .i64 0, .slice none 0 0] 63 (0, 0))).alloc (.cells #[.slice a len cap, .int .i64 0, .int .u64 0] 104 (0, 0))) B 0) := Lib.hid ⟨hcur, grownBy_of_below (below_al (below_al (Below.refl _ _) _) _) _⟩
  have HR0 : Hid (BxV ((w.alloc (.cells #[.int .i64 0, .int .i64 0, .int .i64 0, .slice none 0 0] 63 (0, 0))).alloc (.cells #[.slice a len cap, .int .i64 0, .int .u64 0] 104 (0, 0))) R [.int .i64 0, .int .i64 0, .int .i64 0, .slice none 0 0]) := Lib.hid ((BxV.new' hR _ _).al _)
  have HS1 := Lib.hid hs1
  clear h hcur hs0 hs1
  have HRE := Lib.hid hR
  have HBE := Lib.hid hB
  clear hR hB
  go_enter Try.func40, Try.ntmps40
  go_upto_region 2 with fail
  try rw [HRE.out]
  try rw [HBE.out]
  generalize hW1 : (w.alloc (.cells #[.int .i64 0, .int .i64 0, .int .i64 0, .slice none 0 0] 63 (0, 0))).alloc (.cells #[.slice a len cap, .int .i64 0, .int .u64 0] 104 (0, 0)) = W1 at *
  have HW1 := Lib.hid hW1
  clear hW1
  go_wp2_with fail
  refine (amongZ_any B 0 W1.heap.size 0 5 5 [1, 12, 999, 0, 1000] _ (HD0.out.al (.cells (([1, 12, 999, 0, 1000] : List Int).map (Value.int .i64)).toArray 3)).cur (by omega) rfl (by omega) (by omega) (by have := HD0.out.cur.lt; omega) (new_nums W1 [1, 12, 999, 0, 1000] 3 _ rfl)).mono ?_
  rintro e w2 ⟨n, rfl, mn, hc, hg⟩
  have i_n : inI n := by simp at mn; unfold inI; omega
  have HD2 := Lib.hid ((HD0.out.al (.cells (([1, 12, 999, 0, 1000] : List Int).map (Value.int .i64)).toArray 3)).step hc hg)
  have HR2 := Lib.hid ((HR0.out.al (.cells (([1, 12, 999, 0, 1000] : List Int).map (Value.int .i64)).toArray 3)).grown hg (by simp; omega))
  have hsz2 : B < w2.heap.size := hc.lt
  clear hc hg HD0 HR0 mn
  go_wp2_with fail
  refine (record_any B 2 n _ HD2.out.cur (by omega) i_n).mono ?_
  rintro e w3 ⟨⟨id, se, ma, xs⟩, g, c, rfl, hok, hma, hxl, he, hc, hg⟩
  (try dsimp only at hok hma hxl he)
  (try dsimp only)
  have HD3 := Lib.hid (HD2.out.step hc hg)
  have HR3 := Lib.hid (HR2.out.grown hg (by simp; omega))
  have HE3 := Lib.hid he
  clear hc hg he HD2 HR2
  have r0 := HR3.out.cell 0
  have r1 := HR3.out.cell 1
  have r2 := HR3.out.cell 2
  have r3 := HR3.out.cell 3
  simp at r0 r1 r2 r3
  have q0 := HR3.out.frozen 0
  have q1 := HR3.out.frozen 1
  have q2 := HR3.out.frozen 2
  have q3 := HR3.out.frozen 3
  have hw3 := HR3.out.lt
  go_wp2_with fail
  refine bodyPost_ret (v := .agg #[.int .i64 id, .int .i64 se, .int .i64 ma, .slice (some ⟨g, 0, none⟩) xs.length c]) (by simp [results, Try.results40, go_sem, r0, r1, r2, r3]) rfl ?_
  have hne : ∀ k, Value.ownBlock (.slice (some ⟨g, 0, none⟩) xs.length c) = some k → k ≠ R := fun k hk => by have := HE3.out.1.ge k hk; omega
  have hE := (((HE3.out.setOther (G := R) (j := 0) (x := .int .i64 id) hne).setOther (G := R) (j := 1) (x := .int .i64 se) hne).setOther (G := R) (j := 2) (x := .int .i64 ma) hne).setOther (G := R) (j := 3) (x := (.slice (some ⟨g, 0, none⟩) xs.length c)) hne
  have hb4 : Below w.heap.size w w3 := below_of_grownBy HD3.out.gr (Nat.le_refl _) (fun k e => by cases e; omega)
  have hb := (((hb4.setCell (p := ⟨R, 0, none⟩) hwR (.int .i64 id)).setCell (p := ⟨R, 1, none⟩) hwR (.int .i64 se)).setCell (p := ⟨R, 2, none⟩) hwR (.int .i64 ma)).setCell (p := ⟨R, 3, none⟩) hwR (.slice (some ⟨g, 0, none⟩) xs.length c)
  exact ⟨⟨id, se, ma, xs⟩, g, c, rfl, hok, hE.wide (by omega) (by simp), hb⟩
end Go.Proofs.Ytenjajcknmfhfaa

namespace Go.Proofs.Ytenjajcknmfhfaa
set_option linter.unusedVariables false
set_option linter.unusedSimpArgs false
open Go.RowKit

def HhIs (w w' : World) (v : Value) (es : List (Ho × Value)) (r : Rec) (g c : Nat) : Prop := r.ok ∧ es.length ≤ 12 ∧ r.evs.length ≤ 8 ∧ HosW w.heap.size w' v es ∧ EvsO w.heap.size w'.heap.size w' (.slice (some ⟨g, 0, none⟩) r.evs.length c) r.evs ∧ Below w.heap.size w w'
def HhDay (w : World) (e : Ending) (w' : World) : Prop := ∃ (r : Rec) (g c : Nat) (v : Value) (es : List (Ho × Value)) (n : Int), e = .returned (.tuple #[v, .agg #[.int .i64 r.id, .int .i64 r.series, .int .i64 r.made, .slice (some ⟨g, 0, none⟩) r.evs.length c], .int .i64 n]) ∧ inI n ∧ HhIs w w' v es r g c
def HhSch (w : World) (e : Ending) (w' : World) : Prop := ∃ (r : Rec) (g c : Nat) (v v2 : Value) (es : List (Ho × Value)) (u : List Ru), e = .returned (.tuple #[v, .agg #[.int .i64 r.id, .int .i64 r.series, .int .i64 r.made, .slice (some ⟨g, 0, none⟩) r.evs.length c], v2]) ∧ u.length ≤ 16 ∧ RusO w.heap.size w'.heap.size w' v2 u ∧ HhIs w w' v es r g c
theorem HosW.low {lo lo' : Nat} {w : World} {v : Value} {es : List (Ho × Value)} (h : HosW lo w v es) (hl : lo' ≤ lo) : HosW lo' w v es :=
  ⟨⟨h.row.1, h.row.2.imp id fun ⟨g, cap, cur, e, hg, r⟩ => ⟨g, cap, cur, e, Nat.le_trans hl hg, r⟩⟩, fun p hp => ⟨⟨(h.each p hp).1.1, fun g hg => ⟨Nat.le_trans hl ((h.each p hp).1.2 g hg).1, ((h.each p hp).1.2 g hg).2⟩⟩, (h.each p hp).2⟩⟩
theorem HosW.belowW {lo : Nat} {w w' : World} {v : Value} {es : List (Ho × Value)} (h : HosW lo w v es) (hb : Below w.heap.size w w') : HosW lo w' v es := by
  have hg : w.grownBy w' none := grownBy_of_below hb none
  exact ⟨ownsRow_below h.row hb, fun p hp => ⟨(h.each p hp).1.kept hg (fun g _ e => by cases e), (h.each p hp).2⟩⟩
theorem HosW.put4 {lo R : Nat} {w : World} {v : Value} {es : List (Ho × Value)} (h : HosW lo w v es) (hR : R < lo) (a b c d : Value) : HosW lo ((((w.setCell ⟨R, 0, none⟩ a).setCell ⟨R, 1, none⟩ b).setCell ⟨R, 2, none⟩ c).setCell ⟨R, 3, none⟩ d) v es := by
  have k : ∀ {w : World} (h : HosW lo w v es) (j : Nat) (u : Value), HosW lo (w.setCell ⟨R, j, none⟩ u) v es := fun h j u =>
    h.put (fun g hg e => by subst e; have := (h.row.lt g hg).1; omega) (fun p hp g hg e => by subst e; have := ((h.each p hp).1.2 g hg).1; omega)
  exact k (k (k (k h 0 a) 1 b) 2 c) 3 d
set_option maxRecDepth 20000 in
set_option maxHeartbeats 8000000 in
theorem drawHoldsOn_any (a : Option Addr) (len cap : Nat) (zs : List Int) (w : World) (h : IsRow .u8 w a len cap zs) (hl : len ≤ 1099511627776) :
    Calls Try.prog 67 #[.slice a len cap] w (HhDay w) := by
  obtain ⟨R, hR⟩ : ∃ R, w.heap.size = R := ⟨_, rfl⟩
  obtain ⟨B, hB⟩ : ∃ B, R + 1 = B := ⟨_, rfl⟩
  have hRB : R < B := by omega
  have hwR : w.heap.size ≤ R := by omega
  have hs0 : (w.alloc (.cells #[.int .i64 0, .int .i64 0, .int .i64 0, .slice none 0 0] 63 (0, 0))).heap.size = B := by simp; omega
  have hs1 : ((w.alloc (.cells #[.int .i64 0, .int .i64 0, .int .i64 0, .slice none 0 0] 63 (0, 0))).alloc (.cells #[.slice a len cap, .int .i64 0, .int .u64 0] 104 (0, 0))).heap.size = B + 1 := by simp; omega
  have hcur := cur_new (isRow_afterI h (below_al (Below.refl _ _) (.cells #[.int .i64 0, .int .i64 0, .int .i64 0, .slice none 0 0] 63 (0, 0)))) hl 104
  rw [hs0] at hcur
  have HD0 : Hid (Dk w ((w.alloc (.cells #[.int .i64 0, .int .i64 0, .int .i64 0, .slice none 0 0] 63 (0, 0))).alloc (.cells #[.slice a len cap, .int .i64 0, .int .u64 0] 104 (0, 0))) B 0) := Lib.hid ⟨hcur, grownBy_of_below (below_al (below_al (Below.refl _ _) _) _) _⟩
  have HR0 : Hid (BxV ((w.alloc (.cells #[.int .i64 0, .int .i64 0, .int .i64 0, .slice none 0 0] 63 (0, 0))).alloc (.cells #[.slice a len cap, .int .i64 0, .int .u64 0] 104 (0, 0))) R [.int .i64 0, .int .i64 0, .int .i64 0, .slice none 0 0]) := Lib.hid ((BxV.new' hR _ _).al _)
  have HS1 := Lib.hid hs1
  clear h hcur hs0 hs1
  have HRE := Lib.hid hR
  have HBE := Lib.hid hB
  clear hR hB
  go_enter Try.func67, Try.ntmps67
  go_upto_region 2 with fail
  try rw [HRE.out]
  try rw [HBE.out]
  generalize hW1 : (w.alloc (.cells #[.int .i64 0, .int .i64 0, .int .i64 0, .slice none 0 0] 63 (0, 0))).alloc (.cells #[.slice a len cap, .int .i64 0, .int .u64 0] 104 (0, 0)) = W1 at *
  have HW1 := Lib.hid hW1
  clear hW1
  go_wp2_with fail
  refine (holds_any B 0 _ HD0.out.cur (by omega)).mono ?_
  rintro e w2 ⟨v, es, rfl, hel, ho, hc, hg⟩
  rw [HS1.out] at ho
  have HD := Lib.hid (HD0.out.step hc hg)
  have HR := Lib.hid (HR0.out.grown hg (by simp; omega))
  have HO := Lib.hid ho
  have hB2 : B < w2.heap.size := hc.lt
  clear hc hg ho HD0 HR0
  go_wp2_with fail
  refine (record_any B 400 12 _ HD.out.cur (by omega) (by unfold inI; omega)).mono ?_
  rintro e w3 ⟨⟨id, se, ma, xs⟩, g, c, rfl, hok, hma, hxl, he, hc, hg⟩
  (try dsimp only at hok hma hxl he)
  (try dsimp only)
  have HE : Hid (EvsO (B + 1) w3.heap.size w3 (.slice (some ⟨g, 0, none⟩) xs.length c) xs) := Lib.hid (he.wide hB2 (Nat.le_refl _))
  replace HD := Lib.hid (HD.out.step hc hg)
  replace HR := Lib.hid (HR.out.grown hg (by simp; omega))
  replace HO := Lib.hid (HO.out.grown hg (by omega))
  have HOK := Lib.hid hok
  clear hc hg he hok
  go_wp2_with fail
  refine (holdDay_any B 460 v (es.map Prod.fst) _ HD.out.cur (by omega) HO.out.reads (fun g hg e => by subst e; have := (HO.out.row.lt g hg).1; omega) (by simp; omega)).mono ?_
  rintro e w4 ⟨n, rfl, hn, hc, hg⟩
  replace HD := Lib.hid (HD.out.step hc hg)
  replace HR := Lib.hid (HR.out.grown hg (by simp; omega))
  replace HO := Lib.hid (HO.out.grown hg (by omega))
  replace HE : Hid (EvsO (B + 1) w4.heap.size w4 (.slice (some ⟨g, 0, none⟩) xs.length c) xs) := Lib.hid ((HE.out.grown hg (by omega)).wide (Nat.le_refl _) hg.size)
  clear hc hg
  have r0 := HR.out.cell 0
  have r1 := HR.out.cell 1
  have r2 := HR.out.cell 2
  have r3 := HR.out.cell 3
  simp at r0 r1 r2 r3
  have z0 := HR.out.frozen 0
  have z1 := HR.out.frozen 1
  have z2 := HR.out.frozen 2
  have z3 := HR.out.frozen 3
  go_wp2_with fail
  refine bodyPost_ret (v := .tuple #[v, .agg #[.int .i64 id, .int .i64 se, .int .i64 ma, .slice (some ⟨g, 0, none⟩) xs.length c], .int .i64 n]) (by simp [results, Try.results67, go_sem, r0, r1, r2, r3]) rfl ?_
  have hne : ∀ k, Value.ownBlock (.slice (some ⟨g, 0, none⟩) xs.length c) = some k → k ≠ R := fun k hk => by have := HE.out.1.ge k hk; omega
  have hE := (((HE.out.setOther (G := R) (j := 0) (x := .int .i64 id) hne).setOther (G := R) (j := 1) (x := .int .i64 se) hne).setOther (G := R) (j := 2) (x := .int .i64 ma) hne).setOther (G := R) (j := 3) (x := (.slice (some ⟨g, 0, none⟩) xs.length c)) hne
  have hO := HO.out.put4 (R := R) (by omega) (.int .i64 id) (.int .i64 se) (.int .i64 ma) (.slice (some ⟨g, 0, none⟩) xs.length c)
  have hb4 : Below w.heap.size w w4 := below_of_grownBy HD.out.gr (Nat.le_refl _) (fun k e => by cases e; omega)
  have hb := (((hb4.setCell (p := ⟨R, 0, none⟩) hwR (.int .i64 id)).setCell (p := ⟨R, 1, none⟩) hwR (.int .i64 se)).setCell (p := ⟨R, 2, none⟩) hwR (.int .i64 ma)).setCell (p := ⟨R, 3, none⟩) hwR (.slice (some ⟨g, 0, none⟩) xs.length c)
  exact ⟨⟨id, se, ma, xs⟩, g, c, v, es, n, rfl, hn, ⟨HOK.out, hel, hxl, hO.low (by omega), hE.wide (by omega) (by simp), hb⟩⟩
set_option maxRecDepth 20000 in
set_option maxHeartbeats 8000000 in
theorem drawFreeDay_any (a : Option Addr) (len cap : Nat) (zs : List Int) (w : World) (h : IsRow .u8 w a len cap zs) (hl : len ≤ 1099511627776) :
    Calls Try.prog 64 #[.slice a len cap] w (HhDay w) := by
  have H := Lib.hid (isRow_afterI h (below_al (Below.refl _ _) (.cells #[.int .i64 0, .int .i64 0, .int .i64 0, .slice none 0 0] 63 (0, 0))))
  have HB0 : Hid (BxV (w.alloc (.cells #[.int .i64 0, .int .i64 0, .int .i64 0, .slice none 0 0] 63 (0, 0))) w.heap.size [.int .i64 0, .int .i64 0, .int .i64 0, .slice none 0 0]) := Lib.hid (BxV.new' rfl _ _)
  clear h
  go_enter Try.func64, Try.ntmps64
  go_wp2_with fail
  refine (drawHoldsOn_any a len cap zs _ H.out hl).mono ?_
  rintro e w1 ⟨⟨id, se, ma, xs⟩, g, c, v, es, n, rfl, hn, hok, hel, hxl, ho, he, hb⟩
  (try dsimp only at hok hxl he)
  (try dsimp only)
  have HR := Lib.hid (HB0.out.below hb)
  have r0 := HR.out.cell 0
  have r1 := HR.out.cell 1
  have r2 := HR.out.cell 2
  have r3 := HR.out.cell 3
  simp at r0 r1 r2 r3
  have z0 := HR.out.frozen 0
  have z1 := HR.out.frozen 1
  have z2 := HR.out.frozen 2
  have z3 := HR.out.frozen 3
  have hR1 : w.heap.size < (w.alloc (.cells #[.int .i64 0, .int .i64 0, .int .i64 0, .slice none 0 0] 63 (0, 0))).heap.size := by simp
  have hw1 : w.heap.size < w1.heap.size := Nat.lt_of_lt_of_le hR1 hb.size
  have HO := Lib.hid ho
  have HE := Lib.hid he
  have HBB := Lib.hid hb
  have HOK := Lib.hid hok
  clear ho he hb hok
  go_wp2_with fail
  refine bodyPost_ret (v := .tuple #[v, .agg #[.int .i64 id, .int .i64 se, .int .i64 ma, .slice (some ⟨g, 0, none⟩) xs.length c], .int .i64 n]) (by simp [results, Try.results64, go_sem, r0, r1, r2, r3]) rfl ?_
  have hne : ∀ k, Value.ownBlock (.slice (some ⟨g, 0, none⟩) xs.length c) = some k → k ≠ w.heap.size := fun k hk => by have := HE.out.1.ge k hk; omega
  have hE := (((HE.out.setOther (G := w.heap.size) (j := 0) (x := .int .i64 id) hne).setOther (G := w.heap.size) (j := 1) (x := .int .i64 se) hne).setOther (G := w.heap.size) (j := 2) (x := .int .i64 ma) hne).setOther (G := w.heap.size) (j := 3) (x := (.slice (some ⟨g, 0, none⟩) xs.length c)) hne
  have hO := HO.out.put4 (R := w.heap.size) hR1 (.int .i64 id) (.int .i64 se) (.int .i64 ma) (.slice (some ⟨g, 0, none⟩) xs.length c)
  have hb4 : Below w.heap.size w w1 := (below_al (Below.refl _ _) _).trans (HBB.out.mono (Nat.le_of_lt hR1))
  have hb := (((hb4.setCell (p := ⟨w.heap.size, 0, none⟩) (Nat.le_refl _) (.int .i64 id)).setCell (p := ⟨w.heap.size, 1, none⟩) (Nat.le_refl _) (.int .i64 se)).setCell (p := ⟨w.heap.size, 2, none⟩) (Nat.le_refl _) (.int .i64 ma)).setCell (p := ⟨w.heap.size, 3, none⟩) (Nat.le_refl _) (.slice (some ⟨g, 0, none⟩) xs.length c)
  exact ⟨⟨id, se, ma, xs⟩, g, c, v, es, n, rfl, hn, HOK.out, hel, hxl, hO.low (Nat.le_of_lt hR1), hE.wide (Nat.le_of_lt hR1) (by simp), hb⟩
set_option maxRecDepth 20000 in
set_option maxHeartbeats 8000000 in
theorem drawFirstDes_any (a : Option Addr) (len cap : Nat) (zs : List Int) (w : World) (h : IsRow .u8 w a len cap zs) (hl : len ≤ 1099511627776) :
    Calls Try.prog 61 #[.slice a len cap] w (HhSch w) := by
  obtain ⟨R, hR⟩ : ∃ R, w.heap.size = R := ⟨_, rfl⟩
  obtain ⟨B, hB⟩ : ∃ B, R + 1 = B := ⟨_, rfl⟩
  have hRB : R < B := by omega
  have hwR : w.heap.size ≤ R := by omega
  have hs0 : (w.alloc (.cells #[.int .i64 0, .int .i64 0, .int .i64 0, .slice none 0 0] 63 (0, 0))).heap.size = B := by simp; omega
  have hs1 : ((w.alloc (.cells #[.int .i64 0, .int .i64 0, .int .i64 0, .slice none 0 0] 63 (0, 0))).alloc (.cells #[.slice a len cap, .int .i64 0, .int .u64 0] 104 (0, 0))).heap.size = B + 1 := by simp; omega
  have hcur := cur_new (isRow_afterI h (below_al (Below.refl _ _) (.cells #[.int .i64 0, .int .i64 0, .int .i64 0, .slice none 0 0] 63 (0, 0)))) hl 104
  rw [hs0] at hcur
  have HD0 : Hid (Dk w ((w.alloc (.cells #[.int .i64 0, .int .i64 0, .int .i64 0, .slice none 0 0] 63 (0, 0))).alloc (.cells #[.slice a len cap, .int .i64 0, .int .u64 0] 104 (0, 0))) B 0) := Lib.hid ⟨hcur, grownBy_of_below (below_al (below_al (Below.refl _ _) _) _) _⟩
  have HR0 : Hid (BxV ((w.alloc (.cells #[.int .i64 0, .int .i64 0, .int .i64 0, .slice none 0 0] 63 (0, 0))).alloc (.cells #[.slice a len cap, .int .i64 0, .int .u64 0] 104 (0, 0))) R [.int .i64 0, .int .i64 0, .int .i64 0, .slice none 0 0]) := Lib.hid ((BxV.new' hR _ _).al _)
  have HS1 := Lib.hid hs1
  clear h hcur hs0 hs1
  have HRE := Lib.hid hR
  have HBE := Lib.hid hB
  clear hR hB
  go_enter Try.func61, Try.ntmps61
  go_upto_region 2 with fail
  try rw [HRE.out]
  try rw [HBE.out]
  generalize hW1 : (w.alloc (.cells #[.int .i64 0, .int .i64 0, .int .i64 0, .slice none 0 0] 63 (0, 0))).alloc (.cells #[.slice a len cap, .int .i64 0, .int .u64 0] 104 (0, 0)) = W1 at *
  have HW1 := Lib.hid hW1
  clear hW1
  go_wp2_with fail
  refine (holds_any B 0 _ HD0.out.cur (by omega)).mono ?_
  rintro e w2 ⟨v, es, rfl, hel, ho, hc, hg⟩
  rw [HS1.out] at ho
  have HD := Lib.hid (HD0.out.step hc hg)
  have HR := Lib.hid (HR0.out.grown hg (by simp; omega))
  have HO := Lib.hid ho
  have hB2 : B < w2.heap.size := hc.lt
  clear hc hg ho HD0 HR0
  go_wp2_with fail
  refine (record_any B 400 12 _ HD.out.cur (by omega) (by unfold inI; omega)).mono ?_
  rintro e w3 ⟨⟨id, se, ma, xs⟩, g, c, rfl, hok, hma, hxl, he, hc, hg⟩
  (try dsimp only at hok hma hxl he)
  (try dsimp only)
  have HE : Hid (EvsO (B + 1) w3.heap.size w3 (.slice (some ⟨g, 0, none⟩) xs.length c) xs) := Lib.hid (he.wide hB2 (Nat.le_refl _))
  replace HD := Lib.hid (HD.out.step hc hg)
  replace HR := Lib.hid (HR.out.grown hg (by simp; omega))
  replace HO := Lib.hid (HO.out.grown hg (by omega))
  have HOK := Lib.hid hok
  clear hc hg he hok
  obtain ⟨G, hF⟩ : ∃ G, w3.heap.size = G := ⟨_, rfl⟩
  have hBG : B < G := by have := HD.out.cur.lt; omega
  have HB : Hid (BxV (w3.alloc (.cells #[.int .i64 id, .int .i64 se, .int .i64 ma, .slice (some ⟨g, 0, none⟩) xs.length c] 63 (0, 0))) G [.int .i64 id, .int .i64 se, .int .i64 ma, .slice (some ⟨g, 0, none⟩) xs.length c]) := Lib.hid (BxV.new' hF _ _)
  replace HD := Lib.hid (HD.out.al (.cells #[.int .i64 id, .int .i64 se, .int .i64 ma, .slice (some ⟨g, 0, none⟩) xs.length c] 63 (0, 0)))
  replace HR := Lib.hid (HR.out.al (.cells #[.int .i64 id, .int .i64 se, .int .i64 ma, .slice (some ⟨g, 0, none⟩) xs.length c] 63 (0, 0)))
  replace HO := Lib.hid (HO.out.alloc (.cells #[.int .i64 id, .int .i64 se, .int .i64 ma, .slice (some ⟨g, 0, none⟩) xs.length c] 63 (0, 0)))
  replace HE : Hid (EvsO (B + 1) G (w3.alloc (.cells #[.int .i64 id, .int .i64 se, .int .i64 ma, .slice (some ⟨g, 0, none⟩) xs.length c] 63 (0, 0))) (.slice (some ⟨g, 0, none⟩) xs.length c) xs) := Lib.hid (by have := HE.out.alloc (.cells #[.int .i64 id, .int .i64 se, .int .i64 ma, .slice (some ⟨g, 0, none⟩) xs.length c] 63 (0, 0)); rwa [hF] at this)
  go_upto_region 4 with fail
  try rw [hF]
  have HFE := Lib.hid hF
  clear hF
  generalize hW3 : w3.alloc (.cells #[.int .i64 id, .int .i64 se, .int .i64 ma, .slice (some ⟨g, 0, none⟩) xs.length c] 63 (0, 0)) = W3 at *
  have HW3 := Lib.hid hW3
  clear hW3
  have c0 : W3.cell? ⟨G, 0, none⟩ = some (.int .i64 id) := HB.out.cell 0
  have c1 : W3.cell? ⟨G, 1, none⟩ = some (.int .i64 se) := HB.out.cell 1
  have c2 : W3.cell? ⟨G, 2, none⟩ = some (.int .i64 ma) := HB.out.cell 2
  have c3 : W3.cell? ⟨G, 3, none⟩ = some (.slice (some ⟨g, 0, none⟩) xs.length c) := HB.out.cell 3
  go_region_held3 (fun w' => w'.cell? ⟨G, 0, none⟩ = some (.int .i64 id) ∧ w'.cell? ⟨G, 1, none⟩ = some (.int .i64 se) ∧ w'.cell? ⟨G, 2, none⟩ = some (.int .i64 ma) ∧ w'.cell? ⟨G, 3, none⟩ = some (.slice (some ⟨g, 0, none⟩) xs.length c) ) (first | with_reducible exact ⟨c0, c1, c2, c3⟩ | with_reducible exact ⟨cell_drew c0, cell_drew c1, cell_drew c2, cell_drew c3⟩ | (refine ⟨?_, ?_, ?_, ?_⟩ <;> (repeat rw [World.cell?_setCell_far _ _ _ _ (by first | (simp; done) | (simp; omega))]) <;> first | assumption | go_keep)) (first | (go_at_call 105; refine (suited_any B 460 (B + 1) G id se ma g c xs _ HD.out.drew.cur (by omega) (HE.out.below (Below.refl _ _).drew) (by omega) (by have := HB.out.lt; show G ≤ W3.heap.size; omega) HOK.out.2.1 (by omega)).mono ?_; rintro e w4 ⟨v2, u, rfl, hul, hu, hc, hg⟩; have HU : Hid (RusO (B + 1) w4.heap.size w4 v2 u) := Lib.hid (hu.wide (by have := HB.out.lt; show B + 1 ≤ W3.heap.size; omega) (Nat.le_refl _)); replace HD := Lib.hid (HD.out.drew.step hc hg); replace HR := Lib.hid (HR.out.drew.grown hg (by simp; omega)); replace HO := Lib.hid (HO.out.drew.grown hg (by omega)); replace HE : Hid (EvsO (B + 1) w4.heap.size w4 (.slice (some ⟨g, 0, none⟩) xs.length c) xs) := Lib.hid (((HE.out.below (Below.refl _ _).drew).grown hg (by omega)).wide (Nat.le_refl _) (Nat.le_trans (by have := HB.out.lt; show G ≤ W3.heap.size; omega) hg.size)); replace HB := Lib.hid (HB.out.drew.grown hg (by simp; omega)); replace c0 := HB.out.cell 0; replace c1 := HB.out.cell 1; replace c2 := HB.out.cell 2; replace c3 := HB.out.cell 3; simp at c0 c1 c2 c3; have r0 := HR.out.cell 0; have r1 := HR.out.cell 1; have r2 := HR.out.cell 2; have r3 := HR.out.cell 3; simp at r0 r1 r2 r3; have z0 := HR.out.frozen 0; have z1 := HR.out.frozen 1; have z2 := HR.out.frozen 2; have z3 := HR.out.frozen 3; clear hc hg hu))
  all_goals
    go_wp2_with fail
    refine bodyPost_ret (v := .tuple #[v, .agg #[.int .i64 id, .int .i64 se, .int .i64 ma, .slice (some ⟨g, 0, none⟩) xs.length c], v2]) (by simp [results, Try.results61, go_sem, r0, r1, r2, r3]) rfl ?_
    have hne : ∀ k, Value.ownBlock (.slice (some ⟨g, 0, none⟩) xs.length c) = some k → k ≠ R := fun k hk => by have := HE.out.1.ge k hk; omega
    have hE := (((HE.out.setOther (G := R) (j := 0) (x := .int .i64 id) hne).setOther (G := R) (j := 1) (x := .int .i64 se) hne).setOther (G := R) (j := 2) (x := .int .i64 ma) hne).setOther (G := R) (j := 3) (x := (.slice (some ⟨g, 0, none⟩) xs.length c)) hne
    have hO := HO.out.put4 (R := R) (by omega) (.int .i64 id) (.int .i64 se) (.int .i64 ma) (.slice (some ⟨g, 0, none⟩) xs.length c)
    have hb4 : Below w.heap.size w w4 := below_of_grownBy HD.out.gr (Nat.le_refl _) (fun k e => by cases e; omega)
    have hb := (((hb4.setCell (p := ⟨R, 0, none⟩) hwR (.int .i64 id)).setCell (p := ⟨R, 1, none⟩) hwR (.int .i64 se)).setCell (p := ⟨R, 2, none⟩) hwR (.int .i64 ma)).setCell (p := ⟨R, 3, none⟩) hwR (.slice (some ⟨g, 0, none⟩) xs.length c)
    have hneU : ∀ k, Value.ownBlock v2 = some k → k ≠ R := fun k hk => by have := HU.out.1.ge k hk; omega
    have hU := (((HU.out.setOther (G := R) (j := 0) (x := .int .i64 id) hneU).setOther (G := R) (j := 1) (x := .int .i64 se) hneU).setOther (G := R) (j := 2) (x := .int .i64 ma) hneU).setOther (G := R) (j := 3) (x := (.slice (some ⟨g, 0, none⟩) xs.length c)) hneU
    exact ⟨⟨id, se, ma, xs⟩, g, c, v, v2, es, u, rfl, hul, hU.wide (by omega) (by simp), ⟨HOK.out, hel, hxl, hO.low (by omega), hE.wide (by omega) (by simp), hb⟩⟩
end Go.Proofs.Ytenjajcknmfhfaa
