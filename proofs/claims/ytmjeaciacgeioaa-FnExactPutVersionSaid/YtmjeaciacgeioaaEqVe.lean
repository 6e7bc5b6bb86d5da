/- The laws' own sizes and comparisons of Version. -/
import Derived.Test.YtmjeaciacgeioaaToVe
import Derived.Test.YtmjeaciacgeioaaBytesNe
import Derived.Deep.RegionHeld3
import Derived.WalkSmall
namespace Go.Proofs.Ytmjeaciacgeioaa
set_option linter.unusedVariables false
open Go.RowKit

theorem szVe_one (v : Value) (x : Ve) (left : Int) (w : World) (h : VeV w v x) (h0 : 0 ≤ left) (h2 : left ≤ 1099511627776) :
    Calls Try.prog 37 #[v, .int .i64 left] w fun e w' => e = .returned (.int .i64 (if left < sz1Ve x then -1 else left - sz1Ve x)) ∧ Below w.heap.size w w' := by
  obtain ⟨s, rfl, h1, hok⟩ := h
  have hcap := h1.cap
  obtain ⟨x0, x1⟩ := x
  obtain ⟨o0⟩ := hok
  obtain ⟨z, hz⟩ : ∃ z, sz1Ve ⟨x0, x1⟩ = z := ⟨_, rfl⟩
  have hz2 : x1.length = z := hz
  rw [hz]
  have H1 := Lib.hid h1
  clear hz h1
  by_cases t1 : left < (x1.length : Int)
  · have hc : left < (z : Int) := by omega
    simp only [if_pos hc]
    clear hc
    go_enter Try.func37, Try.ntmps37
    go_wp2_with (first | (go_at_call 87; refine (szRuS_flat _ x1 _ _ (H1.out.below rRu_stable (below_al (Below.refl _ _) _)) (by omega) (by omega)).mono ?_; rw [if_pos (by omega)]; rintro e w' ⟨rfl, hb'⟩))
    go_ret
    exact ⟨rfl, below_chain (below_al (Below.refl _ _) _) hb'⟩
  · have hc : ¬ left < (z : Int) := by omega
    simp only [if_neg hc]
    clear hc
    go_enter Try.func37, Try.ntmps37
    go_wp2_with (first | (go_at_call 87; refine (szRuS_flat _ x1 _ _ (H1.out.below rRu_stable (below_al (Below.refl _ _) _)) (by omega) (by omega)).mono ?_; rw [if_neg (by omega)]; rintro e w' ⟨rfl, hb'⟩))
    go_ret
    exact ⟨ret_int (by omega), below_chain (below_al (Below.refl _ _) _) hb'⟩

set_option maxHeartbeats 1000000 in
/-- The size: what is left over, or -1. -/
theorem szVeS_any (v : Value) (xs : List Ve) (left : Int) (w : World) (h : RowR 2 rVe w v xs) (h0 : 0 ≤ left) (h2 : left ≤ 1099511627776) :
    Calls Try.prog 36 #[v, .int .i64 left] w fun e w' => ∃ n : Int, e = .returned (.int .i64 n) ∧ (n < 0 ∨ (xs.length : Int) + szVe xs ≤ left) ∧ (0 ≤ n ∨ n = -1) ∧ n ≤ left ∧ Below w.heap.size w w' := by
  have hcap := h.cap
  obtain ⟨a1, c1, rfl, hl1, hm1, r1⟩ := h.ves
  have R1 := Lib.hid r1
  clear h r1
  unfold maxLen at hm1
  by_cases hb : left < xs.length
  · go_enter Try.func36, Try.ntmps36
    go_wp2_with fail
    go_ret
    exact ⟨-1, rfl, Or.inl (by omega), Or.inr rfl, by omega, Below.refl _ _⟩
  · go_enter Try.func36, Try.ntmps36
    go_wp2_with fail
    go_loopw [1, 5] (fun l i wr => ∃ (k : Nat) (n : Int), k ≤ xs.length ∧ i = .int .i64 k ∧ l = .int .i64 n ∧ Hid (n = left - xs.length - szVe (xs.take k)) ∧ 0 ≤ n ∧ n ≤ left ∧ Below w.heap.size w wr) (fun _ i _ => xs.length - (intOf i).toNat)
    case atStart => exact ⟨0, left - xs.length, Nat.zero_le _, rfl, rfl, Lib.hid (by simp [szVe]), by omega, by omega, Below.refl _ _⟩
    case round =>
      obtain ⟨k, n, hk, rfl, rfl, HN, hn0, hnl, hb⟩ := hrel
      by_cases hlt : k < xs.length
      · obtain ⟨b1, o1, hb1, rfl, e1⟩ := R1.out.resolve_left (fun e => by rw [e] at hlt; simp at hlt)
        obtain ⟨s, q0, q1, hr, hok⟩ := e1 k hlt
        obtain ⟨r, hx⟩ : ∃ s, xs.getD k veD = s := ⟨_, rfl⟩
        rw [hx] at q0 hr hok
        have f0 := cell_kept q0 hb
        have f1 := cell_kept q1 hb
        have HX := Lib.hid hx
        have hV : VeV wr (.agg #[.int .i64 r.frm, s]) r := ⟨s, rfl, hr.below rRu_stable hb, hok⟩
        have HV := Lib.hid hV
        have g0 : (0 : Int) ≤ (k : Int) := by omega
        have g1 : (k : Int) < (xs.length : Int) := by omega
        have hw := hb.size
        clear q0 q1 hr hok hx e1 hV
        by_cases hfit : n < sz1Ve r
        · go_wp2_with fail
          refine (szVe_one _ r n _ HV.out hn0 (by omega)).mono ?_
          rw [if_pos (by omega)]
          rintro e w1 ⟨rfl, b2⟩
          go_wp2_with fail
          go_ret
          exact ⟨-1, rfl, Or.inl (by omega), Or.inr rfl, by omega, hb.trans (b2.mono hw)⟩
        · go_wp2_with fail
          refine (szVe_one _ r n _ HV.out hn0 (by omega)).mono ?_
          rw [if_neg (by omega)]
          rintro e w1 ⟨rfl, b2⟩
          go_wp2_with fail
          go_roundw
          case rel =>
            refine ⟨k + 1, n - sz1Ve r, by omega, by go_num, rfl, Lib.hid ?_, by omega, by omega, hb.trans (b2.mono hw)⟩
            have h1 := szVe_take_succ xs k hlt
            rw [HX.out] at h1
            have h2 := HN.out
            omega
          case measure => simp [intOf]; omega
      · obtain rfl : k = xs.length := by omega
        go_wp2_with fail
        go_ret
        refine ⟨n, rfl, Or.inr ?_, Or.inl hn0, hnl, hb⟩
        have := HN.out
        rw [List.take_length] at this
        omega

set_option maxHeartbeats 1000000 in
theorem eqVe_any (v1 v2 : Value) (a b : Ve) (w : World) (h1 : VeV w v1 a) (h2 : VeV w v2 b) :
    Calls Try.prog 41 #[v1, v2] w fun e w' => e = .returned (.bool (decide (a = b))) ∧ Below w.heap.size w w' := by
  obtain ⟨s1, rfl, h1, _⟩ := h1
  obtain ⟨s2, rfl, h2, _⟩ := h2
  obtain ⟨a0, a1⟩ := a
  obtain ⟨b0, b1⟩ := b
  have H1 := Lib.hid h1
  have H2 := Lib.hid h2
  clear h1 h2
  by_cases h0 : a0 = b0
  · subst h0
    obtain ⟨bb, hbb⟩ : ∃ bb, decide (a1 = b1) = bb := ⟨_, rfl⟩
    have hcall : ∀ W : World, Below w.heap.size w W → Calls Try.prog 89 #[s1, s2] W fun e w' => e = .returned (.bool bb) ∧ Below W.heap.size W w' := fun W hW => by
      have := eqRuS_any s1 s2 a1 b1 W (H1.out.below rRu_stable hW) (H2.out.below rRu_stable hW)
      rwa [hbb] at this
    have hgoal : decide ((⟨a0, a1⟩ : Ve) = ⟨a0, b1⟩) = bb := by rw [← hbb]; simp
    rw [hgoal]
    clear hgoal hbb
    cases bb
    all_goals
      go_enter Try.func41, Try.ntmps41
      go_wp2_with (first | (go_at_call 89; refine (hcall _ (below_al (below_al (Below.refl _ _) _) _)).mono ?_; rintro e w' ⟨rfl, hb'⟩))
      go_ret
      exact ⟨rfl, below_chain (below_al (below_al (Below.refl _ _) _) _) hb'⟩
  · have e1 : (a0 != b0) = true := by simp [h0]
    go_enter Try.func41, Try.ntmps41
    go_wp2_with fail
    go_ret
    exact ⟨ret_bool (by first | (simp; done) | simp [h0]), below_al (below_al (Below.refl _ _) _) _⟩

set_option maxHeartbeats 1000000 in
theorem eqVeS_any (v1 v2 : Value) (xs ys : List Ve) (w : World) (h1 : RowR 2 rVe w v1 xs) (h2 : RowR 2 rVe w v2 ys) :
    Calls Try.prog 40 #[v1, v2] w fun e w' => e = .returned (.bool (decide (xs = ys))) ∧ Below w.heap.size w w' := by
  have hx := h1.cap
  have hy := h2.cap
  obtain ⟨a1, c1, rfl, hl1, hm1, r1⟩ := h1.ves
  obtain ⟨a2, c2, rfl, hl2, hm2, r2⟩ := h2.ves
  clear h1 h2
  by_cases hlen : xs.length = ys.length
  · have hLen := Lib.hid hlen
    have hne : (((xs.length : Nat) : Int) != (xs.length : Int)) = false := by simp
    rw [← hlen]
    clear hlen
    have R1 := Lib.hid r1
    have R2 := Lib.hid r2
    clear r1 r2
    go_enter Try.func40, Try.ntmps40
    go_wp2
    go_loopw [5] (fun i wr => ∃ k : Nat, k ≤ xs.length ∧ i = .int .i64 k ∧ Hid (∀ j, j < k → xs.getD j veD = ys.getD j veD) ∧ Below w.heap.size w wr) (fun i _ => xs.length - (intOf i).toNat)
    case atStart => exact ⟨0, Nat.zero_le _, rfl, Lib.hid (fun j h => by omega), Below.refl _ _⟩
    case round =>
      obtain ⟨k, hk, rfl, HJ, hb⟩ := hrel
      by_cases hlt : k < xs.length
      · obtain ⟨b1, o1, hb1, rfl, e1⟩ := R1.out.resolve_left (fun e => by rw [e] at hlt; simp at hlt)
        obtain ⟨b2, o2, hb2, rfl, e2⟩ := R2.out.resolve_left (fun e => by have := hLen.out; rw [e] at this; simp at this; rw [this] at hlt; simp at hlt)
        obtain ⟨s1, q0, q1, hr1, hok1⟩ := e1 k hlt
        obtain ⟨s2, z0, z1, hr2, hok2⟩ := e2 k (by have := hLen.out; omega)
        obtain ⟨r1, hx⟩ : ∃ s, xs.getD k veD = s := ⟨_, rfl⟩
        obtain ⟨r2, hy⟩ : ∃ s, ys.getD k veD = s := ⟨_, rfl⟩
        rw [hx] at q0 hr1 hok1
        rw [hy] at z0 hr2 hok2
        have f10 := cell_kept q0 hb
        have f11 := cell_kept q1 hb
        have f20 := cell_kept z0 hb
        have f21 := cell_kept z1 hb
        have hV1 : ∀ W, Below wr.heap.size wr W → VeV W (.agg #[.int .i64 r1.frm, s1]) r1 := fun W hW => ⟨s1, rfl, (hr1.below rRu_stable hb).below rRu_stable hW, hok1⟩
        have hV2 : ∀ W, Below wr.heap.size wr W → VeV W (.agg #[.int .i64 r2.frm, s2]) r2 := fun W hW => ⟨s2, rfl, (hr2.below rRu_stable hb).below rRu_stable hW, hok2⟩
        have HV1 := Lib.hid hV1
        have HV2 := Lib.hid hV2
        have HX := Lib.hid hx
        have HY := Lib.hid hy
        have hsz := hb.size
        have g0 : (0 : Int) ≤ (k : Int) := by omega
        have g1 : (k : Int) < (xs.length : Int) := by omega
        clear q0 q1 z0 z1 hr1 hr2 hok1 hok2 e1 e2 hx hy hV1 hV2
        obtain ⟨bb, hbb⟩ : ∃ bb, decide (r1 = r2) = bb := ⟨_, rfl⟩
        have HB := Lib.hid hbb
        clear hbb
        cases bb
        all_goals
          go_wp2_with fail
          go_region_held3 (fun w' => w'.cell? ⟨b1, o1 + k * 2, none⟩ = some (.int .i64 r1.frm) ∧ w'.cell? ⟨b1, o1 + k * 2 + 1, none⟩ = some s1 ∧ w'.cell? ⟨b2, o2 + k * 2, none⟩ = some (.int .i64 r2.frm) ∧ w'.cell? ⟨b2, o2 + k * 2 + 1, none⟩ = some s2)
            (first | exact ⟨f10, f11, f20, f21⟩ | exact ⟨cell_keptd f10 b7, cell_keptd f11 b7, cell_keptd f20 b7, cell_keptd f21 b7⟩)
            (first | (go_at_call 41; refine (eqVe_any _ _ r1 r2 _ (HV1.out _ (Below.refl _ _).drew) (HV2.out _ (Below.refl _ _).drew)).mono ?_; rw [HB.out]; rintro e w7 ⟨rfl, b7⟩))
        · go_wp2_with fail
          go_ret
          refine ⟨ret_bool (Eq.symm (decide_eq_false fun e => ?_)), hb.drew.trans (b7.mono hsz)⟩
          have h1 := of_decide_eq_false HB.out
          subst e
          exact h1 (HX.out.symm.trans HY.out)
        · go_wp2_with fail
          go_roundw
          case rel =>
            refine ⟨k + 1, by omega, by go_num, Lib.hid (fun j h => ?_), hb.drew.trans (b7.mono hsz)⟩
            rcases Nat.lt_or_ge j k with h' | h'
            · exact HJ.out j h'
            · obtain rfl : j = k := by omega
              rw [HX.out, HY.out]
              exact of_decide_eq_true HB.out
          case measure => simp [intOf]; omega
      · go_wp2_with fail
        go_ret
        refine ⟨ret_bool (Eq.symm (decide_eq_true ?_)), hb⟩
        refine List.ext_getElem hLen.out fun i a b => ?_
        have := HJ.out i (by omega)
        rwa [getVe_lt a, getVe_lt b] at this
  · have hne : (((xs.length : Nat) : Int) != (ys.length : Int)) = true := by simp; omega
    rw [decide_eq_false (fun e => hlen (by rw [e]))]
    go_enter Try.func40, Try.ntmps40
    go_wp2
    go_ret
    exact ⟨rfl, Below.refl _ _⟩
end Go.Proofs.Ytmjeaciacgeioaa
