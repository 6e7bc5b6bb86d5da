/- The laws' own sizes and comparisons of Hold. -/
import Derived.Test.YtkjpehpodlpdhaaToHo
import Derived.Test.YtkjpehpodlpdhaaBytesNe
import Derived.Deep.RegionHeld3
import Derived.WalkSmall
namespace Go.Proofs.Ytkjpehpodlpdhaa
set_option linter.unusedVariables false
open Go.RowKit

theorem szHo_one (v : Value) (x : Ho) (left : Int) (w : World) (h : HoV w v x) (h0 : 0 ≤ left) (h2 : left ≤ 1099511627776) :
    Calls Try.prog 74 #[v, .int .i64 left] w fun e w' => e = .returned (.int .i64 (if left < sz1Ho x then -1 else left - sz1Ho x)) ∧ Below w.heap.size w w' := by
  obtain ⟨s, rfl, h1, hok⟩ := h
  have hcap := h1.cap
  obtain ⟨x0, x1, x2, x3, x4, x5⟩ := x
  obtain ⟨o0, o1, o2, o4, o5⟩ := hok
  obtain ⟨z, hz⟩ : ∃ z, sz1Ho ⟨x0, x1, x2, x3, x4, x5⟩ = z := ⟨_, rfl⟩
  have hz2 : x3.length = z := hz
  rw [hz]
  have H1 := Lib.hid h1
  clear hz h1
  by_cases t3 : left < (x3.length : Int)
  · have hc : left < (z : Int) := by omega
    simp only [if_pos hc]
    clear hc
    go_enter Try.func74, Try.ntmps74
    go_wp2_with (first | (go_at_call 141; refine (szIntS_any _ x3 _ _ (H1.out.below (below_al (Below.refl _ _) _)) (by omega) (by omega)).mono ?_; rw [if_pos (by omega)]; rintro e w' ⟨rfl, hb'⟩))
    go_ret
    exact ⟨rfl, below_chain (below_al (Below.refl _ _) _) hb'⟩
  · have hc : ¬ left < (z : Int) := by omega
    simp only [if_neg hc]
    clear hc
    go_enter Try.func74, Try.ntmps74
    go_wp2_with (first | (go_at_call 141; refine (szIntS_any _ x3 _ _ (H1.out.below (below_al (Below.refl _ _) _)) (by omega) (by omega)).mono ?_; rw [if_neg (by omega)]; rintro e w' ⟨rfl, hb'⟩))
    go_ret
    exact ⟨ret_int (by omega), below_chain (below_al (Below.refl _ _) _) hb'⟩

set_option maxHeartbeats 1000000 in
/-- The size: what is left over, or -1. -/
theorem szHoS_any (v : Value) (xs : List Ho) (left : Int) (w : World) (h : RowR 6 rHo w v xs) (h0 : 0 ≤ left) (h2 : left ≤ 1099511627776) :
    Calls Try.prog 15 #[v, .int .i64 left] w fun e w' => ∃ n : Int, e = .returned (.int .i64 n) ∧ (n < 0 ∨ (xs.length : Int) + szHo xs ≤ left) ∧ (0 ≤ n ∨ n = -1) ∧ n ≤ left ∧ Below w.heap.size w w' := by
  have hcap := h.cap
  obtain ⟨a1, c1, rfl, hl1, hm1, r1⟩ := h.hos
  have R1 := Lib.hid r1
  clear h r1
  unfold maxLen at hm1
  by_cases hb : left < xs.length
  · go_enter Try.func15, Try.ntmps15
    go_wp2_with fail
    go_ret
    exact ⟨-1, rfl, Or.inl (by omega), Or.inr rfl, by omega, Below.refl _ _⟩
  · go_enter Try.func15, Try.ntmps15
    go_wp2_with fail
    go_loopw [1, 5] (fun l i wr => ∃ (k : Nat) (n : Int), k ≤ xs.length ∧ i = .int .i64 k ∧ l = .int .i64 n ∧ Hid (n = left - xs.length - szHo (xs.take k)) ∧ 0 ≤ n ∧ n ≤ left ∧ Below w.heap.size w wr) (fun _ i _ => xs.length - (intOf i).toNat)
    case atStart => exact ⟨0, left - xs.length, Nat.zero_le _, rfl, rfl, Lib.hid (by simp [szHo]), by omega, by omega, Below.refl _ _⟩
    case round =>
      obtain ⟨k, n, hk, rfl, rfl, HN, hn0, hnl, hb⟩ := hrel
      by_cases hlt : k < xs.length
      · obtain ⟨b1, o1, hb1, rfl, e1⟩ := R1.out.resolve_left (fun e => by rw [e] at hlt; simp at hlt)
        obtain ⟨s, q0, q1, q2, q3, q4, q5, hr, hok⟩ := e1 k hlt
        obtain ⟨r, hx⟩ : ∃ s, xs.getD k hoD = s := ⟨_, rfl⟩
        rw [hx] at q0 q1 q2 q4 q5 hr hok
        have f0 := cell_kept q0 hb
        have f1 := cell_kept q1 hb
        have f2 := cell_kept q2 hb
        have f3 := cell_kept q3 hb
        have f4 := cell_kept q4 hb
        have f5 := cell_kept q5 hb
        have HX := Lib.hid hx
        have hV : HoV wr (.agg #[.int .i64 r.id, .int .i64 r.frm, .int .i64 r.til, s, .int .i64 r.fst, .int .i64 r.lst]) r := ⟨s, rfl, hr.below hb, hok⟩
        have HV := Lib.hid hV
        have g0 : (0 : Int) ≤ (k : Int) := by omega
        have g1 : (k : Int) < (xs.length : Int) := by omega
        have hw := hb.size
        clear q0 q1 q2 q3 q4 q5 hr hok hx e1 hV
        by_cases hfit : n < sz1Ho r
        · go_wp2_with fail
          refine (szHo_one _ r n _ HV.out hn0 (by omega)).mono ?_
          rw [if_pos (by omega)]
          rintro e w1 ⟨rfl, b2⟩
          go_wp2_with fail
          go_ret
          exact ⟨-1, rfl, Or.inl (by omega), Or.inr rfl, by omega, hb.trans (b2.mono hw)⟩
        · go_wp2_with fail
          refine (szHo_one _ r n _ HV.out hn0 (by omega)).mono ?_
          rw [if_neg (by omega)]
          rintro e w1 ⟨rfl, b2⟩
          go_wp2_with fail
          go_roundw
          case rel =>
            refine ⟨k + 1, n - sz1Ho r, by omega, by go_num, rfl, Lib.hid ?_, by omega, by omega, hb.trans (b2.mono hw)⟩
            have h1 := szHo_take_succ xs k hlt
            rw [HX.out] at h1
            have h2 := HN.out
            omega
          case measure => simp [intOf]; omega
      · obtain rfl : k = xs.length := by omega
        go_wp2_with fail
        go_ret
        refine ⟨n, rfl, Or.inr ?_, Or.inl hn0, hnl, hb⟩
        have := HN.out
        rw [List.take_length] at this
        omega

set_option maxHeartbeats 1000000 in
theorem eqHo_any (v1 v2 : Value) (a b : Ho) (w : World) (h1 : HoV w v1 a) (h2 : HoV w v2 b) :
    Calls Try.prog 80 #[v1, v2] w fun e w' => e = .returned (.bool (decide (a = b))) ∧ Below w.heap.size w w' := by
  obtain ⟨s1, rfl, h1, _⟩ := h1
  obtain ⟨s2, rfl, h2, _⟩ := h2
  obtain ⟨a0, a1, a2, a3, a4, a5⟩ := a
  obtain ⟨b0, b1, b2, b3, b4, b5⟩ := b
  have H1 := Lib.hid h1
  have H2 := Lib.hid h2
  clear h1 h2
  by_cases h0 : a0 = b0
  · subst h0
    by_cases h1 : a1 = b1
    · subst h1
      by_cases h2 : a2 = b2
      · subst h2
        obtain ⟨bb, hbb⟩ : ∃ bb, decide (a3 = b3) = bb := ⟨_, rfl⟩
        have hcall : ∀ W : World, Below w.heap.size w W → Calls Try.prog 24 #[s1, s2] W fun e w' => e = .returned (.bool bb) ∧ Below W.heap.size W w' := fun W hW => by
          have := eqIntS_any s1 s2 a3 b3 W (H1.out.below hW) (H2.out.below hW)
          rwa [hbb] at this
        cases bb
        · have HG : Hid (decide ((⟨a0, a1, a2, a3, a4, a5⟩ : Ho) = ⟨a0, a1, a2, b3, b4, b5⟩) = false) := Lib.hid (decide_eq_false (fun e => by injection e; have := of_decide_eq_false hbb; contradiction))
          clear hbb
          go_enter Try.func80, Try.ntmps80
          go_wp2_with (first | (go_at_call 24; refine (hcall _ (below_al (below_al (Below.refl _ _) _) _)).mono ?_; rintro e w' ⟨rfl, hb'⟩; have hbl0 := (hb'.block w.heap.size (by simp; omega)).trans ((Below.heap_alloc _ _ _ (by simp)).trans (heap_alloc_new' _ _ (by simp))); have hbl1 := (hb'.block (w.heap.size + 1) (by simp)).trans (heap_alloc_new' _ _ (by simp)); have oa4 := blk_cell hbl0 4; simp at oa4; have ob4 := blk_cell hbl1 4; simp at ob4; have oa5 := blk_cell hbl0 5; simp at oa5; have ob5 := blk_cell hbl1 5; simp at ob5; clear hbl0 hbl1))
          go_ret
          exact ⟨ret_bool (Eq.symm HG.out), below_chain (below_al (below_al (Below.refl _ _) _) _) hb'⟩
        · have hJ := of_decide_eq_true hbb
          subst hJ
          clear hbb
          by_cases h4 : a4 = b4
          · subst h4
            by_cases h5 : a5 = b5
            · subst h5
              have HG : Hid (decide ((⟨a0, a1, a2, a3, a4, a5⟩ : Ho) = ⟨a0, a1, a2, a3, a4, a5⟩) = true) := Lib.hid (decide_eq_true rfl)
              have e10 : (a0 != a0) = false := by simp
              have e11 : (a1 != a1) = false := by simp
              have e12 : (a2 != a2) = false := by simp
              have e14 : (a4 != a4) = false := by simp
              have e15 : (a5 != a5) = false := by simp
              go_enter Try.func80, Try.ntmps80
              go_wp2_with (first | (go_at_call 24; refine (hcall _ (below_al (below_al (Below.refl _ _) _) _)).mono ?_; rintro e w' ⟨rfl, hb'⟩; have hbl0 := (hb'.block w.heap.size (by simp; omega)).trans ((Below.heap_alloc _ _ _ (by simp)).trans (heap_alloc_new' _ _ (by simp))); have hbl1 := (hb'.block (w.heap.size + 1) (by simp)).trans (heap_alloc_new' _ _ (by simp)); have oa4 := blk_cell hbl0 4; simp at oa4; have ob4 := blk_cell hbl1 4; simp at ob4; have oa5 := blk_cell hbl0 5; simp at oa5; have ob5 := blk_cell hbl1 5; simp at ob5; clear hbl0 hbl1))
              go_ret
              exact ⟨ret_bool (Eq.symm HG.out), below_chain (below_al (below_al (Below.refl _ _) _) _) hb'⟩
            · have HG : Hid (decide ((⟨a0, a1, a2, a3, a4, a5⟩ : Ho) = ⟨a0, a1, a2, a3, a4, b5⟩) = false) := Lib.hid (decide_eq_false (fun e => by injection e; contradiction))
              have e1 : (a5 != b5) = true := by simp [h5]
              clear h5
              have e10 : (a0 != a0) = false := by simp
              have e11 : (a1 != a1) = false := by simp
              have e12 : (a2 != a2) = false := by simp
              have e14 : (a4 != a4) = false := by simp
              go_enter Try.func80, Try.ntmps80
              go_wp2_with (first | (go_at_call 24; refine (hcall _ (below_al (below_al (Below.refl _ _) _) _)).mono ?_; rintro e w' ⟨rfl, hb'⟩; have hbl0 := (hb'.block w.heap.size (by simp; omega)).trans ((Below.heap_alloc _ _ _ (by simp)).trans (heap_alloc_new' _ _ (by simp))); have hbl1 := (hb'.block (w.heap.size + 1) (by simp)).trans (heap_alloc_new' _ _ (by simp)); have oa4 := blk_cell hbl0 4; simp at oa4; have ob4 := blk_cell hbl1 4; simp at ob4; have oa5 := blk_cell hbl0 5; simp at oa5; have ob5 := blk_cell hbl1 5; simp at ob5; clear hbl0 hbl1))
              go_ret
              exact ⟨ret_bool (Eq.symm HG.out), below_chain (below_al (below_al (Below.refl _ _) _) _) hb'⟩
          · have HG : Hid (decide ((⟨a0, a1, a2, a3, a4, a5⟩ : Ho) = ⟨a0, a1, a2, a3, b4, b5⟩) = false) := Lib.hid (decide_eq_false (fun e => by injection e; contradiction))
            have e1 : (a4 != b4) = true := by simp [h4]
            clear h4
            have e10 : (a0 != a0) = false := by simp
            have e11 : (a1 != a1) = false := by simp
            have e12 : (a2 != a2) = false := by simp
            go_enter Try.func80, Try.ntmps80
            go_wp2_with (first | (go_at_call 24; refine (hcall _ (below_al (below_al (Below.refl _ _) _) _)).mono ?_; rintro e w' ⟨rfl, hb'⟩; have hbl0 := (hb'.block w.heap.size (by simp; omega)).trans ((Below.heap_alloc _ _ _ (by simp)).trans (heap_alloc_new' _ _ (by simp))); have hbl1 := (hb'.block (w.heap.size + 1) (by simp)).trans (heap_alloc_new' _ _ (by simp)); have oa4 := blk_cell hbl0 4; simp at oa4; have ob4 := blk_cell hbl1 4; simp at ob4; have oa5 := blk_cell hbl0 5; simp at oa5; have ob5 := blk_cell hbl1 5; simp at ob5; clear hbl0 hbl1))
            go_ret
            exact ⟨ret_bool (Eq.symm HG.out), below_chain (below_al (below_al (Below.refl _ _) _) _) hb'⟩
      · have e1 : (a2 != b2) = true := by simp [h2]
        have e10 : (a0 != a0) = false := by simp
        have e11 : (a1 != a1) = false := by simp
        go_enter Try.func80, Try.ntmps80
        go_wp2_with fail
        go_ret
        exact ⟨ret_bool (by first | (simp; done) | simp [h2]), below_al (below_al (Below.refl _ _) _) _⟩
    · have e1 : (a1 != b1) = true := by simp [h1]
      have e10 : (a0 != a0) = false := by simp
      go_enter Try.func80, Try.ntmps80
      go_wp2_with fail
      go_ret
      exact ⟨ret_bool (by first | (simp; done) | simp [h1]), below_al (below_al (Below.refl _ _) _) _⟩
  · have e1 : (a0 != b0) = true := by simp [h0]
    go_enter Try.func80, Try.ntmps80
    go_wp2_with fail
    go_ret
    exact ⟨ret_bool (by first | (simp; done) | simp [h0]), below_al (below_al (Below.refl _ _) _) _⟩

set_option maxHeartbeats 1000000 in
theorem eqHoS_any (v1 v2 : Value) (xs ys : List Ho) (w : World) (h1 : RowR 6 rHo w v1 xs) (h2 : RowR 6 rHo w v2 ys) :
    Calls Try.prog 19 #[v1, v2] w fun e w' => e = .returned (.bool (decide (xs = ys))) ∧ Below w.heap.size w w' := by
  have hx := h1.cap
  have hy := h2.cap
  obtain ⟨a1, c1, rfl, hl1, hm1, r1⟩ := h1.hos
  obtain ⟨a2, c2, rfl, hl2, hm2, r2⟩ := h2.hos
  clear h1 h2
  by_cases hlen : xs.length = ys.length
  · have hLen := Lib.hid hlen
    have hne : (((xs.length : Nat) : Int) != (xs.length : Int)) = false := by simp
    rw [← hlen]
    clear hlen
    have R1 := Lib.hid r1
    have R2 := Lib.hid r2
    clear r1 r2
    go_enter Try.func19, Try.ntmps19
    go_wp2
    go_loopw [5] (fun i wr => ∃ k : Nat, k ≤ xs.length ∧ i = .int .i64 k ∧ Hid (∀ j, j < k → xs.getD j hoD = ys.getD j hoD) ∧ Below w.heap.size w wr) (fun i _ => xs.length - (intOf i).toNat)
    case atStart => exact ⟨0, Nat.zero_le _, rfl, Lib.hid (fun j h => by omega), Below.refl _ _⟩
    case round =>
      obtain ⟨k, hk, rfl, HJ, hb⟩ := hrel
      by_cases hlt : k < xs.length
      · obtain ⟨b1, o1, hb1, rfl, e1⟩ := R1.out.resolve_left (fun e => by rw [e] at hlt; simp at hlt)
        obtain ⟨b2, o2, hb2, rfl, e2⟩ := R2.out.resolve_left (fun e => by have := hLen.out; rw [e] at this; simp at this; rw [this] at hlt; simp at hlt)
        obtain ⟨s1, q0, q1, q2, q3, q4, q5, hr1, hok1⟩ := e1 k hlt
        obtain ⟨s2, z0, z1, z2, z3, z4, z5, hr2, hok2⟩ := e2 k (by have := hLen.out; omega)
        obtain ⟨r1, hx⟩ : ∃ s, xs.getD k hoD = s := ⟨_, rfl⟩
        obtain ⟨r2, hy⟩ : ∃ s, ys.getD k hoD = s := ⟨_, rfl⟩
        rw [hx] at q0 q1 q2 q4 q5 hr1 hok1
        rw [hy] at z0 z1 z2 z4 z5 hr2 hok2
        have f10 := cell_kept q0 hb
        have f11 := cell_kept q1 hb
        have f12 := cell_kept q2 hb
        have f13 := cell_kept q3 hb
        have f14 := cell_kept q4 hb
        have f15 := cell_kept q5 hb
        have f20 := cell_kept z0 hb
        have f21 := cell_kept z1 hb
        have f22 := cell_kept z2 hb
        have f23 := cell_kept z3 hb
        have f24 := cell_kept z4 hb
        have f25 := cell_kept z5 hb
        have hV1 : ∀ W, Below wr.heap.size wr W → HoV W (.agg #[.int .i64 r1.id, .int .i64 r1.frm, .int .i64 r1.til, s1, .int .i64 r1.fst, .int .i64 r1.lst]) r1 := fun W hW => ⟨s1, rfl, (hr1.below hb).below hW, hok1⟩
        have hV2 : ∀ W, Below wr.heap.size wr W → HoV W (.agg #[.int .i64 r2.id, .int .i64 r2.frm, .int .i64 r2.til, s2, .int .i64 r2.fst, .int .i64 r2.lst]) r2 := fun W hW => ⟨s2, rfl, (hr2.below hb).below hW, hok2⟩
        have HV1 := Lib.hid hV1
        have HV2 := Lib.hid hV2
        have HX := Lib.hid hx
        have HY := Lib.hid hy
        have hsz := hb.size
        have g0 : (0 : Int) ≤ (k : Int) := by omega
        have g1 : (k : Int) < (xs.length : Int) := by omega
        clear q0 q1 q2 q3 q4 q5 z0 z1 z2 z3 z4 z5 hr1 hr2 hok1 hok2 e1 e2 hx hy hV1 hV2
        obtain ⟨bb, hbb⟩ : ∃ bb, decide (r1 = r2) = bb := ⟨_, rfl⟩
        have HB := Lib.hid hbb
        clear hbb
        cases bb
        all_goals
          go_wp2_with fail
          go_region_held3 (fun w' => w'.cell? ⟨b1, o1 + k * 6, none⟩ = some (.int .i64 r1.id) ∧ w'.cell? ⟨b1, o1 + k * 6 + 1, none⟩ = some (.int .i64 r1.frm) ∧ w'.cell? ⟨b1, o1 + k * 6 + 2, none⟩ = some (.int .i64 r1.til) ∧ w'.cell? ⟨b1, o1 + k * 6 + 3, none⟩ = some s1 ∧ w'.cell? ⟨b1, o1 + k * 6 + 4, none⟩ = some (.int .i64 r1.fst) ∧ w'.cell? ⟨b1, o1 + k * 6 + 5, none⟩ = some (.int .i64 r1.lst) ∧ w'.cell? ⟨b2, o2 + k * 6, none⟩ = some (.int .i64 r2.id) ∧ w'.cell? ⟨b2, o2 + k * 6 + 1, none⟩ = some (.int .i64 r2.frm) ∧ w'.cell? ⟨b2, o2 + k * 6 + 2, none⟩ = some (.int .i64 r2.til) ∧ w'.cell? ⟨b2, o2 + k * 6 + 3, none⟩ = some s2 ∧ w'.cell? ⟨b2, o2 + k * 6 + 4, none⟩ = some (.int .i64 r2.fst) ∧ w'.cell? ⟨b2, o2 + k * 6 + 5, none⟩ = some (.int .i64 r2.lst))
            (first | exact ⟨f10, f11, f12, f13, f14, f15, f20, f21, f22, f23, f24, f25⟩ | exact ⟨cell_keptd f10 b7, cell_keptd f11 b7, cell_keptd f12 b7, cell_keptd f13 b7, cell_keptd f14 b7, cell_keptd f15 b7, cell_keptd f20 b7, cell_keptd f21 b7, cell_keptd f22 b7, cell_keptd f23 b7, cell_keptd f24 b7, cell_keptd f25 b7⟩)
            (first | (go_at_call 80; refine (eqHo_any _ _ r1 r2 _ (HV1.out _ (Below.refl _ _).drew) (HV2.out _ (Below.refl _ _).drew)).mono ?_; rw [HB.out]; rintro e w7 ⟨rfl, b7⟩))
        · go_wp2_with fail
          go_ret
          refine ⟨ret_bool (Eq.symm (decide_eq_false fun e => ?_)), hb.drew.trans (b7.mono hsz)⟩
          have h1 := of_decide_eq_false HB.out
          subst e
          exact h1 (HX.out.symm.trans HY.out)
        · go_wp2_with fail
          go_roundw
          case rel =>
            refine ⟨k + 1, by omega, by go_num, Lib.hid (fun j h => ?_), hb.drew.trans (b7.mono hsz)⟩
            rcases Nat.lt_or_ge j k with h' | h'
            · exact HJ.out j h'
            · obtain rfl : j = k := by omega
              rw [HX.out, HY.out]
              exact of_decide_eq_true HB.out
          case measure => simp [intOf]; omega
      · go_wp2_with fail
        go_ret
        refine ⟨ret_bool (Eq.symm (decide_eq_true ?_)), hb⟩
        refine List.ext_getElem hLen.out fun i a b => ?_
        have := HJ.out i (by omega)
        rwa [getHo_lt a, getHo_lt b] at this
  · have hne : (((xs.length : Nat) : Int) != (ys.length : Int)) = true := by simp; omega
    rw [decide_eq_false (fun e => hlen (by rw [e]))]
    go_enter Try.func19, Try.ntmps19
    go_wp2
    go_ret
    exact ⟨rfl, Below.refl _ _⟩
end Go.Proofs.Ytkjpehpodlpdhaa
