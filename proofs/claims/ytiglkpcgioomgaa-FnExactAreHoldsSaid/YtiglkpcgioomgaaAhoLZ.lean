/- BytesNe, EqHo, Mark, MarkInt, MarkHo, CellOnly, AhoL, in one text. -/
import Derived.Test.YtiglkpcgioomgaaRowOf
import Derived.Test.YtiglkpcgioomgaaToHo
import Derived.Deep.RegionHeld3
import Derived.WalkSmall
import Derived.Test.YtiglkpcgioomgaaFrame
import Derived.WalkSpells
import Derived.Lib.Hide
import Derived.Laws.BytesArg
import Derived.Laws.IdiomStrings
import Derived.Outline
import Derived.WalkLawsBesides
import Derived.Test.YtiglkpcgioomgaaOwn
import Derived.Test.YtiglkpcgioomgaaCells
import Derived.Test.YtiglkpcgioomgaaHo3S
import Derived.Test.YtiglkpcgioomgaaHo2I
namespace Go.Proofs.Ytiglkpcgioomgaa
set_option linter.unusedVariables false
open Go.RowKit

theorem beq_bytes_ne {a b : ByteArray} (h : ¬ a = b) : (a.toList == b.toList) = false := by
  rw [beq_eq_false_iff_ne]
  intro e
  rw [ByteArray.toList_eq, ByteArray.toList_eq] at e
  exact h (ByteArray.ext (Array.ext' e))

end Go.Proofs.Ytiglkpcgioomgaa

namespace Go.Proofs.Ytiglkpcgioomgaa
set_option linter.unusedVariables false
open Go.RowKit

theorem szHo_one (v : Value) (x : Ho) (left : Int) (w : World) (h : HoV w v x) (h0 : 0 ≤ left) (h2 : left ≤ 1099511627776) :
    Calls Try.prog 52 #[v, .int .i64 left] w fun e w' => e = .returned (.int .i64 (if left < sz1Ho x then -1 else left - sz1Ho x)) ∧ Below w.heap.size w w' := by
  obtain ⟨s, rfl, h1, hok⟩ := h
  have hcap := h1.cap
  obtain ⟨x0, x1, x2, x3, x4, x5⟩ := x
  obtain ⟨o0, o1, o2, o4, o5⟩ := hok
  obtain ⟨z, hz⟩ : ∃ z, sz1Ho ⟨x0, x1, x2, x3, x4, x5⟩ = z := ⟨_, rfl⟩
  have hz2 : x3.length = z := hz
  rw [hz]
  have H1 := Lib.hid h1
  clear hz h1
  by_cases t3 : left < (x3.length : Int)
  · have hc : left < (z : Int) := by omega
    simp only [if_pos hc]
    clear hc
    go_enter Try.func52, Try.ntmps52
    go_wp2_with (first | (go_at_call 98; refine (szIntS_any _ x3 _ _ (H1.out.below (below_al (Below.refl _ _) _)) (by omega) (by omega)).mono ?_; rw [if_pos (by omega)]; rintro e w' ⟨rfl, hb'⟩))
    go_ret
    exact ⟨rfl, below_chain (below_al (Below.refl _ _) _) hb'⟩
  · have hc : ¬ left < (z : Int) := by omega
    simp only [if_neg hc]
    clear hc
    go_enter Try.func52, Try.ntmps52
    go_wp2_with (first | (go_at_call 98; refine (szIntS_any _ x3 _ _ (H1.out.below (below_al (Below.refl _ _) _)) (by omega) (by omega)).mono ?_; rw [if_neg (by omega)]; rintro e w' ⟨rfl, hb'⟩))
    go_ret
    exact ⟨ret_int (by omega), below_chain (below_al (Below.refl _ _) _) hb'⟩

set_option maxHeartbeats 1000000 in
theorem szHoS_any (v : Value) (xs : List Ho) (left : Int) (w : World) (h : RowR 6 rHo w v xs) (h0 : 0 ≤ left) (h2 : left ≤ 1099511627776) :
    Calls Try.prog 13 #[v, .int .i64 left] w fun e w' => ∃ n : Int, e = .returned (.int .i64 n) ∧ (n < 0 ∨ (xs.length : Int) + szHo xs ≤ left) ∧ (0 ≤ n ∨ n = -1) ∧ n ≤ left ∧ Below w.heap.size w w' := by
  have hcap := h.cap
  obtain ⟨a1, c1, rfl, hl1, hm1, r1⟩ := h.hos
  have R1 := Lib.hid r1
  clear h r1
  unfold maxLen at hm1
  by_cases hb : left < xs.length
  · go_enter Try.func13, Try.ntmps13
    go_wp2_with fail
    go_ret
    exact ⟨-1, rfl, Or.inl (by omega), Or.inr rfl, by omega, Below.refl _ _⟩
  · go_enter Try.func13, Try.ntmps13
    go_wp2_with fail
    go_loopw [1, 5] (fun l i wr => ∃ (k : Nat) (n : Int), k ≤ xs.length ∧ i = .int .i64 k ∧ l = .int .i64 n ∧ Hid (n = left - xs.length - szHo (xs.take k)) ∧ 0 ≤ n ∧ n ≤ left ∧ Below w.heap.size w wr) (fun _ i _ => xs.length - (intOf i).toNat)
    case atStart => exact ⟨0, left - xs.length, Nat.zero_le _, rfl, rfl, Lib.hid (by simp [szHo]), by omega, by omega, Below.refl _ _⟩
    case round =>
      obtain ⟨k, n, hk, rfl, rfl, HN, hn0, hnl, hb⟩ := hrel
      by_cases hlt : k < xs.length
      · obtain ⟨b1, o1, hb1, rfl, e1⟩ := R1.out.resolve_left (fun e => by rw [e] at hlt; simp at hlt)
        obtain ⟨s, q0, q1, q2, q3, q4, q5, hr, hok⟩ := e1 k hlt
        obtain ⟨r, hx⟩ : ∃ s, xs.getD k hoD = s := ⟨_, rfl⟩
        rw [hx] at q0 q1 q2 q4 q5 hr hok
        have f0 := cell_kept q0 hb
        have f1 := cell_kept q1 hb
        have f2 := cell_kept q2 hb
        have f3 := cell_kept q3 hb
        have f4 := cell_kept q4 hb
        have f5 := cell_kept q5 hb
        have HX := Lib.hid hx
        have hV : HoV wr (.agg #[.int .i64 r.id, .int .i64 r.frm, .int .i64 r.til, s, .int .i64 r.fst, .int .i64 r.lst]) r := ⟨s, rfl, hr.below hb, hok⟩
        have HV := Lib.hid hV
        have g0 : (0 : Int) ≤ (k : Int) := by omega
        have g1 : (k : Int) < (xs.length : Int) := by omega
        have hw := hb.size
        clear q0 q1 q2 q3 q4 q5 hr hok hx e1 hV
        by_cases hfit : n < sz1Ho r
        · go_wp2_with fail
          refine (szHo_one _ r n _ HV.out hn0 (by omega)).mono ?_
          rw [if_pos (by omega)]
          rintro e w1 ⟨rfl, b2⟩
          go_wp2_with fail
          go_ret
          exact ⟨-1, rfl, Or.inl (by omega), Or.inr rfl, by omega, hb.trans (b2.mono hw)⟩
        · go_wp2_with fail
          refine (szHo_one _ r n _ HV.out hn0 (by omega)).mono ?_
          rw [if_neg (by omega)]
          rintro e w1 ⟨rfl, b2⟩
          go_wp2_with fail
          go_roundw
          case rel =>
            refine ⟨k + 1, n - sz1Ho r, by omega, by go_num, rfl, Lib.hid ?_, by omega, by omega, hb.trans (b2.mono hw)⟩
            have h1 := szHo_take_succ xs k hlt
            rw [HX.out] at h1
            have h2 := HN.out
            omega
          case measure => simp [intOf]; omega
      · obtain rfl : k = xs.length := by omega
        go_wp2_with fail
        go_ret
        refine ⟨n, rfl, Or.inr ?_, Or.inl hn0, hnl, hb⟩
        have := HN.out
        rw [List.take_length] at this
        omega

set_option maxHeartbeats 1000000 in
theorem eqHo_any (v1 v2 : Value) (a b : Ho) (w : World) (h1 : HoV w v1 a) (h2 : HoV w v2 b) :
    Calls Try.prog 58 #[v1, v2] w fun e w' => e = .returned (.bool (decide (a = b))) ∧ Below w.heap.size w w' := by
  obtain ⟨s1, rfl, h1, _⟩ := h1
  obtain ⟨s2, rfl, h2, _⟩ := h2
  obtain ⟨a0, a1, a2, a3, a4, a5⟩ := a
  obtain ⟨b0, b1, b2, b3, b4, b5⟩ := b
  have H1 := Lib.hid h1
  have H2 := Lib.hid h2
  clear h1 h2
  by_cases h0 : a0 = b0
  · subst h0
    by_cases h1 : a1 = b1
    · subst h1
      by_cases h2 : a2 = b2
      · subst h2
        obtain ⟨bb, hbb⟩ : ∃ bb, decide (a3 = b3) = bb := ⟨_, rfl⟩
        have hcall : ∀ W : World, Below w.heap.size w W → Calls Try.prog 22 #[s1, s2] W fun e w' => e = .returned (.bool bb) ∧ Below W.heap.size W w' := fun W hW => by
          have := eqIntS_any s1 s2 a3 b3 W (H1.out.below hW) (H2.out.below hW)
          rwa [hbb] at this
        cases bb
        · have HG : Hid (decide ((⟨a0, a1, a2, a3, a4, a5⟩ : Ho) = ⟨a0, a1, a2, b3, b4, b5⟩) = false) := Lib.hid (decide_eq_false (fun e => by injection e; have := of_decide_eq_false hbb; contradiction))
          clear hbb
          go_enter Try.func58, Try.ntmps58
          go_wp2_with (first | (go_at_call 22; refine (hcall _ (below_al (below_al (Below.refl _ _) _) _)).mono ?_; rintro e w' ⟨rfl, hb'⟩; have hbl0 := (hb'.block w.heap.size (by simp; omega)).trans ((Below.heap_alloc _ _ _ (by simp)).trans (heap_alloc_new' _ _ (by simp))); have hbl1 := (hb'.block (w.heap.size + 1) (by simp)).trans (heap_alloc_new' _ _ (by simp)); have oa4 := blk_cell hbl0 4; simp at oa4; have ob4 := blk_cell hbl1 4; simp at ob4; have oa5 := blk_cell hbl0 5; simp at oa5; have ob5 := blk_cell hbl1 5; simp at ob5; clear hbl0 hbl1))
          go_ret
          exact ⟨ret_bool (Eq.symm HG.out), below_chain (below_al (below_al (Below.refl _ _) _) _) hb'⟩
        · have hJ := of_decide_eq_true hbb
          subst hJ
          clear hbb
          by_cases h4 : a4 = b4
          · subst h4
            by_cases h5 : a5 = b5
            · subst h5
              have HG : Hid (decide ((⟨a0, a1, a2, a3, a4, a5⟩ : Ho) = ⟨a0, a1, a2, a3, a4, a5⟩) = true) := Lib.hid (decide_eq_true rfl)
              have e10 : (a0 != a0) = false := by simp
              have e11 : (a1 != a1) = false := by simp
              have e12 : (a2 != a2) = false := by simp
              have e14 : (a4 != a4) = false := by simp
              have e15 : (a5 != a5) = false := by simp
              go_enter Try.func58, Try.ntmps58
              go_wp2_with (first | (go_at_call 22; refine (hcall _ (below_al (below_al (Below.refl _ _) _) _)).mono ?_; rintro e w' ⟨rfl, hb'⟩; have hbl0 := (hb'.block w.heap.size (by simp; omega)).trans ((Below.heap_alloc _ _ _ (by simp)).trans (heap_alloc_new' _ _ (by simp))); have hbl1 := (hb'.block (w.heap.size + 1) (by simp)).trans (heap_alloc_new' _ _ (by simp)); have oa4 := blk_cell hbl0 4; simp at oa4; have ob4 := blk_cell hbl1 4; simp at ob4; have oa5 := blk_cell hbl0 5; simp at oa5; have ob5 := blk_cell hbl1 5; simp at ob5; clear hbl0 hbl1))
              go_ret
              exact ⟨ret_bool (Eq.symm HG.out), below_chain (below_al (below_al (Below.refl _ _) _) _) hb'⟩
            · have HG : Hid (decide ((⟨a0, a1, a2, a3, a4, a5⟩ : Ho) = ⟨a0, a1, a2, a3, a4, b5⟩) = false) := Lib.hid (decide_eq_false (fun e => by injection e; contradiction))
              have e1 : (a5 != b5) = true := by simp [h5]
              clear h5
              have e10 : (a0 != a0) = false := by simp
              have e11 : (a1 != a1) = false := by simp
              have e12 : (a2 != a2) = false := by simp
              have e14 : (a4 != a4) = false := by simp
              go_enter Try.func58, Try.ntmps58
              go_wp2_with (first | (go_at_call 22; refine (hcall _ (below_al (below_al (Below.refl _ _) _) _)).mono ?_; rintro e w' ⟨rfl, hb'⟩; have hbl0 := (hb'.block w.heap.size (by simp; omega)).trans ((Below.heap_alloc _ _ _ (by simp)).trans (heap_alloc_new' _ _ (by simp))); have hbl1 := (hb'.block (w.heap.size + 1) (by simp)).trans (heap_alloc_new' _ _ (by simp)); have oa4 := blk_cell hbl0 4; simp at oa4; have ob4 := blk_cell hbl1 4; simp at ob4; have oa5 := blk_cell hbl0 5; simp at oa5; have ob5 := blk_cell hbl1 5; simp at ob5; clear hbl0 hbl1))
              go_ret
              exact ⟨ret_bool (Eq.symm HG.out), below_chain (below_al (below_al (Below.refl _ _) _) _) hb'⟩
          · have HG : Hid (decide ((⟨a0, a1, a2, a3, a4, a5⟩ : Ho) = ⟨a0, a1, a2, a3, b4, b5⟩) = false) := Lib.hid (decide_eq_false (fun e => by injection e; contradiction))
            have e1 : (a4 != b4) = true := by simp [h4]
            clear h4
            have e10 : (a0 != a0) = false := by simp
            have e11 : (a1 != a1) = false := by simp
            have e12 : (a2 != a2) = false := by simp
            go_enter Try.func58, Try.ntmps58
            go_wp2_with (first | (go_at_call 22; refine (hcall _ (below_al (below_al (Below.refl _ _) _) _)).mono ?_; rintro e w' ⟨rfl, hb'⟩; have hbl0 := (hb'.block w.heap.size (by simp; omega)).trans ((Below.heap_alloc _ _ _ (by simp)).trans (heap_alloc_new' _ _ (by simp))); have hbl1 := (hb'.block (w.heap.size + 1) (by simp)).trans (heap_alloc_new' _ _ (by simp)); have oa4 := blk_cell hbl0 4; simp at oa4; have ob4 := blk_cell hbl1 4; simp at ob4; have oa5 := blk_cell hbl0 5; simp at oa5; have ob5 := blk_cell hbl1 5; simp at ob5; clear hbl0 hbl1))
            go_ret
            exact ⟨ret_bool (Eq.symm HG.out), below_chain (below_al (below_al (Below.refl _ _) _) _) hb'⟩
      · have e1 : (a2 != b2) = true := by simp [h2]
        have e10 : (a0 != a0) = false := by simp
        have e11 : (a1 != a1) = false := by simp
        go_enter Try.func58, Try.ntmps58
        go_wp2_with fail
        go_ret
        exact ⟨ret_bool (by first | (simp; done) | simp [h2]), below_al (below_al (Below.refl _ _) _) _⟩
    · have e1 : (a1 != b1) = true := by simp [h1]
      have e10 : (a0 != a0) = false := by simp
      go_enter Try.func58, Try.ntmps58
      go_wp2_with fail
      go_ret
      exact ⟨ret_bool (by first | (simp; done) | simp [h1]), below_al (below_al (Below.refl _ _) _) _⟩
  · have e1 : (a0 != b0) = true := by simp [h0]
    go_enter Try.func58, Try.ntmps58
    go_wp2_with fail
    go_ret
    exact ⟨ret_bool (by first | (simp; done) | simp [h0]), below_al (below_al (Below.refl _ _) _) _⟩

set_option maxHeartbeats 1000000 in
theorem eqHoS_any (v1 v2 : Value) (xs ys : List Ho) (w : World) (h1 : RowR 6 rHo w v1 xs) (h2 : RowR 6 rHo w v2 ys) :
    Calls Try.prog 17 #[v1, v2] w fun e w' => e = .returned (.bool (decide (xs = ys))) ∧ Below w.heap.size w w' := by
  have hx := h1.cap
  have hy := h2.cap
  obtain ⟨a1, c1, rfl, hl1, hm1, r1⟩ := h1.hos
  obtain ⟨a2, c2, rfl, hl2, hm2, r2⟩ := h2.hos
  clear h1 h2
  by_cases hlen : xs.length = ys.length
  · have hLen := Lib.hid hlen
    have hne : (((xs.length : Nat) : Int) != (xs.length : Int)) = false := by simp
    rw [← hlen]
    clear hlen
    have R1 := Lib.hid r1
    have R2 := Lib.hid r2
    clear r1 r2
    go_enter Try.func17, Try.ntmps17
    go_wp2
    go_loopw [5] (fun i wr => ∃ k : Nat, k ≤ xs.length ∧ i = .int .i64 k ∧ Hid (∀ j, j < k → xs.getD j hoD = ys.getD j hoD) ∧ Below w.heap.size w wr) (fun i _ => xs.length - (intOf i).toNat)
    case atStart => exact ⟨0, Nat.zero_le _, rfl, Lib.hid (fun j h => by omega), Below.refl _ _⟩
    case round =>
      obtain ⟨k, hk, rfl, HJ, hb⟩ := hrel
      by_cases hlt : k < xs.length
      · obtain ⟨b1, o1, hb1, rfl, e1⟩ := R1.out.resolve_left (fun e => by rw [e] at hlt; simp at hlt)
        obtain ⟨b2, o2, hb2, rfl, e2⟩ := R2.out.resolve_left (fun e => by have := hLen.out; rw [e] at this; simp at this; rw [this] at hlt; simp at hlt)
        obtain ⟨s1, q0, q1, q2, q3, q4, q5, hr1, hok1⟩ := e1 k hlt
        obtain ⟨s2, z0, z1, z2, z3, z4, z5, hr2, hok2⟩ := e2 k (by have := hLen.out; omega)
        obtain ⟨r1, hx⟩ : ∃ s, xs.getD k hoD = s := ⟨_, rfl⟩
        obtain ⟨r2, hy⟩ : ∃ s, ys.getD k hoD = s := ⟨_, rfl⟩
        rw [hx] at q0 q1 q2 q4 q5 hr1 hok1
        rw [hy] at z0 z1 z2 z4 z5 hr2 hok2
        have f10 := cell_kept q0 hb
        have f11 := cell_kept q1 hb
        have f12 := cell_kept q2 hb
        have f13 := cell_kept q3 hb
        have f14 := cell_kept q4 hb
        have f15 := cell_kept q5 hb
        have f20 := cell_kept z0 hb
        have f21 := cell_kept z1 hb
        have f22 := cell_kept z2 hb
        have f23 := cell_kept z3 hb
        have f24 := cell_kept z4 hb
        have f25 := cell_kept z5 hb
        have hV1 : ∀ W, Below wr.heap.size wr W → HoV W (.agg #[.int .i64 r1.id, .int .i64 r1.frm, .int .i64 r1.til, s1, .int .i64 r1.fst, .int .i64 r1.lst]) r1 := fun W hW => ⟨s1, rfl, (hr1.below hb).below hW, hok1⟩
        have hV2 : ∀ W, Below wr.heap.size wr W → HoV W (.agg #[.int .i64 r2.id, .int .i64 r2.frm, .int .i64 r2.til, s2, .int .i64 r2.fst, .int .i64 r2.lst]) r2 := fun W hW => ⟨s2, rfl, (hr2.below hb).below hW, hok2⟩
        have HV1 := Lib.hid hV1
        have HV2 := Lib.hid hV2
        have HX := Lib.hid hx
        have HY := Lib.hid hy
        have hsz := hb.size
        have g0 : (0 : Int) ≤ (k : Int) := by omega
        have g1 : (k : Int) < (xs.length : Int) := by omega
        clear q0 q1 q2 q3 q4 q5 z0 z1 z2 z3 z4 z5 hr1 hr2 hok1 hok2 e1 e2 hx hy hV1 hV2
        obtain ⟨bb, hbb⟩ : ∃ bb, decide (r1 = r2) = bb := ⟨_, rfl⟩
        have HB := Lib.hid hbb
        clear hbb
        cases bb
        all_goals
          go_wp2_with fail
          go_region_held3 (fun w' => w'.cell? ⟨b1, o1 + k * 6, none⟩ = some (.int .i64 r1.id) ∧ w'.cell? ⟨b1, o1 + k * 6 + 1, none⟩ = some (.int .i64 r1.frm) ∧ w'.cell? ⟨b1, o1 + k * 6 + 2, none⟩ = some (.int .i64 r1.til) ∧ w'.cell? ⟨b1, o1 + k * 6 + 3, none⟩ = some s1 ∧ w'.cell? ⟨b1, o1 + k * 6 + 4, none⟩ = some (.int .i64 r1.fst) ∧ w'.cell? ⟨b1, o1 + k * 6 + 5, none⟩ = some (.int .i64 r1.lst) ∧ w'.cell? ⟨b2, o2 + k * 6, none⟩ = some (.int .i64 r2.id) ∧ w'.cell? ⟨b2, o2 + k * 6 + 1, none⟩ = some (.int .i64 r2.frm) ∧ w'.cell? ⟨b2, o2 + k * 6 + 2, none⟩ = some (.int .i64 r2.til) ∧ w'.cell? ⟨b2, o2 + k * 6 + 3, none⟩ = some s2 ∧ w'.cell? ⟨b2, o2 + k * 6 + 4, none⟩ = some (.int .i64 r2.fst) ∧ w'.cell? ⟨b2, o2 + k * 6 + 5, none⟩ = some (.int .i64 r2.lst))
            (first | exact ⟨f10, f11, f12, f13, f14, f15, f20, f21, f22, f23, f24, f25⟩ | exact ⟨cell_keptd f10 b7, cell_keptd f11 b7, cell_keptd f12 b7, cell_keptd f13 b7, cell_keptd f14 b7, cell_keptd f15 b7, cell_keptd f20 b7, cell_keptd f21 b7, cell_keptd f22 b7, cell_keptd f23 b7, cell_keptd f24 b7, cell_keptd f25 b7⟩)
            (first | (go_at_call 58; refine (eqHo_any _ _ r1 r2 _ (HV1.out _ (Below.refl _ _).drew) (HV2.out _ (Below.refl _ _).drew)).mono ?_; rw [HB.out]; rintro e w7 ⟨rfl, b7⟩))
        · go_wp2_with fail
          go_ret
          refine ⟨ret_bool (Eq.symm (decide_eq_false fun e => ?_)), hb.drew.trans (b7.mono hsz)⟩
          have h1 := of_decide_eq_false HB.out
          subst e
          exact h1 (HX.out.symm.trans HY.out)
        · go_wp2_with fail
          go_roundw
          case rel =>
            refine ⟨k + 1, by omega, by go_num, Lib.hid (fun j h => ?_), hb.drew.trans (b7.mono hsz)⟩
            rcases Nat.lt_or_ge j k with h' | h'
            · exact HJ.out j h'
            · obtain rfl : j = k := by omega
              rw [HX.out, HY.out]
              exact of_decide_eq_true HB.out
          case measure => simp [intOf]; omega
      · go_wp2_with fail
        go_ret
        refine ⟨ret_bool (Eq.symm (decide_eq_true ?_)), hb⟩
        refine List.ext_getElem hLen.out fun i a b => ?_
        have := HJ.out i (by omega)
        rwa [getHo_lt a, getHo_lt b] at this
  · have hne : (((xs.length : Nat) : Int) != (ys.length : Int)) = true := by simp; omega
    rw [decide_eq_false (fun e => hlen (by rw [e]))]
    go_enter Try.func17, Try.ntmps17
    go_wp2
    go_ret
    exact ⟨rfl, Below.refl _ _⟩
end Go.Proofs.Ytiglkpcgioomgaa

namespace Go.Proofs.Ytiglkpcgioomgaa
set_option linter.unusedVariables false
open Go.RowKit

def mtGo : Nat → Nat → List UInt8 → List UInt8
  | 0, _, acc => acc
  | f + 1, k, acc => if k = 0 then acc else mtGo f (k / 10) ((48 + UInt8.ofNat (k % 10)) :: acc)
def mt (k : Nat) : List UInt8 := 109 :: mtGo k k []
theorem mtGo_step (f k : Nat) (acc : List UInt8) (h : 0 < k) : mtGo (f + 1) k acc = mtGo f (k / 10) ((48 + UInt8.ofNat (k % 10)) :: acc) := by
  simp only [mtGo]; rw [if_neg (by omega)]
theorem mtGo_more (f : Nat) : ∀ (k : Nat) (acc : List UInt8), k ≤ f → ∀ g, k ≤ g → mtGo f k acc = mtGo g k acc := by
  induction f with
  | zero => intro k acc h g hg; obtain rfl : k = 0 := by omega
            cases g with
            | zero => rfl
            | succ g => simp [mtGo]
  | succ f ih =>
    intro k acc h g hg
    by_cases hk : k = 0
    · subst hk; cases g with
      | zero => simp [mtGo]
      | succ g => simp [mtGo]
    · obtain ⟨g', rfl⟩ : ∃ g', g = g' + 1 := ⟨g - 1, by omega⟩
      rw [mtGo_step _ _ _ (by omega), mtGo_step _ _ _ (by omega)]
      exact ih _ _ (by omega) _ (by omega)


theorem cat_lit (c : UInt8) (out : List UInt8) : (⟨#[c]⟩ : ByteArray) ++ ⟨out.toArray⟩ = ⟨(c :: out).toArray⟩ := by
  rfl

end Go.Proofs.Ytiglkpcgioomgaa

namespace Go.Proofs.Ytiglkpcgioomgaa
set_option linter.unusedVariables false
open Go.RowKit


theorem mtGo_len : ∀ (f k : Nat) (acc : List UInt8), (mtGo f k acc).length ≤ acc.length + f
  | 0, _, acc => by simp [mtGo]
  | f + 1, k, acc => by
    unfold mtGo
    split
    · omega
    · have := mtGo_len f (k / 10) ((48 + UInt8.ofNat (k % 10)) :: acc)
      simp only [List.length_cons] at this
      omega
theorem mt_size_ok (k : Nat) (h : k ≤ 1099511627776) : (⟨(mt k).toArray⟩ : ByteArray).size ≤ maxLen := by
  have := mtGo_len k k []
  show (mt k).toArray.size ≤ maxLen
  simp only [List.size_toArray, mt, List.length_cons, List.length_nil, maxLen] at *
  omega
end Go.Proofs.Ytiglkpcgioomgaa

namespace Go.Proofs.Ytiglkpcgioomgaa
set_option linter.unusedVariables false
open Go.RowKit

def msHo (xs : List Ho) : Nat := (xs.map (fun x => x.ser.length)).sum
theorem msHo_take_succ (xs : List Ho) (k : Nat) (h : k < xs.length) : msHo (xs.take (k + 1)) = msHo (xs.take k) + xs[k].ser.length := by
  unfold msHo
  rw [List.take_add_one, List.getElem?_eq_getElem h, List.map_append, List.sum_append]
  simp only [Option.toList_some, List.map_cons, List.map_nil, List.sum_cons, List.sum_nil, Nat.add_zero]
theorem msHo_take_le (xs : List Ho) (k : Nat) : msHo (xs.take k) ≤ msHo xs := by
  have h : msHo xs = msHo (xs.take k) + msHo (xs.drop k) := by
    unfold msHo
    rw [← List.sum_append, ← List.map_append, List.take_append_drop]
  omega
theorem msHo_le (xs : List Ho) : msHo xs ≤ szHo xs * 4 := by
  induction xs with
  | nil => simp [msHo]
  | cons x xs ih =>
    have h := sz1Ho_len x
    simp only [msHo, szHo, List.map_cons, List.sum_cons] at ih ⊢
    omega

set_option maxHeartbeats 2000000 in
theorem markHoS_val (v : Value) (rs : List Ho) (lo hi k0 : Nat) (w : World) (hk0 : 1 ≤ k0) (hk1 : k0 + rs.length * 5 + msHo rs ≤ 1099511627776) (h : HosO lo hi w v rs) :
    Calls Try.prog 24 #[v, .int .i64 k0] w fun e w' => ∃ n : Nat, e = .returned (.int .i64 n) ∧ n = k0 + rs.length * 5 + msHo rs ∧ Only lo hi w w' := by
  obtain ⟨css, f, hl, ho, hu, hlo, hm, hhi, he⟩ := h
  rcases ho.form with ⟨rfl, h0⟩ | ⟨g, cap, hv, hg, hgl, hn, hmx⟩
  · have hx : rs = [] := by rw [h0] at hl; exact List.length_eq_zero_iff.1 hl.symm
    subst hx
    clear h0 ho he hl
    go_enter Try.func24, Try.ntmps24
    go_wp2
    refine wp_loop_rounds 1 ?_
    rw [rounds_succ]
    go_wp2
    go_ret
    exact ⟨k0, rfl, by simp [msHo], Only.refl _ _ _⟩
  · rw [hl] at hv hn
    subst hv
    unfold maxLen at hmx
    have hg0 : g < f 0 := hu g rfl
    have HM := Lib.hid hm
    have HL := Lib.hid hl
    have HO0 := Lib.hid ho
    have HE := Lib.hid he
    have HF := Lib.hid (And.intro hlo hhi)
    clear ho he hm hl hlo hhi hu
    go_enter Try.func24, Try.ntmps24
    go_wp2
    go_loopw [1, 5] (fun q i wr => ∃ (k n : Nat) (cs : List (List Value)), k ≤ rs.length ∧ i = .int .i64 k ∧ q = .int .i64 n ∧ Hid (n = k0 + k * 5 + msHo (rs.take k)) ∧ n ≤ 1099511627776 ∧
        Own lo 76 6 wr (.slice (some ⟨g, 0, none⟩) rs.length cap) cs ∧ Hid (cs.length = rs.length ∧ ∀ i (h1 : i < cs.length) (h2 : i < rs.length), k ≤ i → ∃ s, cs[i] = hoC rs[i] s ∧ IntsO (f i) (f (i + 1)) wr s rs[i].ser) ∧ Only lo hi w wr) (fun _ i _ => rs.length - (intOf i).toNat)
    case atStart => exact ⟨0, k0, css, Nat.zero_le _, rfl, rfl, Lib.hid (by simp [msHo]), by omega, HO0.out, Lib.hid ⟨HL.out, fun i h1 h2 _ => by obtain ⟨s, e1, e2, _⟩ := HE.out i h1 h2; exact ⟨s, e1, e2⟩⟩, Only.refl _ _ _⟩
    case round =>
      obtain ⟨k, n, cs, hk, rfl, rfl, HN, hnb, hO, I, hOn⟩ := hrel
      have HO := Lib.hid hO
      by_cases hlt : k < rs.length
      · obtain ⟨r, hx⟩ : ∃ r, rs[k] = r := ⟨_, rfl⟩
        obtain ⟨s, e1, e2⟩ := I.out.2 k (by rw [I.out.1]; exact hlt) hlt (Nat.le_refl _)
        obtain ⟨sa, sn, sc, rfl⟩ := e2.slice
        rw [hx] at e1 e2
        simp only [hoC] at e1
        have hkc : k < cs.length := by rw [I.out.1]; exact hlt
        have HKC := Lib.hid hkc
        have HX := Lib.hid hx
        have E2 := Lib.hid e2
        have HI : Hid (Own lo 76 6 wr (.slice (some ⟨g, 0, none⟩) rs.length cap) cs ∧ ∃ h : k < cs.length, cs[k] = [.int .i64 r.id, .int .i64 r.frm, .int .i64 r.til, .slice sa sn sc, .int .i64 r.fst, .int .i64 r.lst]) := ⟨HO.out, hkc, e1⟩
        have HON : Hid (Only g (g + 1) wr wr) := Lib.hid (Only.refl _ _ _)
        have g0 : (0 : Int) ≤ (k : Int) := by omega
        have g1 : (k : Int) < (rs.length : Int) := by omega
        have hszk := msHo_take_succ rs k hlt
        have hszl := msHo_take_le rs (k + 1)
        rw [hx] at hszk
        have hnn : n + 5 + r.ser.length ≤ 1099511627776 := by have := HN.out; omega
        have HSZ := Lib.hid hszk
        have c0 := HI.out.1.cell k 0 HI.out.2.1 (by omega)
        have c1 := HI.out.1.cell k 1 HI.out.2.1 (by omega)
        have c2 := HI.out.1.cell k 2 HI.out.2.1 (by omega)
        have c3 := HI.out.1.cell k 3 HI.out.2.1 (by omega)
        have c4 := HI.out.1.cell k 4 HI.out.2.1 (by omega)
        have c5 := HI.out.1.cell k 5 HI.out.2.1 (by omega)
        rw [HI.out.2.2] at c0 c1 c2 c3 c4 c5
        simp at c0 c1 c2 c3 c4 c5
        have fr0 := HI.out.1.frozen (k * 6)
        have fr1 := HI.out.1.frozen (k * 6 + 1)
        have fr2 := HI.out.1.frozen (k * 6 + 2)
        have fr3 := HI.out.1.frozen (k * 6 + 3)
        have fr4 := HI.out.1.frozen (k * 6 + 4)
        have fr5 := HI.out.1.frozen (k * 6 + 5)
        clear hO e1 e2 hx hszk hszl hkc HO
        go_wp2_with fail
        obtain ⟨p1, p2⟩ := Own.puts [.int .i64 ((n : Int)), .int .i64 ((n : Int) + 1), .int .i64 ((n : Int) + 1 + 1)] _ _ k 0 HI.out.2.1 (by simp) HI.out.1
        rw [HI.out.2.2] at p1
        simp only [setFrom, List.set_cons_zero, List.set_cons_succ, Nat.zero_add, Nat.add_zero] at p1 p2
        replace HI : Hid (Own lo 76 6 _ (.slice (some ⟨g, 0, none⟩) rs.length cap) (cs.set k [.int .i64 ((n : Int)), .int .i64 ((n : Int) + 1), .int .i64 ((n : Int) + 1 + 1), .slice sa sn sc, .int .i64 r.fst, .int .i64 r.lst]) ∧ ∃ h : k < (cs.set k [.int .i64 ((n : Int)), .int .i64 ((n : Int) + 1), .int .i64 ((n : Int) + 1 + 1), .slice sa sn sc, .int .i64 r.fst, .int .i64 r.lst]).length, (cs.set k [.int .i64 ((n : Int)), .int .i64 ((n : Int) + 1), .int .i64 ((n : Int) + 1 + 1), .slice sa sn sc, .int .i64 r.fst, .int .i64 r.lst])[k] = [.int .i64 ((n : Int)), .int .i64 ((n : Int) + 1), .int .i64 ((n : Int) + 1 + 1), .slice sa sn sc, .int .i64 r.fst, .int .i64 r.lst]) := ⟨p1, by simpa using HKC.out, by rw [List.getElem_set_self]⟩
        replace HON := Lib.hid (HON.out.trans (Only.of_grown (lo := g) (hi := g + 1) (v := .slice (some ⟨g, 0, none⟩) rs.length cap) p2 (fun g' hg' => by simp [Value.ownBlock] at hg'; omega) (fun g' hg' => by simp [Value.ownBlock] at hg'; omega)))
        clear p1 p2
        have hon := HON.out
        have hmk : ∀ i, i ≤ rs.length → g + 1 ≤ f i := fun i hi => Nat.le_trans hg0 (mono_up HM.out 0 i (Nat.zero_le _) hi)
        have hev := E2.out.only hon (hmk k (by omega))
        (first | rw [show (n : Int) + 1 + 1 + 1 = ((n + 3 : Nat) : Int) by omega] | rw [show (n : Int) + 3 = ((n + 3 : Nat) : Int) by omega])
        refine (markIntS_any _ r.ser (f k) (f (k + 1)) (n + 3) _ (by omega) (by omega) hev).mono ?_
        rintro e w2 ⟨rfl, _, hon2⟩
        clear hev
        obtain ⟨m, hm⟩ : ∃ m, n + 3 + r.ser.length = m := ⟨_, rfl⟩
        rw [hm]
        have HMM := Lib.hid hm
        have hmb : m + 2 ≤ 1099511627776 := by omega
        clear hm
        replace HI : Hid (_ ∧ _) := ⟨HI.out.1.only2 hon2 (fun g' hg' => by simp [Value.ownBlock] at hg'; have := hmk k (by omega); omega), HI.out.2⟩
        have HON3 : Hid (Only g (g + 1) w2 w2) := Lib.hid (Only.refl _ _ _)
        have c0 := HI.out.1.cell k 0 HI.out.2.1 (by omega)
        have c1 := HI.out.1.cell k 1 HI.out.2.1 (by omega)
        have c2 := HI.out.1.cell k 2 HI.out.2.1 (by omega)
        have c3 := HI.out.1.cell k 3 HI.out.2.1 (by omega)
        have c4 := HI.out.1.cell k 4 HI.out.2.1 (by omega)
        have c5 := HI.out.1.cell k 5 HI.out.2.1 (by omega)
        rw [HI.out.2.2] at c0 c1 c2 c3 c4 c5
        simp at c0 c1 c2 c3 c4 c5
        have fr0 := HI.out.1.frozen (k * 6)
        have fr1 := HI.out.1.frozen (k * 6 + 1)
        have fr2 := HI.out.1.frozen (k * 6 + 2)
        have fr3 := HI.out.1.frozen (k * 6 + 3)
        have fr4 := HI.out.1.frozen (k * 6 + 4)
        have fr5 := HI.out.1.frozen (k * 6 + 5)
        go_wp2_with fail
        obtain ⟨p1, p2⟩ := Own.puts [.int .i64 ((m : Int)), .int .i64 ((m : Int) + 1)] _ _ k 4 HI.out.2.1 (by simp) HI.out.1
        rw [HI.out.2.2] at p1
        simp only [setFrom, List.set_cons_zero, List.set_cons_succ, List.set_set] at p1 p2
        replace HI : Hid (Own lo 76 6 _ (.slice (some ⟨g, 0, none⟩) rs.length cap) (cs.set k [.int .i64 ((n : Int)), .int .i64 ((n : Int) + 1), .int .i64 ((n : Int) + 1 + 1), .slice sa sn sc, .int .i64 ((m : Int)), .int .i64 ((m : Int) + 1)]) ∧ ∃ h : k < (cs.set k [.int .i64 ((n : Int)), .int .i64 ((n : Int) + 1), .int .i64 ((n : Int) + 1 + 1), .slice sa sn sc, .int .i64 ((m : Int)), .int .i64 ((m : Int) + 1)]).length, (cs.set k [.int .i64 ((n : Int)), .int .i64 ((n : Int) + 1), .int .i64 ((n : Int) + 1 + 1), .slice sa sn sc, .int .i64 ((m : Int)), .int .i64 ((m : Int) + 1)])[k] = [.int .i64 ((n : Int)), .int .i64 ((n : Int) + 1), .int .i64 ((n : Int) + 1 + 1), .slice sa sn sc, .int .i64 ((m : Int)), .int .i64 ((m : Int) + 1)]) := ⟨p1, by simpa using HKC.out, by rw [List.getElem_set_self]⟩
        replace HON3 := Lib.hid (HON3.out.trans (Only.of_grown (lo := g) (hi := g + 1) (v := .slice (some ⟨g, 0, none⟩) rs.length cap) p2 (fun g' hg' => by simp [Value.ownBlock] at hg'; omega) (fun g' hg' => by simp [Value.ownBlock] at hg'; omega)))
        clear p1 p2
        have hon3 := HON3.out
        go_wp2_with fail
        go_roundw
        case rel =>
          have hfl : lo ≤ f k := Nat.le_trans HF.out.1 (mono_up HM.out 0 k (Nat.zero_le _) (by omega))
          have hfh : f (k + 1) ≤ hi := Nat.le_trans (mono_up HM.out (k + 1) rs.length (by omega) (Nat.le_refl _)) HF.out.2
          have hgh : g + 1 ≤ hi := Nat.le_trans (hmk rs.length (Nat.le_refl _)) HF.out.2
          refine ⟨k + 1, n + 5 + r.ser.length, _, by omega, by go_num, by rw [show n + 5 + r.ser.length = m + 2 by have := HMM.out; omega]; go_num, Lib.hid (by have h1 := HN.out; have h2 := HSZ.out; omega), hnn, HI.out.1,
            Lib.hid ⟨by simpa using I.out.1, fun i h1 h2 h3 => ?_⟩, ((hOn.trans (hon.wide hg hgh)).trans (hon2.wide hfl hfh)).trans (hon3.wide hg hgh)⟩
          obtain ⟨s, q1, q2⟩ := I.out.2 i (by rw [I.out.1]; exact h2) h2 (by omega)
          exact ⟨s, by simpa [List.getElem_set_ne (show k ≠ i by omega)] using q1, ((q2.only hon (hmk i (by omega))).only hon2 (mono_up HM.out (k + 1) i h3 (by omega))).only hon3 (hmk i (by omega))⟩
        case measure => simp [intOf]; omega
      · clear hO
        go_wp2_with fail
        go_ret
        exact ⟨n, rfl, by have h1 := HN.out; obtain rfl : k = rs.length := (by omega); rwa [List.take_length] at h1, hOn⟩
end Go.Proofs.Ytiglkpcgioomgaa

namespace Go.Proofs.Ytiglkpcgioomgaa
set_option linter.unusedVariables false
open Go.RowKit
theorem cell_only {lo hi b j : Nat} {w w' : World} {v : Value} (h : Only lo hi w w') (hc : w.cell? ⟨b, j, none⟩ = some v) (hb : b < lo ∨ hi ≤ b) : w'.cell? ⟨b, j, none⟩ = some v :=
  (World.cell?_of_block (h.block b (World.block_lt_of_cell? _ _ hc) hb)).trans hc
end Go.Proofs.Ytiglkpcgioomgaa

namespace Go.Proofs.Ytiglkpcgioomgaa
set_option linter.unusedVariables false
open Go.ChangeShapes Go.WideShapes Go.ChangeAt Go.RowKit

set_option maxRecDepth 20000 in
set_option maxHeartbeats 8000000 in
theorem walkAreHolds (v0 : Value) (l : List Ho) (W : World) (h0 : RowR 6 rHo W v0 l) :
    Calls Try.prog 3 #[v0] W fun e w' => e = .returned (.bool true) ∧ Below W.heap.size W w' := by
  have HA0 := Lib.hid (show ∀ W', Below W.heap.size W W' → RowR 6 rHo W' v0 l from fun W' hb => h0.below rHo_stable hb)
  clear h0
  obtain ⟨b, hb⟩ : ∃ b, areHo l = b := ⟨_, rfl⟩
  have HB := Lib.hid hb
  clear hb
  have eb_b : (b != b) = false := by simp
  go_enter Try.func3, Try.ntmps3
  go_wp2_with fail
  have HBW : Hid (Below W.heap.size W W) := Lib.hid (Below.refl _ _)
  go_wp2_with fail
  refine (szHoS_any _ l 1048576 _ (HA0.out _ HBW.out) (by omega) (by omega)).mono ?_
  rintro e w1 ⟨n0, rfl, hf0, hp0, hq0, b1⟩
  have sz1 := b1.size
  replace HBW := Lib.hid (HBW.out.trans (b1.mono HBW.out.size))
  clear b1 
  have HF0 := Lib.hid hf0
  have HP0 := Lib.hid hp0
  clear hf0 hp0
  by_cases hs0 : n0 < 0
  · go_wp2_with fail
    go_ret
    exact ⟨rfl, HBW.out⟩
  · have hl0 : l.length + szHo l ≤ 1048576 := by have := HF0.out; omega
    have hn00 : 0 ≤ n0 := by omega
    have hxt0 := msHo_le l
    go_wp2_with fail
    refine (toHoS_any _ l _ (HA0.out _ HBW.out) (by omega)).mono ?_
    rintro e w2 ⟨s0, rfl, hos0, b2⟩
    have HOs0 := Lib.hid hos0
    clear hos0
    have sz2 := b2.size
    replace HBW := Lib.hid (HBW.out.trans (b2.mono HBW.out.size))
    clear b2 
    go_wp2_with fail
    refine (specAreHolds_any _ l _ HOs0.out.row).mono ?_
    rintro e w3 ⟨rfl, b3⟩
    have sz3 := b3.size
    replace HOs0 := Lib.hid (HOs0.out.below b3)
    replace HBW := Lib.hid (HBW.out.trans (b3.mono HBW.out.size))
    clear b3 
    clear HOs0
    go_wp2_with fail
    refine (toHoS_any _ l _ (HA0.out _ HBW.out) (by omega)).mono ?_
    rintro e w4 ⟨x0, rfl, hox0, b4⟩
    have HOx0 := Lib.hid hox0
    clear hox0
    have sz4 := b4.size
    replace HBW := Lib.hid (HBW.out.trans (b4.mono HBW.out.size))
    clear b4 
    go_wp2_with fail
    refine (implAreHo_any _ l _ HOx0.out.row).mono ?_
    rintro e w5 ⟨rfl, b5⟩
    have sz5 := b5.size
    replace HOx0 := Lib.hid (HOx0.out.below b5)
    replace HBW := Lib.hid (HBW.out.trans (b5.mono HBW.out.size))
    clear b5 
    go_wp2_with fail
    refine (toHoS_any _ l _ (HA0.out _ HBW.out) (by omega)).mono ?_
    rintro e w6 ⟨vq0, rfl, hq0_, b6⟩
    have HQ0 := Lib.hid hq0_
    clear hq0_
    have sz6 := b6.size
    replace HOx0 := Lib.hid (HOx0.out.below b6)
    replace HBW := Lib.hid (HBW.out.trans (b6.mono HBW.out.size))
    clear b6 
    go_wp2_with fail
    refine (eqHoS_any _ _ l l _ HOx0.out.row HQ0.out.row).mono ?_
    rw [decide_eq_true rfl]
    rintro e w7 ⟨rfl, b7⟩
    have sz7 := b7.size
    replace HOx0 := Lib.hid (HOx0.out.below b7)
    replace HQ0 := Lib.hid (HQ0.out.below b7)
    replace HBW := Lib.hid (HBW.out.trans (b7.mono HBW.out.size))
    clear b7 
    clear HQ0
    go_wp2_with fail
    go_ret
    exact ⟨rfl, HBW.out⟩

set_option maxRecDepth 100000 in
theorem fnExactAreHolds_lifted (os : Os) (started : os.Started) (H : Type) (enc : TypeId × Value → H) :
    ReturnsInHanded {} Try.checked os 3 .any (Rows.fnExactAreHoldsSpec.pre6 enc Try.prog Try.f3 Rows.fnExactAreHoldsRow.domain false) (Rows.fnExactAreHoldsSpec.post enc Try.prog Try.f3 false true false false) := by
  refine returnsInHanded_of_change (C := Try.checked) Try.own started (by kernel_rfl) Try.func3
    (ChangeSpec.witness6 (enc := enc) (C := Try.checked) false ⟨#[], #[.slice none 0 0], []⟩ 8 (by kernel_rfl) (by kernel_rfl) (by kernel_rfl) (by kernel_rfl)) ?_
  intro W base args ds gs before hval0 hW hcnd _
  have hval : ∀ (j : Nat) t v, Try.f3.params[j]? = some t → args[j]? = some v → Value.okWide Try.prog W .any base t v := hval0
  have hW' := hW
  obtain ⟨p, q, hA0, hV, rfl, hfz, hnd⟩ := hW
  have hA : DataW.TrodAll enc Try.prog W 0 (fun _ => true) true Try.f3.params.toList args.toList ds p := hA0
  rw [Try.params3] at hA hval
  obtain ⟨v0, vs0, d0, ds0, p0, q0, hargs, rfl, rfl, h0, r0⟩ := trodAll_cons hA
  obtain ⟨rfl, rfl, rfl⟩ := trodAll_nil r0
  obtain rfl : args = #[v0] := by cases args; simp_all
  obtain ⟨rfl, rfl⟩ := trodVars_none hV
  obtain ⟨x0, w0⟩ := arg_hos (hval 0 22 v0 rfl rfl) h0
  have lt0 : ∀ x ∈ p0, x.block < W.heap.size := by obtain ⟨m, hm⟩ := h0; exact DataW.trod_lt m _ _ _ hm
  clear hA0 hval0
  refine (walkAreHolds v0 x0 W w0).mono fun e W' ⟨he, bel⟩ => ?_
  subst he
  exact ⟨_, rfl, _, _, _, [], _, [], hW', trodAll_mk1 (shut_bool Try.underlying4 _), (trodAll_cons_mk (Below.trod Try.laidOut (by kernel_rfl) (of_decide_eq_true (by kernel_rfl)) h0 bel lt0) trodAll_mk0), rfl, bel.frame _, fun h => by cases h⟩

theorem fnExactAreHolds_proved : Rows.FnExactAreHoldsSaid :=
  OpenClaim.holds_of_wide 3 Try.f3 rfl rfl rfl rfl rfl rfl rfl ⟨rfl, rfl, rfl, rfl, rfl⟩ rfl rfl rfl rfl rfl (by kernel_rfl) Try.func3 (by kernel_rfl)
    (of_decide_eq_true (by kernel_rfl)) (by unfold Func.isWrapper; first | (rw [if_pos (by decide +kernel)]; kernel_rfl) | (rw [if_neg (by decide +kernel)]; exact ⟨rfl, rfl⟩))
    (fun os started H enc _ => fnExactAreHolds_lifted os started H enc)
end Go.Proofs.Ytiglkpcgioomgaa
