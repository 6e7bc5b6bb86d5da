/- The laws' own sizes and comparisons of Rule. -/
import Derived.Test.YtedckfbjhhabgaaToRu
import Derived.Test.YtedckfbjhhabgaaBytesNe
import Derived.Deep.RegionHeld3
import Derived.WalkSmall
namespace Go.Proofs.Ytedckfbjhhabgaa
set_option linter.unusedVariables false
open Go.RowKit

def szRu (xs : List Ru) : Nat := 0
/-- The size: what is left over, or -1. -/
theorem szRuS_any (v : Value) (xs : List Ru) (left : Int) (w : World) (h : RowR 4 rRu w v xs) (h0 : 0 ≤ left) (h2 : left ≤ 1099511627776) :
    Calls Try.prog 18 #[v, .int .i64 left] w fun e w' => ∃ n : Int, e = .returned (.int .i64 n) ∧ (n < 0 ∨ (xs.length : Int) + szRu xs ≤ left) ∧ (0 ≤ n ∨ n = -1) ∧ n ≤ left ∧ Below w.heap.size w w' := by
  have hcap := h.cap
  obtain ⟨a1, c1, rfl, hl1, hm1, r1⟩ := h
  by_cases hb : left < xs.length
  · go_enter Try.func18, Try.ntmps18
    go_wp2
    go_ret
    exact ⟨-1, rfl, Or.inl (by omega), Or.inr rfl, by omega, Below.refl _ _⟩
  · go_enter Try.func18, Try.ntmps18
    go_wp2
    go_ret
    exact ⟨left - xs.length, rfl, Or.inr (by simp [szRu]; omega), Or.inl (by omega), by omega, Below.refl _ _⟩

theorem eqRu_any (a b : Ru) (w : World) :
    Calls Try.prog 61 #[.agg #[.int .i64 a.series, .int .i64 a.event, .int .i64 a.days, .int .i64 a.act], .agg #[.int .i64 b.series, .int .i64 b.event, .int .i64 b.days, .int .i64 b.act]] w fun e w' => e = .returned (.bool (decide (a = b))) ∧ Below w.heap.size w w' := by
  obtain ⟨a0, a1, a2, a3⟩ := a
  obtain ⟨b0, b1, b2, b3⟩ := b
  by_cases h0 : a0 = b0
  · subst h0
    by_cases h1 : a1 = b1
    · subst h1
      by_cases h2 : a2 = b2
      · subst h2
        by_cases h3 : a3 = b3
        · subst h3
          go_enter Try.func61, Try.ntmps61
          go_wp2_with fail
          go_ret
          exact ⟨ret_bool (by simp), below_al (below_al (Below.refl _ _) _) _⟩
        · have e1 : (a3 != b3) = true := by simp [h3]
          have e10 : (a0 != a0) = false := by simp
          have e11 : (a1 != a1) = false := by simp
          have e12 : (a2 != a2) = false := by simp
          go_enter Try.func61, Try.ntmps61
          go_wp2_with fail
          go_ret
          exact ⟨ret_bool (by simp [h3]), below_al (below_al (Below.refl _ _) _) _⟩
      · have e1 : (a2 != b2) = true := by simp [h2]
        have e10 : (a0 != a0) = false := by simp
        have e11 : (a1 != a1) = false := by simp
        go_enter Try.func61, Try.ntmps61
        go_wp2_with fail
        go_ret
        exact ⟨ret_bool (by simp [h2]), below_al (below_al (Below.refl _ _) _) _⟩
    · have e1 : (a1 != b1) = true := by simp [h1]
      have e10 : (a0 != a0) = false := by simp
      go_enter Try.func61, Try.ntmps61
      go_wp2_with fail
      go_ret
      exact ⟨ret_bool (by simp [h1]), below_al (below_al (Below.refl _ _) _) _⟩
  · have e1 : (a0 != b0) = true := by simp [h0]
    go_enter Try.func61, Try.ntmps61
    go_wp2_with fail
    go_ret
    exact ⟨ret_bool (by simp [h0]), below_al (below_al (Below.refl _ _) _) _⟩

set_option maxHeartbeats 1000000 in
theorem eqRuS_any (v1 v2 : Value) (xs ys : List Ru) (w : World) (h1 : RowR 4 rRu w v1 xs) (h2 : RowR 4 rRu w v2 ys) :
    Calls Try.prog 24 #[v1, v2] w fun e w' => e = .returned (.bool (decide (xs = ys))) ∧ Below w.heap.size w w' := by
  have hx := h1.cap
  have hy := h2.cap
  obtain ⟨a1, c1, rfl, hl1, hm1, r1⟩ := h1
  obtain ⟨a2, c2, rfl, hl2, hm2, r2⟩ := h2
  by_cases hlen : xs.length = ys.length
  · have hLen := Lib.hid hlen
    have hne : (((xs.length : Nat) : Int) != (xs.length : Int)) = false := by simp
    rw [← hlen]
    clear hlen
    have R1 := Lib.hid r1
    have R2 := Lib.hid r2
    clear r1 r2
    go_enter Try.func24, Try.ntmps24
    go_wp2
    go_loopw [5] (fun i wr => ∃ k : Nat, k ≤ xs.length ∧ i = .int .i64 k ∧ (∀ j (h : j < k) (h1 : j < xs.length) (h2 : j < ys.length), xs[j] = ys[j]) ∧ Below w.heap.size w wr) (fun i _ => xs.length - (intOf i).toNat)
    case atStart => exact ⟨0, Nat.zero_le _, rfl, fun j h => by omega, Below.refl _ _⟩
    case round =>
      obtain ⟨k, hk, rfl, hj, hb⟩ := hrel
      have HJ := Lib.hid hj
      clear hj
      by_cases hlt : k < xs.length
      · obtain ⟨b1, o1, hb1, rfl, e1⟩ := R1.out.resolve_left (fun e => by rw [e] at hlt; simp at hlt)
        obtain ⟨b2, o2, hb2, rfl, e2⟩ := R2.out.resolve_left (fun e => by have := hLen.out; rw [e] at this; simp at this; rw [this] at hlt; simp at hlt)
        obtain ⟨⟨x0, x1, x2, x3⟩, hx⟩ : ∃ s, xs[k] = s := ⟨_, rfl⟩
        obtain ⟨⟨y0, y1, y2, y3⟩, hy⟩ : ∃ s, ys[k]'(by have := hLen.out; omega) = s := ⟨_, rfl⟩
        obtain ⟨cs1, hcl1, hcs1, hre1⟩ := e1 k hlt
        obtain ⟨cs2, hcl2, hcs2, hre2⟩ := e2 k (by have := hLen.out; omega)
        rw [hx] at hre1
        rw [hy] at hre2
        obtain ⟨rfl, hok1⟩ := hre1
        obtain ⟨rfl, hok2⟩ := hre2
        have fa0 := (hb.cell (p := ⟨b1, o1 + k * 4, none⟩) hb1).trans (hcs1 0 (by simp only [ruC, List.length_cons, List.length_nil]; omega))
        have fa1 := (hb.cell (p := ⟨b1, o1 + k * 4 + 1, none⟩) hb1).trans (hcs1 1 (by simp only [ruC, List.length_cons, List.length_nil]; omega))
        have fa2 := (hb.cell (p := ⟨b1, o1 + k * 4 + 2, none⟩) hb1).trans (hcs1 2 (by simp only [ruC, List.length_cons, List.length_nil]; omega))
        have fa3 := (hb.cell (p := ⟨b1, o1 + k * 4 + 3, none⟩) hb1).trans (hcs1 3 (by simp only [ruC, List.length_cons, List.length_nil]; omega))
        have fb0 := (hb.cell (p := ⟨b2, o2 + k * 4, none⟩) hb2).trans (hcs2 0 (by simp only [ruC, List.length_cons, List.length_nil]; omega))
        have fb1 := (hb.cell (p := ⟨b2, o2 + k * 4 + 1, none⟩) hb2).trans (hcs2 1 (by simp only [ruC, List.length_cons, List.length_nil]; omega))
        have fb2 := (hb.cell (p := ⟨b2, o2 + k * 4 + 2, none⟩) hb2).trans (hcs2 2 (by simp only [ruC, List.length_cons, List.length_nil]; omega))
        have fb3 := (hb.cell (p := ⟨b2, o2 + k * 4 + 3, none⟩) hb2).trans (hcs2 3 (by simp only [ruC, List.length_cons, List.length_nil]; omega))
        simp [ruC] at fa0 fa1 fa2 fa3 fb0 fb1 fb2 fb3
        have HX := Lib.hid hx
        have HY := Lib.hid hy
        have hsz := hb.size
        have hb1' : b1 < wr.heap.size := by omega
        have hb2' : b2 < wr.heap.size := by omega
        have g0 : (0 : Int) ≤ (k : Int) := by omega
        have g1 : (k : Int) < (xs.length : Int) := by omega
        clear hcs1 hcs2 hcl1 hcl2 e1 e2 hx hy R1 R2 hok1 hok2
        obtain ⟨bb, hbb⟩ : ∃ bb, decide ((⟨x0, x1, x2, x3⟩ : Ru) = ⟨y0, y1, y2, y3⟩) = bb := ⟨_, rfl⟩
        have hcall : ∀ W : World, Calls Try.prog 61 #[.agg #[.int .i64 x0, .int .i64 x1, .int .i64 x2, .int .i64 x3], .agg #[.int .i64 y0, .int .i64 y1, .int .i64 y2, .int .i64 y3]] W fun e w' => e = .returned (.bool bb) ∧ Below W.heap.size W w' := fun W => by
          have := eqRu_any ⟨x0, x1, x2, x3⟩ ⟨y0, y1, y2, y3⟩ W
          rwa [hbb] at this
        have HB := Lib.hid hbb
        clear hbb
        go_wp2_with fail
        go_region_held3 (fun w' => w'.cell? ⟨b1, o1 + k * 4, none⟩ = some (.int .i64 x0) ∧ w'.cell? ⟨b1, o1 + k * 4 + 1, none⟩ = some (.int .i64 x1) ∧ w'.cell? ⟨b1, o1 + k * 4 + 2, none⟩ = some (.int .i64 x2) ∧ w'.cell? ⟨b1, o1 + k * 4 + 3, none⟩ = some (.int .i64 x3) ∧ w'.cell? ⟨b2, o2 + k * 4, none⟩ = some (.int .i64 y0) ∧ w'.cell? ⟨b2, o2 + k * 4 + 1, none⟩ = some (.int .i64 y1) ∧ w'.cell? ⟨b2, o2 + k * 4 + 2, none⟩ = some (.int .i64 y2) ∧ w'.cell? ⟨b2, o2 + k * 4 + 3, none⟩ = some (.int .i64 y3)) (first | go_keep | (refine ⟨?_, ?_, ?_, ?_, ?_, ?_, ?_, ?_⟩ <;> (rw [hb'.cell (by simp; omega)]; assumption)))
          (first | (go_at_call 61; refine (hcall _).mono ?_; rintro e w' ⟨rfl, hb'⟩))
        cases bb
        · go_wp2
          go_ret
          refine ⟨ret_bool (Eq.symm (decide_eq_false fun e => ?_)), hb.drew.trans (hb'.mono hsz)⟩
          have h1 := of_decide_eq_false HB.out
          subst e
          exact h1 (HX.out.symm.trans HY.out)
        · go_wp2
          go_roundw
          case rel =>
            exact ⟨k + 1, by omega, by go_num, fun j h a b => (by
              rcases Nat.lt_or_ge j k with h' | h'
              · exact HJ.out j h' a b
              · obtain rfl : j = k := by omega
                exact (HX.out.trans (of_decide_eq_true HB.out)).trans HY.out.symm), hb.drew.trans (hb'.mono hsz)⟩
          case measure => simp [intOf]; omega
      · go_wp2
        go_ret
        refine ⟨ret_bool (Eq.symm (decide_eq_true ?_)), hb⟩
        exact List.ext_getElem hLen.out fun i a b => HJ.out i (by omega) a b
  · have hne : (((xs.length : Nat) : Int) != (ys.length : Int)) = true := by simp; omega
    rw [decide_eq_false (fun e => hlen (by rw [e]))]
    go_enter Try.func24, Try.ntmps24
    go_wp2
    go_ret
    exact ⟨rfl, Below.refl _ _⟩
end Go.Proofs.Ytedckfbjhhabgaa
