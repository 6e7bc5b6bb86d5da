/- Lists of pairs of numbers: how they lie, the laws' comparisons and marks of them. -/
import Derived.Test.YtedckfbjhhabgaaTgC
import Derived.Test.YtedckfbjhhabgaaOwn
import Derived.Test.YtedckfbjhhabgaaPuts
import Derived.Test.YtedckfbjhhabgaaInts
import Derived.Test.YtedckfbjhhabgaaCells
import Derived.Deep.RegionHeld3
import Derived.WalkSmall
namespace Go.Proofs.Ytedckfbjhhabgaa
set_option linter.unusedVariables false
open Go.RowKit

def prC (p : Int × Int) : List Value := [.int .i64 p.1, .int .i64 p.2]
def rPr : Rd (Int × Int) := fun _ cs p => cs = prC p
theorem rPr_stable : rPr.Stable := fun _ _ _ _ _ h => h
def PrsO (lo hi : Nat) (w : World) (v : Value) (xs : List (Int × Int)) : Prop := Own lo 79 2 w v (xs.map prC) ∧ Under hi v
section
variable {lo hi lo' hi' : Nat} {w w' : World} {v : Value} {xs : List (Int × Int)}
theorem PrsO.row (h : PrsO lo hi w v xs) : RowR 2 rPr w v xs := h.1.row (by simp) fun i h1 h2 => by simp [rPr]
theorem PrsO.below (h : PrsO lo hi w v xs) (hb : Below w.heap.size w w') : PrsO lo hi w' v xs := ⟨h.1.below hb, h.2⟩
theorem PrsO.only (h : PrsO lo hi w v xs) (hb : Only lo' hi' w w') (hh : hi' ≤ lo) : PrsO lo hi w' v xs := ⟨h.1.only hb hh, h.2⟩
theorem PrsO.only2 (h : PrsO lo hi w v xs) (hb : Only lo' hi' w w') (hh : hi ≤ lo') : PrsO lo hi w' v xs := ⟨h.1.only2 hb (h.2.up hh), h.2⟩
theorem PrsO.wide (h : PrsO lo hi w v xs) (hl : lo' ≤ lo) (hh : hi ≤ hi') : PrsO lo' hi' w v xs := ⟨h.1.lower hl, h.2.up hh⟩
theorem PrsO.nil (lo hi : Nat) (w : World) : PrsO lo hi w (.slice none 0 0) [] := ⟨Own.nil _ _ _ _, Under.nil _ _ _⟩
end
theorem PrsO.of_row {lo n : Nat} {w : World} {v : Value} {t : List (Int × Int)} (h : w.ownsRow lo 79 2 v n ((t.map prC).flatten)) (hn : n = t.length) : PrsO lo w.heap.size w v t :=
  ⟨⟨by rw [List.length_map, ← hn]; exact h, fun cs hc => by obtain ⟨x, _, rfl⟩ := List.mem_map.1 hc; rfl⟩, fun g hg => (h.lt g hg).2⟩
theorem PrsO.empty {lo : Nat} (w : World) (h : lo ≤ w.heap.size) : PrsO lo (w.alloc (.cells #[] 79 (0, 0))).heap.size (w.alloc (.cells #[] 79 (0, 0))) (.slice (some ⟨w.heap.size, 0, none⟩) 0 0) [] :=
  PrsO.of_row (n := 0) (World.ownsRow_made w #[] 0 h (Nat.zero_le _) rfl) rfl
theorem below_drewP {n : Nat} {a b : World} (h : Below n a b) (k : Nat) : Below n a (b.drewN k) := ⟨h.os, h.tape, h.output, h.size, h.block⟩
set_option maxHeartbeats 2000000 in
theorem eqPr_any (x0 x1 y0 y1 : Int) (w : World) :
    Calls Try.prog 68 #[.agg #[.int .i64 x0, .int .i64 x1], .agg #[.int .i64 y0, .int .i64 y1]] w fun e w' => e = .returned (.bool (decide (x0 = y0 ∧ x1 = y1))) ∧ Below w.heap.size w w' := by
  have b0 := below_al (below_al (Below.refl w.heap.size w) (.cells #[.int .i64 x0, .int .i64 x1] 79 (0, 0))) (.cells #[.int .i64 y0, .int .i64 y1] 79 (0, 0))
  by_cases h0 : x0 = y0
  · have r0 : (x0 != y0) = false := by simp [h0]
    by_cases h1 : x1 = y1
    · have r1 : (x1 != y1) = false := by simp [h1]
      rw [decide_eq_true ⟨h0, h1⟩]
      clear h0 h1
      go_enter Try.func68, Try.ntmps68
      go_wp2_with fail
      refine wp_loop_rounds 3 ?_
      rw [rounds_succ]
      go_wp2_with fail
      go_quiet (fail)
      go_wp2_with fail
      rw [rounds_succ]
      go_wp2_with fail
      go_quiet (fail)
      go_wp2_with fail
      rw [rounds_succ]
      go_wp2_with fail
      go_ret
      exact ⟨rfl, by first | exact below_drewP b0 _ | exact below_drewP (below_drewP b0 _) _⟩
    · have r1 : (x1 != y1) = true := by simp [h1]
      rw [decide_eq_false (fun q => h1 q.2)]
      clear h0 h1
      go_enter Try.func68, Try.ntmps68
      go_wp2_with fail
      refine wp_loop_rounds 3 ?_
      rw [rounds_succ]
      go_wp2_with fail
      go_quiet (fail)
      go_wp2_with fail
      rw [rounds_succ]
      go_wp2_with fail
      go_quiet (fail)
      go_wp2_with fail
      go_ret
      exact ⟨rfl, by first | exact below_drewP b0 _ | exact below_drewP (below_drewP b0 _) _⟩
  · have r0 : (x0 != y0) = true := by simp [h0]
    rw [decide_eq_false (fun q => h0 q.1)]
    clear h0
    go_enter Try.func68, Try.ntmps68
    go_wp2_with fail
    refine wp_loop_rounds 3 ?_
    rw [rounds_succ]
    go_wp2_with fail
    go_quiet (fail)
    go_wp2_with fail
    go_ret
    exact ⟨rfl, by first | exact below_drewP b0 _ | exact below_drewP (below_drewP b0 _) _⟩
set_option maxHeartbeats 1000000 in
theorem eqPairS_any (v1 v2 : Value) (xs ys : List (Int × Int)) (w : World) (h1 : RowR 2 rPr w v1 xs) (h2 : RowR 2 rPr w v2 ys) :
    Calls Try.prog 32 #[v1, v2] w fun e w' => e = .returned (.bool (decide (xs = ys))) ∧ Below w.heap.size w w' := by
  have hx := h1.cap
  have hy := h2.cap
  obtain ⟨a1, c1, rfl, hl1, hm1, r1⟩ := h1
  obtain ⟨a2, c2, rfl, hl2, hm2, r2⟩ := h2
  by_cases hlen : xs.length = ys.length
  · have hLen := Lib.hid hlen
    have hne : (((xs.length : Nat) : Int) != (xs.length : Int)) = false := by simp
    rw [← hlen]
    clear hlen
    have R1 := Lib.hid r1
    have R2 := Lib.hid r2
    clear r1 r2
    go_enter Try.func32, Try.ntmps32
    go_wp2
    go_loopw [5] (fun i wr => ∃ k : Nat, k ≤ xs.length ∧ i = .int .i64 k ∧ (∀ j (h : j < k) (h1 : j < xs.length) (h2 : j < ys.length), xs[j] = ys[j]) ∧ Below w.heap.size w wr) (fun i _ => xs.length - (intOf i).toNat)
    case atStart => exact ⟨0, Nat.zero_le _, rfl, fun j h => by omega, Below.refl _ _⟩
    case round =>
      obtain ⟨k, hk, rfl, hj, hb⟩ := hrel
      have HJ := Lib.hid hj
      clear hj
      by_cases hlt : k < xs.length
      · obtain ⟨b1, o1, hb1, rfl, e1⟩ := R1.out.resolve_left (fun e => by rw [e] at hlt; simp at hlt)
        obtain ⟨b2, o2, hb2, rfl, e2⟩ := R2.out.resolve_left (fun e => by have := hLen.out; rw [e] at this; simp at this; rw [this] at hlt; simp at hlt)
        obtain ⟨⟨x0, x1⟩, hx⟩ : ∃ s, xs[k] = s := ⟨_, rfl⟩
        obtain ⟨⟨y0, y1⟩, hy⟩ : ∃ s, ys[k]'(by have := hLen.out; omega) = s := ⟨_, rfl⟩
        obtain ⟨cs1, hcl1, hcs1, hre1⟩ := e1 k hlt
        obtain ⟨cs2, hcl2, hcs2, hre2⟩ := e2 k (by have := hLen.out; omega)
        rw [hx] at hre1
        rw [hy] at hre2
        obtain rfl := hre1
        obtain rfl := hre2
        have fa0 := (hb.cell (p := ⟨b1, o1 + k * 2, none⟩) hb1).trans (hcs1 0 (by simp only [prC, List.length_cons, List.length_nil]; omega))
        have fa1 := (hb.cell (p := ⟨b1, o1 + k * 2 + 1, none⟩) hb1).trans (hcs1 1 (by simp only [prC, List.length_cons, List.length_nil]; omega))
        have fb0 := (hb.cell (p := ⟨b2, o2 + k * 2, none⟩) hb2).trans (hcs2 0 (by simp only [prC, List.length_cons, List.length_nil]; omega))
        have fb1 := (hb.cell (p := ⟨b2, o2 + k * 2 + 1, none⟩) hb2).trans (hcs2 1 (by simp only [prC, List.length_cons, List.length_nil]; omega))
        simp [prC] at fa0 fa1 fb0 fb1
        have HX := Lib.hid hx
        have HY := Lib.hid hy
        have hsz := hb.size
        have hb1' : b1 < wr.heap.size := by omega
        have hb2' : b2 < wr.heap.size := by omega
        have g0 : (0 : Int) ≤ (k : Int) := by omega
        have g1 : (k : Int) < (xs.length : Int) := by omega
        clear hcs1 hcs2 hcl1 hcl2 e1 e2 hx hy R1 R2
        obtain ⟨bb, hbb⟩ : ∃ bb, decide (x0 = y0 ∧ x1 = y1) = bb := ⟨_, rfl⟩
        have hcall : ∀ W : World, Calls Try.prog 68 #[.agg #[.int .i64 x0, .int .i64 x1], .agg #[.int .i64 y0, .int .i64 y1]] W fun e w' => e = .returned (.bool bb) ∧ Below W.heap.size W w' := fun W => by
          have := eqPr_any x0 x1 y0 y1 W
          rwa [hbb] at this
        have HB := Lib.hid hbb
        clear hbb
        go_wp2_with fail
        go_region_held3 (fun w' => w'.cell? ⟨b1, o1 + k * 2, none⟩ = some (.int .i64 x0) ∧ w'.cell? ⟨b1, o1 + k * 2 + 1, none⟩ = some (.int .i64 x1) ∧ w'.cell? ⟨b2, o2 + k * 2, none⟩ = some (.int .i64 y0) ∧ w'.cell? ⟨b2, o2 + k * 2 + 1, none⟩ = some (.int .i64 y1)) (first | go_keep | (refine ⟨?_, ?_, ?_, ?_⟩ <;> (rw [hb'.cell (by simp; omega)]; assumption)))
          (first | (go_at_call 68; refine (hcall _).mono ?_; rintro e w' ⟨rfl, hb'⟩))
        cases bb
        · go_wp2
          go_ret
          refine ⟨ret_bool (Eq.symm (decide_eq_false fun e => ?_)), hb.drew.trans (hb'.mono hsz)⟩
          have h1 := of_decide_eq_false HB.out
          subst e
          have h2 := HX.out.symm.trans HY.out
          exact h1 (by obtain ⟨p, q⟩ := Prod.mk.inj h2; exact ⟨p, q⟩)
        · go_wp2
          go_roundw
          case rel =>
            exact ⟨k + 1, by omega, by go_num, fun j h a b => (by
              rcases Nat.lt_or_ge j k with h' | h'
              · exact HJ.out j h' a b
              · obtain rfl : j = k := by omega
                exact (HX.out.trans (by obtain ⟨p, q⟩ := of_decide_eq_true HB.out; rw [p, q])).trans HY.out.symm), hb.drew.trans (hb'.mono hsz)⟩
          case measure => simp [intOf]; omega
      · go_wp2
        go_ret
        refine ⟨ret_bool (Eq.symm (decide_eq_true ?_)), hb⟩
        exact List.ext_getElem hLen.out fun i a b => HJ.out i (by omega) a b
  · have hne : (((xs.length : Nat) : Int) != (ys.length : Int)) = true := by simp; omega
    rw [decide_eq_false (fun e => hlen (by rw [e]))]
    go_enter Try.func32, Try.ntmps32
    go_wp2
    go_ret
    exact ⟨rfl, Below.refl _ _⟩
/-- The i-th one's marks from number k on. -/
def mPr (k i : Nat) : Int × Int := (((k + i * 2 : Nat) : Int), ((k + i * 2 + 1 : Nat) : Int))
def mPrs (k n : Nat) : List (Int × Int) := (List.range n).map (mPr k)
theorem mPrs_len (k n : Nat) : (mPrs k n).length = n := by simp [mPrs]
set_option maxHeartbeats 2000000 in
theorem markPairS_any (v : Value) (xs : List (Int × Int)) (lo hi k0 : Nat) (w : World) (hk0 : 1 ≤ k0) (hk1 : k0 + xs.length * 2 ≤ 1099511627776) (hown : PrsO lo hi w v xs) :
    Calls Try.prog 33 #[v, .int .i64 k0] w fun e w' => e = .returned (.int .i64 (k0 + xs.length * 2 : Nat)) ∧ PrsO lo hi w' v (mPrs k0 xs.length) ∧ Only lo hi w w' := by
  obtain ⟨ho, hun⟩ := hown
  have HGE := Lib.hid ho.ge
  have HUN := Lib.hid hun
  clear hun
  have hlen : (xs.map prC).length = xs.length := List.length_map _
  rcases ho.form with ⟨rfl, h0⟩ | ⟨g, cap, hv, hg, hgl, hn, hm⟩
  · have hx : xs = [] := List.map_eq_nil_iff.1 h0
    subst hx
    clear h0 hlen
    have HO := Lib.hid ho
    clear ho
    go_enter Try.func33, Try.ntmps33
    go_wp2
    refine wp_loop_rounds 1 ?_
    rw [rounds_succ]
    go_wp2
    go_ret
    exact ⟨by simp, ⟨HO.out, HUN.out⟩, Only.refl _ _ _⟩
  · rw [hlen] at hv hn
    subst hv
    unfold maxLen at hm
    have HO0 := Lib.hid ho
    clear ho
    go_enter Try.func33, Try.ntmps33
    go_wp2
    go_loopw [1, 5] (fun q i wr => ∃ k : Nat, k ≤ xs.length ∧ i = .int .i64 k ∧ q = .int .i64 ((k0 : Int) + k * 2) ∧
        Own lo 79 2 wr (.slice (some ⟨g, 0, none⟩) xs.length cap) ((mkd (mPr k0) xs k).map prC) ∧ w.grownBy wr (some g)) (fun _ i _ => xs.length - (intOf i).toNat)
    case atStart => exact ⟨0, Nat.zero_le _, rfl, by simp, by simpa [mkd_zero] using HO0.out, World.grownBy.refl _ _⟩
    case round =>
      obtain ⟨k, hk, rfl, rfl, hO, hG⟩ := hrel
      have HO := Lib.hid hO
      by_cases hlt : k < xs.length
      · have hml : ((mkd (mPr k0) xs k).map prC).length = xs.length := by rw [List.length_map, mkd_len _ _ _ (by omega)]
        have hat : ((mkd (mPr k0) xs k).map prC)[k]'(by omega) = prC xs[k] := by
          have h1 := mkd_at (mPr k0) xs k hlt
          rw [List.getElem?_eq_getElem (by rw [mkd_len _ _ _ (by omega)]; exact hlt)] at h1
          rw [List.getElem_map, Option.some.inj h1]
        obtain ⟨⟨x0, x1⟩, hs⟩ : ∃ s, xs[k] = s := ⟨_, rfl⟩
        rw [hs] at hat
        have HAT := Lib.hid hat
        have HML := Lib.hid hml
        have c0 := hO.cell k 0 (by omega) (by omega)
        have c1 := hO.cell k 1 (by omega) (by omega)
        rw [hat] at c0 c1
        simp [prC] at c0 c1
        have fr0 := hO.frozen (k * 2)
        have fr1 := hO.frozen (k * 2 + 1)
        have g0 : (0 : Int) ≤ (k : Int) := by omega
        have g1 : (k : Int) < (xs.length : Int) := by omega
        clear hO hat hs HAT hml
        go_wp2
        refine wp_loop_rounds 3 ?_
        rw [rounds_succ]
        go_wp2
        rw [rounds_succ]
        go_wp2
        rw [rounds_succ]
        go_wp2
        go_roundw
        case rel =>
          obtain ⟨p1, p2⟩ := HO.out.put k (by rw [HML.out]; exact hlt) (prC (mPr k0 k)) rfl
          rw [← List.map_set, mkd_set _ _ _ hlt] at p1
          refine ⟨k + 1, by omega, by go_num, by go_num, p1, grownBy_trans hG p2⟩
        case measure => simp [intOf]; omega
      · clear hO
        go_wp2
        go_ret
        obtain rfl : k = xs.length := by omega
        have h1 := HO.out
        rw [mkd_all] at h1
        exact ⟨ret_int (by omega), ⟨h1, HUN.out⟩, Only.of_grown (v := .slice (some ⟨g, 0, none⟩) xs.length cap) hG HGE.out HUN.out⟩

theorem mPrs_get (k0 n i : Nat) (h : i < n) : (mPrs k0 n)[i]'(by rw [mPrs_len]; exact h) = mPr k0 i := by simp [mPrs]

set_option maxHeartbeats 2000000 in
theorem heldPairS_any (v : Value) (k0 n : Nat) (w : World) (hk0 : 1 ≤ k0) (hk1 : k0 + n * 2 ≤ 1099511627776) (h1 : RowR 2 rPr w v (mPrs k0 n)) :
    Calls Try.prog 34 #[v, .int .i64 k0] w fun e w' => e = .returned (.int .i64 (k0 + n * 2 : Nat)) ∧ Below w.heap.size w w' := by
  obtain ⟨a1, c1, rfl, hl1, hm1, r1⟩ := h1
  rw [mPrs_len]
  rw [mPrs_len] at hl1
  have R1 := Lib.hid r1
  clear r1
  go_enter Try.func34, Try.ntmps34
  go_wp2
  go_loopw [1, 5] (fun q i wr => ∃ k : Nat, k ≤ n ∧ i = .int .i64 k ∧ q = .int .i64 ((k0 : Int) + k * 2) ∧ Below w.heap.size w wr) (fun _ i _ => n - (intOf i).toNat)
  case atStart => exact ⟨0, Nat.zero_le _, rfl, by simp, Below.refl _ _⟩
  case round =>
    obtain ⟨k, hk, rfl, rfl, hb⟩ := hrel
    by_cases hlt : k < n
    · obtain ⟨b1, o1, hb1, rfl, e1⟩ := R1.out.resolve_left (fun e => by have := mPrs_len k0 n; rw [e] at this; simp at this; omega)
      obtain ⟨cs, hcl, hcs, hre⟩ := e1 k (by rw [mPrs_len]; exact hlt)
      rw [mPrs_get k0 n k hlt] at hre
      obtain rfl := hre
      have f0 := (hb.cell (p := ⟨b1, o1 + k * 2, none⟩) hb1).trans (hcs 0 (by simp only [prC, List.length_cons, List.length_nil]; omega))
      have f1 := (hb.cell (p := ⟨b1, o1 + k * 2 + 1, none⟩) hb1).trans (hcs 1 (by simp only [prC, List.length_cons, List.length_nil]; omega))
      have q0 : ((k0 + k * 2 : Nat) : Int) = (k0 : Int) + k * 2 := by omega
      have q1 : ((k0 + k * 2 + 1 : Nat) : Int) = (k0 : Int) + k * 2 + 1 := by omega
      simp only [prC, mPr, List.getElem_cons_zero, List.getElem_cons_succ, q0, q1] at f0 f1
      have g0 : (0 : Int) ≤ (k : Int) := by omega
      have g1 : (k : Int) < (n : Int) := by omega
      have hsz := hb.size
      have n0 : (((k0 : Int) + k * 2) != ((k0 : Int) + k * 2)) = false := by simp
      have n1 : (((k0 : Int) + k * 2 + 1) != ((k0 : Int) + k * 2 + 1)) = false := by simp
      clear hcs hcl e1 q0 q1
      go_wp2
      refine wp_loop_rounds 3 ?_
      rw [rounds_succ]
      go_wp2
      rw [rounds_succ]
      go_wp2
      rw [rounds_succ]
      go_wp2
      go_roundw
      case rel => exact ⟨k + 1, by omega, by go_num, by go_num, hb⟩
      case measure => simp [intOf]; omega
    · go_wp2
      go_ret
      exact ⟨ret_int (by omega), hb⟩
end Go.Proofs.Ytedckfbjhhabgaa
