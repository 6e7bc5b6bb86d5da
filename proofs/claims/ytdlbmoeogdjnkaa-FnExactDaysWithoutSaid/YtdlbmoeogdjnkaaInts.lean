/- Slices of integers of the call's own: compared, marked, and the marks found again. -/
import Derived.Test.YtdlbmoeogdjnkaaOwn
import Derived.Test.YtdlbmoeogdjnkaaProg
import Derived.BigQuiet
import Derived.Deep.QuietTactic
import Derived.WalkSpells
import Derived.WalkLawsBesides
import Derived.Outline
import Derived.WalkSmall
namespace Go.Proofs.Ytdlbmoeogdjnkaa
set_option linter.unusedVariables false
open Go.RowKit

def vI : Int → Value := Value.int .i64
/-- Integers in memory of the call's own. -/
def IntsO (lo hi : Nat) (w : World) (v : Value) (xs : List Int) : Prop := w.ownsRow lo 3 1 v xs.length (xs.map vI) ∧ Under hi v
section
variable {lo hi lo' hi' : Nat} {w w' : World} {v : Value} {xs : List Int}
theorem IntsO.row (h : IntsO lo hi w v xs) : RowOf vI w v xs := RowOf.of_owns h.1
theorem IntsO.only (h : IntsO lo hi w v xs) (hb : Only lo' hi' w w') (hh : hi' ≤ lo) : IntsO lo hi w' v xs :=
  ⟨⟨h.1.1, h.1.2.imp id fun ⟨g, cap, cur, e, hg, hbk, r⟩ => ⟨g, cap, cur, e, hg, (hb.block g (Array.getElem?_eq_some_iff.1 hbk).1 (.inr (by omega))).trans hbk, r⟩⟩, h.2⟩
theorem IntsO.below (h : IntsO lo hi w v xs) (hb : Below w.heap.size w w') : IntsO lo hi w' v xs := ⟨ownsRow_below h.1 hb, h.2⟩
theorem IntsO.only2 (h : IntsO lo hi w v xs) (hb : Only lo' hi' w w') (hh : hi ≤ lo') : IntsO lo hi w' v xs := ⟨ownsRow_only2 h.1 hb (h.2.up hh), h.2⟩
theorem IntsO.wide (h : IntsO lo hi w v xs) (hl : lo' ≤ lo) (hh : hi ≤ hi') : IntsO lo' hi' w v xs := ⟨ownsRow_base_a' h.1 hl, h.2.up hh⟩
theorem RowOf.only (h : RowOf vI w v xs) (hb : Only lo' hi' w w') (hu : hi' ≤ lo ∧ ∀ g, v.ownBlock = some g → g < lo' ∨ hi' ≤ g) (hv : ∀ a n c, v = .slice (some a) n c → v.ownBlock = some a.block) : RowOf vI w' v xs := by
  obtain ⟨a, cap, rfl, h1, h2, h3⟩ := h
  refine ⟨a, cap, rfl, h1, h2, h3.imp id ?_⟩
  rintro ⟨b, off, hlt, rfl, hc⟩
  have hk := hb.block b hlt (hu.2 b (hv _ _ _ rfl))
  refine ⟨b, off, Nat.lt_of_lt_of_le hlt hb.size, rfl, fun i hi => ?_⟩
  rw [← hc i hi]
  simp [World.cell?, hk]
end

set_option maxHeartbeats 1000000 in
theorem eqIntS_any (v1 v2 : Value) (xs ys : List Int) (w : World) (h1 : RowOf vI w v1 xs) (h2 : RowOf vI w v2 ys) :
    Calls Try.prog 28 #[v1, v2] w fun e w' => e = .returned (.bool (decide (xs = ys))) ∧ Below w.heap.size w w' := by
  have hx := h1.cap
  have hy := h2.cap
  obtain ⟨a1, c1, rfl, hl1, hm1, r1⟩ := h1
  obtain ⟨a2, c2, rfl, hl2, hm2, r2⟩ := h2
  by_cases hlen : xs.length = ys.length
  · have hLen := Lib.hid hlen
    have hne : (((xs.length : Nat) : Int) != (xs.length : Int)) = false := by simp
    rw [← hlen]
    clear hlen
    have R1 := Lib.hid r1
    have R2 := Lib.hid r2
    clear r1 r2
    go_enter Try.func28, Try.ntmps28
    go_wp2
    go_loopw [5] (fun i wr => ∃ k : Nat, k ≤ xs.length ∧ i = .int .i64 k ∧ Hid (∀ j (h : j < k) (h1 : j < xs.length) (h2 : j < ys.length), xs[j] = ys[j]) ∧ Below w.heap.size w wr) (fun i _ => xs.length - (intOf i).toNat)
    case atStart => exact ⟨0, Nat.zero_le _, rfl, Lib.hid (fun j h => by omega), Below.refl _ _⟩
    case round =>
      obtain ⟨k, hk, rfl, HJ, hb⟩ := hrel
      by_cases hlt : k < xs.length
      · obtain ⟨b1, o1, hb1, rfl, e1⟩ := R1.out.resolve_left (fun e => by rw [e] at hlt; simp at hlt)
        obtain ⟨b2, o2, hb2, rfl, e2⟩ := R2.out.resolve_left (fun e => by have := hLen.out; rw [e] at this; simp at this; rw [this] at hlt; simp at hlt)
        obtain ⟨x, hx⟩ : ∃ s, xs[k] = s := ⟨_, rfl⟩
        obtain ⟨y, hy⟩ : ∃ s, ys[k]'(by have := hLen.out; omega) = s := ⟨_, rfl⟩
        have f1 := (hb.cell (p := ⟨b1, o1 + k, none⟩) hb1).trans (e1 k hlt)
        have f2 := (hb.cell (p := ⟨b2, o2 + k, none⟩) hb2).trans (e2 k (by have := hLen.out; omega))
        rw [hx] at f1
        rw [hy] at f2
        simp only [vI] at f1 f2
        have HX := Lib.hid hx
        have HY := Lib.hid hy
        have g0 : (0 : Int) ≤ (k : Int) := by omega
        have g1 : (k : Int) < (xs.length : Int) := by omega
        clear e1 e2 hx hy
        by_cases he : x = y
        · have hq : (x != y) = false := by simp [he]
          have HE := Lib.hid he
          clear he
          go_wp2
          go_quiet (fail)
          go_wp2
          go_roundw
          case rel =>
            refine ⟨k + 1, by omega, by go_num, Lib.hid (fun j h a b => ?_), below_drewN hb _⟩
            rcases Nat.lt_or_ge j k with h' | h'
            · exact HJ.out j h' a b
            · obtain rfl : j = k := by omega
              rw [HX.out, HY.out]
              exact HE.out
          case measure => simp [intOf]; omega
        · have hq : (x != y) = true := by simp [he]
          have HE := Lib.hid he
          clear he
          go_wp2
          go_quiet (fail)
          go_wp2
          go_ret
          exact ⟨ret_bool (Eq.symm (decide_eq_false (fun e => HE.out (by subst e; exact HX.out.symm.trans HY.out)))), below_drewN hb _⟩
      · go_wp2
        go_ret
        refine ⟨ret_bool (Eq.symm (decide_eq_true ?_)), hb⟩
        exact List.ext_getElem hLen.out fun i a b => HJ.out i (by omega) a b
  · have hne : (((xs.length : Nat) : Int) != (ys.length : Int)) = true := by simp; omega
    rw [decide_eq_false (fun e => hlen (by rw [e]))]
    go_enter Try.func28, Try.ntmps28
    go_wp2
    go_ret
    exact ⟨rfl, Below.refl _ _⟩

/-- The marks of n places from number k on. -/
def mInts (k n : Nat) : List Int := (List.range n).map (fun i => ((k + i : Nat) : Int))
theorem mInts_len (k n : Nat) : (mInts k n).length = n := by simp [mInts]
theorem mInts_at (k n i : Nat) (h : i < (mInts k n).length) : (mInts k n)[i] = ((k + i : Nat) : Int) := by simp [mInts]

set_option maxHeartbeats 1000000 in
theorem markIntS_any (v : Value) (xs : List Int) (lo hi k0 : Nat) (w : World) (hk0 : 1 ≤ k0) (hk1 : k0 + xs.length ≤ 1099511627776) (hown : IntsO lo hi w v xs) :
    Calls Try.prog 30 #[v, .int .i64 k0] w fun e w' => e = .returned (.int .i64 (k0 + xs.length : Nat)) ∧ IntsO lo hi w' v (mInts k0 xs.length) ∧ Only lo hi w w' := by
  obtain ⟨hown, hun⟩ := hown
  have HUN := Lib.hid hun
  have HGE := Lib.hid (fun g hg => (hown.lt g hg).1)
  clear hun
  by_cases h0 : xs.length = 0
  · obtain ⟨a, cap, rfl, _⟩ := RowOf.of_owns hown
    have hx := List.length_eq_zero_iff.1 h0
    subst hx
    clear h0
    have HO := Lib.hid hown
    clear hown
    go_enter Try.func30, Try.ntmps30
    go_wp2
    refine wp_loop_rounds 1 ?_
    rw [rounds_succ]
    go_wp2
    go_ret
    exact ⟨by simp, ⟨by simpa [mInts] using HO.out, HUN.out⟩, Only.refl _ _ _⟩
  · rcases hown.2 with ⟨rfl, hn⟩ | ⟨g, cap, cur, rfl, hg, hh, hn, hm, hs, ht⟩
    · exact absurd hn h0
    · clear hh hs ht cur
      unfold maxLen at hm
      have HOWN := Lib.hid hown
      clear hown
      go_enter Try.func30, Try.ntmps30
      go_wp2
      go_loopw [1, 5] (fun q i wr => ∃ k : Nat, k ≤ xs.length ∧ i = .int .i64 k ∧ q = .int .i64 ((k0 : Int) + k) ∧
          wr.ownsRow lo 3 1 (.slice (some ⟨g, 0, none⟩) xs.length cap) xs.length ((mkd (fun i => ((k0 + i : Nat) : Int)) xs k).map vI) ∧ w.grownBy wr (some g)) (fun _ i _ => xs.length - (intOf i).toNat)
      case atStart => exact ⟨0, Nat.zero_le _, rfl, by simp, by simpa [mkd_zero] using HOWN.out, World.grownBy.refl _ _⟩
      case round =>
        obtain ⟨k, hk, rfl, rfl, hO, hG⟩ := hrel
        have HO := Lib.hid hO
        by_cases hlt : k < xs.length
        · have g0 : (0 : Int) ≤ (k : Int) := by omega
          have g1 : (k : Int) < (xs.length : Int) := by omega
          have hz : ((mkd (fun i => ((k0 + i : Nat) : Int)) xs k).map vI)[k]? = some (.int .i64 xs[k]) := by rw [List.getElem?_map, mkd_at _ _ _ hlt]; rfl
          have hcl := hO.cellAt k (by omega)
          have hfr := hO.frozenAt k
          rw [hz] at hcl
          clear hO hz
          go_wp2_with fail
          go_roundw
          case rel =>
            have hst := HO.out.stored k (vI ((k0 + k : Nat) : Int))
            refine ⟨k + 1, by omega, by go_num, by go_num, ?_, grownBy_trans hG (by simpa [vI] using hst.2)⟩
            have h1 := hst.1
            rw [← List.map_set, mkd_set (fun i => ((k0 + i : Nat) : Int)) xs k hlt] at h1
            simpa [vI] using h1
          case measure => simp [intOf]; omega
        · clear hO
          go_wp2_with fail
          go_ret
          obtain rfl : k = xs.length := by omega
          have h1 := HO.out
          rw [mkd_all] at h1
          refine ⟨ret_int (by omega), ⟨by simpa [mInts] using h1, HUN.out⟩, Only.of_grown (v := .slice (some ⟨g, 0, none⟩) xs.length cap) hG HGE.out HUN.out⟩

set_option maxHeartbeats 1000000 in
theorem heldIntS_any (v : Value) (k0 n : Nat) (w : World) (hk0 : 1 ≤ k0) (hk1 : k0 + n ≤ 1099511627776) (h1 : RowOf vI w v (mInts k0 n)) :
    Calls Try.prog 31 #[v, .int .i64 k0] w fun e w' => e = .returned (.int .i64 (k0 + n : Nat)) ∧ Below w.heap.size w w' := by
  obtain ⟨a1, c1, rfl, hl1, hm1, r1⟩ := h1
  rw [mInts_len]
  rw [mInts_len] at hl1
  have R1 := Lib.hid r1
  clear r1
  go_enter Try.func31, Try.ntmps31
  go_wp2
  go_loopw [1, 5] (fun q i wr => ∃ k : Nat, k ≤ n ∧ i = .int .i64 k ∧ q = .int .i64 ((k0 : Int) + k) ∧ Below w.heap.size w wr) (fun _ i _ => n - (intOf i).toNat)
  case atStart => exact ⟨0, Nat.zero_le _, rfl, by simp, Below.refl _ _⟩
  case round =>
    obtain ⟨k, hk, rfl, rfl, hb⟩ := hrel
    by_cases hlt : k < n
    · obtain ⟨b1, o1, hb1, rfl, e1⟩ := R1.out.resolve_left (fun e => by have := mInts_len k0 n; rw [e] at this; simp at this; omega)
      have f1 := (hb.cell (p := ⟨b1, o1 + k, none⟩) hb1).trans (e1 k (by rw [mInts_len]; exact hlt))
      rw [mInts_at, show ((k0 + k : Nat) : Int) = (k0 : Int) + k by omega] at f1
      simp only [vI] at f1
      have g0 : (0 : Int) ≤ (k : Int) := by omega
      have g1 : (k : Int) < (n : Int) := by omega
      have n1 : (((k0 : Int) + k) != ((k0 : Int) + k)) = false := by simp
      clear e1
      go_wp2_with fail
      go_roundw
      case rel => exact ⟨k + 1, by omega, by go_num, by go_num, hb⟩
      case measure => simp [intOf]; omega
    · go_wp2_with fail
      go_ret
      exact ⟨ret_int (by omega), hb⟩
end Go.Proofs.Ytdlbmoeogdjnkaa
