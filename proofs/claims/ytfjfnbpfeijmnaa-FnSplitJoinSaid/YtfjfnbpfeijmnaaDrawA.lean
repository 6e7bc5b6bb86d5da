/- What the first chapter's draws give: short texts. -/
import Derived.Test.YtfjfnbpfeijmnaaPick
namespace Go.Proofs.Ytfjfnbpfeijmnaa
set_option linter.unusedVariables false
open Go.RowKit

def any1List : List ByteArray := [⟨#[]⟩, ⟨#[97]⟩, ⟨#[97, 44, 98]⟩, ⟨#[115, 111, 109, 101, 32, 119, 111, 114, 100, 115]⟩, ⟨#[120, 35, 121]⟩, ⟨#[45, 49, 50]⟩, ⟨#[0, 255]⟩, ⟨#[44, 44]⟩, ⟨#[48]⟩]
theorem any1_short {s : ByteArray} (h : s ∈ any1List) : s.size ≤ 10 := by
  have : ∀ x ∈ any1List, x.size ≤ 10 := by decide
  exact this s h

/-- The cells of a row of texts that has just been laid. -/
theorem new_cells (w : World) (ss : List ByteArray) (T : Nat) (C : Array Value) (hC : C = (ss.map Value.string).toArray) : ∀ i (hi : i < ss.length), (w.alloc (.cells C T)).cell? ⟨w.heap.size, 0 + i, none⟩ = some (.string ss[i]) := fun i hi => by
  subst hC
  rw [Nat.zero_add]
  simp [World.cell?_alloc_mark, hi]

set_option maxHeartbeats 1000000 in
theorem any1_any (B K : Nat) (w : World) (h : Cur w B K) (hK : K ≤ 549755813888) :
    Calls Try.prog 25 #[.pointer (some ⟨B, 0, none⟩)] w (CurStr w B (K + 2) any1List) := by
  have HC := Lib.hid (h.later (Below.alloc (Below.refl (B + 1) w) h.lt (.cells (any1List.map Value.string).toArray 9)))
  have hlt := h.lt
  clear h
  go_enter Try.func25, Try.ntmps25
  go_wp2_with fail
  refine (of_any B K w.heap.size 0 9 9 any1List _ HC.out hK rfl (by omega) (by omega) (by omega) (new_cells w any1List 9 _ rfl)).mono ?_
  rintro e w1 ⟨s, rfl, hm, hc1, hg1⟩
  have HC1 := Lib.hid hc1
  have HG1 := Lib.hid hg1
  clear hc1 hg1
  go_wp2
  go_ret
  exact ⟨s, rfl, hm, HC1.out, grownBy_trans (World.grownBy_alloc w _ _) HG1.out⟩

/-- Two texts that are drawn: both short. -/
def TwoShort (n m : Nat) (w : World) (e : Ending) (w' : World) : Prop :=
  ∃ s t : ByteArray, e = .returned (.tuple #[.string s, .string t]) ∧ s.size ≤ n ∧ t.size ≤ m ∧ Below w.heap.size w w'
theorem below_of_cur {w w' : World} {B : Nat} (h : w.grownBy w' (some B)) (hB : B ≤ w.heap.size) : Below B w w' := below_of_grownBy h hB (fun k e => by cases e; exact Nat.le_refl _)

def sepList : List ByteArray := [⟨#[44]⟩, ⟨#[44]⟩, ⟨#[32]⟩, ⟨#[]⟩, ⟨#[44, 44]⟩]
theorem sep_short {s : ByteArray} (h : s ∈ sepList) : s.size ≤ 2 := by
  have : ∀ x ∈ sepList, x.size ≤ 2 := by decide
  exact this s h

set_option maxHeartbeats 1000000 in
theorem drawSplit_any (a : Option Addr) (len cap : Nat) (zs : List Int) (w : World) (h : IsRow .u8 w a len cap zs) (hl : len ≤ 1099511627776) :
    Calls Try.prog 9 #[.slice a len cap] w (TwoShort 10 2 w) := by
  have HC := Lib.hid (cur_new h hl 44)
  clear h
  go_enter Try.func9, Try.ntmps9
  go_wp2_with fail
  refine (any1_any w.heap.size 0 _ HC.out (by omega)).mono ?_
  rintro e w1 ⟨s, rfl, hm, hc1, hg1⟩
  have hsz := hc1.lt
  have HC1 := Lib.hid (hc1.later (Below.alloc (Below.refl (w.heap.size + 1) w1) hsz (.cells (sepList.map Value.string).toArray 9)))
  have HB1 := Lib.hid (((Below.refl w.heap.size w).alloc (Nat.le_refl _) _).trans (below_of_cur hg1 (by simp)))
  clear hc1 hg1
  go_wp2_with fail
  refine (of_any w.heap.size 2 w1.heap.size 0 5 5 sepList _ HC1.out (by omega) rfl (by omega) (by omega) (by omega) (new_cells w1 sepList 9 _ rfl)).mono ?_
  rintro e w2 ⟨t, rfl, hm2, hc2, hg2⟩
  have HB2 := Lib.hid ((HB1.out.alloc (by omega) _).trans (below_of_cur hg2 (by simp; omega)))
  clear hc2 hg2
  go_wp2
  go_ret2
  exact ⟨s, t, rfl, any1_short hm, sep_short hm2, HB2.out⟩

set_option maxHeartbeats 1000000 in
theorem drawLess_any (a : Option Addr) (len cap : Nat) (zs : List Int) (w : World) (h : IsRow .u8 w a len cap zs) (hl : len ≤ 1099511627776) :
    Calls Try.prog 14 #[.slice a len cap] w (TwoShort 10 10 w) := by
  have HC := Lib.hid (cur_new h hl 44)
  clear h
  go_enter Try.func14, Try.ntmps14
  go_wp2_with fail
  refine (any1_any w.heap.size 0 _ HC.out (by omega)).mono ?_
  rintro e w1 ⟨s, rfl, hm, hc1, hg1⟩
  have HC1 := Lib.hid hc1
  have hsz := hc1.lt
  have HB1 := Lib.hid (((Below.refl w.heap.size w).alloc (Nat.le_refl _) _).trans (below_of_cur hg1 (by simp)))
  clear hc1 hg1
  go_wp2_with fail
  refine (any1_any w.heap.size 2 _ HC1.out (by omega)).mono ?_
  rintro e w2 ⟨t, rfl, hm2, hc2, hg2⟩
  have HB2 := Lib.hid (HB1.out.trans (below_of_cur hg2 (by omega)))
  clear hc2 hg2
  go_wp2
  go_ret2
  exact ⟨s, t, rfl, any1_short hm, any1_short hm2, HB2.out⟩
end Go.Proofs.Ytfjfnbpfeijmnaa
