/- The draws of FnStrings: a number, two texts. -/
import Derived.Test.YtfjfnbpfeijmnaaDoorAny
import Derived.Test.YtfjfnbpfeijmnaaDoorNum
import Derived.Test.YtfjfnbpfeijmnaaDoorCopy
import Derived.Laws.IdiomStrings
namespace Go.Proofs.YtfjfnbpfeijmnaaDoor
set_option linter.unusedVariables false
open Go.RowKit

theorem addr_add0 (b off i : Nat) : (⟨b, off, none⟩ : Addr).add i = ⟨b, off + i, none⟩ := by unfold Addr.add; split <;> simp_all

set_option maxHeartbeats 1000000 in
theorem among_any (B K g off cap n : Nat) (xs : List Int) (w : World) (h : Cur w B K) (hK : K ≤ 549755813888) (hn : n = xs.length) (h0 : 0 < n) (hn1 : n ≤ 1099511627776) (hgB : g ≠ B)
    (hc : ∀ i (hi : i < xs.length), w.cell? ⟨g, off + i, none⟩ = some (.int .i64 xs[i])) :
    Calls Tryd.prog 21 #[.pointer (some ⟨B, 0, none⟩), .slice (some ⟨g, off, none⟩) n cap] w (CurNum w B (K + 2) xs) := by
  have H := Lib.hid h
  have HC := Lib.hid hc
  have HN := Lib.hid hn
  clear h hc hn
  go_enter Tryd.func21, Tryd.ntmps21
  go_wp2_with fail
  refine (pick_any B K n _ H.out hK (by omega) (by omega)).mono ?_
  rintro e w1 ⟨r, rfl, hr0, hr1, hc1, hg1⟩
  obtain ⟨k, rfl⟩ := Int.eq_ofNat_of_zero_le hr0
  have hk : k < xs.length := by have := HN.out; omega
  have f1 := hg1.cell (HC.out k hk) (by simpa using hgB)
  have HC1 := Lib.hid hc1
  have HG1 := Lib.hid hg1
  clear hc1 hg1
  go_wp2
  go_ret
  exact ⟨_, rfl, List.getElem_mem hk, HC1.out, HG1.out⟩

/-- A number that is drawn. -/
def NumDrawn (w : World) (e : Ending) (w' : World) : Prop := ∃ n : Int, e = .returned (.int .i64 n) ∧ -1000000 ≤ n ∧ n ≤ 1000000 ∧ Below w.heap.size w w'
/-- A text that is drawn. -/
def TextDrawn (m : Nat) (w : World) (e : Ending) (w' : World) : Prop := ∃ s : ByteArray, e = .returned (.string s) ∧ s.size ≤ m ∧ Below w.heap.size w w'

theorem new_nums (w : World) (xs : List Int) (T : Nat) (C : Array Value) (hC : C = (xs.map (Value.int .i64)).toArray) : ∀ i (hi : i < xs.length), (w.alloc (.cells C T)).cell? ⟨w.heap.size, 0 + i, none⟩ = some (.int .i64 xs[i]) := fun i hi => by
  subst hC
  rw [Nat.zero_add]
  simp [World.cell?_alloc_mark, hi]

set_option maxHeartbeats 1000000 in
theorem drawFormat_any (a : Option Addr) (len cap : Nat) (zs : List Int) (w : World) (h : IsRow .u8 w a len cap zs) (hl : len ≤ 1099511627776) :
    Calls Tryd.prog 9 #[.slice a len cap] w (NumDrawn w) := by
  have HC := Lib.hid (cur_new h hl 37)
  clear h
  go_enter Tryd.func9, Tryd.ntmps9
  go_wp2_with fail
  refine (pick_any w.heap.size 0 1000 _ HC.out (by omega) (by omega) (by omega)).mono ?_
  rintro e w1 ⟨r, rfl, hr0, hr1, hc1, hg1⟩
  have hsz := hc1.lt
  obtain ⟨xs, hxs⟩ : ∃ xs : List Int, xs = [0, 1, -1, 10, 999999, -999999, 1000000, -1000000, r - 500] := ⟨_, rfl⟩
  have hlen : xs.length = 9 := by rw [hxs]; rfl
  have hall : ∀ x ∈ xs, -1000000 ≤ x ∧ x ≤ 1000000 := by
    rw [hxs]; intro x hx
    simp only [List.mem_cons, List.mem_nil_iff, or_false] at hx
    omega
  have hC : #[.int .i64 0, .int .i64 1, .int .i64 (-1), .int .i64 10, .int .i64 999999, .int .i64 (-999999), .int .i64 1000000, .int .i64 (-1000000), .int .i64 (r - 500)] = (xs.map (Value.int .i64)).toArray := by rw [hxs]; rfl
  have HC1 := Lib.hid (hc1.later (Below.alloc (Below.refl (w.heap.size + 1) w1) hsz (.cells #[.int .i64 0, .int .i64 1, .int .i64 (-1), .int .i64 10, .int .i64 999999, .int .i64 (-999999), .int .i64 1000000, .int .i64 (-1000000), .int .i64 (r - 500)] 3)))
  have HB1 := Lib.hid (((Below.refl w.heap.size w).alloc (Nat.le_refl _) _).trans (below_of_cur hg1 (by simp)))
  have HCELL := Lib.hid (new_nums w1 xs 3 _ hC)
  have HLEN := Lib.hid hlen
  have HALL := Lib.hid hall
  clear hc1 hg1 hxs hlen hall hC
  go_wp2_with fail
  refine (among_any w.heap.size 2 w1.heap.size 0 9 9 xs _ HC1.out (by omega) HLEN.out.symm (by omega) (by omega) (by omega) HCELL.out).mono ?_
  rintro e w2 ⟨n, rfl, hm2, hc2, hg2⟩
  have HB2 := Lib.hid ((HB1.out.alloc (by omega) _).trans (below_of_cur hg2 (by simp; omega)))
  clear hc2 hg2
  go_wp2
  go_ret
  exact ⟨n, rfl, (HALL.out n hm2).1, (HALL.out n hm2).2, HB2.out⟩

def parseList : List ByteArray := [⟨#[]⟩, ⟨#[45]⟩, ⟨#[45, 48]⟩, ⟨#[48, 48]⟩, ⟨#[48, 49]⟩, ⟨#[45, 45, 49]⟩, ⟨#[49, 120]⟩, ⟨#[57, 57, 57, 57, 57, 57]⟩, ⟨#[49, 48, 48, 48, 48, 48, 48]⟩, ⟨#[45, 57, 57, 57, 57, 57, 57]⟩, ⟨#[49, 56, 52, 52, 54, 55, 52, 52, 48, 55, 51, 55, 48, 57, 53, 53, 49, 54, 49, 55]⟩]
theorem parse_short {s : ByteArray} (h : s ∈ parseList) : s.size ≤ 20 := by
  have : ∀ x ∈ parseList, x.size ≤ 20 := by decide
  exact this s h

set_option maxHeartbeats 1000000 in
theorem drawParse_any (a : Option Addr) (len cap : Nat) (zs : List Int) (w : World) (h : IsRow .u8 w a len cap zs) (hl : len ≤ 1099511627776) :
    Calls Tryd.prog 12 #[.slice a len cap] w (TextDrawn 30 w) := by
  have HC := Lib.hid (cur_new h hl 37)
  clear h
  go_enter Tryd.func12, Tryd.ntmps12
  go_wp2_with fail
  refine (one_any w.heap.size 0 2 _ HC.out (by omega) (by omega) (by omega)).mono ?_
  rintro e w1 ⟨b, rfl, hc1, hg1⟩
  have hsz := hc1.lt
  have HB1 := Lib.hid (((Below.refl w.heap.size w).alloc (Nat.le_refl _) _).trans (below_of_cur hg1 (by simp)))
  have HC0 := Lib.hid hc1
  cases b with
  | true =>
    have HC1 := Lib.hid (hc1.later (Below.alloc (Below.refl (w.heap.size + 1) w1) hsz (.cells (parseList.map Value.string).toArray 9)))
    clear hc1 hg1
    go_wp2_with fail
    refine (of_any w.heap.size 2 w1.heap.size 0 11 11 parseList _ HC1.out (by omega) rfl (by omega) (by omega) (by omega) (new_cells w1 parseList 9 _ rfl)).mono ?_
    rintro e w2 ⟨t, rfl, hm2, hc2, hg2⟩
    have HB2 := Lib.hid ((HB1.out.alloc (by omega) _).trans (below_of_cur hg2 (by simp; omega)))
    clear hc2 hg2
    go_wp2
    go_ret
    exact ⟨t, rfl, Nat.le_trans (parse_short hm2) (by omega), HB2.out⟩
  | false =>
    clear hc1 hg1
    go_wp2_with fail
    refine (pick_any w.heap.size 2 2000 _ HC0.out (by omega) (by omega) (by omega)).mono ?_
    rintro e w2 ⟨r, rfl, hr0, hr1, hc2, hg2⟩
    have HB2 := Lib.hid (HB1.out.trans (below_of_cur hg2 (by omega)))
    have hl := decDigits_len 4 (r - 1000).natAbs (by omega)
    have hit : (Lib.itoa (r - 1000)).length ≤ 20 := by
      unfold Lib.itoa; split
      · simp; omega
      · have e : (r - 1000).toNat = (r - 1000).natAbs := by omega
        rw [e]; omega
    have HIT := Lib.hid hit
    clear hc2 hg2 hit hl
    go_wp2_with fail
    refine (num_any (r - 1000) _ (by omega) (by omega)).mono ?_
    rintro e w3 ⟨rfl, k, rfl⟩
    go_wp2
    go_ret
    exact ⟨_, rfl, by show (Lib.itoa (r - 1000)).toArray.size ≤ 30; rw [List.size_toArray]; exact Nat.le_trans HIT.out (by omega), below_drewN HB2.out _⟩
end Go.Proofs.YtfjfnbpfeijmnaaDoor
