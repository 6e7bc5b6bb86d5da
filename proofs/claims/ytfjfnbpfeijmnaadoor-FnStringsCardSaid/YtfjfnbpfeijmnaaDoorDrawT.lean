/- The draw for AppendChecksum; the laws' own vAt and vBig. -/
import Derived.Test.YtfjfnbpfeijmnaaDoorDrawS
import Derived.Test.YtfjfnbpfeijmnaaDoorZeros
namespace Go.Proofs.YtfjfnbpfeijmnaaDoor
set_option linter.unusedVariables false
open Go.RowKit

set_option maxHeartbeats 1000000 in
theorem drawAppend_any (a : Option Addr) (len cap : Nat) (zs : List Int) (w : World) (h : IsRow .u8 w a len cap zs) (hl : len ≤ 1099511627776) :
    Calls Tryd.prog 15 #[.slice a len cap] w (TextDrawn 5000 w) := by
  obtain ⟨j0, hi', hy0, hy1, hy2⟩ := info_parts Tryd.info_uint8
  have HC := Lib.hid (cur_new h hl 37)
  clear h
  go_enter Tryd.func15, Tryd.ntmps15
  go_wp2_with fail
  refine (one_any w.heap.size 0 20 _ HC.out (by omega) (by omega) (by omega)).mono ?_
  rintro e w1 ⟨b, rfl, hc1, hg1⟩
  have hsz := hc1.lt
  have HB1 := Lib.hid (((Below.refl w.heap.size w).alloc (Nat.le_refl _) _).trans (below_of_cur hg1 (by simp)))
  have HC0 := Lib.hid hc1
  clear hc1 hg1
  cases b with
  | true =>
    go_wp2_with fail
    refine (pick_any w.heap.size 2 10 _ HC0.out (by omega) (by omega) (by omega)).mono ?_
    rintro e w2 ⟨r, rfl, hr0, hr1, hc2, hg2⟩
    obtain ⟨q, rfl⟩ := Int.eq_ofNat_of_zero_le hr0
    have HB2 := Lib.hid (HB1.out.trans (below_of_cur hg2 (by omega)))
    have z2 := hc2.lt
    clear hc2 hg2
    go_wp2_with (first | (at_make; refine wpList_make_full _ rfl _ _ 22 rfl (w.heap.size + 1) 5 j0 _ 1 Tryd.underlying22 hi' hy0 hy1 .i64 .i64 _ _ (3990 + q) rfl rfl (by omega) (by omega) (by rw [hy2]; omega) (by unfold maxLen; omega) (by omega) ?_; intro w4 ho4 hg4; have kc := conv_zeros w4 _ _ _ ho4; have HB4 := Lib.hid (HB2.out.trans ((below_of_grownBy (B := w2.heap.size) hg4 (Nat.le_refl _) (fun k h => by cases h)).mono (by omega))); clear ho4 hg4))
    go_ret
    refine ⟨_, rfl, ?_, HB4.out⟩
    simp [ByteArray.size]; omega
  | false =>
    go_wp2_with fail
    refine (any1_any w.heap.size 2 _ HC0.out (by omega)).mono ?_
    rintro e w2 ⟨t, rfl, hm2, hc2, hg2⟩
    have HB2 := Lib.hid (HB1.out.trans (below_of_cur hg2 (by omega)))
    clear hc2 hg2
    go_wp2
    go_ret
    exact ⟨t, rfl, Nat.le_trans (any1_short hm2) (by omega), HB2.out⟩

/-- A number out of the bytes. -/
def AtByte (w : World) (e : Ending) (w' : World) : Prop := ∃ r : Int, e = .returned (.int .i64 r) ∧ 0 ≤ r ∧ r ≤ 255 ∧ w = w'

set_option maxHeartbeats 1000000 in
theorem vAt_any (a : Option Addr) (len cap : Nat) (zs : List Int) (i : Int) (w : World) (h : IsRow .u8 w a len cap zs) (hl : len ≤ 1099511627776) (h0 : 0 ≤ i) (h1 : i ≤ 1000) :
    Calls Tryd.prog 19 #[.slice a len cap, .int .i64 i] w (AtByte w) := by
  obtain ⟨k, rfl⟩ := Int.eq_ofNat_of_zero_le h0
  by_cases hk : k < len
  · rcases h with ⟨rfl, rfl, rfl, rfl⟩ | ⟨x, rfl, hlc, hm, hz, hcell, hw⟩
    · omega
    · obtain ⟨b, off, spot⟩ := x
      have hc := hcell 0 (by omega)
      have hspot : spot = none := by simpa [Addr.add] using World.cell?_spot hc
      subst hspot
      have hci := hcell k (by omega)
      rw [addr_add0] at hci
      have hi' : k < zs.length := by omega
      have hwf := hw (zs.getD k 0) (by rw [show zs.getD k 0 = zs[k] by simp [List.getD, List.getElem?_eq_getElem hi']]; exact List.getElem_mem hi')
      obtain ⟨z, hzz⟩ : ∃ z, zs.getD k 0 = z := ⟨_, rfl⟩
      rw [hzz] at hci hwf
      simp [Lit.wf, IntKind.min, IntKind.max, IntKind.signed, IntKind.bits] at hwf
      obtain ⟨z0, z1⟩ := hwf
      clear hc hcell hw hzz hi' hz hm
      have g1 : (k : Int) < (len : Int) := by omega
      go_enter Tryd.func19, Tryd.ntmps19
      go_wp2
      go_ret
      exact ⟨z, rfl, by omega, by omega, rfl⟩
  · clear h
    go_enter Tryd.func19, Tryd.ntmps19
    go_wp2
    go_ret
    exact ⟨_, rfl, by omega, by omega, rfl⟩

theorem vBig_any (a : Option Addr) (len cap : Nat) (w : World) (b : Bool) (hb : decide ((65536 : Int) < (len : Int)) = b) (hl : len ≤ 9223372036854775807) :
    Calls Tryd.prog 8 #[.slice a len cap] w fun e w' => e = .returned (.bool b) ∧ w = w' := by
  have HB := Lib.hid hb
  clear hb
  go_enter Tryd.func8, Tryd.ntmps8
  go_wp2
  go_ret
  exact ⟨ret_bool HB.out, rfl⟩

/-- What came in is still there in every later world. -/
theorem IsRow.later {k : IntKind} {w w' : World} {a : Option Addr} {len cap : Nat} {zs : List Int} (h : IsRow k w a len cap zs) (hb : Below w.heap.size w w') : IsRow k w' a len cap zs := by
  refine h.imp id ?_
  rintro ⟨x, rfl, hl, hm, hz, hc, hw⟩
  refine ⟨x, rfl, hl, hm, hz, fun i hi => ?_, hw⟩
  have := hc i hi
  exact (hb.cell (World.block_lt_of_cell? w _ this)).trans this
theorem IsRow.len_le {k : IntKind} {w : World} {a : Option Addr} {len cap : Nat} {zs : List Int} (h : IsRow k w a len cap zs) : len ≤ 9223372036854775807 := by
  rcases h with ⟨rfl, rfl, rfl, rfl⟩ | ⟨x, rfl, hl, hm, _⟩
  · omega
  · unfold maxLen at hm; omega
end Go.Proofs.YtfjfnbpfeijmnaaDoor
