/- The laws' own szStringS and toStringS: how much a list of texts holds, and a copy of it. -/
import Derived.Test.YtfjfnbpfeijmnaaFrame
import Derived.Test.YtfjfnbpfeijmnaaRowOf
import Derived.Test.YtfjfnbpfeijmnaaJoinPlain
import Derived.WalkSmall
namespace Go.Proofs.Ytfjfnbpfeijmnaa
set_option linter.unusedVariables false
open Go.RowKit

theorem addr_add (b off i : Nat) : (⟨b, off, none⟩ : Addr).add i = ⟨b, off + i, none⟩ := by unfold Addr.add; split <;> simp_all
theorem IsStrs.rowOf {w : World} {a : Option Addr} {len cap : Nat} {zs : List ByteArray} (h : IsStrs w a len cap zs) :
    ∃ ss, ss.length = len ∧ RowOf Value.string w (.slice a len cap) ss ∧ ∀ s ∈ ss, s.size ≤ maxLen := by
  rcases h with ⟨rfl, rfl, rfl, rfl⟩ | ⟨x, rfl, hl, hm, hz, hcell, hw⟩
  · exact ⟨[], rfl, RowOf.nil _ _, fun s h => by cases h⟩
  · have hlen : (zs.take len).length = len := by rw [List.length_take]; omega
    refine ⟨zs.take len, hlen, ?_, fun s hs => hw s (List.mem_of_mem_take hs)⟩
    refine ⟨some x, cap, by rw [hlen], by rw [hlen]; exact hl, hm, ?_⟩
    by_cases h0 : len = 0
    · subst h0; exact .inl (by simp)
    · obtain ⟨b, off, spot⟩ := x
      have hc := hcell 0 (by omega)
      have hspot : spot = none := by simpa [Addr.add] using World.cell?_spot hc
      subst hspot
      refine .inr ⟨b, off, ?_, rfl, fun i hi => ?_⟩
      · have := World.block_lt_of_cell? w _ hc
        simpa [Addr.add] using this
      · have := hcell i (by rw [hlen] at hi; omega)
        rw [List.getElem_take]
        have hi' : i < zs.length := by rw [hlen] at hi; omega
        rw [addr_add] at this
        simpa [List.getD, List.getElem?_eq_getElem hi'] using this

theorem sz_take_succ (ss : List ByteArray) (k : Nat) (h : k < ss.length) : sz (ss.take (k + 1)) = sz (ss.take k) + ss[k].size := by rw [take_succ_snoc ss k h, sz_snoc]

set_option maxHeartbeats 1000000 in
/-- It fits: what is left over. -/
theorem szStringS_fits (v : Value) (ss : List ByteArray) (left : Int) (w : World) (h1 : RowOf Value.string w v ss) (h0 : 0 ≤ left) (h2 : left ≤ 1099511627776) (hfit : (ss.length : Int) + sz ss ≤ left) :
    Calls Try.prog 21 #[v, .int .i64 left] w fun e w' => e = .returned (.int .i64 (left - ss.length - sz ss)) ∧ Below w.heap.size w w' := by
  obtain ⟨a1, c1, rfl, hl1, hm1, r1⟩ := h1
  go_enter Try.func21, Try.ntmps21
  go_wp2
  go_loopw [1, 5] (fun l i wr => ∃ k q : Nat, k ≤ ss.length ∧ i = .int .i64 k ∧ l = .int .i64 (left - ss.length - q) ∧ Hid (q = sz (ss.take k)) ∧ q ≤ sz ss ∧ Below w.heap.size w wr) (fun _ i _ => ss.length - (intOf i).toNat)
  case atStart => exact ⟨0, 0, Nat.zero_le _, rfl, by simp, rfl, Nat.zero_le _, Below.refl _ _⟩
  case round =>
    obtain ⟨k, q, hk, rfl, rfl, HQ, hq, hb⟩ := hrel
    by_cases hlt : k < ss.length
    · obtain ⟨b1, o1, hb1, rfl, e1⟩ := r1.resolve_left (fun e => by rw [e] at hlt; simp at hlt)
      obtain ⟨s, hs⟩ : ∃ s, ss[k] = s := ⟨_, rfl⟩
      have f1 := (hb.cell (p := ⟨b1, o1 + k, none⟩) hb1).trans (e1 k hlt)
      rw [hs] at f1
      have HS := Lib.hid hs
      have hnx : q + s.size = sz (ss.take (k + 1)) := by rw [sz_take_succ ss k hlt, hs, HQ.out]
      have HNX := Lib.hid hnx
      have hle : q + s.size ≤ sz ss := by rw [hnx]; exact sz_take_le _ _
      have g0 : (0 : Int) ≤ (k : Int) := by omega
      have g1 : (k : Int) < (ss.length : Int) := by omega
      clear hs hnx e1 r1
      go_wp2
      go_roundw
      case rel => exact ⟨k + 1, q + s.size, by omega, by go_num, by go_num, HNX.out, hle, hb⟩
      case measure => simp [intOf]; omega
    · go_wp2
      go_ret
      obtain rfl : k = ss.length := by omega
      have := HQ.out
      rw [List.take_of_length_le (Nat.le_refl _)] at this
      exact ⟨ret_int (by rw [this]), hb⟩

set_option maxHeartbeats 1000000 in
/-- It does not fit: -1. -/
theorem szStringS_over (v : Value) (ss : List ByteArray) (left : Int) (w : World) (h1 : RowOf Value.string w v ss) (hz : ∀ s ∈ ss, s.size ≤ maxLen) (h0 : 0 ≤ left) (h2 : left ≤ 1099511627776) (hfit : left < (ss.length : Int) + sz ss) :
    Calls Try.prog 21 #[v, .int .i64 left] w fun e w' => e = .returned (.int .i64 (-1)) ∧ Below w.heap.size w w' := by
  have hcap := h1.cap
  obtain ⟨a1, c1, rfl, hl1, hm1, r1⟩ := h1
  by_cases hbig : left < (ss.length : Int)
  · go_enter Try.func21, Try.ntmps21
    go_wp2
    go_ret
    exact ⟨rfl, Below.refl _ _⟩
  · have Z := Lib.hid hz
    clear hz
    go_enter Try.func21, Try.ntmps21
    go_wp2
    go_loopw [1, 5] (fun l i wr => ∃ k q : Nat, k ≤ ss.length ∧ i = .int .i64 k ∧ l = .int .i64 (left - ss.length - q) ∧ Hid (q = sz (ss.take k)) ∧ (ss.length : Int) + q ≤ left ∧ Below w.heap.size w wr) (fun _ i _ => ss.length - (intOf i).toNat)
    case atStart => exact ⟨0, 0, Nat.zero_le _, rfl, by simp, rfl, by omega, Below.refl _ _⟩
    case round =>
      obtain ⟨k, q, hk, rfl, rfl, HQ, hq, hb⟩ := hrel
      by_cases hlt : k < ss.length
      · obtain ⟨b1, o1, hb1, rfl, e1⟩ := r1.resolve_left (fun e => by rw [e] at hlt; simp at hlt)
        obtain ⟨s, hs⟩ : ∃ s, ss[k] = s := ⟨_, rfl⟩
        have f1 := (hb.cell (p := ⟨b1, o1 + k, none⟩) hb1).trans (e1 k hlt)
        rw [hs] at f1
        have hml := Z.out s (hs ▸ List.getElem_mem hlt)
        have HS := Lib.hid hs
        have hnx : q + s.size = sz (ss.take (k + 1)) := by rw [sz_take_succ ss k hlt, hs, HQ.out]
        have HNX := Lib.hid hnx
        have g0 : (0 : Int) ≤ (k : Int) := by omega
        have g1 : (k : Int) < (ss.length : Int) := by omega
        unfold maxLen at hml
        clear hs hnx e1 r1
        by_cases hov : (ss.length : Int) + q + s.size ≤ left
        · go_wp2
          go_roundw
          case rel => exact ⟨k + 1, q + s.size, by omega, by go_num, by go_num, HNX.out, by omega, hb⟩
          case measure => simp [intOf]; omega
        · go_wp2
          go_ret
          exact ⟨rfl, hb⟩
      · have := HQ.out
        rw [List.take_of_length_le (by omega)] at this
        omega

/-- A copy in new memory. -/
def StrCopy (ss : List ByteArray) (w : World) (e : Ending) (w' : World) : Prop :=
  ∃ v, e = .returned v ∧ w'.ownsRow w.heap.size 9 1 v ss.length (ss.map Value.string) ∧ Below w.heap.size w w'
theorem Try.info_string : (Try.prog.info? 9).map (fun i => (i.zero, i.size, i.bytes)) = some (some (.string ⟨#[]⟩), 1, 16) := by kernel_rfl
def half (ss : List ByteArray) (k : Nat) : List ByteArray := ss.take k ++ List.replicate (ss.length - k) ⟨#[]⟩
theorem half_set (ss : List ByteArray) (k : Nat) (h : k < ss.length) : (half ss k).set k ss[k] = half ss (k + 1) := by
  unfold half
  have hl : (ss.take k).length = k := by rw [List.length_take]; omega
  obtain ⟨n, hn⟩ : ∃ n, ss.length - k = n + 1 := ⟨ss.length - k - 1, by omega⟩
  rw [hn, show ss.length - (k + 1) = n by omega, List.set_append_right _ _ (by omega), hl, Nat.sub_self, List.replicate_succ, List.set_cons_zero, take_succ_snoc ss k h, List.append_assoc]
  rfl
theorem half_cell (ss : List ByteArray) (k : Nat) (h : k < ss.length) : ((half ss k).map Value.string)[k]? = some (.string ⟨#[]⟩) := by
  unfold half
  have hl : (ss.take k).length = k := by rw [List.length_take]; omega
  rw [List.map_append, List.getElem?_append_right (by simp; omega)]
  rw [List.length_map, hl, Nat.sub_self, List.map_replicate, List.getElem?_replicate, if_pos (by omega)]

set_option maxHeartbeats 1000000 in
theorem toStringS_any (v : Value) (ss : List ByteArray) (w : World) (h1 : RowOf Value.string w v ss) (hn : ss.length ≤ 1099511627776) :
    Calls Try.prog 22 #[v] w (StrCopy ss w) := by
  obtain ⟨i0, hi, hz0, hz1, hz2⟩ := info_parts Try.info_string
  obtain ⟨a1, c1, rfl, hl1, hm1, r1⟩ := h1
  go_enter Try.func22, Try.ntmps22
  go_wp2_with (first | (at_make; refine wpList_make_full _ rfl _ _ 26 rfl w.heap.size 9 i0 _ 1 Try.underlying26 hi hz0 hz1 .i64 .i64 _ _ ss.length rfl rfl rfl rfl (by rw [hz2]; omega) (by unfold maxLen; omega) (Nat.le_refl _) ?_; intro w1 hown1 hgrow1; have HOWN := Lib.hid hown1; have HGROW := Lib.hid hgrow1; clear hown1 hgrow1))
  go_loopw [4] (fun i wr => ∃ k : Nat, k ≤ ss.length ∧ i = .int .i64 k ∧ wr.ownsRow w.heap.size 9 1 (.slice (some ⟨w.heap.size, 0, none⟩) ss.length ss.length) ss.length ((half ss k).map Value.string) ∧ Below w.heap.size w wr) (fun i _ => ss.length - (intOf i).toNat)
  case atStart =>
    refine ⟨0, Nat.zero_le _, rfl, ?_, below_of_grownBy HGROW.out (Nat.le_refl _) (fun k h => by cases h)⟩
    have := HOWN.out
    simp only [Value.cells, Nat.mul_one, toList_madeCells_one] at this
    simpa [half] using this
  case round =>
    obtain ⟨k, hk, rfl, hO, hb⟩ := hrel
    have HO := Lib.hid hO
    by_cases hlt : k < ss.length
    · obtain ⟨b1, o1, hb1, rfl, e1⟩ := r1.resolve_left (fun e => by rw [e] at hlt; simp at hlt)
      obtain ⟨s, hs⟩ : ∃ s, ss[k] = s := ⟨_, rfl⟩
      have f1 := (hb.cell (p := ⟨b1, o1 + k, none⟩) hb1).trans (e1 k hlt)
      rw [hs] at f1
      have HS := Lib.hid hs
      have hcl := (hO.cellAt k (by omega)).trans (half_cell ss k hlt)
      have hfr := hO.frozenAt k
      have g0 : (0 : Int) ≤ (k : Int) := by omega
      have g1 : (k : Int) < (ss.length : Int) := by omega
      clear hs e1 r1 hO HOWN HGROW
      go_wp2
      go_roundw
      case rel =>
        have hst := HO.out.stored k (.string s)
        refine ⟨k + 1, by omega, by go_num, ?_, hb.setCell (Nat.le_refl _) _⟩
        have h1 := hst.1
        rw [← List.map_set, ← HS.out, half_set ss k hlt] at h1
        rw [← HS.out]
        exact h1
      case measure => simp [intOf]; omega
    · clear hO
      go_wp2
      go_ret
      obtain rfl : k = ss.length := by omega
      refine ⟨_, rfl, ?_, hb⟩
      have := HO.out
      simpa [half] using this
end Go.Proofs.Ytfjfnbpfeijmnaa
