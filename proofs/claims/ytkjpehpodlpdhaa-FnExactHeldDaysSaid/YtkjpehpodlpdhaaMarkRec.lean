/- The laws' own marks of events and records: what is written, and that it is found again. -/
import Derived.Test.YtkjpehpodlpdhaaToRec
import Derived.WalkSmall
namespace Go.Proofs.Ytkjpehpodlpdhaa
set_option linter.unusedVariables false
open Go.RowKit

/-- The i-th event's marks from number k on. -/
def mEv (k i : Nat) : Ev := ⟨(k + i * 2 : Nat), (k + i * 2 + 1 : Nat)⟩
def mEvs (k n : Nat) : List Ev := (List.range n).map (mEv k)
theorem mEvs_len (k n : Nat) : (mEvs k n).length = n := by simp [mEvs]
theorem mEv_ok (k i : Nat) (h : k + i * 2 + 1 ≤ 1099511627776) : (mEv k i).ok := ⟨by simp only [mEv, inI]; omega, by simp only [mEv, inI]; omega⟩
theorem mkd_ok {k0 : Nat} {xs : List Ev} (h : ∀ e ∈ xs, e.ok) (k : Nat) (hk : k ≤ xs.length) (hb : k0 + xs.length * 2 ≤ 1099511627776) : ∀ e ∈ mkd (mEv k0) xs k, e.ok := by
  intro e he
  unfold mkd at he
  rcases List.mem_append.1 he with h1 | h1
  · obtain ⟨i, hi, rfl⟩ := List.mem_map.1 h1
    exact mEv_ok _ _ (by have := List.mem_range.1 hi; omega)
  · exact h e (List.mem_of_mem_drop h1)

set_option maxHeartbeats 1000000 in
theorem markEventS_any (v : Value) (xs : List Ev) (lo hi k0 : Nat) (w : World) (hk0 : 1 ≤ k0) (hk1 : k0 + xs.length * 2 ≤ 1099511627776) (hown : EvsO lo hi w v xs) :
    Calls Try.prog 89 #[v, .int .i64 k0] w fun e w' => e = .returned (.int .i64 (k0 + xs.length * 2 : Nat)) ∧ EvsO lo hi w' v (mEvs k0 xs.length) ∧ Only lo hi w w' := by
  obtain ⟨ho, hok, hun⟩ := hown
  have HGE := Lib.hid ho.ge
  have HUN := Lib.hid hun
  clear hun
  have hlen : (xs.map evC).length = xs.length := List.length_map _
  have HOK := Lib.hid hok
  clear hok
  rcases ho.form with ⟨rfl, h0⟩ | ⟨g, cap, hv, hg, hgl, hn, hm⟩
  · have hx : xs = [] := List.map_eq_nil_iff.1 h0
    subst hx
    clear h0 hlen
    have HO := Lib.hid ho
    clear ho
    go_enter Try.func89, Try.ntmps89
    go_wp2
    refine wp_loop_rounds 1 ?_
    rw [rounds_succ]
    go_wp2
    go_ret
    exact ⟨by simp, ⟨HO.out, by simp [mEvs], HUN.out⟩, Only.refl _ _ _⟩
  · rw [hlen] at hv hn
    subst hv
    unfold maxLen at hm
    have HO0 := Lib.hid ho
    clear ho
    go_enter Try.func89, Try.ntmps89
    go_wp2
    go_loopw [1, 5] (fun q i wr => ∃ k : Nat, k ≤ xs.length ∧ i = .int .i64 k ∧ q = .int .i64 ((k0 : Int) + k * 2) ∧
        Own lo 167 2 wr (.slice (some ⟨g, 0, none⟩) xs.length cap) ((mkd (mEv k0) xs k).map evC) ∧ w.grownBy wr (some g)) (fun _ i _ => xs.length - (intOf i).toNat)
    case atStart => exact ⟨0, Nat.zero_le _, rfl, by simp, by simpa [mkd_zero] using HO0.out, World.grownBy.refl _ _⟩
    case round =>
      obtain ⟨k, hk, rfl, rfl, hO, hG⟩ := hrel
      have HO := Lib.hid hO
      by_cases hlt : k < xs.length
      · have hml : ((mkd (mEv k0) xs k).map evC).length = xs.length := by rw [List.length_map, mkd_len _ _ _ (by omega)]
        have hat : ((mkd (mEv k0) xs k).map evC)[k]'(by omega) = evC xs[k] := by
          have h1 := mkd_at (mEv k0) xs k hlt
          rw [List.getElem?_eq_getElem (by rw [mkd_len _ _ _ (by omega)]; exact hlt)] at h1
          rw [List.getElem_map, Option.some.inj h1]
        obtain ⟨⟨x, y⟩, hs⟩ : ∃ s, xs[k] = s := ⟨_, rfl⟩
        rw [hs] at hat
        have HML := Lib.hid hml
        have c1 := hO.cell k 0 (by omega) (by omega)
        have c2 := hO.cell k 1 (by omega) (by omega)
        rw [hat] at c1 c2
        simp [evC] at c1 c2
        have fr1 := hO.frozen (k * 2)
        have fr2 := hO.frozen (k * 2 + 1)
        have g0 : (0 : Int) ≤ (k : Int) := by omega
        have g1 : (k : Int) < (xs.length : Int) := by omega
        clear hO hat hs hml
        go_wp2
        go_roundw
        case rel =>
          obtain ⟨p1, p2⟩ := HO.out.put k (by rw [HML.out]; exact hlt) (evC (mEv k0 k)) rfl
          rw [← List.map_set, mkd_set _ _ _ hlt] at p1
          refine ⟨k + 1, by omega, by go_num, by go_num, p1, grownBy_trans hG p2⟩
        case measure => simp [intOf]; omega
      · clear hO
        go_wp2
        go_ret
        obtain rfl : k = xs.length := by omega
        have h1 := HO.out
        have h2 := mkd_ok (k0 := k0) HOK.out xs.length (Nat.le_refl _) hk1
        rw [mkd_all] at h1 h2
        exact ⟨ret_int (by omega), ⟨h1, h2, HUN.out⟩, Only.of_grown (v := .slice (some ⟨g, 0, none⟩) xs.length cap) hG HGE.out HUN.out⟩

theorem mEvs_at (k0 n i : Nat) (h : i < (mEvs k0 n).length) : (mEvs k0 n)[i] = mEv k0 i := by simp [mEvs]
theorem mEvs_get (k0 n i : Nat) (h : i < n) : (mEvs k0 n)[i]'(by rw [mEvs_len]; exact h) = mEv k0 i := mEvs_at _ _ _ _


theorem markRecord_any (v : Value) (r : Rec) (lo hi k0 : Nat) (w : World) (hk0 : 1 ≤ k0) (hk1 : k0 + r.evs.length * 2 ≤ 1099511627776) (h : RecO lo hi w v r) :
    Calls Try.prog 27 #[v, .int .i64 k0] w fun e w' => e = .returned (.int .i64 (k0 + r.evs.length * 2 : Nat)) ∧ RecO lo hi w' v { r with evs := mEvs k0 r.evs.length } ∧ Only lo hi w w' := by
  obtain ⟨s, rfl, h1, hok⟩ := h
  obtain ⟨id, series, made, evs⟩ := r
  have H1 := Lib.hid h1
  have HOK := Lib.hid hok
  clear h1 hok
  go_enter Try.func27, Try.ntmps27
  go_wp2_with (first | (go_at_call 89; refine (markEventS_any _ evs lo hi k0 _ hk0 hk1 (H1.out.alloc _)).mono ?_; rintro e w' ⟨rfl, ho, hb'⟩; have HO := Lib.hid ho; clear ho))
  go_ret
  exact ⟨rfl, ⟨_, rfl, HO.out, HOK.out⟩, (Only.of_below (below_al (Below.refl _ _) _)).trans hb'⟩

end Go.Proofs.Ytkjpehpodlpdhaa
