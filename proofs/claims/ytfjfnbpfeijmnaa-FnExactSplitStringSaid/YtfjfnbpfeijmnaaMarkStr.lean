/- The laws' own markStringS and heldStringS: the one writes its marks into a slice of the call's own, the other finds them again. -/
import Derived.Test.YtfjfnbpfeijmnaaMark
import Derived.Test.YtfjfnbpfeijmnaaRowOf
import Derived.Deep.RegionHeld3
import Derived.WalkSmall
namespace Go.Proofs.Ytfjfnbpfeijmnaa
set_option linter.unusedVariables false
open Go.RowKit

/-- The marks of n places from number k on. -/
def marks (k n : Nat) : List ByteArray := (List.range n).map fun i => ⟨(mt (k + i)).toArray⟩
theorem marks_length (k n : Nat) : (marks k n).length = n := by simp [marks]
theorem marks_get (k n i : Nat) (h : i < (marks k n).length) : (marks k n)[i] = ⟨(mt (k + i)).toArray⟩ := by simp [marks]

theorem markText_int (a : Int) (w : World) (h0 : 1 ≤ a) (h1 : a ≤ 1099511627776) :
    Calls Try.prog 35 #[.int .i64 a] w fun e w' => e = .returned (.string ⟨(mt a.toNat).toArray⟩) ∧ Below w.heap.size w w' := by
  obtain ⟨n, rfl⟩ := Int.eq_ofNat_of_zero_le (show 0 ≤ a by omega)
  simpa using markText_any n w (by omega) (by omega)

set_option maxHeartbeats 1000000 in
theorem heldStringS_any (v : Value) (k0 n : Nat) (w : World) (hk0 : 1 ≤ k0) (hk1 : k0 + n ≤ 1099511627776) (h1 : RowOf Value.string w v (marks k0 n)) :
    Calls Try.prog 20 #[v, .int .i64 k0] w fun e w' => e = .returned (.int .i64 (k0 + n : Nat)) ∧ Below w.heap.size w w' := by
  obtain ⟨a1, c1, rfl, hl1, hm1, r1⟩ := h1
  rw [marks_length]
  rw [marks_length] at hl1
  by_cases h0 : n = 0
  · subst h0
    clear r1
    go_enter Try.func20, Try.ntmps20
    go_wp2
    refine wp_loop_rounds 1 ?_
    rw [rounds_succ]
    go_wp2
    go_ret
    exact ⟨by simp, Below.refl _ _⟩
  · obtain ⟨b1, o1, hb1, rfl, e1⟩ := r1.resolve_left (fun e => h0 (by have := marks_length k0 n; rw [e] at this; exact this.symm))
    have e2 : ∀ i, i < n → w.cell? ⟨b1, o1 + i, none⟩ = some (.string ⟨(mt (k0 + i)).toArray⟩) := fun i hi => by
      have := e1 i (by rw [marks_length]; exact hi)
      rw [marks_get] at this
      exact this
    have E2 := Lib.hid e2
    clear e1 e2 r1
    go_enter Try.func20, Try.ntmps20
    go_wp2
    go_loopw [1, 5] (fun q i wr => ∃ k : Nat, k ≤ n ∧ i = .int .i64 k ∧ q = .int .i64 ((k0 : Int) + k) ∧ Below w.heap.size w wr) (fun _ i _ => n - (intOf i).toNat)
    case atStart => exact ⟨0, Nat.zero_le _, rfl, by simp, Below.refl _ _⟩
    case round =>
      obtain ⟨k, hk, rfl, rfl, hb⟩ := hrel
      by_cases hlt : k < n
      · have f1 := (hb.cell (p := ⟨b1, o1 + k, none⟩) hb1).trans (E2.out k hlt)
        have hsz := hb.size
        have g0 : (0 : Int) ≤ (k : Int) := by omega
        have g1 : (k : Int) < (n : Int) := by omega
        have hq : ((k0 : Int) + (k : Int)).toNat = k0 + k := by omega
        go_wp2_with fail
        go_region_held3 (fun w' => w'.cell? ⟨b1, o1 + k, none⟩ = some (.string ⟨(mt (k0 + k)).toArray⟩)) (first | go_keep | ((rw [hb'.cell (by simp; omega)]; assumption)))
          (first | (go_at_call 35; refine (markText_int _ _ (by omega) (by omega)).mono ?_; rintro e w' ⟨rfl, hb'⟩))
        go_wp2
        go_roundw
        case rel => exact ⟨k + 1, by omega, by go_num, by go_num, hb.drew.trans (hb'.mono hsz)⟩
        case measure => simp [intOf]; omega
      · go_wp2
        go_ret
        exact ⟨ret_int (by omega), hb⟩

/-- The first k places marked, the rest as it was. -/
def marked (xs : List ByteArray) (k0 k : Nat) : List ByteArray := marks k0 k ++ xs.drop k
theorem marks_succ (k0 k : Nat) : marks k0 (k + 1) = marks k0 k ++ [⟨(mt (k0 + k)).toArray⟩] := by simp [marks, List.range_succ]
theorem marked_set (xs : List ByteArray) (k0 k : Nat) (h : k < xs.length) : (marked xs k0 k).set k ⟨(mt (k0 + k)).toArray⟩ = marked xs k0 (k + 1) := by
  unfold marked
  rw [List.set_append_right _ _ (by rw [marks_length]; exact Nat.le_refl _), marks_length, Nat.sub_self, List.drop_eq_getElem_cons h, List.set_cons_zero, marks_succ, List.append_assoc]
  rfl

theorem marked_cell (xs : List ByteArray) (k0 k : Nat) (h : k < xs.length) : ((marked xs k0 k).map Value.string)[k]? = some (.string xs[k]) := by
  unfold marked
  rw [List.map_append, List.getElem?_append_right (by simp [marks_length])]
  simp [marks_length, List.getElem?_eq_getElem h]

set_option maxHeartbeats 1000000 in
theorem markStringS_any (v : Value) (xs : List ByteArray) (base k0 : Nat) (w : World) (hk0 : 1 ≤ k0) (hk1 : k0 + xs.length ≤ 1099511627776)
    (hown : w.ownsRow base 9 1 v xs.length (xs.map Value.string)) :
    Calls Try.prog 19 #[v, .int .i64 k0] w fun e w' => e = .returned (.int .i64 (k0 + xs.length : Nat)) ∧
      w'.ownsRow base 9 1 v xs.length ((marks k0 xs.length).map Value.string) ∧ w.grownBy w' v.ownBlock := by
  by_cases h0 : xs.length = 0
  · obtain ⟨a, cap, rfl, _⟩ := RowOf.of_owns hown
    have hx := List.length_eq_zero_iff.1 h0
    subst hx
    clear h0
    have HO := Lib.hid hown
    clear hown
    go_enter Try.func19, Try.ntmps19
    go_wp2
    refine wp_loop_rounds 1 ?_
    rw [rounds_succ]
    go_wp2
    go_ret
    exact ⟨by simp, by simpa [marks] using HO.out, World.grownBy.refl _ _⟩
  · rcases hown.2 with ⟨rfl, hn⟩ | ⟨g, cap, cur, rfl, hg, hh, hn, hm, hs, ht⟩
    · exact absurd hn h0
    · have hgl := (Array.getElem?_eq_some_iff.1 hh).1
      clear hh hs ht cur
      unfold maxLen at hm
      go_enter Try.func19, Try.ntmps19
      go_wp2
      go_loopw [1, 5] (fun q i wr => ∃ k : Nat, k ≤ xs.length ∧ i = .int .i64 k ∧ q = .int .i64 ((k0 : Int) + k) ∧
          wr.ownsRow base 9 1 (.slice (some ⟨g, 0, none⟩) xs.length cap) xs.length ((marked xs k0 k).map Value.string) ∧ w.grownBy wr (some g)) (fun _ i _ => xs.length - (intOf i).toNat)
      case atStart => exact ⟨0, Nat.zero_le _, rfl, by simp, by simpa [marked, marks] using hown, World.grownBy.refl _ _⟩
      case round =>
        obtain ⟨k, hk, rfl, rfl, hO, hG⟩ := hrel
        have HO := Lib.hid hO
        by_cases hlt : k < xs.length
        · have hq : ((k0 : Int) + (k : Int)).toNat = k0 + k := by omega
          have g0 : (0 : Int) ≤ (k : Int) := by omega
          have g1 : (k : Int) < (xs.length : Int) := by omega
          clear hO
          go_wp2_with (first | (go_at_call 35; refine (markText_int _ _ (by omega) (by omega)).mono ?_; rintro e w' ⟨rfl, hb'⟩; have hO2 := ownsRow_below HO.out hb'; have hcl := hO2.cellAt k (by omega); have hfr := hO2.frozenAt k; have hz := marked_cell xs k0 k hlt; rw [hz] at hcl; have HO2 := Lib.hid hO2; clear hO2 hz))
          go_roundw
          case rel =>
            have hst := HO2.out.stored k (.string ⟨(mt (k0 + k)).toArray⟩)
            refine ⟨k + 1, by omega, by go_num, by go_num, ?_, grownBy_trans (grownBy_trans hG (grownBy_of_below hb' _)) hst.2⟩
            have h1 := hst.1
            rw [← List.map_set, marked_set xs k0 k hlt] at h1
            exact h1
          case measure => simp [intOf]; omega
        · clear hO
          go_wp2
          go_ret
          obtain rfl : k = xs.length := by omega
          refine ⟨ret_int (by omega), ?_, hG⟩
          have := HO.out
          rwa [marked, List.drop_length, List.append_nil] at this
end Go.Proofs.Ytfjfnbpfeijmnaa
