/- What the cursor gives of numbers, words and functions' Ids. -/
import Derived.Test.YtpbjddiopfkgbaaCurNew
import Derived.Test.YtpbjddiopfkgbaaToFn
namespace Go.Proofs.Ytpbjddiopfkgbaa
set_option linter.unusedVariables false
open Go.RowKit

set_option maxHeartbeats 1000000 in
theorem among_any (B K g off cap n : Nat) (xs : List Int) (w : World) (h : Cur w B K) (hK : K ≤ 549755813888) (hn : n = xs.length) (h0 : 0 < n) (hn1 : n ≤ 1099511627776) (hgB : g ≠ B)
    (hc : ∀ i (hi : i < xs.length), w.cell? ⟨g, off + i, none⟩ = some (.int .i64 xs[i])) :
    Calls Try.prog 89 #[.pointer (some ⟨B, 0, none⟩), .slice (some ⟨g, off, none⟩) n cap] w (CurNum w B (K + 2) xs) := by
  have H := Lib.hid h
  have HC := Lib.hid hc
  have HN := Lib.hid hn
  clear h hc hn
  go_enter Try.func89, Try.ntmps89
  go_wp2_with fail
  refine (pick_any B K n _ H.out hK (by omega) (by omega)).mono ?_
  rintro e w1 ⟨r, rfl, hr0, hr1, hc1, hg1⟩
  obtain ⟨k, rfl⟩ := Int.eq_ofNat_of_zero_le hr0
  have hk : k < xs.length := by have := HN.out; omega
  have f1 := hg1.cell (HC.out k hk) (by simpa using hgB)
  have HC1 := Lib.hid hc1
  have HG1 := Lib.hid hg1
  clear hc1 hg1
  go_wp2
  go_ret
  exact ⟨_, rfl, List.getElem_mem hk, HC1.out, HG1.out⟩

def wordList : List ByteArray := [⟨#[116, 97, 120]⟩, ⟨#[108, 101, 116, 116, 101, 114]⟩, ⟨#[99, 111, 117, 114, 116]⟩, ⟨#[97, 110, 110, 97]⟩, ⟨#[98, 111]⟩, ⟨#[110, 111, 114, 116, 104]⟩, ⟨#[112, 108, 97, 110]⟩, ⟨#[97]⟩, ⟨#[97, 98, 99, 100, 101, 102, 103, 104, 105, 106]⟩]
theorem word_short {s : ByteArray} (h : s ∈ wordList) : s.size ≤ 11 := by
  have : ∀ x ∈ wordList, x.size ≤ 11 := by decide
  exact this s h

theorem few_in {r : Int} (h : r ∈ ([0, 1, 50] : List Int)) : inI r := by
  have : ∀ x ∈ ([0, 1, 50] : List Int), -9223372036854775808 ≤ x ∧ x ≤ 9223372036854775807 := by decide
  have := this r h
  unfold inI
  omega
/-- A number that fits. -/
def CurSome (w : World) (B K : Nat) (e : Ending) (w' : World) : Prop :=
  ∃ r : Int, e = .returned (.int .i64 r) ∧ inI r ∧ Cur w' B K ∧ w.grownBy w' (some B)
theorem FnsO.grown {lo hi B : Nat} {w w' : World} {v : Value} {xs : List Fn} (h : FnsO lo hi w v xs) (hg : w.grownBy w' (some B)) (hB : B < lo) : FnsO lo hi w' v xs := by
  refine ⟨⟨h.1.1.kept hg ?_, h.1.2⟩, h.2⟩
  rcases hv : v.ownBlock with _ | k
  · exact .inl rfl
  · refine .inr fun e => ?_
    have := h.1.ge k hv
    cases e
    omega

set_option maxHeartbeats 1000000 in
theorem functionId_any (B K : Nat) (v : Value) (t : List Fn) (hi : Nat) (w : World) (h : Cur w B K) (ht : FnsO (B + 1) hi w v t) (hn : t.length ≤ 1048576) (hK : K ≤ 274877906944) :
    Calls Try.prog 58 #[.pointer (some ⟨B, 0, none⟩), v] w (CurSome w B (K + 4)) := by
  have HT := Lib.hid ht
  have H := Lib.hid h
  obtain ⟨a1, c1, hv, hl1, hm1, r1⟩ := ht.row.fns
  subst hv
  unfold maxLen at hm1
  have hlt := h.lt
  clear h ht r1
  by_cases h0 : t.length = 0
  · have hnum := new_nums w [0, 1, 50] 3 _ rfl
    have HC := Lib.hid (H.out.later (Below.alloc (Below.refl (B + 1) w) hlt (.cells (([0, 1, 50] : List Int).map (Value.int .i64)).toArray 3)))
    have hz : ((t.length : Int) == 0) = true := by simp [h0]
    have hz2 : decide ((t.length : Int) = 0) = true := decide_eq_true (by omega)
    clear h0
    go_enter Try.func58, Try.ntmps58
    go_wp2_with (first | (go_at_call 89; refine (among_any B K w.heap.size 0 3 3 [0, 1, 50] _ HC.out (by omega) rfl (by omega) (by omega) (by omega) hnum).mono ?_; rintro e w1 ⟨r, rfl, hm, hc1, hg1⟩))
    go_ret
    exact ⟨r, rfl, few_in hm, hc1.le_K (by omega), grownBy_trans (World.grownBy_alloc w _ _) hg1⟩
  · have hz : ((t.length : Int) == 0) = false := beq_eq_false_iff_ne.2 (by omega)
    have hz2 : decide ((t.length : Int) = 0) = false := decide_eq_false (by omega)
    have hp1 : (1 : Int) ≤ (t.length : Int) := by omega
    clear h0
    go_enter Try.func58, Try.ntmps58
    go_wp2_with fail
    refine (one_any B K 10 _ H.out (by omega) (by omega) (by omega)).mono ?_
    rintro e w1 ⟨b, rfl, hc1, hg1⟩
    have HC1 := Lib.hid hc1
    have HG1 := Lib.hid hg1
    have HT1 := Lib.hid (HT.out.grown hg1 (by omega))
    have hlt1 := hc1.lt
    clear hc1 hg1
    cases b
    · go_wp2_with fail
      refine (pick_any B (K + 2) t.length _ HC1.out (by omega) (by omega) (by omega)).mono ?_
      rintro e w2 ⟨r, rfl, hr0, hr1, hc2, hg2⟩
      obtain ⟨k, rfl⟩ := Int.eq_ofNat_of_zero_le hr0
      have hk : k < t.length := by omega
      obtain ⟨a2, c2, e2, _, _, r2⟩ := (HT1.out.grown hg2 (by omega)).row.fns
      cases e2
      obtain ⟨bx, ox, hbx, rfl, e1⟩ := r2.resolve_left (fun e => by rw [e] at hk; simp at hk)
      obtain ⟨q0, _, _, hok⟩ := e1 k hk
      have HOK := Lib.hid hok.1
      have HC2 := Lib.hid hc2
      have HG2 := Lib.hid hg2
      have g0 : (0 : Int) ≤ (k : Int) := by omega
      have g1 : (k : Int) < (t.length : Int) := by omega
      clear hc2 hg2 e1 r2 hok
      go_wp2
      go_ret
      exact ⟨_, rfl, (by have := HOK.out; rwa [getF_lt hk] at this), HC2.out, grownBy_trans HG1.out HG2.out⟩
    · have hnum := new_nums w1 [0, 1, 50] 3 _ rfl
      have HC := Lib.hid (HC1.out.later (Below.alloc (Below.refl (B + 1) w1) hlt1 (.cells (([0, 1, 50] : List Int).map (Value.int .i64)).toArray 3)))
      go_wp2_with (first | (go_at_call 89; refine (among_any B (K + 2) w1.heap.size 0 3 3 [0, 1, 50] _ HC.out (by omega) rfl (by omega) (by omega) (by omega) hnum).mono ?_; rintro e w2 ⟨r, rfl, hm, hc2, hg2⟩))
      go_ret
      exact ⟨r, rfl, few_in hm, hc2, grownBy_trans HG1.out (grownBy_trans (World.grownBy_alloc w1 _ _) hg2)⟩
end Go.Proofs.Ytpbjddiopfkgbaa
