/- The laws' own comparisons of events and records, and what they hold of a size. -/
import Derived.Test.YtkjpehpodlpdhaaToRec
import Derived.Deep.RegionHeld3
import Derived.WalkSmall
namespace Go.Proofs.Ytkjpehpodlpdhaa
set_option linter.unusedVariables false
open Go.RowKit

theorem szEventS_any (v : Value) (xs : List Ev) (left : Int) (w : World) (h1 : RowR 2 rEv w v xs) (h0 : 0 ≤ left) (h2 : left ≤ 1099511627776) :
    Calls Try.prog 81 #[v, .int .i64 left] w fun e w' => e = .returned (.int .i64 (if left < xs.length then -1 else left - xs.length)) ∧ Below w.heap.size w w' := by
  have hcap := h1.cap
  obtain ⟨a1, c1, rfl, hl1, hm1, r1⟩ := h1
  by_cases hb : left < xs.length
  · rw [if_pos hb]
    go_enter Try.func81, Try.ntmps81
    go_wp2
    go_ret
    exact ⟨rfl, Below.refl _ _⟩
  · rw [if_neg hb]
    go_enter Try.func81, Try.ntmps81
    go_wp2
    go_ret
    exact ⟨rfl, Below.refl _ _⟩

theorem szRecord_any (v : Value) (r : Rec) (left : Int) (w : World) (h : RecV w v r) (h0 : 0 ≤ left) (h2 : left ≤ 1099511627776) :
    Calls Try.prog 20 #[v, .int .i64 left] w fun e w' => e = .returned (.int .i64 (if left < r.evs.length then -1 else left - r.evs.length)) ∧ Below w.heap.size w w' := by
  obtain ⟨s, rfl, h1, hok⟩ := h
  obtain ⟨id, series, made, evs⟩ := r
  have H1 := Lib.hid h1
  clear h1 hok
  by_cases hb : left < evs.length
  · simp only [if_pos hb]
    go_enter Try.func20, Try.ntmps20
    go_wp2_with (first | (go_at_call 81; refine (szEventS_any _ evs left _ (H1.out.below rEv_stable (below_al (Below.refl _ _) _)) h0 h2).mono ?_; rw [if_pos hb]; rintro e w' ⟨rfl, hb'⟩))
    go_ret
    exact ⟨rfl, below_chain (below_al (Below.refl _ _) _) hb'⟩
  · simp only [if_neg hb]
    go_enter Try.func20, Try.ntmps20
    go_wp2_with (first | (go_at_call 81; refine (szEventS_any _ evs left _ (H1.out.below rEv_stable (below_al (Below.refl _ _) _)) h0 h2).mono ?_; rw [if_neg hb]; rintro e w' ⟨rfl, hb'⟩))
    go_ret
    exact ⟨rfl, below_chain (below_al (Below.refl _ _) _) hb'⟩

theorem eqEvent_any (a b : Ev) (w : World) :
    Calls Try.prog 148 #[.agg #[.int .i64 a.kind, .int .i64 a.day], .agg #[.int .i64 b.kind, .int .i64 b.day]] w fun e w' => e = .returned (.bool (decide (a = b))) ∧ Below w.heap.size w w' := by
  obtain ⟨a0, a1⟩ := a
  obtain ⟨b0, b1⟩ := b
  by_cases h0 : a0 = b0
  · by_cases h1 : a1 = b1
    · subst h0 h1
      go_enter Try.func148, Try.ntmps148
      go_wp2
      go_ret
      exact ⟨ret_bool (by simp), below_al (below_al (Below.refl _ _) _) _⟩
    · subst h0
      have e1 : (a1 != b1) = true := by simp [h1]
      go_enter Try.func148, Try.ntmps148
      go_wp2
      go_ret
      exact ⟨ret_bool (by simp [h1]), below_al (below_al (Below.refl _ _) _) _⟩
  · have e1 : (a0 != b0) = true := by simp [h0]
    go_enter Try.func148, Try.ntmps148
    go_wp2
    go_ret
    exact ⟨ret_bool (by simp [h0]), below_al (below_al (Below.refl _ _) _) _⟩

set_option maxHeartbeats 1000000 in
theorem eqEventS_any (v1 v2 : Value) (xs ys : List Ev) (w : World) (h1 : RowR 2 rEv w v1 xs) (h2 : RowR 2 rEv w v2 ys) :
    Calls Try.prog 88 #[v1, v2] w fun e w' => e = .returned (.bool (decide (xs = ys))) ∧ Below w.heap.size w w' := by
  have hx := h1.cap
  have hy := h2.cap
  obtain ⟨a1, c1, rfl, hl1, hm1, r1⟩ := h1
  obtain ⟨a2, c2, rfl, hl2, hm2, r2⟩ := h2
  by_cases hlen : xs.length = ys.length
  · have hLen := Lib.hid hlen
    have hne : (((xs.length : Nat) : Int) != (xs.length : Int)) = false := by simp
    rw [← hlen]
    clear hlen
    have R1 := Lib.hid r1
    have R2 := Lib.hid r2
    clear r1 r2
    go_enter Try.func88, Try.ntmps88
    go_wp2
    go_loopw [5] (fun i wr => ∃ k : Nat, k ≤ xs.length ∧ i = .int .i64 k ∧ (∀ j (h : j < k) (h1 : j < xs.length) (h2 : j < ys.length), xs[j] = ys[j]) ∧ Below w.heap.size w wr) (fun i _ => xs.length - (intOf i).toNat)
    case atStart => exact ⟨0, Nat.zero_le _, rfl, fun j h => by omega, Below.refl _ _⟩
    case round =>
      obtain ⟨k, hk, rfl, hj, hb⟩ := hrel
      have HJ := Lib.hid hj
      clear hj
      by_cases hlt : k < xs.length
      · obtain ⟨b1, o1, hb1, rfl, e1⟩ := R1.out.resolve_left (fun e => by rw [e] at hlt; simp at hlt)
        obtain ⟨b2, o2, hb2, rfl, e2⟩ := R2.out.resolve_left (fun e => by have := hLen.out; rw [e] at this; simp at this; rw [this] at hlt; simp at hlt)
        obtain ⟨⟨x0, x1⟩, hx⟩ : ∃ s, xs[k] = s := ⟨_, rfl⟩
        obtain ⟨⟨y0, y1⟩, hy⟩ : ∃ s, ys[k]'(by have := hLen.out; omega) = s := ⟨_, rfl⟩
        obtain ⟨cs1, hcl1, hcs1, hre1⟩ := e1 k hlt
        obtain ⟨cs2, hcl2, hcs2, hre2⟩ := e2 k (by have := hLen.out; omega)
        rw [hx] at hre1
        rw [hy] at hre2
        obtain ⟨rfl, hok1⟩ := hre1
        obtain ⟨rfl, hok2⟩ := hre2
        have f10 := (hb.cell (p := ⟨b1, o1 + k * 2, none⟩) hb1).trans (hcs1 0 (by omega))
        have f11 := (hb.cell (p := ⟨b1, o1 + k * 2 + 1, none⟩) hb1).trans (hcs1 1 (by omega))
        have f20 := (hb.cell (p := ⟨b2, o2 + k * 2, none⟩) hb2).trans (hcs2 0 (by omega))
        have f21 := (hb.cell (p := ⟨b2, o2 + k * 2 + 1, none⟩) hb2).trans (hcs2 1 (by omega))
        simp [evC] at f10 f11 f20 f21
        have HX := Lib.hid hx
        have HY := Lib.hid hy
        have hsz := hb.size
        have hb1' : b1 < wr.heap.size := by omega
        have hb2' : b2 < wr.heap.size := by omega
        have g0 : (0 : Int) ≤ (k : Int) := by omega
        have g1 : (k : Int) < (xs.length : Int) := by omega
        clear hcs1 hcs2 hcl1 hcl2 e1 e2 hx hy R1 R2 hok1 hok2
        obtain ⟨bb, hbb⟩ : ∃ bb, decide ((⟨x0, x1⟩ : Ev) = ⟨y0, y1⟩) = bb := ⟨_, rfl⟩
        have hcall : ∀ W : World, Calls Try.prog 148 #[.agg #[.int .i64 x0, .int .i64 x1], .agg #[.int .i64 y0, .int .i64 y1]] W fun e w' => e = .returned (.bool bb) ∧ Below W.heap.size W w' := fun W => by
          have := eqEvent_any ⟨x0, x1⟩ ⟨y0, y1⟩ W
          rwa [hbb] at this
        have HB := Lib.hid hbb
        clear hbb
        go_wp2_with fail
        go_region_held3 (fun w' => w'.cell? ⟨b1, o1 + k * 2, none⟩ = some (.int .i64 x0) ∧ w'.cell? ⟨b1, o1 + k * 2 + 1, none⟩ = some (.int .i64 x1) ∧ w'.cell? ⟨b2, o2 + k * 2, none⟩ = some (.int .i64 y0) ∧ w'.cell? ⟨b2, o2 + k * 2 + 1, none⟩ = some (.int .i64 y1)) (first | go_keep | (refine ⟨?_, ?_, ?_, ?_⟩ <;> (rw [hb'.cell (by simp; omega)]; assumption)))
          (first | (go_at_call 148; refine (hcall _).mono ?_; rintro e w' ⟨rfl, hb'⟩))
        cases bb
        · go_wp2
          go_ret
          refine ⟨ret_bool (Eq.symm (decide_eq_false fun e => ?_)), hb.drew.trans (hb'.mono hsz)⟩
          have h1 := of_decide_eq_false HB.out
          subst e
          exact h1 (HX.out.symm.trans HY.out)
        · go_wp2
          go_roundw
          case rel => exact ⟨k + 1, by omega, by go_num, fun j h a b => (by rcases Nat.lt_or_ge j k with h' | h'; · exact HJ.out j h' a b
                                                                            · obtain rfl : j = k := by omega
                                                                              exact (HX.out.trans (of_decide_eq_true HB.out)).trans HY.out.symm), hb.drew.trans (hb'.mono hsz)⟩
          case measure => simp [intOf]; omega
      · go_wp2
        go_ret
        refine ⟨ret_bool (Eq.symm (decide_eq_true ?_)), hb⟩
        exact List.ext_getElem hLen.out fun i a b => HJ.out i (by omega) a b
  · have hne : (((xs.length : Nat) : Int) != (ys.length : Int)) = true := by simp; omega
    rw [decide_eq_false (fun e => hlen (by rw [e]))]
    go_enter Try.func88, Try.ntmps88
    go_wp2
    go_ret
    exact ⟨rfl, Below.refl _ _⟩

set_option maxHeartbeats 1000000 in
theorem eqRecord_any (v1 v2 : Value) (a b : Rec) (w : World) (h1 : RecV w v1 a) (h2 : RecV w v2 b) :
    Calls Try.prog 25 #[v1, v2] w fun e w' => e = .returned (.bool (decide (a = b))) ∧ Below w.heap.size w w' := by
  obtain ⟨s1, rfl, h1, _⟩ := h1
  obtain ⟨s2, rfl, h2, _⟩ := h2
  obtain ⟨a0, a1, a2, xs⟩ := a
  obtain ⟨b0, b1, b2, ys⟩ := b
  have H1 := Lib.hid h1
  have H2 := Lib.hid h2
  clear h1 h2
  by_cases e0 : a0 = b0
  · by_cases e1 : a1 = b1
    · by_cases e2 : a2 = b2
      · subst e0 e1 e2
        obtain ⟨bb, hbb⟩ : ∃ bb, decide (xs = ys) = bb := ⟨_, rfl⟩
        have hcall : ∀ W : World, Below w.heap.size w W → Calls Try.prog 88 #[s1, s2] W fun e w' => e = .returned (.bool bb) ∧ Below W.heap.size W w' := fun W hW => by
          have := eqEventS_any s1 s2 xs ys W (H1.out.below rEv_stable hW) (H2.out.below rEv_stable hW)
          rwa [hbb] at this
        have hgoal : decide ((⟨a0, a1, a2, xs⟩ : Rec) = ⟨a0, a1, a2, ys⟩) = bb := by rw [← hbb]; simp
        rw [hgoal]
        clear hgoal hbb
        cases bb
        all_goals
          go_enter Try.func25, Try.ntmps25
          go_wp2_with (first | (go_at_call 88; refine (hcall _ (below_al (below_al (Below.refl _ _) _) _)).mono ?_; rintro e w' ⟨rfl, hb'⟩))
          go_ret
          exact ⟨rfl, below_chain (below_al (below_al (Below.refl _ _) _) _) hb'⟩
      · have e : (a2 != b2) = true := by simp [e2]
        subst e0 e1
        go_enter Try.func25, Try.ntmps25
        go_wp2
        go_ret
        exact ⟨ret_bool (by simp), below_al (below_al (Below.refl _ _) _) _⟩
    · have e : (a1 != b1) = true := by simp [e1]
      subst e0
      go_enter Try.func25, Try.ntmps25
      go_wp2
      go_ret
      exact ⟨ret_bool (by simp), below_al (below_al (Below.refl _ _) _) _⟩
  · have e : (a0 != b0) = true := by simp [e0]
    go_enter Try.func25, Try.ntmps25
    go_wp2
    go_ret
    exact ⟨ret_bool (by simp), below_al (below_al (Below.refl _ _) _) _⟩
end Go.Proofs.Ytkjpehpodlpdhaa
