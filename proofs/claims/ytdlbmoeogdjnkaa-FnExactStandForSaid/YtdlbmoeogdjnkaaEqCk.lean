/- The laws' own sizes and comparisons of Clerk. -/
import Derived.Test.YtdlbmoeogdjnkaaToCk
import Derived.Test.YtdlbmoeogdjnkaaBytesNe
import Derived.Deep.RegionHeld3
import Derived.WalkSmall
namespace Go.Proofs.Ytdlbmoeogdjnkaa
set_option linter.unusedVariables false
open Go.RowKit

/-- How much a value's texts hold. -/
def sz1Ck (x : Ck) : Nat := x.name.size
def szCk (xs : List Ck) : Nat := (xs.map sz1Ck).sum
theorem szCk_take_succ (xs : List Ck) (k : Nat) (h : k < xs.length) : szCk (xs.take (k + 1)) = szCk (xs.take k) + sz1Ck (xs.getD k ckD) := by
  unfold szCk
  rw [List.take_add_one, List.getElem?_eq_getElem h, getCk_lt h, List.map_append, List.sum_append]
  simp only [Option.toList_some, List.map_cons, List.map_nil, List.sum_cons, List.sum_nil, Nat.add_zero]
theorem szCk_take_le (xs : List Ck) (k : Nat) : szCk (xs.take k) ≤ szCk xs := by
  have h : szCk xs = szCk (xs.take k) + szCk (xs.drop k) := by
    unfold szCk
    rw [← List.sum_append, ← List.map_append, List.take_append_drop]
  omega
theorem szCk_at (xs : List Ck) (i : Nat) (h : i < xs.length) : sz1Ck (xs.getD i ckD) ≤ szCk xs := by
  have h1 := szCk_take_succ xs i h
  have h2 := szCk_take_le xs (i + 1)
  omega

theorem szCk_one (v : Value) (x : Ck) (left : Int) (w : World) (h : CkV w v x) (h0 : 0 ≤ left) (h2 : left ≤ 1099511627776) :
    Calls Try.prog 13 #[v, .int .i64 left] w fun e w' => e = .returned (.int .i64 (if left < sz1Ck x then -1 else left - sz1Ck x)) ∧ Below w.heap.size w w' := by
  obtain ⟨rfl, hok⟩ := h
  obtain ⟨x0, x1, x2, x3, x4, x5⟩ := x
  obtain ⟨o0, o1, o2, o3, o4, o5⟩ := hok
  simp only [maxLen] at o1
  obtain ⟨z, hz⟩ : ∃ z, sz1Ck ⟨x0, x1, x2, x3, x4, x5⟩ = z := ⟨_, rfl⟩
  have hz2 : x1.size = z := hz
  rw [hz]
  clear hz
  by_cases t1 : left < (x1.size : Int)
  · have hc : left < (z : Int) := by omega
    simp only [if_pos hc]
    clear hc
    go_enter Try.func13, Try.ntmps13
    go_wp2_with fail
    go_ret
    exact ⟨rfl, below_al (Below.refl _ _) _⟩
  · have hc : ¬ left < (z : Int) := by omega
    simp only [if_neg hc]
    clear hc
    go_enter Try.func13, Try.ntmps13
    go_wp2_with fail
    go_ret
    exact ⟨ret_int (by omega), below_al (Below.refl _ _) _⟩

set_option maxHeartbeats 1000000 in
/-- The size: what is left over, or -1. -/
theorem szCkS_any (v : Value) (xs : List Ck) (left : Int) (w : World) (h : RowR 6 rCk w v xs) (h0 : 0 ≤ left) (h2 : left ≤ 1099511627776) :
    Calls Try.prog 17 #[v, .int .i64 left] w fun e w' => ∃ n : Int, e = .returned (.int .i64 n) ∧ (n < 0 ∨ (xs.length : Int) + szCk xs ≤ left) ∧ (0 ≤ n ∨ n = -1) ∧ n ≤ left ∧ Below w.heap.size w w' := by
  have hcap := h.cap
  obtain ⟨a1, c1, rfl, hl1, hm1, r1⟩ := h.cks
  have R1 := Lib.hid r1
  clear h r1
  unfold maxLen at hm1
  by_cases hb : left < xs.length
  · go_enter Try.func17, Try.ntmps17
    go_wp2_with fail
    go_ret
    exact ⟨-1, rfl, Or.inl (by omega), Or.inr rfl, by omega, Below.refl _ _⟩
  · go_enter Try.func17, Try.ntmps17
    go_wp2_with fail
    go_loopw [1, 5] (fun l i wr => ∃ (k : Nat) (n : Int), k ≤ xs.length ∧ i = .int .i64 k ∧ l = .int .i64 n ∧ Hid (n = left - xs.length - szCk (xs.take k)) ∧ 0 ≤ n ∧ n ≤ left ∧ Below w.heap.size w wr) (fun _ i _ => xs.length - (intOf i).toNat)
    case atStart => exact ⟨0, left - xs.length, Nat.zero_le _, rfl, rfl, Lib.hid (by simp [szCk]), by omega, by omega, Below.refl _ _⟩
    case round =>
      obtain ⟨k, n, hk, rfl, rfl, HN, hn0, hnl, hb⟩ := hrel
      by_cases hlt : k < xs.length
      · obtain ⟨b1, o1, hb1, rfl, e1⟩ := R1.out.resolve_left (fun e => by rw [e] at hlt; simp at hlt)
        obtain ⟨q0, q1, q2, q3, q4, q5, hok⟩ := e1 k hlt
        obtain ⟨r, hx⟩ : ∃ s, xs.getD k ckD = s := ⟨_, rfl⟩
        rw [hx] at q0 q1 q2 q3 q4 q5 hok
        have f0 := cell_kept q0 hb
        have f1 := cell_kept q1 hb
        have f2 := cell_kept q2 hb
        have f3 := cell_kept q3 hb
        have f4 := cell_kept q4 hb
        have f5 := cell_kept q5 hb
        have HX := Lib.hid hx
        have hV : CkV wr (.agg #[.int .i64 r.id, .string r.name, .int .i64 r.rights, .int .i64 r.frm, .int .i64 r.til, .int .i64 r.stands]) r := ⟨rfl, hok⟩
        have HV := Lib.hid hV
        have g0 : (0 : Int) ≤ (k : Int) := by omega
        have g1 : (k : Int) < (xs.length : Int) := by omega
        have hw := hb.size
        clear q0 q1 q2 q3 q4 q5 hok hx e1 hV
        by_cases hfit : n < sz1Ck r
        · go_wp2_with fail
          refine (szCk_one _ r n _ HV.out hn0 (by omega)).mono ?_
          rw [if_pos (by omega)]
          rintro e w1 ⟨rfl, b2⟩
          go_wp2_with fail
          go_ret
          exact ⟨-1, rfl, Or.inl (by omega), Or.inr rfl, by omega, hb.trans (b2.mono hw)⟩
        · go_wp2_with fail
          refine (szCk_one _ r n _ HV.out hn0 (by omega)).mono ?_
          rw [if_neg (by omega)]
          rintro e w1 ⟨rfl, b2⟩
          go_wp2_with fail
          go_roundw
          case rel =>
            refine ⟨k + 1, n - sz1Ck r, by omega, by go_num, rfl, Lib.hid ?_, by omega, by omega, hb.trans (b2.mono hw)⟩
            have h1 := szCk_take_succ xs k hlt
            rw [HX.out] at h1
            have h2 := HN.out
            omega
          case measure => simp [intOf]; omega
      · obtain rfl : k = xs.length := by omega
        go_wp2_with fail
        go_ret
        refine ⟨n, rfl, Or.inr ?_, Or.inl hn0, hnl, hb⟩
        have := HN.out
        rw [List.take_length] at this
        omega

theorem eqCk_any (a b : Ck) (w : World) :
    Calls Try.prog 50 #[.agg #[.int .i64 a.id, .string a.name, .int .i64 a.rights, .int .i64 a.frm, .int .i64 a.til, .int .i64 a.stands], .agg #[.int .i64 b.id, .string b.name, .int .i64 b.rights, .int .i64 b.frm, .int .i64 b.til, .int .i64 b.stands]] w fun e w' => e = .returned (.bool (decide (a = b))) ∧ Below w.heap.size w w' := by
  obtain ⟨a0, a1, a2, a3, a4, a5⟩ := a
  obtain ⟨b0, b1, b2, b3, b4, b5⟩ := b
  by_cases h0 : a0 = b0
  · subst h0
    by_cases h1 : a1 = b1
    · subst h1
      by_cases h2 : a2 = b2
      · subst h2
        by_cases h3 : a3 = b3
        · subst h3
          by_cases h4 : a4 = b4
          · subst h4
            by_cases h5 : a5 = b5
            · subst h5
              go_enter Try.func50, Try.ntmps50
              go_wp2_with fail
              go_ret
              exact ⟨ret_bool (by simp), below_al (below_al (Below.refl _ _) _) _⟩
            · have e1 : (a5 != b5) = true := by simp [h5]
              have e10 : (a0 != a0) = false := by simp
              have e12 : (a2 != a2) = false := by simp
              have e13 : (a3 != a3) = false := by simp
              have e14 : (a4 != a4) = false := by simp
              go_enter Try.func50, Try.ntmps50
              go_wp2_with fail
              go_ret
              exact ⟨ret_bool (by simp [h5]), below_al (below_al (Below.refl _ _) _) _⟩
          · have e1 : (a4 != b4) = true := by simp [h4]
            have e10 : (a0 != a0) = false := by simp
            have e12 : (a2 != a2) = false := by simp
            have e13 : (a3 != a3) = false := by simp
            go_enter Try.func50, Try.ntmps50
            go_wp2_with fail
            go_ret
            exact ⟨ret_bool (by simp [h4]), below_al (below_al (Below.refl _ _) _) _⟩
        · have e1 : (a3 != b3) = true := by simp [h3]
          have e10 : (a0 != a0) = false := by simp
          have e12 : (a2 != a2) = false := by simp
          go_enter Try.func50, Try.ntmps50
          go_wp2_with fail
          go_ret
          exact ⟨ret_bool (by simp [h3]), below_al (below_al (Below.refl _ _) _) _⟩
      · have e1 : (a2 != b2) = true := by simp [h2]
        have e10 : (a0 != a0) = false := by simp
        go_enter Try.func50, Try.ntmps50
        go_wp2_with fail
        go_ret
        exact ⟨ret_bool (by simp [h2]), below_al (below_al (Below.refl _ _) _) _⟩
    · have e1 : (a1.toList == b1.toList) = false := beq_bytes_ne h1
      have e10 : (a0 != a0) = false := by simp
      go_enter Try.func50, Try.ntmps50
      go_wp2_with fail
      go_ret
      exact ⟨ret_bool (by simp [h1]), below_al (below_al (Below.refl _ _) _) _⟩
  · have e1 : (a0 != b0) = true := by simp [h0]
    go_enter Try.func50, Try.ntmps50
    go_wp2_with fail
    go_ret
    exact ⟨ret_bool (by simp [h0]), below_al (below_al (Below.refl _ _) _) _⟩

set_option maxHeartbeats 1000000 in
theorem eqCkS_any (v1 v2 : Value) (xs ys : List Ck) (w : World) (h1 : RowR 6 rCk w v1 xs) (h2 : RowR 6 rCk w v2 ys) :
    Calls Try.prog 21 #[v1, v2] w fun e w' => e = .returned (.bool (decide (xs = ys))) ∧ Below w.heap.size w w' := by
  have hx := h1.cap
  have hy := h2.cap
  obtain ⟨a1, c1, rfl, hl1, hm1, r1⟩ := h1
  obtain ⟨a2, c2, rfl, hl2, hm2, r2⟩ := h2
  by_cases hlen : xs.length = ys.length
  · have hLen := Lib.hid hlen
    have hne : (((xs.length : Nat) : Int) != (xs.length : Int)) = false := by simp
    rw [← hlen]
    clear hlen
    have R1 := Lib.hid r1
    have R2 := Lib.hid r2
    clear r1 r2
    go_enter Try.func21, Try.ntmps21
    go_wp2
    go_loopw [5] (fun i wr => ∃ k : Nat, k ≤ xs.length ∧ i = .int .i64 k ∧ (∀ j (h : j < k) (h1 : j < xs.length) (h2 : j < ys.length), xs[j] = ys[j]) ∧ Below w.heap.size w wr) (fun i _ => xs.length - (intOf i).toNat)
    case atStart => exact ⟨0, Nat.zero_le _, rfl, fun j h => by omega, Below.refl _ _⟩
    case round =>
      obtain ⟨k, hk, rfl, hj, hb⟩ := hrel
      have HJ := Lib.hid hj
      clear hj
      by_cases hlt : k < xs.length
      · obtain ⟨b1, o1, hb1, rfl, e1⟩ := R1.out.resolve_left (fun e => by rw [e] at hlt; simp at hlt)
        obtain ⟨b2, o2, hb2, rfl, e2⟩ := R2.out.resolve_left (fun e => by have := hLen.out; rw [e] at this; simp at this; rw [this] at hlt; simp at hlt)
        obtain ⟨⟨x0, x1, x2, x3, x4, x5⟩, hx⟩ : ∃ s, xs[k] = s := ⟨_, rfl⟩
        obtain ⟨⟨y0, y1, y2, y3, y4, y5⟩, hy⟩ : ∃ s, ys[k]'(by have := hLen.out; omega) = s := ⟨_, rfl⟩
        obtain ⟨cs1, hcl1, hcs1, hre1⟩ := e1 k hlt
        obtain ⟨cs2, hcl2, hcs2, hre2⟩ := e2 k (by have := hLen.out; omega)
        rw [hx] at hre1
        rw [hy] at hre2
        obtain ⟨rfl, hok1⟩ := hre1
        obtain ⟨rfl, hok2⟩ := hre2
        have fa0 := (hb.cell (p := ⟨b1, o1 + k * 6, none⟩) hb1).trans (hcs1 0 (by simp only [ckC, List.length_cons, List.length_nil]; omega))
        have fa1 := (hb.cell (p := ⟨b1, o1 + k * 6 + 1, none⟩) hb1).trans (hcs1 1 (by simp only [ckC, List.length_cons, List.length_nil]; omega))
        have fa2 := (hb.cell (p := ⟨b1, o1 + k * 6 + 2, none⟩) hb1).trans (hcs1 2 (by simp only [ckC, List.length_cons, List.length_nil]; omega))
        have fa3 := (hb.cell (p := ⟨b1, o1 + k * 6 + 3, none⟩) hb1).trans (hcs1 3 (by simp only [ckC, List.length_cons, List.length_nil]; omega))
        have fa4 := (hb.cell (p := ⟨b1, o1 + k * 6 + 4, none⟩) hb1).trans (hcs1 4 (by simp only [ckC, List.length_cons, List.length_nil]; omega))
        have fa5 := (hb.cell (p := ⟨b1, o1 + k * 6 + 5, none⟩) hb1).trans (hcs1 5 (by simp only [ckC, List.length_cons, List.length_nil]; omega))
        have fb0 := (hb.cell (p := ⟨b2, o2 + k * 6, none⟩) hb2).trans (hcs2 0 (by simp only [ckC, List.length_cons, List.length_nil]; omega))
        have fb1 := (hb.cell (p := ⟨b2, o2 + k * 6 + 1, none⟩) hb2).trans (hcs2 1 (by simp only [ckC, List.length_cons, List.length_nil]; omega))
        have fb2 := (hb.cell (p := ⟨b2, o2 + k * 6 + 2, none⟩) hb2).trans (hcs2 2 (by simp only [ckC, List.length_cons, List.length_nil]; omega))
        have fb3 := (hb.cell (p := ⟨b2, o2 + k * 6 + 3, none⟩) hb2).trans (hcs2 3 (by simp only [ckC, List.length_cons, List.length_nil]; omega))
        have fb4 := (hb.cell (p := ⟨b2, o2 + k * 6 + 4, none⟩) hb2).trans (hcs2 4 (by simp only [ckC, List.length_cons, List.length_nil]; omega))
        have fb5 := (hb.cell (p := ⟨b2, o2 + k * 6 + 5, none⟩) hb2).trans (hcs2 5 (by simp only [ckC, List.length_cons, List.length_nil]; omega))
        simp [ckC] at fa0 fa1 fa2 fa3 fa4 fa5 fb0 fb1 fb2 fb3 fb4 fb5
        have HX := Lib.hid hx
        have HY := Lib.hid hy
        have hsz := hb.size
        have hb1' : b1 < wr.heap.size := by omega
        have hb2' : b2 < wr.heap.size := by omega
        have g0 : (0 : Int) ≤ (k : Int) := by omega
        have g1 : (k : Int) < (xs.length : Int) := by omega
        clear hcs1 hcs2 hcl1 hcl2 e1 e2 hx hy R1 R2 hok1 hok2
        obtain ⟨bb, hbb⟩ : ∃ bb, decide ((⟨x0, x1, x2, x3, x4, x5⟩ : Ck) = ⟨y0, y1, y2, y3, y4, y5⟩) = bb := ⟨_, rfl⟩
        have hcall : ∀ W : World, Calls Try.prog 50 #[.agg #[.int .i64 x0, .string x1, .int .i64 x2, .int .i64 x3, .int .i64 x4, .int .i64 x5], .agg #[.int .i64 y0, .string y1, .int .i64 y2, .int .i64 y3, .int .i64 y4, .int .i64 y5]] W fun e w' => e = .returned (.bool bb) ∧ Below W.heap.size W w' := fun W => by
          have := eqCk_any ⟨x0, x1, x2, x3, x4, x5⟩ ⟨y0, y1, y2, y3, y4, y5⟩ W
          rwa [hbb] at this
        have HB := Lib.hid hbb
        clear hbb
        go_wp2_with fail
        go_region_held3 (fun w' => w'.cell? ⟨b1, o1 + k * 6, none⟩ = some (.int .i64 x0) ∧ w'.cell? ⟨b1, o1 + k * 6 + 1, none⟩ = some (.string x1) ∧ w'.cell? ⟨b1, o1 + k * 6 + 2, none⟩ = some (.int .i64 x2) ∧ w'.cell? ⟨b1, o1 + k * 6 + 3, none⟩ = some (.int .i64 x3) ∧ w'.cell? ⟨b1, o1 + k * 6 + 4, none⟩ = some (.int .i64 x4) ∧ w'.cell? ⟨b1, o1 + k * 6 + 5, none⟩ = some (.int .i64 x5) ∧ w'.cell? ⟨b2, o2 + k * 6, none⟩ = some (.int .i64 y0) ∧ w'.cell? ⟨b2, o2 + k * 6 + 1, none⟩ = some (.string y1) ∧ w'.cell? ⟨b2, o2 + k * 6 + 2, none⟩ = some (.int .i64 y2) ∧ w'.cell? ⟨b2, o2 + k * 6 + 3, none⟩ = some (.int .i64 y3) ∧ w'.cell? ⟨b2, o2 + k * 6 + 4, none⟩ = some (.int .i64 y4) ∧ w'.cell? ⟨b2, o2 + k * 6 + 5, none⟩ = some (.int .i64 y5)) (first | go_keep | (refine ⟨?_, ?_, ?_, ?_, ?_, ?_, ?_, ?_, ?_, ?_, ?_, ?_⟩ <;> (rw [hb'.cell (by simp; omega)]; assumption)))
          (first | (go_at_call 50; refine (hcall _).mono ?_; rintro e w' ⟨rfl, hb'⟩))
        cases bb
        · go_wp2
          go_ret
          refine ⟨ret_bool (Eq.symm (decide_eq_false fun e => ?_)), hb.drew.trans (hb'.mono hsz)⟩
          have h1 := of_decide_eq_false HB.out
          subst e
          exact h1 (HX.out.symm.trans HY.out)
        · go_wp2
          go_roundw
          case rel =>
            exact ⟨k + 1, by omega, by go_num, fun j h a b => (by
              rcases Nat.lt_or_ge j k with h' | h'
              · exact HJ.out j h' a b
              · obtain rfl : j = k := by omega
                exact (HX.out.trans (of_decide_eq_true HB.out)).trans HY.out.symm), hb.drew.trans (hb'.mono hsz)⟩
          case measure => simp [intOf]; omega
      · go_wp2
        go_ret
        refine ⟨ret_bool (Eq.symm (decide_eq_true ?_)), hb⟩
        exact List.ext_getElem hLen.out fun i a b => HJ.out i (by omega) a b
  · have hne : (((xs.length : Nat) : Int) != (ys.length : Int)) = true := by simp; omega
    rw [decide_eq_false (fun e => hlen (by rw [e]))]
    go_enter Try.func21, Try.ntmps21
    go_wp2
    go_ret
    exact ⟨rfl, Below.refl _ _⟩
end Go.Proofs.Ytdlbmoeogdjnkaa
