/- The draw of triggers, a schedule and a series. -/
import Derived.Test.YtenjajcknmfhfaaDrawTg3
import Derived.OwnWalk
namespace Go.Proofs.Ytenjajcknmfhfaa
set_option linter.unusedVariables false
open Go.RowKit

theorem RusO.lenS {lo hi : Nat} {w : World} {v : Value} {t : List Ru} (h : RusO lo hi w v t) : ∃ a c, v = .slice a t.length c := by
  obtain ⟨a, c, h1, _⟩ := h.row
  exact ⟨a, c, h1⟩
def EduDraw (w : World) (e : Ending) (w' : World) : Prop := ∃ v1 v2 t s n, e = .returned (.tuple #[v1, v2, .int .i64 n]) ∧ inI n ∧ t.length ≤ 12 ∧ s.length ≤ 16 ∧ RowR 3 rTg w' v1 t ∧ RowR 4 rRu w' v2 s ∧ Below w.heap.size w w'
set_option maxRecDepth 20000 in
set_option maxHeartbeats 4000000 in
theorem drawExpDue_any (a : Option Addr) (len cap : Nat) (zs : List Int) (w : World) (h : IsRow .u8 w a len cap zs) (hl : len ≤ 1099511627776) :
    Calls Try.prog 30 #[.slice a len cap] w (EduDraw w) := by
  have HC := Lib.hid (cur_new h hl 104)
  clear h
  go_enter Try.func30, Try.ntmps30
  go_wp2_with fail
  refine (triggers_any w.heap.size 0 _ HC.out (by omega)).mono ?_
  rintro e w1 ⟨v, t, rfl, htl, ho, hd⟩
  have HD0 := Lib.hid hd
  have hw1 : w.heap.size < w1.heap.size := hd.cur.lt
  have HO0 := Lib.hid ho
  clear hd ho HC
  go_wp2_with fail
  refine (schedule_any w.heap.size 400 _ HD0.out.cur (by omega)).mono ?_
  rintro e w2 ⟨vs, s, rfl, hsl, hs, hc, hg⟩
  have HD := Lib.hid (HD0.out.step hc hg)
  have HO := Lib.hid ((HO0.out.grown hg (by simp)).wide (Nat.le_refl _) hg.size)
  have HS := Lib.hid hs
  clear hc hg hs HD0 HO0
  obtain ⟨va, vc, hv⟩ := HS.out.lenS
  subst hv
  by_cases h0 : 0 < s.length
  · have d0 : decide ((0 : Int) < (s.length : Int)) = true := decide_eq_true (by omega)
    have d1 : decide (0 < s.length) = true := decide_eq_true h0
    go_wp2_with fail
    refine (one_any w.heap.size 800 6 _ HD.out.cur (by omega) (by omega) (by omega)).mono ?_
    rintro e w9 ⟨b, rfl, hc, hg⟩
    have HD10 := Lib.hid (HD.out.step hc hg)
    have HO_10 := Lib.hid ((HO.out.grown hg (by first | (simp; done) | omega | (simp; omega))).wide (Nat.le_refl _) hg.size)
    have HS_10 := Lib.hid ((HS.out.grown hg (by first | (simp; done) | omega | (simp; omega))).wide (Nat.le_refl _) hg.size)
    clear hc hg HD HO HS
    cases b
    · have lw := HD10.out.cur.lt
      have hcP := pick_any w.heap.size 802 s.length _ HD10.out.drew.cur (by omega) (by omega) (by omega)
      have HTd : Hid (TgsO (w.alloc (.cells #[.slice a len cap, .int .i64 0, .int .u64 0] 104)).heap.size w9.drew.heap.size w9.drew v t) := HO_10
      have HOd : Hid (RusO w1.heap.size w9.drew.heap.size w9.drew (.slice va s.length vc) s) := HS_10
      have HDd := Lib.hid HD10.out.drew
      go_upto_region 5 with fail
      go_region_with (first | (go_at_call 81; refine hcP.mono ?_; rintro e w9 ⟨r, rfl, hr0, hr1, hc, hg⟩; obtain ⟨j, rfl⟩ := Int.eq_ofNat_of_zero_le hr0; have HD9 := Lib.hid (HDd.out.step hc hg); have HT9 := Lib.hid ((HTd.out.grown hg (by simp)).wide (Nat.le_refl _) hg.size); have HO9 := Lib.hid ((HOd.out.grown hg hw1).wide (Nat.le_refl _) hg.size); have hj : j < s.length := (by omega); obtain ⟨a2, c2, e2, _, hm2, r2⟩ := HO9.out.row.rus; obtain ⟨bx, ox, hbx, had, e1⟩ := r2.resolve_left (fun e => by rw [e] at hj; simp at hj); obtain ⟨q0, _, _, _, hok⟩ := e1 j hj; obtain ⟨qv, hqv⟩ := (⟨_, rfl⟩ : ∃ q, (s.getD j ruD).series = q); have hok1 := hok.1; rw [hqv] at q0 hok1; have HOK := Lib.hid hok1; simp only [Value.slice.injEq, true_and] at e2; obtain ⟨rfl, rfl⟩ := e2; subst had; have g0 : (0 : Int) ≤ (j : Int) := (by omega); have g1 : (j : Int) < (s.length : Int) := (by omega); clear hc hg e1 hok hok1 hqv hm2))
      all_goals
        go_wp2_with fail
        go_ret3
        exact ⟨v, _, t, s, qv, rfl, HOK.out, htl, hsl, HT9.out.row, HO9.out.row, HD9.out.belowT⟩
    · go_wp2_with fail
      refine (amongZ_any w.heap.size 802 w9.heap.size 0 4 4 [1, 3, 0, 100] _ (HD10.out.al (.cells (([1, 3, 0, 100] : List Int).map (Value.int .i64)).toArray 3)).cur (by omega) rfl (by omega) (by omega) (by have := HD10.out.cur.lt; omega) (new_nums w9 [1, 3, 0, 100] 3 _ rfl)).mono ?_
      rintro e w11 ⟨n, rfl, mn, hc, hg⟩
      have i_n : inI n := by simp at mn; unfold inI; omega
      have HD12 := Lib.hid ((HD10.out.al (.cells (([1, 3, 0, 100] : List Int).map (Value.int .i64)).toArray 3)).step hc hg)
      have HO_12 := Lib.hid (((HO_10.out.alloc (.cells (([1, 3, 0, 100] : List Int).map (Value.int .i64)).toArray 3)).grown hg (by first | (simp; done) | omega | (simp; omega))).wide (Nat.le_refl _) (Nat.le_trans (by simp) hg.size))
      have HS_12 := Lib.hid (((HS_10.out.alloc (.cells (([1, 3, 0, 100] : List Int).map (Value.int .i64)).toArray 3)).grown hg (by first | (simp; done) | omega | (simp; omega))).wide (Nat.le_refl _) (Nat.le_trans (by simp) hg.size))
      clear hc hg HD10 HO_10 HS_10 mn
      go_wp2_with fail
      go_ret3
      exact ⟨v, _, t, s, n, rfl, i_n, htl, hsl, HO_12.out.row, HS_12.out.row, HD12.out.belowT⟩
  · have d0 : decide ((0 : Int) < (s.length : Int)) = false := decide_eq_false (by omega)
    have d1 : decide (0 < s.length) = false := decide_eq_false h0
    have H0 := Lib.hid h0
    clear h0
    go_wp2_with fail
    refine (amongZ_any w.heap.size 800 w2.heap.size 0 4 4 [1, 3, 0, 100] _ (HD.out.al (.cells (([1, 3, 0, 100] : List Int).map (Value.int .i64)).toArray 3)).cur (by omega) rfl (by omega) (by omega) (by have := HD.out.cur.lt; omega) (new_nums w2 [1, 3, 0, 100] 3 _ rfl)).mono ?_
    rintro e w13 ⟨n, rfl, mn, hc, hg⟩
    have i_n : inI n := by simp at mn; unfold inI; omega
    have HD14 := Lib.hid ((HD.out.al (.cells (([1, 3, 0, 100] : List Int).map (Value.int .i64)).toArray 3)).step hc hg)
    have HO_14 := Lib.hid (((HO.out.alloc (.cells (([1, 3, 0, 100] : List Int).map (Value.int .i64)).toArray 3)).grown hg (by first | (simp; done) | omega | (simp; omega))).wide (Nat.le_refl _) (Nat.le_trans (by simp) hg.size))
    have HS_14 := Lib.hid (((HS.out.alloc (.cells (([1, 3, 0, 100] : List Int).map (Value.int .i64)).toArray 3)).grown hg (by first | (simp; done) | omega | (simp; omega))).wide (Nat.le_refl _) (Nat.le_trans (by simp) hg.size))
    clear hc hg HD HO HS mn
    go_wp2_with fail
    go_ret3
    exact ⟨v, _, t, s, n, rfl, i_n, htl, hsl, HO_14.out.row, HS_14.out.row, HD14.out.belowT⟩
end Go.Proofs.Ytenjajcknmfhfaa
