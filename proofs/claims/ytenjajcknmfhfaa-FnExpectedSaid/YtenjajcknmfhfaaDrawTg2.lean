/- The draws of triggers, and of what is asked of them. -/
import Derived.Test.YtenjajcknmfhfaaDrawTg
namespace Go.Proofs.Ytenjajcknmfhfaa
set_option linter.unusedVariables false
open Go.RowKit

theorem Dk.belowT {w w1 : World} {ob : Obj} {K : Nat} (h : Dk (w.alloc ob) w1 w.heap.size K) : Below w.heap.size w w1 :=
  ((Below.refl w.heap.size w).alloc (Nat.le_refl _) ob).trans (below_of_cur h.gr (by simp))
/-- Triggers that are drawn. -/
def TgIs (w w' : World) (v : Value) (t : List Tg) : Prop := t.length ≤ 12 ∧ RowR 3 rTg w' v t ∧ Below w.heap.size w w'
def TgDraw (w : World) (e : Ending) (w' : World) : Prop := ∃ v t, e = .returned v ∧ TgIs w w' v t
def TgDraw1 (w : World) (e : Ending) (w' : World) : Prop := ∃ v t n, e = .returned (.tuple #[v, .int .i64 n]) ∧ inI n ∧ TgIs w w' v t
set_option maxRecDepth 20000 in
set_option maxHeartbeats 4000000 in
theorem drawAreTg_any (a : Option Addr) (len cap : Nat) (zs : List Int) (w : World) (h : IsRow .u8 w a len cap zs) (hl : len ≤ 1099511627776) :
    Calls Try.prog 69 #[.slice a len cap] w (TgDraw w) := by
  have HC := Lib.hid (cur_new h hl 104)
  clear h
  go_enter Try.func69, Try.ntmps69
  go_wp2_with fail
  refine (triggers_any w.heap.size 0 _ HC.out (by omega)).mono ?_
  rintro e w1 ⟨v, t, rfl, htl, ho, hd⟩
  have HD := Lib.hid hd
  have HO := Lib.hid ho
  clear hd ho HC
  go_wp2_with fail
  go_ret
  exact ⟨v, t, rfl, htl, HO.out.row, HD.out.belowT⟩
set_option maxRecDepth 20000 in
set_option maxHeartbeats 4000000 in
theorem drawFirstCycle_any (a : Option Addr) (len cap : Nat) (zs : List Int) (w : World) (h : IsRow .u8 w a len cap zs) (hl : len ≤ 1099511627776) :
    Calls Try.prog 8 #[.slice a len cap] w (TgDraw w) := by
  have H := Lib.hid h
  clear h
  go_enter Try.func8, Try.ntmps8
  go_wp2_with (first | (go_at_call 69; refine (drawAreTg_any a len cap zs _ H.out hl).mono ?_; rintro e w1 ⟨v, t, rfl, ht⟩))
  go_ret
  exact ⟨v, t, rfl, ht⟩
set_option maxRecDepth 20000 in
set_option maxHeartbeats 4000000 in
theorem drawDropTg_any (a : Option Addr) (len cap : Nat) (zs : List Int) (w : World) (h : IsRow .u8 w a len cap zs) (hl : len ≤ 1099511627776) :
    Calls Try.prog 16 #[.slice a len cap] w (TgDraw1 w) := by
  have HC := Lib.hid (cur_new h hl 104)
  clear h
  go_enter Try.func16, Try.ntmps16
  go_wp2_with fail
  refine (triggers_any w.heap.size 0 _ HC.out (by omega)).mono ?_
  rintro e w1 ⟨v, t, rfl, htl, ho, hd⟩
  have HD := Lib.hid hd
  have HO := Lib.hid ho
  clear hd ho HC
  go_wp2_with fail
  refine (amongZ_any w.heap.size 400 w1.heap.size 0 8 8 [0, 1, 2, 3, 6, 9, 10, -1] _ (HD.out.al (.cells (([0, 1, 2, 3, 6, 9, 10, -1] : List Int).map (Value.int .i64)).toArray 3)).cur (by omega) rfl (by omega) (by omega) (by have := HD.out.cur.lt; omega) (new_nums w1 [0, 1, 2, 3, 6, 9, 10, -1] 3 _ rfl)).mono ?_
  rintro e w1 ⟨n, rfl, mn, hc, hg⟩
  have i_n : inI n := by simp at mn; unfold inI; omega
  have HD2 := Lib.hid ((HD.out.al (.cells (([0, 1, 2, 3, 6, 9, 10, -1] : List Int).map (Value.int .i64)).toArray 3)).step hc hg)
  have HO_2 := Lib.hid (((HO.out.alloc (.cells (([0, 1, 2, 3, 6, 9, 10, -1] : List Int).map (Value.int .i64)).toArray 3)).grown hg (by simp; try omega)).wide (Nat.le_refl _) (Nat.le_trans (by simp) hg.size))
  clear hc hg HD HO mn
  go_wp2_with fail
  go_ret2
  exact ⟨v, t, n, rfl, i_n, htl, HO_2.out.row, HD2.out.belowT⟩
set_option maxRecDepth 20000 in
set_option maxHeartbeats 4000000 in
theorem drawExpDay_any (a : Option Addr) (len cap : Nat) (zs : List Int) (w : World) (h : IsRow .u8 w a len cap zs) (hl : len ≤ 1099511627776) :
    Calls Try.prog 27 #[.slice a len cap] w (TgDraw1 w) := by
  have HC := Lib.hid (cur_new h hl 104)
  clear h
  go_enter Try.func27, Try.ntmps27
  go_wp2_with fail
  refine (triggers_any w.heap.size 0 _ HC.out (by omega)).mono ?_
  rintro e w1 ⟨v, t, rfl, htl, ho, hd⟩
  have HD := Lib.hid hd
  have HO := Lib.hid ho
  clear hd ho HC
  obtain ⟨va, vc, hv⟩ := HO.out.lenS
  subst hv
  by_cases h0 : 0 < t.length
  · have d0 : decide ((0 : Int) < (t.length : Int)) = true := decide_eq_true (by omega)
    have d1 : decide (0 < t.length) = true := decide_eq_true h0
    go_wp2_with fail
    refine (one_any w.heap.size 400 4 _ HD.out.cur (by omega) (by omega) (by omega)).mono ?_
    rintro e w3 ⟨b, rfl, hc, hg⟩
    have HD4 := Lib.hid (HD.out.step hc hg)
    have HO_4 := Lib.hid ((HO.out.grown hg (by simp; try omega)).wide (Nat.le_refl _) hg.size)
    clear hc hg HD HO
    cases b
    · have lw := HD4.out.cur.lt
      have hcP := pick_any w.heap.size 402 t.length _ HD4.out.drew.cur (by omega) (by omega) (by omega)
      have HOd : Hid (TgsO (w.alloc (.cells #[.slice a len cap, .int .i64 0, .int .u64 0] 104)).heap.size w3.drew.heap.size w3.drew (.slice va t.length vc) t) := HO_4
      have HDd := Lib.hid HD4.out.drew
      go_upto_region 4 with fail
      go_region_with (first | (go_at_call 81; refine hcP.mono ?_; rintro e w9 ⟨r, rfl, hr0, hr1, hc, hg⟩; obtain ⟨j, rfl⟩ := Int.eq_ofNat_of_zero_le hr0; have HD9 := Lib.hid (HDd.out.step hc hg); have HO9 := Lib.hid ((HOd.out.grown hg (by simp)).wide (Nat.le_refl _) hg.size); have hj : j < t.length := (by omega); obtain ⟨a2, c2, e2, _, hm2, r2⟩ := HO9.out.row.tgs; obtain ⟨bx, ox, hbx, had, e1⟩ := r2.resolve_left (fun e => by rw [e] at hj; simp at hj); obtain ⟨q0, _, _, hok⟩ := e1 j hj; obtain ⟨qv, hqv⟩ := (⟨_, rfl⟩ : ∃ q, (t.getD j tgD).ev = q); have hok1 := hok.1; rw [hqv] at q0 hok1; have HOK := Lib.hid hok1; simp only [Value.slice.injEq, true_and] at e2; obtain ⟨rfl, rfl⟩ := e2; subst had; have g0 : (0 : Int) ≤ (j : Int) := (by omega); have g1 : (j : Int) < (t.length : Int) := (by omega); clear hc hg e1 hok hok1 hqv hm2))
      all_goals
        go_wp2_with fail
        go_ret2
        exact ⟨_, t, qv, rfl, HOK.out, htl, HO9.out.row, HD9.out.belowT⟩
    · go_wp2_with fail
      refine (amongZ_any w.heap.size 402 w3.heap.size 0 5 5 [0, 1, 9, 10, -1] _ (HD4.out.al (.cells (([0, 1, 9, 10, -1] : List Int).map (Value.int .i64)).toArray 3)).cur (by omega) rfl (by omega) (by omega) (by have := HD4.out.cur.lt; omega) (new_nums w3 [0, 1, 9, 10, -1] 3 _ rfl)).mono ?_
      rintro e w5 ⟨n, rfl, mn, hc, hg⟩
      have i_n : inI n := by simp at mn; unfold inI; omega
      have HD6 := Lib.hid ((HD4.out.al (.cells (([0, 1, 9, 10, -1] : List Int).map (Value.int .i64)).toArray 3)).step hc hg)
      have HO_6 := Lib.hid (((HO_4.out.alloc (.cells (([0, 1, 9, 10, -1] : List Int).map (Value.int .i64)).toArray 3)).grown hg (by simp; try omega)).wide (Nat.le_refl _) (Nat.le_trans (by simp) hg.size))
      clear hc hg HD4 HO_4 mn
      go_wp2_with fail
      go_ret2
      exact ⟨_, t, n, rfl, i_n, htl, HO_6.out.row, HD6.out.belowT⟩
  · have d0 : decide ((0 : Int) < (t.length : Int)) = false := decide_eq_false (by omega)
    have d1 : decide (0 < t.length) = false := decide_eq_false h0
    have H0 := Lib.hid h0
    clear h0
    go_wp2_with fail
    refine (amongZ_any w.heap.size 400 w1.heap.size 0 5 5 [0, 1, 9, 10, -1] _ (HD.out.al (.cells (([0, 1, 9, 10, -1] : List Int).map (Value.int .i64)).toArray 3)).cur (by omega) rfl (by omega) (by omega) (by have := HD.out.cur.lt; omega) (new_nums w1 [0, 1, 9, 10, -1] 3 _ rfl)).mono ?_
    rintro e w7 ⟨n, rfl, mn, hc, hg⟩
    have i_n : inI n := by simp at mn; unfold inI; omega
    have HD8 := Lib.hid ((HD.out.al (.cells (([0, 1, 9, 10, -1] : List Int).map (Value.int .i64)).toArray 3)).step hc hg)
    have HO_8 := Lib.hid (((HO.out.alloc (.cells (([0, 1, 9, 10, -1] : List Int).map (Value.int .i64)).toArray 3)).grown hg (by simp; try omega)).wide (Nat.le_refl _) (Nat.le_trans (by simp) hg.size))
    clear hc hg HD HO mn
    go_wp2_with fail
    go_ret2
    exact ⟨_, t, n, rfl, i_n, htl, HO_8.out.row, HD8.out.belowT⟩
end Go.Proofs.Ytenjajcknmfhfaa
