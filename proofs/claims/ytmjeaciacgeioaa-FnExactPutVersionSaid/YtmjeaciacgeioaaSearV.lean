/- The place of a version by its first day, by halving. -/
import Derived.Test.YtmjeaciacgeioaaSearch
import Derived.Test.YtmjeaciacgeioaaTyVe
namespace Go.Proofs.Ytmjeaciacgeioaa
set_option linter.unusedVariables false
open Go.RowKit Go.Sort

theorem byFrm_any (x : Int) (s : Value) (k : Int) (w : World) : Calls Try.prog 97 #[.agg #[.int .i64 x, s], .int .i64 k] w fun en w' => en = .returned (.int .i64 (cmpI x k)) ∧ Below w.heap.size w w' := by
  go_enter Try.func97, Try.ntmps97
  go_wp2_with (first | (go_at_call 98; refine (compare_any _ _ _).mono ?_; rintro e w' ⟨rfl, rfl⟩))
  go_ret
  exact ⟨rfl, below_al (Below.refl _ _) _⟩

set_option maxHeartbeats 2000000 in
theorem searchVe_any (v : Value) (xs : List Ve) (k : Int) (w : World) (h : RowR 2 rVe w v xs) (hs : ∀ j i, j < i → i < xs.length → (xs.getD j veD).frm < (xs.getD i veD).frm) (hk : inI k) (hn : xs.length ≤ 1099511627776) :
    Calls Try.prog 96 #[v, .int .i64 k, .func (.func 97) #[] #[]] w fun e w' =>
      ∃ p : Nat, e = .returned (.tuple #[.int .i64 (p : Nat), .bool (decide (p < xs.length) && decide ((xs.getD p veD).frm = k))]) ∧ p ≤ xs.length ∧ (∀ j, j < p → (xs.getD j veD).frm < k) ∧ (∀ j, p ≤ j → j < xs.length → k ≤ (xs.getD j veD).frm) ∧ Below w.heap.size w w' := by
  obtain ⟨a1, c1, rfl, hl1, hm1, r1⟩ := h.ves
  have R1 := Lib.hid r1
  have HS := Lib.hid hs
  clear h r1 hs
  unfold maxLen at hm1
  go_enter Try.func96, Try.ntmps96
  go_wp2_with fail
  go_loopw [9, 10] (fun s9 s10 wr => ∃ lo hi : Nat, s9 = .int .i64 lo ∧ s10 = .int .i64 hi ∧ lo ≤ hi ∧ hi ≤ xs.length ∧ Below w.heap.size w wr ∧
    Hid ((∀ t, t < lo → (xs.getD t veD).frm < k) ∧ (∀ t, hi ≤ t → t < xs.length → k ≤ (xs.getD t veD).frm))) (fun i j _ => (intOf j).toNat - (intOf i).toNat)
  case atStart => exact ⟨0, xs.length, rfl, rfl, Nat.zero_le _, Nat.le_refl _, Below.refl _ _, Lib.hid ⟨fun t ht => absurd ht (Nat.not_lt_zero _), fun t h1 h2 => by omega⟩⟩
  case round =>
    obtain ⟨lo, hi, rfl, rfl, hlh, hin, hb, I⟩ := hrel
    by_cases hlt : lo < hi
    · obtain ⟨b1, o1, hb1, rfl, e1⟩ := R1.out.resolve_left (fun e => by rw [e] at hin; simp at hin; omega)
      obtain ⟨⟨x, y⟩, hx⟩ : ∃ s, xs.getD ((lo + hi) / 2) veD = s := ⟨_, rfl⟩
      obtain ⟨sv, q1, q2, _, hok⟩ := e1 ((lo + hi) / 2) (by omega)
      rw [hx] at q1
      have f1 := cell_kept q1 hb
      have f2 := cell_kept q2 hb
      have HX := Lib.hid hx
      clear q1 q2 hx e1 hok
      have hw := hb.size
      have hcall := fun W => byFrm_any x sv k W
      by_cases hyx : x < k
      · have hv : cmpI x k = -1 := by unfold cmpI; rw [if_pos hyx]
        rw [hv] at hcall
        clear hv
        go_wp2_with (first | (go_at_call 97; refine (hcall _).mono ?_; rintro e w' ⟨rfl, bq⟩))
        go_roundw
        case rel =>
          have I2 : (∀ t, t < (lo + hi) / 2 + 1 → (xs.getD t veD).frm < k) ∧ (∀ t, hi ≤ t → t < xs.length → k ≤ (xs.getD t veD).frm) := by
            refine ⟨fun t ht => ?_, I.out.2⟩
            rcases Nat.lt_or_ge t ((lo + hi) / 2) with h' | h'
            · have := HS.out t ((lo + hi) / 2) h' (by omega)
              rw [HX.out] at this
              simp only at this
              omega
            · obtain rfl : t = (lo + hi) / 2 := by omega
              rw [HX.out]
              exact hyx
          exact ⟨(lo + hi) / 2 + 1, hi, by rw [show ((lo : Int) + (hi : Int)) / 2 + 1 = (((lo + hi) / 2 + 1 : Nat) : Int) by omega], rfl, by omega, hin, hb.trans (bq.mono hw), Lib.hid I2⟩
        case measure => simp [intOf]; omega
      · obtain ⟨c, hv, hc⟩ : ∃ c, cmpI x k = c ∧ 0 ≤ c := ⟨_, rfl, cmpI_ge hyx⟩
        rw [hv] at hcall
        clear hv
        go_wp2_with (first | (go_at_call 97; refine (hcall _).mono ?_; rintro e w' ⟨rfl, bq⟩))
        go_roundw
        case rel =>
          have I2 : (∀ t, t < lo → (xs.getD t veD).frm < k) ∧ (∀ t, (lo + hi) / 2 ≤ t → t < xs.length → k ≤ (xs.getD t veD).frm) := by
            refine ⟨I.out.1, fun t ht htn => ?_⟩
            rcases Nat.lt_or_ge ((lo + hi) / 2) t with h' | h'
            · have := HS.out ((lo + hi) / 2) t h' htn
              rw [HX.out] at this
              simp only at this
              omega
            · obtain rfl : t = (lo + hi) / 2 := by omega
              rw [HX.out]
              simp only
              omega
          exact ⟨lo, (lo + hi) / 2, rfl, by rw [show ((lo : Int) + (hi : Int)) / 2 = (((lo + hi) / 2 : Nat) : Int) by omega], by omega, by omega, hb.trans (bq.mono hw), Lib.hid I2⟩
        case measure => simp [intOf]; omega
    · obtain rfl : hi = lo := by omega
      by_cases hn : hi < xs.length
      · obtain ⟨b1, o1, hb1, rfl, e1⟩ := R1.out.resolve_left (fun e => by rw [e] at hn; simp at hn)
        obtain ⟨⟨x, y⟩, hx⟩ : ∃ s, xs.getD hi veD = s := ⟨_, rfl⟩
        obtain ⟨sv, q1, q2, _, hok⟩ := e1 hi hn
        rw [hx] at q1
        have f1 := cell_kept q1 hb
        have f2 := cell_kept q2 hb
        have HX := Lib.hid hx
        clear q1 q2 hx e1 hok
        have hw := hb.size
        have g0 : (0 : Int) ≤ (hi : Int) := by omega
        have g1 : (hi : Int) < (xs.length : Int) := by omega
        have hcall := fun W => byFrm_any x sv k W
        by_cases hyx : x = k
        · have hv : cmpI x k = 0 := by unfold cmpI; rw [if_neg (by omega), if_neg (by omega)]
          rw [hv] at hcall
          clear hv
          have HYX := Lib.hid hyx
          clear hyx
          go_wp2_with (first | (go_at_call 97; refine (hcall _).mono ?_; rintro e w' ⟨rfl, bq⟩))
          go_ret2
          exact ⟨hi, by rw [HX.out, decide_eq_true hn, decide_eq_true HYX.out]; rfl, hin, I.out.1, I.out.2, hb.trans (bq.mono hw)⟩
        · obtain ⟨c, hv, hc⟩ : ∃ c, cmpI x k = c ∧ c ≠ 0 := ⟨_, rfl, cmpI_ne hyx⟩
          rw [hv] at hcall
          clear hv
          have hc' : (c == 0) = false := by simp [hc]
          go_wp2_with (first | (go_at_call 97; refine (hcall _).mono ?_; rintro e w' ⟨rfl, bq⟩))
          go_ret2
          exact ⟨hi, by rw [HX.out, decide_eq_true hn, decide_eq_false hyx]; simp, hin, I.out.1, I.out.2, hb.trans (bq.mono hw)⟩
      · go_wp2_with fail
        go_ret2
        exact ⟨hi, by rw [decide_eq_false hn]; rfl, hin, I.out.1, I.out.2, hb⟩

theorem placeOfVersion_any (v : Value) (xs : List Ve) (k : Int) (w : World) (h : RowR 2 rVe w v xs) (hs : ∀ j i, j < i → i < xs.length → (xs.getD j veD).frm < (xs.getD i veD).frm) (hk : inI k) (hn : xs.length ≤ 1099511627776) :
    Calls Try.prog 52 #[v, .int .i64 k] w fun e w' => ∃ p : Nat, e = .returned (.tuple #[.int .i64 (p : Nat), .bool (decide (p < xs.length) && decide ((xs.getD p veD).frm = k))]) ∧ p ≤ xs.length ∧ (∀ j, j < p → (xs.getD j veD).frm < k) ∧ (∀ j, p ≤ j → j < xs.length → k ≤ (xs.getD j veD).frm) ∧ Below w.heap.size w w' := by
  have H := Lib.hid h
  have HS := Lib.hid hs
  clear h hs
  go_enter Try.func52, Try.ntmps52
  go_wp2_with fail
  refine (searchVe_any _ xs k _ H.out HS.out hk hn).mono ?_
  rintro e w' ⟨p, rfl, h1, h2, h3, bq⟩
  go_wp2_with fail
  go_ret2
  exact ⟨p, rfl, h1, h2, h3, bq⟩
end Go.Proofs.Ytmjeaciacgeioaa
