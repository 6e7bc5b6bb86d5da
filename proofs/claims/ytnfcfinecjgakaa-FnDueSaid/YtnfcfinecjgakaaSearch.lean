/- The place of a kind in ascending events, by halving. -/
import Derived.Test.YtnfcfinecjgakaaIsRec
namespace Go.Proofs.Ytnfcfinecjgakaa
set_option linter.unusedVariables false
open Go.RowKit Go.Sort

def cmpI (a b : Int) : Int := if a < b then -1 else if b < a then 1 else 0
theorem cmpI_ge {a b : Int} (h : ¬ a < b) : 0 ≤ cmpI a b := by
  unfold cmpI
  rw [if_neg h]
  split <;> omega
theorem cmpI_ne {a b : Int} (h : ¬ a = b) : cmpI a b ≠ 0 := by
  unfold cmpI
  split
  · omega
  · split <;> omega
theorem isNaN_any (a : Int) (w : World) : Calls Try.prog 153 #[.int .i64 a] w fun e w' => e = .returned (.bool false) ∧ w' = w := by
  have h : (a != a) = false := by simp
  go_enter Try.func153, Try.ntmps153
  go_wp2
  go_ret
  exact ⟨ret_bool (by simp), rfl⟩
theorem compare_any (a b : Int) (w : World) : Calls Try.prog 126 #[.int .i64 a, .int .i64 b] w fun e w' => e = .returned (.int .i64 (cmpI a b)) ∧ w' = w := by
  by_cases h1 : a < b
  · go_enter Try.func126, Try.ntmps126
    go_wp2_with (first | (go_at_call 153; refine (isNaN_any _ _).mono ?_; rintro e w' ⟨rfl, rfl⟩))
    go_ret
    exact ⟨ret_int (by unfold cmpI; rw [if_pos h1]), rfl⟩
  · by_cases h2 : b < a
    · go_enter Try.func126, Try.ntmps126
      go_wp2_with (first | (go_at_call 153; refine (isNaN_any _ _).mono ?_; rintro e w' ⟨rfl, rfl⟩))
      go_ret
      exact ⟨ret_int (by unfold cmpI; rw [if_neg (by omega), if_pos h2]), rfl⟩
    · go_enter Try.func126, Try.ntmps126
      go_wp2_with (first | (go_at_call 153; refine (isNaN_any _ _).mono ?_; rintro e w' ⟨rfl, rfl⟩))
      go_ret
      exact ⟨ret_int (by unfold cmpI; rw [if_neg (by omega), if_neg (by omega)]), rfl⟩
theorem byKind_any (e : Ev) (k : Int) (w : World) : Calls Try.prog 125 #[.agg #[.int .i64 e.kind, .int .i64 e.day], .int .i64 k] w fun en w' => en = .returned (.int .i64 (cmpI e.kind k)) ∧ Below w.heap.size w w' := by
  obtain ⟨x, y⟩ := e
  go_enter Try.func125, Try.ntmps125
  go_wp2_with (first | (go_at_call 126; refine (compare_any _ _ _).mono ?_; rintro e w' ⟨rfl, rfl⟩))
  go_ret
  exact ⟨rfl, below_al (Below.refl _ _) _⟩

set_option maxHeartbeats 2000000 in
theorem search_any (v : Value) (xs : List Ev) (k : Int) (cb : Array Value) (w : World) (h : RowR 2 rEv w v xs) (hs : ∀ j i, j < i → i < xs.length → (xs.getD j evD).kind < (xs.getD i evD).kind) (hk : inI k) (hn : xs.length ≤ 1099511627776) :
    Calls Try.prog 124 #[v, .int .i64 k, .func (.func 125) #[] #[]] w fun e w' =>
      e = .returned (.tuple #[.int .i64 (placeK xs k : Nat), .bool (foundK xs k)]) ∧ Below w.heap.size w w' := by
  obtain ⟨a1, c1, rfl, hl1, hm1, r1⟩ := h.evs
  have R1 := Lib.hid r1
  have HS := Lib.hid hs
  clear h r1 hs
  unfold maxLen at hm1
  go_enter Try.func124, Try.ntmps124
  go_wp2_with fail
  go_loopw [9, 10] (fun s9 s10 wr => ∃ lo hi : Nat, s9 = .int .i64 lo ∧ s10 = .int .i64 hi ∧ lo ≤ hi ∧ hi ≤ xs.length ∧ Below w.heap.size w wr ∧
    Hid ((∀ t, t < lo → (xs.getD t evD).kind < k) ∧ (∀ t, hi ≤ t → t < xs.length → k ≤ (xs.getD t evD).kind))) (fun i j _ => (intOf j).toNat - (intOf i).toNat)
  case atStart => exact ⟨0, xs.length, rfl, rfl, Nat.zero_le _, Nat.le_refl _, Below.refl _ _, Lib.hid ⟨fun t ht => absurd ht (Nat.not_lt_zero _), fun t h1 h2 => by omega⟩⟩
  case round =>
    obtain ⟨lo, hi, rfl, rfl, hlh, hin, hb, I⟩ := hrel
    by_cases hlt : lo < hi
    · obtain ⟨b1, o1, hb1, rfl, e1⟩ := R1.out.resolve_left (fun e => by rw [e] at hin; simp at hin; omega)
      obtain ⟨⟨x, y⟩, hx⟩ : ∃ s, xs.getD ((lo + hi) / 2) evD = s := ⟨_, rfl⟩
      obtain ⟨q1, q2, hok⟩ := e1 ((lo + hi) / 2) (by omega)
      rw [hx] at q1 q2 hok
      have f1 := cell_kept q1 hb
      have f2 := cell_kept q2 hb
      have HX := Lib.hid hx
      clear q1 q2 hx e1 hok
      have hw := hb.size
      have hcall := fun W => byKind_any ⟨x, y⟩ k W
      simp only at hcall
      by_cases hyx : x < k
      · have hv : cmpI x k = -1 := by unfold cmpI; rw [if_pos hyx]
        rw [hv] at hcall
        clear hv
        go_wp2_with (first | (go_at_call 125; refine (hcall _).mono ?_; rintro e w' ⟨rfl, bq⟩))
        go_roundw
        case rel =>
          have I2 : (∀ t, t < (lo + hi) / 2 + 1 → (xs.getD t evD).kind < k) ∧ (∀ t, hi ≤ t → t < xs.length → k ≤ (xs.getD t evD).kind) := by
            refine ⟨fun t ht => ?_, I.out.2⟩
            rcases Nat.lt_or_ge t ((lo + hi) / 2) with h' | h'
            · have := HS.out t ((lo + hi) / 2) h' (by omega)
              rw [HX.out] at this
              simp only at this
              omega
            · obtain rfl : t = (lo + hi) / 2 := by omega
              rw [HX.out]
              exact hyx
          exact ⟨(lo + hi) / 2 + 1, hi, by rw [show ((lo : Int) + (hi : Int)) / 2 + 1 = (((lo + hi) / 2 + 1 : Nat) : Int) by omega], rfl, by omega, hin, hb.trans (bq.mono hw), Lib.hid I2⟩
        case measure => simp [intOf]; omega
      · obtain ⟨c, hv, hc⟩ : ∃ c, cmpI x k = c ∧ 0 ≤ c := ⟨_, rfl, cmpI_ge hyx⟩
        rw [hv] at hcall
        clear hv
        go_wp2_with (first | (go_at_call 125; refine (hcall _).mono ?_; rintro e w' ⟨rfl, bq⟩))
        go_roundw
        case rel =>
          have I2 : (∀ t, t < lo → (xs.getD t evD).kind < k) ∧ (∀ t, (lo + hi) / 2 ≤ t → t < xs.length → k ≤ (xs.getD t evD).kind) := by
            refine ⟨I.out.1, fun t ht htn => ?_⟩
            rcases Nat.lt_or_ge ((lo + hi) / 2) t with h' | h'
            · have := HS.out ((lo + hi) / 2) t h' htn
              rw [HX.out] at this
              simp only at this
              omega
            · obtain rfl : t = (lo + hi) / 2 := by omega
              rw [HX.out]
              simp only
              omega
          exact ⟨lo, (lo + hi) / 2, rfl, by rw [show ((lo : Int) + (hi : Int)) / 2 = (((lo + hi) / 2 : Nat) : Int) by omega], by omega, by omega, hb.trans (bq.mono hw), Lib.hid I2⟩
        case measure => simp [intOf]; omega
    · obtain rfl : hi = lo := by omega
      have hp : placeK xs k = hi := placeK_is hin I.out.1 (fun h => I.out.2 hi (Nat.le_refl _) h)
      have hf : foundK xs k = (decide (hi < xs.length) && decide ((xs.getD hi evD).kind = k)) := by unfold foundK; rw [hp]
      have HP := Lib.hid hp
      have HF := Lib.hid hf
      clear hp hf
      by_cases hn : hi < xs.length
      · obtain ⟨b1, o1, hb1, rfl, e1⟩ := R1.out.resolve_left (fun e => by rw [e] at hn; simp at hn)
        obtain ⟨⟨x, y⟩, hx⟩ : ∃ s, xs.getD hi evD = s := ⟨_, rfl⟩
        obtain ⟨q1, q2, hok⟩ := e1 hi hn
        rw [hx] at q1 q2 hok
        have f1 := cell_kept q1 hb
        have f2 := cell_kept q2 hb
        have HX := Lib.hid hx
        clear q1 q2 hx e1 hok
        have hw := hb.size
        have g0 : (0 : Int) ≤ (hi : Int) := by omega
        have g1 : (hi : Int) < (xs.length : Int) := by omega
        have hcall := fun W => byKind_any ⟨x, y⟩ k W
        simp only at hcall
        by_cases hyx : x = k
        · have hv : cmpI x k = 0 := by unfold cmpI; rw [if_neg (by omega), if_neg (by omega)]
          rw [hv] at hcall
          clear hv
          have HYX := Lib.hid hyx
          clear hyx
          go_wp2_with (first | (go_at_call 125; refine (hcall _).mono ?_; rintro e w' ⟨rfl, bq⟩))
          go_ret2
          exact ⟨by rw [HP.out, HF.out, HX.out, decide_eq_true hn, decide_eq_true HYX.out]; rfl, hb.trans (bq.mono hw)⟩
        · obtain ⟨c, hv, hc⟩ : ∃ c, cmpI x k = c ∧ c ≠ 0 := ⟨_, rfl, cmpI_ne hyx⟩
          rw [hv] at hcall
          clear hv
          have hc' : (c == 0) = false := by simp [hc]
          go_wp2_with (first | (go_at_call 125; refine (hcall _).mono ?_; rintro e w' ⟨rfl, bq⟩))
          go_ret2
          exact ⟨by rw [HP.out, HF.out, HX.out, decide_eq_true hn, decide_eq_false hyx]; simp, hb.trans (bq.mono hw)⟩
      · go_wp2_with fail
        go_ret2
        exact ⟨by rw [HP.out, HF.out, decide_eq_false hn]; rfl, hb⟩

theorem placeOfKind_any (v : Value) (xs : List Ev) (k : Int) (w : World) (h : RowR 2 rEv w v xs) (hs : ∀ j i, j < i → i < xs.length → (xs.getD j evD).kind < (xs.getD i evD).kind) (hk : inI k) (hn : xs.length ≤ 1099511627776) :
    Calls Try.prog 74 #[v, .int .i64 k] w fun e w' => e = .returned (.tuple #[.int .i64 (placeK xs k : Nat), .bool (foundK xs k)]) ∧ Below w.heap.size w w' := by
  have H := Lib.hid h
  have HS := Lib.hid hs
  clear h hs
  go_enter Try.func74, Try.ntmps74
  go_wp2_with fail
  refine (search_any _ xs k #[] _ H.out HS.out hk hn).mono ?_
  rintro e w' ⟨rfl, bq⟩
  go_wp2_with fail
  go_ret2
  exact ⟨rfl, bq⟩
end Go.Proofs.Ytnfcfinecjgakaa
