/- The strongest act and the longest period of a series, the model's and the program's. -/
import Derived.Test.YtedckfbjhhabgaaRuForI
namespace Go.Proofs.Ytedckfbjhhabgaa
set_option linter.unusedVariables false
open Go.RowKit Go.Sort

theorem strRes_no {t : List Ru} {x : Int} {c : Int} {b : Bool} (h : strRes t x = (c, b)) (hn : isSch t = false ∨ (forRu t x).length = 0) : c = 0 ∧ b = false := by
  unfold strRes at h
  rw [if_neg (by rcases hn with e | e <;> simp [e])] at h
  obtain ⟨h1, h2⟩ := Prod.mk.inj h
  exact ⟨h1.symm, h2.symm⟩
theorem strRes_yes {t : List Ru} {x : Int} {c : Int} {b : Bool} (h : strRes t x = (c, b)) (h1 : isSch t = true) (h0 : 0 < (forRu t x).length) : c = minA 0 (forRu t x) ∧ b = true := by
  unfold strRes at h
  rw [if_pos ⟨h1, h0⟩] at h
  obtain ⟨h1, h2⟩ := Prod.mk.inj h
  exact ⟨h1.symm, h2.symm⟩
theorem lonRes_no {t : List Ru} {x : Int} {c : Int} {b : Bool} (h : lonRes t x = (c, b)) (hn : isSch t = false ∨ (forRu t x).length = 0) : c = 0 ∧ b = false := by
  unfold lonRes at h
  rw [if_neg (by rcases hn with e | e <;> simp [e])] at h
  obtain ⟨h1, h2⟩ := Prod.mk.inj h
  exact ⟨h1.symm, h2.symm⟩
theorem lonRes_yes {t : List Ru} {x : Int} {c : Int} {b : Bool} (h : lonRes t x = (c, b)) (h1 : isSch t = true) (h0 : 0 < (forRu t x).length) : c = maxD (forRu t x) ∧ b = true := by
  unfold lonRes at h
  rw [if_pos ⟨h1, h0⟩] at h
  obtain ⟨h1, h2⟩ := Prod.mk.inj h
  exact ⟨h1.symm, h2.symm⟩
/-- What the program's RulesFor hands on: the rules, or none where there are none. -/
theorem ruf_first {t : List Ru} {x : Int} : (rufRes t x).1 = if isSch t = true then forRu t x else [] := by
  unfold rufRes
  rcases hs : isSch t with _ | _
  · simp
  · by_cases hx : 1 ≤ x ∧ x ≤ 99
    · simp [hx]
    · simp [hx, forRu_none hs hx]


theorem l1Most_any (a b : Int) (w : World) : Calls Try.prog 76 #[.int .i64 a, .int .i64 b] w fun e w' => e = .returned (.int .i64 (max a b)) ∧ w' = w := by
  by_cases h : b < a
  · go_enter Try.func76, Try.ntmps76
    go_wp2
    go_ret
    exact ⟨ret_int (by omega), rfl⟩
  · go_enter Try.func76, Try.ntmps76
    go_wp2
    go_ret
    exact ⟨ret_int (by omega), rfl⟩

set_option maxRecDepth 20000 in
set_option maxHeartbeats 2000000 in
theorem specLongestPeriod_any (v : Value) (t : List Ru) (x : Int) (w : World) (h : RowR 4 rRu w v t) (hn : t.length ≤ 1048576) (c : Int) (b : Bool) (hres : lonRes t x = (c, b)) :
    Calls Try.prog 66 #[v, .int .i64 x] w fun e w' => e = .returned (.tuple #[.int .i64 c, .bool b]) ∧ Below w.heap.size w w' := by
  have H := Lib.hid h
  have HRES := Lib.hid hres
  have HOK := Lib.hid h.rus_ok
  obtain ⟨bs, hs⟩ : ∃ b, isSch t = b := ⟨_, rfl⟩
  obtain ⟨R, hR⟩ : ∃ R, forRu t x = R := ⟨_, rfl⟩
  have hRl : R.length ≤ t.length := by rw [← hR]; exact forRu_len t x
  have HS := Lib.hid hs
  have HR := Lib.hid hR
  clear h hres hs hR
  cases bs
  · obtain ⟨rfl, rfl⟩ := lonRes_no HRES.out (.inl HS.out)
    go_enter Try.func66, Try.ntmps66
    go_wp2_with (first | (go_at_call 56; refine (l4For_any _ t x _ H.out hn).mono ?_; rw [HR.out]; rintro e w1 ⟨v1, rfl, ho1, b1⟩; obtain ⟨ga, gn, gc, rfl⟩ := ho1.1.slice; have HO1 := Lib.hid ho1; clear ho1) | (go_at_call 54; refine (l4Good_any _ t _ (H.out.below rRu_stable b1)).mono ?_; rw [HS.out]; rintro e w2 ⟨rfl, b2⟩))
    go_ret2
    exact ⟨rfl, below_chain b1 b2⟩
  · rcases Nat.eq_zero_or_pos R.length with h0 | h0
    · obtain ⟨rfl, rfl⟩ := lonRes_no HRES.out (.inr (by rw [HR.out]; exact h0))
      have hq : ((R.length : Int) == 0) = true := by simp [h0]
      have HQ := Lib.hid h0
      clear h0
      go_enter Try.func66, Try.ntmps66
      go_wp2_with (first | (go_at_call 56; refine (l4For_any _ t x _ H.out hn).mono ?_; rw [HR.out]; rintro e w1 ⟨v1, rfl, ho1, b1⟩; obtain ⟨a1, c1, hv, hl1, hm1, r1⟩ := ho1.row.rus; subst hv; have R1 := Lib.hid r1; clear ho1 r1; unfold maxLen at hm1) | (go_at_call 54; refine (l4Good_any _ t _ (H.out.below rRu_stable b1)).mono ?_; rw [HS.out]; rintro e w2 ⟨rfl, b2⟩))
      go_ret2
      exact ⟨rfl, below_chain b1 b2⟩
    · obtain ⟨rfl, rfl⟩ := lonRes_yes HRES.out HS.out (by rw [HR.out]; exact h0)
      have hq : ((R.length : Int) == 0) = false := by simp; intro e; rw [e] at h0; simp at h0
      have HQ := Lib.hid h0
      clear h0
      rw [HR.out]
      go_enter Try.func66, Try.ntmps66
      go_wp2_with (first | (go_at_call 56; refine (l4For_any _ t x _ H.out hn).mono ?_; rw [HR.out]; rintro e w1 ⟨v1, rfl, ho1, b1⟩; obtain ⟨a1, c1, hv, hl1, hm1, r1⟩ := ho1.row.rus; subst hv; have R1 := Lib.hid r1; clear ho1 r1; unfold maxLen at hm1) | (go_at_call 54; refine (l4Good_any _ t _ (H.out.below rRu_stable b1)).mono ?_; rw [HS.out]; rintro e w2 ⟨rfl, b2⟩))
      have hw12 := b2.size
      go_loopw [7, 8] (fun m i wr => ∃ k : Nat, k ≤ R.length ∧ i = .int .i64 k ∧ m = .int .i64 (maxD (R.take k)) ∧ Below w1.heap.size w1 wr) (fun _ i _ => R.length - (intOf i).toNat)
      case atStart => exact ⟨0, Nat.zero_le _, rfl, rfl, b2⟩
      case round =>
        obtain ⟨k, hk, rfl, rfl, hb⟩ := hrel
        by_cases hlt : k < R.length
        · obtain ⟨b1, o1, hb1, e0, e1⟩ := R1.out.resolve_left (fun e => by rw [e] at hlt; simp at hlt)
          cases e0
          obtain ⟨q0, q1, q2, q3, hok⟩ := e1 k hlt
          have hsucc := maxD_succ hlt
          obtain ⟨⟨x0, x1, x2, x3⟩, hx⟩ : ∃ s, R.getD k ruD = s := ⟨_, rfl⟩
          rw [hx] at q0 q1 q2 q3 hsucc hok
          simp only at q0 q1 q2 q3 hsucc
          have f0 := cell_kept q0 hb
          have f1 := cell_kept q1 hb
          have f2 := cell_kept q2 hb
          have f3 := cell_kept q3 hb
          have HOK2 := Lib.hid hok
          have g0 : (0 : Int) ≤ (k : Int) := by omega
          have g1 : (k : Int) < (R.length : Int) := by omega
          obtain ⟨M, hM⟩ : ∃ M, maxD (R.take k) = M := ⟨_, rfl⟩
          rw [hM] at hsucc ⊢
          have HSU := Lib.hid hsucc
          clear q0 q1 q2 q3 hok e1 hx hsucc hM
          go_wp2_with (first | (go_at_call 76; refine (l1Most_any _ _ _).mono ?_; rintro e w' ⟨rfl, rfl⟩))
          go_roundw
          case rel => exact ⟨k + 1, by omega, by go_num, by rw [HSU.out], hb⟩
          case measure => simp [intOf]; omega
        · obtain rfl : k = R.length := by omega
          rw [List.take_length]
          go_wp2_with fail
          go_ret2
          exact ⟨rfl, b1.trans (hb.mono b1.size)⟩


set_option maxRecDepth 20000 in
set_option maxHeartbeats 2000000 in
theorem implLongestPeriod_any (v : Value) (t : List Ru) (x : Int) (w : World) (h : RowR 4 rRu w v t) (hn : t.length ≤ 1048576) (c : Int) (b : Bool) (hres : lonRes t x = (c, b)) :
    Calls Try.prog 67 #[v, .int .i64 x] w fun e w' => e = .returned (.tuple #[.int .i64 c, .bool b]) ∧ Below w.heap.size w w' := by
  have H := Lib.hid h
  have HOK := Lib.hid h.rus_ok
  obtain ⟨R, bb, hRR⟩ : ∃ R bb, rufRes t x = (R, bb) := ⟨_, _, rfl⟩
  have hR1 : R = if isSch t = true then forRu t x else [] := by rw [← ruf_first, hRR]
  have hRl : R.length ≤ t.length := rufRes_len hRR
  have HRR := Lib.hid hRR
  rcases Nat.eq_zero_or_pos R.length with h0 | h0
  · obtain ⟨rfl, rfl⟩ := lonRes_no hres (by
      rcases hs : isSch t with _ | _
      · exact .inl rfl
      · rw [hs, if_pos rfl] at hR1; rw [← hR1]; exact .inr h0)
    have hq : ((R.length : Int) == 0) = true := by simp [h0]
    have hq2 : decide ((0 : Int) < (R.length : Int)) = false := decide_eq_false (by omega)
    have hq3 : decide (0 < R.length) = false := decide_eq_false (by omega)
    have H0 := Lib.hid h0
    clear h hres hRR hR1 h0
    go_enter Try.func67, Try.ntmps67
    go_wp2_with (first | (go_at_call 77; refine (implRulesFor_any _ t x _ H.out hn R bb HRR.out).mono ?_; rintro e w1 ⟨v1, rfl, ho1, b1⟩; obtain ⟨a1, c1, hv, hl1, hm1, r1⟩ := ho1.row.rus; subst hv; have R1 := Lib.hid r1; clear ho1 r1; unfold maxLen at hm1))
    go_loopw [8, 19] (fun m i wr => ∃ k : Nat, k ≤ R.length ∧ i = .int .i64 k ∧ m = .int .i64 (maxD (R.take k)) ∧ Below w1.heap.size w1 wr) (fun _ i _ => R.length - (intOf i).toNat)
    case atStart => exact ⟨0, Nat.zero_le _, rfl, rfl, Below.refl _ _⟩
    case round =>
      obtain ⟨k, hk, rfl, rfl, hb⟩ := hrel
      by_cases hlt : k < R.length
      · obtain ⟨b1, o1, hb1, e0, e1⟩ := R1.out.resolve_left (fun e => by rw [e] at hlt; simp at hlt)
        cases e0
        obtain ⟨q0, q1, q2, q3, hok⟩ := e1 k hlt
        have hsucc := maxD_succ hlt
        obtain ⟨⟨x0, x1, x2, x3⟩, hx⟩ : ∃ s, R.getD k ruD = s := ⟨_, rfl⟩
        rw [hx] at q0 q1 q2 q3 hsucc hok
        simp only at q0 q1 q2 q3 hsucc
        have f0 := cell_kept q0 hb
        have f1 := cell_kept q1 hb
        have f2 := cell_kept q2 hb
        have f3 := cell_kept q3 hb
        have HOK2 := Lib.hid hok
        have g0 : (0 : Int) ≤ (k : Int) := by omega
        have g1 : (k : Int) < (R.length : Int) := by omega
        obtain ⟨M, hM⟩ : ∃ M, maxD (R.take k) = M := ⟨_, rfl⟩
        rw [hM] at hsucc ⊢
        have HSU := Lib.hid hsucc
        clear q0 q1 q2 q3 hok e1 hx hsucc hM
        go_wp2_with fail
        go_roundw
        case rel => exact ⟨k + 1, by omega, by go_num, by rw [HSU.out]; congr 1; split <;> omega, below_al hb _⟩
        case measure => simp [intOf]; omega
      · obtain rfl : k = R.length := by omega
        rw [List.take_length]
        go_wp2_with fail
        go_ret2
        exact ⟨by rw [List.length_eq_zero_iff.1 H0.out]; rfl, b1.trans (hb.mono b1.size)⟩
  · have hs : isSch t = true := by
      rcases hs : isSch t with _ | _
      · rw [hs, if_neg (by simp)] at hR1; rw [hR1] at h0; simp at h0
      · rfl
    rw [hs, if_pos rfl] at hR1
    obtain ⟨rfl, rfl⟩ := lonRes_yes hres hs (by rw [← hR1]; exact h0)
    rw [← hR1]
    have hq2 : decide ((0 : Int) < (R.length : Int)) = true := decide_eq_true (by omega)
    have hq3 : decide (0 < R.length) = true := decide_eq_true (by omega)
    clear h hres hRR hR1 h0 hs
    go_enter Try.func67, Try.ntmps67
    go_wp2_with (first | (go_at_call 77; refine (implRulesFor_any _ t x _ H.out hn R bb HRR.out).mono ?_; rintro e w1 ⟨v1, rfl, ho1, b1⟩; obtain ⟨a1, c1, hv, hl1, hm1, r1⟩ := ho1.row.rus; subst hv; have R1 := Lib.hid r1; clear ho1 r1; unfold maxLen at hm1))
    go_loopw [8, 19] (fun m i wr => ∃ k : Nat, k ≤ R.length ∧ i = .int .i64 k ∧ m = .int .i64 (maxD (R.take k)) ∧ Below w1.heap.size w1 wr) (fun _ i _ => R.length - (intOf i).toNat)
    case atStart => exact ⟨0, Nat.zero_le _, rfl, rfl, Below.refl _ _⟩
    case round =>
      obtain ⟨k, hk, rfl, rfl, hb⟩ := hrel
      by_cases hlt : k < R.length
      · obtain ⟨b1, o1, hb1, e0, e1⟩ := R1.out.resolve_left (fun e => by rw [e] at hlt; simp at hlt)
        cases e0
        obtain ⟨q0, q1, q2, q3, hok⟩ := e1 k hlt
        have hsucc := maxD_succ hlt
        obtain ⟨⟨x0, x1, x2, x3⟩, hx⟩ : ∃ s, R.getD k ruD = s := ⟨_, rfl⟩
        rw [hx] at q0 q1 q2 q3 hsucc hok
        simp only at q0 q1 q2 q3 hsucc
        have f0 := cell_kept q0 hb
        have f1 := cell_kept q1 hb
        have f2 := cell_kept q2 hb
        have f3 := cell_kept q3 hb
        have HOK2 := Lib.hid hok
        have g0 : (0 : Int) ≤ (k : Int) := by omega
        have g1 : (k : Int) < (R.length : Int) := by omega
        obtain ⟨M, hM⟩ : ∃ M, maxD (R.take k) = M := ⟨_, rfl⟩
        rw [hM] at hsucc ⊢
        have HSU := Lib.hid hsucc
        clear q0 q1 q2 q3 hok e1 hx hsucc hM
        go_wp2_with fail
        go_roundw
        case rel => exact ⟨k + 1, by omega, by go_num, by rw [HSU.out]; congr 1; split <;> omega, below_al hb _⟩
        case measure => simp [intOf]; omega
      · obtain rfl : k = R.length := by omega
        rw [List.take_length]
        go_wp2_with fail
        go_ret2
        exact ⟨rfl, b1.trans (hb.mono b1.size)⟩
end Go.Proofs.Ytedckfbjhhabgaa
