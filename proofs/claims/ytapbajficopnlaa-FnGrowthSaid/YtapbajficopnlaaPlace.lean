/- Where a function lies in a tree: slices.IndexFunc with the program's own test, and placeInTree. -/
import Derived.Test.YtapbajficopnlaaFindF
import Derived.Test.YtapbajficopnlaaTreeI
namespace Go.Proofs.Ytapbajficopnlaa
set_option linter.unusedVariables false
open Go.RowKit Go.Sort

theorem Own.at_some {lo e size : Nat} {w : World} {v : Value} {css : List (List Value)} (h : Own lo e size w v css) (hn : 0 < css.length) : ∃ g cap, v = .slice (some ⟨g, 0, none⟩) css.length cap ∧ g < w.heap.size ∧ lo ≤ g := by
  rcases h.form with ⟨_, rfl⟩ | ⟨g, cap, h1, h2, h3, _⟩
  · simp at hn
  · exact ⟨g, cap, h1, h3, h2⟩
theorem byId_any (f : Fn) (x : Int) (B : Nat) (w : World) (hB : w.cell? ⟨B, 0, none⟩ = some (.int .i64 x)) :
    Calls Try.prog 105 #[.agg #[.int .i64 f.id, .int .i64 f.parent, .string f.name], .pointer (some ⟨B, 0, none⟩)] w fun e w' => e = .returned (.bool (decide (f.id = x))) ∧ Below w.heap.size w w' := by
  obtain ⟨fi, fp, fs⟩ := f
  have hBa := fun o : Obj => below_al_cell hB o
  by_cases h : fi = x
  · have hq : (fi == x) = true := by simp [h]
    simp only [decide_eq_true h]
    clear h
    go_enter Try.func105, Try.ntmps105
    go_wp2
    go_ret
    exact ⟨rfl, below_al (Below.refl _ _) _⟩
  · have hq : (fi == x) = false := by simp [h]
    simp only [decide_eq_false h]
    clear h
    go_enter Try.func105, Try.ntmps105
    go_wp2
    go_ret
    exact ⟨rfl, below_al (Below.refl _ _) _⟩

set_option maxHeartbeats 1000000 in
theorem indexById_any (v : Value) (t : List Fn) (x : Int) (B : Nat) (w : World) (h : RowR 3 rFn w v t) (hB : w.cell? ⟨B, 0, none⟩ = some (.int .i64 x)) :
    Calls Try.prog 61 #[v, .func (.func 105) #[] #[.pointer (some ⟨B, 0, none⟩)]] w fun e w' => e = .returned (.int .i64 (findI t x)) ∧ Below w.heap.size w w' := by
  have hcap := h.cap
  obtain ⟨a1, c1, rfl, hl1, hm1, r1⟩ := h.fns
  have R1 := Lib.hid r1
  clear h r1
  unfold maxLen at hm1
  go_enter Try.func61, Try.ntmps61
  go_wp2
  go_loopw [8] (fun i wr => ∃ k : Nat, k ≤ t.length ∧ i = .int .i64 k ∧ Hid (∀ j, j < k → (t.getD j fnD).id ≠ x) ∧ Below w.heap.size w wr) (fun i _ => t.length - (intOf i).toNat)
  case atStart => exact ⟨0, Nat.zero_le _, rfl, Lib.hid (fun j h => absurd h (Nat.not_lt_zero _)), Below.refl _ _⟩
  case round =>
    obtain ⟨k, hk, rfl, HN, hb⟩ := hrel
    by_cases hlt : k < t.length
    · obtain ⟨b1, o1, hb1, rfl, e1⟩ := R1.out.resolve_left (fun e => by rw [e] at hlt; simp at hlt)
      obtain ⟨⟨fi, fp, fs⟩, hx⟩ : ∃ s, t.getD k fnD = s := ⟨_, rfl⟩
      obtain ⟨q0, q1, q2, hok⟩ := e1 k hlt
      rw [hx] at q0 q1 q2
      simp only at q0 q1 q2
      have f0 := cell_kept q0 hb
      have f1 := cell_kept q1 hb
      have f2 := cell_kept q2 hb
      have HX := Lib.hid hx
      have g0 : (0 : Int) ≤ (k : Int) := by omega
      have g1 : (k : Int) < (t.length : Int) := by omega
      have hBr := cell_kept hB hb
      have hsz := hb.size
      clear q0 q1 q2 hok e1 hx
      have hcall := byId_any ⟨fi, fp, fs⟩ x B wr hBr
      obtain ⟨bq, hbq⟩ : ∃ b, decide (fi = x) = b := ⟨_, rfl⟩
      simp only [hbq] at hcall
      have HBQ := Lib.hid hbq
      have HCALL := Lib.hid hcall
      clear hbq hcall hBr
      cases bq
      · go_wp2_with (first | (go_at_call 105; refine HCALL.out.mono ?_; rintro e w2 ⟨rfl, b2⟩))
        go_roundw
        case rel =>
          refine ⟨k + 1, by omega, by go_num, Lib.hid (fun j hj => ?_), hb.trans (b2.mono hsz)⟩
          rcases Nat.lt_or_ge j k with h' | h'
          · exact HN.out j h'
          · obtain rfl : j = k := by omega
            rw [HX.out]
            exact of_decide_eq_false HBQ.out
        case measure => simp [intOf]; omega
      · go_wp2_with (first | (go_at_call 105; refine HCALL.out.mono ?_; rintro e w2 ⟨rfl, b2⟩))
        go_ret
        have hp : placeF t x = k := placeF_is hlt HN.out (by rw [HX.out]; exact of_decide_eq_true HBQ.out)
        exact ⟨ret_int (by rw [findI_yes (by unfold hasF; rw [hp]; exact decide_eq_true hlt), hp]), hb.trans (b2.mono hsz)⟩
    · have hkt : k = t.length := by omega
      have HF : Hid (findI t x = -1) := Lib.hid (findI_no (hasF_none (fun j hj => HN.out j (by omega))))
      clear hkt
      go_wp2
      go_ret
      exact ⟨ret_int HF.out.symm, hb⟩

set_option maxRecDepth 20000 in
theorem placeInTree_any (v : Value) (t : List Fn) (x : Int) (w : World) (h : RowR 3 rFn w v t) (ht : isTree t = true) :
    Calls Try.prog 73 #[v, .int .i64 x] w fun e w' => e = .returned (.tuple #[.int .i64 (findI t x), .bool (hasF t x)]) ∧ Below w.heap.size w w' := by
  have H := Lib.hid h
  have HT := Lib.hid ht
  clear h ht
  obtain ⟨c, hc⟩ : ∃ c, findI t x = c := ⟨_, rfl⟩
  obtain ⟨bh, hh⟩ : ∃ b, hasF t x = b := ⟨_, rfl⟩
  have hneg : decide (0 ≤ c) = bh := by
    rcases Int.lt_or_le c 0 with h | h
    · rw [decide_eq_false (by omega), ← hh, findI_neg.1 (by rw [hc]; exact h)]
    · rw [decide_eq_true h, ← hh, hasF_of_find (by rw [hc]; omega)]
  rw [hc, hh]
  have HC := Lib.hid hc
  clear hc hh
  subst hneg
  go_enter Try.func73, Try.ntmps73
  go_wp2_with (first | (go_at_call 23; refine (implIsTree_any _ t _ (H.out.below rFn_stable (below_al (Below.refl _ _) _))).mono ?_; rw [HT.out]; rintro e w1 ⟨rfl, b1⟩; have c1 := cell_kept (cell_new w _ _ 0 rfl) b1; have b1 := below_chain (below_al (Below.refl _ _) _) b1) | (go_at_call 61; refine (indexById_any _ t x _ _ (H.out.below rFn_stable b1) c1).mono ?_; rw [HC.out]; rintro e w2 ⟨rfl, b2⟩))
  go_ret2
  exact ⟨rfl, below_chain b1 b2⟩

set_option maxRecDepth 20000 in
theorem placeInTree_no (v : Value) (t : List Fn) (x : Int) (w : World) (h : RowR 3 rFn w v t) (ht : isTree t = false) :
    Calls Try.prog 73 #[v, .int .i64 x] w fun e w' => e = .returned (.tuple #[.int .i64 0, .bool false]) ∧ Below w.heap.size w w' := by
  have H := Lib.hid h
  have HT := Lib.hid ht
  clear h ht
  go_enter Try.func73, Try.ntmps73
  go_wp2_with (first | (go_at_call 23; refine (implIsTree_any _ t _ (H.out.below rFn_stable (below_al (Below.refl _ _) _))).mono ?_; rw [HT.out]; rintro e w1 ⟨rfl, b1⟩))
  go_ret2
  exact ⟨rfl, below_chain (below_al (Below.refl _ _) _) b1⟩
end Go.Proofs.Ytapbajficopnlaa
