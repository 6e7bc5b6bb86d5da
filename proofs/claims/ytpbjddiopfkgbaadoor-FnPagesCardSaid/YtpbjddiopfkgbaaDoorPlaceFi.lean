/- Where a file lies in a list, by its number: the program's placeOfFile. -/
import Derived.Test.YtpbjddiopfkgbaaDoorFiI
namespace Go.Proofs.YtpbjddiopfkgbaaDoor
set_option linter.unusedVariables false
open Go.RowKit Go.Sort

theorem byFid_any (f : Fi) (x : Int) (B : Nat) (w : World) (hB : w.cell? ⟨B, 0, none⟩ = some (.int .i64 x)) :
    Calls Tryd.prog 85 #[.agg #[.int .i64 f.id, .int .i64 f.series, .string f.title, .int .i64 f.opened, .int .i64 f.closed, .int .i64 f.state, .int .i64 f.pages], .pointer (some ⟨B, 0, none⟩)] w fun e w' => e = .returned (.bool (decide (f.id = x))) ∧ Below w.heap.size w w' := by
  obtain ⟨x0, x1, x2, x3, x4, x5, x6⟩ := f
  have hBa := fun o : Obj => below_al_cell hB o
  by_cases h : x0 = x
  · have hq : (x0 == x) = true := by simp [h]
    simp only [decide_eq_true h]
    clear h
    go_enter Tryd.func85, Tryd.ntmps85
    go_wp2
    go_ret
    exact ⟨rfl, below_al (Below.refl _ _) _⟩
  · have hq : (x0 == x) = false := by simp [h]
    simp only [decide_eq_false h]
    clear h
    go_enter Tryd.func85, Tryd.ntmps85
    go_wp2
    go_ret
    exact ⟨rfl, below_al (Below.refl _ _) _⟩
set_option maxHeartbeats 1000000 in
theorem indexFid_any (v : Value) (t : List Fi) (x : Int) (B : Nat) (w : World) (h : RowR 7 rFi w v t) (hB : w.cell? ⟨B, 0, none⟩ = some (.int .i64 x)) :
    Calls Tryd.prog 84 #[v, .func (.func 85) #[] #[.pointer (some ⟨B, 0, none⟩)]] w fun e w' => e = .returned (.int .i64 (fIdx (fun g : Fi => decide (g.id = x)) t)) ∧ Below w.heap.size w w' := by
  have hcap := h.cap
  obtain ⟨a1, c1, rfl, hl1, hm1, r1⟩ := h.fis
  have R1 := Lib.hid r1
  clear h r1
  unfold maxLen at hm1
  obtain ⟨p, hp⟩ : ∃ p : Fi → Bool, (fun g : Fi => decide (g.id = x)) = p := ⟨_, rfl⟩
  rw [hp]
  have HP := Lib.hid hp
  clear hp
  go_enter Tryd.func84, Tryd.ntmps84
  go_wp2
  go_loopw [8] (fun i wr => ∃ k : Nat, k ≤ t.length ∧ i = .int .i64 k ∧ Hid (∀ j, j < k → p (t.getD j fiD) = false) ∧ Below w.heap.size w wr) (fun i _ => t.length - (intOf i).toNat)
  case atStart => exact ⟨0, Nat.zero_le _, rfl, Lib.hid (fun j h => absurd h (Nat.not_lt_zero _)), Below.refl _ _⟩
  case round =>
    obtain ⟨k, hk, rfl, HN, hb⟩ := hrel
    by_cases hlt : k < t.length
    · obtain ⟨b1, o1, hb1, rfl, e1⟩ := R1.out.resolve_left (fun e => by rw [e] at hlt; simp at hlt)
      obtain ⟨⟨x0, x1, x2, x3, x4, x5, x6⟩, hx⟩ : ∃ s, t.getD k fiD = s := ⟨_, rfl⟩
      obtain ⟨q0, q1, q2, q3, q4, q5, q6, hok⟩ := e1 k hlt
      rw [hx] at q0 q1 q2 q3 q4 q5 q6
      simp only at q0 q1 q2 q3 q4 q5 q6
      have f0 := cell_kept q0 hb
      have f1 := cell_kept q1 hb
      have f2 := cell_kept q2 hb
      have f3 := cell_kept q3 hb
      have f4 := cell_kept q4 hb
      have f5 := cell_kept q5 hb
      have f6 := cell_kept q6 hb
      have HX := Lib.hid hx
      have g0 : (0 : Int) ≤ (k : Int) := by omega
      have g1 : (k : Int) < (t.length : Int) := by omega
      have hBr := cell_kept hB hb
      have hsz := hb.size
      clear q0 q1 q2 q3 q4 q5 q6 hok e1 hx
      have hcall := byFid_any ⟨x0, x1, x2, x3, x4, x5, x6⟩ x B wr hBr
      obtain ⟨bq, hbq⟩ : ∃ b, p ⟨x0, x1, x2, x3, x4, x5, x6⟩ = b := ⟨_, rfl⟩
      have hbq2 : decide (x0 = x) = bq := by rw [← hbq, ← HP.out]
      simp only [hbq2] at hcall
      have HBQ := Lib.hid hbq
      have HCALL := Lib.hid hcall
      clear hbq hbq2 hcall hBr
      cases bq
      · go_wp2_with (first | (go_at_call 85; refine HCALL.out.mono ?_; rintro e w2 ⟨rfl, b2⟩))
        go_roundw
        case rel =>
          refine ⟨k + 1, by omega, by go_num, Lib.hid (fun j hj => ?_), hb.trans (b2.mono hsz)⟩
          rcases Nat.lt_or_ge j k with h' | h'
          · exact HN.out j h'
          · obtain rfl : j = k := by omega
            rw [HX.out]
            exact HBQ.out
        case measure => simp [intOf]; omega
      · go_wp2_with (first | (go_at_call 85; refine HCALL.out.mono ?_; rintro e w2 ⟨rfl, b2⟩))
        go_ret
        exact ⟨ret_int (fIdx_is hlt HN.out (by rw [HX.out]; exact HBQ.out)).symm, hb.trans (b2.mono hsz)⟩
    · have hkt : k = t.length := by omega
      have HF : Hid (fIdx p t = -1) := Lib.hid (fIdx_none (fun j hj => HN.out j (by omega)))
      clear hkt
      go_wp2
      go_ret
      exact ⟨ret_int HF.out.symm, hb⟩
set_option maxRecDepth 20000 in
theorem placeFi_any (v : Value) (t : List Fi) (x : Int) (w : World) (h : RowR 7 rFi w v t) (ht : areFi t = true) :
    Calls Tryd.prog 60 #[v, .int .i64 x] w fun e w' => e = .returned (.tuple #[.int .i64 (fidI t x), .bool (decide (0 ≤ fidI t x))]) ∧ Below w.heap.size w w' := by
  have H := Lib.hid h
  have HT := Lib.hid ht
  clear h ht
  obtain ⟨c, hc⟩ : ∃ c, fidI t x = c := ⟨_, rfl⟩
  rw [hc]
  have HC := Lib.hid hc
  clear hc
  go_enter Tryd.func60, Tryd.ntmps60
  go_wp2_with (first | (go_at_call 33; refine (implAreFi_any _ t _ (H.out.below rFi_stable (below_al (Below.refl _ _) _))).mono ?_; rw [HT.out]; rintro e w1 ⟨rfl, b1⟩; have c1 := cell_kept (cell_new w _ _ 0 rfl) b1; have b1 := below_chain (below_al (Below.refl _ _) _) b1) | (go_at_call 84; refine (indexFid_any _ t x _ _ (H.out.below rFi_stable b1) c1).mono ?_; rw [show fIdx (fun g : Fi => decide (g.id = x)) t = c from HC.out]; rintro e w2 ⟨rfl, b2⟩))
  go_ret2
  exact ⟨rfl, below_chain b1 b2⟩

set_option maxRecDepth 20000 in
theorem placeFi_no (v : Value) (t : List Fi) (x : Int) (w : World) (h : RowR 7 rFi w v t) (ht : areFi t = false) :
    Calls Tryd.prog 60 #[v, .int .i64 x] w fun e w' => e = .returned (.tuple #[.int .i64 0, .bool false]) ∧ Below w.heap.size w w' := by
  have H := Lib.hid h
  have HT := Lib.hid ht
  clear h ht
  go_enter Tryd.func60, Tryd.ntmps60
  go_wp2_with (first | (go_at_call 33; refine (implAreFi_any _ t _ (H.out.below rFi_stable (below_al (Below.refl _ _) _))).mono ?_; rw [HT.out]; rintro e w1 ⟨rfl, b1⟩))
  go_ret2
  exact ⟨rfl, below_chain (below_al (Below.refl _ _) _) b1⟩
end Go.Proofs.YtpbjddiopfkgbaaDoor
