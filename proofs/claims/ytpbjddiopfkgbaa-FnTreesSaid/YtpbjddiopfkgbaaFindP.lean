/- FindPath, the model's and the program's. -/
import Derived.Test.YtpbjddiopfkgbaaFpM
import Derived.Test.YtpbjddiopfkgbaaPlace
import Derived.Test.YtpbjddiopfkgbaaSplitImpl
namespace Go.Proofs.Ytpbjddiopfkgbaa
set_option linter.unusedVariables false
open Go.RowKit Go.Sort

def pnK (t : List Fn) (x : Int) (nm : ByteArray) : Nat := t.findIdx (fun f => decide (f.parent = x ∧ f.name = nm))
def pnI (t : List Fn) (x : Int) (nm : ByteArray) : Int := if pnK t x nm < t.length then (pnK t x nm : Int) else -1
theorem pnK_is {t : List Fn} {x : Int} {nm : ByteArray} {k : Nat} (hk : k < t.length) (h0 : ∀ j, j < k → ¬ ((t.getD j fnD).parent = x ∧ (t.getD j fnD).name = nm)) (h1 : (t.getD k fnD).parent = x ∧ (t.getD k fnD).name = nm) : pnI t x nm = (k : Int) := by
  have e : pnK t x nm = k := by
    unfold pnK
    rw [List.findIdx_eq hk]
    exact ⟨by rw [← getF_lt hk]; exact decide_eq_true h1, fun j hj => by rw [← getF_lt (by omega)]; exact decide_eq_false (h0 j hj)⟩
  unfold pnI
  rw [e, if_pos hk]
theorem pnK_at {t : List Fn} {x : Int} {nm : ByteArray} (h : pnK t x nm < t.length) : (t.getD (pnK t x nm) fnD).parent = x ∧ (t.getD (pnK t x nm) fnD).name = nm := by
  rw [getF_lt h]
  exact of_decide_eq_true (List.findIdx_getElem (p := fun f : Fn => decide (f.parent = x ∧ f.name = nm)) (xs := t) (w := h))
theorem pnI_none {t : List Fn} {x : Int} {nm : ByteArray} (h : ∀ j, j < t.length → ¬ ((t.getD j fnD).parent = x ∧ (t.getD j fnD).name = nm)) : pnI t x nm = -1 := by
  unfold pnI
  rw [if_neg (fun k => h _ k (pnK_at k))]
theorem pnI_cases (t : List Fn) (x : Int) (nm : ByteArray) : (pnI t x nm = -1 ∧ ∀ j, j < t.length → ¬ ((t.getD j fnD).parent = x ∧ (t.getD j fnD).name = nm)) ∨ ∃ p : Nat, pnI t x nm = (p : Int) ∧ p < t.length ∧ (t.getD p fnD).parent = x ∧ (t.getD p fnD).name = nm := by
  by_cases h : pnK t x nm < t.length
  · exact .inr ⟨_, by unfold pnI; rw [if_pos h], h, pnK_at h⟩
  · refine .inl ⟨by unfold pnI; rw [if_neg h], fun j hj hc => h ?_⟩
    exact List.findIdx_lt_length.2 ⟨t[j], List.getElem_mem hj, by rw [getF_lt hj] at hc; exact decide_eq_true hc⟩

theorem byPN_any (f : Fn) (x : Int) (nm : ByteArray) (B C : Nat) (w : World) (hB : w.cell? ⟨B, 0, none⟩ = some (.int .i64 x)) (hC : w.cell? ⟨C, 0, none⟩ = some (.string nm)) :
    Calls Try.prog 53 #[.agg #[.int .i64 f.id, .int .i64 f.parent, .string f.name], .pointer (some ⟨B, 0, none⟩), .pointer (some ⟨C, 0, none⟩)] w fun e w' => e = .returned (.bool (decide (f.parent = x ∧ f.name = nm))) ∧ Below w.heap.size w w' := by
  obtain ⟨fi, fp, fs⟩ := f
  have hBa := fun o : Obj => below_al_cell hB o
  have hCa := fun o : Obj => below_al_cell hC o
  simp only
  by_cases h : fp = x
  · have hq : (fp == x) = true := by simp [h]
    by_cases hs : fs = nm
    · have dss : (fs.toList == nm.toList) = true := by simp [hs]
      have hd : decide (fp = x ∧ fs = nm) = true := decide_eq_true ⟨h, hs⟩
      rw [hd]
      clear h hs hd
      go_enter Try.func53, Try.ntmps53
      go_wp2
      go_ret
      exact ⟨rfl, below_al (Below.refl _ _) _⟩
    · have dss := beq_bytes_ne hs
      have hd : decide (fp = x ∧ fs = nm) = false := decide_eq_false (fun k => hs k.2)
      rw [hd]
      clear h hs hd
      go_enter Try.func53, Try.ntmps53
      go_wp2
      go_ret
      exact ⟨rfl, below_al (Below.refl _ _) _⟩
  · have hq : (fp == x) = false := by simp [h]
    have hd : decide (fp = x ∧ fs = nm) = false := decide_eq_false (fun k => h k.1)
    rw [hd]
    clear h hd
    go_enter Try.func53, Try.ntmps53
    go_wp2
    go_ret
    exact ⟨rfl, below_al (Below.refl _ _) _⟩

set_option maxHeartbeats 1000000 in
theorem indexPN_any (v : Value) (t : List Fn) (x : Int) (nm : ByteArray) (B C : Nat) (w : World) (h : RowR 3 rFn w v t) (hB : w.cell? ⟨B, 0, none⟩ = some (.int .i64 x)) (hC : w.cell? ⟨C, 0, none⟩ = some (.string nm)) :
    Calls Try.prog 52 #[v, .func (.func 53) #[] #[.pointer (some ⟨B, 0, none⟩), .pointer (some ⟨C, 0, none⟩)]] w fun e w' => e = .returned (.int .i64 (pnI t x nm)) ∧ Below w.heap.size w w' := by
  have hcap := h.cap
  obtain ⟨a1, c1, rfl, hl1, hm1, r1⟩ := h.fns
  have R1 := Lib.hid r1
  clear h r1
  unfold maxLen at hm1
  go_enter Try.func52, Try.ntmps52
  go_wp2
  go_loopw [8] (fun i wr => ∃ k : Nat, k ≤ t.length ∧ i = .int .i64 k ∧ Hid (∀ j, j < k → ¬ ((t.getD j fnD).parent = x ∧ (t.getD j fnD).name = nm)) ∧ Below w.heap.size w wr) (fun i _ => t.length - (intOf i).toNat)
  case atStart => exact ⟨0, Nat.zero_le _, rfl, Lib.hid (fun j h => absurd h (Nat.not_lt_zero _)), Below.refl _ _⟩
  case round =>
    obtain ⟨k, hk, rfl, HN, hb⟩ := hrel
    by_cases hlt : k < t.length
    · obtain ⟨b1, o1, hb1, rfl, e1⟩ := R1.out.resolve_left (fun e => by rw [e] at hlt; simp at hlt)
      obtain ⟨⟨fi, fp, fs⟩, hx⟩ : ∃ s, t.getD k fnD = s := ⟨_, rfl⟩
      obtain ⟨q0, q1, q2, hok⟩ := e1 k hlt
      rw [hx] at q0 q1 q2
      simp only at q0 q1 q2
      have f0 := cell_kept q0 hb
      have f1 := cell_kept q1 hb
      have f2 := cell_kept q2 hb
      have HX := Lib.hid hx
      have g0 : (0 : Int) ≤ (k : Int) := by omega
      have g1 : (k : Int) < (t.length : Int) := by omega
      have hBr := cell_kept hB hb
      have hCr := cell_kept hC hb
      have hsz := hb.size
      clear q0 q1 q2 hok e1 hx
      have hcall := byPN_any ⟨fi, fp, fs⟩ x nm B C wr hBr hCr
      obtain ⟨bq, hbq⟩ : ∃ b, decide (fp = x ∧ fs = nm) = b := ⟨_, rfl⟩
      simp only [hbq] at hcall
      have HBQ := Lib.hid hbq
      have HCALL := Lib.hid hcall
      clear hbq hcall hBr hCr
      cases bq
      · go_wp2_with (first | (go_at_call 53; refine HCALL.out.mono ?_; rintro e w2 ⟨rfl, b2⟩))
        go_roundw
        case rel =>
          refine ⟨k + 1, by omega, by go_num, Lib.hid (fun j hj => ?_), hb.trans (b2.mono hsz)⟩
          rcases Nat.lt_or_ge j k with h' | h'
          · exact HN.out j h'
          · obtain rfl : j = k := by omega
            rw [HX.out]
            exact of_decide_eq_false HBQ.out
        case measure => simp [intOf]; omega
      · go_wp2_with (first | (go_at_call 53; refine HCALL.out.mono ?_; rintro e w2 ⟨rfl, b2⟩))
        go_ret
        have hp := pnK_is hlt HN.out (by rw [HX.out]; exact of_decide_eq_true HBQ.out)
        exact ⟨ret_int hp.symm, hb.trans (b2.mono hsz)⟩
    · have hkt : k = t.length := by omega
      have HF : Hid (pnI t x nm = -1) := Lib.hid (pnI_none (fun j hj => HN.out j (by omega)))
      clear hkt
      go_wp2
      go_ret
      exact ⟨ret_int HF.out.symm, hb⟩
end Go.Proofs.Ytpbjddiopfkgbaa
