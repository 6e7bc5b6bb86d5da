/- The text of a valid record, the model's and the program's. -/
import Derived.Test.YtapbajficopnlaaDoorIsRecI
import Derived.Test.YtapbajficopnlaaDoorTabI
import Derived.Test.YtapbajficopnlaaDoorNumT
import Derived.Lib.QuietBelow
import Derived.BigQuiet
namespace Go.Proofs.YtapbajficopnlaaDoor
set_option linter.unusedVariables false
open Go.RowKit Go.Sort

/-- The text of the record with its first k events. -/
def textAt (r : Rec) : Nat → ByteArray
  | 0 => num r.id ++ ba 115 ++ num r.series ++ ba 64 ++ num r.made
  | k + 1 => textAt r k ++ ba 32 ++ num (r.evs.getD k evD).kind ++ ba 64 ++ num (r.evs.getD k evD).day
def evsOk (r : Rec) : Prop := ∀ i, i < r.evs.length → (r.evs.getD i evD).ok
theorem textAt_size (r : Rec) (hr : r.ok) (he : evsOk r) : ∀ k, k ≤ r.evs.length → (textAt r k).size ≤ 65 + k * 44
  | 0, _ => by
    have h1 := num_size _ hr.1
    have h2 := num_size _ hr.2.1
    have h3 := num_size _ hr.2.2
    simp only [textAt, ByteArray.size_append, ba_size]
    omega
  | k + 1, h => by
    have ih := textAt_size r hr he k (by omega)
    have h1 := num_size _ (he k (by omega)).1
    have h2 := num_size _ (he k (by omega)).2
    simp only [textAt, ByteArray.size_append, ba_size]
    omega

set_option maxHeartbeats 2000000 in
theorem l2Text_any (v : Value) (r : Rec) (w : World) (h : RecV w v r) (hv : isRec r = true) :
    Calls Tryd.prog 32 #[v] w fun e w' => e = .returned (.string (textAt r r.evs.length)) ∧ Below w.heap.size w w' := by
  obtain ⟨s, rfl, h1, hok⟩ := h
  obtain ⟨a1, c1, rfl, hl1, hm1, r1⟩ := h1.evs
  have R1 := Lib.hid r1
  clear h1 r1
  unfold maxLen at hm1
  obtain ⟨v1, v2, v3, v4, v5⟩ := isRec_iff.1 hv
  have n1 := num_size _ hok.1
  have n2 := num_size _ hok.2.1
  have n3 := num_size _ hok.2.2
  have HN : ∀ n : Int, -1099511627776 ≤ n → n ≤ 1099511627776 → ∀ W, Calls Tryd.prog 50 #[.int .i64 n] W fun e w' => e = .returned (.string (num n)) ∧ Below W.heap.size W w' := fun n h0 h1 W => (num_any n W h0 h1).mono fun e w' ⟨x, k, y⟩ => ⟨x, by rw [y]; exact below_drewN (Below.refl _ _) _⟩
  have HNN := Lib.hid HN
  clear HN
  go_enter Tryd.func32, Tryd.ntmps32
  go_wp2_with fail
  generalize hWE : w.alloc (.cells #[.int .i64 r.id, .int .i64 r.series, .int .i64 r.made, .slice a1 r.evs.length c1] 24 (0, 0)) = wE
  have bE : Below w.heap.size w wE := by rw [← hWE]; exact below_al (Below.refl _ _) _
  have p3 : wE.cell? ⟨w.heap.size, 3, none⟩ = some (.slice a1 r.evs.length c1) := by rw [← hWE]; exact cell_new w _ _ 3 rfl
  have k0 := cell_regrown (by rw [← hWE]; exact cell_new w _ _ 0 rfl : wE.cell? ⟨w.heap.size, 0, none⟩ = some (.int .i64 r.id))
  have k1 := cell_regrown (by rw [← hWE]; exact cell_new w _ _ 1 rfl : wE.cell? ⟨w.heap.size, 1, none⟩ = some (.int .i64 r.series))
  have k2 := cell_regrown (by rw [← hWE]; exact cell_new w _ _ 2 rfl : wE.cell? ⟨w.heap.size, 2, none⟩ = some (.int .i64 r.made))
  have hN : ∀ n : Int, -1099511627776 ≤ n → n ≤ 1099511627776 → ∀ d os, Calls Tryd.prog 50 #[.int .i64 n] (grow (redrawn wE d) os) fun e w'' => e = .returned (.string (num n)) ∧ ∃ p : Regrown, w'' = grow (redrawn wE p.d) p.os := fun n h0 h1 d os => Calls.regrown_of (HNN.out n h0 h1 _)
  have HNQ := Lib.hid hN
  clear hWE hN
  have m1 : ¬ 9223372036854775807 < (num r.id).size + 1 := by omega
  have m2 : ¬ 9223372036854775807 < (num r.id).size + 1 + (num r.series).size := by omega
  have m3 : ¬ 9223372036854775807 < (num r.id).size + 1 + (num r.series).size + 1 := by omega
  have m4 : ¬ 9223372036854775807 < (num r.id).size + 1 + (num r.series).size + 1 + (num r.made).size := by omega
  refine wp_region_quiet_below (by kernel_rfl) (by kernel_rfl) ?_
  repeat (go_big_quiet_step (exact HNQ.out _ (by omega) (by omega) _ _))
  refine wpQuiet_nil ?_
  intro _ hw'
  obtain ⟨⟨dq, osq⟩, hw''⟩ := hw'
  subst hw''
  have bq := below_regrown wE dq osq
  generalize grow (redrawn wE dq) osq = w2 at bq ⊢
  replace p3 := cell_kept p3 bq
  replace bE := below_chain bE bq
  go_wp2_with fail
  have hsz0 : (textAt r 0).size ≤ 65 := by simp only [textAt, ByteArray.size_append, ba_size]; omega
  have hevs : evsOk r := fun i hi => by
    have := isEv_iff.1 (isRec_ev hv i hi).1
    exact ⟨by unfold inI; omega, by unfold inI; omega⟩
  have hrng : ∀ i, i < r.evs.length → 1 ≤ (r.evs.getD i evD).kind ∧ (r.evs.getD i evD).kind ≤ 9 ∧ 0 ≤ (r.evs.getD i evD).day ∧ (r.evs.getD i evD).day ≤ 20000 := fun i hi => isEv_iff.1 (isRec_ev hv i hi).1
  have hsize : ∀ k, k ≤ r.evs.length → (textAt r k).size ≤ 65 + k * 44 := fun k hk => textAt_size r hok hevs k hk
  have HSIZE := Lib.hid hsize
  have HRNG := Lib.hid hrng
  have HEVS := Lib.hid hevs
  clear hsize hrng hevs hsz0 k0 k1 k2 m1 m2 m3 m4 HNQ
  go_loopw [3, 4] (fun t i wr => ∃ (k : Nat) (T : ByteArray), k ≤ r.evs.length ∧ i = .int .i64 k ∧ t = .string T ∧ Hid (textAt r k = T) ∧ Below w.heap.size w wr ∧ wr.cell? ⟨w.heap.size, 3, none⟩ = some (.slice a1 r.evs.length c1)) (fun _ i _ => r.evs.length - (intOf i).toNat)
  case atStart => exact ⟨0, _, Nat.zero_le _, rfl, rfl, rfl, bE, p3⟩
  case round =>
    clear p3 bq bE
    obtain ⟨k, T, hk, rfl, rfl, HT, hb, p3⟩ := hrel
    by_cases hlt : k < r.evs.length
    · obtain ⟨b1, o1, hb1, rfl, e1⟩ := R1.out.resolve_left (fun e => by rw [e] at hlt; simp at hlt)
      obtain ⟨q1, q2, hok⟩ := e1 k hlt
      have hr := HRNG.out k hlt
      have hs := HSIZE.out k hk
      rw [HT.out] at hs
      obtain ⟨⟨x, y⟩, hx⟩ : ∃ s, r.evs.getD k evD = s := ⟨_, rfl⟩
      rw [hx] at q1 q2 hr hok
      simp only at q1 q2 hr
      have f1 := cell_kept q1 hb
      have f2 := cell_kept q2 hb
      have n4 := num_size x hok.1
      have n5 := num_size y hok.2
      have HX := Lib.hid hx
      have g0 : (0 : Int) ≤ (k : Int) := by omega
      have g1 : (k : Int) < (r.evs.length : Int) := by omega
      have hw := hb.size
      have k1 := cell_regrown f1
      have k2 := cell_regrown f2
      have k3 := cell_regrown p3
      have hN : ∀ n : Int, -1099511627776 ≤ n → n ≤ 1099511627776 → ∀ d os, Calls Tryd.prog 50 #[.int .i64 n] (grow (redrawn wr d) os) fun e w'' => e = .returned (.string (num n)) ∧ ∃ p : Regrown, w'' = grow (redrawn wr p.d) p.os := fun n h0 h1 d os => Calls.regrown_of (HNN.out n h0 h1 _)
      have HNQ := Lib.hid hN
      clear q1 q2 hx e1 hok hN f1 f2
      have m1 : ¬ 9223372036854775807 < T.size + 1 := by omega
      have m2 : ¬ 9223372036854775807 < T.size + 1 + (num x).size := by omega
      have m3 : ¬ 9223372036854775807 < T.size + 1 + (num x).size + 1 := by omega
      have m4 : ¬ 9223372036854775807 < T.size + 1 + (num x).size + 1 + (num y).size := by omega
      go_wp2_with fail
      refine wp_region_quiet_below (by kernel_rfl) (by kernel_rfl) ?_
      repeat (go_big_quiet_step (exact HNQ.out _ (by omega) (by omega) _ _))
      refine wpQuiet_nil ?_
      intro _ hw'
      obtain ⟨⟨dq', osq'⟩, hw''⟩ := hw'
      subst hw''
      have bq := below_regrown wr dq' osq'
      generalize grow (redrawn wr dq') osq' = w3 at bq ⊢
      replace p3 := cell_kept p3 bq
      go_wp2_with fail
      go_roundw
      case rel => exact ⟨k + 1, _, by omega, by go_num, rfl, (by show textAt r k ++ ba 32 ++ num (r.evs.getD k evD).kind ++ ba 64 ++ num (r.evs.getD k evD).day = _; rw [HX.out, HT.out]; rfl), hb.trans (bq.mono hw), p3⟩
      case measure => simp [intOf]; omega
    · obtain rfl : k = r.evs.length := by omega
      go_wp2_with fail
      go_ret
      exact ⟨ret_str (Eq.symm HT.out), hb⟩

/-- What RecordText answers. -/
def textRes (r : Rec) : ByteArray × Bool := if isRec r = true then (textAt r r.evs.length, true) else (⟨#[]⟩, false)


end Go.Proofs.YtapbajficopnlaaDoor
