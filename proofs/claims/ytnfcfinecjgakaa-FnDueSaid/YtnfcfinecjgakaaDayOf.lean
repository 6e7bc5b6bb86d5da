/- DayOf, the model's and the program's: the day of a kind in a valid record. -/
import Derived.Test.YtnfcfinecjgakaaIsRecI
import Derived.Test.YtnfcfinecjgakaaSearch
namespace Go.Proofs.Ytnfcfinecjgakaa
set_option linter.unusedVariables false
open Go.RowKit Go.Sort

/-- What DayOf answers. -/
def dayRes (r : Rec) (k : Int) : Int × Bool := if isRec r = true ∧ 0 ≤ dayOf r k then (dayOf r k, true) else (0, false)

set_option maxHeartbeats 2000000 in
theorem l2DayOf_any (v : Value) (r : Rec) (kd : Int) (w : World) (h : RecV w v r) :
    Calls Try.prog 121 #[v, .int .i64 kd] w fun e w' => e = .returned (.int .i64 (dayOf r kd)) ∧ Below w.heap.size w w' := by
  obtain ⟨s, rfl, h1, hok⟩ := h
  obtain ⟨a1, c1, rfl, hl1, hm1, r1⟩ := h1.evs
  have R1 := Lib.hid r1
  clear h1 r1
  unfold maxLen at hm1
  by_cases hk0 : kd = 0
  · subst hk0
    go_enter Try.func121, Try.ntmps121
    go_wp2_with fail
    go_ret
    exact ⟨ret_int (by rw [dayOf_zero]), below_al (Below.refl _ _) _⟩
  · have hne : (kd == 0) = false := by simp [hk0]
    have HK0 := Lib.hid hk0
    clear hk0
    go_enter Try.func121, Try.ntmps121
    go_wp2_with fail
    go_loopw [5] (fun i wr => ∃ k : Nat, k ≤ r.evs.length ∧ i = .int .i64 k ∧ Hid (∀ j, j < k → (r.evs.getD j evD).kind ≠ kd) ∧ Below w.heap.size w wr ∧ wr.cell? ⟨w.heap.size, 3, none⟩ = some (.slice a1 r.evs.length c1)) (fun i _ => r.evs.length - (intOf i).toNat)
    case atStart => exact ⟨0, Nat.zero_le _, rfl, Lib.hid (fun j hj => absurd hj (Nat.not_lt_zero _)), below_al (Below.refl _ _) _, cell_new w _ _ 3 rfl⟩
    case round =>
      obtain ⟨k, hk, rfl, I, hb, p3⟩ := hrel
      by_cases hlt : k < r.evs.length
      · obtain ⟨b1, o1, hb1, rfl, e1⟩ := R1.out.resolve_left (fun e => by rw [e] at hlt; simp at hlt)
        obtain ⟨⟨x, y⟩, hx⟩ : ∃ s, r.evs.getD k evD = s := ⟨_, rfl⟩
        obtain ⟨q1, q2, hok⟩ := e1 k hlt
        rw [hx] at q1 q2 hok
        have f1 := cell_kept q1 hb
        have f2 := cell_kept q2 hb
        simp only at f1 f2
        have HX := Lib.hid hx
        have g0 : (0 : Int) ≤ (k : Int) := by omega
        have g1 : (k : Int) < (r.evs.length : Int) := by omega
        clear q1 q2 hx e1 hok
        by_cases hq : x = kd
        · have eq1 : (x == kd) = true := by simp [hq]
          have HQ := Lib.hid hq
          clear hq
          go_wp2_with fail
          go_ret
          exact ⟨ret_int (Eq.symm (by rw [dayOf_hit HK0.out hlt I.out (by rw [HX.out]; exact HQ.out), HX.out])), hb⟩
        · have eq1 : (x == kd) = false := by simp [hq]
          have HQ := Lib.hid hq
          clear hq
          go_wp2_with fail
          go_roundw
          case rel =>
            refine ⟨k + 1, by omega, by go_num, Lib.hid (fun j hj => ?_), hb, p3⟩
            rcases Nat.lt_or_ge j k with h' | h'
            · exact I.out j h'
            · obtain rfl : j = k := by omega
              rw [HX.out]
              exact HQ.out
          case measure => simp [intOf]; omega
      · obtain rfl : k = r.evs.length := by omega
        go_wp2_with fail
        go_ret
        exact ⟨ret_int (Eq.symm (dayOf_miss HK0.out I.out)), hb⟩


set_option maxHeartbeats 2000000 in
theorem implDayOf_any (v : Value) (r : Rec) (kd : Int) (w : World) (h : RecV w v r) (n : Int) (b : Bool) (hkd : inI kd) (hn : r.evs.length ≤ 1099511627776) (hres : dayRes r kd = (n, b)) :
    Calls Try.prog 18 #[v, .int .i64 kd] w fun e w' => e = .returned (.tuple #[.int .i64 n, .bool b]) ∧ Below w.heap.size w w' := by
  obtain ⟨s, rfl, h1, hok⟩ := h
  have hV : ∀ W, Below w.heap.size w W → RecV W (.agg #[.int .i64 r.id, .int .i64 r.series, .int .i64 r.made, s]) r := fun W hb => ⟨s, rfl, h1.below rEv_stable hb, hok⟩
  have HV := Lib.hid hV
  obtain ⟨a1, c1, rfl, hl1, hm1, r1⟩ := h1.evs
  have R1 := Lib.hid r1
  have H1 := Lib.hid h1
  clear hV hok h1 r1
  unfold maxLen at hm1
  obtain ⟨br, hr⟩ : ∃ b, isRec r = b := ⟨_, rfl⟩
  unfold dayRes at hres
  rw [hr] at hres
  have HR := Lib.hid hr
  cases br
  · rw [if_neg (by simp)] at hres
    obtain ⟨rfl, rfl⟩ := Prod.mk.inj hres
    clear hres hr
    go_enter Try.func18, Try.ntmps18
    go_wp2_with (first | (go_at_call 73; refine (implIsRecord_any _ r _ (HV.out _ (below_al (Below.refl _ _) _))).mono ?_; rw [HR.out]; rintro e w1 ⟨rfl, b1⟩))
    go_ret2
    exact ⟨rfl, below_chain (below_al (Below.refl _ _) _) b1⟩
  · by_cases hk0 : kd = 0
    · subst hk0
      rw [dayOf_zero, if_pos ⟨rfl, (isRec_iff.1 hr).2.2.1.1⟩] at hres
      obtain ⟨rfl, rfl⟩ := Prod.mk.inj hres
      clear hres hr
      go_enter Try.func18, Try.ntmps18
      go_wp2_with (first | (go_at_call 73; refine (implIsRecord_any _ r _ (HV.out _ (below_al (Below.refl _ _) _))).mono ?_; rw [HR.out]; rintro e w1 ⟨rfl, b1⟩; have p2 := cell_kept (cell_new w _ _ 2 rfl) b1))
      go_ret2
      exact ⟨rfl, below_chain (below_al (Below.refl _ _) _) b1⟩
    · have hne : (kd == 0) = false := by simp [hk0]
      have hp := dayOf_place hr hk0
      have hsn := isRec_sorted hr
      have hng := dayOf_neg hr kd
      have HS := Lib.hid hsn
      obtain ⟨f, hf⟩ : ∃ f, foundK r.evs kd = f := ⟨_, rfl⟩
      obtain ⟨p, hpl⟩ : ∃ p, placeK r.evs kd = p := ⟨_, rfl⟩
      rw [hf] at hp hng
      rw [hpl] at hp
      have hpf : foundK r.evs kd = (decide (p < r.evs.length) && decide ((r.evs.getD p evD).kind = kd)) := by unfold foundK; rw [hpl]
      cases f
      · rw [if_neg (fun h => by have := hng.1 h.2; simp [hk0] at this)] at hres
        obtain ⟨rfl, rfl⟩ := Prod.mk.inj hres
        have HF := Lib.hid hf
        have HP := Lib.hid hpl
        clear hres hr hp hng hsn hpf hf hpl hk0
        go_enter Try.func18, Try.ntmps18
        go_wp2_with (first | (go_at_call 73; refine (implIsRecord_any _ r _ (HV.out _ (below_al (Below.refl _ _) _))).mono ?_; rw [HR.out]; rintro e w1 ⟨rfl, b1⟩; have p3 := cell_kept (cell_new w _ _ 3 rfl) b1; replace b1 := below_chain (below_al (Below.refl w.heap.size w) _) b1) | (go_at_call 74; refine (placeOfKind_any _ r.evs kd _ (H1.out.below rEv_stable b1) HS.out hkd hn).mono ?_; rw [HP.out, HF.out]; rintro e w2 ⟨rfl, b2⟩))
        go_ret2
        exact ⟨rfl, below_chain b1 b2⟩
      · rw [if_pos ⟨rfl, hng.2 (Or.inr rfl)⟩, hp, if_pos rfl] at hres
        obtain ⟨rfl, rfl⟩ := Prod.mk.inj hres
        rw [hf] at hpf
        have hlt : p < r.evs.length := by have := hpf.symm; simp at this; exact this.1
        have HF := Lib.hid hf
        have HP := Lib.hid hpl
        obtain ⟨b0, o0, hb0, rfl, e1⟩ := R1.out.resolve_left (fun e => by rw [e] at hlt; simp at hlt)
        obtain ⟨q1, q2, _⟩ := e1 p hlt
        obtain ⟨y, hy⟩ : ∃ y, (r.evs.getD p evD).day = y := ⟨_, rfl⟩
        rw [hy] at q2 ⊢
        have g0 : (0 : Int) ≤ (p : Int) := by omega
        have g1 : (p : Int) < (r.evs.length : Int) := by omega
        clear hres hr hp hng hsn hpf hf hpl hk0 e1 q1 hy
        go_enter Try.func18, Try.ntmps18
        go_wp2_with (first | (go_at_call 73; refine (implIsRecord_any _ r _ (HV.out _ (below_al (Below.refl _ _) _))).mono ?_; rw [HR.out]; rintro e w1 ⟨rfl, b1⟩; have p3 := cell_kept (cell_new w _ _ 3 rfl) b1; replace b1 := below_chain (below_al (Below.refl w.heap.size w) _) b1) | (go_at_call 74; refine (placeOfKind_any _ r.evs kd _ (H1.out.below rEv_stable b1) HS.out hkd hn).mono ?_; rw [HP.out, HF.out]; rintro e w2 ⟨rfl, b2⟩; replace p3 := cell_kept p3 b2; replace b1 := below_chain b1 b2; have f2 := cell_kept q2 b1))
        go_ret2
        exact ⟨rfl, b1⟩
end Go.Proofs.Ytnfcfinecjgakaa
