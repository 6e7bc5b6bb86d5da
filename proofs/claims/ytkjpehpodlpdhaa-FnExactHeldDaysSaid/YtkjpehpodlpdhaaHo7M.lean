/- On how many days a record is held: what HeldDays answers (chapter 9). No program is named here. -/
import Derived.Test.YtkjpehpodlpdhaaHoM
namespace Go.Proofs.Ytkjpehpodlpdhaa
set_option linter.unusedVariables false

/-- How many numbers below n have p. -/
def cntP (p : Nat → Bool) (n : Nat) : Nat := (List.range n).countP p
theorem cntP_succ (p : Nat → Bool) (n : Nat) : cntP p (n + 1) = cntP p n + if p n = true then 1 else 0 := by
  unfold cntP
  rw [List.range_succ, List.countP_append, List.countP_cons, List.countP_nil]
  simp
theorem cntP_run {p : Nat → Bool} {a : Nat} : ∀ {b : Nat}, a ≤ b → (∀ x, a ≤ x → x < b → p x = true) → cntP p b = cntP p a + (b - a)
  | 0, h, _ => by obtain rfl : a = 0 := by omega
                  simp
  | b + 1, h, hp => by
    rcases Nat.lt_or_ge a (b + 1) with h1 | h1
    · rw [cntP_succ, if_pos (hp b (by omega) (by omega)), cntP_run (by omega : a ≤ b) (fun x h2 h3 => hp x h2 (by omega))]
      omega
    · obtain rfl : a = b + 1 := by omega
      simp
theorem cntP_gap {p : Nat → Bool} {a : Nat} : ∀ {b : Nat}, a ≤ b → (∀ x, a ≤ x → x < b → p x = false) → cntP p b = cntP p a
  | 0, h, _ => by obtain rfl : a = 0 := by omega
                  rfl
  | b + 1, h, hp => by
    rcases Nat.lt_or_ge a (b + 1) with h1 | h1
    · rw [cntP_succ, if_neg (by rw [hp b (by omega) (by omega)]; simp), cntP_gap (by omega : a ≤ b) (fun x h2 h3 => hp x h2 (by omega))]
      rfl
    · obtain rfl : a = b + 1 := by omega
      rfl
theorem cntP_or {p q : Nat → Bool} {a b : Nat} (h1 : ∀ x, q x = (p x || decide (a ≤ x ∧ x < b))) (h2 : ∀ x, a ≤ x → x < b → p x = false) : ∀ n, cntP q n = cntP p n + (min n b - min n a)
  | 0 => by simp [cntP]
  | n + 1 => by
    rw [cntP_succ, cntP_succ, cntP_or h1 h2 n, h1 n]
    by_cases h : a ≤ n ∧ n < b
    · rw [h2 n h.1 h.2, decide_eq_true h]
      simp
      omega
    · rw [decide_eq_false h]
      rcases p n with _ | _
      · simp; omega
      · simp; omega
theorem cntP_none (n : Nat) : cntP (fun _ => false) n = 0 := by unfold cntP; simp
theorem cntP_congr {p q : Nat → Bool} (h : ∀ x, p x = q x) (n : Nat) : cntP p n = cntP q n := by rw [show p = q from funext h]
theorem cntP_le (p : Nat → Bool) (n : Nat) : cntP p n ≤ n := by have := List.countP_le_length (p := p) (l := List.range n); simpa [cntP] using this

def heldP (t : List Ho) (r : Rec) (x : Nat) : Bool := heldB t r (x : Int)
def daysH (t : List Ho) (r : Rec) : Int := (cntP (heldP t r) 20001 : Nat)
def hdRes (t : List Ho) (r : Rec) : Int × Bool := if areHo t = true ∧ isRec r = true then (daysH t r, true) else (0, false)
theorem hdRes_no {t : List Ho} {r : Rec} {n : Int} {b : Bool} (h : hdRes t r = (n, b)) (hn : ¬ (areHo t = true ∧ isRec r = true)) : n = 0 ∧ b = false := by
  unfold hdRes at h; rw [if_neg hn] at h; obtain ⟨h1, h2⟩ := Prod.mk.inj h; exact ⟨h1.symm, h2.symm⟩
theorem hdRes_yes {t : List Ho} {r : Rec} {n : Int} {b : Bool} (h : hdRes t r = (n, b)) (hn : areHo t = true ∧ isRec r = true) : n = daysH t r ∧ b = true := by
  unfold hdRes at h; rw [if_pos hn] at h; obtain ⟨h1, h2⟩ := Prod.mk.inj h; exact ⟨h1.symm, h2.symm⟩

/-- The model's count up to a day. -/
structure HdM (t : List Ho) (r : Rec) (n d : Int) : Prop where
  lo : 0 ≤ d
  hi : d ≤ 20001
  num : n = (cntP (heldP t r) d.toNat : Nat)
theorem HdM.start (t : List Ho) (r : Rec) : HdM t r 0 0 := ⟨by omega, by omega, by simp [cntP]⟩
theorem HdM.done {t : List Ho} {r : Rec} {n : Int} (h : HdM t r n 20001) : n = daysH t r := h.num
theorem HdM.bound {t : List Ho} {r : Rec} {n d : Int} (h : HdM t r n d) : 0 ≤ n ∧ n ≤ 20001 := by
  have h1 := cntP_le (heldP t r) d.toNat
  have := h.num; have := h.lo; have := h.hi
  omega
/-- What the model's inner loop finds: the first day behind F on which a hold begins to cover. -/
structure NxM (t : List Ho) (r : Rec) (F : Int) (j : Nat) (x : Int) : Prop where
  gt : F < x ∨ x = 20001
  hi : x ≤ 20001
  le : ∀ i, i < j → F < (t.getD i hoD).frm → covB (t.getD i hoD) r (t.getD i hoD).frm = true → x ≤ (t.getD i hoD).frm
theorem NxM.start (t : List Ho) (r : Rec) (F : Int) : NxM t r F 0 20001 := ⟨.inr rfl, Int.le_refl _, fun i h => absurd h (Nat.not_lt_zero _)⟩
theorem NxM.skip {t : List Ho} {r : Rec} {F : Int} {j : Nat} {x : Int} (h : NxM t r F j x) (hn : ¬ (F < (t.getD j hoD).frm ∧ covB (t.getD j hoD) r (t.getD j hoD).frm = true)) : NxM t r F (j + 1) x := by
  refine ⟨h.gt, h.hi, fun i hi h1 h2 => ?_⟩
  rcases Nat.lt_or_ge i j with h3 | h3
  · exact h.le i h3 h1 h2
  · obtain rfl : i = j := by omega
    exact absurd ⟨h1, h2⟩ hn
theorem NxM.take {t : List Ho} {r : Rec} {F : Int} {j : Nat} {x y : Int} (h : NxM t r F j x) (h1 : F < (t.getD j hoD).frm) (h2 : (t.getD j hoD).frm ≤ 20000) (hy : y = if x < (t.getD j hoD).frm then x else (t.getD j hoD).frm) : NxM t r F (j + 1) y := by
  have hg := h.gt
  have hh := h.hi
  refine ⟨?_, ?_, fun i hi h3 h4 => ?_⟩
  · rw [hy]; split <;> omega
  · rw [hy]; split <;> omega
  · rcases Nat.lt_or_ge i j with h5 | h5
    · have := h.le i h5 h3 h4
      rw [hy]; split <;> omega
    · obtain rfl : i = j := by omega
      rw [hy]; split <;> omega
theorem HdM.step {t : List Ho} {r : Rec} {n d F x : Int} (h : HdM t r n d) (hd : d ≤ 20000) (hF : freeF t r d = F) (hx : NxM t r F t.length x) (ht : areHo t = true) : HdM t r (n + F - d) x ∧ d < x := by
  obtain ⟨f1, f2⟩ := free_told (t := t) (r := r) h.lo
  obtain ⟨f3, f4⟩ := free_ge (t := t) (r := r) h.lo h.hi
  rw [hF] at f1 f2 f3 f4
  have hl := h.lo
  have hg := hx.gt
  have hh := hx.hi
  have e1 : cntP (heldP t r) F.toNat = cntP (heldP t r) d.toNat + (F.toNat - d.toNat) := cntP_run (by omega) (fun y h1 h2 => f1 y (by omega) (by omega))
  have e2 : cntP (heldP t r) x.toNat = cntP (heldP t r) F.toNat := cntP_gap (by omega) (fun y h1 h2 => by
    rcases hb : heldP t r y with _ | _
    · rfl
    · exfalso
      obtain ⟨k, hk, hc⟩ := heldB_iff.1 hb
      obtain ⟨i, hi, rfl⟩ := List.getElem_of_mem hk
      rw [← getHo_lt hi] at hc
      have hone := endH_bd (ho_at ht hi)
      obtain ⟨⟨q1, q2⟩, q3⟩ := covB_iff.1 hc
      rcases f2 with f2 | ⟨_, f5, f6⟩
      · omega
      · rcases Int.lt_or_le F (t.getD i hoD).frm with h3 | h3
        · have := hx.le i hi h3 (covB_iff.2 ⟨⟨Int.le_refl _, hone.1⟩, q3⟩)
          omega
        · have := held_at hi (covB_iff.2 ⟨⟨h3, (by omega : F < endH (t.getD i hoD))⟩, q3⟩)
          rw [f6] at this; cases this)
  have hn := h.num
  refine ⟨⟨by omega, hh, by rw [e2, e1]; omega⟩, ?_⟩
  rcases hg with hg | hg <;> omega

/-- The program's count: over the holds in the order in which they begin. -/
def someP (ys : List Ho) (r : Rec) (x : Nat) : Bool := ys.any (fun h => covB h r (x : Int))
structure HdP (ys : List Ho) (r : Rec) (k : Nat) (n c : Int) : Prop where
  num : n = (cntP (someP (ys.take k) r) 20001 : Nat)
  lo : 0 ≤ c
  hi : c ≤ 20001
  le : ∀ i, i < k → conB (ys.getD i hoD) r = true → endH (ys.getD i hoD) ≤ c
  at_ : c = 0 ∨ ∃ i, i < k ∧ conB (ys.getD i hoD) r = true ∧ endH (ys.getD i hoD) = c
theorem HdP.start (ys : List Ho) (r : Rec) : HdP ys r 0 0 0 := by
  refine ⟨?_, by omega, by omega, fun i h => absurd h (Nat.not_lt_zero _), .inl rfl⟩
  rw [List.take_zero, show someP [] r = (fun _ => false) from rfl, cntP_none]
  rfl
theorem HdP.bound {ys : List Ho} {r : Rec} {k : Nat} {n c : Int} (h : HdP ys r k n c) : 0 ≤ n ∧ n ≤ 20001 := by
  have h1 := cntP_le (someP (ys.take k) r) 20001
  have := h.num
  omega
theorem someP_succ {ys : List Ho} {r : Rec} {k : Nat} (h : k < ys.length) (x : Nat) : someP (ys.take (k + 1)) r x = (someP (ys.take k) r x || covB (ys.getD k hoD) r (x : Int)) := by
  unfold someP
  rw [List.take_succ_eq_append_getElem h, List.any_append, getHo_lt h]
  simp
theorem HdP.skip {ys : List Ho} {r : Rec} {k : Nat} {n c : Int} (h : HdP ys r k n c) (hk : k < ys.length) (hs : ∀ i j, i < j → j < ys.length → (ys.getD i hoD).frm ≤ (ys.getD j hoD).frm) (hn : conB (ys.getD k hoD) r = false ∨ endH (ys.getD k hoD) ≤ c) : HdP ys r (k + 1) n c := by
  refine ⟨?_, h.lo, h.hi, fun i hi hc => ?_, ?_⟩
  · rw [h.num]
    refine congrArg (fun m : Nat => (m : Int)) (cntP_congr (fun x => ?_) 20001)
    rw [someP_succ hk]
    rcases hn with hn | hn
    · rw [show covB (ys.getD k hoD) r (x : Int) = false by unfold covB; rw [hn]; simp]; simp
    · rcases hcv : covB (ys.getD k hoD) r (x : Int) with _ | _
      · simp
      · obtain ⟨⟨q1, q2⟩, q3⟩ := covB_iff.1 hcv
        rcases h.at_ with e | ⟨i, hi, hc, he⟩
        · omega
        · have : someP (ys.take k) r x = true := by
            unfold someP
            have hil : i < ys.length := by omega
            refine List.any_eq_true.2 ⟨ys.getD i hoD, ?_, covB_iff.2 ⟨⟨?_, by omega⟩, hc⟩⟩
            · rw [getHo_lt hil]
              have hit : i < (ys.take k).length := by rw [List.length_take]; omega
              have := List.getElem_mem hit
              rwa [List.getElem_take] at this
            · have := hs i k hi hk
              omega
          rw [this]; rfl
  · rcases Nat.lt_or_ge i k with h1 | h1
    · exact h.le i h1 hc
    · obtain rfl : i = k := by omega
      rcases hn with hn | hn
      · rw [hn] at hc; cases hc
      · exact hn
  · rcases h.at_ with e | ⟨i, hi, hc, he⟩
    · exact .inl e
    · exact .inr ⟨i, by omega, hc, he⟩
theorem HdP.take {ys : List Ho} {r : Rec} {k : Nat} {n c : Int} (h : HdP ys r k n c) (hk : k < ys.length) (hone : hoOne (ys.getD k hoD) = true) (hs : ∀ i j, i < j → j < ys.length → (ys.getD i hoD).frm ≤ (ys.getD j hoD).frm) (hc : conB (ys.getD k hoD) r = true) (he : c < endH (ys.getD k hoD)) : HdP ys r (k + 1) (n + (endH (ys.getD k hoD) - max (ys.getD k hoD).frm c)) (endH (ys.getD k hoD)) := by
  have hb := endH_bd hone
  have hl := h.lo
  have key := cntP_or (p := someP (ys.take k) r) (q := someP (ys.take (k + 1)) r) (a := (max (ys.getD k hoD).frm c).toNat) (b := (endH (ys.getD k hoD)).toNat)
    (fun x => by
      rw [someP_succ hk]
      rcases hp : someP (ys.take k) r x with _ | _
      · rw [Bool.false_or, Bool.false_or]
        by_cases hx : (max (ys.getD k hoD).frm c).toNat ≤ x ∧ x < (endH (ys.getD k hoD)).toNat
        · rw [decide_eq_true hx]
          exact covB_iff.2 ⟨⟨by omega, by omega⟩, hc⟩
        · rw [decide_eq_false hx]
          rcases hcv : covB (ys.getD k hoD) r (x : Int) with _ | _
          · rfl
          · exfalso
            obtain ⟨⟨q1, q2⟩, _⟩ := covB_iff.1 hcv
            rcases h.at_ with e | ⟨i, hi, hci, hei⟩
            · exact hx ⟨by omega, by omega⟩
            · have h5 := hs i k hi hk
              rcases Int.lt_or_le (x : Int) c with h6 | h6
              · have hil : i < ys.length := by omega
                have : someP (ys.take k) r x = true := by
                  unfold someP
                  refine List.any_eq_true.2 ⟨ys.getD i hoD, ?_, covB_iff.2 ⟨⟨by omega, by omega⟩, hci⟩⟩
                  rw [getHo_lt hil]
                  have hit : i < (ys.take k).length := by rw [List.length_take]; omega
                  have := List.getElem_mem hit
                  rwa [List.getElem_take] at this
                rw [hp] at this; cases this
              · exact hx ⟨by omega, by omega⟩
      · simp)
    (fun x h1 h2 => by
      rcases hp : someP (ys.take k) r x with _ | _
      · rfl
      · exfalso
        unfold someP at hp
        obtain ⟨y, hy, hcv⟩ := List.any_eq_true.1 hp
        obtain ⟨i, hi, rfl⟩ := List.getElem_of_mem hy
        rw [List.length_take] at hi
        rw [List.getElem_take, ← getHo_lt (by omega)] at hcv
        obtain ⟨⟨q1, q2⟩, q3⟩ := covB_iff.1 hcv
        have := h.le i (by omega) q3
        omega) 20001
  refine ⟨?_, by omega, hb.2.1, fun i hi hci => ?_, .inr ⟨k, Nat.lt_succ_self _, hc, rfl⟩⟩
  · rw [key, h.num]
    omega
  · rcases Nat.lt_or_ge i k with h1 | h1
    · have := h.le i h1 hci; omega
    · obtain rfl : i = k := by omega
      exact Int.le_refl _
theorem HdP.done {ys t : List Ho} {r : Rec} {n c : Int} (h : HdP ys r ys.length n c) (hp : ys.Perm t) : n = daysH t r := by
  rw [h.num, List.take_length]
  unfold daysH
  refine congrArg (fun m : Nat => (m : Int)) (cntP_congr (fun x => ?_) 20001)
  unfold someP heldP heldB
  rw [Bool.eq_iff_iff, List.any_eq_true, List.any_eq_true]
  exact ⟨fun ⟨y, hy, hc⟩ => ⟨y, hp.mem_iff.1 hy, hc⟩, fun ⟨y, hy, hc⟩ => ⟨y, hp.mem_iff.2 hy, hc⟩⟩
end Go.Proofs.Ytkjpehpodlpdhaa
