/- ReleaseHold as plain mathematics. No program is named here. -/
import Derived.Test.YtkjpehpodlpdhaaHoM
namespace Go.Proofs.Ytkjpehpodlpdhaa
set_option linter.unusedVariables false

def relAt (t : List Ho) (x : Int) : Int := gIdx (fun h : Ho => decide (h.id = x)) t
def setTil (h : Ho) (d : Int) : Ho := ⟨h.id, h.frm, d, h.ser, h.fst, h.lst⟩
def relPut (t : List Ho) (k : Nat) (d : Int) : List Ho := t.set k (setTil (t.getD k hoD) d)
def relRes (t : List Ho) (x d : Int) : List Ho × Bool :=
  if areHo t = true ∧ (0 ≤ d ∧ d ≤ 20000) ∧ 0 ≤ relAt t x ∧ (t.getD (relAt t x).toNat hoD).til = -1 ∧ (t.getD (relAt t x).toNat hoD).frm < d then (relPut t (relAt t x).toNat d, true) else ([], false)
theorem relPut_len (t : List Ho) (k : Nat) (d : Int) : (relPut t k d).length = t.length := by simp [relPut]
theorem ho_uniq {t : List Ho} (h : areHo t = true) {i j : Nat} (hi : i < t.length) (hj : j < t.length) (e : (t.getD i hoD).id = (t.getD j hoD).id) : i = j := by
  rcases Nat.lt_trichotomy i j with hl | hl | hl
  · have := ho_asc h (j - i - 1) i (by omega)
    rw [show i + (j - i - 1) + 1 = j by omega] at this
    omega
  · exact hl
  · have := ho_asc h (i - j - 1) j (by omega)
    rw [show j + (i - j - 1) + 1 = i by omega] at this
    omega
theorem relAt_is {t : List Ho} {x : Int} {k : Nat} (ha : areHo t = true) (hk : k < t.length) (h1 : (t.getD k hoD).id = x) : relAt t x = (k : Int) := by
  refine gIdx_is (d := hoD) hk (fun j hj => ?_) (by simpa using h1)
  refine decide_eq_false fun e => ?_
  have := ho_uniq ha (i := j) (j := k) (by omega) hk (by rw [e, h1])
  omega
theorem rel_yes {t : List Ho} {x d : Int} {k : Nat} (ha : areHo t = true) (hk : k < t.length) (h1 : (t.getD k hoD).id = x) (h2 : (t.getD k hoD).til = -1) (h3 : (t.getD k hoD).frm + 1 ≤ d) (h4 : d ≤ 20000) : relRes t x d = (relPut t k d, true) := by
  have hf := (hoOne_iff.1 (ho_at ha hk)).2.1.1.1
  unfold relRes
  rw [relAt_is ha hk h1, Int.toNat_natCast, if_pos ⟨ha, ⟨by omega, h4⟩, by omega, h2, by omega⟩]
theorem rel_no {t : List Ho} {x d : Int} (h : areHo t = true → ∀ j, j < t.length → ¬ ((t.getD j hoD).id = x ∧ (t.getD j hoD).til = -1 ∧ (t.getD j hoD).frm + 1 ≤ d ∧ d ≤ 20000)) : relRes t x d = ([], false) := by
  unfold relRes
  refine if_neg ?_
  rintro ⟨ha, hd, hp, ht, hf⟩
  rcases gIdx_cases hoD (fun h : Ho => decide (h.id = x)) t with ⟨e, _⟩ | ⟨k, e, hk, hx, _⟩
  · unfold relAt at hp; omega
  · have e' : relAt t x = (k : Int) := e
    rw [e', Int.toNat_natCast] at ht hf
    exact h ha k hk ⟨by simpa using hx, ht, by omega, hd.2⟩
theorem rel_len (t : List Ho) (x d : Int) : (relRes t x d).1.length ≤ t.length := by
  unfold relRes
  split
  · simp [relPut_len]
  · simp
end Go.Proofs.Ytkjpehpodlpdhaa
