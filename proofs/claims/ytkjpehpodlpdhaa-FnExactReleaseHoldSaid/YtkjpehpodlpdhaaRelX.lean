/- ReleaseHold: what the law asks of its answers. -/
import Derived.Test.YtkjpehpodlpdhaaRelS
import Derived.Test.YtkjpehpodlpdhaaRelI
import Derived.Test.YtkjpehpodlpdhaaMarkFHo
namespace Go.Proofs.Ytkjpehpodlpdhaa
set_option linter.unusedVariables false
open Go.RowKit

/-- A list of holds that was read at an earlier world. -/
def HosR (hi : Nat) (w : World) (v : Value) (xs : List Ho) : Prop := ∃ w0 : World, RowR 6 rHo w0 v xs ∧ Below w0.heap.size w0 w ∧ w0.heap.size ≤ hi
theorem HosR.below {hi : Nat} {w w' : World} {v : Value} {xs : List Ho} (h : HosR hi w v xs) (hb : Below w.heap.size w w') : HosR hi w' v xs := by
  obtain ⟨w0, a, b, c⟩ := h
  exact ⟨w0, a, b.trans (hb.mono b.size), c⟩
theorem HosR.only2 {hi lo' hi' : Nat} {w w' : World} {v : Value} {xs : List Ho} (h : HosR hi w v xs) (on : Only lo' hi' w w') (hh : hi ≤ lo') : HosR hi w' v xs := by
  obtain ⟨w0, a, b, c⟩ := h
  have hs := b.size
  exact ⟨w0, a, b.trans ⟨on.os, on.tape, on.output, on.size, fun k hk => on.block k (by omega) (.inl (by omega))⟩, c⟩
theorem HosR.row {hi : Nat} {w : World} {v : Value} {xs : List Ho} (h : HosR hi w v xs) : RowR 6 rHo w v xs := by
  obtain ⟨w0, a, b, c⟩ := h
  exact a.below rHo_stable b
theorem specReleaseR_any (v : Value) (t : List Ho) (x d : Int) (w : World) (h : RowR 6 rHo w v t) (hd : inI d) (hn : t.length ≤ 1048576) (hs : ∀ i (h : i < t.length), t[i].ser.length ≤ 1048576) (res : List Ho) (b : Bool) (hres : relRes t x d = (res, b)) :
    Calls Try.prog 32 #[v, .int .i64 x, .int .i64 d] w fun e w' => ∃ v', e = .returned (.tuple #[v', .bool b]) ∧ HosR w'.heap.size w' v' res ∧ Below w.heap.size w w' := by
  refine (specRelease_any v t x d res b hres w h hd hn hs).mono ?_
  rintro e w' ⟨v', rfl, hr, hb⟩
  exact ⟨v', rfl, ⟨w', hr, Below.refl _ _, Nat.le_refl _⟩, hb⟩
theorem msHo_put (t : List Ho) (p : Nat) (d : Int) : msHo (relPut t p d) = msHo t := by
  unfold msHo relPut
  rw [List.map_set]
  rcases Nat.lt_or_ge p t.length with h | h
  · have : (t.map (fun x => x.ser.length)).set p (setTil (t.getD p hoD) d).ser.length = t.map (fun x => x.ser.length) := by
      refine List.ext_getElem (by simp) (fun i h1 h2 => ?_)
      rw [List.getElem_set]
      split
      · subst_vars; simp only [setTil, getHo_lt h, List.getElem_map]
      · rfl
    rw [this]
  · rw [List.set_eq_of_length_le (by simpa using h)]
theorem rel_ms {t : List Ho} {x d : Int} {res : List Ho} {b : Bool} (h : relRes t x d = (res, b)) : msHo res ≤ msHo t := by
  have : res = (relRes t x d).1 := by rw [h]
  rw [this]
  unfold relRes
  split
  · rw [msHo_put]; exact Nat.le_refl _
  · simp [msHo]
theorem relRes_len {t : List Ho} {x d : Int} {res : List Ho} {b : Bool} (h : relRes t x d = (res, b)) : res.length ≤ t.length := by
  have := rel_len t x d
  rwa [h] at this
theorem ho_ser_le (xs : List Ho) (i : Nat) (h : i < xs.length) : xs[i].ser.length ≤ szHo xs := by
  have h1 := msHo_take_succ xs i h
  have h2 := szHo_at xs i h
  rw [getHo_lt h] at h2
  have h3 := sz1Ho_len xs[i]
  omega
end Go.Proofs.Ytkjpehpodlpdhaa
