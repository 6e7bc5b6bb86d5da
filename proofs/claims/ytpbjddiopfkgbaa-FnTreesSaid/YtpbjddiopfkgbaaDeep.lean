/- DeepestFunctions, the model's and the program's. -/
import Derived.Test.YtpbjddiopfkgbaaUnder
namespace Go.Proofs.Ytpbjddiopfkgbaa
set_option linter.unusedVariables false
open Go.RowKit Go.Sort

/-- What DeepestFunctions answers. -/
def deepRes (t : List Fn) : List Int × Int × Bool := if isTree t = true then ((deepF t t.length).1, ((deepF t t.length).2 : Int), true) else ([], 0, false)
theorem deepF_len (t : List Fn) : ∀ k, (deepF t k).1.length ≤ k
  | 0 => by simp [deepF]
  | k + 1 => by
    have := deepF_len t k
    simp only [deepF]
    split
    · simp
    · split
      · rw [List.length_append]; simp; omega
      · omega
theorem deepRes_len {t : List Fn} {xs : List Int} {n : Int} {b : Bool} (h : deepRes t = (xs, n, b)) : xs.length ≤ t.length + 1 := by
  unfold deepRes at h
  split at h
  · obtain ⟨rfl, _⟩ := Prod.mk.inj h; have := deepF_len t t.length; omega
  · obtain ⟨rfl, _⟩ := Prod.mk.inj h; simp
theorem deep_succ {t : List Fn} {k : Nat} {L : List Int} {M D : Nat} {fi : Int} (h : deepF t k = (L, M)) (hx : (t.getD k fnD).id = fi) (hd : (pathF t fi).length = D) : deepF t (k + 1) = if M < D then ([fi], D) else if D = M then (L ++ [fi], M) else (L, M) := by
  simp only [deepF]
  rw [h, hx, hd]
theorem path_le {t : List Fn} (h : isTree t = true) {x : Int} (hx : x = 0 ∨ hasF t x = true) : (pathF t x).length ≤ 99 := by
  have h1 := path_len h x hx
  unfold pathF
  rw [List.length_map]
  rcases hx with rfl | hx
  · simp at h1; rw [h1]; simp
  · have := (par_ok h hx).1; omega
theorem deepF_le {t : List Fn} (h : isTree t = true) : ∀ k, k ≤ t.length → (deepF t k).2 ≤ 99
  | 0, _ => by simp [deepF]
  | k + 1, hk => by
    have := deepF_le h k (by omega)
    have h2 := path_le h (.inr (tree_has (t := t) (i := k) (by omega)))
    simp only [deepF]
    split
    · exact h2
    · split <;> exact this


end Go.Proofs.Ytpbjddiopfkgbaa
