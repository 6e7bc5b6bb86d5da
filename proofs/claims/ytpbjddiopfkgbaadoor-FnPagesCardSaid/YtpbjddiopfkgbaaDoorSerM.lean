/- The pages of each series, as plain mathematics. No program is named here. -/
import Derived.Test.YtpbjddiopfkgbaaDoorFiM
namespace Go.Proofs.YtpbjddiopfkgbaaDoor
set_option linter.unusedVariables false

def cntS (t : List Fi) (s : Int) : Nat := (t.filter fun f => decide (f.series = s)).length
def pagS (t : List Fi) (s : Int) : Int := ((t.filter fun f => decide (f.series = s)).map (·.pages)).sum
theorem cntS_snoc (t : List Fi) (f : Fi) (s : Int) : cntS (t ++ [f]) s = cntS t s + (if f.series = s then 1 else 0) := by
  unfold cntS
  rw [List.filter_append, List.length_append]
  by_cases h : f.series = s <;> simp [h]
theorem pagS_snoc (t : List Fi) (f : Fi) (s : Int) : pagS (t ++ [f]) s = pagS t s + (if f.series = s then f.pages else 0) := by
  unfold pagS
  rw [List.filter_append, List.map_append, List.sum_append]
  by_cases h : f.series = s <;> simp [h]
theorem take_fi {t : List Fi} {k : Nat} (h : k < t.length) : t.take (k + 1) = t.take k ++ [t.getD k fiD] := by rw [List.take_succ_eq_append_getElem h, getFi_lt h]
theorem cntS_le (t : List Fi) (s : Int) : cntS t s ≤ t.length := List.length_filter_le _ _
theorem pagS_bounds {t : List Fi} (h : ∀ f ∈ t, isFi f = true) (s : Int) : 0 ≤ pagS t s ∧ pagS t s ≤ 5000 * t.length := by
  induction t with
  | nil => simp [pagS]
  | cons f t ih =>
    have hf := (isFi_iff.1 (h f (by simp))).2.2.2.2.2.1
    have := ih (fun g hg => h g (List.mem_cons_of_mem _ hg))
    unfold pagS at this ⊢
    rw [List.filter_cons]
    simp only [List.length_cons]
    split
    · simp only [List.map_cons, List.sum_cons]
      omega
    · omega
theorem cntS_pos {t : List Fi} {s : Int} : 0 < cntS t s ↔ ∃ f ∈ t, f.series = s := by
  unfold cntS
  rw [List.length_pos_iff_exists_mem]
  constructor
  · rintro ⟨f, hf⟩
    rw [List.mem_filter] at hf
    exact ⟨f, hf.1, of_decide_eq_true hf.2⟩
  · rintro ⟨f, hf, e⟩
    exact ⟨f, List.mem_filter.2 ⟨hf, decide_eq_true e⟩⟩
def rowS (t : List Fi) (s : Int) : List Int := [s, (cntS t s : Int), pagS t s]
/-- The rows of the series from 1 to n. -/
def rowsTo (t : List Fi) : Nat → List (List Int)
  | 0 => []
  | n + 1 => if 0 < cntS t ((n + 1 : Nat) : Int) then rowsTo t n ++ [rowS t ((n + 1 : Nat) : Int)] else rowsTo t n
def serRes (t : List Fi) : List (List Int) × Bool := if areFi t = true then (rowsTo t 99, true) else ([], false)
theorem rowsTo_len (t : List Fi) : ∀ n, (rowsTo t n).length ≤ n
  | 0 => Nat.le_refl _
  | n + 1 => by
    have := rowsTo_len t n
    unfold rowsTo
    split
    · rw [List.length_append]; simp only [List.length_cons, List.length_nil]; omega
    · omega
theorem rowsTo_three (t : List Fi) : ∀ n, ∀ r ∈ rowsTo t n, r.length = 3
  | 0, r, h => by simp [rowsTo] at h
  | n + 1, r, h => by
    unfold rowsTo at h
    split at h
    · rcases List.mem_append.1 h with h | h
      · exact rowsTo_three t n r h
      · rw [List.mem_singleton.1 h]; rfl
    · exact rowsTo_three t n r h
end Go.Proofs.YtpbjddiopfkgbaaDoor
