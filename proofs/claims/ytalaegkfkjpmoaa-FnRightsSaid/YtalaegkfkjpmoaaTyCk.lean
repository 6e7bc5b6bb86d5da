/- Clerk and lists of them: how the laws' and the program's read. -/
import Derived.Test.YtalaegkfkjpmoaaFrame
import Derived.Test.YtalaegkfkjpmoaaArg
import Derived.Test.YtalaegkfkjpmoaaCkM
namespace Go.Proofs.Ytalaegkfkjpmoaa
set_option linter.unusedVariables false
set_option maxRecDepth 20000
open Go.RowKit Go.ChangeShapes Go.WideShapes Go.Deep

def ckC (f : Ck) : List Value := [.int .i64 f.id, .string f.name, .int .i64 f.rights, .int .i64 f.frm, .int .i64 f.til, .int .i64 f.stands]
def Ck.ok (f : Ck) : Prop := inI f.id ∧ f.name.size ≤ maxLen ∧ inI f.rights ∧ inI f.frm ∧ inI f.til ∧ inI f.stands
def rCk : Rd Ck := fun _ cs f => cs = ckC f ∧ f.ok
theorem rCk_stable : rCk.Stable := fun _ _ _ _ _ h => h
def CkV (w : World) (v : Value) (f : Ck) : Prop := v = .agg #[.int .i64 f.id, .string f.name, .int .i64 f.rights, .int .i64 f.frm, .int .i64 f.til, .int .i64 f.stands] ∧ f.ok

section
variable {H : Type} {enc : TypeId × Value → H} {w : World} {base b0 : Nat} {spare : Nat → Bool} {held : Bool} {r : Reach} {v : Value} {d : DataW H} {p : List MemPlace}
end

/-- Clerks that are read: where they lie. -/
theorem RowR.cks {w : World} {v : Value} {xs : List Ck} (h : RowR 6 rCk w v xs) : ∃ a cap, v = .slice a xs.length cap ∧ xs.length ≤ cap ∧ cap ≤ maxLen ∧
    (xs = [] ∨ ∃ b off, b < w.heap.size ∧ a = some ⟨b, off, none⟩ ∧ ∀ i, i < xs.length → w.cell? ⟨b, off + i * 6, none⟩ = some (.int .i64 (xs.getD i ckD).id) ∧ w.cell? ⟨b, off + i * 6 + 1, none⟩ = some (.string (xs.getD i ckD).name) ∧ w.cell? ⟨b, off + i * 6 + 2, none⟩ = some (.int .i64 (xs.getD i ckD).rights) ∧ w.cell? ⟨b, off + i * 6 + 3, none⟩ = some (.int .i64 (xs.getD i ckD).frm) ∧ w.cell? ⟨b, off + i * 6 + 4, none⟩ = some (.int .i64 (xs.getD i ckD).til) ∧ w.cell? ⟨b, off + i * 6 + 5, none⟩ = some (.int .i64 (xs.getD i ckD).stands) ∧ (xs.getD i ckD).ok) := by
  obtain ⟨a, cap, rfl, h1, h2, h3⟩ := h
  refine ⟨a, cap, rfl, h1, h2, h3.imp id ?_⟩
  rintro ⟨b, off, hlt, rfl, hc⟩
  refine ⟨b, off, hlt, rfl, fun i hi => ?_⟩
  obtain ⟨cs, hl, hcs, rfl, hok⟩ := hc i hi
  have f0 := hcs 0 (by simp only [ckC, List.length_cons, List.length_nil]; omega)
  have f1 := hcs 1 (by simp only [ckC, List.length_cons, List.length_nil]; omega)
  have f2 := hcs 2 (by simp only [ckC, List.length_cons, List.length_nil]; omega)
  have f3 := hcs 3 (by simp only [ckC, List.length_cons, List.length_nil]; omega)
  have f4 := hcs 4 (by simp only [ckC, List.length_cons, List.length_nil]; omega)
  have f5 := hcs 5 (by simp only [ckC, List.length_cons, List.length_nil]; omega)
  simp only [ckC, List.getElem_cons_zero, List.getElem_cons_succ, Nat.add_zero] at f0 f1 f2 f3 f4 f5
  rw [getCk_lt hi]
  exact ⟨f0, f1, f2, f3, f4, f5, hok⟩
theorem RowR.cks_ok {w : World} {v : Value} {xs : List Ck} (h : RowR 6 rCk w v xs) : ∀ e ∈ xs, e.ok := by
  obtain ⟨a, cap, rfl, h1, h2, h3⟩ := h
  intro e he
  rcases h3 with rfl | ⟨b, off, _, _, hc⟩
  · cases he
  · obtain ⟨i, hi, rfl⟩ := List.getElem_of_mem he
    obtain ⟨cs, _, _, h⟩ := hc i hi
    exact h.2
end Go.Proofs.Ytalaegkfkjpmoaa
