/- Clerk and lists of them: how the laws' and the program's read. -/
import Derived.Test.YtdlbmoeogdjnkaaFrame
import Derived.Test.YtdlbmoeogdjnkaaArg
import Derived.Test.YtdlbmoeogdjnkaaCkM
namespace Go.Proofs.Ytdlbmoeogdjnkaa
set_option linter.unusedVariables false
set_option maxRecDepth 20000
open Go.RowKit Go.ChangeShapes Go.WideShapes Go.Deep

def ckC (f : Ck) : List Value := [.int .i64 f.id, .string f.name, .int .i64 f.rights, .int .i64 f.frm, .int .i64 f.til, .int .i64 f.stands]
def Ck.ok (f : Ck) : Prop := inI f.id ∧ f.name.size ≤ maxLen ∧ inI f.rights ∧ inI f.frm ∧ inI f.til ∧ inI f.stands
def rCk : Rd Ck := fun _ cs f => cs = ckC f ∧ f.ok
theorem rCk_stable : rCk.Stable := fun _ _ _ _ _ h => h
def CkV (w : World) (v : Value) (f : Ck) : Prop := v = .agg #[.int .i64 f.id, .string f.name, .int .i64 f.rights, .int .i64 f.frm, .int .i64 f.til, .int .i64 f.stands] ∧ f.ok
theorem opens_ck : Opens Try.prog 23 rCk := fun enc w base spare held fuel cs x h => by
  obtain ⟨hl, hf⟩ := trod_fields Try.underlying23 (by kernel_rfl) (by kernel_rfl) h
  match cs, hl with
  | [c0, c1, c2, c3, c4, c5], _ =>
    obtain ⟨v0, y0, n0, e0, h0⟩ := hf 0 _ rfl
    obtain ⟨v1, y1, n1, e1, h1⟩ := hf 1 _ rfl
    obtain ⟨v2, y2, n2, e2, h2⟩ := hf 2 _ rfl
    obtain ⟨v3, y3, n3, e3, h3⟩ := hf 3 _ rfl
    obtain ⟨v4, y4, n4, e4, h4⟩ := hf 4 _ rfl
    obtain ⟨v5, y5, n5, e5, h5⟩ := hf 5 _ rfl
    obtain rfl : c0 = v0 := by simpa using e0
    obtain rfl : c1 = v1 := by simpa using e1
    obtain rfl : c2 = v2 := by simpa using e2
    obtain rfl : c3 = v3 := by simpa using e3
    obtain rfl : c4 = v4 := by simpa using e4
    obtain rfl : c5 = v5 := by simpa using e5
    obtain ⟨a0, e0, w0⟩ := opens_int Try.underlying3 enc w base spare held n0 _ _ h0
    obtain ⟨a1, e1, w1⟩ := opens_str Try.underlying9 enc w base spare held n1 _ _ h1
    obtain ⟨a2, e2, w2⟩ := opens_int Try.underlying3 enc w base spare held n2 _ _ h2
    obtain ⟨a3, e3, w3⟩ := opens_int Try.underlying3 enc w base spare held n3 _ _ h3
    obtain ⟨a4, e4, w4⟩ := opens_int Try.underlying3 enc w base spare held n4 _ _ h4
    obtain ⟨a5, e5, w5⟩ := opens_int Try.underlying3 enc w base spare held n5 _ _ h5
    exact ⟨⟨a0, a1, a2, a3, a4, a5⟩, by simp_all [ckC], w0, w1, w2, w3, w4, w5⟩
theorem opens_cks : Opens Try.prog 29 (rRow 6 rCk) := opens_row Try.underlying29 (by kernel_rfl) (by decide) opens_ck

section
variable {H : Type} {enc : TypeId × Value → H} {w : World} {base b0 : Nat} {spare : Nat → Bool} {held : Bool} {r : Reach} {v : Value} {d : DataW H} {p : List MemPlace}
theorem arg_ck (hv : Value.okWide Try.prog w r b0 23 v) (h : DataW.Trod enc Try.prog w base spare held 23 v d p) : ∃ x, CkV w v x := by
  obtain ⟨cs, rfl, _⟩ := okWide_struct Try.underlying23 hv
  obtain ⟨fuel, hf⟩ := h
  obtain ⟨x, e, hx⟩ := opens_ck enc w base spare held fuel _ _ hf
  exact ⟨x, by unfold ckC at e; rw [← e]; rfl, hx⟩
theorem arg_cks (hv : Value.okWide Try.prog w r b0 29 v) (h : DataW.Trod enc Try.prog w base spare held 29 v d p) : ∃ x, RowR 6 rCk w v x := by
  obtain ⟨a, len, cap, rfl⟩ := okWide_slice Try.underlying29 hv
  obtain ⟨fuel, hf⟩ := h
  obtain ⟨x, s, e, hx⟩ := opens_cks enc w base spare held fuel _ _ hf
  obtain rfl : Value.slice a len cap = s := by simpa [Value.cells] using e
  exact ⟨x, hx⟩
end

/-- Clerks that are read: where they lie. -/
theorem RowR.cks {w : World} {v : Value} {xs : List Ck} (h : RowR 6 rCk w v xs) : ∃ a cap, v = .slice a xs.length cap ∧ xs.length ≤ cap ∧ cap ≤ maxLen ∧
    (xs = [] ∨ ∃ b off, b < w.heap.size ∧ a = some ⟨b, off, none⟩ ∧ ∀ i, i < xs.length → w.cell? ⟨b, off + i * 6, none⟩ = some (.int .i64 (xs.getD i ckD).id) ∧ w.cell? ⟨b, off + i * 6 + 1, none⟩ = some (.string (xs.getD i ckD).name) ∧ w.cell? ⟨b, off + i * 6 + 2, none⟩ = some (.int .i64 (xs.getD i ckD).rights) ∧ w.cell? ⟨b, off + i * 6 + 3, none⟩ = some (.int .i64 (xs.getD i ckD).frm) ∧ w.cell? ⟨b, off + i * 6 + 4, none⟩ = some (.int .i64 (xs.getD i ckD).til) ∧ w.cell? ⟨b, off + i * 6 + 5, none⟩ = some (.int .i64 (xs.getD i ckD).stands) ∧ (xs.getD i ckD).ok) := by
  obtain ⟨a, cap, rfl, h1, h2, h3⟩ := h
  refine ⟨a, cap, rfl, h1, h2, h3.imp id ?_⟩
  rintro ⟨b, off, hlt, rfl, hc⟩
  refine ⟨b, off, hlt, rfl, fun i hi => ?_⟩
  obtain ⟨cs, hl, hcs, rfl, hok⟩ := hc i hi
  have f0 := hcs 0 (by simp only [ckC, List.length_cons, List.length_nil]; omega)
  have f1 := hcs 1 (by simp only [ckC, List.length_cons, List.length_nil]; omega)
  have f2 := hcs 2 (by simp only [ckC, List.length_cons, List.length_nil]; omega)
  have f3 := hcs 3 (by simp only [ckC, List.length_cons, List.length_nil]; omega)
  have f4 := hcs 4 (by simp only [ckC, List.length_cons, List.length_nil]; omega)
  have f5 := hcs 5 (by simp only [ckC, List.length_cons, List.length_nil]; omega)
  simp only [ckC, List.getElem_cons_zero, List.getElem_cons_succ, Nat.add_zero] at f0 f1 f2 f3 f4 f5
  rw [getCk_lt hi]
  exact ⟨f0, f1, f2, f3, f4, f5, hok⟩
theorem RowR.cks_ok {w : World} {v : Value} {xs : List Ck} (h : RowR 6 rCk w v xs) : ∀ e ∈ xs, e.ok := by
  obtain ⟨a, cap, rfl, h1, h2, h3⟩ := h
  intro e he
  rcases h3 with rfl | ⟨b, off, _, _, hc⟩
  · cases he
  · obtain ⟨i, hi, rfl⟩ := List.getElem_of_mem he
    obtain ⟨cs, _, _, h⟩ := hc i hi
    exact h.2
end Go.Proofs.Ytdlbmoeogdjnkaa
