/- Events and records: how the laws' and the program's read. -/
import Derived.Test.YtkjpehpodlpdhaaFrame
import Derived.Test.YtkjpehpodlpdhaaOpen
import Derived.Test.YtkjpehpodlpdhaaArg
namespace Go.Proofs.Ytkjpehpodlpdhaa
set_option linter.unusedVariables false
set_option maxRecDepth 20000
open Go.RowKit Go.ChangeShapes Go.WideShapes Go.Deep

structure Ev where
  kind : Int
  day : Int
  deriving DecidableEq
structure Rec where
  id : Int
  series : Int
  made : Int
  evs : List Ev
  deriving DecidableEq

def evC (e : Ev) : List Value := [.int .i64 e.kind, .int .i64 e.day]
def Ev.ok (e : Ev) : Prop := inI e.kind ∧ inI e.day
def Rec.ok (r : Rec) : Prop := inI r.id ∧ inI r.series ∧ inI r.made
def rEv : Rd Ev := fun _ cs e => cs = evC e ∧ e.ok
def rRec : Rd Rec := fun w cs r => ∃ v, cs = [.int .i64 r.id, .int .i64 r.series, .int .i64 r.made, v] ∧ RowR 2 rEv w v r.evs ∧ r.ok
theorem rEv_stable : rEv.Stable := fun _ _ _ _ _ h => h
theorem rRec_stable : rRec.Stable := fun _ _ _ _ hb ⟨v, e, h, k⟩ => ⟨v, e, h.below rEv_stable hb, k⟩

/-- A record as a value. -/
def RecV (w : World) (v : Value) (r : Rec) : Prop := ∃ s, v = .agg #[.int .i64 r.id, .int .i64 r.series, .int .i64 r.made, s] ∧ RowR 2 rEv w s r.evs ∧ r.ok
def EvV (w : World) (v : Value) (e : Ev) : Prop := v = .agg #[.int .i64 e.kind, .int .i64 e.day] ∧ e.ok
theorem RecV.below {w w' : World} {v : Value} {r : Rec} (h : RecV w v r) (hb : Below w.heap.size w w') : RecV w' v r := by
  obtain ⟨s, e, h, k⟩ := h
  exact ⟨s, e, h.below rEv_stable hb, k⟩

theorem opens_ev : Opens Try.prog 169 rEv := fun enc w base spare held fuel cs x h => by
  obtain ⟨hl, hf⟩ := trod_fields Try.underlying169 (by kernel_rfl) (by kernel_rfl) h
  match cs, hl with
  | [c0, c1], _ =>
    obtain ⟨v0, y0, n0, e0, h0⟩ := hf 0 _ rfl
    obtain ⟨v1, y1, n1, e1, h1⟩ := hf 1 _ rfl
    obtain rfl : c0 = v0 := by simpa using e0
    obtain rfl : c1 = v1 := by simpa using e1
    obtain ⟨a0, e0, w0⟩ := opens_int Try.underlying3 enc w base spare held n0 _ _ h0
    obtain ⟨a1, e1, w1⟩ := opens_int Try.underlying3 enc w base spare held n1 _ _ h1
    exact ⟨⟨a0, a1⟩, by simp_all [evC], w0, w1⟩
theorem opens_evs : Opens Try.prog 29 (rRow 2 rEv) := opens_row Try.underlying29 (by kernel_rfl) (by decide) opens_ev
theorem opens_rec : Opens Try.prog 31 rRec := fun enc w base spare held fuel cs x h => by
  obtain ⟨hl, hf⟩ := trod_fields Try.underlying31 (by kernel_rfl) (by kernel_rfl) h
  match cs, hl with
  | [c0, c1, c2, c3], _ =>
    obtain ⟨v0, y0, n0, e0, h0⟩ := hf 0 _ rfl
    obtain ⟨v1, y1, n1, e1, h1⟩ := hf 1 _ rfl
    obtain ⟨v2, y2, n2, e2, h2⟩ := hf 2 _ rfl
    obtain ⟨v3, y3, n3, e3, h3⟩ := hf 3 _ rfl
    obtain rfl : c0 = v0 := by simpa using e0
    obtain rfl : c1 = v1 := by simpa using e1
    obtain rfl : c2 = v2 := by simpa using e2
    obtain rfl : c3 = v3 := by simpa using e3
    obtain ⟨a0, e0, w0⟩ := opens_int Try.underlying3 enc w base spare held n0 _ _ h0
    obtain ⟨a1, e1, w1⟩ := opens_int Try.underlying3 enc w base spare held n1 _ _ h1
    obtain ⟨a2, e2, w2⟩ := opens_int Try.underlying3 enc w base spare held n2 _ _ h2
    obtain ⟨a3, u3, e3, w3⟩ := opens_evs enc w base spare held n3 _ _ h3
    exact ⟨⟨a0, a1, a2, a3⟩, u3, by simp_all, w3, w0, w1, w2⟩

section
variable {H : Type} {enc : TypeId × Value → H} {w : World} {base b0 : Nat} {spare : Nat → Bool} {held : Bool} {r : Reach} {v : Value} {d : DataW H} {p : List MemPlace}
theorem arg_rec (hv : Value.okWide Try.prog w r b0 31 v) (h : DataW.Trod enc Try.prog w base spare held 31 v d p) : ∃ x, RecV w v x := by
  obtain ⟨cs, rfl, _⟩ := okWide_struct Try.underlying31 hv
  obtain ⟨fuel, hf⟩ := h
  obtain ⟨x, s, e, hx⟩ := opens_rec enc w base spare held fuel _ _ hf
  exact ⟨x, s, by rw [← e]; rfl, hx⟩
theorem arg_ev (hv : Value.okWide Try.prog w r b0 169 v) (h : DataW.Trod enc Try.prog w base spare held 169 v d p) : ∃ x, EvV w v x := by
  obtain ⟨cs, rfl, _⟩ := okWide_struct Try.underlying169 hv
  obtain ⟨fuel, hf⟩ := h
  obtain ⟨x, e, hx⟩ := opens_ev enc w base spare held fuel _ _ hf
  exact ⟨x, by unfold evC at e; rw [← e]; rfl, hx⟩
end
end Go.Proofs.Ytkjpehpodlpdhaa
