/- Events and records: how the laws' and the program's read. -/
import Derived.Test.YtenjajcknmfhfaaFrame
import Derived.Test.YtenjajcknmfhfaaOpen
import Derived.Test.YtenjajcknmfhfaaArg
namespace Go.Proofs.Ytenjajcknmfhfaa
set_option linter.unusedVariables false
set_option maxRecDepth 20000
open Go.RowKit Go.ChangeShapes Go.WideShapes Go.Deep

structure Ev where
  kind : Int
  day : Int
  deriving DecidableEq
structure Rec where
  id : Int
  series : Int
  made : Int
  evs : List Ev
  deriving DecidableEq

def evC (e : Ev) : List Value := [.int .i64 e.kind, .int .i64 e.day]
def Ev.ok (e : Ev) : Prop := inI e.kind ∧ inI e.day
def Rec.ok (r : Rec) : Prop := inI r.id ∧ inI r.series ∧ inI r.made
def rEv : Rd Ev := fun _ cs e => cs = evC e ∧ e.ok
def rRec : Rd Rec := fun w cs r => ∃ v, cs = [.int .i64 r.id, .int .i64 r.series, .int .i64 r.made, v] ∧ RowR 2 rEv w v r.evs ∧ r.ok
theorem rEv_stable : rEv.Stable := fun _ _ _ _ _ h => h
theorem rRec_stable : rRec.Stable := fun _ _ _ _ hb ⟨v, e, h, k⟩ => ⟨v, e, h.below rEv_stable hb, k⟩

/-- A record as a value. -/
def RecV (w : World) (v : Value) (r : Rec) : Prop := ∃ s, v = .agg #[.int .i64 r.id, .int .i64 r.series, .int .i64 r.made, s] ∧ RowR 2 rEv w s r.evs ∧ r.ok
def EvV (w : World) (v : Value) (e : Ev) : Prop := v = .agg #[.int .i64 e.kind, .int .i64 e.day] ∧ e.ok
theorem RecV.below {w w' : World} {v : Value} {r : Rec} (h : RecV w v r) (hb : Below w.heap.size w w') : RecV w' v r := by
  obtain ⟨s, e, h, k⟩ := h
  exact ⟨s, e, h.below rEv_stable hb, k⟩


section
variable {H : Type} {enc : TypeId × Value → H} {w : World} {base b0 : Nat} {spare : Nat → Bool} {held : Bool} {r : Reach} {v : Value} {d : DataW H} {p : List MemPlace}
end
end Go.Proofs.Ytenjajcknmfhfaa
