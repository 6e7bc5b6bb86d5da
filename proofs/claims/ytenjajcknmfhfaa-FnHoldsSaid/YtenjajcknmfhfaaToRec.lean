/- The laws' own copies of an event, of events, of a record: what they answer, and where it lies. -/
import Derived.Test.YtenjajcknmfhfaaTyRec
import Derived.Test.YtenjajcknmfhfaaOwn
import Derived.Test.YtenjajcknmfhfaaCells
import Derived.Test.YtenjajcknmfhfaaProg
import Derived.WalkSmall
namespace Go.Proofs.Ytenjajcknmfhfaa
set_option linter.unusedVariables false
open Go.RowKit


theorem Try.info_event : (Try.prog.info? 174).map (fun i => (i.zero, i.size, i.bytes)) = some (some (.agg #[.int .i64 0, .int .i64 0]), 2, 16) := by kernel_rfl

/-- Events in memory of the call's own. -/
def EvsO (lo hi : Nat) (w : World) (v : Value) (xs : List Ev) : Prop := Own lo 174 2 w v (xs.map evC) ∧ (∀ e ∈ xs, e.ok) ∧ Under hi v
theorem EvsO.row {lo hi : Nat} {w : World} {v : Value} {xs : List Ev} (h : EvsO lo hi w v xs) : RowR 2 rEv w v xs :=
  h.1.row (by simp) fun i h1 h2 => ⟨by simp, h.2.1 _ (List.getElem_mem h2)⟩
theorem RowR.evs_ok {w : World} {v : Value} {xs : List Ev} (h : RowR 2 rEv w v xs) : ∀ e ∈ xs, e.ok := by
  obtain ⟨a, cap, rfl, h1, h2, h3⟩ := h
  intro e he
  rcases h3 with rfl | ⟨b, off, _, _, hc⟩
  · cases he
  · obtain ⟨i, hi, rfl⟩ := List.getElem_of_mem he
    obtain ⟨cs, _, _, h⟩ := hc i hi
    exact h.2


/-- A record in memory of the call's own. -/
def RecO (lo hi : Nat) (w : World) (v : Value) (r : Rec) : Prop := ∃ s, v = .agg #[.int .i64 r.id, .int .i64 r.series, .int .i64 r.made, s] ∧ EvsO lo hi w s r.evs ∧ r.ok
section
variable {lo hi lo' hi' : Nat} {w w' : World} {v : Value} {xs : List Ev} {r : Rec}
theorem RecO.toV (h : RecO lo hi w v r) : RecV w v r := by
  obtain ⟨s, e, h, k⟩ := h
  exact ⟨s, e, h.row, k⟩
theorem EvsO.below (h : EvsO lo hi w v xs) (hb : Below w.heap.size w w') : EvsO lo hi w' v xs := ⟨h.1.below hb, h.2⟩
theorem RecO.below (h : RecO lo hi w v r) (hb : Below w.heap.size w w') : RecO lo hi w' v r := by
  obtain ⟨s, e, h, k⟩ := h
  exact ⟨s, e, h.below hb, k⟩
theorem EvsO.only (h : EvsO lo hi w v xs) (hb : Only lo' hi' w w') (hh : hi' ≤ lo) : EvsO lo hi w' v xs := ⟨h.1.only hb hh, h.2⟩
theorem RecO.only (h : RecO lo hi w v r) (hb : Only lo' hi' w w') (hh : hi' ≤ lo) : RecO lo hi w' v r := by
  obtain ⟨s, e, h, k⟩ := h
  exact ⟨s, e, h.only hb hh, k⟩
theorem EvsO.wide (h : EvsO lo hi w v xs) (hl : lo' ≤ lo) (hh : hi ≤ hi') : EvsO lo' hi' w v xs := ⟨h.1.lower hl, h.2.1, h.2.2.up hh⟩
theorem RecO.wide (h : RecO lo hi w v r) (hl : lo' ≤ lo) (hh : hi ≤ hi') : RecO lo' hi' w v r := by
  obtain ⟨s, e, h, k⟩ := h
  exact ⟨s, e, h.wide hl hh, k⟩
theorem EvsO.far (h : EvsO lo hi w v xs) {a : Addr} (ha : a.block < lo) (u : Value) : EvsO lo hi (w.setCell a u) v xs := ⟨h.1.far ha u, h.2⟩
theorem EvsO.alloc (h : EvsO lo hi w v xs) (o : Obj) : EvsO lo hi (w.alloc o) v xs := ⟨h.1.alloc o, h.2⟩
end

end Go.Proofs.Ytenjajcknmfhfaa
