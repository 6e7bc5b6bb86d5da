/- Lists of records: how they are read, their sizes, copies and comparisons. -/
import Derived.Test.YtpngmheflpbnbaaEqRec
import Derived.Test.YtpngmheflpbnbaaRecM
import Derived.Deep.RegionHeld3
namespace Go.Proofs.Ytpngmheflpbnbaa
set_option linter.unusedVariables false
open Go.RowKit

/-- Records that are read: where they lie. -/
theorem RowR.recs {w : World} {v : Value} {rs : List Rec} (h : RowR 4 rRec w v rs) : ∃ a cap, v = .slice a rs.length cap ∧ rs.length ≤ cap ∧ cap ≤ maxLen ∧
    (rs = [] ∨ ∃ b off, b < w.heap.size ∧ a = some ⟨b, off, none⟩ ∧ ∀ i, i < rs.length → ∃ s, w.cell? ⟨b, off + i * 4, none⟩ = some (.int .i64 (rs.getD i recD).id) ∧ w.cell? ⟨b, off + i * 4 + 1, none⟩ = some (.int .i64 (rs.getD i recD).series) ∧
      w.cell? ⟨b, off + i * 4 + 2, none⟩ = some (.int .i64 (rs.getD i recD).made) ∧ w.cell? ⟨b, off + i * 4 + 3, none⟩ = some s ∧ RowR 2 rEv w s (rs.getD i recD).evs ∧ (rs.getD i recD).ok) := by
  obtain ⟨a, cap, rfl, h1, h2, h3⟩ := h
  refine ⟨a, cap, rfl, h1, h2, h3.imp id ?_⟩
  rintro ⟨b, off, hlt, rfl, hc⟩
  refine ⟨b, off, hlt, rfl, fun i hi => ?_⟩
  obtain ⟨cs, hl, hcs, s, rfl, hr, hok⟩ := hc i hi
  have f0 := hcs 0 (by omega)
  have f1 := hcs 1 (by omega)
  have f2 := hcs 2 (by omega)
  have f3 := hcs 3 (by omega)
  simp only [List.getElem_cons_zero, List.getElem_cons_succ, Nat.add_zero] at f0 f1 f2 f3
  rw [getDr_lt hi]
  exact ⟨s, f0, f1, f2, f3, hr, hok⟩

/-- How much the first k records hold: each one, and its events. -/
def szR (rs : List Rec) : Nat := (rs.map (fun r => r.evs.length)).sum
theorem szR_take_succ (rs : List Rec) (k : Nat) (h : k < rs.length) : szR (rs.take (k + 1)) = szR (rs.take k) + (rs.getD k recD).evs.length := by
  unfold szR
  rw [List.take_add_one, List.getElem?_eq_getElem h, getDr_lt h, List.map_append, List.sum_append]
  simp only [Option.toList_some, List.map_cons, List.map_nil, List.sum_cons, List.sum_nil, Nat.add_zero]
theorem szR_take_le (rs : List Rec) (k : Nat) : szR (rs.take k) ≤ szR rs := by
  have h : szR rs = szR (rs.take k) + szR (rs.drop k) := by
    unfold szR
    rw [← List.sum_append, ← List.map_append, List.take_append_drop]
  omega
theorem szR_at (rs : List Rec) (i : Nat) (h : i < rs.length) : (rs.getD i recD).evs.length ≤ szR rs := by
  have h1 := szR_take_succ rs i h
  have h2 := szR_take_le rs (i + 1)
  omega


theorem Try.info_record : (Try.prog.info? 42).map (fun i => (i.zero, i.size, i.bytes)) = some (some (.agg #[.int .i64 0, .int .i64 0, .int .i64 0, .slice none 0 0]), 4, 48) := by kernel_rfl

def recC (r : Rec) (s : Value) : List Value := [.int .i64 r.id, .int .i64 r.series, .int .i64 r.made, s]
/-- Records in memory of the call's own: the list ahead, the events of each record behind those of the one before it. -/
def RecsO (lo hi : Nat) (w : World) (v : Value) (rs : List Rec) : Prop :=
  ∃ (css : List (List Value)) (f : Nat → Nat), css.length = rs.length ∧ Own lo 42 4 w v css ∧ Under (f 0) v ∧ lo ≤ f 0 ∧ (∀ i, i < rs.length → f i ≤ f (i + 1)) ∧ f rs.length ≤ hi ∧
    ∀ i (h1 : i < css.length) (h2 : i < rs.length), ∃ s, css[i] = recC rs[i] s ∧ EvsO (f i) (f (i + 1)) w s rs[i].evs ∧ rs[i].ok
theorem RecsO.row {lo hi : Nat} {w : World} {v : Value} {rs : List Rec} (h : RecsO lo hi w v rs) : RowR 4 rRec w v rs := by
  obtain ⟨css, f, hl, ho, _, _, _, _, he⟩ := h
  refine ho.row hl fun i h1 h2 => ?_
  obtain ⟨s, e, hs, hok⟩ := he i h1 h2
  exact ⟨s, e, hs.row, hok⟩
theorem RecsO.below {lo hi : Nat} {w w' : World} {v : Value} {rs : List Rec} (h : RecsO lo hi w v rs) (hb : Below w.heap.size w w') : RecsO lo hi w' v rs := by
  obtain ⟨css, f, hl, ho, h1, h2, h3, h4, he⟩ := h
  refine ⟨css, f, hl, ho.below hb, h1, h2, h3, h4, fun i a b => ?_⟩
  obtain ⟨s, e, hs, hok⟩ := he i a b
  exact ⟨s, e, hs.below hb, hok⟩


end Go.Proofs.Ytpngmheflpbnbaa
