/- AddEvent, the model's and the program's: the record with one event more, in memory of its own. -/
import Derived.Test.YtenjajcknmfhfaaDayOf
import Derived.ArgAppend
import Derived.Deep.RegionLawGrows
import Derived.Deep.RegionHeld3
import Derived.Deep.RegionLaw
import Derived.Laws.AppendOwnNone
namespace Go.Proofs.Ytenjajcknmfhfaa
set_option linter.unusedVariables false
open Go.RowKit Go.Sort

/-- What AddEvent answers. -/
def addRes (r : Rec) (e : Ev) : Rec × Bool := if isRec r = true ∧ isRec { r with evs := insEv r.evs e } = true then ({ r with evs := insEv r.evs e }, true) else (recD, false)
theorem box_new (w : World) (o : Obj) : (w.alloc o).heap[w.heap.size]? = some o := heap_alloc_new w o
theorem evs_one (xs : List Ev) : ∀ u ∈ (xs.map evC).flatten, u.oneCell' = true := by
  intro u hu
  obtain ⟨l, hl, hu⟩ := List.mem_flatten.1 hu
  obtain ⟨e, _, rfl⟩ := List.mem_map.1 hl
  simp [evC] at hu
  rcases hu with rfl | rfl <;> rfl
theorem setCell_other {w : World} {a b : Addr} (v : Value) (h : a ≠ b) : (w.setCell a v).cell? b = w.cell? b := by
  apply World.cell?_setCell_other
  exact h
theorem setCell_same {w : World} {a : Addr} {u : Value} (v : Value) (h : w.cell? a = some u) : (w.setCell a v).cell? a = some v := by
  apply World.cell?_setCell_same
  exact h
theorem wp_append_own_nil {P : Program} {w : World} {o : Oper} {a : Act} {K : Act → World → Prop} {Q : Exit → Act → World → Prop} (s x : Operand) (t : TypeId)
    (ho : o.op = .call { callee := .builtin .append, args := #[s, x], argTypes := #[t, t] })
    (base : Nat) (e : TypeId) (i : TypeInfo) (size : Nat) (ht : P.underlying t = some (.slice e)) (hi : P.info? e = some i)
    (v : Value) (n : Nat) (xs : List Value) (hs : a.eval s = v) (hown : w.ownsRow base e size v n xs) (hx : a.eval x = .slice none 0 0)
    (h : ∀ v' w', w'.ownsRow base e size v' n xs → w.grownBy w' v.ownBlock → K (a.put o.dst v') w') : o.wp P a w K Q := by
  have hrun := run_append_owned_none (P := P) (w := w) base t o.type e i size ht hi v n xs hown
  unfold Oper.wp
  simp [execOp, ho, resolve, invoke, builtin, hs, hx, hrun, Result.andThen]
  exact h v w hown (World.grownBy.refl _ _)
theorem own_form {lo e size n : Nat} {w : World} {v : Value} {xs : List Value} (h : w.ownsRow lo e size v n xs) (hn : 0 < n) : ∃ g cap, v = .slice (some ⟨g, 0, none⟩) n cap ∧ lo ≤ g := by
  rcases h.2 with ⟨_, h0⟩ | ⟨g, cap, cur, rfl, hg, _⟩
  · omega
  · exact ⟨g, cap, rfl, hg⟩
theorem rec0 (lo hi : Nat) (w : World) : RecO lo hi w (.agg #[.int .i64 0, .int .i64 0, .int .i64 0, .slice none 0 0]) recD :=
  ⟨_, rfl, ⟨Own.nil _ _ _ _, by simp [recD], Under.nil _ _ _⟩, by simp [recD, Rec.ok, inI]⟩

/-- The cells of events that lie in a row. -/
theorem cells_flat {w : World} {b o : Nat} {xs : List Ev} (hcs : ∀ i, i < xs.length → w.cell? ⟨b, o + i * 2, none⟩ = some (.int .i64 (xs.getD i evD).kind) ∧ w.cell? ⟨b, o + i * 2 + 1, none⟩ = some (.int .i64 (xs.getD i evD).day)) :
    ∀ j u, (xs.map evC).flatten[j]? = some u → w.cell? ⟨b, o + j, none⟩ = some u := by
  intro j u h
  have hk : j = j / 2 * 2 + j % 2 := by omega
  have hall : ∀ cs ∈ xs.map evC, cs.length = 2 := by simp [evC]
  rw [hk, flat_get _ (j / 2) (j % 2) hall (by omega)] at h
  rcases Nat.lt_or_ge (j / 2) xs.length with hl | hl
  · obtain ⟨f1, f2⟩ := hcs (j / 2) hl
    rw [List.getElem?_map, List.getElem?_eq_getElem hl, Option.map_some, Option.bind_some, ← getD_lt hl] at h
    rcases Nat.mod_two_eq_zero_or_one j with h2 | h2
    · rw [h2] at h
      simp [evC] at h
      rw [hk, h2, ← h]
      simpa using f1
    · rw [h2] at h
      simp [evC] at h
      rw [hk, h2, ← h, ← Nat.add_assoc]
      exact f2
  · rw [List.getElem?_map, List.getElem?_eq_none hl] at h
    cases h
theorem flat_evs_len (xs : List Ev) : (xs.map evC).flatten.length = xs.length * 2 := by
  rw [flat_len (size := 2) _ (by simp [evC]), List.length_map]
theorem getD_take {xs : List Ev} {p i : Nat} (h : i < p) : (xs.take p).getD i evD = xs.getD i evD := by
  simp [List.getD, List.getElem?_take_of_lt h]
theorem getD_drop {xs : List Ev} {p i : Nat} : (xs.drop p).getD i evD = xs.getD (p + i) evD := by
  simp [List.getD, List.getElem?_drop]


end Go.Proofs.Ytenjajcknmfhfaa
