/- A slice of integers at any place of a row of the call's own (what is left of a queue), and an element appended to it. No program is named here. -/
import Derived.Test.YtcfghigmijibeaaFoQ
import Derived.Test.YtcfghigmijibeaaRowOf
import Derived.Test.YtcfghigmijibeaaInts
import Derived.ArgAppend
import Derived.Laws.OwnMore
namespace Go.Proofs.Ytcfghigmijibeaa
set_option linter.unusedVariables false
open Go.RowKit

def QRow (w : World) (e : TypeId) (lo : Nat) (v : Value) (xs : List Int) : Prop :=
  ∃ (g off cap : Nat) (cur : Array Value), v = .slice (some ⟨g, off, none⟩) xs.length cap ∧ lo ≤ g ∧ xs.length ≤ cap ∧ cap ≤ maxLen ∧ off + cap ≤ cur.size ∧ w.heap[g]? = some (.cells cur e (0, 0)) ∧ ∀ i (h : i < xs.length), cur[off + i]? = some (vI xs[i])
section
variable {w w' : World} {e : TypeId} {lo : Nat} {v : Value} {xs : List Int}
theorem QRow.lt (h : QRow w e lo v xs) : ∀ k, v.ownBlock = some k → lo ≤ k ∧ k < w.heap.size := by
  obtain ⟨g, off, cap, cur, rfl, h1, h2, h2', h3, h4, h5⟩ := h
  intro k hk
  cases hk
  exact ⟨h1, (Array.getElem?_eq_some_iff.1 h4).1⟩
theorem QRow.kept {row : Option Nat} (h : QRow w e lo v xs) (hg : w.grownBy w' row) (hne : v.ownBlock ≠ row) : QRow w' e lo v xs := by
  have hlt := h.lt
  obtain ⟨g, off, cap, cur, rfl, h1, h2, h2', h3, h4, h5⟩ := h
  exact ⟨g, off, cap, cur, rfl, h1, h2, h2', h3, (hg.block g (hlt g rfl).2 hne).trans h4, h5⟩
theorem QRow.of_own (h : w.ownsRow lo e 1 v xs.length (xs.map vI)) (hp : 0 < xs.length) : QRow w e lo v xs := by
  rcases h.2 with ⟨_, h0⟩ | ⟨g, cap, cur, rfl, h1, h2, h3, h4, h5, h6⟩
  · omega
  · refine ⟨g, 0, cap, cur, rfl, h1, h3, h4, by omega, h2, fun i hi => ?_⟩
    have h7 : (cur.toList.take (xs.length * 1))[i]? = some (vI xs[i]) := by rw [h6]; simp [hi]
    rw [List.getElem?_take] at h7
    split at h7
    · rw [Nat.zero_add]; simpa using h7
    · cases h7
theorem cell_of_row {g j : Nat} {cur : Array Value} {fz : Nat × Nat} (h : w.heap[g]? = some (.cells cur e fz)) : w.cell? ⟨g, j, none⟩ = cur[j]? := by simp [World.cell?, h]
theorem QRow.row (h : QRow w e lo v xs) : RowOf vI w v xs := by
  have hlt := h.lt
  obtain ⟨g, off, cap, cur, rfl, h1, h2, h2', h3, h4, h5⟩ := h
  exact ⟨_, cap, rfl, h2, h2', .inr ⟨g, off, (hlt g rfl).2, rfl, fun i hi => by rw [cell_of_row h4]; exact h5 i hi⟩⟩
theorem QRow.tail {x : Int} (h : QRow w e lo v (x :: xs)) : ∃ (g off cap : Nat) (ad : Addr), v = .slice (some ⟨g, off, none⟩) (xs.length + 1) cap ∧ xs.length + 1 ≤ cap ∧ cap ≤ maxLen ∧ (if cap = 1 then (some (⟨g, off, none⟩ : Addr)) else some ⟨g, off + 1, none⟩) = some ad ∧ ad.block = g ∧ w.cell? ⟨g, off, none⟩ = some (.int .i64 x) ∧ QRow w e lo (.slice (some ad) xs.length (cap - 1)) xs := by
  obtain ⟨g, off, cap, cur, rfl, h1, h2, h2', h3, h4, h5⟩ := h
  have hx : w.cell? ⟨g, off, none⟩ = some (.int .i64 x) := by
    have := h5 0 (by simp)
    rw [cell_of_row h4]
    simpa [vI] using this
  simp only [List.length_cons] at h2
  by_cases hc : cap = 1
  · refine ⟨g, off, cap, ⟨g, off, none⟩, by simp, h2, h2', by simp [hc], rfl, hx, g, off, cap - 1, cur, rfl, h1, by omega, by omega, by omega, h4, fun i hi => by omega⟩
  · refine ⟨g, off, cap, ⟨g, off + 1, none⟩, by simp, h2, h2', by simp [hc], rfl, hx, g, off + 1, cap - 1, cur, rfl, h1, by omega, by omega, by omega, h4, fun i hi => ?_⟩
    have := h5 (i + 1) (by simp; omega)
    rw [show off + 1 + i = off + (i + 1) by omega]
    simpa using this
end
section
variable {P : Program} (w : World)
theorem run_append_q (t ty e : TypeId) (i : TypeInfo) (ht : P.underlying t = some (.slice e)) (hi : P.info? e = some i) (hz : i.zero = some (.int .i64 0)) (hsize : i.size = 1) (hby : i.bytes = 8)
    (lo : Nat) (v : Value) (xs : List Int) (h : QRow w e lo v xs) (hlo : lo ≤ w.heap.size) (hl : xs.length ≤ 1048576) (ad : Addr) (had : ad.add 0 = ad) (c : Nat) (x : Int) (hc : w.cell? ad = some (vI x)) :
    ∃ v' w', (Builtin.append_ #[t, t] ty #[v, .slice (some ad) 1 c]).run P w = .ok v' w' ∧ QRow w' e lo v' (xs ++ [x]) ∧ w.grownBy w' v.ownBlock ∧ (v'.ownBlock = v.ownBlock ∨ ∀ k, v'.ownBlock = some k → w.heap.size ≤ k) := by
  obtain ⟨g, off, cap, cur, rfl, h1, h2, h2', h3, h4, h5⟩ := h
  have hnews : ∀ (j : Nat) (u : Value), [vI x][j]? = some u → w.cell? (ad.add j) = some u := fun j u hj => by
    rcases j with _ | j
    · rw [had]; simp at hj; rw [hc, hj]
    · simp at hj
  have hone : ∀ u ∈ [vI x], u.oneCell' = true := fun u hu => by rw [List.mem_singleton.1 hu]; rfl
  by_cases hroom : xs.length + 1 ≤ cap
  · have hsp : ∀ j, j < [vI x].length → (w.cell? ⟨g, off + xs.length * i.size + j, none⟩).isSome = true := fun j hj => by
      simp at hj
      subst hj
      rw [cell_of_row h4, hsize]
      simp
      omega
    have hrun := run_append_room_cells (P := P) w t ty e i ht hi g off xs.length cap ad 1 c [vI x] (by simp [hsize]) hnews hone hroom hsp (fun j _ => frozen_of_row w g _ cur e h4)
    refine ⟨_, _, hrun, ?_, ?_, .inl rfl⟩
    · rw [hsize]
      show QRow (w.setCell ⟨g, off + xs.length * 1, none⟩ (vI x)) e lo (.slice (some ⟨g, off, none⟩) (xs.length + 1) cap) (xs ++ [x])
      rw [Nat.mul_one]
      refine ⟨g, off, cap, cur.setIfInBounds (off + xs.length) (vI x), by simp, h1, by simpa using hroom, h2', by simpa using h3, heap_setCell_same w g _ cur e _ h4, fun j hj => ?_⟩
      simp at hj
      rcases Nat.lt_or_ge j xs.length with q | q
      · rw [Array.getElem?_setIfInBounds_ne (by omega), h5 j q, List.getElem_append_left q]
      · have : j = xs.length := by omega
        subst this
        rw [Array.getElem?_setIfInBounds_self_of_lt (by omega)]
        simp
    · exact ⟨rfl, rfl, rfl, by show _ ≤ (w.setCell _ _).heap.size; simp, fun k _ hk => heap_setCell_other w ⟨g, off + xs.length * i.size, none⟩ k _ (fun e => hk (by rw [e]; rfl))⟩
  · obtain ⟨v', w', hrun, ho, hg⟩ := run_append_arg_grows (P := P) w t ty e i (.int .i64 0) 1 8 ht hi hz hsize hby rfl (by decide) ⟨g, off, none⟩ xs.length cap (xs.map vI) (by simp) (fun j u hj => by
      rw [List.getElem?_map] at hj
      obtain ⟨z, hz, rfl⟩ := Option.map_eq_some_iff.1 hj
      obtain ⟨q1, q2⟩ := List.getElem?_eq_some_iff.1 hz
      rw [Addr.add_lit, cell_of_row h4, ← q2]
      exact h5 j q1) ad 1 c [vI x] (by simp) hnews (by omega) (by unfold maxLen; omega) (by omega)
    refine ⟨v', w', hrun, ?_, ⟨hg.os, hg.tape, hg.output, hg.size, fun k hk _ => hg.block k hk (by simp)⟩, .inr (fun k hk => (ho.lt k hk).1)⟩
    have e1 : (xs.map vI ++ [vI x] : List Value) = (xs ++ [x]).map vI := by simp
    rw [e1] at ho
    have := QRow.of_own (xs := xs ++ [x]) (by simpa using ho) (by simp)
    obtain ⟨g', off', cap', cur', q1, q2, q3⟩ := this
    exact ⟨g', off', cap', cur', q1, by omega, q3⟩
theorem wpList_append_q {ops : Array Oper} {rest : List Oper} {o : Oper} {a : Act} {Q : Exit → Act → World → Prop} (hgd : o.guard = none) (s x : Operand) (t : TypeId)
    (hop : o.op = Op.call { callee := Callee.builtin Builtin.append, args := #[s, x], argTypes := #[t, t] })
    (e : TypeId) (i : TypeInfo) (ht : P.underlying t = some (.slice e)) (hi : P.info? e = some i) (hz : i.zero = some (.int .i64 0)) (hsize : i.size = 1) (hby : i.bytes = 8)
    (lo : Nat) (v : Value) (xs : List Int) (hv : a.eval s = v) (h : QRow w e lo v xs) (hlo : lo ≤ w.heap.size) (hl : xs.length ≤ 1048576) (ad : Addr) (had : ad.add 0 = ad) (c : Nat) (y : Int) (hx : a.eval x = .slice (some ad) 1 c) (hc : w.cell? ad = some (vI y))
    (hK : ∀ v' w', QRow w' e lo v' (xs ++ [y]) → w.grownBy w' v.ownBlock → (v'.ownBlock = v.ownBlock ∨ ∀ k, v'.ownBlock = some k → w.heap.size ≤ k) → wpList P ops Q rest (a.put o.dst v') w') :
    wpList P ops Q (o :: rest) a w := by
  refine wpList_plain hgd fun K hK' => ?_
  obtain ⟨v', w', hrun, r1, r2, r3⟩ := run_append_q (P := P) w t o.type e i ht hi hz hsize hby lo v xs h hlo hl ad had c y hc
  unfold Oper.wp
  simp [execOp, hop, resolve, invoke, builtin, hv, hx, hrun, Result.andThen]
  exact hK' _ _ (hK v' w' r1 r2 r3)
end
end Go.Proofs.Ytcfghigmijibeaa
