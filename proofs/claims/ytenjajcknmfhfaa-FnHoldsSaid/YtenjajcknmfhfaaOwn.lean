/- Rows of elements of some cells each, in new memory: made, stored into, read. No program is named here. -/
import Derived.Test.YtenjajcknmfhfaaOpen
import Derived.Laws.MakeOwn
import Derived.OwnWalk
import Derived.Below
import Derived.Laws.IdiomCopy
namespace Go.Proofs.Ytenjajcknmfhfaa
set_option linter.unusedVariables false
open Go.RowKit

theorem below_al {w w' : World} (h : Below w.heap.size w w') (o : Obj) : Below w.heap.size w (w'.alloc o) := h.alloc h.size o
theorem below_chain {w a b : World} (h : Below w.heap.size w a) (k : Below a.heap.size a b) : Below w.heap.size w b := h.trans (k.mono h.size)

/-- A row of the call's own, of elements of 'size' cells. -/
def Own (lo e size : Nat) (w : World) (v : Value) (css : List (List Value)) : Prop :=
  w.ownsRow lo e size v css.length css.flatten ∧ ∀ cs ∈ css, cs.length = size

section
variable {lo e size : Nat} {w w' : World} {v : Value} {css : List (List Value)}
theorem Own.row {α : Type} {R : Rd α} {xs : List α} (h : Own lo e size w v css) (hl : css.length = xs.length) (hR : ∀ i (h1 : i < css.length) (h2 : i < xs.length), R w css[i] xs[i]) : RowR size R w v xs :=
  RowR.of_owns (by rw [← hl]; exact h.1) hl h.2 hR
theorem Own.below (h : Own lo e size w v css) (hb : Below w.heap.size w w') : Own lo e size w' v css := by
  refine ⟨h.1.kept (row := none) ⟨hb.os, hb.tape, hb.output, hb.size, fun k hk _ => hb.block k hk⟩ ?_, h.2⟩
  rcases hv : v.ownBlock with _ | k
  · exact .inl rfl
  · exact .inr (by simp)
theorem Own.lower (h : Own lo e size w v css) {lo' : Nat} (hl : lo' ≤ lo) : Own lo' e size w v css :=
  ⟨⟨h.1.1, h.1.2.imp id fun ⟨g, cap, cur, e, hg, r⟩ => ⟨g, cap, cur, e, Nat.le_trans hl hg, r⟩⟩, h.2⟩
theorem Own.far (h : Own lo e size w v css) {a : Addr} (ha : a.block < lo) (u : Value) : Own lo e size (w.setCell a u) v css := ⟨ownsRow_setCell_below h.1 ha u, h.2⟩
theorem Own.alloc (h : Own lo e size w v css) (o : Obj) : Own lo e size (w.alloc o) v css := ⟨h.1.alloc o, h.2⟩
theorem Own.nil (lo e size : Nat) (w : World) : Own lo e size w (.slice none 0 0) [] := ⟨⟨by simp, .inl ⟨rfl, rfl⟩⟩, by simp⟩
theorem Own.drew (h : Own lo e size w v css) : Own lo e size w.drew v css := h
theorem Own.form (h : Own lo e size w v css) : (v = .slice none 0 0 ∧ css = []) ∨ ∃ g cap, v = .slice (some ⟨g, 0, none⟩) css.length cap ∧ lo ≤ g ∧ g < w.heap.size ∧ css.length ≤ cap ∧ cap ≤ maxLen := by
  rcases h.1.2 with ⟨rfl, h0⟩ | ⟨g, cap, cur, rfl, hg, hh, hn, hm, hs, ht⟩
  · exact .inl ⟨rfl, List.length_eq_zero_iff.1 h0⟩
  · exact .inr ⟨g, cap, rfl, hg, (Array.getElem?_eq_some_iff.1 hh).1, hn, hm⟩
theorem Own.slice (h : Own lo e size w v css) : ∃ a n c, v = .slice a n c := by
  rcases h.form with ⟨rfl, _⟩ | ⟨g, cap, rfl, _⟩
  · exact ⟨_, _, _, rfl⟩
  · exact ⟨_, _, _, rfl⟩
theorem Own.cell {g n cap : Nat} (h : Own lo e size w (.slice (some ⟨g, 0, none⟩) n cap) css) (i j : Nat) (hi : i < css.length) (hj : j < size) :
    w.cell? ⟨g, i * size + j, none⟩ = css[i][j]? := by
  have hn : n = css.length := by
    rcases h.1.2 with ⟨h', _⟩ | ⟨g', cap', cur, h', _⟩
    · cases h'
    · simp only [Value.slice.injEq] at h'; exact h'.2.1
  subst hn
  have hlt : i * size + j < css.length * size := by
    have : (i + 1) * size ≤ css.length * size := Nat.mul_le_mul_right _ hi
    rw [Nat.succ_mul] at this
    omega
  rw [h.1.cellAt (i * size + j) hlt, flat_get css i j h.2 hj, List.getElem?_eq_getElem hi, Option.bind_some]
theorem Own.frozen {g n cap : Nat} (h : Own lo e size w (.slice (some ⟨g, 0, none⟩) n cap) css) (j : Nat) : w.frozen? ⟨g, j, none⟩ = false := by
  have hn : n = css.length := by
    rcases h.1.2 with ⟨h', _⟩ | ⟨g', cap', cur, h', _⟩
    · cases h'
    · simp only [Value.slice.injEq] at h'; exact h'.2.1
  subst hn
  exact h.1.frozenAt j
end

theorem flat_set {α : Type} {size : Nat} (u : α) : ∀ (css : List (List α)) (i j : Nat) (hi : i < css.length), (∀ cs ∈ css, cs.length = size) → j < size → css.flatten.set (i * size + j) u = (css.set i (css[i].set j u)).flatten
  | cs :: css, 0, j, _, h, hj => by
    have := h cs (by simp)
    simp only [Nat.zero_mul, Nat.zero_add, List.flatten_cons, List.set_cons_zero, List.getElem_cons_zero]
    rw [List.set_append_left _ _ (by omega)]
  | cs :: css, i + 1, j, hi, h, hj => by
    have h0 := h cs (by simp)
    simp only [List.flatten_cons, List.set_cons_succ, List.getElem_cons_succ]
    rw [List.set_append_right _ _ (by rw [h0, Nat.succ_mul]; omega), h0, show (i + 1) * size + j - size = i * size + j by rw [Nat.succ_mul]; omega]
    rw [flat_set u css i j (by simpa using hi) (fun x hx => h x (List.mem_cons_of_mem _ hx)) hj]

/-- One cell of one element is stored. -/
theorem Own.stored {lo e size : Nat} {w : World} {g n cap : Nat} {css : List (List Value)} (h : Own lo e size w (.slice (some ⟨g, 0, none⟩) n cap) css) (i j : Nat) (hi : i < css.length) (hj : j < size) (u : Value) :
    Own lo e size (w.setCell ⟨g, i * size + j, none⟩ u) (.slice (some ⟨g, 0, none⟩) n cap) (css.set i (css[i].set j u)) ∧ w.grownBy (w.setCell ⟨g, i * size + j, none⟩ u) (some g) := by
  have hn : n = css.length := by
    rcases h.1.2 with ⟨h', _⟩ | ⟨g', cap', cur, h', _⟩
    · cases h'
    · simp only [Value.slice.injEq] at h'; exact h'.2.1
  subst hn
  have := h.1.stored (i * size + j) u
  rw [flat_set u css i j hi h.2 hj] at this
  refine ⟨⟨by simpa using this.1, fun cs hcs => ?_⟩, this.2⟩
  rcases List.mem_or_eq_of_mem_set hcs with h1 | h1
  · exact h.2 cs h1
  · subst h1
    rw [List.length_set]
    exact h.2 _ (List.getElem_mem hi)

/-- Cells laid over a list from place j on. -/
def setFrom {α : Type} : List α → Nat → List α → List α
  | l, _, [] => l
  | l, j, u :: r => setFrom (l.set j u) (j + 1) r
theorem setFrom_eq {α : Type} : ∀ (r l : List α) (j : Nat), j + r.length ≤ l.length → setFrom l j r = l.take j ++ r ++ l.drop (j + r.length)
  | [], l, j, h => by simp [setFrom]
  | u :: r, l, j, h => by
    simp only [List.length_cons] at h
    rw [setFrom, setFrom_eq r (l.set j u) (j + 1) (by rw [List.length_set]; omega)]
    have h1 : (l.set j u).take (j + 1) = l.take j ++ [u] := by
      rw [List.take_add_one, List.getElem?_set_self (by omega), List.take_set_of_le (Nat.le_refl j)]
      rfl
    rw [h1, List.drop_set_of_lt (by omega), List.length_cons, show j + 1 + r.length = j + (r.length + 1) by omega]
    simp
theorem setFrom_all {α : Type} (l r : List α) (h : r.length = l.length) : setFrom l 0 r = r := by
  rw [setFrom_eq r l 0 (by omega), List.drop_of_length_le (by omega)]
  simp
theorem setFrom_len {α : Type} : ∀ (r l : List α) (j : Nat), (setFrom l j r).length = l.length
  | [], l, j => rfl
  | u :: r, l, j => by rw [setFrom, setFrom_len r, List.length_set]
theorem Own.puts {lo e size g n cap : Nat} : ∀ (r : List Value) (w : World) (css : List (List Value)) (i j : Nat) (hi : i < css.length), j + r.length ≤ size → Own lo e size w (.slice (some ⟨g, 0, none⟩) n cap) css →
    Own lo e size (w.setCells g (i * size + j) r) (.slice (some ⟨g, 0, none⟩) n cap) (css.set i (setFrom css[i] j r)) ∧ w.grownBy (w.setCells g (i * size + j) r) (some g)
  | [], w, css, i, j, hi, hj, h => by
    simp only [World.setCells, setFrom, List.set_getElem_self]
    exact ⟨h, World.grownBy.refl _ _⟩
  | u :: r, w, css, i, j, hi, hj, h => by
    simp only [List.length_cons] at hj
    obtain ⟨h1, h2⟩ := h.stored i j hi (by omega) u
    obtain ⟨h3, h4⟩ := Own.puts r _ _ i (j + 1) (by simpa using hi) (by omega) h1
    simp only [List.getElem_set_self, List.set_set] at h3
    rw [World.setCells, setFrom, show i * size + j + 1 = i * size + (j + 1) by omega]
    exact ⟨h3, ⟨h4.os.trans h2.os, h4.tape.trans h2.tape, h4.output.trans h2.output, Nat.le_trans h2.size h4.size, fun k hk hr => (h4.block k (Nat.lt_of_lt_of_le hk h2.size) hr).trans (h2.block k hk hr)⟩⟩
/-- One element is stored whole. -/
theorem Own.put {lo e size : Nat} {w : World} {g n cap : Nat} {css : List (List Value)} (h : Own lo e size w (.slice (some ⟨g, 0, none⟩) n cap) css) (i : Nat) (hi : i < css.length) (cs : List Value) (hl : cs.length = size) :
    Own lo e size (w.setCells g (i * size) cs) (.slice (some ⟨g, 0, none⟩) n cap) (css.set i cs) ∧ w.grownBy (w.setCells g (i * size) cs) (some g) := by
  have := Own.puts cs w css i 0 hi (by omega) h
  rw [setFrom_all _ _ (by rw [hl, h.2 _ (List.getElem_mem hi)])] at this
  exact this

/-- What make lays. -/
theorem made_flat (z : Array Value) (n size : Nat) (hz : z.size = size) (h0 : 0 < size) : (madeCells z (n * size)).toList = (List.replicate n z.toList).flatten := by
  apply List.ext_getElem?
  intro k
  have hl : ∀ cs ∈ List.replicate n z.toList, cs.length = size := fun cs h => by rw [(List.mem_replicate.1 h).2]; simpa using hz
  have hk : k = k / size * size + k % size := by rw [Nat.mul_comm]; exact (Nat.div_add_mod k size).symm
  have hm : k % size < size := Nat.mod_lt _ h0
  by_cases h : k < n * size
  · have hd : k / size < n := (Nat.div_lt_iff_lt_mul h0).2 h
    have h1 := flat_get (List.replicate n z.toList) (k / size) (k % size) hl hm
    rw [← hk] at h1
    rw [h1, List.getElem?_replicate, if_pos hd]
    simp only [Option.bind_some, madeCells, Array.toList_map, List.getElem?_map, Array.toList_range]
    rw [List.getElem?_range h, Option.map_some, hz]
    rw [List.getElem?_eq_getElem (by simp; omega)]
    simp [getElem!_pos, hz, hm]
  · rw [List.getElem?_eq_none (by simp [size_madeCells]; omega), List.getElem?_eq_none (by rw [flat_len _ hl]; simp; omega)]
theorem Own.made {w w' : World} {base e size n : Nat} {z : Array Value} (hz : z.size = size) (h0 : 0 < size) (h : w'.ownsRow base e size (.slice (some ⟨w.heap.size, 0, none⟩) n n) n (madeCells z (n * size)).toList) :
    Own base e size w' (.slice (some ⟨w.heap.size, 0, none⟩) n n) (List.replicate n z.toList) := by
  refine ⟨?_, fun cs h => by rw [(List.mem_replicate.1 h).2]; simpa using hz⟩
  rw [made_flat z n size hz h0] at h
  simpa using h
theorem below_of_grow {B : Nat} {w w' : World} {row : Option Nat} (h : w.grownBy w' row) (hB : B ≤ w.heap.size) (hr : ∀ k, row = some k → B ≤ k) : Below B w w' := (Below.refl B w).grown h hB hr

/-- The first k elements done, the others as made. -/
def partly (done : List (List Value)) (z : List Value) (k : Nat) : List (List Value) := done.take k ++ List.replicate (done.length - k) z
theorem partly_zero (done : List (List Value)) (z : List Value) : partly done z 0 = List.replicate done.length z := by simp [partly]
theorem partly_all (done : List (List Value)) (z : List Value) : partly done z done.length = done := by simp [partly]
theorem partly_len (done : List (List Value)) (z : List Value) (k : Nat) (h : k ≤ done.length) : (partly done z k).length = done.length := by simp [partly]; omega
theorem partly_at (done : List (List Value)) (z : List Value) (k : Nat) (h : k < done.length) (h' : k < (partly done z k).length) : (partly done z k)[k] = z := by
  have h1 : (partly done z k)[k]? = some z := by
    unfold partly
    have hl : (done.take k).length = k := by rw [List.length_take]; omega
    rw [List.getElem?_append_right (by omega), hl, Nat.sub_self, List.getElem?_replicate, if_pos (by omega)]
  rw [List.getElem?_eq_getElem h'] at h1
  exact Option.some.inj h1
theorem partly_set (done : List (List Value)) (z : List Value) (k : Nat) (h : k < done.length) : (partly done z k).set k done[k] = partly done z (k + 1) := by
  unfold partly
  have hl : (done.take k).length = k := by rw [List.length_take]; omega
  obtain ⟨n, hn⟩ : ∃ n, done.length - k = n + 1 := ⟨done.length - k - 1, by omega⟩
  rw [hn, show done.length - (k + 1) = n by omega, List.set_append_right _ _ (by omega), hl, Nat.sub_self, List.replicate_succ, List.set_cons_zero]
  rw [show done.take (k + 1) = done.take k ++ [done[k]] by rw [List.take_add_one, List.getElem?_eq_getElem h]; rfl, List.append_assoc]
  rfl

/-- The first k elements marked, the others as they were. -/
def mkd {α : Type} (m : Nat → α) (xs : List α) (k : Nat) : List α := (List.range k).map m ++ xs.drop k
theorem mkd_len {α : Type} (m : Nat → α) (xs : List α) (k : Nat) (h : k ≤ xs.length) : (mkd m xs k).length = xs.length := by simp [mkd]; omega
theorem mkd_zero {α : Type} (m : Nat → α) (xs : List α) : mkd m xs 0 = xs := by simp [mkd]
theorem mkd_all {α : Type} (m : Nat → α) (xs : List α) : mkd m xs xs.length = (List.range xs.length).map m := by simp [mkd]
theorem mkd_at {α : Type} (m : Nat → α) (xs : List α) (k : Nat) (h : k < xs.length) : (mkd m xs k)[k]? = some xs[k] := by
  unfold mkd
  rw [List.getElem?_append_right (by simp)]
  simp [List.getElem?_eq_getElem h]
theorem mkd_set {α : Type} (m : Nat → α) (xs : List α) (k : Nat) (h : k < xs.length) : (mkd m xs k).set k (m k) = mkd m xs (k + 1) := by
  unfold mkd
  rw [List.set_append_right _ _ (by simp), List.length_map, List.length_range, Nat.sub_self, List.drop_eq_getElem_cons h, List.set_cons_zero, List.range_succ, List.map_append, List.append_assoc]
  rfl

/-- All blocks of a slice value lie below hi. -/
def Under (hi : Nat) (v : Value) : Prop := ∀ g, v.ownBlock = some g → g < hi
theorem Own.under {lo e size : Nat} {w : World} {v : Value} {css : List (List Value)} (h : Own lo e size w v css) : Under w.heap.size v := fun g hg => (h.1.lt g hg).2
theorem Under.up {hi hi' : Nat} {v : Value} (h : Under hi v) (hh : hi ≤ hi') : Under hi' v := fun g hg => Nat.lt_of_lt_of_le (h g hg) hh
theorem Under.nil (hi n c : Nat) : Under hi (.slice none n c) := fun g hg => by simp [Value.ownBlock] at hg

/-- Of the blocks that were there only those of [lo, hi) have turned. -/
structure Only (lo hi : Nat) (w w' : World) : Prop where
  os : w'.os = w.os
  tape : w'.tape = w.tape
  output : w'.output = w.output
  size : w.heap.size ≤ w'.heap.size
  block : ∀ k, k < w.heap.size → (k < lo ∨ hi ≤ k) → w'.heap[k]? = w.heap[k]?
theorem Only.below {lo hi : Nat} {w w' : World} (h : Only lo hi w w') (hl : lo ≤ w.heap.size) : Below lo w w' := ⟨h.os, h.tape, h.output, h.size, fun k hk => h.block k (by omega) (.inl hk)⟩
theorem Only.of_below {lo hi : Nat} {w w' : World} (h : Below w.heap.size w w') : Only lo hi w w' := ⟨h.os, h.tape, h.output, h.size, fun k hk _ => h.block k hk⟩
theorem Only.refl (lo hi : Nat) (w : World) : Only lo hi w w := ⟨rfl, rfl, rfl, Nat.le_refl _, fun _ _ _ => rfl⟩
theorem Only.trans {lo hi : Nat} {a b c : World} (h : Only lo hi a b) (k : Only lo hi b c) : Only lo hi a c :=
  ⟨k.os.trans h.os, k.tape.trans h.tape, k.output.trans h.output, Nat.le_trans h.size k.size, fun i hi hh => (k.block i (Nat.lt_of_lt_of_le hi h.size) hh).trans (h.block i hi hh)⟩
theorem Only.of_grown {lo hi : Nat} {w w' : World} {v : Value} (h : w.grownBy w' v.ownBlock) (h1 : ∀ g, v.ownBlock = some g → lo ≤ g) (h2 : Under hi v) : Only lo hi w w' :=
  ⟨h.os, h.tape, h.output, h.size, fun k hk hh => h.block k hk (fun e => by have a := h1 k e.symm; have b := h2 k e.symm; omega)⟩
theorem Own.only {lo lo' hi e size : Nat} {w w' : World} {v : Value} {css : List (List Value)} (h : Own lo e size w v css) (ho : Only lo' hi w w') (hh : hi ≤ lo) : Own lo e size w' v css := by
  refine ⟨⟨h.1.1, h.1.2.imp id ?_⟩, h.2⟩
  rintro ⟨g, cap, cur, e, hg, hb, r⟩
  exact ⟨g, cap, cur, e, hg, (ho.block g (Array.getElem?_eq_some_iff.1 hb).1 (.inr (by omega))).trans hb, r⟩
theorem Own.ge {lo e size : Nat} {w : World} {v : Value} {css : List (List Value)} (h : Own lo e size w v css) : ∀ g, v.ownBlock = some g → lo ≤ g := fun g hg => (h.1.lt g hg).1
theorem Own.only2 {lo lo' hi' e size : Nat} {w w' : World} {v : Value} {css : List (List Value)} (h : Own lo e size w v css) (ho : Only lo' hi' w w') (hh : Under lo' v) : Own lo e size w' v css := by
  refine ⟨⟨h.1.1, h.1.2.imp id ?_⟩, h.2⟩
  rintro ⟨g, cap, cur, e, hg, hb, r⟩
  exact ⟨g, cap, cur, e, hg, (ho.block g (Array.getElem?_eq_some_iff.1 hb).1 (.inl (hh g (by rw [e]; rfl)))).trans hb, r⟩
theorem ownsRow_only2 {lo lo' hi' e size n : Nat} {w w' : World} {v : Value} {xs : List Value} (h : w.ownsRow lo e size v n xs) (ho : Only lo' hi' w w') (hh : Under lo' v) : w'.ownsRow lo e size v n xs := by
  refine ⟨h.1, h.2.imp id ?_⟩
  rintro ⟨g, cap, cur, e, hg, hb, r⟩
  exact ⟨g, cap, cur, e, hg, (ho.block g (Array.getElem?_eq_some_iff.1 hb).1 (.inl (hh g (by rw [e]; rfl)))).trans hb, r⟩
theorem Only.wide {lo hi lo' hi' : Nat} {w w' : World} (h : Only lo hi w w') (hl : lo' ≤ lo) (hh : hi ≤ hi') : Only lo' hi' w w' :=
  ⟨h.os, h.tape, h.output, h.size, fun k hk hx => h.block k hk (by omega)⟩
end Go.Proofs.Ytenjajcknmfhfaa
