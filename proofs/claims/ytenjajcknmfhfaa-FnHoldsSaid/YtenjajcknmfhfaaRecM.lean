/- What a record is, and what the functions of records answer, as plain mathematics. No program is named here. -/
import Derived.Test.YtenjajcknmfhfaaIsEv
import Derived.Test.YtenjajcknmfhfaaUpto
namespace Go.Proofs.Ytenjajcknmfhfaa
set_option linter.unusedVariables false

def evD : Ev := ⟨0, 0⟩
/-- The kind of the event ahead, or 0. -/
def prevK (xs : List Ev) : Nat → Int
  | 0 => 0
  | j + 1 => (xs.getD j evD).kind
/-- The i-th event is valid and in its place. -/
def evAtB (made : Int) (xs : List Ev) (i : Nat) : Bool := isEv (xs.getD i evD) && (decide (made ≤ (xs.getD i evD).day) && decide (prevK xs i < (xs.getD i evD).kind))
def isRec (r : Rec) : Bool :=
  decide (1 ≤ r.id ∧ r.id ≤ 999) && (decide (1 ≤ r.series ∧ r.series ≤ 99) && (decide (0 ≤ r.made ∧ r.made ≤ 20000) && (decide (r.evs.length ≤ 6) && upto (evAtB r.made r.evs) r.evs.length)))
theorem isRec_iff {r : Rec} : isRec r = true ↔ (1 ≤ r.id ∧ r.id ≤ 999) ∧ (1 ≤ r.series ∧ r.series ≤ 99) ∧ (0 ≤ r.made ∧ r.made ≤ 20000) ∧ r.evs.length ≤ 6 ∧ upto (evAtB r.made r.evs) r.evs.length = true := by
  simp [isRec]
theorem evAtB_iff {made : Int} {xs : List Ev} {i : Nat} : evAtB made xs i = true ↔ isEv (xs.getD i evD) = true ∧ made ≤ (xs.getD i evD).day ∧ prevK xs i < (xs.getD i evD).kind := by
  simp [evAtB]
theorem isEv_iff {e : Ev} : isEv e = true ↔ 1 ≤ e.kind ∧ e.kind ≤ 9 ∧ 0 ≤ e.day ∧ e.day ≤ 20000 := by simp [isEv]
theorem getD_lt {xs : List Ev} {i : Nat} (h : i < xs.length) : xs.getD i evD = xs[i] := by simp [List.getD, List.getElem?_eq_getElem h]

def recD : Rec := ⟨0, 0, 0, []⟩
def prevI (rs : List Rec) : Nat → Int
  | 0 => 0
  | j + 1 => (rs.getD j recD).id
def recAtB (rs : List Rec) (i : Nat) : Bool := isRec (rs.getD i recD) && decide (prevI rs i < (rs.getD i recD).id)
def areRecs (rs : List Rec) : Bool := decide (rs.length ≤ 10) && upto (recAtB rs) rs.length
theorem getDr_lt {xs : List Rec} {i : Nat} (h : i < xs.length) : xs.getD i recD = xs[i] := by simp [List.getD, List.getElem?_eq_getElem h]

/-- The kinds of a valid record's events ascend. -/
theorem isRec_sorted {r : Rec} (h : isRec r = true) : ∀ j i, j < i → i < r.evs.length → (r.evs.getD j evD).kind < (r.evs.getD i evD).kind := by
  obtain ⟨_, _, _, _, h⟩ := isRec_iff.1 h
  intro j i
  induction i with
  | zero => intro h; omega
  | succ i ih =>
    intro hj hi
    have h1 := (evAtB_iff.1 (upto_iff.1 h (i + 1) hi)).2.2
    simp only [prevK] at h1
    rcases Nat.lt_or_ge j i with h' | h'
    · have := ih h' (by omega); omega
    · obtain rfl : j = i := by omega
      exact h1
theorem isRec_ev {r : Rec} (h : isRec r = true) (i : Nat) (hi : i < r.evs.length) : isEv (r.evs.getD i evD) = true ∧ r.made ≤ (r.evs.getD i evD).day := by
  obtain ⟨_, _, _, _, h⟩ := isRec_iff.1 h
  have := evAtB_iff.1 (upto_iff.1 h i hi)
  exact ⟨this.1, this.2.1⟩

/-- How many events come ahead of a kind. -/
def placeK (xs : List Ev) (k : Int) : Nat := (xs.takeWhile (fun e => decide (e.kind < k))).length
theorem placeK_le (xs : List Ev) (k : Int) : placeK xs k ≤ xs.length := (List.takeWhile_sublist _).length_le
theorem takeWhile_len {α : Type} (p : α → Bool) : ∀ (xs : List α) (i : Nat) (hi : i ≤ xs.length), (∀ j (h : j < i), p (xs[j]'(by omega)) = true) → (∀ h : i < xs.length, p xs[i] = false) → (xs.takeWhile p).length = i
  | [], i, hi, _, _ => by simp at hi; simp [hi]
  | x :: xs, 0, hi, _, h2 => by
    have : p x = false := h2 (by simp)
    simp [List.takeWhile, this]
  | x :: xs, i + 1, hi, h1, h2 => by
    have h0 : p x = true := h1 0 (by omega)
    have := takeWhile_len p xs i (by simpa using hi) (fun j h => by simpa using h1 (j + 1) (by omega)) (fun h => by have := h2 (by simpa using h); rwa [List.getElem_cons_succ] at this)
    simp [List.takeWhile, h0, this]
theorem takeWhile_all {α : Type} (p : α → Bool) : ∀ (xs : List α) (j : Nat) (h : j < (xs.takeWhile p).length) (h' : j < xs.length), p xs[j] = true
  | [], j, h, h' => by simp at h'
  | x :: xs, j, h, h' => by
    rcases hp : p x with _ | _
    · simp [List.takeWhile, hp] at h
    · cases j with
      | zero => exact hp
      | succ j => simp [List.takeWhile, hp] at h; simpa using takeWhile_all p xs j h (by simpa using h')
theorem takeWhile_end {α : Type} (p : α → Bool) : ∀ (xs : List α) (h : (xs.takeWhile p).length < xs.length), p (xs[(xs.takeWhile p).length]) = false
  | [], h => by simp at h
  | x :: xs, h => by
    rcases hp : p x with _ | _
    · simp [List.takeWhile, hp]
    · simp only [List.takeWhile, hp] at h ⊢
      simpa using takeWhile_end p xs (by simpa using h)
theorem placeK_lt {xs : List Ev} {k : Int} {j : Nat} (h : j < placeK xs k) : (xs.getD j evD).kind < k := by
  have hl : j < xs.length := Nat.lt_of_lt_of_le h (placeK_le xs k)
  unfold placeK at h
  have := takeWhile_all (fun e : Ev => decide (e.kind < k)) xs j h hl
  rw [getD_lt hl]
  simpa using this
theorem placeK_end {xs : List Ev} {k : Int} (h : placeK xs k < xs.length) : k ≤ (xs.getD (placeK xs k) evD).kind := by
  rw [getD_lt h]
  unfold placeK at h
  have := takeWhile_end (fun e : Ev => decide (e.kind < k)) xs h
  simpa [placeK] using this
theorem placeK_is {xs : List Ev} {k : Int} {i : Nat} (hi : i ≤ xs.length) (h1 : ∀ j, j < i → (xs.getD j evD).kind < k) (h2 : i < xs.length → k ≤ (xs.getD i evD).kind) : placeK xs k = i :=
  takeWhile_len _ xs i hi (fun j h => by have := h1 j h; rw [getD_lt (by omega)] at this; simpa using this) (fun h => by have := h2 h; rw [getD_lt h] at this; simpa using this)
/-- There is an event of the kind at its place. -/
def foundK (xs : List Ev) (k : Int) : Bool := decide (placeK xs k < xs.length) && decide ((xs.getD (placeK xs k) evD).kind = k)

/-- The day of the first event of a kind, the day made for 0, or -1. -/
def dayOf (r : Rec) (k : Int) : Int := if k = 0 then r.made else match r.evs.find? (fun e => decide (e.kind = k)) with | some e => e.day | none => -1
theorem find_first {α : Type} (p : α → Bool) : ∀ (xs : List α) (i : Nat) (hi : i < xs.length), (∀ j (h : j < i), p (xs[j]'(by omega)) = false) → p xs[i] = true → xs.find? p = some xs[i]
  | [], i, hi, _, _ => by simp at hi
  | x :: xs, 0, hi, _, h2 => by
    have : p x = true := h2
    simp [List.find?, this]
  | x :: xs, i + 1, hi, h1, h2 => by
    have h0 : p x = false := h1 0 (by omega)
    have := find_first p xs i (by simpa using hi) (fun j h => by simpa using h1 (j + 1) (by omega)) (by simpa using h2)
    simp [List.find?, h0, this]
theorem find_none {α : Type} (p : α → Bool) (xs : List α) (h : ∀ j (h : j < xs.length), p xs[j] = false) : xs.find? p = none := by
  rw [List.find?_eq_none]
  intro x hx
  obtain ⟨i, hi, rfl⟩ := List.getElem_of_mem hx
  simp [h i hi]
theorem dayOf_zero (r : Rec) : dayOf r 0 = r.made := by simp [dayOf]
theorem dayOf_hit {r : Rec} {k : Int} {i : Nat} (h0 : k ≠ 0) (hi : i < r.evs.length) (h1 : ∀ j, j < i → (r.evs.getD j evD).kind ≠ k) (h2 : (r.evs.getD i evD).kind = k) : dayOf r k = (r.evs.getD i evD).day := by
  unfold dayOf
  rw [if_neg h0, find_first _ r.evs i hi (fun j h => by have := h1 j h; rw [getD_lt (by omega)] at this; simpa using this) (by rw [getD_lt hi] at h2; simpa using h2), getD_lt hi]
theorem dayOf_miss {r : Rec} {k : Int} (h0 : k ≠ 0) (h1 : ∀ j, j < r.evs.length → (r.evs.getD j evD).kind ≠ k) : dayOf r k = -1 := by
  unfold dayOf
  rw [if_neg h0, find_none _ r.evs (fun j h => by have := h1 j h; rw [getD_lt h] at this; simpa using this)]
/-- In a valid record the place tells the day. -/
theorem dayOf_place {r : Rec} (h : isRec r = true) {k : Int} (h0 : k ≠ 0) : dayOf r k = if foundK r.evs k = true then (r.evs.getD (placeK r.evs k) evD).day else -1 := by
  have hs := isRec_sorted h
  by_cases hf : foundK r.evs k = true
  · rw [if_pos hf]
    simp only [foundK, Bool.and_eq_true, decide_eq_true_eq] at hf
    exact dayOf_hit h0 hf.1 (fun j hj => by have := placeK_lt hj; omega) hf.2
  · rw [if_neg hf]
    refine dayOf_miss h0 fun j hj e => hf ?_
    have hp : placeK r.evs k = j := placeK_is (by omega) (fun i hi => by have := hs i j hi hj; omega) (fun _ => by omega)
    unfold foundK
    rw [hp, e]
    simp [hj]
theorem dayOf_neg {r : Rec} (h : isRec r = true) (k : Int) : (0 ≤ dayOf r k) ↔ (k = 0 ∨ foundK r.evs k = true) := by
  by_cases h0 : k = 0
  · subst h0
    have := (isRec_iff.1 h).2.2.1
    simp only [dayOf_zero, true_or, iff_true]
    omega
  · rw [dayOf_place h h0]
    by_cases hf : foundK r.evs k = true
    · rw [if_pos hf]
      have hf' := hf
      simp only [foundK, Bool.and_eq_true, decide_eq_true_eq] at hf'
      have := isEv_iff.1 (isRec_ev h _ hf'.1).1
      simp only [hf, or_true, iff_true]
      omega
    · rw [if_neg hf]
      simp [h0, hf]
theorem found_zero {r : Rec} (h : isRec r = true) : foundK r.evs 0 = false := by
  rcases hb : foundK r.evs 0 with _ | _
  · rfl
  · simp only [foundK, Bool.and_eq_true, decide_eq_true_eq] at hb
    have := isEv_iff.1 (isRec_ev h _ hb.1).1
    omega


/-- With one event more, at its kind's place. -/
def insEv (xs : List Ev) (e : Ev) : List Ev := xs.take (placeK xs e.kind) ++ e :: xs.drop (placeK xs e.kind)
theorem insEv_at (xs : List Ev) (e : Ev) : (insEv xs e).getD (placeK xs e.kind) evD = e := by
  have hl : (xs.take (placeK xs e.kind)).length = placeK xs e.kind := by rw [List.length_take]; have := placeK_le xs e.kind; omega
  simp [insEv, List.getD, hl]
theorem insEv_behind (xs : List Ev) (e : Ev) (h : placeK xs e.kind < xs.length) : (insEv xs e).getD (placeK xs e.kind + 1) evD = xs.getD (placeK xs e.kind) evD := by
  have hl : (xs.take (placeK xs e.kind)).length = placeK xs e.kind := by rw [List.length_take]; omega
  simp [insEv, List.getD, List.getElem?_append_right, hl]
theorem insEv_len (xs : List Ev) (e : Ev) : (insEv xs e).length = xs.length + 1 := by
  have := placeK_le xs e.kind
  simp [insEv]; omega
/-- What an event makes valid is itself valid, and of a kind that was not there. -/
theorem ins_ok {r : Rec} {e : Ev} (h : isRec r = true) (ho : isRec { r with evs := insEv r.evs e } = true) : isEv e = true ∧ dayOf r e.kind < 0 := by
  have hp := placeK_le r.evs e.kind
  have h1 := (isRec_ev ho (placeK r.evs e.kind) (by rw [insEv_len]; omega)).1
  rw [insEv_at] at h1
  refine ⟨h1, ?_⟩
  have hk := isEv_iff.1 h1
  rcases Int.lt_or_le (dayOf r e.kind) 0 with h2 | h2
  · exact h2
  · rcases (dayOf_neg h e.kind).1 h2 with h3 | h3
    · omega
    · simp only [foundK, Bool.and_eq_true, decide_eq_true_eq] at h3
      have h4 := isRec_sorted ho (placeK r.evs e.kind) (placeK r.evs e.kind + 1) (by omega) (by rw [insEv_len]; omega)
      simp only [insEv_at, insEv_behind r.evs e h3.1] at h4
      omega
/-- Without the event at a kind's place. -/
def delEv (xs : List Ev) (k : Int) : List Ev := xs.take (placeK xs k) ++ xs.drop (placeK xs k + 1)
theorem del_filter {r : Rec} (h : isRec r = true) {k : Int} (hf : foundK r.evs k = true) : r.evs.filter (fun e => decide (e.kind ≠ k)) = delEv r.evs k := by
  simp only [foundK, Bool.and_eq_true, decide_eq_true_eq] at hf
  obtain ⟨hl, hk⟩ := hf
  have hs := isRec_sorted h
  have e1 : r.evs = r.evs.take (placeK r.evs k) ++ r.evs.getD (placeK r.evs k) evD :: r.evs.drop (placeK r.evs k + 1) := by
    rw [getD_lt hl, List.getElem_cons_drop hl, List.take_append_drop]
  unfold delEv
  conv => lhs; rw [e1]
  rw [List.filter_append, List.filter_cons, if_neg (by rw [hk]; simp)]
  congr 1
  · rw [List.filter_eq_self]
    intro a ha
    obtain ⟨j, hj, rfl⟩ := List.getElem_of_mem ha
    rw [List.length_take] at hj
    have := placeK_lt (xs := r.evs) (k := k) (j := j) (by omega)
    rw [getD_lt (by omega)] at this
    simp only [List.getElem_take]
    simp; omega
  · rw [List.filter_eq_self]
    intro a ha
    obtain ⟨j, hj, rfl⟩ := List.getElem_of_mem ha
    rw [List.length_drop] at hj
    have := hs (placeK r.evs k) (placeK r.evs k + 1 + j) (by omega) (by omega)
    rw [getD_lt (i := placeK r.evs k + 1 + j) (by omega)] at this
    simp only [List.getElem_drop]
    simp; omega
theorem del_all {r : Rec} {P : Ev → Prop} (k : Int) (h : ∀ e ∈ r.evs, P e) : ∀ e ∈ delEv r.evs k, P e := by
  intro e he
  rcases List.mem_append.1 he with h1 | h1
  · exact h e (List.mem_of_mem_take h1)
  · exact h e (List.mem_of_mem_drop h1)
theorem ins_all {xs : List Ev} {e : Ev} {P : Ev → Prop} (h : ∀ e ∈ xs, P e) (he : P e) : ∀ a ∈ insEv xs e, P a := by
  intro a ha
  rcases List.mem_append.1 ha with h1 | h1
  · exact h a (List.mem_of_mem_take h1)
  · rcases List.mem_cons.1 h1 with rfl | h2
    · exact he
    · exact h a (List.mem_of_mem_drop h2)
/-- The greatest day of the first k events and the day made. -/
def lastDay (r : Rec) (k : Nat) : Int := (r.evs.take k).foldl (fun m e => if m < e.day then e.day else m) r.made
theorem lastDay_zero (r : Rec) : lastDay r 0 = r.made := by simp [lastDay]
theorem lastDay_succ (r : Rec) (k : Nat) (h : k < r.evs.length) : lastDay r (k + 1) = if lastDay r k < (r.evs.getD k evD).day then (r.evs.getD k evD).day else lastDay r k := by
  unfold lastDay
  rw [getD_lt h, List.take_add_one, List.getElem?_eq_getElem h, List.foldl_append]
  rfl
/-- The ids of the first k records of a series. -/
def idsOf (rs : List Rec) (s : Int) (k : Nat) : List Int := ((rs.take k).filter (fun r => decide (r.series = s))).map (·.id)
theorem idsOf_zero (rs : List Rec) (s : Int) : idsOf rs s 0 = [] := by simp [idsOf]
theorem idsOf_succ (rs : List Rec) (s : Int) (k : Nat) (h : k < rs.length) : idsOf rs s (k + 1) = if (rs.getD k recD).series = s then idsOf rs s k ++ [(rs.getD k recD).id] else idsOf rs s k := by
  unfold idsOf
  rw [List.take_add_one, List.getElem?_eq_getElem h, getDr_lt h, List.filter_append]
  by_cases hs : rs[k].series = s
  · simp [hs]
  · simp [hs]
end Go.Proofs.Ytenjajcknmfhfaa
