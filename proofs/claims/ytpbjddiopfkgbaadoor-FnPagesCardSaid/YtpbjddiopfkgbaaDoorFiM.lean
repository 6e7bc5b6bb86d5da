/- What a file and a list of files are, and what the functions of files answer, as plain mathematics. No program is named here. -/
import Derived.Test.YtpbjddiopfkgbaaDoorUpto
import Derived.Test.YtpbjddiopfkgbaaDoorWordM
namespace Go.Proofs.YtpbjddiopfkgbaaDoor
set_option linter.unusedVariables false

structure Fi where
  id : Int
  series : Int
  title : ByteArray
  opened : Int
  closed : Int
  state : Int
  pages : Int
  deriving DecidableEq
def fiD : Fi := ⟨0, 0, ⟨#[]⟩, 0, 0, 0, 0⟩
theorem getFi_lt {xs : List Fi} {i : Nat} (h : i < xs.length) : xs.getD i fiD = xs[i] := by simp [List.getD, List.getElem?_eq_getElem h]
def closedB (f : Fi) : Bool := if f.state = 0 then decide (f.closed = 0) else decide (0 ≤ f.closed ∧ f.closed ≤ 20000) && decide (f.opened ≤ f.closed)
def isFi (f : Fi) : Bool := decide (1 ≤ f.id ∧ f.id ≤ 999) && (decide (1 ≤ f.series ∧ f.series ≤ 99) && (isWord f.title && (decide (0 ≤ f.opened ∧ f.opened ≤ 20000) && (decide (0 ≤ f.state ∧ f.state ≤ 2) && (decide (0 ≤ f.pages ∧ f.pages ≤ 5000) && closedB f)))))
theorem isFi_iff {f : Fi} : isFi f = true ↔ (1 ≤ f.id ∧ f.id ≤ 999) ∧ (1 ≤ f.series ∧ f.series ≤ 99) ∧ isWord f.title = true ∧ (0 ≤ f.opened ∧ f.opened ≤ 20000) ∧ (0 ≤ f.state ∧ f.state ≤ 2) ∧ (0 ≤ f.pages ∧ f.pages ≤ 5000) ∧ closedB f = true := by simp [isFi]
/-- One of the same series and title. -/
def twinB (a b : Fi) : Bool := decide (a.series = b.series ∧ a.title = b.title)
def twinF (t : List Fi) (f : Fi) : Bool := t.any (fun g => twinB g f)
theorem twinF_iff {t : List Fi} {f : Fi} : twinF t f = true ↔ ∃ g ∈ t, g.series = f.series ∧ g.title = f.title := by simp [twinF, twinB]
def prevFi (t : List Fi) : Nat → Int
  | 0 => 0
  | j + 1 => (t.getD j fiD).id
/-- The i-th file is valid and in its place. -/
def fiAtB (t : List Fi) (i : Nat) : Bool := isFi (t.getD i fiD) && (decide (prevFi t i < (t.getD i fiD).id) && !twinF (t.take i) (t.getD i fiD))
def areFi (t : List Fi) : Bool := decide (t.length ≤ 10) && upto (fiAtB t) t.length
theorem fiAtB_iff {t : List Fi} {i : Nat} : fiAtB t i = true ↔ isFi (t.getD i fiD) = true ∧ prevFi t i < (t.getD i fiD).id ∧ twinF (t.take i) (t.getD i fiD) = false := by simp [fiAtB]
theorem fiAt_no1 {t : List Fi} {k : Nat} {f : Fi} (hx : t.getD k fiD = f) (h : isFi f = false) : fiAtB t k = false := by unfold fiAtB; rw [hx, h]; rfl
theorem fiAt_no2 {t : List Fi} {k : Nat} {f : Fi} (hx : t.getD k fiD = f) (h : ¬ prevFi t k < f.id) : fiAtB t k = false := by unfold fiAtB; rw [hx, decide_eq_false h]; simp
theorem fiAt_no3 {t : List Fi} {k j : Nat} {f : Fi} (hx : t.getD k fiD = f) (hj : j < k) (hk : k < t.length) (h : (t.getD j fiD).series = f.series ∧ (t.getD j fiD).title = f.title) : fiAtB t k = false := by
  have : twinF (t.take k) f = true := twinF_iff.2 ⟨t.getD j fiD, by rw [List.mem_take_iff_getElem]; exact ⟨j, by omega, by rw [getFi_lt (by omega)]⟩, h⟩
  unfold fiAtB; rw [hx, this]; simp
theorem fiAt_yes {t : List Fi} {k : Nat} {f : Fi} (hk : k < t.length) (hx : t.getD k fiD = f) (h1 : isFi f = true) (h2 : prevFi t k < f.id) (h4 : ∀ j, j < k → ¬ ((t.getD j fiD).series = f.series ∧ (t.getD j fiD).title = f.title)) : fiAtB t k = true := by
  rw [fiAtB_iff, hx]
  refine ⟨h1, h2, ?_⟩
  rcases hb : twinF (t.take k) f with _ | _
  · rfl
  · obtain ⟨g, hg, he⟩ := twinF_iff.1 hb
    rw [List.mem_take_iff_getElem] at hg
    obtain ⟨j, hj, rfl⟩ := hg
    exact absurd (by rw [getFi_lt (by omega)]; exact he) (h4 j (by omega))
theorem first_fi {f : Fi} (h : isFi f = true) : 0 < f.id := by have := (isFi_iff.1 h).1; omega
theorem notFi {t : List Fi} {k : Nat} (hk : k < t.length) (h : fiAtB t k = false) : areFi t = false := by unfold areFi; rw [upto_false hk h]; simp
theorem fi_long {t : List Fi} (h : ¬ t.length ≤ 10) : areFi t = false := by unfold areFi; rw [decide_eq_false h]; rfl
theorem fi_all {t : List Fi} (h : t.length ≤ 10) (hu : upto (fiAtB t) t.length = true) : areFi t = true := by unfold areFi; rw [decide_eq_true h, hu]; rfl
theorem areFi_iff {t : List Fi} : areFi t = true ↔ t.length ≤ 10 ∧ upto (fiAtB t) t.length = true := by simp [areFi]
theorem fi_len {t : List Fi} (h : areFi t = true) : t.length ≤ 10 := (areFi_iff.1 h).1
theorem fi_at {t : List Fi} (h : areFi t = true) {i : Nat} (hi : i < t.length) : isFi (t.getD i fiD) = true ∧ prevFi t i < (t.getD i fiD).id ∧ twinF (t.take i) (t.getD i fiD) = false := fiAtB_iff.1 (upto_iff.1 (areFi_iff.1 h).2 i hi)
theorem fi_mem {t : List Fi} (h : areFi t = true) : ∀ r ∈ t, isFi r = true := by
  intro r hr
  obtain ⟨i, hi, rfl⟩ := List.getElem_of_mem hr
  have := (fi_at h hi).1
  rwa [getFi_lt hi] at this
theorem fi_sorted {t : List Fi} (h : areFi t = true) : ∀ (d i : Nat), i + d + 1 < t.length → (t.getD i fiD).id < (t.getD (i + d + 1) fiD).id
  | 0, i, hd => (fi_at h (i := i + 1) (by omega)).2.1
  | d + 1, i, hd => Int.lt_trans (fi_sorted h d i (by omega)) (fi_at h (i := i + d + 1 + 1) (by omega)).2.1
theorem fi_lt {t : List Fi} (h : areFi t = true) {i j : Nat} (hij : i < j) (hj : j < t.length) : (t.getD i fiD).id < (t.getD j fiD).id := by
  have := fi_sorted h (j - i - 1) i (by omega)
  rwa [show i + (j - i - 1) + 1 = j by omega] at this

/-- The place of a file of a number in a state (any state is meant by -1), or the length. -/
def hitFi (x st : Int) (f : Fi) : Bool := decide (f.id = x) && (decide (st < 0) || decide (f.state = st))
theorem hitFi_iff {x st : Int} {f : Fi} : hitFi x st f = true ↔ f.id = x ∧ (st < 0 ∨ f.state = st) := by simp [hitFi]
def placeFi (t : List Fi) (x st : Int) : Nat := t.findIdx (hitFi x st)
theorem placeFi_le (t : List Fi) (x st : Int) : placeFi t x st ≤ t.length := List.findIdx_le_length
theorem placeFi_hit {t : List Fi} {x st : Int} (h : placeFi t x st < t.length) : hitFi x st (t.getD (placeFi t x st) fiD) = true := by
  rw [getFi_lt h]
  exact List.findIdx_getElem (p := hitFi x st) (xs := t) (w := h)
theorem placeFi_is {t : List Fi} {x st : Int} {i : Nat} (hi : i < t.length) (h1 : ∀ j, j < i → hitFi x st (t.getD j fiD) = false) (h2 : hitFi x st (t.getD i fiD) = true) : placeFi t x st = i := by
  unfold placeFi
  rw [List.findIdx_eq hi]
  refine ⟨by rwa [getFi_lt hi] at h2, fun j hj => ?_⟩
  have := h1 j hj
  rwa [getFi_lt (by omega)] at this
theorem placeFi_none {t : List Fi} {x st : Int} (h : ∀ j, j < t.length → hitFi x st (t.getD j fiD) = false) : placeFi t x st = t.length := by
  unfold placeFi
  rw [List.findIdx_eq_length]
  intro f hf
  obtain ⟨j, hj, rfl⟩ := List.getElem_of_mem hf
  have := h j hj
  rwa [getFi_lt hj] at this
def findFi (t : List Fi) (x st : Int) : Int := if areFi t = true ∧ placeFi t x st < t.length then (placeFi t x st : Int) else -1
theorem findFi_bad {t : List Fi} {x st : Int} (h : areFi t = false) : findFi t x st = -1 := by unfold findFi; rw [if_neg (by rw [h]; simp)]
theorem findFi_none {t : List Fi} {x st : Int} (h : ∀ j, j < t.length → hitFi x st (t.getD j fiD) = false) : findFi t x st = -1 := by unfold findFi; rw [if_neg (by rw [placeFi_none h]; simp)]
theorem findFi_is {t : List Fi} {x st : Int} {i : Nat} (hg : areFi t = true) (hi : i < t.length) (h1 : ∀ j, j < i → hitFi x st (t.getD j fiD) = false) (h2 : hitFi x st (t.getD i fiD) = true) : findFi t x st = (i : Int) := by
  have e := placeFi_is hi h1 h2
  unfold findFi; rw [if_pos ⟨hg, by omega⟩, e]
theorem findFi_cases (t : List Fi) (x st : Int) : findFi t x st = -1 ∨ ∃ k : Nat, k < t.length ∧ findFi t x st = (k : Int) ∧ placeFi t x st = k ∧ areFi t = true ∧ hitFi x st (t.getD k fiD) = true := by
  by_cases h : areFi t = true ∧ placeFi t x st < t.length
  · exact .inr ⟨placeFi t x st, h.2, by unfold findFi; rw [if_pos h], rfl, h.1, placeFi_hit h.2⟩
  · exact .inl (by unfold findFi; rw [if_neg h])

/-- The list with a file replaced, if it is valid. -/
def withFi (t : List Fi) (i : Nat) (f : Fi) : List Fi × Bool := if areFi (t.set i f) = true then (t.set i f, true) else ([], false)
theorem withFi_len {t : List Fi} {i : Nat} {f : Fi} {xs : List Fi} {b : Bool} (h : withFi t i f = (xs, b)) : xs.length ≤ t.length := by
  unfold withFi at h
  split at h
  · obtain ⟨rfl, _⟩ := Prod.mk.inj h; simp
  · obtain ⟨rfl, _⟩ := Prod.mk.inj h; simp
def cloRes (t : List Fi) (x d : Int) : List Fi × Bool := if findFi t x 0 < 0 ∨ d < 1 then ([], false) else withFi t (placeFi t x 0) { t.getD (placeFi t x 0) fiD with state := 1, closed := d }
def reoRes (t : List Fi) (x : Int) : List Fi × Bool := if findFi t x 1 < 0 then ([], false) else withFi t (placeFi t x 1) { t.getD (placeFi t x 1) fiD with state := 0, closed := 0 }
def lenRes (t : List Fi) (x : Int) (b : Bool) : List Fi × Bool := if findFi t x (if b then 2 else 1) < 0 then ([], false) else withFi t (placeFi t x (if b then 2 else 1)) { t.getD (placeFi t x (if b then 2 else 1)) fiD with state := if b then 1 else 2 }
def pagRes (t : List Fi) (x p : Int) : List Fi × Bool := if findFi t x 0 < 0 ∨ ¬ (1 ≤ p ∧ p ≤ 500) then ([], false) else withFi t (placeFi t x 0) { t.getD (placeFi t x 0) fiD with pages := (t.getD (placeFi t x 0) fiD).pages + p }
theorem cloRes_len {t : List Fi} {x d : Int} {xs : List Fi} {b : Bool} (h : cloRes t x d = (xs, b)) : xs.length ≤ t.length := by
  unfold cloRes at h
  split at h
  · obtain ⟨rfl, _⟩ := Prod.mk.inj h; simp
  · exact withFi_len h
theorem reoRes_len {t : List Fi} {x : Int} {xs : List Fi} {b : Bool} (h : reoRes t x = (xs, b)) : xs.length ≤ t.length := by
  unfold reoRes at h
  split at h
  · obtain ⟨rfl, _⟩ := Prod.mk.inj h; simp
  · exact withFi_len h
theorem lenRes_len {t : List Fi} {x : Int} {c : Bool} {xs : List Fi} {b : Bool} (h : lenRes t x c = (xs, b)) : xs.length ≤ t.length := by
  unfold lenRes at h
  by_cases hc : findFi t x (if c then 2 else 1) < 0
  · rw [if_pos hc] at h
    obtain ⟨rfl, _⟩ := Prod.mk.inj h; simp
  · rw [if_neg hc] at h
    exact withFi_len h
theorem pagRes_len {t : List Fi} {x p : Int} {xs : List Fi} {b : Bool} (h : pagRes t x p = (xs, b)) : xs.length ≤ t.length := by
  unfold pagRes at h
  split at h
  · obtain ⟨rfl, _⟩ := Prod.mk.inj h; simp
  · exact withFi_len h
/-- The list with a part of a file split off. -/
def splList (t : List Fi) (i : Nat) (p : Int) (s : ByteArray) : List Fi :=
  t.set i { t.getD i fiD with pages := (t.getD i fiD).pages - p } ++ [⟨(t.getD (t.length - 1) fiD).id + 1, (t.getD i fiD).series, s, (t.getD i fiD).opened, 0, 0, p⟩]
def splRes (t : List Fi) (x p : Int) (s : ByteArray) : List Fi × Int × Bool :=
  if findFi t x 0 < 0 ∨ ¬ (1 ≤ p ∧ p ≤ (t.getD (placeFi t x 0) fiD).pages - 1) then ([], 0, false)
  else if areFi (splList t (placeFi t x 0) p s) = true then (splList t (placeFi t x 0) p s, (t.getD (t.length - 1) fiD).id + 1, true) else ([], 0, false)
/-- The files that were closed between two days, by the day. -/
def insFi (o : List Fi) (f : Fi) : List Fi := o.filter (fun g => decide (g.closed ≤ f.closed)) ++ f :: o.filter (fun g => decide (f.closed < g.closed))
def inTime (a b : Int) (f : Fi) : Bool := !decide (f.state = 0) && decide (a ≤ f.closed ∧ f.closed ≤ b)
def ordFi (t : List Fi) (a b : Int) : List Fi := t.foldl (fun o f => if inTime a b f = true then insFi o f else o) []
theorem ordFi_succ {t : List Fi} {a b : Int} {k : Nat} (h : k < t.length) : ordFi (t.take (k + 1)) a b = if inTime a b (t.getD k fiD) = true then insFi (ordFi (t.take k) a b) (t.getD k fiD) else ordFi (t.take k) a b := by
  unfold ordFi
  rw [List.take_add_one, List.getElem?_eq_getElem h, getFi_lt h, List.foldl_append]
  rfl
def csRes (t : List Fi) (a b : Int) : List Int × Bool := if areFi t = true ∧ (0 ≤ b ∧ b ≤ 20000) ∧ (0 ≤ a ∧ a ≤ b) then ((ordFi t a b).map (·.id), true) else ([], false)
theorem insFi_len (o : List Fi) (f : Fi) : (insFi o f).length = o.length + 1 := by
  have : ∀ o : List Fi, (o.filter (fun g => decide (g.closed ≤ f.closed))).length + (o.filter (fun g => decide (f.closed < g.closed))).length = o.length := by
    intro o
    induction o with
    | nil => rfl
    | cons a l ih =>
      simp only [List.filter_cons]
      by_cases h1 : a.closed ≤ f.closed
      · have h2 : ¬ f.closed < a.closed := by omega
        simp [h1, h2]; omega
      · have h2 : f.closed < a.closed := by omega
        simp [h1, h2]; omega
  have := this o
  unfold insFi
  simp only [List.length_append, List.length_cons]
  omega
/-- How long a file has been open. -/
def dayRes (t : List Fi) (x d : Int) : Int × Bool :=
  if findFi t x (-1) < 0 ∨ ¬ (0 ≤ d ∧ d ≤ 20000) ∨ d < (t.getD (placeFi t x (-1)) fiD).opened then (0, false)
  else ((if (t.getD (placeFi t x (-1)) fiD).state = 0 then d else min d (t.getD (placeFi t x (-1)) fiD).closed) - (t.getD (placeFi t x (-1)) fiD).opened + 1, true)
end Go.Proofs.YtpbjddiopfkgbaaDoor
