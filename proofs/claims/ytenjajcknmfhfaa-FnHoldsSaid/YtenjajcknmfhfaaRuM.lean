/- What a rule and a schedule are, and what the functions of schedules answer, as plain mathematics. No program is named here. -/
import Derived.Test.YtenjajcknmfhfaaUpto
import Derived.Test.YtenjajcknmfhfaaOpen
namespace Go.Proofs.Ytenjajcknmfhfaa
set_option linter.unusedVariables false

structure Ru where
  series : Int
  event : Int
  days : Int
  act : Int
  deriving DecidableEq
def ruD : Ru := ⟨0, 0, 0, 0⟩
theorem getRu_lt {xs : List Ru} {i : Nat} (h : i < xs.length) : xs.getD i ruD = xs[i] := by simp [List.getD, List.getElem?_eq_getElem h]
def isRu (r : Ru) : Bool := decide (1 ≤ r.series ∧ r.series ≤ 99) && (decide (0 ≤ r.event ∧ r.event ≤ 9) && (decide (0 ≤ r.days ∧ r.days ≤ 20000) && decide (1 ≤ r.act ∧ r.act ≤ 3)))
theorem isRu_iff {r : Ru} : isRu r = true ↔ (1 ≤ r.series ∧ r.series ≤ 99) ∧ (0 ≤ r.event ∧ r.event ≤ 9) ∧ (0 ≤ r.days ∧ r.days ≤ 20000) ∧ (1 ≤ r.act ∧ r.act ≤ 3) := by simp [isRu]
/-- One key stands before another. -/
def bef (a b : Ru) : Bool := decide (a.series < b.series ∨ (a.series = b.series ∧ a.event < b.event))
theorem bef_iff {a b : Ru} : bef a b = true ↔ (a.series < b.series ∨ (a.series = b.series ∧ a.event < b.event)) := by simp [bef]
theorem bef_trans {a b c : Ru} (h1 : bef a b = true) (h2 : bef b c = true) : bef a c = true := by rw [bef_iff] at *; omega
def keyB (a b : Ru) : Bool := decide (a.series = b.series ∧ a.event = b.event)
theorem keyB_iff {a b : Ru} : keyB a b = true ↔ (a.series = b.series ∧ a.event = b.event) := by simp [keyB]
theorem bef_three (a b : Ru) : bef a b = true ∨ keyB a b = true ∨ bef b a = true := by rw [bef_iff, bef_iff, keyB_iff]; omega
theorem not_bef_of_key {a b : Ru} (h : keyB a b = true) : bef a b = false := by
  rcases hb : bef a b with _ | _
  · rfl
  · rw [bef_iff] at hb; rw [keyB_iff] at h; omega
theorem not_bef_of_key' {a b : Ru} (h : keyB a b = true) : bef b a = false := by
  rcases hb : bef b a with _ | _
  · rfl
  · rw [bef_iff] at hb; rw [keyB_iff] at h; omega
theorem not_bef_of_bef {a b : Ru} (h : bef a b = true) : bef b a = false := by
  rcases hb : bef b a with _ | _
  · rfl
  · rw [bef_iff] at *; omega
theorem not_key_of_bef {a b : Ru} (h : bef a b = true) : keyB a b = false := by
  rcases hb : keyB a b with _ | _
  · rfl
  · rw [keyB_iff] at hb; rw [bef_iff] at h; omega
theorem not_key_of_bef' {a b : Ru} (h : bef a b = true) : keyB b a = false := by
  rcases hb : keyB b a with _ | _
  · rfl
  · rw [keyB_iff] at hb; rw [bef_iff] at h; omega
def prevRu (t : List Ru) : Nat → Ru
  | 0 => ruD
  | j + 1 => t.getD j ruD
/-- The i-th rule is valid and behind the one before. -/
def ruAtB (t : List Ru) (i : Nat) : Bool := isRu (t.getD i ruD) && bef (prevRu t i) (t.getD i ruD)
def isSch (t : List Ru) : Bool := decide (t.length ≤ 8) && upto (ruAtB t) t.length
theorem ruAt_no1 {t : List Ru} {k : Nat} {f : Ru} (hx : t.getD k ruD = f) (h : isRu f = false) : ruAtB t k = false := by unfold ruAtB; rw [hx, h]; rfl
theorem ruAt_no2 {t : List Ru} {k : Nat} {f : Ru} (hx : t.getD k ruD = f) (h : bef (prevRu t k) f = false) : ruAtB t k = false := by unfold ruAtB; rw [hx, h]; simp
theorem ruAt_yes {t : List Ru} {k : Nat} {f : Ru} (hx : t.getD k ruD = f) (h1 : isRu f = true) (h2 : bef (prevRu t k) f = true) : ruAtB t k = true := by unfold ruAtB; rw [hx, h1, h2]; rfl
theorem bef_first {f : Ru} (h : isRu f = true) : bef ruD f = true := by rw [isRu_iff] at h; rw [bef_iff]; unfold ruD; simp only; omega
theorem notSch {t : List Ru} {k : Nat} (hk : k < t.length) (h : ruAtB t k = false) : isSch t = false := by unfold isSch; rw [upto_false hk h]; simp
theorem sch_long {t : List Ru} (h : ¬ t.length ≤ 8) : isSch t = false := by unfold isSch; rw [decide_eq_false h]; rfl
theorem sch_all {t : List Ru} (h : t.length ≤ 8) (hu : upto (ruAtB t) t.length = true) : isSch t = true := by unfold isSch; rw [decide_eq_true h, hu]; rfl
theorem sch_iff {t : List Ru} : isSch t = true ↔ t.length ≤ 8 ∧ upto (ruAtB t) t.length = true := by simp [isSch]
theorem sch_upto {t : List Ru} (hu : upto (ruAtB t) t.length = true) : isSch t = decide (t.length ≤ 8) := by unfold isSch; rw [hu]; simp
theorem sch_len {t : List Ru} (h : isSch t = true) : t.length ≤ 8 := (sch_iff.1 h).1
theorem sch_at {t : List Ru} (h : isSch t = true) {i : Nat} (hi : i < t.length) : isRu (t.getD i ruD) = true ∧ bef (prevRu t i) (t.getD i ruD) = true := by
  have := upto_iff.1 (sch_iff.1 h).2 i hi
  unfold ruAtB at this
  simpa using this
theorem sch_mem {t : List Ru} (h : isSch t = true) : ∀ r ∈ t, isRu r = true := by
  intro r hr
  obtain ⟨i, hi, rfl⟩ := List.getElem_of_mem hr
  have := (sch_at h hi).1
  rwa [getRu_lt hi] at this
theorem sch_sorted {t : List Ru} (h : isSch t = true) : ∀ (d i : Nat), i + d + 1 < t.length → bef (t.getD i ruD) (t.getD (i + d + 1) ruD) = true
  | 0, i, hd => (sch_at h (i := i + 1) (by omega)).2
  | d + 1, i, hd => bef_trans (sch_sorted h d i (by omega)) (sch_at h (i := i + d + 1 + 1) (by omega)).2
theorem sch_bef {t : List Ru} (h : isSch t = true) {i j : Nat} (hij : i < j) (hj : j < t.length) : bef (t.getD i ruD) (t.getD j ruD) = true := by
  have := sch_sorted h (j - i - 1) i (by omega)
  rwa [show i + (j - i - 1) + 1 = j by omega] at this
theorem sch_of {t : List Ru} (h8 : t.length ≤ 8) (h1 : ∀ r ∈ t, isRu r = true) (h2 : ∀ i j, i < j → j < t.length → bef (t.getD i ruD) (t.getD j ruD) = true) : isSch t = true := by
  refine sch_all h8 (upto_true fun j hj => ?_)
  have hr : isRu (t.getD j ruD) = true := by rw [getRu_lt hj]; exact h1 _ (List.getElem_mem _)
  refine ruAt_yes rfl hr ?_
  cases j with
  | zero => exact bef_first hr
  | succ i => exact h2 i (i + 1) (by omega) hj

/-- A list is parted where a test changes from true to false. -/
theorem filter_take {α : Type} {p : α → Bool} : ∀ (t : List α) (k : Nat), k ≤ t.length → (∀ j (h : j < t.length), j < k → p t[j] = true) → (∀ j (h : j < t.length), k ≤ j → p t[j] = false) → t.filter p = t.take k
  | [], k, hk, _, _ => by simp
  | a :: l, 0, _, _, h2 => by
    have h0 := h2 0 (by simp) (Nat.le_refl _)
    simp only [List.getElem_cons_zero] at h0
    rw [List.filter_cons_of_neg (by rw [h0]; simp), List.take_zero]
    have := filter_take l 0 (Nat.zero_le _) (fun j h hj => absurd hj (Nat.not_lt_zero _)) (fun j h _ => h2 (j + 1) (by simpa using h) (Nat.zero_le _))
    rw [this, List.take_zero]
  | a :: l, k + 1, hk, h1, h2 => by
    have h0 := h1 0 (by simp) (Nat.succ_pos _)
    simp only [List.getElem_cons_zero] at h0
    rw [List.filter_cons_of_pos h0, List.take_succ_cons]
    congr 1
    exact filter_take l k (by simpa using hk) (fun j h hj => h1 (j + 1) (by simpa using h) (by omega)) (fun j h hj => h2 (j + 1) (by simpa using h) (by omega))
theorem filter_drop {α : Type} {p : α → Bool} : ∀ (t : List α) (k : Nat), k ≤ t.length → (∀ j (h : j < t.length), j < k → p t[j] = false) → (∀ j (h : j < t.length), k ≤ j → p t[j] = true) → t.filter p = t.drop k
  | [], k, hk, _, _ => by simp
  | a :: l, 0, _, _, h2 => by
    have h0 := h2 0 (by simp) (Nat.le_refl _)
    simp only [List.getElem_cons_zero] at h0
    rw [List.filter_cons_of_pos h0, List.drop_zero]
    have := filter_drop l 0 (Nat.zero_le _) (fun j h hj => absurd hj (Nat.not_lt_zero _)) (fun j h _ => h2 (j + 1) (by simpa using h) (Nat.zero_le _))
    rw [this, List.drop_zero]
  | a :: l, k + 1, hk, h1, h2 => by
    have h0 := h1 0 (by simp) (Nat.succ_pos _)
    simp only [List.getElem_cons_zero] at h0
    rw [List.filter_cons_of_neg (by rw [h0]; simp), List.drop_succ_cons]
    exact filter_drop l k (by simpa using hk) (fun j h hj => h1 (j + 1) (by simpa using h) (by omega)) (fun j h hj => h2 (j + 1) (by simpa using h) (by omega))

/-- The rules of a series. -/
def forRu (t : List Ru) (s : Int) : List Ru := t.filter (fun r => decide (r.series = s))
theorem forRu_succ {t : List Ru} {s : Int} {k : Nat} (h : k < t.length) : forRu (t.take (k + 1)) s = if (t.getD k ruD).series = s then forRu (t.take k) s ++ [t.getD k ruD] else forRu (t.take k) s := by
  unfold forRu
  rw [List.take_add_one, List.getElem?_eq_getElem h, getRu_lt h, List.filter_append, Option.toList_some]
  split <;> simp_all
theorem forRu_len (t : List Ru) (s : Int) : (forRu t s).length ≤ t.length := List.length_filter_le _ _
theorem forRu_mem {t : List Ru} {s : Int} {r : Ru} (h : r ∈ forRu t s) : r ∈ t ∧ r.series = s := by simpa [forRu] using h
theorem forRu_none {t : List Ru} {s : Int} (h : isSch t = true) (hs : ¬ (1 ≤ s ∧ s ≤ 99)) : forRu t s = [] := by
  rw [List.eq_nil_iff_forall_not_mem]
  intro r hr
  obtain ⟨h1, h2⟩ := forRu_mem hr
  have := (isRu_iff.1 (sch_mem h r h1)).1
  rw [h2] at this
  exact hs this
def rufRes (t : List Ru) (s : Int) : List Ru × Bool := if (isSch t && decide (1 ≤ s ∧ s ≤ 99)) = true then (forRu t s, true) else ([], false)
theorem rufRes_len {t : List Ru} {s : Int} {xs : List Ru} {b : Bool} (h : rufRes t s = (xs, b)) : xs.length ≤ t.length := by
  unfold rufRes at h
  split at h
  · obtain ⟨rfl, _⟩ := Prod.mk.inj h; exact forRu_len _ _
  · obtain ⟨rfl, _⟩ := Prod.mk.inj h; exact Nat.zero_le _

/-- The strongest act, as the model finds it (0: none yet) and as the program does. -/
def minA (b : Int) (l : List Ru) : Int := l.foldl (fun b r => if b = 0 ∨ r.act < b then r.act else b) b
def minB (b : Int) (l : List Ru) : Int := l.foldl (fun b r => min b r.act) b
theorem minA_succ {l : List Ru} {k : Nat} (h : k < l.length) (b : Int) : minA b (l.take (k + 1)) = if minA b (l.take k) = 0 ∨ (l.getD k ruD).act < minA b (l.take k) then (l.getD k ruD).act else minA b (l.take k) := by
  unfold minA
  rw [List.take_add_one, List.getElem?_eq_getElem h, getRu_lt h, List.foldl_append]
  rfl
theorem minB_succ {l : List Ru} {k : Nat} (h : k < l.length) (b : Int) : minB b (l.take (k + 1)) = min (minB b (l.take k)) (l.getD k ruD).act := by
  unfold minB
  rw [List.take_add_one, List.getElem?_eq_getElem h, getRu_lt h, List.foldl_append]
  rfl
theorem min_same : ∀ (l : List Ru) (b : Int), 1 ≤ b → (∀ r ∈ l, 1 ≤ r.act) → minA b l = minB b l ∧ 1 ≤ minA b l
  | [], b, hb, _ => ⟨rfl, hb⟩
  | r :: l, b, hb, h => by
    have hr := h r (List.mem_cons_self ..)
    have e : (if b = 0 ∨ r.act < b then r.act else b) = min b r.act := by
      split <;> rename_i hc <;> omega
    have := min_same l (min b r.act) (by omega) (fun x hx => h x (List.mem_cons_of_mem _ hx))
    unfold minA minB at *
    rw [List.foldl_cons, List.foldl_cons, e]
    exact this
theorem min_at {l : List Ru} (h : ∀ r ∈ l, isRu r = true) (h0 : 0 < l.length) : minA 0 l = minB 3 l ∧ 1 ≤ minA 0 l := by
  cases l with
  | nil => simp at h0
  | cons r l =>
    have hr := (isRu_iff.1 (h r (List.mem_cons_self ..))).2.2.2
    have := min_same l r.act hr.1 (fun x hx => (isRu_iff.1 (h x (List.mem_cons_of_mem _ hx))).2.2.2.1)
    unfold minA minB at *
    rw [List.foldl_cons, List.foldl_cons, if_pos (.inl rfl), show min 3 r.act = r.act by omega]
    exact this
theorem minA_in {l : List Ru} (h : ∀ r ∈ l, inI r.act) : inI (minA 0 l) := by
  have : ∀ (l : List Ru) (b : Int), inI b → (∀ r ∈ l, inI r.act) → inI (minA b l) := by
    intro l
    induction l with
    | nil => intro b hb _; exact hb
    | cons r l ih =>
      intro b hb h
      unfold minA
      rw [List.foldl_cons]
      refine ih _ ?_ (fun x hx => h x (List.mem_cons_of_mem _ hx))
      split
      · exact h r (List.mem_cons_self ..)
      · exact hb
  exact this l 0 (by unfold inI; omega) h
def strRes (t : List Ru) (s : Int) : Int × Bool := if isSch t = true ∧ 0 < (forRu t s).length then (minA 0 (forRu t s), true) else (0, false)

/-- The longest period. -/
def maxD (l : List Ru) : Int := l.foldl (fun b r => max b r.days) 0
theorem maxD_succ {l : List Ru} {k : Nat} (h : k < l.length) : maxD (l.take (k + 1)) = max (maxD (l.take k)) (l.getD k ruD).days := by
  unfold maxD
  rw [List.take_add_one, List.getElem?_eq_getElem h, getRu_lt h, List.foldl_append]
  rfl
def lonRes (t : List Ru) (s : Int) : Int × Bool := if isSch t = true ∧ 0 < (forRu t s).length then (maxD (forRu t s), true) else (0, false)

/-- The series that have rules, each once. -/
def serF (t : List Ru) : List Int := t.foldl (fun o r => if r.series ∈ o then o else o ++ [r.series]) []
theorem serF_succ {t : List Ru} {k : Nat} (h : k < t.length) : serF (t.take (k + 1)) = if (t.getD k ruD).series ∈ serF (t.take k) then serF (t.take k) else serF (t.take k) ++ [(t.getD k ruD).series] := by
  unfold serF
  rw [List.take_add_one, List.getElem?_eq_getElem h, getRu_lt h, List.foldl_append]
  rfl
theorem serF_len (t : List Ru) : (serF t).length ≤ t.length := by
  have : ∀ (t : List Ru) (o : List Int), (t.foldl (fun o r => if r.series ∈ o then o else o ++ [r.series]) o).length ≤ o.length + t.length := by
    intro t
    induction t with
    | nil => intro o; simp
    | cons r l ih =>
      intro o
      rw [List.foldl_cons]
      refine Nat.le_trans (ih _) ?_
      split <;> simp only [List.length_cons, List.length_append, List.length_nil] <;> omega
  simpa [serF] using this t []
theorem serF_mem {t : List Ru} {x : Int} : x ∈ serF t → ∃ r ∈ t, r.series = x := by
  have : ∀ (t : List Ru) (o : List Int), x ∈ (t.foldl (fun o r => if r.series ∈ o then o else o ++ [r.series]) o) → x ∈ o ∨ ∃ r ∈ t, r.series = x := by
    intro t
    induction t with
    | nil => intro o h; exact .inl h
    | cons r l ih =>
      intro o h
      rw [List.foldl_cons] at h
      rcases ih _ h with h1 | ⟨q, hq, e⟩
      · split at h1
        · exact .inl h1
        · rcases List.mem_append.1 h1 with h2 | h2
          · exact .inl h2
          · exact .inr ⟨r, List.mem_cons_self .., (List.mem_singleton.1 h2).symm⟩
      · exact .inr ⟨q, List.mem_cons_of_mem _ hq, e⟩
  intro h
  rcases this t [] h with h | h
  · cases h
  · exact h
def sinRes (t : List Ru) : List Int × Bool := if isSch t = true then (serF t, true) else ([], false)
theorem sinRes_len {t : List Ru} {xs : List Int} {b : Bool} (h : sinRes t = (xs, b)) : xs.length ≤ t.length := by
  unfold sinRes at h
  split at h
  · obtain ⟨rfl, _⟩ := Prod.mk.inj h; exact serF_len _
  · obtain ⟨rfl, _⟩ := Prod.mk.inj h; exact Nat.zero_le _

/-- The schedule without the rule of a key. -/
def delRu (t : List Ru) (q : Ru) : List Ru := t.filter (fun r => !keyB r q)
theorem delRu_succ {t : List Ru} {q : Ru} {k : Nat} (h : k < t.length) : delRu (t.take (k + 1)) q = if keyB (t.getD k ruD) q = true then delRu (t.take k) q else delRu (t.take k) q ++ [t.getD k ruD] := by
  unfold delRu
  rw [List.take_add_one, List.getElem?_eq_getElem h, getRu_lt h, List.filter_append, Option.toList_some]
  split <;> simp_all
theorem delRu_len (t : List Ru) (q : Ru) : (delRu t q).length ≤ t.length := List.length_filter_le _ _
def dropRes (t : List Ru) (q : Ru) : List Ru × Bool := if isSch t = true ∧ (delRu t q).length ≠ t.length then (delRu t q, true) else ([], false)
theorem dropRes_len {t : List Ru} {q : Ru} {xs : List Ru} {b : Bool} (h : dropRes t q = (xs, b)) : xs.length ≤ t.length := by
  unfold dropRes at h
  split at h
  · obtain ⟨rfl, _⟩ := Prod.mk.inj h; exact delRu_len _ _
  · obtain ⟨rfl, _⟩ := Prod.mk.inj h; exact Nat.zero_le _
/-- Those ahead of a key, and those behind it. -/
theorem ahead_ru {t : List Ru} {q : Ru} (h : isSch t = true) {p : Nat} (hp : p ≤ t.length) (h1 : ∀ j, j < p → bef (t.getD j ruD) q = true) (h2 : p < t.length → bef (t.getD p ruD) q = false) : t.filter (bef · q) = t.take p := by
  refine filter_take t p hp (fun j hj hjp => by have := h1 j hjp; rwa [getRu_lt hj] at this) (fun j hj hjp => ?_)
  have hpl : p < t.length := by omega
  rcases hb : bef t[j] q with _ | _
  · rfl
  · rcases Nat.lt_or_eq_of_le hjp with h' | h'
    · have := bef_trans (sch_bef h h' hj) (by rw [getRu_lt hj]; exact hb)
      rw [h2 hpl] at this; cases this
    · subst h'
      have := h2 hpl
      rw [getRu_lt hj, hb] at this; cases this
theorem behind_at {t : List Ru} {q : Ru} (h : isSch t = true) {p : Nat} (hp : p ≤ t.length) (h1 : ∀ j, j < p → bef q (t.getD j ruD) = false) (h2 : p < t.length → bef q (t.getD p ruD) = true) : t.filter (bef q ·) = t.drop p := by
  refine filter_drop t p hp (fun j hj hjp => by have := h1 j hjp; rwa [getRu_lt hj] at this) (fun j hj hjp => ?_)
  have hpl : p < t.length := by omega
  rcases Nat.lt_or_eq_of_le hjp with h' | h'
  · have := bef_trans (h2 hpl) (sch_bef h h' hj)
    rwa [getRu_lt hj] at this
  · subst h'
    have := h2 hpl
    rwa [getRu_lt hj] at this
/-- The schedule with a rule in its place. -/
def putRu (t : List Ru) (r : Ru) : List Ru := t.filter (bef · r) ++ r :: t.filter (bef r ·)
def putRes (t : List Ru) (r : Ru) : List Ru × Bool := if isSch t = true ∧ isSch (putRu t r) = true then (putRu t r, true) else ([], false)
theorem putRu_len (t : List Ru) (r : Ru) : (putRu t r).length ≤ t.length + 1 := by
  have : ∀ t : List Ru, (t.filter (bef · r)).length + (t.filter (bef r ·)).length ≤ t.length := by
    intro t
    induction t with
    | nil => simp
    | cons a l ih =>
      simp only [List.filter_cons]
      by_cases h1 : bef a r = true
      · have h2 := not_bef_of_bef h1
        simp [h1, h2]; omega
      · by_cases h2 : bef r a = true
        · simp [h1, h2]; omega
        · simp [h1, h2]; omega
  have := this t
  unfold putRu
  simp only [List.length_append, List.length_cons]
  omega
theorem putRes_len {t : List Ru} {r : Ru} {xs : List Ru} {b : Bool} (h : putRes t r = (xs, b)) : xs.length ≤ t.length + 1 := by
  unfold putRes at h
  split at h
  · obtain ⟨rfl, _⟩ := Prod.mk.inj h; exact putRu_len _ _
  · obtain ⟨rfl, _⟩ := Prod.mk.inj h; exact Nat.zero_le _
theorem put_valid {t : List Ru} {r : Ru} (h : isRu r = false) : isSch (putRu t r) = false := by
  rcases hb : isSch (putRu t r) with _ | _
  · rfl
  · have := sch_mem hb r (by unfold putRu; simp)
    rw [h] at this; cases this
/-- At the place of an equal key: it is replaced. -/
theorem put_same {t : List Ru} {r : Ru} (h : isSch t = true) {p : Nat} (hp : p < t.length) (h1 : ∀ j, j < p → bef (t.getD j ruD) r = true) (h2 : keyB (t.getD p ruD) r = true) : putRu t r = t.take p ++ r :: t.drop (p + 1) := by
  unfold putRu
  rw [ahead_ru h (Nat.le_of_lt hp) h1 (fun _ => not_bef_of_key h2)]
  rw [behind_at (p := p + 1) h hp (fun j hj => ?_) (fun hp1 => ?_)]
  · rcases Nat.lt_or_ge j p with h' | h'
    · exact not_bef_of_bef (h1 j h')
    · obtain rfl : j = p := by omega
      exact not_bef_of_key' h2
  · have := sch_bef h (show p < p + 1 by omega) hp1
    rw [keyB_iff] at h2
    rw [bef_iff] at *
    omega
/-- At the place where no equal key is: it is put there. -/
theorem put_new {t : List Ru} {r : Ru} (h : isSch t = true) {p : Nat} (hp : p ≤ t.length) (h1 : ∀ j, j < p → bef (t.getD j ruD) r = true) (h2 : p < t.length → bef r (t.getD p ruD) = true) : putRu t r = t.take p ++ r :: t.drop p := by
  unfold putRu
  rw [ahead_ru h hp h1 (fun hl => not_bef_of_bef (h2 hl)), behind_at h hp (fun j hj => not_bef_of_bef (h1 j hj)) h2]
/-- Without the rule of a key. -/
theorem del_same {t : List Ru} {r : Ru} (h : isSch t = true) {p : Nat} (hp : p < t.length) (h1 : ∀ j, j < p → bef (t.getD j ruD) r = true) (h2 : keyB (t.getD p ruD) r = true) : delRu t r = t.take p ++ t.drop (p + 1) := by
  have e1 := ahead_ru h (Nat.le_of_lt hp) h1 (fun _ => not_bef_of_key h2)
  unfold delRu
  have hs : t = t.take p ++ t.drop p := (List.take_append_drop p t).symm
  have hd : t.drop p = t[p] :: t.drop (p + 1) := List.drop_eq_getElem_cons hp
  have key : ∀ j (hj : j < t.length), (!keyB t[j] r) = decide (j ≠ p) := by
    intro j hj
    rcases Nat.lt_trichotomy j p with h' | h' | h'
    · have := not_key_of_bef (h1 j h')
      rw [getRu_lt hj] at this
      rw [this]; simp; omega
    · subst h'
      rw [getRu_lt hj] at h2
      rw [h2]; simp
    · have hb := sch_bef h h' hj
      have : bef r (t.getD j ruD) = true := by
        rw [keyB_iff] at h2
        rw [bef_iff] at *
        omega
      have := not_key_of_bef' this
      rw [getRu_lt hj] at this
      rw [this]; simp; omega
  conv => lhs; rw [hs]
  rw [List.filter_append]
  congr 1
  · rw [List.filter_eq_self]
    intro a ha
    obtain ⟨j, hj, rfl⟩ := List.getElem_of_mem ha
    rw [List.length_take] at hj
    rw [List.getElem_take, key j (by omega)]
    simp; omega
  · rw [hd]
    have := key p hp
    simp only [ne_eq, not_true_eq_false, decide_false] at this
    rw [List.filter_cons_of_neg (by rw [this]; simp), List.filter_eq_self]
    intro a ha
    obtain ⟨j, hj, rfl⟩ := List.getElem_of_mem ha
    rw [List.length_drop] at hj
    rw [List.getElem_drop, key (p + 1 + j) (by omega)]
    simp; omega
theorem del_none {t : List Ru} {r : Ru} (h : ∀ j, j < t.length → keyB (t.getD j ruD) r = false) : delRu t r = t := by
  unfold delRu
  rw [List.filter_eq_self]
  intro a ha
  obtain ⟨j, hj, rfl⟩ := List.getElem_of_mem ha
  have := h j hj
  rw [getRu_lt hj] at this
  rw [this]; rfl
theorem del_sch {t : List Ru} {r : Ru} (h : isSch t = true) : ∀ i j, i < j → j < (delRu t r).length → bef ((delRu t r).getD i ruD) ((delRu t r).getD j ruD) = true := by
  have hp : t.Pairwise (fun a b => bef a b = true) := by
    rw [List.pairwise_iff_getElem]
    intro i j hi hj hij
    have := sch_bef h hij hj
    rwa [getRu_lt hi, getRu_lt hj] at this
  have hq : (delRu t r).Pairwise (fun a b => bef a b = true) := hp.sublist List.filter_sublist
  rw [List.pairwise_iff_getElem] at hq
  intro i j hij hj
  have := hq i j (by omega) hj hij
  rwa [getRu_lt (by omega), getRu_lt hj]
/-- As the model puts it: without the old one, at the first place that is not ahead. -/
theorem put_spec {t : List Ru} {r : Ru} (h : isSch t = true) {k : Nat} (hk : k ≤ (delRu t r).length) (h1 : ∀ j, j < k → bef ((delRu t r).getD j ruD) r = true) (h2 : k < (delRu t r).length → bef ((delRu t r).getD k ruD) r = false) : putRu t r = (delRu t r).take k ++ r :: (delRu t r).drop k := by
  have hs := del_sch (r := r) h
  have f1 : t.filter (bef · r) = (delRu t r).filter (bef · r) := by
    unfold delRu
    rw [List.filter_filter]
    refine List.filter_congr fun a _ => ?_
    rcases hb : bef a r with _ | _
    · simp
    · simp [not_key_of_bef hb]
  have f2 : t.filter (bef r ·) = (delRu t r).filter (fun a => !bef a r) := by
    unfold delRu
    rw [List.filter_filter]
    refine List.filter_congr fun a _ => ?_
    rcases bef_three a r with h' | h' | h'
    · simp [h', not_bef_of_bef h']
    · simp [h', not_bef_of_key' h']
    · simp [h', not_key_of_bef' h', not_bef_of_bef h']
  unfold putRu
  rw [f1, f2]
  have hno : ∀ j (hj : j < (delRu t r).length), k ≤ j → bef (delRu t r)[j] r = false := by
    intro j hj hkj
    have hkl : k < (delRu t r).length := by omega
    rcases hb : bef (delRu t r)[j] r with _ | _
    · rfl
    · rcases Nat.lt_or_eq_of_le hkj with h' | h'
      · have := bef_trans (hs k j h' hj) (by rw [getRu_lt hj]; exact hb)
        rw [h2 hkl] at this; cases this
      · subst h'
        have := h2 hkl
        rw [getRu_lt hj, hb] at this; cases this
  have hyes : ∀ j (hj : j < (delRu t r).length), j < k → bef (delRu t r)[j] r = true := by
    intro j hj hjk
    have := h1 j hjk
    rwa [getRu_lt hj] at this
  rw [filter_take _ k hk hyes hno, filter_drop _ k hk (fun j hj hjk => by rw [hyes j hj hjk]; rfl) (fun j hj hjk => by rw [hno j hj hjk]; rfl)]
end Go.Proofs.Ytenjajcknmfhfaa
