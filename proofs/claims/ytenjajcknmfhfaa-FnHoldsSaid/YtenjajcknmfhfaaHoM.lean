/- What a list of holds is, and what the functions of holds answer, as plain mathematics (chapter 9). No program is named here. -/
import Derived.Test.YtenjajcknmfhfaaPerM
import Derived.Test.YtenjajcknmfhfaaFoM
namespace Go.Proofs.Ytenjajcknmfhfaa
set_option linter.unusedVariables false

structure Ho where
  id : Int
  frm : Int
  til : Int
  ser : List Int
  fst : Int
  lst : Int
  deriving DecidableEq
def hoD : Ho := ⟨0, 0, 0, [], 0, 0⟩
theorem getHo_lt {xs : List Ho} {i : Nat} (h : i < xs.length) : xs.getD i hoD = xs[i] := by simp [List.getD, List.getElem?_eq_getElem h]
def prevHo (t : List Ho) : Nat → Int
  | 0 => 0
  | j + 1 => (t.getD j hoD).id
/-- Until fits From. -/
def tilB (h : Ho) : Bool := decide ((0 ≤ h.frm ∧ h.frm ≤ 20000) ∧ (h.til = -1 ∨ (h.frm + 1 ≤ h.til ∧ h.til ≤ 20000)))
def serB (xs : List Int) : Bool := decide (xs.length ≤ 5) && risB 1 99 xs
def hoOne (h : Ho) : Bool := decide (1 ≤ h.id ∧ h.id ≤ 99) && (tilB h && (serB h.ser && decide ((0 ≤ h.fst ∧ h.fst ≤ 20000) ∧ (h.fst ≤ h.lst ∧ h.lst ≤ 20000))))
def hoAtB (t : List Ho) (i : Nat) : Bool := hoOne (t.getD i hoD) && decide (prevHo t i < (t.getD i hoD).id)
def areHo (t : List Ho) : Bool := decide (t.length ≤ 8) && upto (hoAtB t) t.length
theorem hoOne_iff {h : Ho} : hoOne h = true ↔ (1 ≤ h.id ∧ h.id ≤ 99) ∧ ((0 ≤ h.frm ∧ h.frm ≤ 20000) ∧ (h.til = -1 ∨ (h.frm + 1 ≤ h.til ∧ h.til ≤ 20000))) ∧ (h.ser.length ≤ 5 ∧ risB 1 99 h.ser = true) ∧ ((0 ≤ h.fst ∧ h.fst ≤ 20000) ∧ (h.fst ≤ h.lst ∧ h.lst ≤ 20000)) := by
  simp only [hoOne, tilB, serB, Bool.and_eq_true, decide_eq_true_eq]
theorem hoAt_iff {t : List Ho} {i : Nat} {h : Ho} (hx : t.getD i hoD = h) : hoAtB t i = true ↔ hoOne h = true ∧ prevHo t i < h.id := by
  subst hx
  simp only [hoAtB, Bool.and_eq_true, decide_eq_true_eq]
theorem ho_long {t : List Ho} (h : ¬ t.length ≤ 8) : areHo t = false := by unfold areHo; rw [decide_eq_false h]; rfl
theorem notHo {t : List Ho} {k : Nat} (hk : k < t.length) (h : hoAtB t k = false) : areHo t = false := by unfold areHo; rw [upto_false hk h]; simp
theorem ho_all {t : List Ho} (h : t.length ≤ 8) (hu : upto (hoAtB t) t.length = true) : areHo t = true := by unfold areHo; rw [decide_eq_true h, hu]; rfl
theorem ho_iff {t : List Ho} : areHo t = true ↔ t.length ≤ 8 ∧ ∀ i, i < t.length → hoAtB t i = true := by simp [areHo, upto_iff]
theorem ho_upto {t : List Ho} (hu : upto (hoAtB t) t.length = true) : areHo t = decide (t.length ≤ 8) := by unfold areHo; rw [hu]; simp
theorem ho_len {t : List Ho} (h : areHo t = true) : t.length ≤ 8 := (ho_iff.1 h).1
theorem ho_at {t : List Ho} (h : areHo t = true) {i : Nat} (hi : i < t.length) : hoOne (t.getD i hoD) = true := ((hoAt_iff rfl).1 ((ho_iff.1 h).2 i hi)).1
theorem ho_mem {t : List Ho} (h : areHo t = true) {x : Ho} (hx : x ∈ t) : hoOne x = true := by
  obtain ⟨i, hi, rfl⟩ := List.getElem_of_mem hx
  have := ho_at h hi
  rwa [getHo_lt hi] at this
theorem prevHo_pos {t : List Ho} {k : Nat} (hk : k ≤ t.length) (hu : upto (hoAtB t) k = true) : 0 ≤ prevHo t k := by
  cases k with
  | zero => exact Int.le_refl _
  | succ j =>
    have h1 := (hoOne_iff.1 ((hoAt_iff rfl).1 (upto_iff.1 hu j (Nat.lt_succ_self _))).1).1
    simp only [prevHo]
    omega
theorem ho_asc {t : List Ho} (h : areHo t = true) : ∀ (d i : Nat), i + d + 1 < t.length → (t.getD i hoD).id < (t.getD (i + d + 1) hoD).id
  | 0, i, hd => ((hoAt_iff rfl).1 ((ho_iff.1 h).2 (i + 1) (by omega))).2
  | d + 1, i, hd => by
    have h1 := ho_asc h d i (by omega)
    have h2 := ((hoAt_iff rfl).1 ((ho_iff.1 h).2 (i + d + 1 + 1) (by omega))).2
    simp only [prevHo] at h2
    rw [show i + (d + 1) + 1 = i + d + 1 + 1 by omega]
    omega
theorem ho_rising {t : List Ho} (h : areHo t = true) : (t.map Ho.id).Pairwise (· < ·) := by
  rw [List.pairwise_iff_getElem]
  intro i j hi hj hij
  simp only [List.length_map] at hi hj
  have := ho_asc h (j - i - 1) i (by omega)
  rw [show i + (j - i - 1) + 1 = j by omega, getHo_lt hi, getHo_lt hj] at this
  simpa using this
/-- One number of a list of Series, as the program asks. -/
theorem ris99_iff {xs : List Int} {k : Nat} {y p : Int} (hy : xs.getD k 0 = y) (hp : (if k = 0 then 0 else xs.getD (k - 1) 0) = p) : risAt 1 99 xs k = true ↔ p < y ∧ (1 ≤ y ∧ y ≤ 99) := by
  unfold risAt
  rw [hy]
  by_cases h0 : k = 0
  · subst h0
    simp only [if_true] at hp
    simp
    omega
  · rw [if_neg h0] at hp
    rw [hp]
    simp [h0]
    omega
theorem ser_no {xs : List Int} {k : Nat} (hk : k < xs.length) (h : risAt 1 99 xs k = false) : serB xs = false := by
  unfold serB risB
  rw [upto_false hk h]; simp
theorem ser_yes {xs : List Int} (hl : xs.length ≤ 5) (h : upto (risAt 1 99 xs) xs.length = true) : serB xs = true := by
  unfold serB risB
  rw [h, decide_eq_true hl]; rfl
theorem ser_long {xs : List Int} (hl : ¬ xs.length ≤ 5) : serB xs = false := by unfold serB; rw [decide_eq_false hl]; rfl

/-- The first day on which a hold is in force no longer. -/
def endH (h : Ho) : Int := if h.til = -1 then 20001 else h.til
def conB (h : Ho) (r : Rec) : Bool := (decide (h.ser.length = 0) || decide (r.series ∈ h.ser)) && decide (h.fst ≤ r.made ∧ r.made ≤ h.lst)
def covB (h : Ho) (r : Rec) (d : Int) : Bool := decide (h.frm ≤ d ∧ d < endH h) && conB h r
theorem covB_iff {h : Ho} {r : Rec} {d : Int} : covB h r d = true ↔ (h.frm ≤ d ∧ d < endH h) ∧ conB h r = true := by simp [covB]
theorem conB_iff {h : Ho} {r : Rec} : conB h r = true ↔ (h.ser.length = 0 ∨ r.series ∈ h.ser) ∧ (h.fst ≤ r.made ∧ r.made ≤ h.lst) := by simp [conB]
theorem endH_bd {h : Ho} (hv : hoOne h = true) : h.frm < endH h ∧ endH h ≤ 20001 ∧ 0 ≤ h.frm ∧ h.frm ≤ 20000 := by
  have := (hoOne_iff.1 hv).2.1
  unfold endH
  split <;> omega
/-- In force, as the model asks. -/
theorem force_eq {h : Ho} {d : Int} (hd : d ≤ 20000) : decide (h.frm ≤ d ∧ (h.til = -1 ∨ d < h.til)) = decide (h.frm ≤ d ∧ d < endH h) := by
  unfold endH
  by_cases ht : h.til = -1
  · rw [if_pos ht]
    simp [ht]
    omega
  · rw [if_neg ht]
    simp [ht]
theorem cov_span {h : Ho} {r : Rec} {x y : Int} (hc : covB h r x = true) (h1 : x ≤ y) (h2 : y < endH h) : covB h r y = true := by
  obtain ⟨a, b⟩ := covB_iff.1 hc
  exact covB_iff.2 ⟨by omega, b⟩

def heldB (t : List Ho) (r : Rec) (d : Int) : Bool := t.any (fun h => covB h r d)
theorem heldB_iff {t : List Ho} {r : Rec} {d : Int} : heldB t r d = true ↔ ∃ h ∈ t, covB h r d = true := by simp [heldB]
theorem held_at {t : List Ho} {r : Rec} {d : Int} {k : Nat} (hk : k < t.length) (h : covB (t.getD k hoD) r d = true) : heldB t r d = true :=
  heldB_iff.2 ⟨_, by rw [getHo_lt hk]; exact List.getElem_mem hk, h⟩
theorem held_no {t : List Ho} {r : Rec} {d : Int} (h : ∀ k, k < t.length → covB (t.getD k hoD) r d = false) : heldB t r d = false := by
  rcases hb : heldB t r d with _ | _
  · rfl
  · obtain ⟨x, hx, hc⟩ := heldB_iff.1 hb
    obtain ⟨i, hi, rfl⟩ := List.getElem_of_mem hx
    have := h i hi
    rw [getHo_lt hi, hc] at this
    cases this
/-- The ids of all holds that cover. -/
def onHo (t : List Ho) (r : Rec) (d : Int) : List Int := (t.filter (fun h => covB h r d)).map Ho.id
theorem onHo_succ {t : List Ho} {r : Rec} {d : Int} {k : Nat} (h : k < t.length) : onHo (t.take (k + 1)) r d = if covB (t.getD k hoD) r d = true then onHo (t.take k) r d ++ [(t.getD k hoD).id] else onHo (t.take k) r d := by
  unfold onHo
  rw [List.take_succ_eq_append_getElem h, List.filter_append, List.map_append, getHo_lt h]
  by_cases hc : covB t[k] r d = true
  · simp [hc]
  · simp [hc]
theorem onHo_len (t : List Ho) (r : Rec) (d : Int) : (onHo t r d).length ≤ t.length := by unfold onHo; rw [List.length_map]; exact List.length_filter_le _ _
theorem onHo_held {t : List Ho} {r : Rec} {d : Int} : decide (0 < (onHo t r d).length) = heldB t r d := by
  rcases hb : heldB t r d with _ | _
  · have : onHo t r d = [] := by
      unfold onHo
      rw [List.map_eq_nil_iff, List.filter_eq_nil_iff]
      intro x hx hc
      have := heldB_iff.2 ⟨x, hx, hc⟩
      rw [hb] at this; cases this
    rw [this]; rfl
  · obtain ⟨x, hx, hc⟩ := heldB_iff.1 hb
    have : x.id ∈ onHo t r d := List.mem_map.2 ⟨x, List.mem_filter.2 ⟨hx, hc⟩, rfl⟩
    exact decide_eq_true (List.length_pos_of_mem this)
theorem onHo_mem {t : List Ho} {r : Rec} {d x : Int} : x ∈ onHo t r d ↔ ∃ h ∈ t, covB h r d = true ∧ h.id = x := by
  simp only [onHo, List.mem_map, List.mem_filter]
  constructor
  · rintro ⟨h, ⟨a, b⟩, c⟩; exact ⟨h, a, b, c⟩
  · rintro ⟨h, a, b, c⟩; exact ⟨h, ⟨a, b⟩, c⟩
/-- Holds, a record and a day are valid. -/
def askH (t : List Ho) (r : Rec) (d : Int) : Bool := areHo t && (isRec r && decide (0 ≤ d ∧ d ≤ 20000))
theorem askH_iff {t : List Ho} {r : Rec} {d : Int} : askH t r d = true ↔ areHo t = true ∧ isRec r = true ∧ (0 ≤ d ∧ d ≤ 20000) := by simp [askH]
def hoRes (t : List Ho) (r : Rec) (d : Int) : List Int × Bool := if askH t r d = true then (onHo t r d, true) else ([], false)
theorem hoRes_len {t : List Ho} {r : Rec} {d : Int} {xs : List Int} {b : Bool} (h : hoRes t r d = (xs, b)) : xs.length ≤ t.length := by
  unfold hoRes at h
  split at h
  · obtain ⟨rfl, _⟩ := Prod.mk.inj h; exact onHo_len _ _ _
  · obtain ⟨rfl, _⟩ := Prod.mk.inj h; simp
theorem hoRes_no {t : List Ho} {r : Rec} {d : Int} {xs : List Int} {b : Bool} (h : hoRes t r d = (xs, b)) (hn : ¬ askH t r d = true) : xs = [] ∧ b = false := by
  unfold hoRes at h; rw [if_neg hn] at h; obtain ⟨h1, h2⟩ := Prod.mk.inj h; exact ⟨h1.symm, h2.symm⟩
theorem hoRes_yes {t : List Ho} {r : Rec} {d : Int} {xs : List Int} {b : Bool} (h : hoRes t r d = (xs, b)) (hn : askH t r d = true) : xs = onHo t r d ∧ b = true := by
  unfold hoRes at h; rw [if_pos hn] at h; obtain ⟨h1, h2⟩ := Prod.mk.inj h; exact ⟨h1.symm, h2.symm⟩

/-- The first day from one on without a hold, or 20001. -/
def freeF (t : List Ho) (r : Rec) (d : Int) : Int :=
  match (List.range 20001).find? (fun x : Nat => decide (d ≤ (x : Int)) && !heldB t r (x : Int)) with
  | some x => (x : Int)
  | none => 20001
theorem free_is {t : List Ho} {r : Rec} {d f : Int} (h0 : 0 ≤ d) (h1 : d ≤ f) (h2 : f ≤ 20000) (h3 : heldB t r f = false) (h4 : ∀ x, d ≤ x → x < f → heldB t r x = true) : freeF t r d = f := by
  obtain ⟨n, rfl⟩ : ∃ n : Nat, f = (n : Int) := ⟨f.toNat, by omega⟩
  have : (List.range 20001).find? (fun x : Nat => decide (d ≤ (x : Int)) && !heldB t r (x : Int)) = some n := by
    rw [List.find?_range_eq_some]
    refine ⟨by simp [h3]; exact h1, List.mem_range.2 (by omega), fun j hj => ?_⟩
    rcases Int.lt_or_le (j : Int) d with h | h
    · simp; omega
    · simp [h4 j h (by omega)]
  unfold freeF
  rw [this]
theorem free_top {t : List Ho} {r : Rec} {d : Int} (h4 : ∀ x, d ≤ x → x ≤ 20000 → heldB t r x = true) : freeF t r d = 20001 := by
  have : (List.range 20001).find? (fun x : Nat => decide (d ≤ (x : Int)) && !heldB t r (x : Int)) = none := by
    rw [List.find?_range_eq_none]
    intro j hj
    rcases Int.lt_or_le (j : Int) d with h | h
    · simp; omega
    · simp [h4 j h (by omega)]
  unfold freeF
  rw [this]
theorem free_told {t : List Ho} {r : Rec} {d : Int} (h0 : 0 ≤ d) : (∀ x, d ≤ x → x < freeF t r d → heldB t r x = true) ∧ (freeF t r d = 20001 ∨ (d ≤ freeF t r d ∧ freeF t r d ≤ 20000 ∧ heldB t r (freeF t r d) = false)) := by
  unfold freeF
  rcases hf : (List.range 20001).find? (fun x : Nat => decide (d ≤ (x : Int)) && !heldB t r (x : Int)) with _ | n
  · rw [List.find?_range_eq_none] at hf
    refine ⟨fun x h1 h2 => ?_, .inl rfl⟩
    simp only at h2
    have := hf x.toNat (by omega)
    rw [show ((x.toNat : Nat) : Int) = x by omega] at this
    simp at this
    rcases this with h | h
    · omega
    · exact h
  · rw [List.find?_range_eq_some] at hf
    obtain ⟨h1, h2, h3⟩ := hf
    simp at h1 h2
    refine ⟨fun x h4 h5 => ?_, .inr ⟨h1.1, by simp only; omega, h1.2⟩⟩
    simp only at h5
    have := h3 x.toNat (by omega)
    rw [show ((x.toNat : Nat) : Int) = x by omega] at this
    simp at this
    rcases this with h | h
    · omega
    · exact h
theorem free_ge {t : List Ho} {r : Rec} {d : Int} (h0 : 0 ≤ d) (h1 : d ≤ 20001) : d ≤ freeF t r d ∧ freeF t r d ≤ 20001 := by
  rcases (free_told (t := t) (r := r) h0).2 with h | h <;> omega
def freRes (t : List Ho) (r : Rec) (d : Int) : Int × Bool := if askH t r d = true ∧ freeF t r d ≤ 20000 then (freeF t r d, true) else (0, false)
theorem freRes_no {t : List Ho} {r : Rec} {d n : Int} {b : Bool} (h : freRes t r d = (n, b)) (hn : ¬ (askH t r d = true ∧ freeF t r d ≤ 20000)) : n = 0 ∧ b = false := by
  unfold freRes at h; rw [if_neg hn] at h; obtain ⟨h1, h2⟩ := Prod.mk.inj h; exact ⟨h1.symm, h2.symm⟩
theorem freRes_yes {t : List Ho} {r : Rec} {d n : Int} {b : Bool} (h : freRes t r d = (n, b)) (hn : askH t r d = true ∧ freeF t r d ≤ 20000) : n = freeF t r d ∧ b = true := by
  unfold freRes at h; rw [if_pos hn] at h; obtain ⟨h1, h2⟩ := Prod.mk.inj h; exact ⟨h1.symm, h2.symm⟩
/-- How many holds have ended by a day: it grows with each step of the model's search. -/
def gone (t : List Ho) (d : Int) : Nat := t.countP (fun h => decide (endH h ≤ d))
theorem gone_le (t : List Ho) (d : Int) : gone t d ≤ t.length := List.countP_le_length
theorem gone_mono {t : List Ho} {d e : Int} (h : d ≤ e) : gone t d ≤ gone t e := List.countP_mono_left (fun x _ hx => by simp at hx ⊢; omega)
theorem gone_step {t : List Ho} {d : Int} {k : Nat} (hk : k < t.length) (h : d < endH (t.getD k hoD)) : gone t d + 1 ≤ gone t (endH (t.getD k hoD)) := by
  rw [getHo_lt hk] at h ⊢
  obtain ⟨a, b, hab⟩ : ∃ a b, t = a ++ t[k] :: b := ⟨t.take k, t.drop (k + 1), by rw [← List.drop_eq_getElem_cons hk, List.take_append_drop]⟩
  obtain ⟨x, hx⟩ : ∃ x, t[k] = x := ⟨_, rfl⟩
  rw [hx] at hab h ⊢
  rw [hab]
  have h1 := gone_mono (t := a) (Int.le_of_lt h)
  have h2 := gone_mono (t := b) (Int.le_of_lt h)
  unfold gone at *
  rw [List.countP_append, List.countP_append, List.countP_cons, List.countP_cons]
  simp only [decide_eq_true_eq, Int.le_refl, if_true]
  rw [if_neg (by omega)]
  omega

/-- The greatest number of holds on a day on which one begins, and the first such day, over the first k. -/
def mostN (t : List Ho) (r : Rec) : Nat → Int × Int
  | 0 => (0, 0)
  | k + 1 => if (mostN t r k).1 < ((onHo t r (t.getD k hoD).frm).length : Int) ∨ (((onHo t r (t.getD k hoD).frm).length : Int) = (mostN t r k).1 ∧ 0 < ((onHo t r (t.getD k hoD).frm).length : Int) ∧ (t.getD k hoD).frm < (mostN t r k).2) then (((onHo t r (t.getD k hoD).frm).length : Int), (t.getD k hoD).frm) else mostN t r k
theorem most_pos (t : List Ho) (r : Rec) : ∀ k, 0 ≤ (mostN t r k).1 ∧ ((mostN t r k).1 = 0 → (mostN t r k).2 = 0)
  | 0 => ⟨Int.le_refl _, fun _ => rfl⟩
  | k + 1 => by
    obtain ⟨h1, h2⟩ := most_pos t r k
    unfold mostN
    split
    · refine ⟨?_, fun h => ?_⟩ <;> simp only at * <;> omega
    · exact ⟨h1, h2⟩
theorem most_le (t : List Ho) (r : Rec) : ∀ k, (mostN t r k).1 ≤ t.length
  | 0 => by simp [mostN]
  | k + 1 => by
    have := most_le t r k
    have := onHo_len t r (t.getD k hoD).frm
    unfold mostN
    split
    · simp only; omega
    · assumption
/-- The same, as the program asks. -/
theorem most_p {t : List Ho} {r : Rec} (ht : areHo t = true) {k : Nat} (hk : k < t.length) : mostN t r (k + 1) = if (mostN t r k).1 < ((onHo t r (t.getD k hoD).frm).length : Int) ∨ (((onHo t r (t.getD k hoD).frm).length : Int) = (mostN t r k).1 ∧ (t.getD k hoD).frm < (mostN t r k).2) then (((onHo t r (t.getD k hoD).frm).length : Int), (t.getD k hoD).frm) else mostN t r k := by
  have h0 := endH_bd (ho_at ht hk)
  obtain ⟨h1, h2⟩ := most_pos t r k
  conv => lhs; unfold mostN
  by_cases hc : (mostN t r k).1 < ((onHo t r (t.getD k hoD).frm).length : Int) ∨ (((onHo t r (t.getD k hoD).frm).length : Int) = (mostN t r k).1 ∧ (t.getD k hoD).frm < (mostN t r k).2)
  · rw [if_pos hc, if_pos]
    rcases hc with h | ⟨h3, h4⟩
    · exact .inl h
    · refine .inr ⟨h3, ?_, h4⟩
      rcases Int.lt_or_le 0 (mostN t r k).1 with h5 | h5
      · omega
      · have := h2 (by omega); omega
  · rw [if_neg hc, if_neg]
    rintro (h | ⟨h3, _, h4⟩)
    · exact hc (.inl h)
    · exact hc (.inr ⟨h3, h4⟩)
def moRes (t : List Ho) (r : Rec) : Int × Int × Bool := if areHo t = true ∧ isRec r = true then ((mostN t r t.length).1, (mostN t r t.length).2, decide (0 < (mostN t r t.length).1)) else (0, 0, false)
theorem moRes_no {t : List Ho} {r : Rec} {x y : Int} {b : Bool} (h : moRes t r = (x, y, b)) (hn : ¬ (areHo t = true ∧ isRec r = true)) : x = 0 ∧ y = 0 ∧ b = false := by
  unfold moRes at h; rw [if_neg hn] at h; obtain ⟨h1, h2, h3⟩ := by simpa using h
  exact ⟨h1.symm, h2.symm, h3⟩
theorem moRes_yes {t : List Ho} {r : Rec} {x y : Int} {b : Bool} (h : moRes t r = (x, y, b)) (hn : areHo t = true ∧ isRec r = true) : x = (mostN t r t.length).1 ∧ y = (mostN t r t.length).2 ∧ b = decide (0 < (mostN t r t.length).1) := by
  unfold moRes at h; rw [if_pos hn] at h
  injection h with h1 h2
  injection h2 with h2 h3
  exact ⟨h1.symm, h2.symm, h3.symm⟩

/-- The records that some hold covers. -/
def heF (t : List Ho) (d : Int) (rs : List Rec) : List Int := (rs.filter (fun r => heldB t r d)).map Rec.id
theorem heF_succ {t : List Ho} {d : Int} {rs : List Rec} {k : Nat} (h : k < rs.length) : heF t d (rs.take (k + 1)) = if heldB t (rs.getD k recD) d = true then heF t d (rs.take k) ++ [(rs.getD k recD).id] else heF t d (rs.take k) := by
  unfold heF
  rw [List.take_succ_eq_append_getElem h, List.filter_append, List.map_append, getDr_lt h]
  by_cases hc : heldB t rs[k] d = true
  · simp [hc]
  · simp [hc]
theorem heF_len (t : List Ho) (d : Int) (rs : List Rec) : (heF t d rs).length ≤ rs.length := by unfold heF; rw [List.length_map]; exact List.length_filter_le _ _
def askS (t : List Ho) (rs : List Rec) (d : Int) : Bool := areHo t && (areRecs rs && decide (0 ≤ d ∧ d ≤ 20000))
theorem askS_iff {t : List Ho} {rs : List Rec} {d : Int} : askS t rs d = true ↔ areHo t = true ∧ areRecs rs = true ∧ (0 ≤ d ∧ d ≤ 20000) := by simp [askS]
def heRes (t : List Ho) (rs : List Rec) (d : Int) : List Int × Bool := if askS t rs d = true then (heF t d rs, true) else ([], false)
theorem heRes_len {t : List Ho} {rs : List Rec} {d : Int} {xs : List Int} {b : Bool} (h : heRes t rs d = (xs, b)) : xs.length ≤ rs.length := by
  unfold heRes at h
  split at h
  · obtain ⟨rfl, _⟩ := Prod.mk.inj h; exact heF_len _ _ _
  · obtain ⟨rfl, _⟩ := Prod.mk.inj h; simp
theorem heRes_no {t : List Ho} {rs : List Rec} {d : Int} {xs : List Int} {b : Bool} (h : heRes t rs d = (xs, b)) (hn : ¬ askS t rs d = true) : xs = [] ∧ b = false := by
  unfold heRes at h; rw [if_neg hn] at h; obtain ⟨h1, h2⟩ := Prod.mk.inj h; exact ⟨h1.symm, h2.symm⟩
theorem heRes_yes {t : List Ho} {rs : List Rec} {d : Int} {xs : List Int} {b : Bool} (h : heRes t rs d = (xs, b)) (hn : askS t rs d = true) : xs = heF t d rs ∧ b = true := by
  unfold heRes at h; rw [if_pos hn] at h; obtain ⟨h1, h2⟩ := Prod.mk.inj h; exact ⟨h1.symm, h2.symm⟩

/-- The holds without which some record would not be covered. -/
def ndB (t : List Ho) (rs : List Rec) (d : Int) (h : Ho) : Bool := rs.any (fun r => decide (onHo t r d = [h.id]))
def needN (t : List Ho) (rs : List Rec) (d : Int) (k : Nat) : List Int := ((t.take k).filter (ndB t rs d)).map Ho.id
def needF (t : List Ho) (rs : List Rec) (d : Int) : List Int := needN t rs d t.length
theorem needN_succ {t : List Ho} {rs : List Rec} {d : Int} {k : Nat} (h : k < t.length) : needN t rs d (k + 1) = if ndB t rs d (t.getD k hoD) = true then needN t rs d k ++ [(t.getD k hoD).id] else needN t rs d k := by
  unfold needN
  rw [List.take_succ_eq_append_getElem h, List.filter_append, List.map_append, getHo_lt h]
  by_cases hc : ndB t rs d t[k] = true
  · simp [hc]
  · simp [hc]
theorem needN_len (t : List Ho) (rs : List Rec) (d : Int) (k : Nat) : (needN t rs d k).length ≤ k := by
  unfold needN
  rw [List.length_map]
  exact Nat.le_trans (List.length_filter_le _ _) (by rw [List.length_take]; omega)
theorem ndB_iff {t : List Ho} {rs : List Rec} {d : Int} {h : Ho} : ndB t rs d h = true ↔ ∃ r ∈ rs, onHo t r d = [h.id] := by simp [ndB]
theorem nd_no {t : List Ho} {rs : List Rec} {d : Int} {h : Ho} (hn : ∀ j, j < rs.length → ¬ onHo t (rs.getD j recD) d = [h.id]) : ndB t rs d h = false := by
  rcases hb : ndB t rs d h with _ | _
  · rfl
  · obtain ⟨r, hr, he⟩ := ndB_iff.1 hb
    obtain ⟨i, hi, rfl⟩ := List.getElem_of_mem hr
    exact absurd he (by have := hn i hi; rwa [getDr_lt hi] at this)
theorem nd_yes {t : List Ho} {rs : List Rec} {d : Int} {h : Ho} {j : Nat} (hj : j < rs.length) (he : onHo t (rs.getD j recD) d = [h.id]) : ndB t rs d h = true :=
  ndB_iff.2 ⟨_, by rw [getDr_lt hj]; exact List.getElem_mem hj, he⟩
theorem need_rising {t : List Ho} (ht : areHo t = true) (rs : List Rec) (d : Int) : (needF t rs d).Pairwise (· < ·) := by
  unfold needF needN
  rw [List.take_length]
  exact (ho_rising ht).sublist (List.Sublist.map _ List.filter_sublist)
theorem need_mem {t : List Ho} {rs : List Rec} {d x : Int} : x ∈ needF t rs d ↔ ∃ r ∈ rs, onHo t r d = [x] := by
  unfold needF needN
  rw [List.take_length]
  simp only [List.mem_map, List.mem_filter]
  constructor
  · rintro ⟨h, ⟨_, b⟩, rfl⟩; exact ndB_iff.1 b
  · rintro ⟨r, hr, he⟩
    obtain ⟨h, h1, h2, rfl⟩ := onHo_mem.1 (by rw [he]; exact List.mem_singleton.2 rfl : x ∈ onHo t r d)
    exact ⟨h, ⟨h1, ndB_iff.2 ⟨r, hr, he⟩⟩, rfl⟩
def neRes (t : List Ho) (rs : List Rec) (d : Int) : List Int × Bool := if askS t rs d = true then (needF t rs d, true) else ([], false)
theorem neRes_len {t : List Ho} {rs : List Rec} {d : Int} {xs : List Int} {b : Bool} (h : neRes t rs d = (xs, b)) : xs.length ≤ t.length := by
  unfold neRes at h
  split at h
  · obtain ⟨rfl, _⟩ := Prod.mk.inj h; exact needN_len _ _ _ _
  · obtain ⟨rfl, _⟩ := Prod.mk.inj h; simp
theorem neRes_no {t : List Ho} {rs : List Rec} {d : Int} {xs : List Int} {b : Bool} (h : neRes t rs d = (xs, b)) (hn : ¬ askS t rs d = true) : xs = [] ∧ b = false := by
  unfold neRes at h; rw [if_neg hn] at h; obtain ⟨h1, h2⟩ := Prod.mk.inj h; exact ⟨h1.symm, h2.symm⟩
theorem neRes_yes {t : List Ho} {rs : List Rec} {d : Int} {xs : List Int} {b : Bool} (h : neRes t rs d = (xs, b)) (hn : askS t rs d = true) : xs = needF t rs d ∧ b = true := by
  unfold neRes at h; rw [if_pos hn] at h; obtain ⟨h1, h2⟩ := Prod.mk.inj h; exact ⟨h1.symm, h2.symm⟩

/-- May a record be destroyed. -/
def mayB (t : List Ho) (r : Rec) (u : List Ru) (d : Int) : Bool := decide ((0 ≤ dueF r u ∧ dueF r u ≤ d) ∧ (ruleF r u).act = 3) && !heldB t r d
def mayRes (t : List Ho) (r : Rec) (u : List Ru) (d : Int) : Bool × Bool := if askH t r d = true ∧ isSch u = true then (mayB t r u d, true) else (false, false)
theorem mayRes_no {t : List Ho} {r : Rec} {u : List Ru} {d : Int} {x b : Bool} (h : mayRes t r u d = (x, b)) (hn : ¬ (askH t r d = true ∧ isSch u = true)) : x = false ∧ b = false := by
  unfold mayRes at h; rw [if_neg hn] at h; obtain ⟨h1, h2⟩ := Prod.mk.inj h; exact ⟨h1.symm, h2.symm⟩
theorem mayRes_yes {t : List Ho} {r : Rec} {u : List Ru} {d : Int} {x b : Bool} (h : mayRes t r u d = (x, b)) (hn : askH t r d = true ∧ isSch u = true) : x = mayB t r u d ∧ b = true := by
  unfold mayRes at h; rw [if_pos hn] at h; obtain ⟨h1, h2⟩ := Prod.mk.inj h; exact ⟨h1.symm, h2.symm⟩
def fdAsk (t : List Ho) (r : Rec) (u : List Ru) : Bool := askH t r 0 && (isSch u && decide ((0 ≤ dueF r u ∧ dueF r u ≤ 20000) ∧ (ruleF r u).act = 3 ∧ freeF t r (dueF r u) ≤ 20000))
theorem fdAsk_iff {t : List Ho} {r : Rec} {u : List Ru} : fdAsk t r u = true ↔ askH t r 0 = true ∧ isSch u = true ∧ (0 ≤ dueF r u ∧ dueF r u ≤ 20000) ∧ (ruleF r u).act = 3 ∧ freeF t r (dueF r u) ≤ 20000 := by simp [fdAsk]
def fdRes (t : List Ho) (r : Rec) (u : List Ru) : Int × Bool := if fdAsk t r u = true then (freeF t r (dueF r u), true) else (0, false)
theorem fdRes_no {t : List Ho} {r : Rec} {u : List Ru} {n : Int} {b : Bool} (h : fdRes t r u = (n, b)) (hn : ¬ fdAsk t r u = true) : n = 0 ∧ b = false := by
  unfold fdRes at h; rw [if_neg hn] at h; obtain ⟨h1, h2⟩ := Prod.mk.inj h; exact ⟨h1.symm, h2.symm⟩
theorem fdRes_yes {t : List Ho} {r : Rec} {u : List Ru} {n : Int} {b : Bool} (h : fdRes t r u = (n, b)) (hn : fdAsk t r u = true) : n = freeF t r (dueF r u) ∧ b = true := by
  unfold fdRes at h; rw [if_pos hn] at h; obtain ⟨h1, h2⟩ := Prod.mk.inj h; exact ⟨h1.symm, h2.symm⟩
end Go.Proofs.Ytenjajcknmfhfaa
