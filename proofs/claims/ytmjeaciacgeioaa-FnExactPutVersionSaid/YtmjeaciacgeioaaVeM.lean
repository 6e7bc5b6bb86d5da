/- What a list of versions is, and what the functions of versions answer, as plain mathematics (chapter 8). No program is named here. -/
import Derived.Test.YtmjeaciacgeioaaPerM
namespace Go.Proofs.Ytmjeaciacgeioaa
set_option linter.unusedVariables false

structure Ve where
  frm : Int
  rules : List Ru
  deriving DecidableEq
def veD : Ve := ⟨0, []⟩
theorem getVe_lt {xs : List Ve} {i : Nat} (h : i < xs.length) : xs.getD i veD = xs[i] := by simp [List.getD, List.getElem?_eq_getElem h]
def prevV (t : List Ve) : Nat → Int
  | 0 => -1
  | j + 1 => (t.getD j veD).frm
def veAtB (t : List Ve) (i : Nat) : Bool := decide (0 ≤ (t.getD i veD).frm ∧ (t.getD i veD).frm ≤ 20000) && (isSch (t.getD i veD).rules && decide (prevV t i < (t.getD i veD).frm))
def areVe (t : List Ve) : Bool := decide (t.length ≤ 5) && upto (veAtB t) t.length
theorem veAt_iff {t : List Ve} {i : Nat} {v : Ve} (hx : t.getD i veD = v) : veAtB t i = true ↔ (0 ≤ v.frm ∧ v.frm ≤ 20000) ∧ isSch v.rules = true ∧ prevV t i < v.frm := by
  subst hx
  simp only [veAtB, Bool.and_eq_true, decide_eq_true_eq]
theorem veAt_no {t : List Ve} {i : Nat} {v : Ve} (hx : t.getD i veD = v) (h : ¬ (0 ≤ v.frm ∧ v.frm ≤ 20000) ∨ isSch v.rules = false ∨ ¬ prevV t i < v.frm) : veAtB t i = false := by
  rcases hb : veAtB t i with _ | _
  · rfl
  · have q := (veAt_iff hx).1 hb
    rcases h with h | h | h
    · exact absurd q.1 h
    · rw [q.2.1] at h; cases h
    · exact absurd q.2.2 h
theorem ve_long {t : List Ve} (h : ¬ t.length ≤ 5) : areVe t = false := by unfold areVe; rw [decide_eq_false h]; rfl
theorem notVe {t : List Ve} {k : Nat} (hk : k < t.length) (h : veAtB t k = false) : areVe t = false := by unfold areVe; rw [upto_false hk h]; simp
theorem ve_all {t : List Ve} (h : t.length ≤ 5) (hu : upto (veAtB t) t.length = true) : areVe t = true := by unfold areVe; rw [decide_eq_true h, hu]; rfl
theorem ve_iff {t : List Ve} : areVe t = true ↔ t.length ≤ 5 ∧ ∀ i, i < t.length → veAtB t i = true := by simp [areVe, upto_iff]
theorem ve_upto {t : List Ve} (hu : upto (veAtB t) t.length = true) : areVe t = decide (t.length ≤ 5) := by unfold areVe; rw [hu]; simp
theorem ve_len {t : List Ve} (h : areVe t = true) : t.length ≤ 5 := (ve_iff.1 h).1
theorem ve_at {t : List Ve} (h : areVe t = true) {i : Nat} (hi : i < t.length) : (0 ≤ (t.getD i veD).frm ∧ (t.getD i veD).frm ≤ 20000) ∧ isSch (t.getD i veD).rules = true ∧ prevV t i < (t.getD i veD).frm :=
  (veAt_iff rfl).1 ((ve_iff.1 h).2 i hi)
theorem ve_asc {t : List Ve} (h : areVe t = true) : ∀ (d i : Nat), i + d + 1 < t.length → (t.getD i veD).frm < (t.getD (i + d + 1) veD).frm
  | 0, i, hd => (ve_at h (i := i + 1) (by omega)).2.2
  | d + 1, i, hd => by
    have h1 := ve_asc h d i (by omega)
    have h2 := (ve_at h (i := i + d + 1 + 1) (by omega)).2.2
    simp only [prevV] at h2
    rw [show i + (d + 1) + 1 = i + d + 1 + 1 by omega]
    omega
theorem ve_lt {t : List Ve} (h : areVe t = true) {i j : Nat} (hij : i < j) (hj : j < t.length) : (t.getD i veD).frm < (t.getD j veD).frm := by
  have := ve_asc h (j - i - 1) i (by omega)
  rwa [show i + (j - i - 1) + 1 = j by omega] at this

/-- The last of the first k versions that is in force on a day, or -1. -/
def onN (t : List Ve) (d : Int) : Nat → Int
  | 0 => -1
  | k + 1 => if (t.getD k veD).frm ≤ d then (k : Int) else onN t d k
def onV (t : List Ve) (d : Int) : Int := onN t d t.length
theorem onN_cases (t : List Ve) (d : Int) : ∀ n, (onN t d n = -1 ∧ ∀ j, j < n → ¬ (t.getD j veD).frm ≤ d) ∨ ∃ k : Nat, onN t d n = (k : Int) ∧ k < n ∧ (t.getD k veD).frm ≤ d ∧ ∀ j, k < j → j < n → ¬ (t.getD j veD).frm ≤ d
  | 0 => .inl ⟨rfl, fun j h => absurd h (Nat.not_lt_zero _)⟩
  | n + 1 => by
    unfold onN
    by_cases h : (t.getD n veD).frm ≤ d
    · rw [if_pos h]
      exact .inr ⟨n, rfl, Nat.lt_succ_self _, h, fun j h1 h2 => absurd h1 (by omega)⟩
    · rw [if_neg h]
      rcases onN_cases t d n with ⟨h1, h2⟩ | ⟨k, h1, h2, h3, h4⟩
      · refine .inl ⟨h1, fun j hj => ?_⟩
        rcases Nat.lt_or_ge j n with hj2 | hj2
        · exact h2 j hj2
        · obtain rfl : j = n := by omega
          exact h
      · refine .inr ⟨k, h1, by omega, h3, fun j hj hj3 => ?_⟩
        rcases Nat.lt_or_ge j n with hj2 | hj2
        · exact h4 j hj hj2
        · obtain rfl : j = n := by omega
          exact h
theorem onN_bd (t : List Ve) (d : Int) (n : Nat) : -1 ≤ onN t d n ∧ onN t d n < n := by
  rcases onN_cases t d n with ⟨h, _⟩ | ⟨k, h, hk, _⟩
  · rw [h]; omega
  · rw [h]; omega
theorem onV_bd (t : List Ve) (d : Int) : -1 ≤ onV t d ∧ onV t d < t.length := onN_bd t d _
theorem onN_skip {t : List Ve} {d : Int} : ∀ (n k : Nat), k ≤ n → (∀ j, k ≤ j → j < n → ¬ (t.getD j veD).frm ≤ d) → onN t d n = onN t d k
  | 0, k, hk, _ => by obtain rfl : k = 0 := by omega
                      rfl
  | n + 1, k, hk, h => by
    rcases Nat.lt_or_ge n k with h1 | h1
    · obtain rfl : k = n + 1 := by omega
      rfl
    · rw [onN, if_neg (h n h1 (Nat.lt_succ_self _))]
      exact onN_skip n k h1 (fun j a b => h j a (by omega))
theorem onV_none {t : List Ve} {d : Int} (h : onV t d < 0) : onV t d = -1 := by have := onV_bd t d; omega
theorem onV_at {t : List Ve} {d : Int} (h : 0 ≤ onV t d) : ∃ k : Nat, onV t d = (k : Int) ∧ k < t.length ∧ (t.getD k veD).frm ≤ d ∧ ∀ j, k < j → j < t.length → ¬ (t.getD j veD).frm ≤ d := by
  rcases onN_cases t d t.length with ⟨h1, _⟩ | h1
  · unfold onV at h; omega
  · exact h1
theorem onV_is {t : List Ve} {d : Int} {k : Nat} (hk : k < t.length) (h1 : (t.getD k veD).frm ≤ d) (h2 : ∀ j, k < j → j < t.length → ¬ (t.getD j veD).frm ≤ d) : onV t d = (k : Int) := by
  unfold onV
  rw [onN_skip t.length (k + 1) (by omega) (fun j a b => h2 j (by omega) b), onN, if_pos h1]
theorem onV_is2 {t : List Ve} (h : areVe t = true) {d : Int} {k : Nat} (hk : k < t.length) (h1 : (t.getD k veD).frm ≤ d) (h2 : k + 1 < t.length → d < (t.getD (k + 1) veD).frm) : onV t d = (k : Int) := by
  refine onV_is hk h1 fun j a b => ?_
  have h3 := h2 (by omega)
  rcases Nat.lt_or_ge (k + 1) j with h4 | h4
  · have := ve_lt h h4 b; omega
  · obtain rfl : j = k + 1 := by omega
    omega
theorem onV_no {t : List Ve} {d : Int} (h : ∀ j, j < t.length → ¬ (t.getD j veD).frm ≤ d) : onV t d = -1 := by
  unfold onV
  rw [onN_skip t.length 0 (Nat.zero_le _) (fun j _ b => h j b), onN]

def dayB (d : Int) : Bool := decide (0 ≤ d ∧ d ≤ 20000)
theorem dayB_iff {d : Int} : dayB d = true ↔ 0 ≤ d ∧ d ≤ 20000 := by simp [dayB]
/-- What each function answers. -/
def onRes (t : List Ve) (d : Int) : Int × Bool := if (areVe t = true ∧ (0 ≤ d ∧ d ≤ 20000)) ∧ 0 ≤ onV t d then (onV t d, true) else (0, false)
def rulesAt (t : List Ve) (k : Int) : List Ru := (t.getD k.toNat veD).rules
theorem rulesAt_nat (t : List Ve) (k : Nat) : rulesAt t (k : Int) = (t.getD k veD).rules := by unfold rulesAt; rw [Int.toNat_natCast]
/-- Versions, a record and a day are valid. -/
def askV (t : List Ve) (r : Rec) (d : Int) : Bool := areVe t && (isRec r && decide (0 ≤ d ∧ d ≤ 20000))
theorem askV_iff {t : List Ve} {r : Rec} {d : Int} : askV t r d = true ↔ areVe t = true ∧ isRec r = true ∧ (0 ≤ d ∧ d ≤ 20000) := by simp [askV]
theorem askV_sch {t : List Ve} {r : Rec} {d : Int} (h : askV t r d = true) {k : Nat} (hk : k < t.length) : askB r (t.getD k veD).rules = true := by
  obtain ⟨h1, h2, _⟩ := askV_iff.1 h
  unfold askB
  rw [h2, (ve_at h1 hk).2.1]
  rfl
def decoRes (t : List Ve) (r : Rec) (d : Int) : Ru × Bool := if askV t r d = true ∧ 0 ≤ onV t d then decRes r (rulesAt t (onV t d)) else (ruD, false)
def dueV (t : List Ve) (r : Rec) (d : Int) : Bool := decide (0 ≤ onV t d ∧ 0 ≤ dueF r (rulesAt t (onV t d)) ∧ dueF r (rulesAt t (onV t d)) ≤ d)
def doRes (t : List Ve) (r : Rec) (d : Int) : Bool × Bool := if askV t r d = true then (dueV t r d, true) else (false, false)
def daysV (t : List Ve) (r : Rec) : List Int := t.map (fun v => dueF r v.rules)
def ddRes (t : List Ve) (r : Rec) : List Int × Bool := if areVe t = true ∧ isRec r = true then (daysV t r, true) else ([], false)
theorem ddRes_len {t : List Ve} {r : Rec} {xs : List Int} {b : Bool} (h : ddRes t r = (xs, b)) : xs.length ≤ t.length := by
  unfold ddRes at h
  split at h
  · obtain ⟨rfl, _⟩ := Prod.mk.inj h; simp [daysV]
  · obtain ⟨rfl, _⟩ := Prod.mk.inj h; simp
theorem daysV_len (t : List Ve) (r : Rec) : (daysV t r).length = t.length := by simp [daysV]
theorem daysV_succ {t : List Ve} {r : Rec} {k : Nat} (h : k < t.length) : daysV (t.take (k + 1)) r = daysV (t.take k) r ++ [dueF r (t.getD k veD).rules] := by
  unfold daysV
  rw [List.take_add_one, List.getElem?_eq_getElem h, getVe_lt h, List.map_append, Option.toList_some, List.map_cons, List.map_nil]
theorem daysV_at {t : List Ve} {r : Rec} {k : Nat} (h : k < t.length) : (daysV t r).getD k 0 = dueF r (t.getD k veD).rules := by
  rw [getVe_lt h]
  simp [daysV, List.getD, h]
theorem dueF_neg {r : Rec} {t : List Ru} (h : ¬ 0 ≤ dueF r t) : dueF r t = -1 := by
  unfold dueF decR at *
  by_cases ho : ∃ u ∈ forRu t r.series, endR r u < 0
  · rw [decF_open _ _ _ ho]
  · have hs : ∀ u ∈ forRu t r.series, ¬ endR r u < 0 := fun u hu hn => ho ⟨u, hu, hn⟩
    obtain ⟨_, _, i3⟩ := decF_shut (forRu t r.series) ruD (-1) hs
    rcases i3 with ⟨_, e⟩ | ⟨e1, e2⟩
    · exact e
    · have := hs _ e1
      omega
/-- The last day on which the i-th version is in force. -/
def lastV (t : List Ve) (i : Nat) : Int := if i + 1 < t.length then (t.getD (i + 1) veD).frm - 1 else 20000
def hitV (t : List Ve) (r : Rec) (i : Nat) : Bool := decide (0 ≤ dueF r (t.getD i veD).rules ∧ dueF r (t.getD i veD).rules ≤ lastV t i)
theorem hitV_iff {t : List Ve} {r : Rec} {i : Nat} : hitV t r i = true ↔ 0 ≤ dueF r (t.getD i veD).rules ∧ dueF r (t.getD i veD).rules ≤ lastV t i := by simp [hitV]
def firV (t : List Ve) (r : Rec) : Option Nat := (List.range t.length).find? (hitV t r)
theorem firV_some {t : List Ve} {r : Rec} {k : Nat} (hk : k < t.length) (h1 : hitV t r k = true) (h2 : ∀ j, j < k → hitV t r j = false) : firV t r = some k := by
  unfold firV
  rw [List.find?_range_eq_some]
  refine ⟨h1, by simpa using hk, fun j hj => by simp [h2 j hj]⟩
theorem firV_none {t : List Ve} {r : Rec} (h : ∀ j, j < t.length → hitV t r j = false) : firV t r = none := by
  unfold firV
  rw [List.find?_eq_none]
  intro j hj
  rw [h j (by simpa using hj)]
  simp
theorem firV_at {t : List Ve} {r : Rec} {k : Nat} (h : firV t r = some k) : k < t.length ∧ hitV t r k = true ∧ ∀ j, j < k → hitV t r j = false := by
  unfold firV at h
  rw [List.find?_range_eq_some] at h
  exact ⟨by simpa using h.2.1, h.1, fun j hj => by simpa using h.2.2 j hj⟩
def firRes (t : List Ve) (r : Rec) : Int × Bool :=
  if areVe t = true ∧ isRec r = true then (match firV t r with | some k => (max (dueF r (t.getD k veD).rules) (t.getD k veD).frm, true) | none => (0, false)) else (0, false)
theorem firRes_no {t : List Ve} {r : Rec} (h : ¬ (areVe t = true ∧ isRec r = true)) : firRes t r = (0, false) := by unfold firRes; rw [if_neg h]
theorem firRes_none {t : List Ve} {r : Rec} (h : firV t r = none) : firRes t r = (0, false) := by
  unfold firRes
  split
  · rw [h]
  · rfl
theorem firRes_some {t : List Ve} {r : Rec} {k : Nat} (h : areVe t = true ∧ isRec r = true) (hf : firV t r = some k) : firRes t r = (max (dueF r (t.getD k veD).rules) (t.getD k veD).frm, true) := by unfold firRes; rw [if_pos h, hf]
theorem lastV_ge {t : List Ve} (h : areVe t = true) {i : Nat} (hi : i < t.length) : (t.getD i veD).frm ≤ lastV t i ∧ lastV t i ≤ 20000 := by
  unfold lastV
  split
  · rename_i h2
    have := ve_lt h (show i < i + 1 by omega) h2
    have := (ve_at h h2).1
    omega
  · exact ⟨(ve_at h hi).1.2, Int.le_refl _⟩
/-- What the program asks of the i-th version. -/
theorem hit_on {t : List Ve} {r : Rec} (h : areVe t = true) {i : Nat} (hi : i < t.length) {f : Int} (hf : max (dueF r (t.getD i veD).rules) (t.getD i veD).frm = f) :
    hitV t r i = true ↔ onRes t f = ((i : Int), true) ∧ dueF r (t.getD i veD).rules ≠ -1 := by
  have hl := lastV_ge h hi
  have h0 := (ve_at h hi).1
  have hm : (t.getD i veD).frm ≤ f ∧ dueF r (t.getD i veD).rules ≤ f ∧ (f = dueF r (t.getD i veD).rules ∨ f = (t.getD i veD).frm) := by omega
  rw [hitV_iff]
  constructor
  · rintro ⟨h1, h2⟩
    refine ⟨?_, by omega⟩
    have hfl : f ≤ lastV t i := by omega
    have ho : onV t f = (i : Int) := onV_is2 h hi hm.1 (fun h3 => by
      unfold lastV at hfl
      rw [if_pos h3] at hfl
      omega)
    unfold onRes
    rw [ho, if_pos ⟨⟨h, by omega⟩, by omega⟩]
  · rintro ⟨h1, h2⟩
    refine ⟨?_, ?_⟩
    · by_cases h3 : 0 ≤ dueF r (t.getD i veD).rules
      · exact h3
      · exact absurd (dueF_neg h3) h2
    · unfold onRes at h1
      by_cases hc : (areVe t = true ∧ (0 ≤ f ∧ f ≤ 20000)) ∧ 0 ≤ onV t f
      · rw [if_pos hc] at h1
        obtain ⟨k, e1, e2, e3, e4⟩ := onV_at hc.2
        have e5 : k = i := by have := (Prod.mk.inj h1).1; omega
        subst e5
        unfold lastV
        split
        · rename_i h3
          have := e4 (k + 1) (by omega) h3
          omega
        · omega
      · rw [if_neg hc] at h1
        have := (Prod.mk.inj h1).2
        cases this
/-- The series, up to n, in which two schedules are not the same. -/
def chgN (a b : List Ru) : Nat → List Int
  | 0 => []
  | n + 1 => if forRu a ((n + 1 : Nat) : Int) = forRu b ((n + 1 : Nat) : Int) then chgN a b n else chgN a b n ++ [((n + 1 : Nat) : Int)]
theorem chgN_len (a b : List Ru) : ∀ n, (chgN a b n).length ≤ n
  | 0 => Nat.le_refl _
  | n + 1 => by
    have := chgN_len a b n
    unfold chgN
    split
    · omega
    · simp; omega
theorem chgN_mem {a b : List Ru} {x : Int} : ∀ {n}, x ∈ chgN a b n → (1 ≤ x ∧ x ≤ n) ∧ forRu a x ≠ forRu b x
  | 0, h => by simp [chgN] at h
  | n + 1, h => by
    unfold chgN at h
    split at h
    · have := chgN_mem h; exact ⟨by omega, this.2⟩
    · rename_i hn
      rcases List.mem_append.1 h with h | h
      · have := chgN_mem h; exact ⟨by omega, this.2⟩
      · rw [List.mem_singleton.1 h]; exact ⟨by omega, hn⟩
def chgRes (t : List Ve) (k : Int) : List Int × Bool := if areVe t = true ∧ (1 ≤ k ∧ k < t.length) then (chgN (rulesAt t (k - 1)) (rulesAt t k) 99, true) else ([], false)
theorem chgRes_len {t : List Ve} {k : Int} {xs : List Int} {b : Bool} (h : chgRes t k = (xs, b)) : xs.length ≤ 99 := by
  unfold chgRes at h
  split at h
  · obtain ⟨rfl, _⟩ := Prod.mk.inj h; exact chgN_len _ _ _
  · obtain ⟨rfl, _⟩ := Prod.mk.inj h; simp

/-- A version put. -/
def putVe (t : List Ve) (v : Ve) : List Ve := t.filter (fun x => decide (x.frm < v.frm)) ++ v :: t.filter (fun x => decide (v.frm < x.frm))
def pvRes (t : List Ve) (v : Ve) : List Ve × Bool := if areVe t = true ∧ areVe (putVe t v) = true then (putVe t v, true) else ([], false)
theorem putVe_len (t : List Ve) (v : Ve) : (putVe t v).length ≤ t.length + 1 := by
  have h : ∀ t : List Ve, (t.filter (fun x => decide (x.frm < v.frm))).length + (t.filter (fun x => decide (v.frm < x.frm))).length ≤ t.length := by
    intro t
    induction t with
    | nil => simp
    | cons a l ih =>
      simp only [List.filter_cons]
      split <;> split <;> simp_all <;> omega
  have := h t
  simp only [putVe, List.length_append, List.length_cons]
  omega
theorem pvRes_yes {t : List Ve} {v : Ve} {xs : List Ve} {b : Bool} (h : pvRes t v = (xs, b)) (h1 : areVe t = true) (h2 : areVe (putVe t v) = true) : xs = putVe t v ∧ b = true := by
  unfold pvRes at h
  rw [if_pos ⟨h1, h2⟩] at h
  obtain ⟨rfl, rfl⟩ := Prod.mk.inj h
  exact ⟨rfl, rfl⟩
theorem pvRes_no {t : List Ve} {v : Ve} {xs : List Ve} {b : Bool} (h : pvRes t v = (xs, b)) (h1 : areVe t = false ∨ areVe (putVe t v) = false) : xs = [] ∧ b = false := by
  unfold pvRes at h
  rw [if_neg (fun e => by rcases h1 with q | q <;> simp [q] at e)] at h
  obtain ⟨rfl, rfl⟩ := Prod.mk.inj h
  exact ⟨rfl, rfl⟩
theorem pve_mem (t : List Ve) (v : Ve) : v ∈ putVe t v := by simp [putVe]
/-- One that is no version by itself makes no versions. -/
theorem pve_one {t : List Ve} {v : Ve} (h : areVe [v] = false) : areVe (putVe t v) = false := by
  rcases hb : areVe (putVe t v) with _ | _
  · rfl
  · obtain ⟨i, hi, e⟩ := List.getElem_of_mem (pve_mem t v)
    have h1 := ve_at hb hi
    rw [getVe_lt hi, e] at h1
    have : areVe [v] = true := by
      refine ve_all (by simp) (upto_true fun j hj => ?_)
      obtain rfl : j = 0 := by simp at hj; omega
      refine (veAt_iff (v := v) (by simp)).2 ⟨h1.1, h1.2.1, ?_⟩
      simp only [prevV]
      omega
    rw [h] at this; cases this
theorem pve_same {t : List Ve} {v : Ve} {p : Nat} (h : areVe t = true) (hp : p < t.length) (e : (t.getD p veD).frm = v.frm) : putVe t v = t.take p ++ v :: t.drop (p + 1) := by
  unfold putVe
  rw [filter_take t p (by omega) (fun j hj h2 => by have := ve_lt h h2 hp; rw [getVe_lt hj] at this; simp; omega) (fun j hj h2 => by
      rcases Nat.lt_or_ge p j with h3 | h3
      · have := ve_lt h h3 hj; rw [getVe_lt hj] at this; simp; omega
      · obtain rfl : j = p := by omega
        rw [getVe_lt hj] at e; simp; omega),
    filter_drop t (p + 1) (by omega) (fun j hj h2 => by
      rcases Nat.lt_or_ge j p with h3 | h3
      · have := ve_lt h h3 hp; rw [getVe_lt hj] at this; simp; omega
      · obtain rfl : j = p := by omega
        rw [getVe_lt hj] at e; simp; omega) (fun j hj h2 => by have := ve_lt h (show p < j by omega) hj; rw [getVe_lt hj] at this; simp; omega)]
theorem pve_new {t : List Ve} {v : Ve} {p : Nat} (h : areVe t = true) (hp : p ≤ t.length) (h1 : ∀ j, j < p → (t.getD j veD).frm < v.frm) (h2 : ∀ j, p ≤ j → j < t.length → v.frm < (t.getD j veD).frm) : putVe t v = t.take p ++ v :: t.drop p := by
  unfold putVe
  rw [filter_take t p hp (fun j hj h3 => by have := h1 j h3; rw [getVe_lt hj] at this; simp; omega) (fun j hj h3 => by have := h2 j h3 hj; rw [getVe_lt hj] at this; simp; omega),
    filter_drop t p hp (fun j hj h3 => by have := h1 j h3; rw [getVe_lt hj] at this; simp; omega) (fun j hj h3 => by have := h2 j h3 hj; rw [getVe_lt hj] at this; simp; omega)]

theorem decRes_of {r : Rec} {t : List Ru} {Q : Ru} {D : Int} (ha : askB r t = true) (hdec : decR r (forRu t r.series) = (Q, D)) : decRes r t = (Q, decide (0 ≤ D)) := by
  have hrf : ruleF r t = Q := by unfold ruleF; rw [hdec]
  have hdf : dueF r t = D := by unfold dueF; rw [hdec]
  unfold decRes
  by_cases hD : D < 0
  · rw [setF_no (.inr (by rw [hdf]; exact hD)), decide_eq_false (by omega)]
    have h2 : ¬ 0 ≤ (decR r (forRu t r.series)).2 := by rw [hdec]; simp only; omega
    rw [dec_told] at h2
    have hq : Q = ruD := by
      rcases hus : forRu t r.series with _ | ⟨u, us⟩
      · rw [hus] at hdec
        exact (Prod.mk.inj hdec).1.symm
      · have h3 : ∃ u ∈ forRu t r.series, endR r u < 0 := by
          rcases Classical.em (∃ u ∈ forRu t r.series, endR r u < 0) with h | h
          · exact h
          · exact absurd ⟨by rw [hus]; simp, fun u hu hl => h ⟨u, hu, hl⟩⟩ h2
        unfold decR at hdec
        rw [decF_open _ _ _ h3] at hdec
        exact (Prod.mk.inj hdec).1.symm
    rw [hq]
  · rw [setF_yes ha (by rw [hdf]; omega), hrf, decide_eq_true (by omega)]
def wNone : ByteArray := ⟨#[110, 111, 110, 101]⟩
def wSeries : ByteArray := ⟨#[115, 101, 114, 105, 101, 115]⟩
def wEvent : ByteArray := ⟨#[101, 118, 101, 110, 116]⟩
def wEarly : ByteArray := ⟨#[101, 97, 114, 108, 121]⟩
def wDue : ByteArray := ⟨#[100, 117, 101]⟩
/-- Why, in a schedule. -/
def whyR (r : Rec) (t : List Ru) (d : Int) : ByteArray := if (forRu t r.series).length = 0 then wSeries else if dueF r t < 0 then wEvent else if d < dueF r t then wEarly else wDue
def whyV (t : List Ve) (r : Rec) (d : Int) : ByteArray := if onV t d < 0 then wNone else whyR r (rulesAt t (onV t d)) d
def whyRes (t : List Ve) (r : Rec) (d : Int) : ByteArray × Bool := if askV t r d = true then (whyV t r d, true) else (⟨#[]⟩, false)
theorem whyR_due {r : Rec} {t : List Ru} {d : Int} : whyR r t d = wDue ↔ 0 ≤ dueF r t ∧ dueF r t ≤ d := by
  unfold whyR
  split
  · rename_i h
    have : ¬ 0 ≤ dueF r t := fun e => by
      have := (dec_told (us := forRu t r.series)).1 e
      exact this.1 (List.length_eq_zero_iff.1 h)
    simp [wSeries, wDue]; omega
  · split
    · simp [wEvent, wDue]; omega
    · split
      · simp [wEarly, wDue]; omega
      · simp; omega
theorem whyV_due {t : List Ve} {r : Rec} {d : Int} : whyV t r d = wDue ↔ dueV t r d = true := by
  unfold whyV dueV
  rw [decide_eq_true_eq]
  split
  · simp [wNone, wDue]; omega
  · rw [whyR_due]; omega
theorem do_why (t : List Ve) (r : Rec) (d : Int) : doRes t r d = (decide ((whyRes t r d).1 = wDue), (whyRes t r d).2) := by
  unfold doRes whyRes
  split
  · simp only
    rcases hb : dueV t r d with _ | _
    · rw [decide_eq_false (fun e => by rw [whyV_due, hb] at e; cases e)]
    · rw [decide_eq_true (whyV_due.2 hb)]
  · simp [wDue]
/-- Why, by the ends of the periods. -/
theorem why_none {r : Rec} {t : List Ru} {d : Int} (h : (endsF r t).length = 0) : whyR r t d = wSeries := by
  unfold whyR endsF at *
  rw [List.length_map] at h
  rw [if_pos h]
theorem why_event {r : Rec} {t : List Ru} {d : Int} (hr : isRec r = true) (ht : isSch t = true) (h : ¬ (endsF r t).length = 0) (ho : (-1 : Int) ∈ endsF r t) : whyR r t d = wEvent := by
  have h2 : ¬ (forRu t r.series).length = 0 := by unfold endsF at h; rwa [List.length_map] at h
  obtain ⟨u, hu, hn⟩ := (open_mem hr ht).1 ho
  have h3 : dueF r t < 0 := by
    rcases Int.lt_or_le (dueF r t) 0 with h' | h'
    · exact h'
    · exact absurd hn ((dec_told (us := forRu t r.series)).1 h' |>.2 u hu)
  unfold whyR
  rw [if_neg h2, if_pos h3]
theorem why_told {r : Rec} {t : List Ru} {d : Int} (hr : isRec r = true) (ht : isSch t = true) (h : ¬ (endsF r t).length = 0) (ho : ¬ (-1 : Int) ∈ endsF r t) : 0 ≤ dueF r t ∧ whyR r t d = (if d < dueF r t then wEarly else wDue) := by
  have h2 : ¬ (forRu t r.series).length = 0 := by unfold endsF at h; rwa [List.length_map] at h
  have h3 : 0 ≤ dueF r t := (dec_told (us := forRu t r.series)).2 ⟨fun e => h2 (by rw [e]; rfl), fun u hu hn => ho ((open_mem hr ht).2 ⟨u, hu, hn⟩)⟩
  refine ⟨h3, ?_⟩
  unfold whyR
  rw [if_neg h2, if_neg (by omega)]
end Go.Proofs.Ytmjeaciacgeioaa
