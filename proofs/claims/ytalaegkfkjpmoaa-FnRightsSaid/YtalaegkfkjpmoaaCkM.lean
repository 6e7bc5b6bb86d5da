/- What a clerk and a list of clerks are, and what the functions of chapter 11 answer, as plain mathematics. No program is named here. -/
import Derived.Test.YtalaegkfkjpmoaaUpto
import Derived.Test.YtalaegkfkjpmoaaWordM
import Derived.Laws.BitsLemmas
namespace Go.Proofs.Ytalaegkfkjpmoaa
set_option linter.unusedVariables false
open Go

structure Ck where
  id : Int
  name : ByteArray
  rights : Int
  frm : Int
  til : Int
  stands : Int
  deriving DecidableEq
def ckD : Ck := ⟨0, ⟨#[]⟩, 0, 0, 0, 0⟩
theorem getCk_lt {xs : List Ck} {i : Nat} (h : i < xs.length) : xs.getD i ckD = xs[i] := by simp [List.getD, List.getElem?_eq_getElem h]
/-- All rights that are needed are there. -/
def hasR (r n : Int) : Bool := decide (bits .and .i64 r n = n)
theorem hasR_iff {r n : Int} : hasR r n = true ↔ bits .and .i64 r n = n := by simp [hasR]
def ckOne (x : Ck) : Bool := decide (1 ≤ x.id ∧ x.id ≤ 99) && (isWord x.name && (decide (0 ≤ x.rights ∧ x.rights ≤ 15) && (!hasR x.rights 10 && (decide (0 ≤ x.til ∧ x.til ≤ 20000) && (decide (0 ≤ x.frm ∧ x.frm ≤ x.til) && (decide (0 ≤ x.stands ∧ x.stands ≤ 99) && decide (¬ x.stands = x.id)))))))
theorem ckOne_iff {x : Ck} : ckOne x = true ↔ (1 ≤ x.id ∧ x.id ≤ 99) ∧ isWord x.name = true ∧ (0 ≤ x.rights ∧ x.rights ≤ 15) ∧ hasR x.rights 10 = false ∧ (0 ≤ x.til ∧ x.til ≤ 20000) ∧ (0 ≤ x.frm ∧ x.frm ≤ x.til) ∧ (0 ≤ x.stands ∧ x.stands ≤ 99) ∧ ¬ x.stands = x.id := by
  simp only [ckOne, Bool.and_eq_true, decide_eq_true_eq, Bool.not_eq_true']
/-- The place of a clerk, or the length. -/
def ckF (t : List Ck) (id : Int) : Nat := t.findIdx (fun x => decide (x.id = id))
theorem ckF_le (t : List Ck) (id : Int) : ckF t id ≤ t.length := List.findIdx_le_length
theorem ckF_hit {t : List Ck} {id : Int} (h : ckF t id < t.length) : (t.getD (ckF t id) ckD).id = id := by
  rw [getCk_lt h]
  exact of_decide_eq_true (List.findIdx_getElem (p := fun x : Ck => decide (x.id = id)) (xs := t) (w := h))
theorem ckF_is {t : List Ck} {id : Int} {i : Nat} (hi : i < t.length) (h1 : ∀ j, j < i → ¬ (t.getD j ckD).id = id) (h2 : (t.getD i ckD).id = id) : ckF t id = i := by
  unfold ckF
  rw [List.findIdx_eq hi]
  refine ⟨by rw [getCk_lt hi] at h2; exact decide_eq_true h2, fun j hj => ?_⟩
  have := h1 j hj
  rw [getCk_lt (by omega)] at this
  exact decide_eq_false this
theorem ckF_none {t : List Ck} {id : Int} (h : ∀ j, j < t.length → ¬ (t.getD j ckD).id = id) : ckF t id = t.length := by
  unfold ckF
  rw [List.findIdx_eq_length]
  intro f hf
  obtain ⟨j, hj, rfl⟩ := List.getElem_of_mem hf
  have := h j hj
  rw [getCk_lt hj] at this
  exact decide_eq_false this
theorem ckF_not {t : List Ck} {id : Int} (h : ¬ ckF t id < t.length) {j : Nat} (hj : j < t.length) : ¬ (t.getD j ckD).id = id := by
  intro he
  apply h
  unfold ckF
  rw [List.findIdx_lt_length]
  exact ⟨t[j], List.getElem_mem hj, by rw [← getCk_lt hj]; exact decide_eq_true he⟩
theorem ckF_lt_of {t : List Ck} {id : Int} {j : Nat} (hj : j < t.length) (he : (t.getD j ckD).id = id) : ckF t id < t.length := by
  by_cases h : ckF t id < t.length
  · exact h
  · exact absurd he (ckF_not h hj)
/-- The place of a clerk, or -1. -/
def ckI (t : List Ck) (id : Int) : Int := if ckF t id < t.length then (ckF t id : Int) else -1
theorem ckI_yes {t : List Ck} {id : Int} (h : ckF t id < t.length) : ckI t id = (ckF t id : Int) := by unfold ckI; rw [if_pos h]
theorem ckI_no {t : List Ck} {id : Int} (h : ¬ ckF t id < t.length) : ckI t id = -1 := by unfold ckI; rw [if_neg h]
theorem ckI_is {t : List Ck} {id : Int} {i : Nat} (hi : i < t.length) (h1 : ∀ j, j < i → ¬ (t.getD j ckD).id = id) (h2 : (t.getD i ckD).id = id) : ckI t id = (i : Int) := by
  have := ckF_is hi h1 h2
  rw [ckI_yes (by omega), this]
theorem ckI_none {t : List Ck} {id : Int} (h : ∀ j, j < t.length → ¬ (t.getD j ckD).id = id) : ckI t id = -1 := ckI_no (by rw [ckF_none h]; omega)
def prevCk (t : List Ck) : Nat → Int
  | 0 => 0
  | j + 1 => (t.getD j ckD).id
/-- The one for whom x stands in is there and stands in for nobody. -/
def stOk (t : List Ck) (x : Ck) : Bool := decide (x.stands = 0) || (decide (ckF t x.stands < t.length) && decide ((t.getD (ckF t x.stands) ckD).stands = 0))
theorem stOk_iff {t : List Ck} {x : Ck} : stOk t x = true ↔ x.stands = 0 ∨ (ckF t x.stands < t.length ∧ (t.getD (ckF t x.stands) ckD).stands = 0) := by simp [stOk]
def ckAtB (t : List Ck) (i : Nat) : Bool := ckOne (t.getD i ckD) && (decide (prevCk t i < (t.getD i ckD).id) && stOk t (t.getD i ckD))
def areCk (t : List Ck) : Bool := decide (t.length ≤ 8) && upto (ckAtB t) t.length
theorem ckAt_iff {t : List Ck} {i : Nat} {x : Ck} (hx : t.getD i ckD = x) : ckAtB t i = true ↔ ckOne x = true ∧ prevCk t i < x.id ∧ stOk t x = true := by
  subst hx
  simp only [ckAtB, Bool.and_eq_true, decide_eq_true_eq]
theorem ck_long {t : List Ck} (h : ¬ t.length ≤ 8) : areCk t = false := by unfold areCk; rw [decide_eq_false h]; rfl
theorem notCk {t : List Ck} {k : Nat} (hk : k < t.length) (h : ¬ ckAtB t k = true) : areCk t = false := by unfold areCk; rw [upto_false hk (by simpa using h)]; simp
theorem ck_upto {t : List Ck} (hu : upto (ckAtB t) t.length = true) : areCk t = decide (t.length ≤ 8) := by unfold areCk; rw [hu]; simp
theorem areCk_iff {t : List Ck} : areCk t = true ↔ t.length ≤ 8 ∧ ∀ i, i < t.length → ckAtB t i = true := by simp [areCk, upto_iff]
theorem ck_len {t : List Ck} (h : areCk t = true) : t.length ≤ 8 := (areCk_iff.1 h).1
theorem ck_at {t : List Ck} (h : areCk t = true) {i : Nat} (hi : i < t.length) : ckOne (t.getD i ckD) = true ∧ prevCk t i < (t.getD i ckD).id ∧ stOk t (t.getD i ckD) = true := (ckAt_iff rfl).1 ((areCk_iff.1 h).2 i hi)
theorem ck_first {x : Ck} (h : ckOne x = true) : 0 < x.id := by have := (ckOne_iff.1 h).1; omega
/-- Nobody has the number of nobody, and whoever stands in does so for one of the list. -/
theorem ck_nobody {t : List Ck} (h : areCk t = true) : ¬ ckF t 0 < t.length := by
  intro hl
  have h1 := ckF_hit hl
  have h2 := ckOne_iff.1 (ck_at h hl).1
  omega
theorem ck_stands {t : List Ck} (h : areCk t = true) {i : Nat} (hi : i < t.length) : (ckF t (t.getD i ckD).stands < t.length) ↔ 0 < (t.getD i ckD).stands := by
  have h1 := ckOne_iff.1 (ck_at h hi).1
  have h3 := stOk_iff.1 (ck_at h hi).2.2
  constructor
  · intro hl
    rcases Int.lt_or_le 0 (t.getD i ckD).stands with h4 | h4
    · exact h4
    · have h5 : (t.getD i ckD).stands = 0 := by omega
      rw [h5] at hl
      exact absurd hl (ck_nobody h)
  · intro hp
    rcases h3 with h3 | h3
    · omega
    · exact h3.1
theorem ck_sorted {t : List Ck} (h : areCk t = true) : ∀ (d i : Nat), i + d + 1 < t.length → (t.getD i ckD).id < (t.getD (i + d + 1) ckD).id
  | 0, i, hd => (ck_at h (i := i + 1) (by omega)).2.1
  | d + 1, i, hd => Int.lt_trans (ck_sorted h d i (by omega)) (ck_at h (i := i + d + 1 + 1) (by omega)).2.1
theorem ck_lt {t : List Ck} (h : areCk t = true) {i j : Nat} (hij : i < j) (hj : j < t.length) : (t.getD i ckD).id < (t.getD j ckD).id := by
  have := ck_sorted h (j - i - 1) i (by omega)
  rwa [show i + (j - i - 1) + 1 = j by omega] at this
theorem ckF_self {t : List Ck} (h : areCk t = true) {i : Nat} (hi : i < t.length) : ckF t (t.getD i ckD).id = i :=
  ckF_is hi (fun j hj => by have := ck_lt h hj hi; omega) rfl
def onC (x : Ck) (d : Int) : Bool := decide (x.frm ≤ d ∧ d ≤ x.til)
/-- The rights that a clerk may use on a day. -/
def rightsC (t : List Ck) (x : Ck) (d : Int) : Int :=
  if onC x d = false then 0
  else if ¬ ckF t x.stands < t.length ∨ onC (t.getD (ckF t x.stands) ckD) d = true then x.rights
  else if hasR (bits .or .i64 x.rights (t.getD (ckF t x.stands) ckD).rights) 10 = true then x.rights
  else bits .or .i64 x.rights (t.getD (ckF t x.stands) ckD).rights
theorem rights_off {t : List Ck} {x : Ck} {d : Int} (h : onC x d = false) : rightsC t x d = 0 := by unfold rightsC; rw [if_pos h]
theorem rights_own {t : List Ck} {x : Ck} {d : Int} (h : onC x d = true) (h2 : ¬ ckF t x.stands < t.length ∨ onC (t.getD (ckF t x.stands) ckD) d = true) : rightsC t x d = x.rights := by
  unfold rightsC; rw [if_neg (by rw [h]; simp), if_pos h2]
theorem rights_ex {t : List Ck} {x : Ck} {d : Int} (h : onC x d = true) (h2 : ckF t x.stands < t.length) (h3 : onC (t.getD (ckF t x.stands) ckD) d = false) (h4 : hasR (bits .or .i64 x.rights (t.getD (ckF t x.stands) ckD).rights) 10 = true) : rightsC t x d = x.rights := by
  unfold rightsC; rw [if_neg (by rw [h]; simp), if_neg (by rw [h3]; intro hh; rcases hh with hh | hh; exact hh h2; cases hh), if_pos h4]
theorem rights_both {t : List Ck} {x : Ck} {d : Int} (h : onC x d = true) (h2 : ckF t x.stands < t.length) (h3 : onC (t.getD (ckF t x.stands) ckD) d = false) (h4 : hasR (bits .or .i64 x.rights (t.getD (ckF t x.stands) ckD).rights) 10 = false) : rightsC t x d = bits .or .i64 x.rights (t.getD (ckF t x.stands) ckD).rights := by
  unfold rightsC; rw [if_neg (by rw [h]; simp), if_neg (by rw [h3]; intro hh; rcases hh with hh | hh; exact hh h2; cases hh), if_neg (by rw [h4]; simp)]
def dayB (d : Int) : Bool := decide (0 ≤ d ∧ d ≤ 20000)
def sumB (r : Int) : Bool := decide (1 ≤ r ∧ r ≤ 15)
def rOnRes (t : List Ck) (x d : Int) : Int × Bool := if areCk t = true ∧ ckF t x < t.length ∧ dayB d = true then (rightsC t (t.getD (ckF t x) ckD) d, true) else (0, false)
def mayRes (t : List Ck) (x r d : Int) : Bool × Bool := if (rOnRes t x d).2 = true ∧ sumB r = true then (hasR (rOnRes t x d).1 r, true) else (false, false)
def whoF (t : List Ck) (r d : Int) (l : List Ck) : List Int := (l.filter (fun x => hasR (rightsC t x d) r)).map (·.id)
theorem whoF_succ {t : List Ck} {r d : Int} {k : Nat} (h : k < t.length) : whoF t r d (t.take (k + 1)) = if hasR (rightsC t (t.getD k ckD) d) r = true then whoF t r d (t.take k) ++ [(t.getD k ckD).id] else whoF t r d (t.take k) := by
  unfold whoF
  rw [List.take_add_one, List.getElem?_eq_getElem h, getCk_lt h, List.filter_append, List.map_append]
  by_cases hb : hasR (rightsC t t[k] d) r = true <;> simp [hb]
theorem whoF_yes {t : List Ck} {r d : Int} {k : Nat} (h : k < t.length) (hb : hasR (rightsC t (t.getD k ckD) d) r = true) : whoF t r d (t.take (k + 1)) = whoF t r d (t.take k) ++ [(t.getD k ckD).id] := by rw [whoF_succ h, if_pos hb]
theorem whoF_no {t : List Ck} {r d : Int} {k : Nat} (h : k < t.length) (hb : hasR (rightsC t (t.getD k ckD) d) r = false) : whoF t r d (t.take (k + 1)) = whoF t r d (t.take k) := by rw [whoF_succ h, if_neg (by rw [hb]; simp)]
theorem whoF_len (t : List Ck) (r d : Int) (l : List Ck) : (whoF t r d l).length ≤ l.length := by
  unfold whoF; rw [List.length_map]; exact List.length_filter_le _ _
def whoRes (t : List Ck) (r d : Int) : List Int × Bool := if areCk t = true ∧ sumB r = true ∧ dayB d = true then (whoF t r d t, true) else ([], false)
theorem whoRes_len {t : List Ck} {r d : Int} {xs : List Int} {b : Bool} (h : whoRes t r d = (xs, b)) : xs.length ≤ 8 := by
  unfold whoRes at h
  split at h
  · rename_i hc
    obtain ⟨rfl, _⟩ := Prod.mk.inj h
    exact Nat.le_trans (whoF_len t r d t) (ck_len hc.1)
  · obtain ⟨rfl, _⟩ := Prod.mk.inj h; simp
def pairRes (t : List Ck) (d : Int) : Int × Int × Bool := if areCk t = true ∧ dayB d = true ∧ ¬ whoF t 2 d t = [] ∧ ¬ whoF t 8 d t = [] then ((whoF t 2 d t).headD 0, (whoF t 8 d t).headD 0, true) else (0, 0, false)
def withCk (t : List Ck) (i : Nat) (x : Ck) : List Ck × Bool := if areCk (t.set i x) = true then (t.set i x, true) else ([], false)
theorem withCk_len {t : List Ck} {i : Nat} {x : Ck} {xs : List Ck} {b : Bool} (h : withCk t i x = (xs, b)) : xs.length ≤ t.length := by
  unfold withCk at h
  split at h
  · obtain ⟨rfl, _⟩ := Prod.mk.inj h; simp
  · obtain ⟨rfl, _⟩ := Prod.mk.inj h; simp
def oneR (r : Int) : Bool := decide (r = 1 ∨ r = 2 ∨ r = 4 ∨ r = 8)
def giveRes (t : List Ck) (x r : Int) : List Ck × Bool := if areCk t = true ∧ ckF t x < t.length ∧ oneR r = true then withCk t (ckF t x) { t.getD (ckF t x) ckD with rights := bits .or .i64 (t.getD (ckF t x) ckD).rights r } else ([], false)
def takeRes (t : List Ck) (x r : Int) : List Ck × Bool := if areCk t = true ∧ ckF t x < t.length ∧ oneR r = true ∧ hasR (t.getD (ckF t x) ckD).rights r = true then withCk t (ckF t x) { t.getD (ckF t x) ckD with rights := bits .andNot .i64 (t.getD (ckF t x) ckD).rights r } else ([], false)
def staRes (t : List Ck) (x o : Int) : List Ck × Bool := if areCk t = true ∧ ckF t x < t.length then withCk t (ckF t x) { t.getD (ckF t x) ckD with stands := o } else ([], false)
theorem giveRes_len {t : List Ck} {x r : Int} {xs : List Ck} {b : Bool} (h : giveRes t x r = (xs, b)) : xs.length ≤ t.length := by
  unfold giveRes at h
  split at h
  · exact withCk_len h
  · obtain ⟨rfl, _⟩ := Prod.mk.inj h; simp
theorem takeRes_len {t : List Ck} {x r : Int} {xs : List Ck} {b : Bool} (h : takeRes t x r = (xs, b)) : xs.length ≤ t.length := by
  unfold takeRes at h
  split at h
  · exact withCk_len h
  · obtain ⟨rfl, _⟩ := Prod.mk.inj h; simp
theorem staRes_len {t : List Ck} {x o : Int} {xs : List Ck} {b : Bool} (h : staRes t x o = (xs, b)) : xs.length ≤ t.length := by
  unfold staRes at h
  split at h
  · exact withCk_len h
  · obtain ⟨rfl, _⟩ := Prod.mk.inj h; simp
/-- The days on which nobody may. -/
def daysF (t : List Ck) (r a : Int) (n : Nat) : List Int := ((List.range n).filter (fun (k : Nat) => (whoF t r (a + (k : Int)) t).isEmpty)).map (fun (k : Nat) => a + (k : Int))
theorem daysF_yes {t : List Ck} {r a : Int} {n : Nat} (h : whoF t r (a + (n : Int)) t = []) : daysF t r a (n + 1) = daysF t r a n ++ [a + (n : Int)] := by
  unfold daysF; rw [List.range_succ, List.filter_append, List.map_append]; simp [h]
theorem daysF_no {t : List Ck} {r a : Int} {n : Nat} (h : ¬ whoF t r (a + (n : Int)) t = []) : daysF t r a (n + 1) = daysF t r a n := by
  unfold daysF; rw [List.range_succ, List.filter_append, List.map_append]; simp [h]
theorem daysF_len (t : List Ck) (r a : Int) (n : Nat) : (daysF t r a n).length ≤ n := by
  unfold daysF; rw [List.length_map]
  exact Nat.le_trans (List.length_filter_le _ _) (by simp)
def spanB (a b : Int) : Bool := decide (0 ≤ b ∧ b ≤ 20000) && (decide (0 ≤ a ∧ a ≤ b) && decide (b - a ≤ 200))
theorem spanB_iff {a b : Int} : spanB a b = true ↔ (0 ≤ b ∧ b ≤ 20000) ∧ (0 ≤ a ∧ a ≤ b) ∧ b - a ≤ 200 := by simp [spanB]
def daysRes (t : List Ck) (r a b : Int) : List Int × Bool := if areCk t = true ∧ sumB r = true ∧ spanB a b = true then (daysF t r a (b - a + 1).toNat, true) else ([], false)
theorem daysRes_len {t : List Ck} {r a b : Int} {xs : List Int} {c : Bool} (h : daysRes t r a b = (xs, c)) : xs.length ≤ 201 := by
  unfold daysRes at h
  split at h
  · rename_i hc
    obtain ⟨rfl, _⟩ := Prod.mk.inj h
    have := daysF_len t r a (b - a + 1).toNat
    have := spanB_iff.1 hc.2.2
    omega
  · obtain ⟨rfl, _⟩ := Prod.mk.inj h; simp
/-- A right that is there is taken by a difference. -/
theorem take_all : ∀ (a b : Fin 16), (b.val = 1 ∨ b.val = 2 ∨ b.val = 4 ∨ b.val = 8) → (bits .and .i64 (a.val : Int) (b.val : Int) = (b.val : Int) → bits .andNot .i64 (a.val : Int) (b.val : Int) = (a.val : Int) - (b.val : Int)) ∧ ((bits .and .i64 (a.val : Int) (b.val : Int) = 0) ↔ ¬ bits .and .i64 (a.val : Int) (b.val : Int) = (b.val : Int)) := by decide +kernel
theorem take_is {r n : Int} (hr : 0 ≤ r ∧ r ≤ 15) (hn : oneR n = true) : (hasR r n = true → bits .andNot .i64 r n = r - n) ∧ ((bits .and .i64 r n = 0) ↔ hasR r n = false) := by
  have hn := of_decide_eq_true hn
  have h := take_all ⟨r.toNat, by omega⟩ ⟨n.toNat, by omega⟩ (by simp only; omega)
  simp only at h
  rw [show ((r.toNat : Nat) : Int) = r by omega, show ((n.toNat : Nat) : Int) = n by omega] at h
  refine ⟨fun hh => h.1 (hasR_iff.1 hh), h.2.trans ?_⟩
  rw [← hasR_iff]; simp
theorem rOn_bad {t : List Ck} {x d : Int} (h : areCk t = false) : rOnRes t x d = (0, false) := by unfold rOnRes; rw [if_neg (by rw [h]; simp)]
theorem rOn_no {t : List Ck} {x d : Int} (h : ¬ ckF t x < t.length) : rOnRes t x d = (0, false) := by unfold rOnRes; rw [if_neg (fun hh => h hh.2.1)]
theorem rOn_day {t : List Ck} {x d : Int} (h : dayB d = false) : rOnRes t x d = (0, false) := by unfold rOnRes; rw [if_neg (by rw [h]; simp)]
theorem rOn_yes {t : List Ck} {x d : Int} (h1 : areCk t = true) (h2 : ckF t x < t.length) (h3 : dayB d = true) : rOnRes t x d = (rightsC t (t.getD (ckF t x) ckD) d, true) := by unfold rOnRes; rw [if_pos ⟨h1, h2, h3⟩]
theorem may_is {t : List Ck} {x r d c : Int} {b : Bool} (h : rOnRes t x d = (c, b)) : mayRes t x r d = if b = true ∧ sumB r = true then (hasR c r, true) else (false, false) := by unfold mayRes; rw [h]
theorem who_no {t : List Ck} {r d : Int} (h : ¬ (areCk t = true ∧ sumB r = true ∧ dayB d = true)) : whoRes t r d = ([], false) := by unfold whoRes; rw [if_neg h]
theorem who_yes {t : List Ck} {r d : Int} (h1 : areCk t = true) (h2 : sumB r = true) (h3 : dayB d = true) : whoRes t r d = (whoF t r d t, true) := by unfold whoRes; rw [if_pos ⟨h1, h2, h3⟩]
theorem pair_no {t : List Ck} {d : Int} (h : ¬ (areCk t = true ∧ dayB d = true)) : pairRes t d = (0, 0, false) := by unfold pairRes; rw [if_neg (fun hh => h ⟨hh.1, hh.2.1⟩)]
theorem pair_a {t : List Ck} {d : Int} (h : whoF t 2 d t = []) : pairRes t d = (0, 0, false) := by unfold pairRes; rw [if_neg (fun hh => hh.2.2.1 h)]
theorem pair_b {t : List Ck} {d : Int} (h : whoF t 8 d t = []) : pairRes t d = (0, 0, false) := by unfold pairRes; rw [if_neg (fun hh => hh.2.2.2 h)]
theorem pair_yes {t : List Ck} {d a b : Int} {r s : List Int} (h1 : areCk t = true) (h2 : dayB d = true) (h3 : whoF t 2 d t = a :: r) (h4 : whoF t 8 d t = b :: s) : pairRes t d = (a, b, true) := by unfold pairRes; rw [if_pos ⟨h1, h2, by rw [h3]; simp, by rw [h4]; simp⟩, h3, h4]; rfl
theorem days_no {t : List Ck} {r a b : Int} (h : ¬ (areCk t = true ∧ sumB r = true ∧ spanB a b = true)) : daysRes t r a b = ([], false) := by unfold daysRes; rw [if_neg h]
theorem days_yes {t : List Ck} {r a b : Int} (h1 : areCk t = true) (h2 : sumB r = true) (h3 : spanB a b = true) : daysRes t r a b = (daysF t r a (b - a + 1).toNat, true) := by unfold daysRes; rw [if_pos ⟨h1, h2, h3⟩]
theorem give_no {t : List Ck} {x r : Int} (h : ¬ (areCk t = true ∧ ckF t x < t.length ∧ oneR r = true)) : giveRes t x r = ([], false) := by unfold giveRes; rw [if_neg h]
theorem give_yes {t : List Ck} {x r : Int} {P : Nat} {f : Ck} (h1 : areCk t = true) (h2 : P < t.length) (hP : ckF t x = P) (hf : t.getD P ckD = f) (h3 : oneR r = true) : giveRes t x r = withCk t P { f with rights := bits .or .i64 f.rights r } := by subst hP; subst hf; unfold giveRes; rw [if_pos ⟨h1, h2, h3⟩]
theorem take_no {t : List Ck} {x r : Int} (h : ¬ (areCk t = true ∧ ckF t x < t.length ∧ oneR r = true ∧ hasR (t.getD (ckF t x) ckD).rights r = true)) : takeRes t x r = ([], false) := by unfold takeRes; rw [if_neg h]
theorem take_yes {t : List Ck} {x r : Int} {P : Nat} {f : Ck} (h1 : areCk t = true) (h2 : P < t.length) (hP : ckF t x = P) (hf : t.getD P ckD = f) (h3 : oneR r = true) (h4 : hasR f.rights r = true) : takeRes t x r = withCk t P { f with rights := bits .andNot .i64 f.rights r } := by subst hP; subst hf; unfold takeRes; rw [if_pos ⟨h1, h2, h3, h4⟩]
theorem sta_no {t : List Ck} {x o : Int} (h : ¬ (areCk t = true ∧ ckF t x < t.length)) : staRes t x o = ([], false) := by unfold staRes; rw [if_neg h]
theorem sta_yes {t : List Ck} {x o : Int} {P : Nat} {f : Ck} (h1 : areCk t = true) (h2 : P < t.length) (hP : ckF t x = P) (hf : t.getD P ckD = f) : staRes t x o = withCk t P { f with stands := o } := by subst hP; subst hf; unfold staRes; rw [if_pos ⟨h1, h2⟩]
theorem or_all : ∀ (a b : Fin 16), 0 ≤ bits .or .i64 (a.val : Int) (b.val : Int) ∧ bits .or .i64 (a.val : Int) (b.val : Int) ≤ 15 := by decide +kernel
theorem or_in {r n : Int} (hr : 0 ≤ r ∧ r ≤ 15) (hn : 0 ≤ n ∧ n ≤ 15) : 0 ≤ bits .or .i64 r n ∧ bits .or .i64 r n ≤ 15 := by
  have h := or_all ⟨r.toNat, by omega⟩ ⟨n.toNat, by omega⟩
  simp only at h
  rwa [show ((r.toNat : Nat) : Int) = r by omega, show ((n.toNat : Nat) : Int) = n by omega] at h
theorem oneR_in {n : Int} (hn : oneR n = true) : 0 ≤ n ∧ n ≤ 15 := by have := of_decide_eq_true hn; omega
end Go.Proofs.Ytalaegkfkjpmoaa
