/- TgN, TgC, TgU, Cmp, TgI, TgS, TgD, AppK, TgP0, TgE, TgP, Has, IntsN, OwnI, TgR, Contains, TgQ, in one text. -/
import Derived.Test.YtenjajcknmfhfaaTgM
import Derived.Lib.SlicesCompact
import Derived.Test.YtenjajcknmfhfaaInts
import Derived.Test.YtenjajcknmfhfaaCells
import Derived.Deep.RegionHeld3
import Derived.Deep.RegionLawGrows
import Derived.WalkSmall
import Derived.Test.YtenjajcknmfhfaaTyTg
import Derived.Test.YtenjajcknmfhfaaBx
import Derived.Lib.QuietBelow
import Derived.BigQuiet
import Derived.WalkSpells
import Derived.StillTailTactics
import Derived.Test.YtenjajcknmfhfaaRuS
import Derived.Test.YtenjajcknmfhfaaL1In
import Derived.Test.YtenjajcknmfhfaaSlTg
import Derived.Test.YtenjajcknmfhfaaPuts
import Derived.Maps.AppendAt
import Derived.Maps.Own
import Derived.Maps.OwnSet
import Derived.Deep.CutRange
import Derived.Lib.Hide
import Derived.Test.YtenjajcknmfhfaaOpen
namespace Go.Proofs.Ytenjajcknmfhfaa
set_option linter.unusedVariables false

theorem rising_eqT : ∀ (l m : List Int), l.Pairwise (· < ·) → m.Pairwise (· < ·) → (∀ x, x ∈ l ↔ x ∈ m) → l = m
  | [], [], _, _, _ => rfl
  | [], b :: m, _, _, h => absurd ((h b).2 (by simp)) (by simp)
  | a :: l, [], _, _, h => absurd ((h a).1 (by simp)) (by simp)
  | a :: l, b :: m, hl, hm, h => by
    rw [List.pairwise_cons] at hl hm
    have hab : a = b := by
      rcases List.mem_cons.1 ((h a).1 (by simp)) with e | e
      · exact e
      · rcases List.mem_cons.1 ((h b).2 (by simp)) with e2 | e2
        · exact e2.symm
        · have := hm.1 a e
          have := hl.1 b e2
          omega
    subst hab
    rw [rising_eqT l m hl.2 hm.2 fun x => ?_]
    constructor
    · intro hx
      rcases List.mem_cons.1 ((h x).1 (by simp [hx])) with e | e
      · have := hl.1 x hx; omega
      · exact e
    · intro hx
      rcases List.mem_cons.1 ((h x).2 (by simp [hx])) with e | e
      · have := hm.1 x hx; omega
      · exact e
theorem tg_asc {t : List Tg} (h : areTg t = true) : ∀ (d i : Nat), i + d + 1 < t.length → tgBef (t.getD i tgD) (t.getD (i + d + 1) tgD) = true
  | 0, i, hd => ((tgAt_iff rfl).1 ((tg_iff.1 h).2 (i + 1) (by omega))).2
  | d + 1, i, hd => by
    have h1 := tg_asc h d i (by omega)
    have h2 := ((tgAt_iff rfl).1 ((tg_iff.1 h).2 (i + d + 1 + 1) (by omega))).2
    simp only [prevTg] at h2
    rw [show i + (d + 1) + 1 = i + d + 1 + 1 by omega]
    exact tgBef_trans h1 h2
theorem tg_pair {t : List Tg} (h : areTg t = true) : t.Pairwise (fun a b => tgBef a b = true) := by
  rw [List.pairwise_iff_getElem]
  intro i j hi hj hij
  have := tg_asc h (j - i - 1) i (by omega)
  rwa [show i + (j - i - 1) + 1 = j by omega, getTg_lt hi, getTg_lt hj] at this
def folL (t : List Tg) (k : Int) : List Tg := t.filter (fun x => decide (x.ev = k))
theorem folL_mem {t : List Tg} {k : Int} {x : Tg} : x ∈ folL t k ↔ x ∈ t ∧ x.ev = k := by simp [folL]
theorem folL_rising {t : List Tg} (h : areTg t = true) (k : Int) : ((folL t k).map (·.aft)).Pairwise (· < ·) := by
  rw [List.pairwise_map]
  refine ((tg_pair h).filter _).imp_of_mem fun {a b} ha hb hab => ?_
  have h1 := (folL_mem.1 ha).2
  have h2 := (folL_mem.1 hb).2
  rw [tgBef_iff] at hab
  omega
theorem folL_len {t : List Tg} (k : Int) : (folL t k).length ≤ t.length := List.length_filter_le _ _
theorem folL_aft {t : List Tg} (h : areTg t = true) (k : Int) : (folL t k).map (·.aft) = ((List.range 10).map Int.ofNat).filter (folB t k) := by
  refine rising_eqT _ _ (folL_rising h k) ?_ fun x => ?_
  · refine List.Pairwise.filter _ ?_
    decide
  · rw [List.mem_filter, folB_iff, List.mem_map, List.mem_map]
    constructor
    · rintro ⟨y, hy, rfl⟩
      have hm := folL_mem.1 hy
      have := (tgOne_iff.1 (tg_mem h hm.1)).2.1
      refine ⟨⟨y.aft.toNat, List.mem_range.2 (by omega), by simp; omega⟩, y, hm.1, hm.2, rfl⟩
    · rintro ⟨_, y, hy, h1, h2⟩
      exact ⟨y, folL_mem.2 ⟨hy, h1⟩, h2⟩
theorem find_filter {α β : Type} (p : α → Bool) (g : α → Option β) : ∀ l : List α, l.findSome? (fun k => if p k = true then g k else none) = (l.filter p).findSome? g
  | [] => rfl
  | a :: l => by
    rw [List.findSome?_cons, List.filter_cons]
    cases p a
    · simp [find_filter p g l]
    · simp only [if_true, List.findSome?_cons, find_filter p g l]
def cycP : Nat → List Tg → Int → List Int → Int → Option (List Int)
  | 0, _, _, _, _ => none
  | f + 1, t, hd, c, last => (folL t last).findSome? (fun x => if x.aft = hd then some c else if x.aft < hd ∨ x.aft ∈ c then none else cycP f t hd (c ++ [x.aft]) x.aft)
theorem cycP_chainF {t : List Tg} (h : areTg t = true) : ∀ (f : Nat) (hd : Int) (c : List Int) (last : Int), cycP f t hd c last = chainF f t hd c last
  | 0, _, _, _ => rfl
  | f + 1, hd, c, last => by
    unfold cycP chainF
    have e1 : (fun k => if hd ≤ k then (if folB t last k = true then (if k = hd then some c else if k ∈ c then none else chainF f t hd (c ++ [k]) k) else none) else none) = (fun k => if folB t last k = true then (if hd ≤ k then (if k = hd then some c else if k ∈ c then none else chainF f t hd (c ++ [k]) k) else none) else none) := by
      funext k
      by_cases h1 : hd ≤ k <;> by_cases h2 : folB t last k = true <;> simp [h1, h2]
    rw [e1, find_filter, ← folL_aft h, List.findSome?_map]
    congr 1
    funext x
    simp only [Function.comp]
    rw [cycP_chainF h f]
    by_cases h1 : x.aft = hd
    · rw [if_pos h1, if_pos (by omega), if_pos h1]
    · by_cases h2 : hd ≤ x.aft
      · rw [if_neg h1, if_pos h2, if_neg h1]
        by_cases h3 : x.aft ∈ c
        · rw [if_pos (.inr h3), if_pos h3]
        · rw [if_neg (by rintro (q | q); omega; exact h3 q), if_neg h3]
      · rw [if_neg h1, if_neg h2, if_pos (.inl (by omega))]
theorem folL_zero {t : List Tg} (h : areTg t = true) {k : Int} (hk : ¬ (1 ≤ k ∧ k ≤ 9)) : folL t k = [] := by
  rcases hl : folL t k with _ | ⟨x, l⟩
  · rfl
  · have hx := folL_mem.1 (show x ∈ folL t k by rw [hl]; simp)
    have := (tgOne_iff.1 (tg_mem h hx.1)).1
    omega
theorem cycF_ten {t : List Tg} (h : areTg t = true) : cycF t = ([0, 1, 2, 3, 4, 5, 6, 7, 8, 9] : List Int).findSome? (fun k => cycP 10 t k [k] k) := by
  have e0 : cycP 10 t 0 [0] 0 = none := by unfold cycP; rw [folL_zero h (by omega)]; rfl
  rw [List.findSome?_cons, e0]
  unfold cycF
  congr 1
  funext k
  rw [cycP_chainF h]
def goL (D : Int → Int) : List Tg → Int → Int
  | [], m => m
  | x :: r, m => if D x.aft < 0 then -1 else goL D r (max m (D x.aft + x.days))
theorem dayGo_goL (D : Int → Int) (e : Int) : ∀ (l : List Tg) (m : Int), dayGo D e l m = goL D (folL l e) m
  | [], m => rfl
  | x :: r, m => by
    unfold dayGo
    by_cases hx : x.ev = e
    · have e1 : folL (x :: r) e = x :: folL r e := List.filter_cons_of_pos (by simpa using hx)
      rw [if_pos hx, e1]
      unfold goL
      split
      · rfl
      · exact dayGo_goL D e r _
    · have e1 : folL (x :: r) e = folL r e := List.filter_cons_of_neg (by simpa using hx)
      rw [if_neg hx, e1]
      exact dayGo_goL D e r _
theorem dayX_goL {t : List Tg} (ht : areTg t = true) (hc : cycF t = none) {e : Int} (he : e ≠ 0) : dayX t e = goL (dayX t) (folL t e) (-1) := by rw [dayX_step ht hc he, dayGo_goL]
theorem dayX_out {t : List Tg} (ht : areTg t = true) (hc : cycF t = none) {e : Int} (he : ¬ (0 ≤ e ∧ e ≤ 9)) : dayX t e = -1 := by
  rw [dayX_goL ht hc (by omega), folL_zero ht (by omega)]; rfl
theorem goL_ge {D : Int → Int} : ∀ (l : List Tg) (m : Int), 0 ≤ m → (∀ x ∈ l, 0 ≤ D x.aft) → m ≤ goL D l m
  | [], m, _, _ => Int.le_refl _
  | x :: r, m, hm, h => by
    unfold goL
    have h0 := h x (by simp)
    rw [if_neg (by omega)]
    have := goL_ge r (max m (D x.aft + x.days)) (by omega) (fun y hy => h y (by simp [hy]))
    omega
theorem dayX_low {t : List Tg} (ht : areTg t = true) : ∀ (f : Nat) (e : Int), -1 ≤ dayF f t e
  | 0, _ => by unfold dayF; omega
  | f + 1, e => by
    unfold dayF
    split
    · omega
    · have key : ∀ (l : List Tg) (m : Int), (∀ x ∈ l, x ∈ t) → -1 ≤ m → -1 ≤ dayGo (dayF f t) e l m := by
        intro l
        induction l with
        | nil => intro m _ hm; unfold dayGo; exact hm
        | cons x l ih =>
          intro m hl hm
          unfold dayGo
          split
          · split
            · omega
            · exact ih _ (fun y hy => hl y (by simp [hy])) (by omega)
          · exact ih _ (fun y hy => hl y (by simp [hy])) hm
      exact key t (-1) (fun x hx => hx) (Int.le_refl _)
theorem dayF_high {t : List Tg} (ht : areTg t = true) : ∀ (f : Nat) (e : Int), dayF f t e ≤ 10000 * f
  | 0, _ => by unfold dayF; omega
  | f + 1, e => by
    unfold dayF
    split
    · omega
    · have key : ∀ (l : List Tg) (m : Int), (∀ x ∈ l, x ∈ t) → m ≤ 10000 * (f + 1 : Nat) → dayGo (dayF f t) e l m ≤ 10000 * (f + 1 : Nat) := by
        intro l
        induction l with
        | nil => intro m _ hm; unfold dayGo; exact hm
        | cons x l ih =>
          intro m hl hm
          unfold dayGo
          have h1 := dayF_high ht f x.aft
          have h2 := (tgOne_iff.1 (tg_mem ht (hl x (by simp)))).2.2.2
          split
          · split
            · omega
            · exact ih _ (fun y hy => hl y (by simp [hy])) (by omega)
          · exact ih _ (fun y hy => hl y (by simp [hy])) hm
      exact key t (-1) (fun x hx => hx) (by omega)
theorem dayX_in {t : List Tg} (ht : areTg t = true) (e : Int) : -1 ≤ dayX t e ∧ dayX t e ≤ 100000 := by
  have h1 := dayX_low ht 10 e
  have h2 := dayF_high ht 10 e
  exact ⟨h1, by unfold dayX; omega⟩
def shortW (t : List Tg) (e : Int) (f : Nat) : Prop := ∀ l, walkP t (e :: l) → l.length < f
theorem shortW_link {t : List Tg} {e : Int} {f : Nat} (h : shortW t e (f + 1)) {x : Tg} (hx : x ∈ folL t e) : shortW t x.aft f := by
  intro l hl
  obtain ⟨h1, h2⟩ := folL_mem.1 hx
  have := h (x.aft :: l) ⟨folB_iff.2 ⟨x, h1, h2, rfl⟩, hl⟩
  simp only [List.length_cons] at this
  omega
theorem shortW_pos {t : List Tg} {e : Int} {f : Nat} (h : shortW t e f) : 0 < f := by
  have := h [] trivial
  simpa using this
theorem shortW_ten {t : List Tg} (ht : areTg t = true) (hc : cycF t = none) (e : Int) : shortW t e 10 := fun l hl => acyc_short ht hc hl
def gapsRes (s : List Ru) (xs : List Int) : List Int × Bool := if isSch s = true ∧ (xs.length ≤ 20 ∧ risB 1 99 xs = true) then (gapsOf s xs, true) else ([], false)
def conB (a b : Ru) : Bool := decide (a.act = 1) && (decide (b.act = 3) && (decide (a.series = b.series) && decide (a.days = b.days)))
def hcRes (t : List Tg) : Bool × Bool := if areTg t = true then ((cycF t).isSome, true) else (false, false)
def fcRes (t : List Tg) : List Int × Bool := if areTg t = true then (match cycF t with | some c => (c, true) | none => ([], false)) else ([], false)
def freeB (t : List Tg) : Bool := areTg t && (cycF t).isNone
theorem freeB_iff {t : List Tg} : freeB t = true ↔ areTg t = true ∧ cycF t = none := by simp [freeB]
def edayX (t : List Tg) (e : Int) : Int := if freeB t = true then dayX t e else -1
theorem edayX_in (t : List Tg) (e : Int) : -1 ≤ edayX t e ∧ edayX t e ≤ 100000 := by
  unfold edayX
  split
  · rename_i h; exact dayX_in (freeB_iff.1 h).1 e
  · omega
def edRes (t : List Tg) (e : Int) : Int × Bool := if edayX t e < 0 then (0, false) else (edayX t e, true)
def dueL (D : Int → Int) : List Ru → Int → Option Int
  | [], m => some m
  | r :: l, m => if D r.event < 0 then none else dueL D l (max m (D r.event + r.days))
def dueTRes (t : List Tg) (s : List Ru) (k : Int) : Int × Bool :=
  if (rufRes s k).1 = [] then (0, false) else match dueL (edayX t) (rufRes s k).1 0 with | some m => (m, true) | none => (0, false)
def unxF (t : List Tg) (s : List Ru) : List Int := ([1, 2, 3, 4, 5, 6, 7, 8, 9] : List Int).filter (fun e => decide (dayX t e < 0) && s.any (fun r => decide (r.event = e)))
def unxRes (t : List Tg) (s : List Ru) : List Int × Bool := if freeB t = true ∧ isSch s = true then (unxF t s, true) else ([], false)
end Go.Proofs.Ytenjajcknmfhfaa

namespace Go.Proofs.Ytenjajcknmfhfaa
set_option linter.unusedVariables false

def dedF (xs : List Int) : List Int := xs.foldl (fun o x => if x ∈ o then o else o ++ [x]) []
theorem dedF_snoc (xs : List Int) (x : Int) : dedF (xs ++ [x]) = if x ∈ dedF xs then dedF xs else dedF xs ++ [x] := by unfold dedF; rw [List.foldl_append]; rfl
theorem dedF_mem {x : Int} {xs : List Int} : x ∈ dedF xs ↔ x ∈ xs := by
  have key : ∀ (l : List Int) (o : List Int), x ∈ l.foldl (fun o x => if x ∈ o then o else o ++ [x]) o ↔ x ∈ o ∨ x ∈ l := by
    intro l
    induction l with
    | nil => intro o; simp
    | cons a l ih =>
      intro o
      rw [List.foldl_cons, ih]
      split
      · rename_i h
        constructor
        · rintro (q | q)
          · exact .inl q
          · exact .inr (by simp [q])
        · rintro (q | q)
          · exact .inl q
          · rcases List.mem_cons.1 q with rfl | q
            · exact .inl h
            · exact .inr q
      · simp only [List.mem_append, List.mem_cons, or_assoc]
        simp
  have := key xs []
  simpa [dedF] using this
theorem dedF_take {xs : List Int} {k : Nat} (hk : k < xs.length) : dedF (xs.take (k + 1)) = if xs.getD k 0 ∈ dedF (xs.take k) then dedF (xs.take k) else dedF (xs.take k) ++ [xs.getD k 0] := by
  have e : xs.take (k + 1) = xs.take k ++ [xs.getD k 0] := by
    rw [List.take_succ_eq_append_getElem hk]
    simp [List.getD, List.getElem?_eq_getElem hk]
  rw [e, dedF_snoc]
theorem pair_le {xs : List Int} (h : xs.Pairwise (· ≤ ·)) {i j : Nat} (hij : i ≤ j) (hj : j < xs.length) : xs.getD i 0 ≤ xs.getD j 0 := by
  have g : ∀ n (hn : n < xs.length), xs.getD n 0 = xs[n] := fun n hn => by simp [List.getD, List.getElem?_eq_getElem hn]
  rw [g i (by omega), g j hj]
  rcases Nat.lt_or_eq_of_le hij with h' | h'
  · exact List.pairwise_iff_getElem.1 h i j (by omega) hj h'
  · subst h'; exact Int.le_refl _
theorem compact_ded {xs : List Int} (h : xs.Pairwise (· ≤ ·)) : Lib.compact xs = dedF xs := by
  have hk : ∀ k, k ≤ xs.length → Lib.compactUpTo xs.toArray k = dedF (xs.take k) := by
    intro k
    induction k with
    | zero => intro _; simp [Lib.compactUpTo, dedF]
    | succ k ih =>
      intro hk
      have hlt : k < xs.length := by omega
      have g : ∀ j, j < xs.length → xs.toArray[j]! = xs.getD j 0 := fun j hj => by
        rw [getElem!_pos _ j (by simpa using hj)]; simp [List.getD, List.getElem?_eq_getElem hj]
      rw [Lib.compactUpTo_succ, ih (by omega), dedF_take hlt, g k hlt]
      by_cases hm : xs.getD k 0 ∈ dedF (xs.take k)
      · rw [if_pos hm]
        have hr := dedF_mem.1 hm
        rw [List.mem_take_iff_getElem] at hr
        obtain ⟨i, hi, e⟩ := hr
        have hil : i < xs.length := by omega
        have h1 := pair_le h (i := i) (j := k - 1) (by omega) (by omega)
        have h2 := pair_le h (i := k - 1) (j := k) (by omega) hlt
        have e2 : xs.getD i 0 = xs[i] := by simp [List.getD, List.getElem?_eq_getElem hil]
        rw [e2, e] at h1
        have hkn : Lib.keeps xs.toArray k = false := Lib.keeps_neg (by omega) (by rw [g k hlt, g (k - 1) (by omega)]; omega)
        rw [hkn]; simp
      · rw [if_neg hm]
        have hkn : Lib.keeps xs.toArray k = true := by
          rcases Nat.eq_zero_or_pos k with h0 | h0
          · subst h0; exact Lib.keeps_lt_one _ 0 (by omega)
          · refine Lib.keeps_pos ?_
            rw [g k hlt, g (k - 1) (by omega)]
            intro e
            refine hm (dedF_mem.2 ?_)
            rw [e, List.mem_take_iff_getElem]
            exact ⟨k - 1, by omega, by simp [List.getD, List.getElem?_eq_getElem (show k - 1 < xs.length by omega)]⟩
        rw [hkn]; simp
  have := hk xs.length (Nat.le_refl _)
  rw [List.take_length] at this
  unfold Lib.compact
  rw [← this]
theorem dedF_rising {xs : List Int} (h : xs.Pairwise (· ≤ ·)) : (dedF xs).Pairwise (· < ·) := by
  have hk : ∀ k, k ≤ xs.length → (dedF (xs.take k)).Pairwise (· < ·) := by
    intro k
    induction k with
    | zero => intro _; simp [dedF]
    | succ k ih =>
      intro hk
      have hlt : k < xs.length := by omega
      rw [dedF_take hlt]
      split
      · exact ih (by omega)
      · rename_i hm
        refine List.pairwise_append.2 ⟨ih (by omega), by simp, fun a ha b hb => ?_⟩
        rw [List.mem_singleton.1 hb]
        have ha2 := dedF_mem.1 ha
        rw [List.mem_take_iff_getElem] at ha2
        obtain ⟨i, hi, e⟩ := ha2
        have h1 := pair_le h (i := i) (j := k) (by omega) hlt
        have e2 : xs.getD i 0 = xs[i] := by simp [List.getD, List.getElem?_eq_getElem (show i < xs.length by omega)]
        have h3 : a ≠ xs.getD k 0 := fun q => hm (by rw [← q]; exact ha)
        omega
  have := hk xs.length (Nat.le_refl _)
  rwa [List.take_length] at this
def conOne (s : List Ru) (a : Ru) : List Int := (s.filter (conB a)).map (fun _ => a.series)
def conL (s l : List Ru) : List Int := l.flatMap (conOne s)
def conF (s : List Ru) : List Int := dedF (conL s s)
def conTRes (s : List Ru) : List Int × Bool := if isSch s = true then (conF s, true) else ([], false)
theorem conOne_mem {s : List Ru} {a : Ru} {x : Int} (h : x ∈ conOne s a) : x = a.series := by
  unfold conOne at h
  obtain ⟨_, _, rfl⟩ := List.mem_map.1 h
  rfl
theorem sch_ser_le {s : List Ru} (h : isSch s = true) : s.Pairwise (fun a b => a.series ≤ b.series) := by
  rw [List.pairwise_iff_getElem]
  intro i j hi hj hij
  have := sch_bef h hij hj
  rw [bef_iff, getRu_lt hi, getRu_lt hj] at this
  omega
theorem conL_le {s : List Ru} (h : isSch s = true) : (conL s s).Pairwise (· ≤ ·) := by
  have key : ∀ l : List Ru, l.Pairwise (fun a b => a.series ≤ b.series) → (conL s l).Pairwise (· ≤ ·) := by
    intro l
    induction l with
    | nil => intro _; simp [conL]
    | cons a l ih =>
      intro hl
      rw [List.pairwise_cons] at hl
      unfold conL
      rw [List.flatMap_cons]
      refine List.pairwise_append.2 ⟨?_, ih hl.2, fun x hx y hy => ?_⟩
      · unfold conOne
        rw [List.pairwise_map]
        exact List.pairwise_of_forall (fun _ _ => Int.le_refl _)
      · obtain ⟨b, hb, hyb⟩ := List.mem_flatMap.1 hy
        rw [conOne_mem hx, conOne_mem hyb]
        exact hl.1 b hb
  exact key s (sch_ser_le h)
theorem con_compact {s : List Ru} (h : isSch s = true) : Lib.compact (conL s s) = conF s := compact_ded (conL_le h)
def conAt (s : List Ru) (i k : Nat) : List Int := conL s (s.take i) ++ ((s.take k).filter (conB (s.getD i ruD))).map (fun _ => (s.getD i ruD).series)
theorem conAt_zero (s : List Ru) : conAt s 0 0 = [] := by simp [conAt, conL]
theorem conAt_len (s : List Ru) (i k : Nat) (hi : i ≤ s.length) (hk : k ≤ s.length) : (conAt s i k).length ≤ s.length * s.length + s.length := by
  unfold conAt
  rw [List.length_append, List.length_map]
  have h1 : (conL s (s.take i)).length ≤ i * s.length := by
    have key : ∀ l : List Ru, (conL s l).length ≤ l.length * s.length := by
      intro l
      induction l with
      | nil => simp [conL]
      | cons a l ih =>
        have h2 : (conOne s a).length ≤ s.length := by unfold conOne; rw [List.length_map]; exact List.length_filter_le _ _
        have h3 : (conL s (a :: l)).length = (conOne s a).length + (conL s l).length := by simp [conL]
        rw [h3, List.length_cons, Nat.add_mul]
        omega
    have := key (s.take i)
    rw [List.length_take, Nat.min_eq_left hi] at this
    exact this
  have h2 : i * s.length ≤ s.length * s.length := Nat.mul_le_mul_right _ hi
  have h3 := List.length_filter_le (conB (s.getD i ruD)) (s.take k)
  rw [List.length_take] at h3
  omega
theorem conAt_next (s : List Ru) (i : Nat) (hi : i < s.length) : conAt s i s.length = conAt s (i + 1) 0 := by
  unfold conAt conL
  rw [List.take_length, List.take_succ_eq_append_getElem hi, List.flatMap_append, getRu_lt hi]
  simp [conOne]
theorem conAt_all (s : List Ru) : conAt s s.length 0 = conL s s := by simp [conAt, List.take_length]
theorem conAt_step (s : List Ru) (i k : Nat) (hk : k < s.length) : conAt s i (k + 1) = if conB (s.getD i ruD) (s.getD k ruD) = true then conAt s i k ++ [(s.getD i ruD).series] else conAt s i k := by
  unfold conAt
  rw [List.take_succ_eq_append_getElem hk, List.filter_append, ← getRu_lt hk]
  by_cases h : conB (s.getD i ruD) (s.getD k ruD) = true
  · rw [if_pos h, List.filter_cons_of_pos h, List.filter_nil, List.map_append, List.append_assoc]; rfl
  · rw [if_neg h, List.filter_cons_of_neg h, List.filter_nil, List.append_nil]
def nevB (s : List Ru) (r : Ru) : Bool := decide (r.event = 0) && decide (r.days < (lonRes s r.series).1)
def nevF (s : List Ru) : List (Int × Int) := (s.filter (nevB s)).map (fun r => (r.series, r.event))
def nevRes (s : List Ru) : List (Int × Int) × Bool := if isSch s = true then (nevF s, true) else ([], false)
def unxL (t : List Tg) (s : List Ru) : List Int := (s.filter (fun r => decide (dayX t r.event < 0))).map (·.event)
theorem unx_compact {t : List Tg} {s : List Ru} (hs : isSch s = true) {ys : List Int} (hp : ys.Perm (unxL t s)) (hr : ys.Pairwise (· ≤ ·)) : Lib.compact ys = unxF t s := by
  rw [compact_ded hr]
  refine rising_eqT _ _ (dedF_rising hr) ?_ fun x => ?_
  · refine List.Pairwise.filter _ ?_
    decide
  · rw [dedF_mem, hp.mem_iff]
    unfold unxL unxF
    rw [List.mem_map, List.mem_filter, Bool.and_eq_true, decide_eq_true_eq, List.any_eq_true]
    constructor
    · rintro ⟨r, hr, rfl⟩
      obtain ⟨h1, h2⟩ := List.mem_filter.1 hr
      have h2' : dayX t r.event < 0 := by simpa using h2
      have h3 := (isRu_iff.1 (sch_mem hs _ h1)).2.1
      have h4 : r.event ≠ 0 := fun e => by rw [e, dayX_zero] at h2'; omega
      refine ⟨?_, h2', r, h1, by simp⟩
      simp
      omega
    · rintro ⟨_, h2, r, hr, h3⟩
      have h3' : r.event = x := by simpa using h3
      exact ⟨r, List.mem_filter.2 ⟨hr, by rw [h3']; simpa using h2⟩, h3'⟩
end Go.Proofs.Ytenjajcknmfhfaa

namespace Go.Proofs.Ytenjajcknmfhfaa
set_option linter.unusedVariables false

theorem walk_at {t : List Tg} : ∀ (l : List Int) (i : Nat), walkP t l → i + 1 < l.length → folB t (l.getD i 0) (l.getD (i + 1) 0) = true
  | [], i, _, h => by simp at h
  | [_], i, _, h => by simp at h
  | a :: b :: r, 0, hw, _ => hw.1
  | a :: b :: r, i + 1, hw, h => by
    have := walk_at (b :: r) i hw.2 (by simpa using h)
    simpa using this
theorem chainF_ge {t : List Tg} {hd : Int} : ∀ (f : Nat) (c : List Int) (last : Int) (out : List Int), chainF f t hd c last = some out → (∀ x ∈ c, hd ≤ x) → ∀ x ∈ out, hd ≤ x
  | 0, _, _, _, h, _ => by simp [chainF] at h
  | f + 1, c, last, out, h, hc => by
    unfold chainF at h
    obtain ⟨k, hk, hs⟩ := List.exists_of_findSome?_eq_some h
    split at hs
    · rename_i hle
      split at hs
      · split at hs
        · cases hs; exact hc
        · split at hs
          · cases hs
          · refine chainF_ge f (c ++ [k]) k out hs (fun x hx => ?_)
            rcases List.mem_append.1 hx with h' | h'
            · exact hc x h'
            · rw [List.mem_singleton.1 h']; exact hle
      · cases hs
    · cases hs
theorem cyc_asks {t : List Tg} {out : List Int} (h : cycF t = some out) (i : Nat) (hi : i < out.length) : folB t (out.getD i 0) (out.getD ((i + 1) % out.length) 0) = true ∧ out.getD 0 0 ≤ out.getD i 0 := by
  have h0 := h
  unfold cycF at h
  obtain ⟨k, hk, hs⟩ := List.exists_of_findSome?_eq_some h
  obtain ⟨r, e, hw⟩ := chainF_walk (hd := k) 10 [] k out hs ⟨[], rfl⟩ trivial
  have hge := chainF_ge (hd := k) 10 [k] k out hs (fun x hx => by rw [List.mem_singleton.1 hx]; exact Int.le_refl _)
  have hk0 : out.getD 0 0 = k := by rw [e]; rfl
  have g : ∀ j, j < out.length → (out ++ [k]).getD j 0 = out.getD j 0 := fun j hj => by
    simp [List.getD, List.getElem?_append_left hj]
  have gl : (out ++ [k]).getD out.length 0 = k := by simp [List.getD]
  refine ⟨?_, ?_⟩
  · have := walk_at (out ++ [k]) i hw (by simp; omega)
    rw [g i hi] at this
    by_cases hl : i + 1 < out.length
    · rw [g _ hl] at this
      rw [Nat.mod_eq_of_lt hl]; exact this
    · have he : i + 1 = out.length := by omega
      rw [he, gl] at this
      rw [he, Nat.mod_self, hk0]; exact this
  · rw [hk0]
    have : out.getD i 0 = out[i] := by simp [List.getD, List.getElem?_eq_getElem hi]
    rw [this]; exact hge _ (List.getElem_mem _)
theorem fc_asks {t : List Tg} {out : List Int} {b : Bool} (h : fcRes t = (out, b)) (i : Nat) (hi : i < out.length) : folB t (out.getD i 0) (out.getD ((i + 1) % out.length) 0) = true ∧ out.getD 0 0 ≤ out.getD i 0 := by
  unfold fcRes at h
  split at h
  · split at h
    · rename_i c hc
      obtain ⟨rfl, _⟩ := Prod.mk.inj h
      exact cyc_asks hc i hi
    · obtain ⟨rfl, _⟩ := Prod.mk.inj h
      simp at hi
  · obtain ⟨rfl, _⟩ := Prod.mk.inj h
    simp at hi
theorem fc_told {t : List Tg} {out : List Int} {b has told : Bool} (h : fcRes t = (out, b)) (h2 : hcRes t = (has, told)) : b = (told && has) := by
  unfold fcRes at h
  unfold hcRes at h2
  split at h
  · rename_i ha
    rw [if_pos ha] at h2
    obtain ⟨rfl, rfl⟩ := Prod.mk.inj h2
    split at h
    · rename_i c hc
      obtain ⟨_, rfl⟩ := Prod.mk.inj h
      rw [hc]; rfl
    · rename_i hc
      obtain ⟨_, rfl⟩ := Prod.mk.inj h
      rw [hc]; rfl
  · rename_i ha
    rw [if_neg ha] at h2
    obtain ⟨rfl, rfl⟩ := Prod.mk.inj h2
    obtain ⟨_, rfl⟩ := Prod.mk.inj h
    rfl
theorem risB_in {lo hi : Int} {xs : List Int} (h : risB lo hi xs = true) : ∀ x ∈ xs, lo ≤ x ∧ x ≤ hi := by
  intro x hx
  obtain ⟨i, hi, rfl⟩ := List.getElem_of_mem hx
  have := (ris_iff.1 h i hi).1
  have e : xs.getD i 0 = xs[i] := by simp [List.getD, List.getElem?_eq_getElem hi]
  rw [e] at this
  exact this
theorem gaps_ask {s : List Ru} {xs g : List Int} {b : Bool} (h : gapsRes s xs = (g, b)) : ∀ x ∈ g, rufRes s x = ([], true) := by
  intro x hx
  unfold gapsRes at h
  split at h
  · rename_i hh
    obtain ⟨rfl, _⟩ := Prod.mk.inj h
    unfold gapsOf at hx
    obtain ⟨h1, h2⟩ := List.mem_filter.1 hx
    have h3 := risB_in hh.2.2 x h1
    have h4 : forRu s x = [] := by
      rw [List.eq_nil_iff_forall_not_mem]
      intro r hr
      obtain ⟨q1, q2⟩ := forRu_mem hr
      simp at h2
      exact h2 r q1 q2
    unfold rufRes
    rw [hh.1, decide_eq_true h3, h4]; rfl
  · obtain ⟨rfl, _⟩ := Prod.mk.inj h
    simp at hx
theorem ed_asks {t : List Tg} {e d : Int} (h : edRes t e = (d, true)) {x : Tg} (hx : x ∈ t) (he : x.ev = e) : ∃ b, edRes t x.aft = (b, true) ∧ b + x.days ≤ d := by
  unfold edRes at h
  split at h
  · cases h
  · rename_i hn
    obtain ⟨rfl, _⟩ := Prod.mk.inj h
    unfold edayX at hn ⊢
    by_cases hf : freeB t = true
    · rw [if_pos hf] at hn
      obtain ⟨ha, hc⟩ := freeB_iff.1 hf
      have h0 := (tgOne_iff.1 (tg_mem ha hx)).1
      have hs := dayX_step ha hc (e := e) (by omega)
      rw [hs] at hn
      have hge : 0 ≤ dayGo (dayX t) e t (-1) := by omega
      obtain ⟨h1, h2⟩ := (dayGo_ge t (-1) hge).2 x hx he
      refine ⟨dayX t x.aft, ?_, ?_⟩
      · unfold edRes edayX
        rw [if_pos hf, if_neg (by omega)]
      · rw [if_pos hf, hs]; exact h2
    · rw [if_neg hf] at hn; omega
theorem dueL_ge {D : Int → Int} : ∀ (l : List Ru) (m q : Int), dueL D l m = some q → m ≤ q ∧ ∀ r ∈ l, 0 ≤ D r.event ∧ D r.event + r.days ≤ q
  | [], m, q, h => by
    simp only [dueL, Option.some.injEq] at h
    exact ⟨by omega, fun r hr => by simp at hr⟩
  | r :: l, m, q, h => by
    unfold dueL at h
    split at h
    · cases h
    · obtain ⟨h1, h2⟩ := dueL_ge l _ q h
      refine ⟨by omega, fun u hu => ?_⟩
      rcases List.mem_cons.1 hu with rfl | hu
      · omega
      · exact h2 u hu
theorem duet_asks {t : List Tg} {s : List Ru} {k m : Int} (h : dueTRes t s k = (m, true)) : ∃ R, rufRes s k = (R, true) ∧ R ≠ [] ∧ ∀ r ∈ R, r.days ≤ m ∧ ¬ r.event ∈ (unxRes t s).1 := by
  unfold dueTRes at h
  split at h
  · cases h
  · rename_i hne
    split at h
    · rename_i q hq
      obtain ⟨rfl, _⟩ := Prod.mk.inj h
      have hr : rufRes s k = ((rufRes s k).1, true) := by
        unfold rufRes at hne ⊢
        split
        · rfl
        · rename_i hh; rw [if_neg hh] at hne; exact absurd rfl hne
      refine ⟨_, hr, hne, fun r hr2 => ?_⟩
      obtain ⟨h1, h2⟩ := (dueL_ge _ _ _ hq).2 r hr2
      refine ⟨by omega, fun hm => ?_⟩
      unfold unxRes at hm
      split at hm
      · rename_i hh
        simp only [unxF] at hm
        have := (List.mem_filter.1 hm).2
        simp only [Bool.and_eq_true, decide_eq_true_eq] at this
        unfold edayX at h1
        rw [if_pos hh.1] at h1
        omega
      · simp at hm
    · cases h
theorem maxD_mem : ∀ {l : List Ru}, 0 < maxD l → ∃ u ∈ l, u.days = maxD l := by
  have key : ∀ (l : List Ru) (b : Int), l.foldl (fun b r => max b r.days) b = b ∨ ∃ u ∈ l, u.days = l.foldl (fun b r => max b r.days) b := by
    intro l
    induction l with
    | nil => intro b; exact .inl rfl
    | cons r l ih =>
      intro b
      rw [List.foldl_cons]
      rcases ih (max b r.days) with e | ⟨u, hu, e⟩
      · rw [e]
        by_cases hb : r.days ≤ b
        · exact .inl (by omega)
        · exact .inr ⟨r, by simp, by omega⟩
      · exact .inr ⟨u, List.mem_cons_of_mem _ hu, e⟩
  intro l h
  rcases key l 0 with e | h'
  · unfold maxD at h; omega
  · exact h'
theorem sch_key {s : List Ru} (h : isSch s = true) {a b : Ru} (ha : a ∈ s) (hb : b ∈ s) (h1 : a.series = b.series) (h2 : a.event = b.event) : a = b := by
  obtain ⟨i, hi, rfl⟩ := List.getElem_of_mem ha
  obtain ⟨j, hj, rfl⟩ := List.getElem_of_mem hb
  rcases Nat.lt_trichotomy i j with hij | hij | hij
  · have := sch_bef h hij hj
    rw [bef_iff, getRu_lt hi, getRu_lt hj] at this
    omega
  · subst hij; rfl
  · have := sch_bef h hij hi
    rw [bef_iff, getRu_lt hi, getRu_lt hj] at this
    omega
theorem dayOf_made {r : Rec} (h : isRec r = true) {k : Int} (h0 : 0 ≤ dayOf r k) : r.made ≤ dayOf r k := by
  by_cases hk : k = 0
  · subst hk; rw [dayOf_zero]; exact Int.le_refl _
  · have hf := (dayOf_neg h k).1 h0
    have hf2 : foundK r.evs k = true := by rcases hf with e | e; exact absurd e hk; exact e
    rw [dayOf_place h hk, if_pos hf2]
    have hl : placeK r.evs k < r.evs.length := by
      unfold foundK at hf2; simp only [Bool.and_eq_true, decide_eq_true_eq] at hf2; exact hf2.1
    exact (isRec_ev h _ hl).2
theorem never_asks {r : Rec} {s : List Ru} (hr : isRec r = true) (hs : isSch s = true) (h : 0 ≤ dueF r s) : ¬ ((ruleF r s).series, (ruleF r s).event) ∈ nevF s := by
  intro hm
  unfold nevF at hm
  obtain ⟨q, hq, e⟩ := List.mem_map.1 hm
  obtain ⟨hq1, hq2⟩ := List.mem_filter.1 hq
  obtain ⟨e1, e2⟩ := Prod.mk.inj e
  obtain ⟨b1, b2, b3⟩ := dec_best (us := forRu s r.series) h
  have hmem := forRu_mem b2
  have hqe : q = ruleF r s := sch_key hs hq1 hmem.1 e1 e2
  unfold nevB at hq2
  simp only [Bool.and_eq_true, decide_eq_true_eq] at hq2
  obtain ⟨c1, c2⟩ := hq2
  have hser : q.series = r.series := by rw [e1]; exact hmem.2
  rw [hser] at c2
  unfold lonRes at c2
  have hne : 0 < (forRu s r.series).length := List.length_pos_of_mem b2
  rw [if_pos ⟨hs, hne⟩] at c2
  have hqd := (isRu_iff.1 (sch_mem hs _ hq1)).2.2.1
  obtain ⟨u, hu, hud⟩ := maxD_mem (l := forRu s r.series) (by simp only at c2; omega)
  have hub := b1 u hu
  have hopen := (dec_told.1 h).2 u hu
  have huo : ¬ dayOf r u.event < 0 := fun e => hopen (by rw [endR_open e]; decide)
  have hmade := dayOf_made hr (k := u.event) (by omega)
  rw [endR_shut huo] at hub
  have hd := (due_rule h).2.2
  rw [← hqe, c1, dayOf_zero] at hd
  have : dueF r s = (decR r (forRu s r.series)).2 := rfl
  simp only at c2
  omega
theorem never_res {r : Rec} {s : List Ru} {q : Ru} (h : decRes r s = (q, true)) {g : List (Int × Int)} {b : Bool} (hg : nevRes s = (g, b)) : ¬ (q.series, q.event) ∈ g := by
  have ha : askB r s = true ∧ 0 ≤ dueF r s := by
    rcases hb : askB r s with _ | _
    · unfold decRes at h
      rw [setF_no (.inl hb)] at h
      cases h
    · refine ⟨rfl, ?_⟩
      rcases Int.lt_or_le (dueF r s) 0 with h1 | h1
      · unfold decRes at h
        rw [setF_no (.inr h1)] at h
        cases h
      · exact h1
  obtain ⟨hr, hs⟩ := ask_iff.1 ha.1
  unfold decRes at h
  rw [setF_yes ha.1 ha.2] at h
  have hq := (Prod.mk.inj h).1
  simp only at hq
  subst hq
  unfold nevRes at hg
  rw [if_pos hs] at hg
  obtain ⟨rfl, _⟩ := Prod.mk.inj hg
  exact never_asks hr hs ha.2
end Go.Proofs.Ytenjajcknmfhfaa

namespace Go.Proofs.Ytenjajcknmfhfaa
set_option linter.unusedVariables false
open Go.RowKit

def cmpC (a b : Int) : Int := if a < b then -1 else if b < a then 1 else 0
theorem isNaNC_any (a : Int) (w : World) : Calls Try.prog 164 #[.int .i64 a] w fun e w' => e = .returned (.bool false) ∧ w' = w := by
  have h : (a != a) = false := by simp
  go_enter Try.func164, Try.ntmps164
  go_wp2
  go_ret
  exact ⟨ret_bool (by simp), rfl⟩
theorem compareC_any (a b : Int) (w : World) : Calls Try.prog 136 #[.int .i64 a, .int .i64 b] w fun e w' => e = .returned (.int .i64 (cmpC a b)) ∧ w' = w := by
  by_cases h1 : a < b
  · go_enter Try.func136, Try.ntmps136
    go_wp2_with (first | (go_at_call 164; refine (isNaNC_any _ _).mono ?_; rintro e w' ⟨rfl, rfl⟩))
    go_ret
    exact ⟨ret_int (by unfold cmpC; rw [if_pos h1]), rfl⟩
  · by_cases h2 : b < a
    · go_enter Try.func136, Try.ntmps136
      go_wp2_with (first | (go_at_call 164; refine (isNaNC_any _ _).mono ?_; rintro e w' ⟨rfl, rfl⟩))
      go_ret
      exact ⟨ret_int (by unfold cmpC; rw [if_neg (by omega), if_pos h2]), rfl⟩
    · go_enter Try.func136, Try.ntmps136
      go_wp2_with (first | (go_at_call 164; refine (isNaNC_any _ _).mono ?_; rintro e w' ⟨rfl, rfl⟩))
      go_ret
      exact ⟨ret_int (by unfold cmpC; rw [if_neg (by omega), if_neg (by omega)]), rfl⟩
def orC (a b : Int) : Int := if a = 0 then b else a
theorem orC_any (g : Nat) (a b : Int) (w : World) (h0 : w.cell? ⟨g, 0, none⟩ = some (.int .i64 a)) (h1 : w.cell? ⟨g, 1, none⟩ = some (.int .i64 b)) :
    Calls Try.prog 135 #[.slice (some ⟨g, 0, none⟩) 2 2] w fun e w' => e = .returned (.int .i64 (orC a b)) ∧ w' = w := by
  by_cases ha : a = 0
  · have qa : (a != 0) = false := by simp [ha]
    have HA := Lib.hid ha
    clear ha
    by_cases hb : b = 0
    · have qb : (b != 0) = false := by simp [hb]
      have HB := Lib.hid hb
      clear hb
      go_enter Try.func135, Try.ntmps135
      go_wp2_with fail
      refine wp_loop_rounds 3 ?_
      rw [rounds_succ]
      go_wp2_with fail
      rw [rounds_succ]
      go_wp2_with fail
      rw [rounds_succ]
      go_wp2_with fail
      go_ret
      exact ⟨ret_int (by unfold orC; rw [if_pos HA.out]; exact HB.out.symm), rfl⟩
    · have qb : (b != 0) = true := by simp [hb]
      clear hb
      go_enter Try.func135, Try.ntmps135
      go_wp2_with fail
      refine wp_loop_rounds 2 ?_
      rw [rounds_succ]
      go_wp2_with fail
      rw [rounds_succ]
      go_wp2_with fail
      go_ret
      exact ⟨ret_int (by unfold orC; rw [if_pos HA.out]), rfl⟩
  · have qa : (a != 0) = true := by simp [ha]
    have HA := Lib.hid ha
    clear ha
    go_enter Try.func135, Try.ntmps135
    go_wp2_with fail
    refine wp_loop_rounds 1 ?_
    rw [rounds_succ]
    go_wp2_with fail
    go_ret
    exact ⟨ret_int (by unfold orC; rw [if_neg HA.out]), rfl⟩
end Go.Proofs.Ytenjajcknmfhfaa

namespace Go.Proofs.Ytenjajcknmfhfaa
set_option linter.unusedVariables false
open Go.RowKit Go.Sort

theorem isEom_any (x : Int) (w : World) :
    Calls Try.prog 78 #[.int .i64 x] w fun e w' => e = .returned (.bool (decide (0 ≤ x ∧ x ≤ 9))) ∧ w' = w := by
  by_cases h0 : 0 ≤ x
  · by_cases h9 : x ≤ 9
    · go_enter Try.func78, Try.ntmps78
      go_wp2_with fail
      go_ret
      exact ⟨ret_bool (by first | (simp; done) | (simp; omega)), rfl⟩
    · go_enter Try.func78, Try.ntmps78
      go_wp2_with fail
      go_ret
      exact ⟨ret_bool (by first | (simp; done) | (simp; omega)), rfl⟩
  · go_enter Try.func78, Try.ntmps78
    go_wp2_with fail
    go_ret
    exact ⟨ret_bool (by first | (simp; done) | (simp; omega)), rfl⟩
theorem orT_bef (a b : Tg) : decide (0 ≤ orC (cmpC a.ev b.ev) (cmpC a.aft b.aft)) = !tgBef a b := by
  have h : tgBef a b = decide (a.ev < b.ev ∨ (a.ev = b.ev ∧ a.aft < b.aft)) := rfl
  rw [h, Bool.eq_iff_iff]
  simp only [decide_eq_true_eq, Bool.not_eq_true', decide_eq_false_iff_not]
  unfold orC cmpC
  split <;> (repeat' split) <;> omega
theorem lit2aT (w : World) (a b : Int) (t : TypeId) : (w.alloc (.cells #[.int .i64 a, .int .i64 b] t (0, 0))).cell? ⟨w.heap.size, 0, none⟩ = some (.int .i64 a) := cell_new w _ _ 0 rfl
theorem lit2bT (w : World) (a b : Int) (t : TypeId) : (w.alloc (.cells #[.int .i64 a, .int .i64 b] t (0, 0))).cell? ⟨w.heap.size, 1, none⟩ = some (.int .i64 b) := cell_new w _ _ 1 rfl

set_option maxRecDepth 20000 in
set_option maxHeartbeats 4000000 in
theorem compareTg_any (a b : Tg) (w : World) :
    Calls Try.prog 75 #[.agg #[.int .i64 a.ev, .int .i64 a.aft, .int .i64 a.days], .agg #[.int .i64 b.ev, .int .i64 b.aft, .int .i64 b.days]] w fun e w' => ∃ n : Int, e = .returned (.int .i64 n) ∧ decide (0 ≤ n) = !tgBef a b ∧ Below w.heap.size w w' := by
  have hob := orT_bef a b
  obtain ⟨a0, a1, a2⟩ := a
  obtain ⟨b0, b1, b2⟩ := b
  simp only at hob ⊢
  obtain ⟨n0, hn0⟩ : ∃ n, cmpC a0 b0 = n := ⟨_, rfl⟩
  obtain ⟨n1, hn1⟩ : ∃ n, cmpC a1 b1 = n := ⟨_, rfl⟩
  rw [hn0, hn1] at hob
  have HOB := Lib.hid hob
  have H0 := Lib.hid hn0
  have H1 := Lib.hid hn1
  clear hob hn0 hn1
  go_enter Try.func75, Try.ntmps75
  go_wp2_with fail
  generalize hWE : (w.alloc (.cells #[.int .i64 a0, .int .i64 a1, .int .i64 a2] 34 (0, 0))).alloc (.cells #[.int .i64 b0, .int .i64 b1, .int .i64 b2] 34 (0, 0)) = wE
  have bE : Below w.heap.size w wE := by rw [← hWE]; exact below_al (below_al (Below.refl _ _) _) _
  have z0 : wE.cell? ⟨w.heap.size, 0, none⟩ = some (.int .i64 a0) := by rw [← hWE]; exact below_al_cell (cell_new w _ _ 0 rfl) _
  have z1 : wE.cell? ⟨w.heap.size, 1, none⟩ = some (.int .i64 a1) := by rw [← hWE]; exact below_al_cell (cell_new w _ _ 1 rfl) _
  have y0 : wE.cell? ⟨w.heap.size + 1, 0, none⟩ = some (.int .i64 b0) := by rw [← hWE]; simp
  have y1 : wE.cell? ⟨w.heap.size + 1, 1, none⟩ = some (.int .i64 b1) := by rw [← hWE]; simp
  have hwE := bE.size
  clear hWE
  have hc0 : Calls Try.prog 136 #[.int .i64 a0, .int .i64 b0] wE.drew fun e w' => e = .returned (.int .i64 n0) ∧ w' = wE.drew := (compareC_any a0 b0 wE.drew).mono (by rw [H0.out]; exact fun _ _ h => h)
  have hc1 : Calls Try.prog 136 #[.int .i64 a1, .int .i64 b1] wE.drew fun e w' => e = .returned (.int .i64 n1) ∧ w' = wE.drew := (compareC_any a1 b1 wE.drew).mono (by rw [H1.out]; exact fun _ _ h => h)
  go_still_tail 10, (by kernel_rfl)
  still_call hc0
  repeat still_step
  still_call hc1
  repeat still_step
  try refine wpStill_nil ?_
  change wpList _ _ _ _ _ wE.drew
  generalize hW2 : wE.drew = w2
  have b2 : Below w.heap.size w w2 := by rw [← hW2]; exact bE.drew
  clear hc0 hc1 hW2
  go_wp2_with (first | (go_at_call 135; refine (orC_any w2.heap.size n0 n1 _ (lit2aT w2 n0 n1 _) (lit2bT w2 n0 n1 _)).mono ?_; rintro e w' ⟨rfl, rfl⟩))
  go_ret
  exact ⟨_, rfl, HOB.out, (below_al b2 _)⟩

set_option maxHeartbeats 4000000 in
theorem isTrigger_any (x0 x1 x2 : Int) (w : World) :
    Calls Try.prog 74 #[.agg #[.int .i64 x0, .int .i64 x1, .int .i64 x2]] w fun e w' => e = .returned (.bool (tgOne ⟨x0, x1, x2⟩)) ∧ Below w.heap.size w w' := by
  have b0 := below_al (Below.refl w.heap.size w) (.cells #[.int .i64 x0, .int .i64 x1, .int .i64 x2] 34 (0, 0))
  have hone : tgOne ⟨x0, x1, x2⟩ = (decide (1 ≤ x0 ∧ x0 ≤ 9) && (decide (0 ≤ x1 ∧ x1 ≤ 9) && (decide (¬ x1 = x0) && decide (0 ≤ x2 ∧ x2 ≤ 10000)))) := rfl
  rw [hone]
  clear hone
  obtain ⟨bA, hbA⟩ : ∃ b, decide ((0 : Int) ≤ x0 ∧ x0 ≤ 9) = b := ⟨_, rfl⟩
  obtain ⟨bC, hbC⟩ : ∃ b, decide ((0 : Int) ≤ x1 ∧ x1 ≤ 9) = b := ⟨_, rfl⟩
  have HA := Lib.hid hbA
  have HC := Lib.hid hbC
  clear hbA hbC
  by_cases h0 : x0 = 0
  · have d0 : (x0 != 0) = false := by simp [h0]
    have H0 := Lib.hid h0
    clear h0
    go_enter Try.func74, Try.ntmps74
    go_wp2_with (first | (go_at_call 78; with_reducible refine (isEom_any x0 _).mono ?_; rw [HA.out]; rintro e w2 ⟨rfl, h2⟩; subst w2) | (go_at_call 78; with_reducible refine (isEom_any x1 _).mono ?_; rw [HC.out]; rintro e w3 ⟨rfl, h3⟩; subst w3))
    go_ret
    have hz := H0.out
    exact ⟨ret_bool (by rw [Bool.eq_iff_iff]; simp; omega), b0⟩
  · have d0 : (x0 != 0) = true := by simp [h0]
    cases bA
    · go_enter Try.func74, Try.ntmps74
      go_wp2_with (first | (go_at_call 78; with_reducible refine (isEom_any x0 _).mono ?_; rw [HA.out]; rintro e w2 ⟨rfl, h2⟩; subst w2) | (go_at_call 78; with_reducible refine (isEom_any x1 _).mono ?_; rw [HC.out]; rintro e w3 ⟨rfl, h3⟩; subst w3))
      go_ret
      have hA := HA.out
      have hC := HC.out
      simp at hA hC
      exact ⟨ret_bool (by rw [Bool.eq_iff_iff]; simp; omega), b0⟩
    · cases bC
      · go_enter Try.func74, Try.ntmps74
        go_wp2_with (first | (go_at_call 78; with_reducible refine (isEom_any x0 _).mono ?_; rw [HA.out]; rintro e w2 ⟨rfl, h2⟩; subst w2) | (go_at_call 78; with_reducible refine (isEom_any x1 _).mono ?_; rw [HC.out]; rintro e w3 ⟨rfl, h3⟩; subst w3))
        go_ret
        have hA := HA.out
        have hC := HC.out
        simp at hA hC
        exact ⟨ret_bool (by rw [Bool.eq_iff_iff]; simp; omega), b0⟩
      · by_cases h1 : x1 = x0
        · have d1 : (x1 != x0) = false := by simp [h1]
          have H1 := Lib.hid h1
          clear h1
          go_enter Try.func74, Try.ntmps74
          go_wp2_with (first | (go_at_call 78; with_reducible refine (isEom_any x0 _).mono ?_; rw [HA.out]; rintro e w2 ⟨rfl, h2⟩; subst w2) | (go_at_call 78; with_reducible refine (isEom_any x1 _).mono ?_; rw [HC.out]; rintro e w3 ⟨rfl, h3⟩; subst w3))
          go_ret
          have hz := H1.out
          have hA := HA.out
          have hC := HC.out
          simp at hA hC
          exact ⟨ret_bool (by rw [Bool.eq_iff_iff]; simp; omega), b0⟩
        · have d1 : (x1 != x0) = true := by simp [h1]
          by_cases h2 : 0 ≤ x2
          · by_cases h3 : x2 ≤ 10000
            · go_enter Try.func74, Try.ntmps74
              go_wp2_with (first | (go_at_call 78; with_reducible refine (isEom_any x0 _).mono ?_; rw [HA.out]; rintro e w2 ⟨rfl, h2⟩; subst w2) | (go_at_call 78; with_reducible refine (isEom_any x1 _).mono ?_; rw [HC.out]; rintro e w3 ⟨rfl, h3⟩; subst w3))
              go_ret
              have hA := HA.out
              have hC := HC.out
              simp at hA hC
              exact ⟨ret_bool (by rw [Bool.eq_iff_iff]; simp; omega), b0⟩
            · go_enter Try.func74, Try.ntmps74
              go_wp2_with (first | (go_at_call 78; with_reducible refine (isEom_any x0 _).mono ?_; rw [HA.out]; rintro e w2 ⟨rfl, h2⟩; subst w2) | (go_at_call 78; with_reducible refine (isEom_any x1 _).mono ?_; rw [HC.out]; rintro e w3 ⟨rfl, h3⟩; subst w3))
              go_ret
              have hA := HA.out
              have hC := HC.out
              simp at hA hC
              exact ⟨ret_bool (by rw [Bool.eq_iff_iff]; simp; omega), b0⟩
          · go_enter Try.func74, Try.ntmps74
            go_wp2_with (first | (go_at_call 78; with_reducible refine (isEom_any x0 _).mono ?_; rw [HA.out]; rintro e w2 ⟨rfl, h2⟩; subst w2) | (go_at_call 78; with_reducible refine (isEom_any x1 _).mono ?_; rw [HC.out]; rintro e w3 ⟨rfl, h3⟩; subst w3))
            go_ret
            have hA := HA.out
            have hC := HC.out
            simp at hA hC
            exact ⟨ret_bool (by rw [Bool.eq_iff_iff]; simp; omega), b0⟩

set_option maxRecDepth 20000 in
set_option maxHeartbeats 8000000 in
theorem implAreTg_any (v : Value) (cs : List Tg) (w : World) (hc : RowR 3 rTg w v cs) :
    Calls Try.prog 12 #[v] w fun e w' => e = .returned (.bool (areTg cs)) ∧ Below w.heap.size w w' := by
  have hcap := hc.cap
  obtain ⟨a1, c1, rfl, hl1, hm1, r1⟩ := hc.tgs
  have R1 := Lib.hid r1
  clear hc r1
  unfold maxLen at hm1
  by_cases hL : 10 < cs.length
  · have gL : (10 : Int) < (cs.length : Int) := by omega
    have HNT : Hid (areTg cs = false) := Lib.hid (tg_long (by omega))
    go_enter Try.func12, Try.ntmps12
    go_wp2_with fail
    go_ret
    exact ⟨ret_bool HNT.out.symm, Below.refl _ _⟩
  · have gL : (cs.length : Int) ≤ 10 := by omega
    have HL := Lib.hid hL
    clear hL
    go_enter Try.func12, Try.ntmps12
    go_wp2_with fail
    have hX0 := BxV.new w [.int .i64 0, .int .i64 0, .int .i64 0] 34
    have HB0 := Lib.hid (below_al (Below.refl w.heap.size w) (.cells #[.int .i64 0, .int .i64 0, .int .i64 0] 34 (0, 0)))
    obtain ⟨G, hG⟩ : ∃ G, w.heap.size = G := ⟨_, rfl⟩
    rw [hG] at hX0
    have hGw : w.heap.size ≤ G := by omega
    have HX0 := Lib.hid hX0
    have HGE := Lib.hid hG
    clear hG hX0
    go_loopw [12] (fun i wr => ∃ (k : Nat) (q0 q1 q2 : Int), k ≤ cs.length ∧ i = .int .i64 k ∧ Hid (prevTg cs k = ⟨q0, q1, q2⟩) ∧ Hid (BxV wr G [.int .i64 q0, .int .i64 q1, .int .i64 q2]) ∧ Hid (upto (tgAtB cs) k = true) ∧ Below w.heap.size w wr) (fun i _ => cs.length - (intOf i).toNat)
    case atStart => exact ⟨0, 0, 0, 0, Nat.zero_le _, rfl, Lib.hid rfl, HX0, Lib.hid (by simp [upto]), HB0.out⟩
    case round =>
      obtain ⟨k, q0, q1, q2, hk, rfl, HP, HX, HU, hb⟩ := hrel
      have hw := hb.size
      try rw [HGE.out]
      by_cases hlt : k < cs.length
      · obtain ⟨b1, o1, hb1, rfl, e1⟩ := R1.out.resolve_left (fun e => by rw [e] at hlt; simp at hlt)
        obtain ⟨⟨x0, x1, x2⟩, hx⟩ : ∃ s, cs.getD k tgD = s := ⟨_, rfl⟩
        obtain ⟨r0, r1, r2, hok⟩ := e1 k hlt
        rw [hx] at r0 r1 r2
        simp only at r0 r1 r2
        have f0 := cell_kept r0 hb
        have f1 := cell_kept r1 hb
        have f2 := cell_kept r2 hb
        have HXX := Lib.hid hx
        have HAT := Lib.hid (tgAt_iff (t := cs) hx)
        have g0 : (0 : Int) ≤ (k : Int) := by omega
        have g1 : (k : Int) < (cs.length : Int) := by omega
        have s0 := HX.out.cell 0
        have s1 := HX.out.cell 1
        have s2 := HX.out.cell 2
        simp at s0 s1 s2
        have hgl := HX.out.lt
        obtain ⟨bC, hbC⟩ : ∃ b, tgOne ⟨x0, x1, x2⟩ = b := ⟨_, rfl⟩
        have HC := Lib.hid hbC
        clear r0 r1 r2 hok e1 hx hbC
        cases bC
        · have HNT : Hid (areTg cs = false) := Lib.hid (notTg hlt (by rw [Bool.eq_false_iff]; intro hc; have hh := HAT.out.1 hc; have := hh.1; rw [HC.out] at this; cases this))
          go_wp2_with fail
          generalize hWE : wr.alloc (.cells #[.int .i64 x0, .int .i64 x1, .int .i64 x2] 34 (0, 0)) = wE
          have bE : Below wr.heap.size wr wE := by rw [← hWE]; exact below_al (Below.refl _ _) _
          have HY : Hid (BxV wE wr.heap.size [.int .i64 x0, .int .i64 x1, .int .i64 x2]) := Lib.hid (by rw [← hWE]; exact BxV.new wr _ _)
          clear hWE
          have hwE := bE.size
          replace HX := Lib.hid (HX.out.below bE)
          replace bE := hb.trans (bE.mono hw)
          refine (isTrigger_any x0 x1 x2 _).mono ?_
          rw [HC.out]
          rintro e w2 ⟨rfl, b2⟩
          have hw2 := b2.size
          replace HX := Lib.hid (HX.out.below b2)
          replace HY := Lib.hid (HY.out.below b2)
          replace b2 := bE.trans (b2.mono bE.size)
          have t0 := HX.out.cell 0
          have t1 := HX.out.cell 1
          have t2 := HX.out.cell 2
          have y0 := HY.out.cell 0
          have y1 := HY.out.cell 1
          have y2 := HY.out.cell 2
          simp at t0 t1 t2 y0 y1 y2
          clear s0 s1 s2 f0 f1 f2
          go_wp2_with fail
          go_ret
          exact ⟨ret_bool HNT.out.symm, b2⟩
        · obtain ⟨bF, hbF⟩ : ∃ b, tgBef ⟨q0, q1, q2⟩ ⟨x0, x1, x2⟩ = b := ⟨_, rfl⟩
          have HBF := Lib.hid hbF
          clear hbF
          cases bF
          · have HNT : Hid (areTg cs = false) := Lib.hid (notTg hlt (by rw [Bool.eq_false_iff]; intro hc; have hh := HAT.out.1 hc; have := hh.2; rw [HP.out, HBF.out] at this; cases this))
            go_wp2_with fail
            generalize hWE : wr.alloc (.cells #[.int .i64 x0, .int .i64 x1, .int .i64 x2] 34 (0, 0)) = wE
            have bE : Below wr.heap.size wr wE := by rw [← hWE]; exact below_al (Below.refl _ _) _
            have HY : Hid (BxV wE wr.heap.size [.int .i64 x0, .int .i64 x1, .int .i64 x2]) := Lib.hid (by rw [← hWE]; exact BxV.new wr _ _)
            clear hWE
            have hwE := bE.size
            replace HX := Lib.hid (HX.out.below bE)
            replace bE := hb.trans (bE.mono hw)
            refine (isTrigger_any x0 x1 x2 _).mono ?_
            rw [HC.out]
            rintro e w2 ⟨rfl, b2⟩
            have hw2 := b2.size
            replace HX := Lib.hid (HX.out.below b2)
            replace HY := Lib.hid (HY.out.below b2)
            replace b2 := bE.trans (b2.mono bE.size)
            have t0 := HX.out.cell 0
            have t1 := HX.out.cell 1
            have t2 := HX.out.cell 2
            have y0 := HY.out.cell 0
            have y1 := HY.out.cell 1
            have y2 := HY.out.cell 2
            simp at t0 t1 t2 y0 y1 y2
            clear s0 s1 s2 f0 f1 f2
            go_wp2_with fail
            refine (compareTg_any ⟨q0, q1, q2⟩ ⟨x0, x1, x2⟩ _).mono ?_
            rintro e w3 ⟨n, rfl, hn, b3⟩
            rw [HBF.out] at hn
            have hw3 := b3.size
            replace HX := Lib.hid (HX.out.below b3)
            replace HY := Lib.hid (HY.out.below b3)
            have t0 := HX.out.cell 0
            have t1 := HX.out.cell 1
            have t2 := HX.out.cell 2
            have u0 := HX.out.frozen 0
            have u1 := HX.out.frozen 1
            have u2 := HX.out.frozen 2
            have y0 := HY.out.cell 0
            have y1 := HY.out.cell 1
            have y2 := HY.out.cell 2
            simp at t0 t1 t2 y0 y1 y2
            replace b3 := b2.trans (b3.mono b2.size)
            have hn' : 0 ≤ n := by simpa using hn
            clear hn
            go_wp2_with fail
            go_ret
            exact ⟨ret_bool HNT.out.symm, b3⟩
          · have HAL : Hid (tgAtB cs k = true) := Lib.hid (HAT.out.2 ⟨HC.out, by rw [HP.out]; exact HBF.out⟩)
            go_wp2_with fail
            generalize hWE : wr.alloc (.cells #[.int .i64 x0, .int .i64 x1, .int .i64 x2] 34 (0, 0)) = wE
            have bE : Below wr.heap.size wr wE := by rw [← hWE]; exact below_al (Below.refl _ _) _
            have HY : Hid (BxV wE wr.heap.size [.int .i64 x0, .int .i64 x1, .int .i64 x2]) := Lib.hid (by rw [← hWE]; exact BxV.new wr _ _)
            clear hWE
            have hwE := bE.size
            replace HX := Lib.hid (HX.out.below bE)
            replace bE := hb.trans (bE.mono hw)
            refine (isTrigger_any x0 x1 x2 _).mono ?_
            rw [HC.out]
            rintro e w2 ⟨rfl, b2⟩
            have hw2 := b2.size
            replace HX := Lib.hid (HX.out.below b2)
            replace HY := Lib.hid (HY.out.below b2)
            replace b2 := bE.trans (b2.mono bE.size)
            have t0 := HX.out.cell 0
            have t1 := HX.out.cell 1
            have t2 := HX.out.cell 2
            have y0 := HY.out.cell 0
            have y1 := HY.out.cell 1
            have y2 := HY.out.cell 2
            simp at t0 t1 t2 y0 y1 y2
            clear s0 s1 s2 f0 f1 f2
            go_wp2_with fail
            refine (compareTg_any ⟨q0, q1, q2⟩ ⟨x0, x1, x2⟩ _).mono ?_
            rintro e w3 ⟨n, rfl, hn, b3⟩
            rw [HBF.out] at hn
            have hw3 := b3.size
            replace HX := Lib.hid (HX.out.below b3)
            replace HY := Lib.hid (HY.out.below b3)
            have t0 := HX.out.cell 0
            have t1 := HX.out.cell 1
            have t2 := HX.out.cell 2
            have u0 := HX.out.frozen 0
            have u1 := HX.out.frozen 1
            have u2 := HX.out.frozen 2
            have y0 := HY.out.cell 0
            have y1 := HY.out.cell 1
            have y2 := HY.out.cell 2
            simp at t0 t1 t2 y0 y1 y2
            replace b3 := b2.trans (b3.mono b2.size)
            have hn' : n < 0 := by simpa using hn
            have dn : decide (0 ≤ n) = false := decide_eq_false (by omega)
            clear hn
            go_wp2_with fail
            go_roundw
            case rel =>
              have h1 := ((HX.out.set (cs' := [.int .i64 x0, .int .i64 q1, .int .i64 q2]) 0 (.int .i64 x0) rfl).set (cs' := [.int .i64 x0, .int .i64 x1, .int .i64 q2]) 1 (.int .i64 x1) rfl).set (cs' := [.int .i64 x0, .int .i64 x1, .int .i64 x2]) 2 (.int .i64 x2) rfl
              exact ⟨k + 1, x0, x1, x2, by omega, by go_num, Lib.hid (by rw [prevTg, HXX.out]), Lib.hid h1, Lib.hid (upto_succ HU.out HAL.out), (by have hh := ((b3.setCell (p := ⟨G, 0, none⟩) hGw (.int .i64 x0)).setCell (p := ⟨G, 1, none⟩) hGw (.int .i64 x1)).setCell (p := ⟨G, 2, none⟩) hGw (.int .i64 x2); rw [HGE.out] at hh; exact hh)⟩
            case measure => simp [intOf]; omega
      · have hkt : k = cs.length := by omega
        have HE : Hid (areTg cs = true) := Lib.hid (by have := HU.out; rw [hkt] at this; rw [tg_upto this]; have := HL.out; simp; omega)
        clear hkt
        go_wp2_with fail
        go_ret
        exact ⟨ret_bool HE.out.symm, hb⟩
end Go.Proofs.Ytenjajcknmfhfaa

namespace Go.Proofs.Ytenjajcknmfhfaa
set_option linter.unusedVariables false
open Go.RowKit Go.Sort

theorem below_drewT {n : Nat} {a b : World} (h : Below n a b) (k : Nat) : Below n a (b.drewN k) := ⟨h.os, h.tape, h.output, h.size, h.block⟩
set_option maxRecDepth 20000 in
set_option maxHeartbeats 8000000 in
theorem l10Good_any (v : Value) (t : List Tg) (w : World) (h : RowR 3 rTg w v t) :
    Calls Try.prog 72 #[v] w fun e w' => e = .returned (.bool (areTg t)) ∧ Below w.heap.size w w' := by
  have hcap := h.cap
  obtain ⟨a1, c1, rfl, hl1, hm1, r1⟩ := h.tgs
  have R1 := Lib.hid r1
  clear h r1
  unfold maxLen at hm1
  go_enter Try.func72, Try.ntmps72
  go_wp2
  go_loopw [3] (fun i wr => ∃ k : Nat, k ≤ t.length ∧ i = .int .i64 k ∧ Hid (upto (tgAtB t) k = true) ∧ Below w.heap.size w wr) (fun i _ => t.length - (intOf i).toNat)
  case atStart => exact ⟨0, Nat.zero_le _, rfl, Lib.hid (by simp [upto]), Below.refl _ _⟩
  case round =>
    obtain ⟨k, hk, rfl, HU, hb⟩ := hrel
    have hw := hb.size
    by_cases hlt : k < t.length
    · obtain ⟨b1, o1, hb1, rfl, e1⟩ := R1.out.resolve_left (fun e => by rw [e] at hlt; simp at hlt)
      obtain ⟨⟨x0, x1, x2⟩, hx⟩ : ∃ s, t.getD k tgD = s := ⟨_, rfl⟩
      obtain ⟨q0, q1, q2, hok⟩ := e1 k hlt
      rw [hx] at q0 q1 q2
      simp only at q0 q1 q2
      have f0 := cell_kept q0 hb
      have f1 := cell_kept q1 hb
      have f2 := cell_kept q2 hb
      have E1 := Lib.hid e1
      have HX := Lib.hid hx
      have HAT := Lib.hid (tgAt_iff (t := t) hx)
      have g0 : (0 : Int) ≤ (k : Int) := by omega
      have g1 : (k : Int) < (t.length : Int) := by omega
      obtain ⟨bA, hbA⟩ : ∃ b, decide ((1 : Int) ≤ x0 ∧ x0 ≤ 9) = b := ⟨_, rfl⟩
      obtain ⟨bC, hbC⟩ : ∃ b, decide ((0 : Int) ≤ x1 ∧ x1 ≤ 9) = b := ⟨_, rfl⟩
      obtain ⟨bD, hbD⟩ : ∃ b, decide ((0 : Int) ≤ x2 ∧ x2 ≤ 10000) = b := ⟨_, rfl⟩
      have HA := Lib.hid hbA
      have HC := Lib.hid hbC
      have HD := Lib.hid hbD
      clear q0 q1 q2 hok e1 hx hbA hbC hbD
      cases bA
      · have HNT : Hid (areTg t = false) := Lib.hid (notTg hlt (by rw [Bool.eq_false_iff]; intro hc; have hh := HAT.out.1 hc; exact of_decide_eq_false HA.out (tgOne_iff.1 hh.1).1))
        go_wp2_with fail
        generalize hWE : wr.alloc (.cells #[.int .i64 x0, .int .i64 x1, .int .i64 x2] 34 (0, 0)) = wE
        have bE : Below wr.heap.size wr wE := by rw [← hWE]; exact below_al (Below.refl _ _) _
        have z0 : wE.cell? ⟨wr.heap.size, 0, none⟩ = some (.int .i64 x0) := by rw [← hWE]; exact cell_new wr _ _ 0 rfl
        have z1 : wE.cell? ⟨wr.heap.size, 1, none⟩ = some (.int .i64 x1) := by rw [← hWE]; exact cell_new wr _ _ 1 rfl
        have z2 : wE.cell? ⟨wr.heap.size, 2, none⟩ = some (.int .i64 x2) := by rw [← hWE]; exact cell_new wr _ _ 2 rfl
        clear hWE
        refine (l1In_any _ _ _ _).mono ?_
        rw [HA.out]
        rintro e w' ⟨rfl, rfl⟩
        go_wp2_with fail
        go_ret
        exact ⟨ret_bool HNT.out.symm, hb.trans (bE.mono hw)⟩
      · cases bC
        · have HNT : Hid (areTg t = false) := Lib.hid (notTg hlt (by rw [Bool.eq_false_iff]; intro hc; have hh := HAT.out.1 hc; exact of_decide_eq_false HC.out (tgOne_iff.1 hh.1).2.1))
          go_wp2_with fail
          generalize hWE : wr.alloc (.cells #[.int .i64 x0, .int .i64 x1, .int .i64 x2] 34 (0, 0)) = wE
          have bE : Below wr.heap.size wr wE := by rw [← hWE]; exact below_al (Below.refl _ _) _
          have z0 : wE.cell? ⟨wr.heap.size, 0, none⟩ = some (.int .i64 x0) := by rw [← hWE]; exact cell_new wr _ _ 0 rfl
          have z1 : wE.cell? ⟨wr.heap.size, 1, none⟩ = some (.int .i64 x1) := by rw [← hWE]; exact cell_new wr _ _ 1 rfl
          have z2 : wE.cell? ⟨wr.heap.size, 2, none⟩ = some (.int .i64 x2) := by rw [← hWE]; exact cell_new wr _ _ 2 rfl
          clear hWE
          refine (l1In_any _ _ _ _).mono ?_
          rw [HA.out]
          rintro e w' ⟨rfl, rfl⟩
          go_wp2_with fail
          refine (l1In_any _ _ _ _).mono ?_
          rw [HC.out]
          rintro e w' ⟨rfl, rfl⟩
          go_wp2_with fail
          go_ret
          exact ⟨ret_bool HNT.out.symm, hb.trans (bE.mono hw)⟩
        · by_cases hE0 : x1 = x0
          · have dE0 : (x1 == x0) = true := by simp [hE0]
            have HNT : Hid (areTg t = false) := Lib.hid (notTg hlt (by rw [Bool.eq_false_iff]; intro hc; have hh := HAT.out.1 hc; exact (tgOne_iff.1 hh.1).2.2.1 hE0))
            clear hE0
            go_wp2_with fail
            generalize hWE : wr.alloc (.cells #[.int .i64 x0, .int .i64 x1, .int .i64 x2] 34 (0, 0)) = wE
            have bE : Below wr.heap.size wr wE := by rw [← hWE]; exact below_al (Below.refl _ _) _
            have z0 : wE.cell? ⟨wr.heap.size, 0, none⟩ = some (.int .i64 x0) := by rw [← hWE]; exact cell_new wr _ _ 0 rfl
            have z1 : wE.cell? ⟨wr.heap.size, 1, none⟩ = some (.int .i64 x1) := by rw [← hWE]; exact cell_new wr _ _ 1 rfl
            have z2 : wE.cell? ⟨wr.heap.size, 2, none⟩ = some (.int .i64 x2) := by rw [← hWE]; exact cell_new wr _ _ 2 rfl
            clear hWE
            refine (l1In_any _ _ _ _).mono ?_
            rw [HA.out]
            rintro e w' ⟨rfl, rfl⟩
            go_wp2_with fail
            refine (l1In_any _ _ _ _).mono ?_
            rw [HC.out]
            rintro e w' ⟨rfl, rfl⟩
            go_wp2_with fail
            go_ret
            exact ⟨ret_bool HNT.out.symm, hb.trans (bE.mono hw)⟩
          · have dE0 : (x1 == x0) = false := by simp [hE0]
            have HE0 := Lib.hid hE0
            clear hE0
            cases bD
            · have HNT : Hid (areTg t = false) := Lib.hid (notTg hlt (by rw [Bool.eq_false_iff]; intro hc; have hh := HAT.out.1 hc; exact of_decide_eq_false HD.out (tgOne_iff.1 hh.1).2.2.2))
              go_wp2_with fail
              generalize hWE : wr.alloc (.cells #[.int .i64 x0, .int .i64 x1, .int .i64 x2] 34 (0, 0)) = wE
              have bE : Below wr.heap.size wr wE := by rw [← hWE]; exact below_al (Below.refl _ _) _
              have z0 : wE.cell? ⟨wr.heap.size, 0, none⟩ = some (.int .i64 x0) := by rw [← hWE]; exact cell_new wr _ _ 0 rfl
              have z1 : wE.cell? ⟨wr.heap.size, 1, none⟩ = some (.int .i64 x1) := by rw [← hWE]; exact cell_new wr _ _ 1 rfl
              have z2 : wE.cell? ⟨wr.heap.size, 2, none⟩ = some (.int .i64 x2) := by rw [← hWE]; exact cell_new wr _ _ 2 rfl
              clear hWE
              refine (l1In_any _ _ _ _).mono ?_
              rw [HA.out]
              rintro e w' ⟨rfl, rfl⟩
              go_wp2_with fail
              refine (l1In_any _ _ _ _).mono ?_
              rw [HC.out]
              rintro e w' ⟨rfl, rfl⟩
              go_wp2_with fail
              refine (l1In_any _ _ _ _).mono ?_
              rw [HD.out]
              rintro e w' ⟨rfl, rfl⟩
              go_wp2_with fail
              go_ret
              exact ⟨ret_bool HNT.out.symm, hb.trans (bE.mono hw)⟩
            · have H1X : Hid (tgOne ⟨x0, x1, x2⟩ = true) := Lib.hid (tgOne_iff.2 ⟨of_decide_eq_true HA.out, of_decide_eq_true HC.out, HE0.out, of_decide_eq_true HD.out⟩)
              rcases Nat.eq_zero_or_pos k with hk0 | hk0
              · have dk : decide ((0 : Int) < (k : Int)) = false := decide_eq_false (by omega)
                have dk2 : decide (0 < k) = false := decide_eq_false (by omega)
                have HAL : Hid (tgAtB t k = true) := Lib.hid (HAT.out.2 ⟨H1X.out, by rw [hk0]; exact tg_first H1X.out⟩)
                clear hk0
                go_wp2_with fail
                generalize hWE : wr.alloc (.cells #[.int .i64 x0, .int .i64 x1, .int .i64 x2] 34 (0, 0)) = wE
                have bE : Below wr.heap.size wr wE := by rw [← hWE]; exact below_al (Below.refl _ _) _
                have z0 : wE.cell? ⟨wr.heap.size, 0, none⟩ = some (.int .i64 x0) := by rw [← hWE]; exact cell_new wr _ _ 0 rfl
                have z1 : wE.cell? ⟨wr.heap.size, 1, none⟩ = some (.int .i64 x1) := by rw [← hWE]; exact cell_new wr _ _ 1 rfl
                have z2 : wE.cell? ⟨wr.heap.size, 2, none⟩ = some (.int .i64 x2) := by rw [← hWE]; exact cell_new wr _ _ 2 rfl
                clear hWE
                refine (l1In_any _ _ _ _).mono ?_
                rw [HA.out]
                rintro e w' ⟨rfl, rfl⟩
                go_wp2_with fail
                refine (l1In_any _ _ _ _).mono ?_
                rw [HC.out]
                rintro e w' ⟨rfl, rfl⟩
                go_wp2_with fail
                refine (l1In_any _ _ _ _).mono ?_
                rw [HD.out]
                rintro e w' ⟨rfl, rfl⟩
                go_wp2_with fail
                go_quiet (fail)
                go_wp2_with fail
                go_roundw
                case rel => exact ⟨k + 1, by omega, by go_num, Lib.hid (upto_succ HU.out HAL.out), below_drewT (hb.trans (bE.mono hw)) _⟩
                case measure => simp [intOf]; omega
              · obtain ⟨j, rfl⟩ : ∃ j, k = j + 1 := ⟨k - 1, by omega⟩
                obtain ⟨⟨p0, p1, p2⟩, hp⟩ : ∃ s, t.getD j tgD = s := ⟨_, rfl⟩
                obtain ⟨r0, r1, r2, _⟩ := E1.out j (by omega)
                rw [hp] at r0 r1
                simp only at r0 r1
                have HPC : Hid (prevTg t (j + 1) = ⟨p0, p1, p2⟩) := Lib.hid (by rw [prevTg, hp])
                have g2 : (j : Int) < (t.length : Int) := by omega
                have g3 : (0 : Int) ≤ (j : Int) := by omega
                have g4 : (0 : Int) < (j : Int) + 1 := by omega
                have e0 := cell_kept r0 hb
                have e1 := cell_kept r1 hb
                clear r0 r1 r2 hk0 hp
                by_cases hA : x0 < p0
                · have HNT : Hid (areTg t = false) := Lib.hid (notTg hlt (by rw [Bool.eq_false_iff]; intro hc; have hh := HAT.out.1 hc; have := tgBef_iff.1 hh.2; rw [HPC.out] at this; simp only at this; omega))
                  go_wp2_with fail
                  generalize hWE : wr.alloc (.cells #[.int .i64 x0, .int .i64 x1, .int .i64 x2] 34 (0, 0)) = wE
                  have bE : Below wr.heap.size wr wE := by rw [← hWE]; exact below_al (Below.refl _ _) _
                  have z0 : wE.cell? ⟨wr.heap.size, 0, none⟩ = some (.int .i64 x0) := by rw [← hWE]; exact cell_new wr _ _ 0 rfl
                  have z1 : wE.cell? ⟨wr.heap.size, 1, none⟩ = some (.int .i64 x1) := by rw [← hWE]; exact cell_new wr _ _ 1 rfl
                  have z2 : wE.cell? ⟨wr.heap.size, 2, none⟩ = some (.int .i64 x2) := by rw [← hWE]; exact cell_new wr _ _ 2 rfl
                  clear hWE
                  have z4 := cell_kept e0 bE
                  have z5 := cell_kept e1 bE
                  refine (l1In_any _ _ _ _).mono ?_
                  rw [HA.out]
                  rintro e w' ⟨rfl, rfl⟩
                  go_wp2_with fail
                  refine (l1In_any _ _ _ _).mono ?_
                  rw [HC.out]
                  rintro e w' ⟨rfl, rfl⟩
                  go_wp2_with fail
                  refine (l1In_any _ _ _ _).mono ?_
                  rw [HD.out]
                  rintro e w' ⟨rfl, rfl⟩
                  go_wp2_with fail
                  go_quiet (fail)
                  go_wp2_with fail
                  go_ret
                  exact ⟨ret_bool HNT.out.symm, below_drewT (hb.trans (bE.mono hw)) _⟩
                · have dA : decide (x0 < p0) = false := decide_eq_false hA
                  by_cases hE : p0 = x0
                  · have dE : (p0 == x0) = true := by simp [hE]
                    have HE := Lib.hid hE
                    clear hE
                    by_cases hF : x1 ≤ p1
                    · have HNT : Hid (areTg t = false) := Lib.hid (notTg hlt (by rw [Bool.eq_false_iff]; intro hc; have hh := HAT.out.1 hc; have := tgBef_iff.1 hh.2; rw [HPC.out] at this; simp only at this; have := HE.out; omega))
                      go_wp2_with fail
                      generalize hWE : wr.alloc (.cells #[.int .i64 x0, .int .i64 x1, .int .i64 x2] 34 (0, 0)) = wE
                      have bE : Below wr.heap.size wr wE := by rw [← hWE]; exact below_al (Below.refl _ _) _
                      have z0 : wE.cell? ⟨wr.heap.size, 0, none⟩ = some (.int .i64 x0) := by rw [← hWE]; exact cell_new wr _ _ 0 rfl
                      have z1 : wE.cell? ⟨wr.heap.size, 1, none⟩ = some (.int .i64 x1) := by rw [← hWE]; exact cell_new wr _ _ 1 rfl
                      have z2 : wE.cell? ⟨wr.heap.size, 2, none⟩ = some (.int .i64 x2) := by rw [← hWE]; exact cell_new wr _ _ 2 rfl
                      clear hWE
                      have z4 := cell_kept e0 bE
                      have z5 := cell_kept e1 bE
                      refine (l1In_any _ _ _ _).mono ?_
                      rw [HA.out]
                      rintro e w' ⟨rfl, rfl⟩
                      go_wp2_with fail
                      refine (l1In_any _ _ _ _).mono ?_
                      rw [HC.out]
                      rintro e w' ⟨rfl, rfl⟩
                      go_wp2_with fail
                      refine (l1In_any _ _ _ _).mono ?_
                      rw [HD.out]
                      rintro e w' ⟨rfl, rfl⟩
                      go_wp2_with fail
                      go_quiet (fail)
                      go_wp2_with fail
                      go_ret
                      exact ⟨ret_bool HNT.out.symm, below_drewT (hb.trans (bE.mono hw)) _⟩
                    · have dF : decide (x1 ≤ p1) = false := decide_eq_false hF
                      have HAL : Hid (tgAtB t (j + 1) = true) := Lib.hid (HAT.out.2 ⟨H1X.out, by rw [HPC.out, tgBef_iff]; simp only; have := HE.out; omega⟩)
                      go_wp2_with fail
                      generalize hWE : wr.alloc (.cells #[.int .i64 x0, .int .i64 x1, .int .i64 x2] 34 (0, 0)) = wE
                      have bE : Below wr.heap.size wr wE := by rw [← hWE]; exact below_al (Below.refl _ _) _
                      have z0 : wE.cell? ⟨wr.heap.size, 0, none⟩ = some (.int .i64 x0) := by rw [← hWE]; exact cell_new wr _ _ 0 rfl
                      have z1 : wE.cell? ⟨wr.heap.size, 1, none⟩ = some (.int .i64 x1) := by rw [← hWE]; exact cell_new wr _ _ 1 rfl
                      have z2 : wE.cell? ⟨wr.heap.size, 2, none⟩ = some (.int .i64 x2) := by rw [← hWE]; exact cell_new wr _ _ 2 rfl
                      clear hWE
                      have z4 := cell_kept e0 bE
                      have z5 := cell_kept e1 bE
                      refine (l1In_any _ _ _ _).mono ?_
                      rw [HA.out]
                      rintro e w' ⟨rfl, rfl⟩
                      go_wp2_with fail
                      refine (l1In_any _ _ _ _).mono ?_
                      rw [HC.out]
                      rintro e w' ⟨rfl, rfl⟩
                      go_wp2_with fail
                      refine (l1In_any _ _ _ _).mono ?_
                      rw [HD.out]
                      rintro e w' ⟨rfl, rfl⟩
                      go_wp2_with fail
                      go_quiet (fail)
                      go_wp2_with fail
                      go_roundw
                      case rel => exact ⟨j + 1 + 1, by omega, by go_num, Lib.hid (upto_succ HU.out HAL.out), below_drewT (hb.trans (bE.mono hw)) _⟩
                      case measure => simp [intOf]; omega
                  · have dE : (p0 == x0) = false := by simp [hE]
                    have HAL : Hid (tgAtB t (j + 1) = true) := Lib.hid (HAT.out.2 ⟨H1X.out, by rw [HPC.out, tgBef_iff]; simp only; omega⟩)
                    clear hE
                    go_wp2_with fail
                    generalize hWE : wr.alloc (.cells #[.int .i64 x0, .int .i64 x1, .int .i64 x2] 34 (0, 0)) = wE
                    have bE : Below wr.heap.size wr wE := by rw [← hWE]; exact below_al (Below.refl _ _) _
                    have z0 : wE.cell? ⟨wr.heap.size, 0, none⟩ = some (.int .i64 x0) := by rw [← hWE]; exact cell_new wr _ _ 0 rfl
                    have z1 : wE.cell? ⟨wr.heap.size, 1, none⟩ = some (.int .i64 x1) := by rw [← hWE]; exact cell_new wr _ _ 1 rfl
                    have z2 : wE.cell? ⟨wr.heap.size, 2, none⟩ = some (.int .i64 x2) := by rw [← hWE]; exact cell_new wr _ _ 2 rfl
                    clear hWE
                    have z4 := cell_kept e0 bE
                    have z5 := cell_kept e1 bE
                    refine (l1In_any _ _ _ _).mono ?_
                    rw [HA.out]
                    rintro e w' ⟨rfl, rfl⟩
                    go_wp2_with fail
                    refine (l1In_any _ _ _ _).mono ?_
                    rw [HC.out]
                    rintro e w' ⟨rfl, rfl⟩
                    go_wp2_with fail
                    refine (l1In_any _ _ _ _).mono ?_
                    rw [HD.out]
                    rintro e w' ⟨rfl, rfl⟩
                    go_wp2_with fail
                    go_quiet (fail)
                    go_wp2_with fail
                    go_roundw
                    case rel => exact ⟨j + 1 + 1, by omega, by go_num, Lib.hid (upto_succ HU.out HAL.out), below_drewT (hb.trans (bE.mono hw)) _⟩
                    case measure => simp [intOf]; omega
    · obtain rfl : k = t.length := by omega
      have HE : Hid (areTg t = decide (t.length ≤ 10)) := Lib.hid (tg_upto HU.out)
      by_cases h10 : t.length ≤ 10
      · have g5 : (t.length : Int) ≤ 10 := by omega
        have HR : Hid (areTg t = true) := Lib.hid (by rw [HE.out]; exact decide_eq_true h10)
        go_wp2_with fail
        go_ret
        exact ⟨ret_bool HR.out.symm, hb⟩
      · have g5 : ¬ (t.length : Int) ≤ 10 := by omega
        have HR : Hid (areTg t = false) := Lib.hid (by rw [HE.out]; exact decide_eq_false h10)
        go_wp2_with fail
        go_ret
        exact ⟨ret_bool HR.out.symm, hb⟩
theorem specAreTriggers_any (v : Value) (t : List Tg) (w : World) (h : RowR 3 rTg w v t) :
    Calls Try.prog 13 #[v] w fun e w' => e = .returned (.bool (areTg t)) ∧ Below w.heap.size w w' := by
  have H := Lib.hid h
  clear h
  go_enter Try.func13, Try.ntmps13
  go_wp2_with (first | (go_at_call 72; refine (l10Good_any _ t _ H.out).mono ?_; rintro e w1 ⟨rfl, b1⟩))
  go_ret
  exact ⟨rfl, b1⟩
end Go.Proofs.Ytenjajcknmfhfaa

namespace Go.Proofs.Ytenjajcknmfhfaa
set_option linter.unusedVariables false
open Go.RowKit Go.Sort

theorem cellsL_new (w : World) (cs : List Value) (t : TypeId) {k : Nat} (hk : k = w.heap.size) : ∀ j u, cs[j]? = some u → (w.alloc (.cells cs.toArray t (0, 0))).cell? ((⟨k, 0, none⟩ : Addr).add j) = some u := by
  subst hk
  intro j u hj
  rw [Addr.add_lit]
  simp only [Nat.zero_add]
  rw [blk_cell (heap_alloc_new w _)]
  simpa using hj
theorem dropTg_succ {t : List Tg} {e : Int} {k : Nat} (hk : k < t.length) : dropTg (t.take (k + 1)) e = if ¬ (t.getD k tgD).ev = e ∧ ¬ (t.getD k tgD).aft = e then dropTg (t.take k) e ++ [t.getD k tgD] else dropTg (t.take k) e := by
  unfold dropTg
  rw [List.take_succ_eq_append_getElem hk, List.filter_append, ← getTg_lt hk]
  by_cases h : ¬ (t.getD k tgD).ev = e ∧ ¬ (t.getD k tgD).aft = e
  · rw [if_pos h, List.filter_cons_of_pos (by simpa using h), List.filter_nil]
  · rw [if_neg h, List.filter_cons_of_neg (by simpa using h), List.filter_nil, List.append_nil]
theorem dropTg_len (t : List Tg) (e : Int) : (dropTg t e).length ≤ t.length := List.length_filter_le _ _
theorem dropTg_mem {t : List Tg} {e : Int} {x : Tg} (h : x ∈ dropTg t e) : x ∈ t := (List.mem_filter.1 h).1
theorem dropTRes_len {t : List Tg} {e : Int} {xs : List Tg} {b : Bool} (h : dropTRes t e = (xs, b)) : xs.length ≤ t.length := by
  unfold dropTRes at h
  split at h <;> obtain ⟨rfl, _⟩ := Prod.mk.inj h
  · exact dropTg_len _ _
  · exact Nat.zero_le _
theorem TgsO.nilD (lo hi : Nat) (w : World) : TgsO lo hi w (.slice none 0 0) [] := TgsO.nil _ _ _

set_option maxRecDepth 20000 in
set_option maxHeartbeats 4000000 in
theorem specDropTg_any (v : Value) (t : List Tg) (x : Int) (w : World) (h : RowR 3 rTg w v t) (hn : t.length ≤ 1048576) (xs : List Tg) (b : Bool) (hres : dropTRes t x = (xs, b)) :
    Calls Try.prog 18 #[v, .int .i64 x] w fun e w' => ∃ v', e = .returned (.tuple #[v', .bool b]) ∧ TgsO w.heap.size w'.heap.size w' v' xs ∧ Below w.heap.size w w' := by
  obtain ⟨i0, hi, hz0, hz1, hz2⟩ := info_parts Try.info_tg
  have hok := h.tgs_ok
  have HOK := Lib.hid hok
  have b0 := below_al (Below.refl w.heap.size w) (.cells #[] 34 (0, 0))
  have H0 := Lib.hid (h.below rTg_stable b0)
  obtain ⟨a1, c1, hv, hl1, hm1, r1⟩ := h.tgs
  subst hv
  have R1 := Lib.hid r1
  unfold maxLen at hm1
  obtain ⟨bs, hs⟩ : ∃ b, areTg t = b := ⟨_, rfl⟩
  obtain ⟨bx, hx⟩ : ∃ b, decide (0 ≤ x ∧ x ≤ 9) = b := ⟨_, rfl⟩
  have HS := Lib.hid hs
  have HX := Lib.hid hx
  have HRES := Lib.hid hres
  clear h hs hx r1 hok hres
  cases bs
  · have hr := HRES.out
    unfold dropTRes at hr
    rw [if_neg (by rw [HS.out]; simp)] at hr
    obtain ⟨rfl, rfl⟩ := Prod.mk.inj hr
    clear hr HRES
    go_enter Try.func18, Try.ntmps18
    go_wp2_with (first | (go_at_call 72; refine (l10Good_any _ t _ H0.out).mono ?_; rw [HS.out]; rintro e w1 ⟨rfl, b1⟩))
    go_ret2
    exact ⟨_, rfl, ((TgsO.empty w (Nat.le_refl _)).below b1).wide (Nat.le_refl _) b1.size, below_chain b0 b1⟩
  · cases bx
    · have hr := HRES.out
      unfold dropTRes at hr
      rw [if_neg (fun q => of_decide_eq_false HX.out q.2)] at hr
      obtain ⟨rfl, rfl⟩ := Prod.mk.inj hr
      clear hr HRES
      go_enter Try.func18, Try.ntmps18
      go_wp2_with (first | (go_at_call 72; refine (l10Good_any _ t _ H0.out).mono ?_; rw [HS.out]; rintro e w1 ⟨rfl, b1⟩) | (go_at_call 79; refine (l1In_any _ _ _ _).mono ?_; rw [HX.out]; rintro e w2 ⟨rfl, h2⟩; subst w2))
      go_ret2
      exact ⟨_, rfl, ((TgsO.empty w (Nat.le_refl _)).below b1).wide (Nat.le_refl _) b1.size, below_chain b0 b1⟩
    · have hr := HRES.out
      unfold dropTRes at hr
      rw [if_pos ⟨HS.out, of_decide_eq_true HX.out⟩] at hr
      obtain ⟨rfl, rfl⟩ := Prod.mk.inj hr
      clear hr HRES
      go_enter Try.func18, Try.ntmps18
      go_wp2_with (first | (go_at_call 72; refine (l10Good_any _ t _ H0.out).mono ?_; rw [HS.out]; rintro e w1 ⟨rfl, b1⟩) | (go_at_call 79; refine (l1In_any _ _ _ _).mono ?_; rw [HX.out]; rintro e w2 ⟨rfl, h2⟩; subst w2))
      go_loopw [6, 7] (fun o i wr => ∃ k : Nat, k ≤ t.length ∧ i = .int .i64 k ∧ wr.ownsRow w.heap.size 34 3 o (dropTg (t.take k) x).length (((dropTg (t.take k) x).map tgC).flatten) ∧ Below w.heap.size w wr) (fun _ i _ => t.length - (intOf i).toNat)
      case atStart => exact ⟨0, Nat.zero_le _, rfl, (by have := ((TgsO.empty w (Nat.le_refl _)).below b1).1.1; simpa [dropTg] using this), below_chain b0 b1⟩
      case round =>
        clear b1
        obtain ⟨k, hk, rfl, hO, hb⟩ := hrel
        by_cases hlt : k < t.length
        · obtain ⟨b1, o1, hb1, rfl, e1⟩ := R1.out.resolve_left (fun e => by rw [e] at hlt; simp at hlt)
          obtain ⟨q0, q1, q2, hok⟩ := e1 k hlt
          have hsucc := dropTg_succ (e := x) hlt
          obtain ⟨P, hP⟩ : ∃ P, dropTg (t.take k) x = P := ⟨_, rfl⟩
          have hPl : P.length ≤ k := by
            rw [← hP]
            have := dropTg_len (t.take k) x
            rw [List.length_take] at this
            omega
          rw [hP] at hO hsucc
          obtain ⟨⟨x0, x1, x2⟩, hx⟩ : ∃ s, t.getD k tgD = s := ⟨_, rfl⟩
          rw [hx] at q0 q1 q2 hsucc
          simp only at q0 q1 q2 hsucc
          have f0 := cell_kept q0 hb
          have f1 := cell_kept q1 hb
          have f2 := cell_kept q2 hb
          have HSU := Lib.hid hsucc
          have g0 : (0 : Int) ≤ (k : Int) := by omega
          have g1 : (k : Int) < (t.length : Int) := by omega
          have hsz := hb.size
          clear q0 q1 q2 hok e1 hx hsucc hP
          by_cases he : x0 = x
          · have hq : (x0 != x) = false := by simp [he]
            have HSU2 := Lib.hid (HSU.out.trans (if_neg (fun q => q.1 he)))
            clear he
            have HO := Lib.hid hO
            clear hO
            go_wp2_with fail
            go_roundw
            case rel => exact ⟨k + 1, by omega, by go_num, (by rw [HSU2.out]; exact HO.out), hb⟩
            case measure => simp [intOf]; omega
          · have hq : (x0 != x) = true := by simp [he]
            by_cases hf : x1 = x
            · have hq1 : (x1 != x) = false := by simp [hf]
              have HSU2 := Lib.hid (HSU.out.trans (if_neg (fun q => q.2 hf)))
              clear he hf
              have HO := Lib.hid hO
              clear hO
              go_wp2_with fail
              go_roundw
              case rel => exact ⟨k + 1, by omega, by go_num, (by rw [HSU2.out]; exact HO.out), hb⟩
              case measure => simp [intOf]; omega
            · have hq1 : (x1 != x) = true := by simp [hf]
              have HSU2 := Lib.hid (HSU.out.trans (if_pos ⟨he, hf⟩))
              clear he hf
              go_wp2_with (first | (at_builtin; refine wpList_append_own _ rfl _ _ 24 rfl w.heap.size 34 i0 (.agg #[.int .i64 0, .int .i64 0, .int .i64 0]) 3 24 Try.underlying24 hi hz0 hz1 hz2 rfl (by decide) _ _ _ rfl (hO.alloc _) ⟨wr.heap.size, 0, none⟩ 1 1 [.int .i64 x0, .int .i64 x1, .int .i64 x2] rfl rfl (cellsL_new _ _ _ (by simp)) (by simp [Value.oneCell']) (by unfold maxLen; omega) (by omega) (by simp; omega) ?_; intro v' w4 hown' hgrow _))
              have HOWN := Lib.hid hown'
              have HB := Lib.hid (below_app hb (Nat.le_refl _) hO hgrow)
              clear hown' hgrow hO
              go_wp2_with fail
              go_roundw
              case rel => exact ⟨k + 1, by omega, by go_num, (by rw [HSU2.out]; simpa [tgC] using HOWN.out), HB.out⟩
              case measure => simp [intOf]; omega
        · obtain rfl : k = t.length := by omega
          rw [List.take_length] at hO
          have HF := Lib.hid (TgsO.of_row hO rfl (fun f hf => HOK.out f (dropTg_mem hf)))
          clear hO
          go_wp2_with fail
          go_ret2
          exact ⟨_, rfl, HF.out, hb⟩
set_option maxRecDepth 20000 in
set_option maxHeartbeats 4000000 in
theorem implDropTg_any (v : Value) (t : List Tg) (x : Int) (w : World) (h : RowR 3 rTg w v t) (hn : t.length ≤ 1048576) (xs : List Tg) (b : Bool) (hres : dropTRes t x = (xs, b)) :
    Calls Try.prog 17 #[v, .int .i64 x] w fun e w' => ∃ v', e = .returned (.tuple #[v', .bool b]) ∧ TgsO w.heap.size w'.heap.size w' v' xs ∧ Below w.heap.size w w' := by
  obtain ⟨i0, hi, hz0, hz1, hz2⟩ := info_parts Try.info_tg
  have hok := h.tgs_ok
  have HOK := Lib.hid hok
  have b0 := below_al (Below.refl w.heap.size w) (.cells #[] 34 (0, 0))
  have H0 := Lib.hid (h)
  obtain ⟨a1, c1, hv, hl1, hm1, r1⟩ := h.tgs
  subst hv
  have R1 := Lib.hid r1
  unfold maxLen at hm1
  obtain ⟨bs, hs⟩ : ∃ b, areTg t = b := ⟨_, rfl⟩
  obtain ⟨bx, hx⟩ : ∃ b, decide (0 ≤ x ∧ x ≤ 9) = b := ⟨_, rfl⟩
  have HS := Lib.hid hs
  have HX := Lib.hid hx
  have HRES := Lib.hid hres
  clear h hs hx r1 hok hres
  cases bs
  · have hr := HRES.out
    unfold dropTRes at hr
    rw [if_neg (by rw [HS.out]; simp)] at hr
    obtain ⟨rfl, rfl⟩ := Prod.mk.inj hr
    clear hr HRES
    go_enter Try.func17, Try.ntmps17
    go_wp2_with (first | (go_at_call 12; refine (implAreTg_any _ t _ H0.out).mono ?_; rw [HS.out]; rintro e w1 ⟨rfl, b1⟩))
    go_ret2
    exact ⟨_, rfl, TgsO.nil _ _ _, b1⟩
  · cases bx
    · have hr := HRES.out
      unfold dropTRes at hr
      rw [if_neg (fun q => of_decide_eq_false HX.out q.2)] at hr
      obtain ⟨rfl, rfl⟩ := Prod.mk.inj hr
      clear hr HRES
      go_enter Try.func17, Try.ntmps17
      go_wp2_with (first | (go_at_call 12; refine (implAreTg_any _ t _ H0.out).mono ?_; rw [HS.out]; rintro e w1 ⟨rfl, b1⟩) | (go_at_call 78; refine (isEom_any _ _).mono ?_; rw [HX.out]; rintro e w2 ⟨rfl, h2⟩; subst w2))
      go_ret2
      exact ⟨_, rfl, TgsO.nil _ _ _, b1⟩
    · have hr := HRES.out
      unfold dropTRes at hr
      rw [if_pos ⟨HS.out, of_decide_eq_true HX.out⟩] at hr
      obtain ⟨rfl, rfl⟩ := Prod.mk.inj hr
      clear hr HRES
      go_enter Try.func17, Try.ntmps17
      go_wp2_with (first | (go_at_call 12; refine (implAreTg_any _ t _ H0.out).mono ?_; rw [HS.out]; rintro e w1 ⟨rfl, b1⟩) | (go_at_call 78; refine (isEom_any _ _).mono ?_; rw [HX.out]; rintro e w2 ⟨rfl, h2⟩; subst w2))
      go_loopw [6, 19] (fun o i wr => ∃ k : Nat, k ≤ t.length ∧ i = .int .i64 k ∧ wr.ownsRow w.heap.size 34 3 o (dropTg (t.take k) x).length (((dropTg (t.take k) x).map tgC).flatten) ∧ Below w.heap.size w wr) (fun _ i _ => t.length - (intOf i).toNat)
      case atStart => exact ⟨0, Nat.zero_le _, rfl, (by simpa [dropTg] using (TgsO.nil w.heap.size w.heap.size _).1.1), b1⟩
      case round =>
        clear b1
        obtain ⟨k, hk, rfl, hO, hb⟩ := hrel
        by_cases hlt : k < t.length
        · obtain ⟨b1, o1, hb1, rfl, e1⟩ := R1.out.resolve_left (fun e => by rw [e] at hlt; simp at hlt)
          obtain ⟨q0, q1, q2, hok⟩ := e1 k hlt
          have hsucc := dropTg_succ (e := x) hlt
          obtain ⟨P, hP⟩ : ∃ P, dropTg (t.take k) x = P := ⟨_, rfl⟩
          have hPl : P.length ≤ k := by
            rw [← hP]
            have := dropTg_len (t.take k) x
            rw [List.length_take] at this
            omega
          rw [hP] at hO hsucc
          obtain ⟨⟨x0, x1, x2⟩, hx⟩ : ∃ s, t.getD k tgD = s := ⟨_, rfl⟩
          rw [hx] at q0 q1 q2 hsucc
          simp only at q0 q1 q2 hsucc
          have f0 := cell_kept q0 hb
          have f1 := cell_kept q1 hb
          have f2 := cell_kept q2 hb
          have HSU := Lib.hid hsucc
          have g0 : (0 : Int) ≤ (k : Int) := by omega
          have g1 : (k : Int) < (t.length : Int) := by omega
          have hsz := hb.size
          clear q0 q1 q2 hok e1 hx hsucc hP
          by_cases he : x0 = x
          · have hq : (x0 != x) = false := by simp [he]
            have HSU2 := Lib.hid (HSU.out.trans (if_neg (fun q => q.1 he)))
            clear he
            have HO := Lib.hid (hO.alloc (.cells #[.int .i64 x0, .int .i64 x1, .int .i64 x2] 34 (0, 0)))
            clear hO
            go_wp2_with fail
            go_roundw
            case rel => exact ⟨k + 1, by omega, by go_num, (by rw [HSU2.out]; exact HO.out), below_al hb _⟩
            case measure => simp [intOf]; omega
          · have hq : (x0 != x) = true := by simp [he]
            by_cases hf : x1 = x
            · have hq1 : (x1 != x) = false := by simp [hf]
              have HSU2 := Lib.hid (HSU.out.trans (if_neg (fun q => q.2 hf)))
              clear he hf
              have HO := Lib.hid (hO.alloc (.cells #[.int .i64 x0, .int .i64 x1, .int .i64 x2] 34 (0, 0)))
              clear hO
              go_wp2_with fail
              go_roundw
              case rel => exact ⟨k + 1, by omega, by go_num, (by rw [HSU2.out]; exact HO.out), below_al hb _⟩
              case measure => simp [intOf]; omega
            · have hq1 : (x1 != x) = true := by simp [hf]
              have HSU2 := Lib.hid (HSU.out.trans (if_pos ⟨he, hf⟩))
              clear he hf
              have hb2 := below_al hb (.cells #[.int .i64 x0, .int .i64 x1, .int .i64 x2] 34 (0, 0))
              have hO2 := hO.alloc (.cells #[.int .i64 x0, .int .i64 x1, .int .i64 x2] 34 (0, 0))
              go_wp2_with (first | (at_builtin; refine wpList_append_own _ rfl _ _ 24 rfl w.heap.size 34 i0 (.agg #[.int .i64 0, .int .i64 0, .int .i64 0]) 3 24 Try.underlying24 hi hz0 hz1 hz2 rfl (by decide) _ _ _ rfl (hO2.alloc _) ⟨wr.heap.size + 1, 0, none⟩ 1 1 [.int .i64 x0, .int .i64 x1, .int .i64 x2] rfl rfl (cellsL_new _ _ _ (by simp)) (by simp [Value.oneCell']) (by unfold maxLen; omega) (by omega) (by simp; omega) ?_; intro v' w4 hown' hgrow _))
              have HOWN := Lib.hid hown'
              have HB := Lib.hid (below_app hb2 (Nat.le_refl _) hO2 hgrow)
              clear hown' hgrow hO2 hO
              go_wp2_with fail
              go_roundw
              case rel => exact ⟨k + 1, by omega, by go_num, (by rw [HSU2.out]; simpa [tgC] using HOWN.out), HB.out⟩
              case measure => simp [intOf]; omega
        · obtain rfl : k = t.length := by omega
          rw [List.take_length] at hO
          have HF := Lib.hid (TgsO.of_row hO rfl (fun f hf => HOK.out f (dropTg_mem hf)))
          clear hO
          go_wp2_with fail
          go_ret2
          exact ⟨_, rfl, HF.out, hb⟩
end Go.Proofs.Ytenjajcknmfhfaa

namespace Go.Proofs.Ytenjajcknmfhfaa
set_option linter.unusedVariables false
open Go.RowKit

theorem run_append_keep {P : Program} (w : World) (base : Nat) (t ty e : TypeId) (i : TypeInfo) (z : Value) (size bytes : Nat) (ht : P.underlying t = some (.slice e)) (hi : P.info? e = some i) (hz : i.zero = some z)
    (hsize : i.size = size) (hby : i.bytes = bytes) (hzs : z.cells.size = size) (hsz : 0 < size)
    (g n cap : Nat) (xs : List Value) (hown : w.ownsRow base e size (.slice (some ⟨g, 0, none⟩) n cap) n xs)
    (ad : Addr) (m c : Nat) (news : List Value) (hl : news.length = m * size) (hnews : ∀ j u, news[j]? = some u → w.cell? (ad.add j) = some u) (h1 : ∀ u ∈ news, u.oneCell' = true)
    (h63 : n + m ≤ maxLen) (hbytes : (n + m) * bytes ≤ 140737488355328) (hbase : base ≤ w.heap.size) :
    ∃ v' w', (Builtin.append_ #[t, t] ty #[.slice (some ⟨g, 0, none⟩) n cap, .slice (some ad) m c]).run P w = .ok v' w' ∧ w'.ownsRow base e size v' (n + m) (xs ++ news) ∧
      ((v' = .slice (some ⟨g, 0, none⟩) (n + m) cap ∧ w.grownBy w' (some g)) ∨ (v'.ownBlock = some w.heap.size ∧ w.grownBy w' none)) := by
  obtain ⟨v', w', hr, h2, h3, _, h5⟩ := run_append_own_at (P := P) w base t ty e i z size bytes ht hi hz hsize hby hzs hsz _ n xs hown ad m c news hl hnews h1 h63 hbytes hbase
  refine ⟨v', w', hr, h2, ?_⟩
  subst hsize
  subst hby
  rcases hown.2 with ⟨e0, _⟩ | ⟨g', cap', cur, e0, hbg, hg, hnc, hcm, hcs, htake⟩
  · cases e0
  · simp only [Value.slice.injEq, Option.some.injEq, Addr.mk.injEq, and_true, true_and] at e0
    obtain ⟨rfl, rfl⟩ := e0
    by_cases hroom : n + m ≤ cap
    · have hfit : n * i.size + news.length ≤ cur.size := by rw [hl, hcs, ← Nat.add_mul]; exact Nat.mul_le_mul_right _ hroom
      have hr2 := run_append_room (P := P) w t ty e i ht hi g n cap cur hg ad m c news hl hnews h1 hroom hfit
      rw [hr2] at hr
      cases hr
      exact .inl ⟨rfl, h3⟩
    · have holds : ∀ j u, xs[j]? = some u → w.cell? ((⟨g, 0, none⟩ : Addr).add j) = some u := hown.cells (g := g) rfl
      have hsmall : n + m ≤ 9223372036854775807 := by simp only [maxLen] at h63; omega
      have hr2 := run_append_grow (P := P) w t ty e i z ht hi hz ⟨g, 0, none⟩ n cap xs hown.1 holds ad m c news hl hnews (by omega) (by omega) (growslice_fits (by omega) hbytes)
      rw [hr2] at hr
      cases hr
      exact .inr ⟨rfl, ⟨rfl, rfl, rfl, by simp, fun k hk _ => heap_alloc_old w.drew _ hk⟩⟩
theorem wp_append_atK {P : Program} (w : World) {o : Oper} {a : Act} {K : Act → World → Prop} {Q : Exit → Act → World → Prop} (s x : Operand) (t : TypeId)
    (ho : o.op = .call { callee := .builtin .append, args := #[s, x], argTypes := #[t, t] })
    (base : Nat) (e : TypeId) (i : TypeInfo) (z : Value) (size bytes : Nat) (ht : P.underlying t = some (.slice e)) (hi : P.info? e = some i) (hz : i.zero = some z)
    (hsize : i.size = size) (hby : i.bytes = bytes) (hzs : z.cells.size = size) (hsz : 0 < size)
    (v : Value) (n : Nat) (xs : List Value) (hs : a.eval s = v) (hown : w.ownsRow base e size v n xs)
    (ad : Addr) (m c : Nat) (news : List Value) (hx : a.eval x = .slice (some ad) m c) (hl : news.length = m * size) (hnews : ∀ j u, news[j]? = some u → w.cell? (ad.add j) = some u) (h1 : ∀ u ∈ news, u.oneCell' = true)
    (h63 : n + m ≤ maxLen) (hbytes : (n + m) * bytes ≤ 140737488355328) (hbase : base ≤ w.heap.size)
    (h : ∀ v' w', w'.ownsRow base e size v' (n + m) (xs ++ news) → w.grownBy w' v.ownBlock → (v'.ownBlock = v.ownBlock ∨ v'.ownBlock = some w.heap.size) → K (a.put o.dst v') w') : o.wp P a w K Q := by
  obtain ⟨v', w', hr, h2, h3, _, h5⟩ := run_append_own_at (P := P) w base t o.type e i z size bytes ht hi hz hsize hby hzs hsz v n xs hown ad m c news hl hnews h1 h63 hbytes hbase
  unfold Oper.wp execOp
  simp only [ho, resolve, invoke, builtin, Sem.run_bind, Sem.run_pure, Result.andThen_ok, List.map_toArray, List.map_cons, List.map_nil, hs, hx, hr]
  exact h v' w' h2 h3 h5
theorem wp_append_keep {P : Program} (w : World) {o : Oper} {a : Act} {K : Act → World → Prop} {Q : Exit → Act → World → Prop} (s x : Operand) (t : TypeId)
    (ho : o.op = .call { callee := .builtin .append, args := #[s, x], argTypes := #[t, t] })
    (base : Nat) (e : TypeId) (i : TypeInfo) (z : Value) (size bytes : Nat) (ht : P.underlying t = some (.slice e)) (hi : P.info? e = some i) (hz : i.zero = some z)
    (hsize : i.size = size) (hby : i.bytes = bytes) (hzs : z.cells.size = size) (hsz : 0 < size)
    (g n cap : Nat) (xs : List Value) (hs : a.eval s = .slice (some ⟨g, 0, none⟩) n cap) (hown : w.ownsRow base e size (.slice (some ⟨g, 0, none⟩) n cap) n xs)
    (ad : Addr) (m c : Nat) (news : List Value) (hx : a.eval x = .slice (some ad) m c) (hl : news.length = m * size) (hnews : ∀ j u, news[j]? = some u → w.cell? (ad.add j) = some u) (h1 : ∀ u ∈ news, u.oneCell' = true)
    (h63 : n + m ≤ maxLen) (hbytes : (n + m) * bytes ≤ 140737488355328) (hbase : base ≤ w.heap.size)
    (h : ∀ v' w', w'.ownsRow base e size v' (n + m) (xs ++ news) → ((v' = .slice (some ⟨g, 0, none⟩) (n + m) cap ∧ w.grownBy w' (some g)) ∨ (v'.ownBlock = some w.heap.size ∧ w.grownBy w' none)) → K (a.put o.dst v') w') : o.wp P a w K Q := by
  obtain ⟨v', w', hr, h2, h5⟩ := run_append_keep (P := P) w base t o.type e i z size bytes ht hi hz hsize hby hzs hsz g n cap xs hown ad m c news hl hnews h1 h63 hbytes hbase
  unfold Oper.wp execOp
  simp only [ho, resolve, invoke, builtin, Sem.run_bind, Sem.run_pure, Result.andThen_ok, List.map_toArray, List.map_cons, List.map_nil, hs, hx, hr]
  exact h v' w' h2 h5
theorem keep_old {w w1 w2 : World} {base e size g n cap m : Nat} {xs news : List Value} {v' : Value} (hown : w.ownsRow base e size (.slice (some ⟨g, 0, none⟩) n cap) n xs)
    (h : (v' = .slice (some ⟨g, 0, none⟩) (n + m) cap ∧ w.grownBy w1 (some g)) ∨ (v'.ownBlock = some w.heap.size ∧ w.grownBy w1 none))
    (hg : w1.grownBy w2 v'.ownBlock) (h2 : w2.ownsRow base e size v' (n + m) (xs ++ news)) : w2.ownsRow base e size (.slice (some ⟨g, 0, none⟩) n cap) n xs ∧ w.grownBy w2 (some g) := by
  rcases h with ⟨rfl, h1⟩ | ⟨hb, h1⟩
  · have hc := row_cut h2 (m := n) (by omega)
    rw [show (xs ++ news).take (n * size) = xs by rw [← hown.1]; exact List.take_left] at hc
    refine ⟨hc, ⟨hg.os.trans h1.os, hg.tape.trans h1.tape, hg.output.trans h1.output, Nat.le_trans h1.size hg.size, fun k hk hn => ?_⟩⟩
    exact (hg.block k (Nat.lt_of_lt_of_le hk h1.size) (by simpa [Value.ownBlock] using hn)).trans (h1.block k hk hn)
  · rw [hb] at hg
    have h3 : w.grownBy w2 none := ⟨hg.os.trans h1.os, hg.tape.trans h1.tape, hg.output.trans h1.output, Nat.le_trans h1.size hg.size, fun k hk hn => (hg.block k (Nat.lt_of_lt_of_le hk h1.size) (by simp; omega)).trans (h1.block k hk hn)⟩
    exact ⟨hown.kept h3 (.inr (by simp [Value.ownBlock])), ⟨h3.os, h3.tape, h3.output, h3.size, fun k hk _ => h3.block k hk (by simp)⟩⟩
end Go.Proofs.Ytenjajcknmfhfaa

namespace Go.Proofs.Ytenjajcknmfhfaa
set_option linter.unusedVariables false
open Go.RowKit Go.Sort Go.Maps

def heldV (v : Value) : Option (DataW Value × List MemPlace) := some (.held v, [])
abbrev MapN (w : World) (b n : Nat) (D : DataW Value) : Prop := w.ownsMap Try.prog 3 heldV b n D
def ptrA (A : List Nat) (k : Nat) : Value := .pointer (some ⟨A.getD k 0, 0, none⟩)
structure NK (D : DataW Value) (A : List Nat) (n : Nat) : Prop where
  tidy : Tidy D
  has_ : ∀ s : Int, has D (.int .i64 s) = decide (0 ≤ s ∧ s < (n : Int))
  at_ : ∀ (k : Nat) (zd : DataW Value), k < n → D.atKey (.int .i64 (k : Int)) zd = .held (ptrA A k)
theorem NK.start : NK (.map []) [] 0 := ⟨tidy_empty, (fun s => by rw [has_eq]; symm; simp), fun k zd h => absurd h (Nat.not_lt_zero _)⟩
theorem getD_snoc_lt {A : List Nat} {x k : Nat} (h : k < A.length) : (A ++ [x]).getD k 0 = A.getD k 0 := by simp [List.getD, List.getElem?_append_left h]
theorem getD_snoc_eq {A : List Nat} {x : Nat} : (A ++ [x]).getD A.length 0 = x := by simp [List.getD]
theorem NK.put {D : DataW Value} {A : List Nat} (h : NK D A A.length) (x : Nat) : NK (D.put (.int .i64 (A.length : Int)) (.held (.pointer (some ⟨x, 0, none⟩)))) (A ++ [x]) (A.length + 1) := by
  have hk : WideAt.IsKeyLit (.int .i64 (A.length : Int)) := trivial
  refine ⟨h.tidy.put hk _, fun s => ?_, fun k zd hl => ?_⟩
  · by_cases e : s = (A.length : Int)
    · subst e; rw [has_put_same h.tidy.isMap hk]; symm; rw [decide_eq_true_eq]; omega
    · rw [has_put_other (by simp; exact e), h.has_, Bool.eq_iff_iff]; simp; omega
  · by_cases e : k = A.length
    · subst e
      rw [atKey_put_same h.tidy.isMap hk]
      unfold ptrA
      rw [getD_snoc_eq]
    · rw [atKey_put_other (by simp; omega), h.at_ k zd (by omega)]
      unfold ptrA
      rw [getD_snoc_lt (by omega)]
structure AK (A : List Nat) (lo hi : Nat) : Prop where
  len : A.length = 10
  ne : ∀ i j, i < 10 → j < 10 → i ≠ j → A.getD i 0 ≠ A.getD j 0
  lt : ∀ i, i < 10 → lo ≤ A.getD i 0 ∧ A.getD i 0 < hi
def linkC (A : List Nat) (x : Tg) : List Value := [ptrA A x.aft.toNat, .int .i64 x.days]
structure NodS (w : World) (LO : Nat) (A : List Nat) (t : List Tg) (sv : Nat → Value) : Prop where
  box : ∀ k, k < 10 → BxV w (A.getD k 0) [.int .i64 (k : Int), sv k]
  row : ∀ k, k < 10 → w.ownsRow LO 158 2 (sv k) (folL t (k : Int)).length (((folL t (k : Int)).map (linkC A)).flatten)
  apart : ∀ k j, k < 10 → j < 10 → k ≠ j → ∀ g, (sv k).ownBlock = some g → (sv j).ownBlock ≠ some g
theorem folL_snoc (t : List Tg) (x : Tg) (k : Int) : folL (t ++ [x]) k = if x.ev = k then folL t k ++ [x] else folL t k := by
  unfold folL
  rw [List.filter_append]
  by_cases h : x.ev = k
  · rw [if_pos h, List.filter_cons_of_pos (by simpa using h), List.filter_nil]
  · rw [if_neg h, List.filter_cons_of_neg (by simpa using h), List.filter_nil, List.append_nil]
section
variable {w w' w3 : World} {LO lo hi : Nat} {A : List Nat} {t : List Tg} {sv : Nat → Value}
theorem NodS.below (h : NodS w LO A t sv) (hb : Below w.heap.size w w') : NodS w' LO A t sv :=
  ⟨fun k hk => (h.box k hk).below hb, fun k hk => (h.row k hk).kept (grownBy_of_below hb none) (by rcases e : (sv k).ownBlock with _ | g; (· exact .inl rfl); (· exact .inr (by simp))), h.apart⟩
theorem NodS.step (h : NodS w LO A t sv) (ha : AK A lo LO) (x : Tg) (k0 : Nat) (hk0 : k0 < 10) (hx : x.ev = (k0 : Int)) (tmp : Obj) (v3 : Value)
    (hg : (w.alloc tmp).grownBy w3 (sv k0).ownBlock) (hor : v3.ownBlock = (sv k0).ownBlock ∨ v3.ownBlock = some (w.alloc tmp).heap.size) (hLO : LO ≤ w.heap.size)
    (hown : w3.ownsRow LO 158 2 v3 ((folL t (k0 : Int)).length + 1) (((folL t (k0 : Int)).map (linkC A)).flatten ++ linkC A x)) :
    NodS (w3.setCell ⟨A.getD k0 0, 1, none⟩ v3) LO A (t ++ [x]) (fun k => if k = k0 then v3 else sv k) := by
  have h1 : NodS (w.alloc tmp) LO A t sv := h.below (below_al (Below.refl _ _) tmp)
  have hne : ∀ k, k < 10 → some (A.getD k 0) ≠ (sv k0).ownBlock := fun k hk e => by
    have := ((h.row k0 hk0).lt _ e.symm).1
    have := (ha.lt k hk).2
    omega
  refine ⟨fun k hk => ?_, fun k hk => ?_, fun k j hk hj hkj g e1 e2 => ?_⟩
  · have hb := (h1.box k hk).grown hg (hne k hk)
    by_cases e : k = k0
    · subst e
      rw [if_pos rfl]
      exact hb.set 1 v3 rfl
    · rw [if_neg e]
      exact hb.other (ha.ne k k0 hk hk0 e)
  · by_cases e : k = k0
    · subst e
      rw [if_pos rfl, folL_snoc, if_pos hx, List.length_append, List.length_singleton, List.map_append, List.flatten_append]
      have := ownsRow_setCell_below hown (a := ⟨A.getD k 0, 1, none⟩) (ha.lt k hk).2 v3
      simpa using this
    · rw [if_neg e, folL_snoc, if_neg (by rw [hx]; omega)]
      have hr := (h1.row k hk).kept hg (by
        rcases q : (sv k).ownBlock with _ | g
        · exact .inl rfl
        · exact .inr (fun z => h.apart k k0 hk hk0 e g q z.symm))
      exact ownsRow_setCell_below hr (a := ⟨A.getD k0 0, 1, none⟩) (ha.lt k0 hk0).2 v3
  · by_cases a1 : k = k0
    · subst a1
      rw [if_pos rfl] at e1
      rw [if_neg (Ne.symm hkj)] at e2
      rcases hor with q | q
      · exact h.apart k j hk hj hkj g (q.symm.trans e1) e2
      · have h3 := ((h1.row j hj).lt _ e2).2
        rw [e1] at q
        cases q
        omega
    · rw [if_neg a1] at e1
      by_cases a2 : j = k0
      · subst a2
        rw [if_pos rfl] at e2
        rcases hor with q | q
        · exact h.apart k j hk hj hkj g e1 (q.symm.trans e2)
        · have h3 := ((h1.row k hk).lt _ e1).2
          rw [e2] at q
          cases q
          omega
      · rw [if_neg a2] at e2
        exact h.apart k j hk hj hkj g e1 e2
end
structure NodR (hi : Nat) (w : World) (A : List Nat) (t : List Tg) : Prop where
  size : hi ≤ w.heap.size
  adr : ∀ k, k < 10 → A.getD k 0 < hi
  kind : ∀ k, k < 10 → w.cell? ⟨A.getD k 0, 0, none⟩ = some (.int .i64 (k : Int))
  fol : ∀ k, k < 10 → ∃ a c, w.cell? ⟨A.getD k 0, 1, none⟩ = some (.slice a (folL t (k : Int)).length c) ∧ (folL t (k : Int)).length ≤ c ∧ c ≤ maxLen ∧
    (folL t (k : Int) = [] ∨ ∃ b off, b < hi ∧ a = some ⟨b, off, none⟩ ∧ ∀ i, i < (folL t (k : Int)).length → w.cell? ⟨b, off + i * 2, none⟩ = some (ptrA A ((folL t (k : Int)).getD i tgD).aft.toNat) ∧ w.cell? ⟨b, off + i * 2 + 1, none⟩ = some (.int .i64 ((folL t (k : Int)).getD i tgD).days))
theorem NodR.below {hi : Nat} {w w' : World} {A : List Nat} {t : List Tg} (h : NodR hi w A t) (hb : Below hi w w') : NodR hi w' A t := by
  refine ⟨Nat.le_trans h.size hb.size, h.adr, fun k hk => (hb.cell (p := ⟨A.getD k 0, 0, none⟩) (h.adr k hk)).trans (h.kind k hk), fun k hk => ?_⟩
  obtain ⟨a, c, h1, h2, h3, h4⟩ := h.fol k hk
  refine ⟨a, c, (hb.cell (p := ⟨A.getD k 0, 1, none⟩) (h.adr k hk)).trans h1, h2, h3, h4.imp id ?_⟩
  rintro ⟨b, off, hl, rfl, hc⟩
  exact ⟨b, off, hl, rfl, fun i hi => ⟨(hb.cell (p := ⟨b, off + i * 2, none⟩) hl).trans (hc i hi).1, (hb.cell (p := ⟨b, off + i * 2 + 1, none⟩) hl).trans (hc i hi).2⟩⟩
theorem linkC_len (A : List Nat) (x : Tg) : (linkC A x).length = 2 := rfl
theorem flat2_at {α : Type} {f : α → List Value} (hf : ∀ a, (f a).length = 2) : ∀ (l : List α) (d : α) (i j : Nat), i < l.length → j < 2 → (l.map f).flatten[i * 2 + j]? = (f (l.getD i d))[j]?
  | [], _, _, _, h, _ => absurd h (by simp)
  | a :: l, d, 0, j, h, hj => by
    simp only [List.map_cons, List.flatten_cons, Nat.zero_mul, Nat.zero_add, List.getD_cons_zero]
    rw [List.getElem?_append_left (by rw [hf]; exact hj)]
  | a :: l, d, i + 1, j, h, hj => by
    simp only [List.map_cons, List.flatten_cons, List.getD_cons_succ]
    rw [List.getElem?_append_right (by rw [hf]; omega), hf, show (i + 1) * 2 + j - 2 = i * 2 + j by omega]
    exact flat2_at hf l d i j (by simpa using h) hj
theorem own_shape {w : World} {base e size n : Nat} {v : Value} {xs : List Value} (h : w.ownsRow base e size v n xs) : ∃ a c, v = .slice a n c ∧ n ≤ c ∧ c ≤ maxLen := by
  rcases h.2 with ⟨rfl, rfl⟩ | ⟨g, cap, cur, rfl, _, _, h3, h4, _⟩
  · exact ⟨none, 0, rfl, Nat.le_refl _, Nat.zero_le _⟩
  · exact ⟨_, _, rfl, h3, h4⟩
theorem NodS.reads {w : World} {LO lo : Nat} {A : List Nat} {t : List Tg} {sv : Nat → Value} (h : NodS w LO A t sv) (ha : AK A lo LO) : NodR w.heap.size w A t := by
  refine ⟨Nat.le_refl _, fun k hk => (h.box k hk).lt, fun k hk => by have := (h.box k hk).cell 0; simpa using this, fun k hk => ?_⟩
  have hr := h.row k hk
  have hc := (h.box k hk).cell 1
  obtain ⟨a, c, e, h1, h2⟩ := own_shape hr
  rw [e] at hc hr
  refine ⟨a, c, by simpa using hc, h1, h2, ?_⟩
  rcases hr.2 with ⟨_, h0⟩ | ⟨g, cap, cur, e2, _, hg, _⟩
  · exact .inl (List.length_eq_zero_iff.1 h0)
  · simp only [Value.slice.injEq, true_and] at e2
    obtain ⟨rfl, rfl⟩ := e2
    have hcells := hr.cells (g := g) rfl
    refine .inr ⟨g, 0, (hr.lt g rfl).2, rfl, fun i hi => ?_⟩
    have c0 := hcells (i * 2 + 0) (ptrA A ((folL t (k : Int)).getD i tgD).aft.toNat) (by rw [flat2_at (linkC_len A) _ tgD i 0 hi (by omega)]; rfl)
    have c1 := hcells (i * 2 + 1) (.int .i64 ((folL t (k : Int)).getD i tgD).days) (by rw [flat2_at (linkC_len A) _ tgD i 1 hi (by omega)]; rfl)
    rw [Addr.add_lit] at c0 c1
    exact ⟨by simpa using c0, by simpa [Nat.add_assoc] using c1⟩
theorem key_n (s : Int) (h : inI s) : keyOf Try.prog 3 (.int .i64 s) = some (.int .i64 s) :=
  keyOf_int_mk Try.underlying3 (by unfold inI at h; simp [Lit.wf, IntKind.min, IntKind.max, IntKind.signed, IntKind.bits]; omega)
theorem zero_node (w : World) : (zeroValue 97).run Try.prog w = .ok (.pointer none) w := by kernel_rfl
theorem look_node {w : World} {b n m : Nat} {D : DataW Value} {A : List Nat} (h : MapN w b n D) (hk : NK D A m) (k : Nat) (hm : k < m) (h10 : m ≤ 10) :
    (Instr.lookup 95 (.map (some b)) (.int .i64 (k : Int)) false).run Try.prog w = .ok (ptrA A k) w := by
  obtain ⟨u, ps, hr, hu⟩ := h.lookup (int_keyed Try.underlying3) Try.underlying95 (z := .pointer none) (zero_node w) (zd := .held (.pointer none)) (zp := []) rfl (key_n (k : Int) (by simp [inI]; omega))
  rw [hk.at_ k _ hm] at hu
  simp only [heldV, Option.some.injEq, Prod.mk.injEq, DataW.held.injEq] at hu
  rw [← hu.1]; exact hr
def NodesD (t : List Tg) (w : World) (e : Ending) (w' : World) : Prop := ∃ (mb : Nat) (D : DataW Value) (A : List Nat), e = .returned (.map (some mb)) ∧ MapN w' mb 10 D ∧ NK D A 10 ∧ NodR w'.heap.size w' A t ∧ w.heap.size ≤ mb ∧ Below w.heap.size w w'
theorem Try.info_link : (Try.prog.info? 158).map (fun i => (i.zero, i.size, i.bytes)) = some (some (.agg #[.pointer none, .int .i64 0]), 2, 16) := by kernel_rfl
theorem below_drewD {n : Nat} {a b : World} (h : Below n a.drew b) : Below n a b := ⟨h.os, h.tape, h.output, h.size, h.block⟩
theorem al_frozenT {w : World} {p : Addr} (h : w.frozen? p = false) (o : Obj) (hp : p.block < w.heap.size) : (w.alloc o).frozen? p = false := ((below_al (Below.refl w.heap.size w) o).frozen hp).trans h
theorem mapN_kept {w w' : World} {b n : Nat} {D : DataW Value} {row : Option Nat} (h : MapN w b n D) (hg : w.grownBy w' row) (hn : some b ≠ row) : MapN w' b n D := h.kept hg hn

theorem grownBy_setCellT (w : World) (a : Addr) (u : Value) : w.grownBy (w.setCell a u) (some a.block) := ⟨rfl, rfl, rfl, by simp, fun k hk hn => Below.heap_setCell w a u k (fun e => hn (by rw [e]))⟩
theorem nodes_round {w wo wB w3 : World} {A : List Nat} {t T1 : List Tg} {sv : Nat → Value} {D : DataW Value} {n0 n1 G0 G1 L : Nat} {x2 : Int} {sa va : Option Addr} {sc vc : Nat} {tmp : Obj}
    (hs : NodS wB wo.heap.size A t sv) (ha : AK A (w.heap.size + 1) wo.heap.size) (hm : MapN wB w.heap.size 10 D) (hb : Below w.heap.size w wB) (hn0 : n0 < 10) (hT : T1 = t ++ [⟨(n0 : Int), (n1 : Int), x2⟩])
    (hsx : sv n0 = .slice sa L sc) (hL : (folL t (n0 : Int)).length = L) (hG0 : A.getD n0 0 = G0) (hG1 : A.getD n1 0 = G1) (hsz : wo.heap.size ≤ wB.heap.size)
    (hg : (wB.alloc tmp).drew.grownBy w3 (Value.slice sa L sc).ownBlock) (hor : (Value.slice va (L + 1) vc).ownBlock = (Value.slice sa L sc).ownBlock ∨ (Value.slice va (L + 1) vc).ownBlock = some (wB.alloc tmp).drew.heap.size)
    (hown : w3.ownsRow wo.heap.size 158 2 (.slice va (L + 1) vc) (L + 1) (((folL t (n0 : Int)).map (linkC A)).flatten ++ [.pointer (some ⟨G1, 0, none⟩), .int .i64 x2])) :
    ∃ sv', Hid (NodS (w3.setCell ⟨G0, 1, none⟩ (.slice va (L + 1) vc)) wo.heap.size A T1 sv') ∧ Hid (MapN (w3.setCell ⟨G0, 1, none⟩ (.slice va (L + 1) vc)) w.heap.size 10 D) ∧ Below w.heap.size w (w3.setCell ⟨G0, 1, none⟩ (.slice va (L + 1) vc)) ∧ wo.heap.size ≤ (w3.setCell ⟨G0, 1, none⟩ (.slice va (L + 1) vc)).heap.size := by
  subst hG0 hG1 hT hL
  have hA := ha.lt n0 hn0
  have hrl : ∀ g, (Value.slice sa (folL t (n0 : Int)).length sc).ownBlock = some g → wo.heap.size ≤ g := fun g e => ((hs.row n0 hn0).lt g (by rw [hsx]; exact e)).1
  have hg2 : (wB.alloc tmp).grownBy w3 (Value.slice sa (folL t (n0 : Int)).length sc).ownBlock := ⟨hg.os, hg.tape, hg.output, hg.size, hg.block⟩
  have hs3 : wB.heap.size + 1 ≤ w3.heap.size := by have := hg2.size; simpa using this
  have hbs := hb.size
  refine ⟨_, Lib.hid (hs.step ha ⟨(n0 : Int), (n1 : Int), x2⟩ n0 hn0 rfl tmp (.slice va _ vc) (w3 := w3) (by rw [hsx]; exact hg2) (by rw [hsx]; exact hor) hsz (by unfold linkC ptrA; simp only [Int.toNat_natCast]; exact hown)), Lib.hid ?_, ?_, by simp; omega⟩
  · have h1 : MapN w3 w.heap.size 10 D := mapN_kept (mapN_kept hm (grownBy_of_below (below_al (Below.refl _ _) tmp) none) (by simp)) hg2 (fun e => by have := hrl _ e.symm; omega)
    exact mapN_kept h1 (grownBy_setCellT _ ⟨A.getD n0 0, 1, none⟩ _) (fun q => by have := Option.some.inj q; simp only at this; omega)
  · have h1 : Below w.heap.size w w3 := (hb.alloc hbs tmp).grown hg2 (by simp; omega) (fun g e => by have := hrl g e; omega)
    exact h1.setCell (p := ⟨A.getD n0 0, 1, none⟩) (by show w.heap.size ≤ A.getD n0 0; omega) _

end Go.Proofs.Ytenjajcknmfhfaa

namespace Go.Proofs.Ytenjajcknmfhfaa
set_option linter.unusedVariables false
open Go.RowKit Go.Sort Go.Maps

def expD (d : Int) : Int × Bool := if d < 0 then (0, false) else (d, true)
theorem expD_neg {d : Int} (h : d < 0) : expD d = (0, false) := if_pos h
theorem expD_pos {d : Int} (h : 0 ≤ d) : expD d = (d, true) := if_neg (by omega)
theorem below_drewE {n : Nat} {a b : World} (h : Below n a b) (k : Nat) : Below n a (b.drewN k) := ⟨h.os, h.tape, h.output, h.size, h.block⟩
theorem goL_neg {D : Int → Int} {L : List Tg} {k : Nat} {m : Int} (hk : k < L.length) (h : D (L.getD k tgD).aft < 0) : goL D (L.drop k) m = -1 := by
  rw [List.drop_eq_getElem_cons hk, ← getTg_lt hk]
  unfold goL
  rw [if_pos h]
theorem goL_step {D : Int → Int} {L : List Tg} {k : Nat} {m : Int} (hk : k < L.length) (h : 0 ≤ D (L.getD k tgD).aft) : goL D (L.drop k) m = goL D (L.drop (k + 1)) (max m (D (L.getD k tgD).aft + (L.getD k tgD).days)) := by
  rw [List.drop_eq_getElem_cons hk, ← getTg_lt hk]
  conv => lhs; unfold goL
  rw [if_neg (by omega)]
set_option maxRecDepth 20000 in
set_option maxHeartbeats 8000000 in
theorem expectedDay_any (t : List Tg) (ht : areTg t = true) (hc : cycF t = none) (A : List Nat) (hi : Nat) : ∀ (f k : Nat) (w : World), NodR hi w A t → k < 10 → shortW t (k : Int) f →
    Calls Try.prog 146 #[ptrA A k] w fun e w' => e = .returned (.tuple #[.int .i64 (expD (dayX t (k : Int))).1, .bool (expD (dayX t (k : Int))).2]) ∧ Below w.heap.size w w' := by
  intro f
  induction f with
  | zero => intro k w _ _ h; exact absurd (shortW_pos h) (Nat.lt_irrefl _)
  | succ f ih =>
    intro k w hnr hk hsh
    have IH := Lib.hid ih
    have HNR := Lib.hid hnr
    have HT := Lib.hid ht
    have HC := Lib.hid hc
    have HSH := Lib.hid hsh
    obtain ⟨L, hL⟩ : ∃ l, folL t (k : Int) = l := ⟨_, rfl⟩
    have HLM : Hid (∀ x ∈ L, x ∈ folL t (k : Int)) := Lib.hid (fun x hx => by rw [hL]; exact hx)
    obtain ⟨fa, fc, hf1, hf2, hf3, hf4⟩ := hnr.fol k hk
    rw [hL] at hf1 hf2 hf4
    have hLl : L.length ≤ 10 := by rw [← hL]; exact Nat.le_trans (folL_len _) (tg_len ht)
    have hkd := hnr.kind k hk
    have HF4 := Lib.hid hf4
    unfold maxLen at hf3
    obtain ⟨dk, hdk⟩ : ∃ d, dayX t (k : Int) = d := ⟨_, rfl⟩
    have HDK : Hid ((k = 0 ∧ L = [] ∧ dk = 0) ∨ (k ≠ 0 ∧ dk = goL (dayX t) L (-1))) := Lib.hid (by
      by_cases h0 : k = 0
      · refine .inl ⟨h0, ?_, ?_⟩
        · rw [← hL, h0]; exact folL_zero ht (by omega)
        · rw [← hdk, h0]; exact dayX_zero t
      · refine .inr ⟨h0, ?_⟩
        rw [← hdk, dayX_goL ht hc (by omega), hL])
    rw [hdk]
    obtain ⟨P, hP⟩ : ∃ p, A.getD k 0 = p := ⟨_, rfl⟩
    have hadr := hnr.adr k hk
    have hhs := hnr.size
    unfold ptrA
    rw [hP] at hf1 hadr hkd
    rw [hP]
    have HK1 := Lib.hid (show ∀ W, Below w.heap.size w W → W.cell? ⟨P, 0, none⟩ = some (.int .i64 (k : Int)) ∧ W.cell? ⟨P, 1, none⟩ = some (.slice fa L.length fc) from fun W hW => ⟨cell_kept hkd hW, cell_kept hf1 hW⟩)
    clear ih hnr ht hc hsh hL hf4 hdk hP
    go_enter Try.func146, Try.ntmps146
    go_wp2_with fail
    go_loopw [4, 14] (fun o i wr => ∃ (j : Nat) (dd m : Int), j ≤ L.length ∧ i = .int .i64 j ∧ o = .int .i64 dd ∧ Hid (goL (dayX t) L (-1) = goL (dayX t) (L.drop j) m) ∧ Hid ((j = 0 ∧ m = -1 ∧ dd = 0) ∨ (0 < j ∧ m = dd)) ∧ 0 ≤ dd ∧ dd ≤ 200000 ∧ Below w.heap.size w wr) (fun _ i _ => L.length - (intOf i).toNat)
    case atStart => exact ⟨0, 0, -1, Nat.zero_le _, rfl, rfl, Lib.hid (by rw [List.drop_zero]), Lib.hid (.inl ⟨rfl, rfl, rfl⟩), by omega, by omega, Below.refl _ _⟩
    case round =>
      obtain ⟨j, dd, m, hj, rfl, rfl, HGO, HM, hd0, hd1, hb⟩ := hrel
      have hsz := hb.size
      by_cases hlt : j < L.length
      · obtain ⟨fb, fo, hfb, rfl, hfe⟩ := HF4.out.resolve_left (fun e => by rw [e] at hlt; simp at hlt)
        obtain ⟨⟨x0, x1, x2⟩, hx⟩ : ∃ x, L.getD j tgD = x := ⟨_, rfl⟩
        obtain ⟨q0, q1⟩ := hfe j hlt
        rw [hx] at q0 q1
        simp only at q0 q1
        have hxL : (⟨x0, x1, x2⟩ : Tg) ∈ folL t (k : Int) := HLM.out _ (by rw [← hx, getTg_lt hlt]; exact List.getElem_mem hlt)
        have hone := tgOne_iff.1 (tg_mem HT.out (folL_mem.1 hxL).1)
        simp only at hone
        obtain ⟨n1, rfl⟩ : ∃ n : Nat, x1 = (n : Int) := ⟨x1.toNat, by omega⟩
        have hn1 : n1 < 10 := by omega
        have hx2 := hone.2.2.2
        have HS1 : Hid (shortW t (n1 : Int) f) := Lib.hid (shortW_link HSH.out hxL)
        rw [Int.toNat_natCast] at q0
        have f0 := cell_kept q0 hb
        have f1 := cell_kept q1 hb
        unfold ptrA at f0
        obtain ⟨P1, hP1⟩ : ∃ p, A.getD n1 0 = p := ⟨_, rfl⟩
        rw [hP1] at f0
        have hba := below_al hb (.cells #[.pointer (some ⟨P1, 0, none⟩), .int .i64 x2] 158 (0, 0))
        have g0 : (0 : Int) ≤ (j : Int) := by omega
        have g1 : (j : Int) < (L.length : Int) := by omega
        have HX := Lib.hid hx
        obtain ⟨d1, hd⟩ : ∃ d, dayX t (n1 : Int) = d := ⟨_, rfl⟩
        have hdin := dayX_in HT.out (n1 : Int)
        rw [hd] at hdin
        have HCALL : Hid (Calls Try.prog 146 #[.pointer (some ⟨P1, 0, none⟩)] (wr.alloc (.cells #[.pointer (some ⟨P1, 0, none⟩), .int .i64 x2] 158 (0, 0))) fun e w' => e = .returned (.tuple #[.int .i64 (expD d1).1, .bool (expD d1).2]) ∧ Below (wr.alloc (.cells #[.pointer (some ⟨P1, 0, none⟩), .int .i64 x2] 158 (0, 0))).heap.size (wr.alloc (.cells #[.pointer (some ⟨P1, 0, none⟩), .int .i64 x2] 158 (0, 0))) w') := Lib.hid (by
          have := IH.out n1 (wr.alloc (.cells #[.pointer (some ⟨P1, 0, none⟩), .int .i64 x2] 158 (0, 0))) (HNR.out.below (hba.mono hhs)) hn1 HS1.out
          unfold ptrA at this
          rw [hP1, hd] at this
          exact this)
        have zl := cell_new wr #[.pointer (some ⟨P1, 0, none⟩), .int .i64 x2] 158 1 (v := .int .i64 x2) rfl
        have HD1 := Lib.hid hd
        clear q0 q1 hfe hxL hone hx hd hP1
        by_cases hneg : d1 < 0
        · rw [expD_neg hneg] at HCALL
          have HR : Hid (dk = -1) := Lib.hid (by
            rcases HDK.out with ⟨_, h1, _⟩ | ⟨_, h1⟩
            · rw [h1] at hlt; simp at hlt
            · rw [h1, HGO.out]
              exact goL_neg hlt (by rw [HX.out]; simp only; rw [HD1.out]; exact hneg))
          clear hneg
          go_wp2_with fail
          refine HCALL.out.mono ?_
          rintro e w2 ⟨rfl, b2⟩
          go_wp2_with fail
          go_ret2
          exact ⟨by rw [HR.out]; rfl, hba.trans (b2.mono hba.size)⟩
        · have hpos : 0 ≤ d1 := by omega
          rw [expD_pos hpos] at HCALL
          have HG2 : Hid (goL (dayX t) L (-1) = goL (dayX t) (L.drop (j + 1)) (max m (d1 + x2))) := Lib.hid (by
            rw [HGO.out, goL_step hlt (by rw [HX.out]; simp only; rw [HD1.out]; exact hpos), HX.out]
            simp only
            rw [HD1.out])
          have hsum : d1 + x2 ≤ 110000 := by omega
          have hsum0 : 0 ≤ d1 + x2 := by omega
          clear hneg
          have HMX : Hid (max m (d1 + x2) = max dd (d1 + x2)) := Lib.hid (by rcases HM.out with ⟨_, h1, h2⟩ | ⟨_, h1⟩ <;> omega)
          by_cases hmx : dd < d1 + x2
          · have HRS : Hid (max dd (d1 + x2) = d1 + x2) := Lib.hid (by omega)
            have hmx2 : max dd (d1 + x2) = d1 + x2 := HRS.out
            go_wp2_with fail
            refine HCALL.out.mono ?_
            rintro e w2 ⟨rfl, b2⟩
            have z2 := cell_kept zl b2
            go_wp2_with fail
            go_roundw
            case rel => exact ⟨j + 1, d1 + x2, d1 + x2, by omega, by go_num, by first | rfl | (rw [if_pos hmx]) | (rw [hmx2]), Lib.hid (by rw [HG2.out, HMX.out, HRS.out]), Lib.hid (.inr ⟨by omega, rfl⟩), by omega, by omega, hba.trans (b2.mono hba.size)⟩
            case measure => simp [intOf]; omega
          · have HRS : Hid (max dd (d1 + x2) = dd) := Lib.hid (by omega)
            have hmx2 : max dd (d1 + x2) = dd := HRS.out
            go_wp2_with fail
            refine HCALL.out.mono ?_
            rintro e w2 ⟨rfl, b2⟩
            have z2 := cell_kept zl b2
            go_wp2_with fail
            go_roundw
            case rel => exact ⟨j + 1, dd, dd, by omega, by go_num, by first | rfl | (rw [if_neg hmx]) | (rw [hmx2]), Lib.hid (by rw [HG2.out, HMX.out, HRS.out]), Lib.hid (.inr ⟨by omega, rfl⟩), by omega, by omega, hba.trans (b2.mono hba.size)⟩
            case measure => simp [intOf]; omega
      · have hjl : j = L.length := by omega
        have HE : Hid (goL (dayX t) L (-1) = m) := Lib.hid (by rw [HGO.out, hjl, List.drop_length]; rfl)
        obtain ⟨y0, y1⟩ := HK1.out _ hb
        by_cases h0 : k = 0
        · have r0 : ((k : Int) == 0) = true := by rw [beq_iff_eq]; omega
          have HR : Hid (dk = 0 ∧ dd = 0) := Lib.hid (by
            rcases HDK.out with ⟨_, h1, h2⟩ | ⟨h1, _⟩
            · rw [h1] at hjl
              simp at hjl
              rcases HM.out with ⟨_, _, h3⟩ | ⟨h3, _⟩
              · exact ⟨h2, h3⟩
              · omega
            · exact absurd h0 h1)
          clear h0 hjl hk
          go_wp2_with fail
          go_quiet (fail)
          go_wp2_with fail
          go_ret2
          exact ⟨by rw [HR.out.1, HR.out.2]; rfl, below_drewE hb _⟩
        · have r0 : ((k : Int) == 0) = false := by rw [beq_eq_false_iff_ne]; omega
          have HDG : Hid (dk = m) := Lib.hid (by
            rcases HDK.out with ⟨h1, _⟩ | ⟨_, h1⟩
            · exact absurd h1 h0
            · rw [h1, HE.out])
          by_cases hl0 : L.length = 0
          · have HR : Hid (dk = -1 ∧ dd = 0) := Lib.hid (by
              rcases HM.out with ⟨_, h2, h3⟩ | ⟨h3, _⟩
              · exact ⟨by rw [HDG.out, h2], h3⟩
              · omega)
            have gl : ¬ (0 : Int) < (L.length : Int) := by omega
            have gl3 : decide (0 < L.length) = false := decide_eq_false (by omega)
            clear h0 hjl hl0
            go_wp2_with fail
            go_quiet (fail)
            go_wp2_with fail
            go_ret2
            exact ⟨by rw [HR.out.1, HR.out.2]; rfl, below_drewE hb _⟩
          · have HR : Hid (dk = dd) := Lib.hid (by
              rcases HM.out with ⟨h1, _⟩ | ⟨_, h1⟩
              · omega
              · rw [HDG.out, h1])
            have gl : (0 : Int) < (L.length : Int) := by omega
            have gl3 : decide (0 < L.length) = true := decide_eq_true (by omega)
            have HEX : Hid (expD dk = (dd, true)) := Lib.hid (by rw [HR.out]; exact expD_pos hd0)
            clear h0 hjl hl0
            go_wp2_with fail
            go_quiet (fail)
            go_wp2_with fail
            go_ret2
            exact ⟨by rw [HEX.out]; rfl, below_drewE hb _⟩
end Go.Proofs.Ytenjajcknmfhfaa

namespace Go.Proofs.Ytenjajcknmfhfaa
set_option linter.unusedVariables false
open Go.RowKit Go.Sort Go.Maps

set_option maxRecDepth 20000 in
set_option maxHeartbeats 8000000 in
theorem nodesOf_any (v : Value) (t : List Tg) (w : World) (h : RowR 3 rTg w v t) (ht : areTg t = true) :
    Calls Try.prog 70 #[v] w (NodesD t w) := by
  obtain ⟨i0, hi, hz0, hz1, hz2⟩ := info_parts Try.info_link
  have H := Lib.hid h
  obtain ⟨a1, c1, hv, hl1, hm1, r1⟩ := h.tgs
  subst hv
  have R1 := Lib.hid r1
  have HT := Lib.hid ht
  have h10 := tg_len ht
  unfold maxLen at hm1
  clear h r1 ht
  have hmm := @run_makeMap Try.prog
  have M0 : Hid (MapN (w.alloc (.map #[] 0)) w.heap.size 0 (.map [])) := Lib.hid (by simpa using World.ownsMap_made w Try.prog 3 heldV)
  go_enter Try.func70, Try.ntmps70
  go_wp2_with fail
  go_loopw [9] (fun i wr => ∃ (k : Nat) (A : List Nat) (D : DataW Value), k ≤ 10 ∧ i = .int .i64 k ∧ A.length = k ∧ Hid (MapN wr w.heap.size k D) ∧ Hid (NK D A k) ∧ Hid (∀ j, j < k → BxV wr (A.getD j 0) [.int .i64 (j : Int), .slice none 0 0] ∧ w.heap.size < A.getD j 0) ∧ Hid (∀ i j, i < k → j < k → i ≠ j → A.getD i 0 ≠ A.getD j 0) ∧ Below w.heap.size w wr ∧ w.heap.size < wr.heap.size) (fun i _ => 10 - (intOf i).toNat)
  case atStart => exact ⟨0, [], .map [], by omega, rfl, rfl, M0, Lib.hid NK.start, Lib.hid (fun j h => absurd h (Nat.not_lt_zero _)), Lib.hid (fun i j h => absurd h (Nat.not_lt_zero _)), below_al (Below.refl _ _) _, by simp⟩
  case round =>
    clear M0
    obtain ⟨k, A, D, hk, rfl, hA, HM, HK, HB, HN, hb, hs⟩ := hrel
    by_cases hlt : k < 10
    · have HIN := Lib.hid (key_n (k : Int) (by simp [inI]; omega))
      have g0 : (k : Int) < 10 := by omega
      have HPUT := Lib.hid (by have := HK.out; rw [← hA] at this; have := this.put wr.heap.size; rwa [hA] at this : NK (D.put (.int .i64 (k : Int)) (.held (.pointer (some ⟨wr.heap.size, 0, none⟩)))) (A ++ [wr.heap.size]) (k + 1))
      go_wp2_with (first | (at_mapUpdate; refine wpList_mapUpdate_own _ rfl _ _ _ 95 rfl 3 97 (int_keyed Try.underlying3) Try.underlying95 heldV w.heap.size k D rfl (HM.out.alloc _) (by unfold maxLen; omega) (.int .i64 (k : Int)) (.pointer (some ⟨wr.heap.size, 0, none⟩)) (.int .i64 (k : Int)) rfl rfl HIN.out (.held (.pointer (some ⟨wr.heap.size, 0, none⟩))) [] rfl ?_; intro w3 hown3 hg3; have HM3 := Lib.hid hown3; have HG3 := Lib.hid hg3; clear hown3 hg3))
      go_roundw
      case rel =>
        have s3 := HG3.out.size
        simp at s3
        refine ⟨k + 1, A ++ [wr.heap.size], _, by omega, by go_num, by simp [hA], HM3, HPUT, Lib.hid (fun j hj => ?_), Lib.hid (fun i j hi hj hij => ?_), (hb.alloc hb.size _).grown HG3.out (by have := hb.size; simp; omega) (fun g e => by cases e; exact Nat.le_refl _), by omega⟩
        · by_cases e : j = k
          · rw [e, ← hA, getD_snoc_eq, hA]
            exact ⟨(BxV.new wr [.int .i64 (k : Int), .slice none 0 0] 156).grown HG3.out (by simp; omega), hs⟩
          · obtain ⟨q1, q2⟩ := HB.out j (by omega)
            rw [getD_snoc_lt (by omega)]
            exact ⟨(q1.al _).grown HG3.out (by intro q; have := Option.some.inj q; omega), q2⟩
        · by_cases e1 : i = k
          · by_cases e2 : j = k
            · omega
            · rw [e1, ← hA, getD_snoc_eq, getD_snoc_lt (by omega)]
              have := (HB.out j (by omega)).1.lt
              omega
          · by_cases e2 : j = k
            · rw [e2, ← hA, getD_snoc_eq, getD_snoc_lt (by omega)]
              have := (HB.out i (by omega)).1.lt
              omega
            · rw [getD_snoc_lt (by omega), getD_snoc_lt (by omega)]
              exact HN.out i j (by omega) (by omega) hij
      case measure => simp [intOf]; omega
    · have hk10 : k = 10 := by omega
      have gk : ¬ ((k : Int) < 10) := by omega
      rw [hk10] at HM HK HB HN hA
      clear hk10 hk hlt
      obtain ⟨wo, hwo⟩ : ∃ x, x = wr := ⟨_, rfl⟩
      subst hwo
      have HAK : Hid (AK A (w.heap.size + 1) wo.heap.size) := Lib.hid ⟨hA, HN.out, fun i hi => ⟨(HB.out i hi).2, (HB.out i hi).1.lt⟩⟩
      have HS0 : Hid (NodS wo wo.heap.size A [] (fun _ => .slice none 0 0)) := Lib.hid ⟨fun k hk => (HB.out k hk).1, fun k hk => by simpa [folL] using World.ownsRow_nil wo wo.heap.size 158 2, fun k j hk hj hkj g e => by simp [Value.ownBlock] at e⟩
      clear HB HN hA
      go_wp2_with fail
      go_loopw [20] (fun i wr => ∃ (k : Nat) (sv : Nat → Value), k ≤ t.length ∧ i = .int .i64 k ∧ Hid (NodS wr wo.heap.size A (t.take k) sv) ∧ Hid (MapN wr w.heap.size 10 D) ∧ Below w.heap.size w wr ∧ wo.heap.size ≤ wr.heap.size) (fun i _ => t.length - (intOf i).toNat)
      case atStart => exact ⟨0, _, Nat.zero_le _, rfl, HS0, HM, hb, Nat.le_refl _⟩
      case round =>
        clear HS0 HM hb
        obtain ⟨k, sv, hk, rfl, HS, HM, hbw, hsz⟩ := hrel
        by_cases hlt : k < t.length
        · obtain ⟨b1, o1, hb1, rfl, e1⟩ := R1.out.resolve_left (fun e => by rw [e] at hlt; simp at hlt)
          obtain ⟨⟨x0, x1, x2⟩, hx⟩ : ∃ s, t.getD k tgD = s := ⟨_, rfl⟩
          obtain ⟨q0, q1, q2, hok⟩ := e1 k hlt
          rw [hx] at q0 q1 q2
          simp only at q0 q1 q2
          have f0 := cell_kept q0 hbw
          have f1 := cell_kept q1 hbw
          have f2 := cell_kept q2 hbw
          have htk : t.take (k + 1) = t.take k ++ [⟨x0, x1, x2⟩] := by rw [List.take_succ_eq_append_getElem hlt, ← getTg_lt hlt, hx]
          have hone := tgOne_iff.1 (tg_at HT.out hlt)
          rw [hx] at hone
          simp only at hone
          obtain ⟨n0, rfl⟩ : ∃ n : Nat, x0 = (n : Int) := ⟨x0.toNat, by omega⟩
          obtain ⟨n1, rfl⟩ : ∃ n : Nat, x1 = (n : Int) := ⟨x1.toNat, by omega⟩
          have hn0 : n0 < 10 := by omega
          have hn1 : n1 < 10 := by omega
          have HTK := Lib.hid htk
          have g0 : (0 : Int) ≤ (k : Int) := by omega
          have g1 : (k : Int) < (t.length : Int) := by omega
          obtain ⟨sx, hsx⟩ : ∃ s, sv n0 = s := ⟨_, rfl⟩
          have hrow := HS.out.row n0 hn0
          rw [hsx] at hrow
          obtain ⟨L, hL⟩ : ∃ L, (folL (t.take k) (n0 : Int)).length = L := ⟨_, rfl⟩
          have hLl : L ≤ 10 := by rw [← hL]; have := folL_len (t := t.take k) (n0 : Int); rw [List.length_take] at this; omega
          rw [hL] at hrow
          obtain ⟨sa, sc, hss, _, _⟩ := own_shape hrow
          subst hss
          have hbox := HS.out.box n0 hn0
          rw [hsx] at hbox
          have HSX := Lib.hid hsx
          have HLL := Lib.hid hL
          have HROW := Lib.hid hrow
          obtain ⟨G0, hG0⟩ : ∃ g, A.getD n0 0 = g := ⟨_, rfl⟩
          obtain ⟨G1, hG1⟩ : ∃ g, A.getD n1 0 = g := ⟨_, rfl⟩
          have hMW : MapN wr w.heap.size 10 D := HM.out
          have hlkA := fun (W : World) (hW : MapN W w.heap.size 10 D) => look_node hW HK.out n0 hn0 (Nat.le_refl _)
          have hlkB := fun (W : World) (hW : MapN W w.heap.size 10 D) => look_node hW HK.out n1 hn1 (Nat.le_refl _)
          unfold ptrA at hlkA hlkB
          rw [hG0] at hlkA hbox
          rw [hG1] at hlkB
          clear q0 q1 q2 hok e1 hx htk hone hsx hL hrow
          have hl10 := hlkA (wr.alloc (.cells #[.int .i64 (n0 : Int), .int .i64 (n1 : Int), .int .i64 x2] 34 (0, 0))) (mapN_kept hMW (grownBy_of_below (below_al (Below.refl _ _) _) none) (by simp))
          go_wp2_with fail
          generalize hWB : wr.alloc (.cells #[.int .i64 (n0 : Int), .int .i64 (n1 : Int), .int .i64 x2] 34 (0, 0)) = wB
          have bB : Below wr.heap.size wr wB := by rw [← hWB]; exact below_al (Below.refl _ _) _
          have hBs : wB.heap.size = wr.heap.size + 1 := by rw [← hWB]; simp
          have z0 : wB.cell? ⟨wr.heap.size, 0, none⟩ = some (.int .i64 (n0 : Int)) := by rw [← hWB]; exact cell_new wr _ _ 0 rfl
          have z1 : wB.cell? ⟨wr.heap.size, 1, none⟩ = some (.int .i64 (n1 : Int)) := by rw [← hWB]; exact cell_new wr _ _ 1 rfl
          have z2 : wB.cell? ⟨wr.heap.size, 2, none⟩ = some (.int .i64 x2) := by rw [← hWB]; exact cell_new wr _ _ 2 rfl
          have HSB := Lib.hid (HS.out.below bB)
          have hMB : MapN wB w.heap.size 10 D := mapN_kept hMW (grownBy_of_below bB none) (by simp)
          have hlB := hlkB wB.drew (mapN_kept hMB (grownBy_of_below ((Below.refl _ _).drew) none) (by simp))
          have HBX := Lib.hid (hbox.below bB)
          have y1 := HBX.out.cell 1
          have u1 := HBX.out.frozen 1
          simp at y1
          have hGl := HBX.out.lt
          have hG0l := (HAK.out.lt n0 hn0).2
          rw [hG0] at hG0l
          have HRB := Lib.hid (HROW.out.kept (grownBy_of_below bB none) (by rcases e : (Value.slice sa L sc).ownBlock with _ | g; (· exact .inl rfl); (· exact .inr (by simp))))
          have HNEWS := Lib.hid (cellsL_new wB [.pointer (some ⟨G1, 0, none⟩), .int .i64 x2] 158 hBs.symm)
          have y1a := below_al_cell y1 (.cells #[.pointer (some ⟨G1, 0, none⟩), .int .i64 x2] 158 (0, 0))
          clear hWB hl10 hlkA hlkB hbox hMW HROW f0 f1 f2
          have HMB := Lib.hid hMB
          have HBW := Lib.hid (hbw.trans (bB.mono hbw.size))
          have HSZ : Hid (wo.heap.size ≤ wB.heap.size) := Lib.hid (by omega)
          have HG0 := Lib.hid hG0
          have HG1 := Lib.hid hG1
          clear hMB hG0 hG1
          go_region_law (first | (rw [if_pos (by rfl)]; refine wp_append_atK _ _ _ _ rfl wo.heap.size 158 i0 (.agg #[.pointer none, .int .i64 0]) 2 16 Try.underlying154 hi hz0 hz1 hz2 rfl (by decide) (.slice sa L sc) L _ (by rfl) (show (wB.alloc (.cells #[.pointer (some ⟨G1, 0, none⟩), .int .i64 x2] 158 (0, 0))).drew.ownsRow _ _ _ _ _ _ from HRB.out.alloc _) ⟨wr.heap.size + 1, 0, none⟩ 1 1 [.pointer (some ⟨G1, 0, none⟩), .int .i64 x2] (by rfl) rfl HNEWS.out (by simp [Value.oneCell']) (by unfold maxLen; omega) (by omega) (by first | omega | (simp; done) | (simp; omega)) ?_; intro v3 w3 hown hgrow hor; have b3 : Below wo.heap.size (wB.alloc (.cells #[.pointer (some ⟨G1, 0, none⟩), .int .i64 x2] 158 (0, 0))).drew w3 := below_of_grow hgrow (by first | omega | (simp; done) | (simp; omega)) (fun k h => (HRB.out.lt k h).1); have l3 := (b3.cell (p := ⟨G0, 1, none⟩) hG0l).trans (below_al_cell y1 (.cells #[.pointer (some ⟨G1, 0, none⟩), .int .i64 x2] 158 (0, 0))); have fr3 := (b3.frozen (p := ⟨G0, 1, none⟩) hG0l).trans (al_frozenT u1 (.cells #[.pointer (some ⟨G1, 0, none⟩), .int .i64 x2] 158 (0, 0)) hGl); obtain ⟨va, vc, rfl, _, _⟩ := own_shape hown; have HOWN := Lib.hid hown; have HGR := Lib.hid hgrow; have HOR := Lib.hid hor; have HB3 := Lib.hid b3; clear hown hgrow hor b3))
          have HBS := Lib.hid hBs
          clear hlB z0 z1 z2 y1 y1a u1 l3 fr3 hBs
          all_goals
            go_wp2_with fail
            go_roundw
            case rel =>
              obtain ⟨sv', p1, p2, p3, p4⟩ := nodes_round HSB.out HAK.out HMB.out HBW.out hn0 HTK.out HSX.out HLL.out HG0.out HG1.out HSZ.out HGR.out HOR.out HOWN.out
              exact ⟨k + 1, sv', by omega, by go_num, p1, p2, p3, p4⟩
            case measure => simp [intOf]; omega
        · obtain rfl : k = t.length := by omega
          have HF := Lib.hid (by have h1 := HS.out; rw [List.take_length] at h1; exact h1.reads HAK.out : NodR wr.heap.size wr A t)
          clear HS
          go_wp2_with fail
          go_ret
          exact ⟨_, D, A, rfl, HM.out, HK.out, HF.out, Nat.le_refl _, hbw⟩
end Go.Proofs.Ytenjajcknmfhfaa

namespace Go.Proofs.Ytenjajcknmfhfaa
set_option linter.unusedVariables false
open Go.RowKit

theorem Try.info_int : (Try.prog.info? 3).map (fun i => (i.zero, i.size, i.bytes)) = some (some (.int .i64 0), 1, 8) := by kernel_rfl

set_option maxHeartbeats 1000000 in
theorem l1Has_any (v : Value) (xs : List Int) (x : Int) (w : World) (h : RowOf vI w v xs) :
    Calls Try.prog 93 #[v, .int .i64 x] w fun e w' => e = .returned (.bool (decide (x ∈ xs))) ∧ Below w.heap.size w w' := by
  have hcap := h.cap
  obtain ⟨a1, c1, rfl, hl1, hm1, r1⟩ := h
  have R1 := Lib.hid r1
  clear r1
  unfold maxLen at hm1
  go_enter Try.func93, Try.ntmps93
  go_wp2
  go_loopw [5] (fun i wr => ∃ k : Nat, k ≤ xs.length ∧ i = .int .i64 k ∧ Hid (¬ x ∈ xs.take k) ∧ Below w.heap.size w wr) (fun i _ => xs.length - (intOf i).toNat)
  case atStart => exact ⟨0, Nat.zero_le _, rfl, Lib.hid (by simp), Below.refl _ _⟩
  case round =>
    obtain ⟨k, hk, rfl, HN, hb⟩ := hrel
    by_cases hlt : k < xs.length
    · obtain ⟨b1, o1, hb1, rfl, e1⟩ := R1.out.resolve_left (fun e => by rw [e] at hlt; simp at hlt)
      obtain ⟨y, hy⟩ : ∃ s, xs[k] = s := ⟨_, rfl⟩
      have f1 := (hb.cell (p := ⟨b1, o1 + k, none⟩) hb1).trans (e1 k hlt)
      rw [hy] at f1
      simp only [vI] at f1
      have HY := Lib.hid hy
      have g0 : (0 : Int) ≤ (k : Int) := by omega
      have g1 : (k : Int) < (xs.length : Int) := by omega
      clear e1 hy
      by_cases he : y = x
      · have hq : (y == x) = true := by simp [he]
        have HE : Hid (x ∈ xs) := by rw [← he, ← HY.out]; exact List.getElem_mem hlt
        clear he
        go_wp2
        go_ret
        exact ⟨ret_bool (Eq.symm (decide_eq_true HE.out)), hb⟩
      · have hq : (y == x) = false := by simp [he]
        have HE : Hid (¬ x ∈ xs.take (k + 1)) := fun h => by
          rw [List.take_succ_eq_append_getElem hlt, List.mem_append, List.mem_singleton, HY.out] at h
          exact h.elim HN.out (fun h => he h.symm)
        clear he
        go_wp2
        go_roundw
        case rel => exact ⟨k + 1, by omega, by go_num, HE, hb⟩
        case measure => simp [intOf]; omega
    · have hkl : k = xs.length := by omega
      have HE : Hid (¬ x ∈ xs) := by have := HN.out; rwa [hkl, List.take_length] at this
      clear hkl
      go_wp2
      go_ret
      exact ⟨ret_bool (Eq.symm (decide_eq_false HE.out)), hb⟩

end Go.Proofs.Ytenjajcknmfhfaa

namespace Go.Proofs.Ytenjajcknmfhfaa
set_option linter.unusedVariables false
open Go.RowKit Go.ChangeShapes Go.WideShapes Go.Deep

theorem RowR.ints {w : World} {v : Value} {xs : List Int} (h : RowR 1 rInt w v xs) : RowOf vI w v xs := by
  obtain ⟨a, cap, rfl, h1, h2, h3⟩ := h
  refine ⟨a, cap, rfl, h1, h2, h3.imp id ?_⟩
  rintro ⟨b, off, hlt, rfl, hc⟩
  refine ⟨b, off, hlt, rfl, fun i hi => ?_⟩
  obtain ⟨cs, hl, hcs, rfl, _⟩ := hc i hi
  have := hcs 0 (by simp)
  simpa [vI] using this
def rIntsR : Rd (List Int) := fun w cs xs => ∃ v, cs = [v] ∧ RowOf vI w v xs
theorem opens_ints {P : Program} {t e : TypeId} (ht : P.underlying t = some (.slice e)) (he : P.underlying e = some (.int .i64)) (hc : P.cellsOf e = 1) : Opens P t rIntsR := fun enc w base spare held fuel cs x h => by
  obtain ⟨xs, v, e, hr⟩ := opens_row ht hc (by decide) (opens_int he) enc w base spare held fuel cs x h
  exact ⟨xs, v, e, hr.ints⟩

section
variable {lo hi lo' hi' : Nat} {w w' : World} {v : Value} {xs : List Int}
theorem IntsO.far (h : IntsO lo hi w v xs) {a : Addr} (ha : a.block < lo) (u : Value) : IntsO lo hi (w.setCell a u) v xs := ⟨ownsRow_setCell_below h.1 ha u, h.2⟩
theorem IntsO.alloc (h : IntsO lo hi w v xs) (o : Obj) : IntsO lo hi (w.alloc o) v xs := ⟨h.1.alloc o, h.2⟩
theorem IntsO.slice (h : IntsO lo hi w v xs) : ∃ a n c, v = .slice a n c := by
  obtain ⟨a, c, e, _⟩ := h.row
  exact ⟨a, _, c, e⟩
end

theorem ints_nilN (lo hi : Nat) (w : World) : IntsO lo hi w (.slice none 0 0) [] := ⟨World.ownsRow_nil _ _ _ _, Under.nil _ _ _⟩
theorem ints_rowN {lo n : Nat} {w : World} {v : Value} {xs : List Int} (h : w.ownsRow lo 3 1 v n (xs.map vI)) (hn : n = xs.length) : IntsO lo w.heap.size w v xs := ⟨by rw [← hn]; exact h, fun g hg => (h.lt g hg).2⟩
theorem ints_newN (w : World) : IntsO w.heap.size (w.alloc (.cells #[] 3 (0, 0))).heap.size (w.alloc (.cells #[] 3 (0, 0))) (.slice (some ⟨w.heap.size, 0, none⟩) 0 0) [] := ints_rowN (World.ownsRow_made w #[] 0 (Nat.le_refl _) (Nat.zero_le _) rfl) rfl
theorem cell_oneN (w : World) (v : Value) (t : TypeId) {k : Nat} (hk : k = w.heap.size) : ∀ j u, [v][j]? = some u → (w.alloc (.cells #[v] t (0, 0))).cell? ((⟨k, 0, none⟩ : Addr).add j) = some u := by subst hk; exact cell_one_new w v t


theorem Try.info_intN : (Try.prog.info? 3).map (fun i => (i.zero, i.size, i.bytes)) = some (some (.int .i64 0), 1, 8) := by kernel_rfl
theorem madeZ (n : Nat) : (madeCells #[Value.int .i64 0] (n * 1)).toList = List.replicate n (Value.int .i64 0) := by
  rw [Nat.mul_one]
  apply List.ext_getElem
  · simp [size_madeCells]
  · intro i h1 h2
    simp [madeCells, Nat.mod_one]
def partZ (xs : List Int) (k : Nat) : List Value := (xs.take k).map vI ++ List.replicate (xs.length - k) (.int .i64 0)
theorem partZ_set (xs : List Int) (k : Nat) (h : k < xs.length) : (partZ xs k).set k (vI xs[k]) = partZ xs (k + 1) := by
  unfold partZ
  have hl : ((xs.take k).map vI).length = k := by rw [List.length_map, List.length_take]; omega
  obtain ⟨n, hn⟩ : ∃ n, xs.length - k = n + 1 := ⟨xs.length - k - 1, by omega⟩
  rw [hn, show xs.length - (k + 1) = n by omega, List.set_append_right _ _ (by omega), hl, Nat.sub_self, List.replicate_succ, List.set_cons_zero]
  rw [List.take_succ_eq_append_getElem h, List.map_append, List.append_assoc]
  rfl
theorem partZ_at (xs : List Int) (k : Nat) (h : k < xs.length) : (partZ xs k)[k]? = some (.int .i64 0) := by
  unfold partZ
  have hl : ((xs.take k).map vI).length = k := by rw [List.length_map, List.length_take]; omega
  rw [List.getElem?_append_right (by omega), hl, Nat.sub_self, List.getElem?_replicate, if_pos (by omega)]

end Go.Proofs.Ytenjajcknmfhfaa

namespace Go.Proofs.Ytenjajcknmfhfaa
set_option linter.unusedVariables false
open Go.RowKit

theorem run_append_nilR {P : Program} (w : World) (base : Nat) (t ty e : TypeId) (i : TypeInfo) (size : Nat) (ht : P.underlying t = some (.slice e)) (hi : P.info? e = some i)
    (v : Value) (n : Nat) (xs : List Value) (hown : w.ownsRow base e size v n xs) (c : Nat) : (Builtin.append_ #[t, t] ty #[v, .slice none 0 c]).run P w = .ok v w := by
  rcases hown.2 with ⟨rfl, rfl⟩ | ⟨g, cap, cur, rfl, _, _, hnc, _⟩
  · simp [Builtin.append_, run_underlying ht, sizeOf, typeInfo, hi, Builtin.lenOf, Builtin.firstCells]
  · simp [Builtin.append_, run_underlying ht, sizeOf, typeInfo, hi, Builtin.lenOf, Builtin.firstCells, hnc, storeCells]
theorem wp_append_nilR {P : Program} {w : World} {o : Oper} {a : Act} {K : Act → World → Prop} {Q : Exit → Act → World → Prop} (s x : Operand) (t : TypeId)
    (ho : o.op = .call { callee := .builtin .append, args := #[s, x], argTypes := #[t, t] }) (base : Nat) (e : TypeId) (i : TypeInfo) (size : Nat) (ht : P.underlying t = some (.slice e)) (hi : P.info? e = some i)
    (v : Value) (n : Nat) (xs : List Value) (hs : a.eval s = v) (hown : w.ownsRow base e size v n xs) (c : Nat) (hx : a.eval x = .slice none 0 c) (h : K (a.put o.dst v) w) : o.wp P a w K Q := by
  unfold Oper.wp execOp
  simp only [ho, resolve, invoke, builtin, Sem.run_bind, Sem.run_pure, Result.andThen_ok, List.map_toArray, List.map_cons, List.map_nil, hs, hx, run_append_nilR w base t o.type e i size ht hi v n xs hown c]
  exact h
theorem wpList_append_nilR {P : Program} {w : World} {ops : Array Oper} {rest : List Oper} {o : Oper} {a : Act} {Q : Exit → Act → World → Prop} (hgd : o.guard = none) (s x : Operand) (t : TypeId)
    (ho : o.op = .call { callee := .builtin .append, args := #[s, x], argTypes := #[t, t] })
    (base : Nat) (e : TypeId) (i : TypeInfo) (size : Nat) (ht : P.underlying t = some (.slice e)) (hi : P.info? e = some i)
    (v : Value) (n : Nat) (xs : List Value) (hs : a.eval s = v) (hown : w.ownsRow base e size v n xs) (c : Nat) (hx : a.eval x = .slice none 0 c)
    (h : wpList P ops Q rest (a.put o.dst v) w) : wpList P ops Q (o :: rest) a w := by
  refine wpList_plain hgd fun K hK => ?_
  exact wp_append_nilR s x t ho base e i size ht hi v n xs hs hown c hx (hK _ _ h)

set_option maxHeartbeats 1000000 in
theorem l1Own_any (v : Value) (xs : List Int) (w : World) (h : RowOf vI w v xs) (hn : xs.length ≤ 1048576) :
    Calls Try.prog 163 #[v] w fun e w' => ∃ a' c', e = .returned (.slice a' xs.length c') ∧ IntsO w.heap.size w'.heap.size w' (.slice a' xs.length c') xs ∧ Below w.heap.size w w' := by
  obtain ⟨i0, hi, hz0, hz1, hz2⟩ := info_parts Try.info_intN
  obtain ⟨a, c, rfl, hl1, hm1, h3⟩ := h
  unfold maxLen at hm1
  rcases a with _ | ⟨b, off, spot⟩
  · have hx : xs = [] := by
      rcases h3 with h | ⟨b, off, _, e, _⟩
      · exact h
      · cases e
    subst hx
    clear h3
    go_enter Try.func163, Try.ntmps163
    go_wp2_with (first | (at_builtin; refine wpList_append_nilR rfl _ _ 26 rfl w.heap.size 3 i0 1 Try.underlying26 hi (.slice (some ⟨w.heap.size, 0, none⟩) 0 0) 0 [] rfl (World.ownsRow_made w #[] 0 (Nat.le_refl _) (Nat.zero_le _) rfl) c rfl ?_))
    go_ret
    exact ⟨_, _, rfl, ints_rowN (World.ownsRow_made w #[] 0 (Nat.le_refl _) (Nat.zero_le _) rfl) rfl, below_al (Below.refl _ _) _⟩
  · have HC : Hid (∀ o : Obj, ∀ j u, (xs.map vI)[j]? = some u → (w.alloc o).cell? ((⟨b, off, spot⟩ : Addr).add j) = some u) := by
      refine Lib.hid (fun o j u hj => ?_)
      rcases h3 with rfl | ⟨b', off', hb, e, hc⟩
      · simp at hj
      · cases e
        rw [Addr.add_lit]
        rw [List.getElem?_map] at hj
        rcases Nat.lt_or_ge j xs.length with hlt | hge
        · rw [List.getElem?_eq_getElem hlt] at hj
          cases hj
          exact below_al_cell (hc j hlt) o
        · rw [List.getElem?_eq_none hge] at hj
          cases hj
    have HONE : Hid (∀ u ∈ xs.map vI, u.oneCell' = true) := Lib.hid (fun u hu => by obtain ⟨x, _, rfl⟩ := List.mem_map.1 hu; rfl)
    have HLEN : Hid ((xs.map vI).length = xs.length * 1) := Lib.hid (by simp)
    clear h3
    go_enter Try.func163, Try.ntmps163
    go_wp2_with (first | (at_builtin; refine wpList_append_own _ rfl _ _ 26 rfl w.heap.size 3 i0 (.int .i64 0) 1 8 Try.underlying26 hi hz0 hz1 hz2 rfl (by decide) (.slice (some ⟨w.heap.size, 0, none⟩) 0 0) 0 [] rfl (World.ownsRow_made w #[] 0 (Nat.le_refl _) (Nat.zero_le _) rfl) ⟨b, off, spot⟩ xs.length c (xs.map vI) rfl HLEN.out (HC.out _) HONE.out (by unfold maxLen; omega) (by omega) (by simp) ?_; intro v' w1 hown' hgrow hnil))
    have HB : Hid (Below w.heap.size w w1) := Lib.hid ((below_al (Below.refl _ w) _).grown hgrow (by simp) (fun k hk => Nat.le_of_eq (by simpa [Value.ownBlock] using hk)))
    rw [Nat.zero_add, List.nil_append] at hown'
    have HI := Lib.hid (ints_rowN hown' rfl)
    obtain ⟨a', n', c', rfl⟩ := HI.out.slice
    have hn' : n' = xs.length := by obtain ⟨a2, c2, e2, _⟩ := HI.out.row; cases e2; rfl
    subst hn'
    clear hown' hgrow hnil
    go_wp2_with fail
    go_ret
    exact ⟨_, _, rfl, HI.out, HB.out⟩
end Go.Proofs.Ytenjajcknmfhfaa

namespace Go.Proofs.Ytenjajcknmfhfaa
set_option linter.unusedVariables false
open Go.RowKit Go.Sort

def chG (f : Nat) (t : List Tg) (hd : Int) (c : List Int) (last k : Int) : Option (List Int) := if folB t last k = true then (if k = hd then some c else if k ∈ c then none else chainF f t hd (c ++ [k]) k) else none
theorem findT_none {α : Type} {g : Int → Option α} (n : Nat) (h : ∀ j : Nat, j < n → g (j : Int) = none) : ((List.range n).map Int.ofNat).findSome? g = none := by
  rw [List.findSome?_eq_none_iff]
  intro x hx
  obtain ⟨j, hj, rfl⟩ := List.mem_map.1 hx
  exact h j (List.mem_range.1 hj)
theorem findT_at {α : Type} {g : Int → Option α} {x : α} : ∀ (n k : Nat), k < n → (∀ j : Nat, j < k → g (j : Int) = none) → g (k : Int) = some x → ((List.range n).map Int.ofNat).findSome? g = some x
  | 0, k, hk, _, _ => by omega
  | n + 1, k, hk, h0, h1 => by
    rw [List.range_succ, List.map_append, List.findSome?_append]
    by_cases e : k = n
    · subst e
      rw [findT_none k h0]
      simp
      exact h1
    · rw [findT_at n k (by omega) h0 h1]
      rfl
theorem chainF_eq (f : Nat) (t : List Tg) (hd : Int) (c : List Int) (last : Int) : chainF (f + 1) t hd c last = ((List.range 10).map Int.ofNat).findSome? (fun k => if hd ≤ k then chG f t hd c last k else none) := rfl
theorem chainF_none {f : Nat} {t : List Tg} {hd : Int} {c : List Int} {last : Int} (h : ∀ k, hd ≤ k → k ≤ 9 → chG f t hd c last k = none) : chainF (f + 1) t hd c last = none := by
  rw [chainF_eq]
  refine findT_none 10 fun j hj => ?_
  split
  · rename_i q; exact h _ q (by omega)
  · rfl
theorem chainF_at {f : Nat} {t : List Tg} {hd : Int} {c : List Int} {last kd : Int} {x : List Int} (h0 : 0 ≤ hd) (h1 : hd ≤ kd) (h9 : kd ≤ 9) (h : ∀ k, hd ≤ k → k < kd → chG f t hd c last k = none) (hx : chG f t hd c last kd = some x) : chainF (f + 1) t hd c last = some x := by
  rw [chainF_eq]
  obtain ⟨n, rfl⟩ : ∃ n : Nat, kd = (n : Int) := ⟨kd.toNat, by omega⟩
  refine findT_at 10 n (by omega) (fun j hj => ?_) (by rw [if_pos h1]; exact hx)
  split
  · rename_i q; exact h _ q (by omega)
  · rfl
theorem nodup_ten {l : List Int} (h : l.Nodup) (hr : ∀ x ∈ l, 0 ≤ x ∧ x ≤ 9) : l.length ≤ 10 := by
  refine nodup_len _ [0, 1, 2, 3, 4, 5, 6, 7, 8, 9] h (fun x hx => ?_)
  have := hr x hx
  simp
  omega
theorem getD0_app {c : List Int} (h : 0 < c.length) (k : Int) : (c ++ [k]).getD 0 0 = c.getD 0 0 := by
  rcases c with _ | ⟨a, c⟩
  · simp at h
  · rfl
def folT (t : List Tg) (n : Nat) (a b : Int) : Bool := folB (t.take n) a b
theorem folT_zero (t : List Tg) (a b : Int) : folT t 0 a b = false := rfl
theorem folT_all (t : List Tg) (a b : Int) : folT t t.length a b = folB t a b := by unfold folT; rw [List.take_length]
theorem folT_succ {t : List Tg} {n : Nat} (h : n < t.length) (a b : Int) : folT t (n + 1) a b = (folT t n a b || decide ((t.getD n tgD).ev = a ∧ (t.getD n tgD).aft = b)) := by
  unfold folT folB
  rw [List.take_succ_eq_append_getElem h, List.any_append, ← getTg_lt h]
  simp
def ChainD (t : List Tg) (lo : Nat) (w : World) (q : Option (List Int)) (e : Ending) (w' : World) : Prop := ∃ v', e = .returned (.tuple #[v', .bool q.isSome]) ∧ IntsO lo w'.heap.size w' v' (q.getD []) ∧ Below w.heap.size w w'
set_option maxRecDepth 20000 in
set_option maxHeartbeats 16000000 in
theorem l10Chain_any (t : List Tg) : ∀ (f : Nat) (c : List Int) (last hd : Int) (lo : Nat) (v vc : Value) (w : World), RowR 3 rTg w v t → c.length + f = 11 → c.Nodup → (∀ x ∈ c, 0 ≤ x ∧ x ≤ 9) → c.getD 0 0 = hd → c.getD (c.length - 1) 0 = last → 0 < c.length → lo ≤ w.heap.size → IntsO lo w.heap.size w vc c →
    Calls Try.prog 134 #[v, vc] w (ChainD t lo w (chainF f t hd c last)) := by
  intro f
  induction f with
  | zero =>
    intro c last hd lo v vc w _ hf hn hr _ _ _ _ _
    have := nodup_ten hn hr
    omega
  | succ f ih =>
    intro c last hd lo v vc w h hf hn hr hhd hlast h0 hlo hc
    obtain ⟨i0, hi, hz0, hz1, hz2⟩ := info_parts Try.info_intN
    have IH := Lib.hid ih
    clear ih
    have H := Lib.hid h
    have HN := Lib.hid hn
    have HR := Lib.hid hr
    have HHD := Lib.hid hhd
    have HLA := Lib.hid hlast
    have hl10 := nodup_ten hn hr
    have hd0 : 0 ≤ hd ∧ hd ≤ 9 := by
      rw [← hhd, getI_lt h0]
      exact hr _ (List.getElem_mem h0)
    have HCO := Lib.hid hc
    obtain ⟨a1, c1, hv, hl1, hm1, r1⟩ := h.tgs
    subst hv
    have R1 := Lib.hid r1
    unfold maxLen at hm1
    have hcr := hc.row
    obtain ⟨ca, cc, hcv, hcl, hcm, hcc⟩ := hcr
    subst hcv
    obtain ⟨b0, o0, hb0, rfl, e0⟩ := hcc.resolve_left (fun e => by rw [e] at h0; simp at h0)
    obtain ⟨m, hm⟩ : ∃ m, c.length = m + 1 := ⟨c.length - 1, by omega⟩
    obtain ⟨N, hN⟩ : ∃ N, c.length = N := ⟨_, rfl⟩
    have fH := e0 0 h0
    rw [← getI_lt h0, hhd] at fH
    have fL := e0 m (by omega)
    rw [← getI_lt (by omega : m < c.length), show m = c.length - 1 by omega, hlast] at fL
    simp only [vI, Nat.add_zero] at fH fL
    rw [hN] at hcl hm fL hf hl10 HCO
    rw [hN]
    rw [show N - 1 = m by omega] at fL
    unfold maxLen at hcm
    have HH := Lib.hid (show ∀ W, Below w.heap.size w W → W.cell? ⟨b0, o0, none⟩ = some (.int .i64 hd) from fun W hW => cell_kept fH hW)
    have gm0 : (N : Int) - 1 = (m : Int) := by omega
    have gm1 : (0 : Int) ≤ (m : Int) := by omega
    have gm2 : (m : Int) < (N : Int) := by omega
    have gN : (0 : Int) < (N : Int) := by omega
    have HNL := Lib.hid hN
    clear h hn hr hhd hlast r1 hcc e0 hc hN hm
    go_enter Try.func134, Try.ntmps134
    go_wp2_with fail
    go_loopw [7] (fun i wr => ∃ kd : Int, i = .int .i64 kd ∧ hd ≤ kd ∧ kd ≤ 10 ∧ Hid (∀ k, hd ≤ k → k < kd → chG f t hd c last k = none) ∧ Below w.heap.size w wr) (fun i _ => (10 - intOf i).toNat)
    case atStart => exact ⟨hd, rfl, Int.le_refl _, by omega, Lib.hid (fun k h1 h2 => by omega), Below.refl _ _⟩
    case round =>
      obtain ⟨kd, rfl, hk1, hk2, HK, hb⟩ := hrel
      obtain ⟨wo, hwo⟩ : ∃ x, x = wr := ⟨_, rfl⟩
      subst hwo
      have hsz := hb.size
      by_cases hlt : kd ≤ 9
      · go_wp2_with fail
        go_loopw [8, 9] (fun p i wr => ∃ j : Nat, j ≤ t.length ∧ i = .int .i64 j ∧ p = .bool (folT t j last kd) ∧ Below w.heap.size w wr) (fun _ i _ => t.length - (intOf i).toNat)
        case atStart => exact ⟨0, Nat.zero_le _, rfl, rfl, hb⟩
        case round =>
          clear hb hsz
          obtain ⟨j, hj, rfl, rfl, hb⟩ := hrel
          have hsz := hb.size
          by_cases hjt : j < t.length
          · obtain ⟨b1, o1, hb1, rfl, e1⟩ := R1.out.resolve_left (fun e => by rw [e] at hjt; simp at hjt)
            obtain ⟨⟨x0, x1, x2⟩, hx⟩ : ∃ s, t.getD j tgD = s := ⟨_, rfl⟩
            obtain ⟨q0, q1, q2, hok⟩ := e1 j hjt
            have hsu := folT_succ hjt last kd
            rw [hx] at q0 q1 q2 hsu
            simp only at q0 q1 q2 hsu
            have f0 := cell_kept q0 hb
            have f1 := cell_kept q1 hb
            obtain ⟨bf, hbf⟩ : ∃ b, folT t j last kd = b := ⟨_, rfl⟩
            rw [hbf] at hsu
            try rw [hbf]
            have HSU := Lib.hid hsu
            have g0 : (0 : Int) ≤ (j : Int) := by omega
            have g1 : (j : Int) < (t.length : Int) := by omega
            clear q0 q1 q2 hok e1 hx hsu hbf
            cases bf
            · by_cases he0 : x0 = last
              · have r0 : (x0 == last) = true := by simp [he0]
                by_cases he1 : x1 = kd
                · have r1 : (x1 == kd) = true := by simp [he1]
                  have HS2 : Hid (folT t (j + 1) last kd = true) := Lib.hid (by rw [HSU.out, decide_eq_true ⟨he0, he1⟩]; rfl)
                  clear he0 he1
                  go_wp2_with fail
                  go_roundw
                  case rel => exact ⟨j + 1, by omega, by go_num, by rw [HS2.out], hb⟩
                  case measure => simp [intOf]; omega
                · have r1 : (x1 == kd) = false := by simp [he1]
                  have HS2 : Hid (folT t (j + 1) last kd = false) := Lib.hid (by rw [HSU.out, decide_eq_false (fun q => he1 q.2)]; rfl)
                  clear he0 he1
                  go_wp2_with fail
                  go_roundw
                  case rel => exact ⟨j + 1, by omega, by go_num, by rw [HS2.out], hb⟩
                  case measure => simp [intOf]; omega
              · have r0 : (x0 == last) = false := by simp [he0]
                have HS2 : Hid (folT t (j + 1) last kd = false) := Lib.hid (by rw [HSU.out, decide_eq_false (fun q => he0 q.1)]; rfl)
                clear he0
                go_wp2_with fail
                go_roundw
                case rel => exact ⟨j + 1, by omega, by go_num, by rw [HS2.out], hb⟩
                case measure => simp [intOf]; omega
            · have HS2 : Hid (folT t (j + 1) last kd = true) := Lib.hid (by rw [HSU.out]; rfl)
              go_wp2_with fail
              go_roundw
              case rel => exact ⟨j + 1, by omega, by go_num, by rw [HS2.out], hb⟩
              case measure => simp [intOf]; omega
          · obtain rfl : j = t.length := by omega
            rw [folT_all]
            obtain ⟨bf, hbf⟩ : ∃ b, folB t last kd = b := ⟨_, rfl⟩
            rw [hbf]
            have HBF := Lib.hid hbf
            have fh := HH.out _ hb
            clear hbf
            cases bf
            · have HG : Hid (chG f t hd c last kd = none) := Lib.hid (by unfold chG; rw [HBF.out]; rfl)
              go_wp2_with fail
              go_roundw
              case rel => exact ⟨kd + 1, by go_num, by omega, by omega, Lib.hid (fun k h1 h2 => by by_cases e : k = kd; (· rw [e]; exact HG.out); (· exact HK.out k h1 (by omega))), hb⟩
              case measure => simp [intOf]; omega
            · by_cases he : kd = hd
              · have r0 : (kd == hd) = true := by simp [he]
                have HG : Hid (chainF (f + 1) t hd c last = some c) := Lib.hid (chainF_at hd0.1 hk1 hlt HK.out (by unfold chG; rw [HBF.out, if_pos rfl, if_pos he]))
                clear he
                have HC2 := Lib.hid ((HCO.out.below hb).wide (Nat.le_refl _) hb.size)
                go_wp2_with fail
                go_ret2
                unfold ChainD
                rw [HG.out]
                exact ⟨_, rfl, HC2.out, hb⟩
              · have r0 : (kd == hd) = false := by simp [he]
                have HE := Lib.hid he
                clear he
                have HROW := Lib.hid (HCO.out.row.below hb)
                obtain ⟨bm, hbm⟩ : ∃ b, decide (kd ∈ c) = b := ⟨_, rfl⟩
                have HBM := Lib.hid hbm
                clear hbm
                cases bm
                · rcases hq : chainF f t hd (c ++ [kd]) kd with _ | p
                  · have HG : Hid (chG f t hd c last kd = none) := Lib.hid (by unfold chG; rw [HBF.out, if_pos rfl, if_neg HE.out, if_neg (of_decide_eq_false HBM.out), hq])
                    go_wp2_with fail
                    refine (l1Has_any _ c kd _ HROW.out).mono ?_
                    rw [HBM.out]
                    rintro e w7 ⟨rfl, b7⟩
                    have hb7 := hb.trans (b7.mono hsz)
                    have hs7 := hb7.size
                    have HR7 := Lib.hid (HCO.out.row.below hb7)
                    clear HROW
                    go_wp2_with fail
                    refine (l1Own_any _ c _ HR7.out (by have := HNL.out; omega)).mono ?_
                    rintro e w8 ⟨na, nc, rfl, hi8, b8⟩
                    rw [HNL.out]
                    have HI8 : Hid (IntsO w7.heap.size w8.heap.size w8 (.slice na N nc) c) := Lib.hid (by have := hi8; rwa [HNL.out] at this)
                    have HW8 := Lib.hid (by have := HI8.out.1; rwa [HNL.out] at this : w8.ownsRow w7.heap.size 3 1 (.slice na N nc) N (c.map vI))
                    have hb8 := hb7.trans (b8.mono hs7)
                    have hs8 := hb8.size
                    clear hi8
                    go_wp2_with (first | (at_builtin; refine wpList_append_own _ rfl _ _ 26 rfl w7.heap.size 3 i0 (.int .i64 0) 1 8 Try.underlying26 hi hz0 hz1 hz2 rfl (by decide) _ N (c.map vI) rfl (HW8.out.alloc _) ⟨w8.heap.size, 0, none⟩ 1 1 [.int .i64 kd] rfl rfl (cell_oneN _ _ _ (by simp)) (by simp [Value.oneCell']) (by unfold maxLen; omega) (by omega) (by have := b8.size; simp; omega) ?_; intro v' w4 hown' hgrow _))
                    have b4 : Below w7.heap.size w7 w4 := below_app b8 (Nat.le_refl _) HW8.out hgrow
                    have HI4 := Lib.hid (ints_rowN (n := N + 1) (xs := c ++ [kd]) (by simpa [vI] using hown') (by simp [HNL.out]) : IntsO w7.heap.size w4.heap.size w4 v' (c ++ [kd]))
                    have hb4 := hb7.trans (b4.mono hs7)
                    obtain ⟨da, dn, dc, rfl⟩ := HI4.out.slice
                    clear hown' hgrow
                    go_wp2_with fail
                    refine (IH.out (c ++ [kd]) kd hd w7.heap.size _ _ _ (H.out.below rTg_stable hb4) (by rw [List.length_append, HNL.out, List.length_singleton]; omega) (by rw [List.nodup_append]; refine ⟨HN.out, by simp, ?_⟩; intro a ha b hb2 e; rw [List.mem_singleton.1 hb2] at e; exact of_decide_eq_false HBM.out (e ▸ ha)) (fun x hx => by rcases List.mem_append.1 hx with q | q; (· exact HR.out x q); (· rw [List.mem_singleton.1 q]; omega)) ((getD0_app h0 _).trans HHD.out) (by simp [List.getD]) (by simp) (by have := b4.size; omega) HI4.out).mono ?_
                    rw [hq]
                    rintro e w9 ⟨v9, rfl, ho9, b9⟩
                    obtain ⟨ea, en, ec, rfl⟩ := ho9.slice
                    have HO9 := Lib.hid (ho9.wide (by omega) (Nat.le_refl _) : IntsO lo w9.heap.size w9 _ _)
                    clear ho9
                    go_wp2_with fail
                    have hbz := hb4.trans (b9.mono hb4.size)
                    go_roundw
                    case rel => exact ⟨kd + 1, by go_num, by omega, by omega, Lib.hid (fun k h1 h2 => by by_cases e : k = kd; (· rw [e]; exact HG.out); (· exact HK.out k h1 (by omega))), hb4.trans (b9.mono hb4.size)⟩
                    case measure => simp [intOf]; omega
                  · have HG : Hid (chainF (f + 1) t hd c last = some p) := Lib.hid (chainF_at hd0.1 hk1 hlt HK.out (by unfold chG; rw [HBF.out, if_pos rfl, if_neg HE.out, if_neg (of_decide_eq_false HBM.out), hq]))
                    go_wp2_with fail
                    refine (l1Has_any _ c kd _ HROW.out).mono ?_
                    rw [HBM.out]
                    rintro e w7 ⟨rfl, b7⟩
                    have hb7 := hb.trans (b7.mono hsz)
                    have hs7 := hb7.size
                    have HR7 := Lib.hid (HCO.out.row.below hb7)
                    clear HROW
                    go_wp2_with fail
                    refine (l1Own_any _ c _ HR7.out (by have := HNL.out; omega)).mono ?_
                    rintro e w8 ⟨na, nc, rfl, hi8, b8⟩
                    rw [HNL.out]
                    have HI8 : Hid (IntsO w7.heap.size w8.heap.size w8 (.slice na N nc) c) := Lib.hid (by have := hi8; rwa [HNL.out] at this)
                    have HW8 := Lib.hid (by have := HI8.out.1; rwa [HNL.out] at this : w8.ownsRow w7.heap.size 3 1 (.slice na N nc) N (c.map vI))
                    have hb8 := hb7.trans (b8.mono hs7)
                    have hs8 := hb8.size
                    clear hi8
                    go_wp2_with (first | (at_builtin; refine wpList_append_own _ rfl _ _ 26 rfl w7.heap.size 3 i0 (.int .i64 0) 1 8 Try.underlying26 hi hz0 hz1 hz2 rfl (by decide) _ N (c.map vI) rfl (HW8.out.alloc _) ⟨w8.heap.size, 0, none⟩ 1 1 [.int .i64 kd] rfl rfl (cell_oneN _ _ _ (by simp)) (by simp [Value.oneCell']) (by unfold maxLen; omega) (by omega) (by have := b8.size; simp; omega) ?_; intro v' w4 hown' hgrow _))
                    have b4 : Below w7.heap.size w7 w4 := below_app b8 (Nat.le_refl _) HW8.out hgrow
                    have HI4 := Lib.hid (ints_rowN (n := N + 1) (xs := c ++ [kd]) (by simpa [vI] using hown') (by simp [HNL.out]) : IntsO w7.heap.size w4.heap.size w4 v' (c ++ [kd]))
                    have hb4 := hb7.trans (b4.mono hs7)
                    obtain ⟨da, dn, dc, rfl⟩ := HI4.out.slice
                    clear hown' hgrow
                    go_wp2_with fail
                    refine (IH.out (c ++ [kd]) kd hd w7.heap.size _ _ _ (H.out.below rTg_stable hb4) (by rw [List.length_append, HNL.out, List.length_singleton]; omega) (by rw [List.nodup_append]; refine ⟨HN.out, by simp, ?_⟩; intro a ha b hb2 e; rw [List.mem_singleton.1 hb2] at e; exact of_decide_eq_false HBM.out (e ▸ ha)) (fun x hx => by rcases List.mem_append.1 hx with q | q; (· exact HR.out x q); (· rw [List.mem_singleton.1 q]; omega)) ((getD0_app h0 _).trans HHD.out) (by simp [List.getD]) (by simp) (by have := b4.size; omega) HI4.out).mono ?_
                    rw [hq]
                    rintro e w9 ⟨v9, rfl, ho9, b9⟩
                    obtain ⟨ea, en, ec, rfl⟩ := ho9.slice
                    have HO9 := Lib.hid (ho9.wide (by omega) (Nat.le_refl _) : IntsO lo w9.heap.size w9 _ _)
                    clear ho9
                    go_wp2_with fail
                    have hbz := hb4.trans (b9.mono hb4.size)
                    go_ret2
                    unfold ChainD
                    rw [HG.out]
                    exact ⟨_, rfl, HO9.out, hbz⟩
                · have HG : Hid (chG f t hd c last kd = none) := Lib.hid (by unfold chG; rw [HBF.out, if_pos rfl, if_neg HE.out, if_pos (of_decide_eq_true HBM.out)])
                  go_wp2_with fail
                  refine (l1Has_any _ c kd _ HROW.out).mono ?_
                  rw [HBM.out]
                  rintro e w7 ⟨rfl, b7⟩
                  have hb7 := hb.trans (b7.mono hsz)
                  have hs7 := hb7.size
                  have HR7 := Lib.hid (HCO.out.row.below hb7)
                  clear HROW
                  go_wp2_with fail
                  go_roundw
                  case rel => exact ⟨kd + 1, by go_num, by omega, by omega, Lib.hid (fun k h1 h2 => by by_cases e : k = kd; (· rw [e]; exact HG.out); (· exact HK.out k h1 (by omega))), hb7⟩
                  case measure => simp [intOf]; omega
      · have HF : Hid (chainF (f + 1) t hd c last = none) := Lib.hid (chainF_none (fun k h1 h2 => HK.out k h1 (by omega)))
        clear HK
        go_wp2_with fail
        go_ret2
        unfold ChainD
        rw [HF.out]
        exact ⟨_, rfl, ints_rowN (lo := lo) (World.ownsRow_made wo #[] 0 (Nat.le_trans hlo hsz) (Nat.zero_le _) rfl) rfl, below_al hb _⟩
end Go.Proofs.Ytenjajcknmfhfaa

namespace Go.Proofs.Ytenjajcknmfhfaa
set_option linter.unusedVariables false
open Go.RowKit

def idxI (xs : List Int) (x : Int) : Int := if x ∈ xs then (xs.findIdx (fun y => decide (y = x)) : Nat) else -1
theorem idxI_ge {xs : List Int} {x : Int} : (0 ≤ idxI xs x) ↔ x ∈ xs := by
  unfold idxI
  by_cases h : x ∈ xs
  · rw [if_pos h]; simp [h]
  · rw [if_neg h]; simp [h]
set_option maxHeartbeats 1000000 in
theorem index_any (v : Value) (xs : List Int) (x : Int) (w : World) (h : RowOf vI w v xs) :
    Calls Try.prog 140 #[v, .int .i64 x] w fun e w' => (∃ n : Int, e = .returned (.int .i64 n) ∧ (0 ≤ n ↔ x ∈ xs)) ∧ Below w.heap.size w w' := by
  have hcap := h.cap
  obtain ⟨a1, c1, rfl, hl1, hm1, r1⟩ := h
  have R1 := Lib.hid r1
  clear r1
  unfold maxLen at hm1
  go_enter Try.func140, Try.ntmps140
  go_wp2
  go_loopw [8] (fun i wr => ∃ k : Nat, k ≤ xs.length ∧ i = .int .i64 k ∧ Hid (¬ x ∈ xs.take k) ∧ Below w.heap.size w wr) (fun i _ => xs.length - (intOf i).toNat)
  case atStart => exact ⟨0, Nat.zero_le _, rfl, Lib.hid (by simp), Below.refl _ _⟩
  case round =>
    obtain ⟨k, hk, rfl, HN, hb⟩ := hrel
    by_cases hlt : k < xs.length
    · obtain ⟨b1, o1, hb1, rfl, e1⟩ := R1.out.resolve_left (fun e => by rw [e] at hlt; simp at hlt)
      obtain ⟨y, hy⟩ : ∃ s, xs[k] = s := ⟨_, rfl⟩
      have f1 := (hb.cell (p := ⟨b1, o1 + k, none⟩) hb1).trans (e1 k hlt)
      rw [hy] at f1
      simp only [vI] at f1
      have HY := Lib.hid hy
      have g0 : (0 : Int) ≤ (k : Int) := by omega
      have g1 : (k : Int) < (xs.length : Int) := by omega
      clear e1 hy
      by_cases he : x = y
      · have hq : (x == y) = true := by simp [he]
        have HE : Hid (x ∈ xs) := by rw [he, ← HY.out]; exact List.getElem_mem hlt
        clear he
        go_wp2
        go_ret
        exact ⟨⟨_, rfl, by simp [HE.out]⟩, hb⟩
      · have hq : (x == y) = false := by simp [he]
        have HE : Hid (¬ x ∈ xs.take (k + 1)) := fun h => by
          rw [List.take_succ_eq_append_getElem hlt, List.mem_append, List.mem_singleton, HY.out] at h
          exact h.elim HN.out he
        clear he
        go_wp2
        go_roundw
        case rel => exact ⟨k + 1, by omega, by go_num, HE, hb⟩
        case measure => simp [intOf]; omega
    · have hkl : k = xs.length := by omega
      have HE : Hid (¬ x ∈ xs) := by have := HN.out; rwa [hkl, List.take_length] at this
      clear hkl
      go_wp2
      go_ret
      exact ⟨⟨-1, rfl, by simp [HE.out]⟩, hb⟩
theorem contains_any (v : Value) (xs : List Int) (x : Int) (w : World) (h : RowOf vI w v xs) :
    Calls Try.prog 85 #[v, .int .i64 x] w fun e w' => e = .returned (.bool (decide (x ∈ xs))) ∧ Below w.heap.size w w' := by
  have H := Lib.hid h
  clear h
  go_enter Try.func85, Try.ntmps85
  go_wp2_with fail
  refine (index_any _ xs x _ H.out).mono ?_
  rintro e w' ⟨⟨n, rfl, hn⟩, hb⟩
  have HN := Lib.hid hn
  clear hn
  go_wp2_with fail
  go_ret
  exact ⟨ret_bool (by rw [Bool.eq_iff_iff]; simp [HN.out]), hb⟩
end Go.Proofs.Ytenjajcknmfhfaa

namespace Go.Proofs.Ytenjajcknmfhfaa
set_option linter.unusedVariables false
open Go.RowKit Go.Sort Go.Maps

def cycG (f : Nat) (t : List Tg) (hd : Int) (c : List Int) (x : Tg) : Option (List Int) := if x.aft = hd then some c else if x.aft < hd ∨ x.aft ∈ c then none else cycP f t hd (c ++ [x.aft]) x.aft
theorem cycP_eq (f : Nat) (t : List Tg) (hd : Int) (c : List Int) (last : Int) : cycP (f + 1) t hd c last = (folL t last).findSome? (cycG f t hd c) := rfl
theorem findL_none {α β : Type} {g : α → Option β} {d : α} : ∀ (l : List α), (∀ j, j < l.length → g (l.getD j d) = none) → l.findSome? g = none := by
  intro l h
  rw [List.findSome?_eq_none_iff]
  intro x hx
  obtain ⟨i, hi, rfl⟩ := List.getElem_of_mem hx
  have := h i hi
  simpa [List.getD, List.getElem?_eq_getElem hi] using this
theorem findL_at {α β : Type} {g : α → Option β} {d : α} {y : β} : ∀ (l : List α) (k : Nat), k < l.length → (∀ j, j < k → g (l.getD j d) = none) → g (l.getD k d) = some y → l.findSome? g = some y
  | [], k, hk, _, _ => absurd hk (by simp)
  | a :: l, 0, _, _, h1 => by
    rw [List.getD_cons_zero] at h1
    rw [List.findSome?_cons, h1]
  | a :: l, k + 1, hk, h0, h1 => by
    have ha := h0 0 (by omega)
    rw [List.getD_cons_zero] at ha
    rw [List.findSome?_cons, ha]
    rw [List.getD_cons_succ] at h1
    exact findL_at l k (by simpa using hk) (fun j hj => by have := h0 (j + 1) (by omega); rwa [List.getD_cons_succ] at this) h1
def CycD (lo : Nat) (w : World) (v : Value) (c : List Int) (q : Option (List Int)) (e : Ending) (w' : World) : Prop :=
  ∃ v', e = .returned v' ∧ (∀ p, q = some p → (∃ g n cap, v' = .slice (some ⟨g, 0, none⟩) n cap) ∧ w'.ownsRow lo 3 1 v' p.length (p.map vI)) ∧ (q = none → v' = .slice none 0 0 ∧ w'.ownsRow lo 3 1 v c.length (c.map vI)) ∧ w.grownBy w' v.ownBlock
theorem nil_neqT (W : World) : (binOp BinOp.neq 26 (.slice none 0 0) (.slice none 0 0)).run Try.prog W = .ok (.bool false) W := by kernel_rfl
theorem row_neqT (g n c : Nat) (W : World) : (binOp BinOp.neq 26 (.slice (some ⟨g, 0, none⟩) n c) (.slice none 0 0)).run Try.prog W = .ok (.bool true) W := by kernel_rfl
theorem undrew {a b : World} {r : Option Nat} (h : a.drew.grownBy b r) : a.grownBy b r := ⟨h.os, h.tape, h.output, h.size, h.block⟩
theorem own_some {w : World} {base e size n : Nat} {v : Value} {xs : List Value} (h : w.ownsRow base e size v n xs) (hn : 0 < n) : ∃ g cap, v = .slice (some ⟨g, 0, none⟩) n cap := by
  rcases h.2 with ⟨_, h0⟩ | ⟨g, cap, cur, rfl, _⟩
  · omega
  · exact ⟨g, cap, rfl⟩
theorem grown_join {a b c : World} {g : Nat} (h1 : a.grownBy b (some g)) (h2 : b.grownBy c (some g)) : a.grownBy c (some g) := ⟨h2.os.trans h1.os, h2.tape.trans h1.tape, h2.output.trans h1.output, Nat.le_trans h1.size h2.size, fun k hk hn => (h2.block k (Nat.lt_of_lt_of_le hk h1.size) hn).trans (h1.block k hk hn)⟩
theorem cell_of_grown {w w4 : World} {g b j : Nat} (h : ∃ row, w.grownBy w4 row ∧ (∀ x, row = some x → x = g)) (hn : b ≠ g) (hb : b < w.heap.size) : w4.cell? ⟨b, j, none⟩ = w.cell? ⟨b, j, none⟩ := by
  obtain ⟨row, h1, h2⟩ := h
  exact World.cell?_of_block (h1.block b hb (fun e => hn (h2 b e.symm)))
theorem nod_grown {w w4 : World} {o : Obj} {g hi : Nat} {A : List Nat} {t : List Tg} (hn : NodR hi w A t) (h : ∃ row, (w.alloc o).drew.grownBy w4 row ∧ (∀ x, row = some x → x = g)) (hg : hi ≤ g) : NodR hi w4 A t := by
  obtain ⟨row, h1, h2⟩ := h
  refine hn.below ⟨h1.os, h1.tape, h1.output, by have := h1.size; simp at this; omega, fun k hk => ?_⟩
  have hk2 : k < w.heap.size := Nat.lt_of_lt_of_le hk hn.size
  exact (h1.block k (by simp; omega) (fun e => by have := h2 k e.symm; omega)).trans (heap_alloc_old w _ hk2)
theorem keep_grown {w w1 w2 : World} {g n cap : Nat} {v' : Value} (h : (v' = .slice (some ⟨g, 0, none⟩) n cap ∧ w.grownBy w1 (some g)) ∨ (v'.ownBlock = some w.heap.size ∧ w.grownBy w1 none)) (hg : w1.grownBy w2 v'.ownBlock) : w.grownBy w2 (some g) := by
  rcases h with ⟨rfl, h1⟩ | ⟨hb, h1⟩
  · exact grown_join h1 (by simpa [Value.ownBlock] using hg)
  · rw [hb] at hg
    exact ⟨hg.os.trans h1.os, hg.tape.trans h1.tape, hg.output.trans h1.output, Nat.le_trans h1.size hg.size, fun k hk hn => (hg.block k (Nat.lt_of_lt_of_le hk h1.size) (by simp; omega)).trans (h1.block k hk (by simp))⟩
theorem alloc_grown {w w2 : World} {o : Obj} {g : Nat} (h : (w.alloc o).grownBy w2 (some g)) : w.grownBy w2 (some g) := ⟨h.os, h.tape, h.output, by have := h.size; simp at this; omega, fun k hk hn => (h.block k (by simp; omega) hn).trans (heap_alloc_old w _ hk)⟩
set_option maxRecDepth 20000 in
set_option maxHeartbeats 16000000 in
theorem cycleAlong_any (t : List Tg) (ht : areTg t = true) (A : List Nat) (hi lo : Nat) (hd : Int) (hlo : hi ≤ lo) : ∀ (f : Nat) (c : List Int) (last : Nat) (g cap : Nat) (w : World), NodR hi w A t → c.length + f = 11 → c.Nodup → (∀ x ∈ c, 0 ≤ x ∧ x ≤ 9) → c.getD 0 0 = hd → 0 < c.length → last < 10 → lo ≤ w.heap.size → w.ownsRow lo 3 1 (.slice (some ⟨g, 0, none⟩) c.length cap) c.length (c.map vI) →
    Calls Try.prog 71 #[ptrA A last, .slice (some ⟨g, 0, none⟩) c.length cap] w (CycD lo w (.slice (some ⟨g, 0, none⟩) c.length cap) c (cycP f t hd c (last : Int))) := by
  intro f
  induction f with
  | zero =>
    intro c last g cap w _ hf hn hr _ _ _ _ _
    have := nodup_ten hn hr
    omega
  | succ f ih =>
    intro c last g cap w hnr hf hn hr hhd h0 hla hlw hown
    obtain ⟨i0, hi0, hz0, hz1, hz2⟩ := info_parts Try.info_intN
    have IH := Lib.hid ih
    clear ih
    have HNR := Lib.hid hnr
    have HN := Lib.hid hn
    have HR := Lib.hid hr
    have HHD := Lib.hid hhd
    have hl10 := nodup_ten hn hr
    have HT := Lib.hid ht
    obtain ⟨N, hN⟩ : ∃ N, c.length = N := ⟨_, rfl⟩
    rw [hN] at hf h0 hl10 hown
    rw [hN]
    have HNL := Lib.hid hN
    have HOW := Lib.hid hown
    have hgl := hown.lt g rfl
    obtain ⟨L, hL⟩ : ∃ l, folL t (last : Int) = l := ⟨_, rfl⟩
    have hLm : ∀ x ∈ L, x ∈ t ∧ x.ev = (last : Int) := fun x hx => folL_mem.1 (by rw [hL]; exact hx)
    have HLM := Lib.hid hLm
    obtain ⟨fa, fc, hf1, hf2, hf3, hf4⟩ := hnr.fol last hla
    rw [hL] at hf1 hf2 hf4
    have hLl : L.length ≤ 10 := by rw [← hL]; exact Nat.le_trans (folL_len _) (tg_len ht)
    have HF4 := Lib.hid hf4
    unfold maxLen at hf3
    have HQ : Hid (cycP (f + 1) t hd c (last : Int) = L.findSome? (cycG f t hd c)) := Lib.hid (by rw [cycP_eq, hL])
    have hadr := hnr.adr last hla
    obtain ⟨P, hP⟩ : ∃ p, A.getD last 0 = p := ⟨_, rfl⟩
    unfold ptrA
    rw [hP] at hf1 hadr
    rw [hP]
    clear hnr hn hr hhd hN hown hL hLm hf4 hP ht
    go_enter Try.func71, Try.ntmps71
    go_wp2_with fail
    go_loopw [14] (fun i wr => ∃ k : Nat, k ≤ L.length ∧ i = .int .i64 k ∧ Hid (∀ j, j < k → cycG f t hd c (L.getD j tgD) = none) ∧ Hid (wr.ownsRow lo 3 1 (.slice (some ⟨g, 0, none⟩) N cap) N (c.map vI)) ∧ Hid (w.grownBy wr (some g))) (fun i _ => L.length - (intOf i).toNat)
    case atStart => exact ⟨0, Nat.zero_le _, rfl, Lib.hid (fun j h => absurd h (Nat.not_lt_zero _)), HOW, Lib.hid (World.grownBy.refl _ _)⟩
    case round =>
      clear HOW
      obtain ⟨k, hk, rfl, HJ, HO, HG⟩ := hrel
      have hsw := HG.out.size
      have hbl : Below hi w wr := ⟨HG.out.os, HG.out.tape, HG.out.output, HG.out.size, fun b hb => HG.out.block b (by have := HNR.out.size; omega) (fun e => by cases e; omega)⟩
      have HNW := Lib.hid (HNR.out.below hbl)
      by_cases hlt : k < L.length
      · obtain ⟨fb, fo, hfb, rfl, hfe⟩ := HF4.out.resolve_left (fun e => by rw [e] at hlt; simp at hlt)
        obtain ⟨⟨x0, x1, x2⟩, hx⟩ : ∃ x, L.getD k tgD = x := ⟨_, rfl⟩
        obtain ⟨q0, q1⟩ := hfe k hlt
        rw [hx] at q0 q1
        simp only at q0 q1
        have hxm := HLM.out ⟨x0, x1, x2⟩ (by rw [← hx, getTg_lt hlt]; exact List.getElem_mem hlt)
        have hone := (tgOne_iff.1 (tg_mem HT.out hxm.1)).2.1
        simp only at hone
        obtain ⟨n1, rfl⟩ : ∃ n : Nat, x1 = (n : Int) := ⟨x1.toNat, by omega⟩
        have hn1 : n1 < 10 := by omega
        rw [Int.toNat_natCast] at q0
        have f0 := (hbl.cell (p := ⟨fb, fo + k * 2, none⟩) hfb).trans q0
        have f1 := (hbl.cell (p := ⟨fb, fo + k * 2 + 1, none⟩) hfb).trans q1
        have hkd := HNW.out.kind n1 hn1
        have hka := HNW.out.adr n1 hn1
        unfold ptrA at f0
        obtain ⟨P1, hP1⟩ : ∃ p, A.getD n1 0 = p := ⟨_, rfl⟩
        rw [hP1] at f0 hkd hka
        have HP1 := Lib.hid hP1
        have HX := Lib.hid hx
        have hrow := RowOf.of_owns HO.out
        obtain ⟨ca, cc, hcv, hcl, hcm, hcc⟩ := hrow
        obtain ⟨b0, o0, hb0, e00, e0⟩ := hcc.resolve_left (fun e => by have := HNL.out; rw [e] at this; simp at this; omega)
        have fh := e0 0 (by have := HNL.out; omega)
        rw [← getI_lt (by have := HNL.out; omega), HHD.out] at fh
        simp only [Value.slice.injEq] at hcv
        obtain ⟨rfl, hq9, rfl⟩ := hcv
        clear hq9
        cases e00
        simp only [vI, Nat.add_zero] at fh
        have fha := fun o : Obj => below_al_cell fh o
        have hka2 := fun o : Obj => below_al_cell hkd o
        have g0 : (0 : Int) ≤ (k : Int) := by omega
        have g1 : (k : Int) < (L.length : Int) := by omega
        have gN : (0 : Int) < (N : Int) := by omega
        have HOA := Lib.hid (HO.out.alloc (.cells #[.pointer (some ⟨P1, 0, none⟩), .int .i64 x2] 158 (0, 0)))
        have HGA : Hid (w.grownBy (wr.alloc (.cells #[.pointer (some ⟨P1, 0, none⟩), .int .i64 x2] 158 (0, 0))) (some g)) := Lib.hid ⟨HG.out.os, HG.out.tape, HG.out.output, by have := HG.out.size; simp; omega, fun b hb hn => (heap_alloc_old wr _ (by omega)).trans (HG.out.block b hb hn)⟩
        have hsz := HG.out.size
        clear q0 q1 hfe hxm hone hx hcc e0 hP1
        by_cases he : (n1 : Int) = hd
        · have r0 : ((n1 : Int) == hd) = true := by simp [he]
          have HQ2 : Hid (cycP (f + 1) t hd c (last : Int) = some c) := Lib.hid (by rw [HQ.out]; exact findL_at L k hlt HJ.out (by rw [HX.out]; unfold cycG; rw [if_pos he]))
          clear he
          go_wp2_with fail
          go_ret
          exact ⟨_, rfl, fun p hp => by rw [HQ2.out] at hp; cases hp; exact ⟨⟨_, _, _, rfl⟩, by rw [HNL.out]; exact HOA.out⟩, (fun hp => by rw [HQ2.out] at hp; cases hp), HGA.out⟩
        · have r0 : ((n1 : Int) == hd) = false := by simp [he]
          have HE := Lib.hid he
          clear he
          by_cases hlth : (n1 : Int) < hd
          · have HNX : Hid (cycG f t hd c (L.getD k tgD) = none) := Lib.hid (by rw [HX.out]; unfold cycG; rw [if_neg HE.out, if_pos (.inl hlth)])
            go_wp2_with fail
            go_roundw
            case rel => exact ⟨k + 1, by omega, by go_num, Lib.hid (fun j hj => by by_cases e : j = k; (· rw [e]; exact HNX.out); (· exact HJ.out j (by omega))), HOA, HGA⟩
            case measure => simp [intOf]; omega
          · have HROW := Lib.hid (RowOf.of_owns HOA.out)
            obtain ⟨bm, hbm⟩ : ∃ b, decide ((n1 : Int) ∈ c) = b := ⟨_, rfl⟩
            have HBM := Lib.hid hbm
            have HLTH := Lib.hid hlth
            have dlt : decide ((n1 : Int) < hd) = false := decide_eq_false hlth
            clear hbm hlth
            go_wp2_with fail
            generalize hWB : wr.alloc (.cells #[.pointer (some ⟨P1, 0, none⟩), .int .i64 x2] 158 (0, 0)) = wB at *
            have z0 : wB.cell? ⟨wr.heap.size, 0, none⟩ = some (.pointer (some ⟨P1, 0, none⟩)) := by rw [← hWB]; exact cell_new wr _ _ 0 rfl
            have bB : Below wr.heap.size wr wB := by rw [← hWB]; exact below_al (Below.refl _ _) _
            have hBl : wr.heap.size < wB.heap.size := by rw [← hWB]; simp
            have hBs := bB.size
            clear hWB
            refine (contains_any _ c (n1 : Int) _ HROW.out).mono ?_
            rw [HBM.out]
            rintro e w2 ⟨rfl, b2⟩
            have z2 := cell_kept z0 b2
            have hs2 := b2.size
            have HO2 := Lib.hid (ownsRow_below HOA.out b2)
            have HG2 : Hid (w.grownBy w2 (some g)) := Lib.hid ⟨b2.os.trans HGA.out.os, b2.tape.trans HGA.out.tape, b2.output.trans HGA.out.output, Nat.le_trans HGA.out.size hs2, fun b hb hn => (b2.block b (by have := HGA.out.size; omega)).trans (HGA.out.block b hb hn)⟩
            clear f0 f1 fha hka2 fh z0 HOA HGA HROW
            cases bm
            · obtain ⟨q, hq⟩ : ∃ q, cycP f t hd (c ++ [(n1 : Int)]) (n1 : Int) = q := ⟨_, rfl⟩
              have HCG : Hid (cycG f t hd c (L.getD k tgD) = q) := Lib.hid (by rw [HX.out]; unfold cycG; rw [if_neg HE.out, if_neg (fun z => by rcases z with z | z; (· have z2 : (n1 : Int) < hd := z; have := HLTH.out; omega); (· exact of_decide_eq_false HBM.out z)), ← hq])
              have HQQ := Lib.hid hq
              have IH2 : Hid (∀ (g4 cap4 : Nat) (W : World), NodR hi W A t → lo ≤ W.heap.size → W.ownsRow lo 3 1 (.slice (some ⟨g4, 0, none⟩) (N + 1) cap4) (N + 1) (c.map vI ++ [.int .i64 (n1 : Int)]) → Calls Try.prog 71 #[.pointer (some ⟨P1, 0, none⟩), .slice (some ⟨g4, 0, none⟩) (N + 1) cap4] W (CycD lo W (.slice (some ⟨g4, 0, none⟩) (N + 1) cap4) (c ++ [(n1 : Int)]) q)) := Lib.hid (fun g4 cap4 W h1 h2 h3 => by
                have hl : (c ++ [(n1 : Int)]).length = N + 1 := by simp [HNL.out]
                have := IH.out (c ++ [(n1 : Int)]) n1 g4 cap4 W h1 (by rw [hl]; omega) (by rw [List.nodup_append]; refine ⟨HN.out, by simp, ?_⟩; intro a ha b hb2 e; rw [List.mem_singleton.1 hb2] at e; exact of_decide_eq_false HBM.out (e ▸ ha)) (fun x hx => by rcases List.mem_append.1 hx with q | q; (· exact HR.out x q); (· rw [List.mem_singleton.1 q]; omega)) ((getD0_app (by rw [HNL.out]; omega) _).trans HHD.out) (by rw [hl]; omega) hn1 h2 (by rw [hl]; simpa [vI] using h3)
                rw [hl, hq] at this
                unfold ptrA at this
                rw [HP1.out] at this
                exact this)
              have HNEWS := Lib.hid (cellsL_new w2 [.int .i64 (n1 : Int)] 3 rfl)
              have HLW : Hid (lo ≤ w2.heap.size) := Lib.hid (by omega)
              have HNR2 : Hid (NodR hi w2 A t) := Lib.hid (HNW.out.below ((bB.mono (by have := HNW.out.size; omega)).trans (b2.mono (by have := HNW.out.size; omega))))
              have hnn := nil_neqT
              have hrn := row_neqT
              have hlw2 : lo ≤ w2.heap.size := HLW.out
              have hgl2 : g < wr.heap.size := by omega
              have hlog : lo ≤ g := by have := (HO2.out.lt g rfl).1; omega
              clear hq
              cases q with
              | none =>
                go_wp2_with fail
                go_region_held3 (fun w' => w'.cell? ⟨wr.heap.size, 0, none⟩ = some (.pointer (some ⟨P1, 0, none⟩))) (first | exact z2 | exact hz4 | exact hz5 | go_keep) (first | (rw [if_pos (by rfl)]; refine wp_append_keep _ _ _ _ rfl lo 3 i0 (.int .i64 0) 1 8 Try.underlying26 hi0 hz0 hz1 hz2 rfl (by decide) g N cap (c.map vI) (by rfl) (show (w2.alloc (.cells #[.int .i64 (n1 : Int)] 3 (0, 0))).drew.ownsRow _ _ _ _ _ _ from HO2.out.alloc _) ⟨w2.heap.size, 0, none⟩ 1 1 [.int .i64 (n1 : Int)] (by rfl) rfl HNEWS.out (by simp [Value.oneCell']) (by unfold maxLen; omega) (by omega) (by first | omega | (simp; done) | (simp; omega)) ?_; intro v4 w4 hown4 hor4; obtain ⟨g4, cap4, rfl⟩ := own_some hown4 (by omega); have HOR4 : Hid ((Value.slice (some ⟨g4, 0, none⟩) (N + 1) cap4 = .slice (some ⟨g, 0, none⟩) (N + 1) cap ∧ (w2.alloc (.cells #[.int .i64 (n1 : Int)] 3 (0, 0))).grownBy w4 (some g)) ∨ ((Value.slice (some ⟨g4, 0, none⟩) (N + 1) cap4).ownBlock = some (w2.alloc (.cells #[.int .i64 (n1 : Int)] 3 (0, 0))).heap.size ∧ (w2.alloc (.cells #[.int .i64 (n1 : Int)] 3 (0, 0))).grownBy w4 none)) := Lib.hid (by rcases hor4 with ⟨e, h1⟩ | ⟨e, h1⟩; (· exact .inl ⟨e, undrew h1⟩); (· exact .inr ⟨e, undrew h1⟩)); have HOWN4 := Lib.hid hown4; have HGW4 : Hid (∃ row, (w2.alloc (.cells #[.int .i64 (n1 : Int)] 3 (0, 0))).drew.grownBy w4 row ∧ (∀ b, row = some b → b = g)) := Lib.hid (by rcases hor4 with ⟨_, h1⟩ | ⟨_, h1⟩; (· exact ⟨_, h1, fun b e => by cases e; rfl⟩); (· exact ⟨none, h1, fun b e => by cases e⟩)); have hz4 : w4.cell? ⟨wr.heap.size, 0, none⟩ = some (.pointer (some ⟨P1, 0, none⟩)) := (cell_of_grown HGW4.out (by omega) (by simp; omega)).trans (below_al_cell z2 (.cells #[.int .i64 (n1 : Int)] 3 (0, 0))); have HL4 : Hid (lo ≤ w4.heap.size) := Lib.hid (by obtain ⟨_, h1, _⟩ := HGW4.out; have := h1.size; simp at this; omega); have HNR4 : Hid (NodR hi w4 A t) := Lib.hid (nod_grown HNR2.out HGW4.out (by omega)); have HNE4 : Hid (wr.heap.size ≠ g4) := Lib.hid (by rcases HOR4.out with ⟨e, _⟩ | ⟨e, _⟩; (· simp only [Value.slice.injEq, Option.some.injEq, Addr.mk.injEq, and_true] at e; omega); (· simp [Value.ownBlock] at e; omega)); clear hown4 hor4) | (go_at_call 71; refine (IH2.out _ _ _ HNR4.out HL4.out HOWN4.out).mono ?_; rintro e w5 ⟨v5, rfl, p1, p2, p3⟩; have hz5 : w5.cell? ⟨wr.heap.size, 0, none⟩ = some (.pointer (some ⟨P1, 0, none⟩)) := (cell_of_grown (g := g4) ⟨_, p3, fun x e => by simpa [Value.ownBlock] using e.symm⟩ HNE4.out (by obtain ⟨_, h1, _⟩ := HGW4.out; have := h1.size; simp at this; omega)).trans hz4; obtain ⟨rfl, p4⟩ := p2 rfl; have HK5 := Lib.hid (keep_old (HO2.out.alloc (.cells #[.int .i64 (n1 : Int)] 3 (0, 0))) HOR4.out p3 (by simpa [vI, HNL.out] using p4)); clear p1 p2 p3 p4))
                all_goals
                  go_wp2_with fail
                  go_roundw
                  case rel => exact ⟨k + 1, by omega, by go_num, Lib.hid (fun j hj => by by_cases e : j = k; (· rw [e]; exact HCG.out); (· exact HJ.out j (by omega))), Lib.hid HK5.out.1, Lib.hid (grown_join HG2.out (alloc_grown HK5.out.2))⟩
                  case measure => simp [intOf]; omega
              | some p =>
                have HQ2 : Hid (cycP (f + 1) t hd c (last : Int) = some p) := Lib.hid (by rw [HQ.out]; exact findL_at L k hlt HJ.out HCG.out)
                go_wp2_with fail
                go_region_held3 (fun w' => w'.cell? ⟨wr.heap.size, 0, none⟩ = some (.pointer (some ⟨P1, 0, none⟩))) (first | exact z2 | exact hz4 | exact hz5 | go_keep) (first | (rw [if_pos (by rfl)]; refine wp_append_keep _ _ _ _ rfl lo 3 i0 (.int .i64 0) 1 8 Try.underlying26 hi0 hz0 hz1 hz2 rfl (by decide) g N cap (c.map vI) (by rfl) (show (w2.alloc (.cells #[.int .i64 (n1 : Int)] 3 (0, 0))).drew.ownsRow _ _ _ _ _ _ from HO2.out.alloc _) ⟨w2.heap.size, 0, none⟩ 1 1 [.int .i64 (n1 : Int)] (by rfl) rfl HNEWS.out (by simp [Value.oneCell']) (by unfold maxLen; omega) (by omega) (by first | omega | (simp; done) | (simp; omega)) ?_; intro v4 w4 hown4 hor4; obtain ⟨g4, cap4, rfl⟩ := own_some hown4 (by omega); have HOR4 : Hid ((Value.slice (some ⟨g4, 0, none⟩) (N + 1) cap4 = .slice (some ⟨g, 0, none⟩) (N + 1) cap ∧ (w2.alloc (.cells #[.int .i64 (n1 : Int)] 3 (0, 0))).grownBy w4 (some g)) ∨ ((Value.slice (some ⟨g4, 0, none⟩) (N + 1) cap4).ownBlock = some (w2.alloc (.cells #[.int .i64 (n1 : Int)] 3 (0, 0))).heap.size ∧ (w2.alloc (.cells #[.int .i64 (n1 : Int)] 3 (0, 0))).grownBy w4 none)) := Lib.hid (by rcases hor4 with ⟨e, h1⟩ | ⟨e, h1⟩; (· exact .inl ⟨e, undrew h1⟩); (· exact .inr ⟨e, undrew h1⟩)); have HOWN4 := Lib.hid hown4; have HGW4 : Hid (∃ row, (w2.alloc (.cells #[.int .i64 (n1 : Int)] 3 (0, 0))).drew.grownBy w4 row ∧ (∀ b, row = some b → b = g)) := Lib.hid (by rcases hor4 with ⟨_, h1⟩ | ⟨_, h1⟩; (· exact ⟨_, h1, fun b e => by cases e; rfl⟩); (· exact ⟨none, h1, fun b e => by cases e⟩)); have hz4 : w4.cell? ⟨wr.heap.size, 0, none⟩ = some (.pointer (some ⟨P1, 0, none⟩)) := (cell_of_grown HGW4.out (by omega) (by simp; omega)).trans (below_al_cell z2 (.cells #[.int .i64 (n1 : Int)] 3 (0, 0))); have HL4 : Hid (lo ≤ w4.heap.size) := Lib.hid (by obtain ⟨_, h1, _⟩ := HGW4.out; have := h1.size; simp at this; omega); have HNR4 : Hid (NodR hi w4 A t) := Lib.hid (nod_grown HNR2.out HGW4.out (by omega)); have HNE4 : Hid (wr.heap.size ≠ g4) := Lib.hid (by rcases HOR4.out with ⟨e, _⟩ | ⟨e, _⟩; (· simp only [Value.slice.injEq, Option.some.injEq, Addr.mk.injEq, and_true] at e; omega); (· simp [Value.ownBlock] at e; omega)); clear hown4 hor4) | (go_at_call 71; refine (IH2.out _ _ _ HNR4.out HL4.out HOWN4.out).mono ?_; rintro e w5 ⟨v5, rfl, p1, p2, p3⟩; have hz5 : w5.cell? ⟨wr.heap.size, 0, none⟩ = some (.pointer (some ⟨P1, 0, none⟩)) := (cell_of_grown (g := g4) ⟨_, p3, fun x e => by simpa [Value.ownBlock] using e.symm⟩ HNE4.out (by obtain ⟨_, h1, _⟩ := HGW4.out; have := h1.size; simp at this; omega)).trans hz4; obtain ⟨⟨g5, n5, cap5, rfl⟩, p4⟩ := p1 _ rfl; have HK5 := Lib.hid (keep_grown (w := w2.alloc (.cells #[.int .i64 (n1 : Int)] 3 (0, 0))) HOR4.out p3); have HP5 := Lib.hid p4; clear p1 p2 p3 p4))
                all_goals
                  go_wp2_with fail
                  go_ret
                  exact ⟨_, rfl, (fun p' hp => by rw [HQ2.out] at hp; cases hp; exact ⟨⟨_, _, _, rfl⟩, HP5.out⟩), (fun hp => by rw [HQ2.out] at hp; cases hp), grown_join HG2.out (alloc_grown HK5.out)⟩
            · have HNX : Hid (cycG f t hd c (L.getD k tgD) = none) := Lib.hid (by rw [HX.out]; unfold cycG; rw [if_neg HE.out, if_pos (.inr (of_decide_eq_true HBM.out))])
              go_wp2_with fail
              go_roundw
              case rel => exact ⟨k + 1, by omega, by go_num, Lib.hid (fun j hj => by by_cases e : j = k; (· rw [e]; exact HNX.out); (· exact HJ.out j (by omega))), HO2, HG2⟩
              case measure => simp [intOf]; omega
      · have HQ2 : Hid (cycP (f + 1) t hd c (last : Int) = none) := Lib.hid (by rw [HQ.out]; exact findL_none (d := tgD) L (fun j hj => HJ.out j (by omega)))
        go_wp2_with fail
        go_ret
        exact ⟨_, rfl, (fun p hp => by rw [HQ2.out] at hp; cases hp), fun _ => ⟨rfl, by rw [HNL.out]; exact HO.out⟩, HG.out⟩
end Go.Proofs.Ytenjajcknmfhfaa
