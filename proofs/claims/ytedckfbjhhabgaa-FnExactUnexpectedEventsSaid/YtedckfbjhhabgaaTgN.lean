/- What the functions of chapter 10 answer, as the program reckons it, and that the model reckons the same. No program is named here. -/
import Derived.Test.YtedckfbjhhabgaaTgM
namespace Go.Proofs.Ytedckfbjhhabgaa
set_option linter.unusedVariables false

/-- Two rising lists with the same members are the same. -/
theorem rising_eqT : ∀ (l m : List Int), l.Pairwise (· < ·) → m.Pairwise (· < ·) → (∀ x, x ∈ l ↔ x ∈ m) → l = m
  | [], [], _, _, _ => rfl
  | [], b :: m, _, _, h => absurd ((h b).2 (by simp)) (by simp)
  | a :: l, [], _, _, h => absurd ((h a).1 (by simp)) (by simp)
  | a :: l, b :: m, hl, hm, h => by
    rw [List.pairwise_cons] at hl hm
    have hab : a = b := by
      rcases List.mem_cons.1 ((h a).1 (by simp)) with e | e
      · exact e
      · rcases List.mem_cons.1 ((h b).2 (by simp)) with e2 | e2
        · exact e2.symm
        · have := hm.1 a e
          have := hl.1 b e2
          omega
    subst hab
    rw [rising_eqT l m hl.2 hm.2 fun x => ?_]
    constructor
    · intro hx
      rcases List.mem_cons.1 ((h x).1 (by simp [hx])) with e | e
      · have := hl.1 x hx; omega
      · exact e
    · intro hx
      rcases List.mem_cons.1 ((h x).2 (by simp [hx])) with e | e
      · have := hm.1 x hx; omega
      · exact e
theorem tg_asc {t : List Tg} (h : areTg t = true) : ∀ (d i : Nat), i + d + 1 < t.length → tgBef (t.getD i tgD) (t.getD (i + d + 1) tgD) = true
  | 0, i, hd => ((tgAt_iff rfl).1 ((tg_iff.1 h).2 (i + 1) (by omega))).2
  | d + 1, i, hd => by
    have h1 := tg_asc h d i (by omega)
    have h2 := ((tgAt_iff rfl).1 ((tg_iff.1 h).2 (i + d + 1 + 1) (by omega))).2
    simp only [prevTg] at h2
    rw [show i + (d + 1) + 1 = i + d + 1 + 1 by omega]
    exact tgBef_trans h1 h2
theorem tg_pair {t : List Tg} (h : areTg t = true) : t.Pairwise (fun a b => tgBef a b = true) := by
  rw [List.pairwise_iff_getElem]
  intro i j hi hj hij
  have := tg_asc h (j - i - 1) i (by omega)
  rwa [show i + (j - i - 1) + 1 = j by omega, getTg_lt hi, getTg_lt hj] at this
/-- The triggers of a kind. -/
def folL (t : List Tg) (k : Int) : List Tg := t.filter (fun x => decide (x.ev = k))
theorem folL_mem {t : List Tg} {k : Int} {x : Tg} : x ∈ folL t k ↔ x ∈ t ∧ x.ev = k := by simp [folL]
theorem folL_rising {t : List Tg} (h : areTg t = true) (k : Int) : ((folL t k).map (·.aft)).Pairwise (· < ·) := by
  rw [List.pairwise_map]
  refine ((tg_pair h).filter _).imp_of_mem fun {a b} ha hb hab => ?_
  have h1 := (folL_mem.1 ha).2
  have h2 := (folL_mem.1 hb).2
  rw [tgBef_iff] at hab
  omega
theorem folL_len {t : List Tg} (k : Int) : (folL t k).length ≤ t.length := List.length_filter_le _ _
theorem folL_aft {t : List Tg} (h : areTg t = true) (k : Int) : (folL t k).map (·.aft) = ((List.range 10).map Int.ofNat).filter (folB t k) := by
  refine rising_eqT _ _ (folL_rising h k) ?_ fun x => ?_
  · refine List.Pairwise.filter _ ?_
    decide
  · rw [List.mem_filter, folB_iff, List.mem_map, List.mem_map]
    constructor
    · rintro ⟨y, hy, rfl⟩
      have hm := folL_mem.1 hy
      have := (tgOne_iff.1 (tg_mem h hm.1)).2.1
      refine ⟨⟨y.aft.toNat, List.mem_range.2 (by omega), by simp; omega⟩, y, hm.1, hm.2, rfl⟩
    · rintro ⟨_, y, hy, h1, h2⟩
      exact ⟨y, folL_mem.2 ⟨hy, h1⟩, h2⟩
theorem find_filter {α β : Type} (p : α → Bool) (g : α → Option β) : ∀ l : List α, l.findSome? (fun k => if p k = true then g k else none) = (l.filter p).findSome? g
  | [] => rfl
  | a :: l => by
    rw [List.findSome?_cons, List.filter_cons]
    cases p a
    · simp [find_filter p g l]
    · simp only [if_true, List.findSome?_cons, find_filter p g l]
/-- The program's search of a cycle from a path on. -/
def cycP : Nat → List Tg → Int → List Int → Int → Option (List Int)
  | 0, _, _, _, _ => none
  | f + 1, t, hd, c, last => (folL t last).findSome? (fun x => if x.aft = hd then some c else if x.aft < hd ∨ x.aft ∈ c then none else cycP f t hd (c ++ [x.aft]) x.aft)
theorem cycP_chainF {t : List Tg} (h : areTg t = true) : ∀ (f : Nat) (hd : Int) (c : List Int) (last : Int), cycP f t hd c last = chainF f t hd c last
  | 0, _, _, _ => rfl
  | f + 1, hd, c, last => by
    unfold cycP chainF
    have e1 : (fun k => if hd ≤ k then (if folB t last k = true then (if k = hd then some c else if k ∈ c then none else chainF f t hd (c ++ [k]) k) else none) else none) = (fun k => if folB t last k = true then (if hd ≤ k then (if k = hd then some c else if k ∈ c then none else chainF f t hd (c ++ [k]) k) else none) else none) := by
      funext k
      by_cases h1 : hd ≤ k <;> by_cases h2 : folB t last k = true <;> simp [h1, h2]
    rw [e1, find_filter, ← folL_aft h, List.findSome?_map]
    congr 1
    funext x
    simp only [Function.comp]
    rw [cycP_chainF h f]
    by_cases h1 : x.aft = hd
    · rw [if_pos h1, if_pos (by omega), if_pos h1]
    · by_cases h2 : hd ≤ x.aft
      · rw [if_neg h1, if_pos h2, if_neg h1]
        by_cases h3 : x.aft ∈ c
        · rw [if_pos (.inr h3), if_pos h3]
        · rw [if_neg (by rintro (q | q); omega; exact h3 q), if_neg h3]
      · rw [if_neg h1, if_neg h2, if_pos (.inl (by omega))]
theorem folL_zero {t : List Tg} (h : areTg t = true) {k : Int} (hk : ¬ (1 ≤ k ∧ k ≤ 9)) : folL t k = [] := by
  rcases hl : folL t k with _ | ⟨x, l⟩
  · rfl
  · have hx := folL_mem.1 (show x ∈ folL t k by rw [hl]; simp)
    have := (tgOne_iff.1 (tg_mem h hx.1)).1
    omega
/-- The first cycle, by the heads 0..9 as the program tries them. -/
theorem cycF_ten {t : List Tg} (h : areTg t = true) : cycF t = ([0, 1, 2, 3, 4, 5, 6, 7, 8, 9] : List Int).findSome? (fun k => cycP 10 t k [k] k) := by
  have e0 : cycP 10 t 0 [0] 0 = none := by unfold cycP; rw [folL_zero h (by omega)]; rfl
  rw [List.findSome?_cons, e0]
  unfold cycF
  congr 1
  funext k
  rw [cycP_chainF h]
/-- The expected day along a kind's triggers. -/
def goL (D : Int → Int) : List Tg → Int → Int
  | [], m => m
  | x :: r, m => if D x.aft < 0 then -1 else goL D r (max m (D x.aft + x.days))
theorem dayGo_goL (D : Int → Int) (e : Int) : ∀ (l : List Tg) (m : Int), dayGo D e l m = goL D (folL l e) m
  | [], m => rfl
  | x :: r, m => by
    unfold dayGo
    by_cases hx : x.ev = e
    · have e1 : folL (x :: r) e = x :: folL r e := List.filter_cons_of_pos (by simpa using hx)
      rw [if_pos hx, e1]
      unfold goL
      split
      · rfl
      · exact dayGo_goL D e r _
    · have e1 : folL (x :: r) e = folL r e := List.filter_cons_of_neg (by simpa using hx)
      rw [if_neg hx, e1]
      exact dayGo_goL D e r _
theorem dayX_goL {t : List Tg} (ht : areTg t = true) (hc : cycF t = none) {e : Int} (he : e ≠ 0) : dayX t e = goL (dayX t) (folL t e) (-1) := by rw [dayX_step ht hc he, dayGo_goL]
theorem dayX_out {t : List Tg} (ht : areTg t = true) (hc : cycF t = none) {e : Int} (he : ¬ (0 ≤ e ∧ e ≤ 9)) : dayX t e = -1 := by
  rw [dayX_goL ht hc (by omega), folL_zero ht (by omega)]; rfl
/-- What the walk along the links carries: the day so far is the greatest, not below 0. -/
theorem goL_ge {D : Int → Int} : ∀ (l : List Tg) (m : Int), 0 ≤ m → (∀ x ∈ l, 0 ≤ D x.aft) → m ≤ goL D l m
  | [], m, _, _ => Int.le_refl _
  | x :: r, m, hm, h => by
    unfold goL
    have h0 := h x (by simp)
    rw [if_neg (by omega)]
    have := goL_ge r (max m (D x.aft + x.days)) (by omega) (fun y hy => h y (by simp [hy]))
    omega
theorem dayX_low {t : List Tg} (ht : areTg t = true) : ∀ (f : Nat) (e : Int), -1 ≤ dayF f t e
  | 0, _ => by unfold dayF; omega
  | f + 1, e => by
    unfold dayF
    split
    · omega
    · have key : ∀ (l : List Tg) (m : Int), (∀ x ∈ l, x ∈ t) → -1 ≤ m → -1 ≤ dayGo (dayF f t) e l m := by
        intro l
        induction l with
        | nil => intro m _ hm; unfold dayGo; exact hm
        | cons x l ih =>
          intro m hl hm
          unfold dayGo
          split
          · split
            · omega
            · exact ih _ (fun y hy => hl y (by simp [hy])) (by omega)
          · exact ih _ (fun y hy => hl y (by simp [hy])) hm
      exact key t (-1) (fun x hx => hx) (Int.le_refl _)
/-- A day is small. -/
theorem dayF_high {t : List Tg} (ht : areTg t = true) : ∀ (f : Nat) (e : Int), dayF f t e ≤ 10000 * f
  | 0, _ => by unfold dayF; omega
  | f + 1, e => by
    unfold dayF
    split
    · omega
    · have key : ∀ (l : List Tg) (m : Int), (∀ x ∈ l, x ∈ t) → m ≤ 10000 * (f + 1 : Nat) → dayGo (dayF f t) e l m ≤ 10000 * (f + 1 : Nat) := by
        intro l
        induction l with
        | nil => intro m _ hm; unfold dayGo; exact hm
        | cons x l ih =>
          intro m hl hm
          unfold dayGo
          have h1 := dayF_high ht f x.aft
          have h2 := (tgOne_iff.1 (tg_mem ht (hl x (by simp)))).2.2.2
          split
          · split
            · omega
            · exact ih _ (fun y hy => hl y (by simp [hy])) (by omega)
          · exact ih _ (fun y hy => hl y (by simp [hy])) hm
      exact key t (-1) (fun x hx => hx) (by omega)
theorem dayX_in {t : List Tg} (ht : areTg t = true) (e : Int) : -1 ≤ dayX t e ∧ dayX t e ≤ 100000 := by
  have h1 := dayX_low ht 10 e
  have h2 := dayF_high ht 10 e
  exact ⟨h1, by unfold dayX; omega⟩
/-- A link leads to shorter walks. -/
def shortW (t : List Tg) (e : Int) (f : Nat) : Prop := ∀ l, walkP t (e :: l) → l.length < f
theorem shortW_link {t : List Tg} {e : Int} {f : Nat} (h : shortW t e (f + 1)) {x : Tg} (hx : x ∈ folL t e) : shortW t x.aft f := by
  intro l hl
  obtain ⟨h1, h2⟩ := folL_mem.1 hx
  have := h (x.aft :: l) ⟨folB_iff.2 ⟨x, h1, h2, rfl⟩, hl⟩
  simp only [List.length_cons] at this
  omega
theorem shortW_pos {t : List Tg} {e : Int} {f : Nat} (h : shortW t e f) : 0 < f := by
  have := h [] trivial
  simpa using this
theorem shortW_ten {t : List Tg} (ht : areTg t = true) (hc : cycF t = none) (e : Int) : shortW t e 10 := fun l hl => acyc_short ht hc hl
/-- The answers. -/
def gapsRes (s : List Ru) (xs : List Int) : List Int × Bool := if isSch s = true ∧ (xs.length ≤ 20 ∧ risB 1 99 xs = true) then (gapsOf s xs, true) else ([], false)
def conB (a b : Ru) : Bool := decide (a.act = 1) && (decide (b.act = 3) && (decide (a.series = b.series) && decide (a.days = b.days)))
def hcRes (t : List Tg) : Bool × Bool := if areTg t = true then ((cycF t).isSome, true) else (false, false)
def fcRes (t : List Tg) : List Int × Bool := if areTg t = true then (match cycF t with | some c => (c, true) | none => ([], false)) else ([], false)
def freeB (t : List Tg) : Bool := areTg t && (cycF t).isNone
theorem freeB_iff {t : List Tg} : freeB t = true ↔ areTg t = true ∧ cycF t = none := by simp [freeB]
/-- The expected day, or -1, of any list. -/
def edayX (t : List Tg) (e : Int) : Int := if freeB t = true then dayX t e else -1
theorem edayX_in (t : List Tg) (e : Int) : -1 ≤ edayX t e ∧ edayX t e ≤ 100000 := by
  unfold edayX
  split
  · rename_i h; exact dayX_in (freeB_iff.1 h).1 e
  · omega
def edRes (t : List Tg) (e : Int) : Int × Bool := if edayX t e < 0 then (0, false) else (edayX t e, true)
/-- The greatest sum over rules. -/
def dueL (D : Int → Int) : List Ru → Int → Option Int
  | [], m => some m
  | r :: l, m => if D r.event < 0 then none else dueL D l (max m (D r.event + r.days))
def dueTRes (t : List Tg) (s : List Ru) (k : Int) : Int × Bool :=
  if (rufRes s k).1 = [] then (0, false) else match dueL (edayX t) (rufRes s k).1 0 with | some m => (m, true) | none => (0, false)
def unxF (t : List Tg) (s : List Ru) : List Int := ([1, 2, 3, 4, 5, 6, 7, 8, 9] : List Int).filter (fun e => decide (dayX t e < 0) && s.any (fun r => decide (r.event = e)))
def unxRes (t : List Tg) (s : List Ru) : List Int × Bool := if freeB t = true ∧ isSch s = true then (unxF t s, true) else ([], false)
end Go.Proofs.Ytedckfbjhhabgaa
