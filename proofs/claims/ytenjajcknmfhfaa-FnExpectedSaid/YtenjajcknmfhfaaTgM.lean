/- What a list of triggers is, and what the functions of chapter 10 answer, as plain mathematics. No program is named here. -/
import Derived.Test.YtenjajcknmfhfaaPerM
import Derived.Test.YtenjajcknmfhfaaFoM
namespace Go.Proofs.Ytenjajcknmfhfaa
set_option linter.unusedVariables false

structure Tg where
  ev : Int
  aft : Int
  days : Int
  deriving DecidableEq
def tgD : Tg := ⟨0, 0, 0⟩
theorem getTg_lt {xs : List Tg} {i : Nat} (h : i < xs.length) : xs.getD i tgD = xs[i] := by simp [List.getD, List.getElem?_eq_getElem h]
def tgOne (x : Tg) : Bool := decide (1 ≤ x.ev ∧ x.ev ≤ 9) && (decide (0 ≤ x.aft ∧ x.aft ≤ 9) && (decide (¬ x.aft = x.ev) && decide (0 ≤ x.days ∧ x.days ≤ 10000)))
theorem tgOne_iff {x : Tg} : tgOne x = true ↔ (1 ≤ x.ev ∧ x.ev ≤ 9) ∧ (0 ≤ x.aft ∧ x.aft ≤ 9) ∧ ¬ x.aft = x.ev ∧ (0 ≤ x.days ∧ x.days ≤ 10000) := by
  simp only [tgOne, Bool.and_eq_true, decide_eq_true_eq]
def tgBef (a b : Tg) : Bool := decide (a.ev < b.ev ∨ (a.ev = b.ev ∧ a.aft < b.aft))
theorem tgBef_iff {a b : Tg} : tgBef a b = true ↔ (a.ev < b.ev ∨ (a.ev = b.ev ∧ a.aft < b.aft)) := by simp [tgBef]
theorem tgBef_trans {a b c : Tg} (h1 : tgBef a b = true) (h2 : tgBef b c = true) : tgBef a c = true := by rw [tgBef_iff] at *; omega
def prevTg (t : List Tg) : Nat → Tg
  | 0 => tgD
  | j + 1 => t.getD j tgD
def tgAtB (t : List Tg) (i : Nat) : Bool := tgOne (t.getD i tgD) && tgBef (prevTg t i) (t.getD i tgD)
def areTg (t : List Tg) : Bool := decide (t.length ≤ 10) && upto (tgAtB t) t.length
theorem tgAt_iff {t : List Tg} {i : Nat} {x : Tg} (hx : t.getD i tgD = x) : tgAtB t i = true ↔ tgOne x = true ∧ tgBef (prevTg t i) x = true := by
  subst hx
  simp only [tgAtB, Bool.and_eq_true]
theorem tg_first {x : Tg} (h : tgOne x = true) : tgBef tgD x = true := by rw [tgOne_iff] at h; rw [tgBef_iff]; unfold tgD; simp only; omega
theorem tg_long {t : List Tg} (h : ¬ t.length ≤ 10) : areTg t = false := by unfold areTg; rw [decide_eq_false h]; rfl
theorem notTg {t : List Tg} {k : Nat} (hk : k < t.length) (h : tgAtB t k = false) : areTg t = false := by unfold areTg; rw [upto_false hk h]; simp
theorem tg_iff {t : List Tg} : areTg t = true ↔ t.length ≤ 10 ∧ ∀ i, i < t.length → tgAtB t i = true := by simp [areTg, upto_iff]
theorem tg_upto {t : List Tg} (hu : upto (tgAtB t) t.length = true) : areTg t = decide (t.length ≤ 10) := by unfold areTg; rw [hu]; simp
theorem tg_len {t : List Tg} (h : areTg t = true) : t.length ≤ 10 := (tg_iff.1 h).1
theorem tg_at {t : List Tg} (h : areTg t = true) {i : Nat} (hi : i < t.length) : tgOne (t.getD i tgD) = true := ((tgAt_iff rfl).1 ((tg_iff.1 h).2 i hi)).1
theorem tg_mem {t : List Tg} (h : areTg t = true) {x : Tg} (hx : x ∈ t) : tgOne x = true := by
  obtain ⟨i, hi, rfl⟩ := List.getElem_of_mem hx
  have := tg_at h hi
  rwa [getTg_lt hi] at this
/-- One kind follows another. -/
def folB (t : List Tg) (a b : Int) : Bool := t.any (fun x => decide (x.ev = a ∧ x.aft = b))
theorem folB_iff {t : List Tg} {a b : Int} : folB t a b = true ↔ ∃ x ∈ t, x.ev = a ∧ x.aft = b := by simp [folB]
theorem fol_in {t : List Tg} (h : areTg t = true) {a b : Int} (hf : folB t a b = true) : (1 ≤ a ∧ a ≤ 9) ∧ (0 ≤ b ∧ b ≤ 9) ∧ ¬ b = a := by
  obtain ⟨x, hx, rfl, rfl⟩ := folB_iff.1 hf
  have := tgOne_iff.1 (tg_mem h hx)
  exact ⟨this.1, this.2.1, this.2.2.1⟩
/-- A walk: each one follows the next. -/
def walkP (t : List Tg) : List Int → Prop
  | [] => True
  | [_] => True
  | a :: b :: r => folB t a b = true ∧ walkP t (b :: r)
theorem walkP_tail {t : List Tg} {a : Int} : ∀ {r : List Int}, walkP t (a :: r) → walkP t r
  | [], _ => trivial
  | _ :: _, h => h.2
theorem walkP_drop {t : List Tg} : ∀ (r s : List Int), walkP t (r ++ s) → walkP t s
  | [], _, h => h
  | _ :: r, s, h => walkP_drop r s (walkP_tail h)
theorem walkP_take {t : List Tg} : ∀ (r s : List Int), walkP t (r ++ s) → walkP t r
  | [], _, _ => trivial
  | [_], _, _ => trivial
  | a :: b :: r, s, h => ⟨h.1, walkP_take (b :: r) s h.2⟩
/-- A walk with a kind twice in it holds a shorter closed walk. -/
theorem walk_twice {t : List Tg} {r1 r2 r3 : List Int} {a : Int} (h : walkP t (r1 ++ a :: r2 ++ a :: r3)) : walkP t (a :: r2 ++ [a]) := by
  have h1 : walkP t (a :: r2 ++ a :: r3) := walkP_drop r1 _ (by simpa using h)
  have h2 : (a :: r2 ++ a :: r3) = (a :: r2 ++ [a]) ++ r3 := by simp
  rw [h2] at h1
  exact walkP_take _ _ h1
theorem not_nodup_split : ∀ {l : List Int}, ¬ l.Nodup → ∃ r1 r2 r3 a, l = r1 ++ a :: r2 ++ a :: r3
  | [], h => absurd List.nodup_nil h
  | x :: l, h => by
    by_cases hx : x ∈ l
    · obtain ⟨s, u, rfl⟩ := List.append_of_mem hx
      exact ⟨[], s, u, x, by simp⟩
    · obtain ⟨r1, r2, r3, a, e⟩ := not_nodup_split (l := l) (fun hn => h (List.nodup_cons.2 ⟨hx, hn⟩))
      exact ⟨x :: r1, r2, r3, a, by rw [e]; simp⟩
/-- A closed walk holds one that meets no kind twice. -/
theorem closed_simple {t : List Tg} : ∀ (n : Nat) (a : Int) (r : List Int), r.length ≤ n → walkP t (a :: r ++ [a]) → ∃ b s, (b :: s).Nodup ∧ walkP t (b :: s ++ [b]) ∧ ∀ x ∈ b :: s, x ∈ a :: r
  | n, a, r, hn, h => by
    by_cases hd : (a :: r).Nodup
    · exact ⟨a, r, hd, h, fun x hx => hx⟩
    · obtain ⟨r1, r2, r3, b, e⟩ := not_nodup_split hd
      have hl : r2.length < r.length := by
        have := congrArg List.length e
        simp at this
        omega
      have hw : walkP t (r1 ++ b :: r2 ++ b :: r3) := by
        rw [← e]
        exact walkP_take _ _ h
      match n, hn with
      | 0, hn => omega
      | n + 1, hn =>
        obtain ⟨c, s, q1, q2, q3⟩ := closed_simple n b r2 (by omega) (walk_twice hw)
        refine ⟨c, s, q1, q2, fun x hx => ?_⟩
        rw [e]
        have := q3 x hx
        rcases List.mem_cons.1 this with rfl | h'
        · simp
        · simp [h']
/-- A walk that is long enough meets a kind twice. -/
theorem nodup_nine {l : List Int} (h : l.Nodup) (hr : ∀ x ∈ l, 1 ≤ x ∧ x ≤ 9) : l.length ≤ 9 := by
  refine nodup_len _ [1, 2, 3, 4, 5, 6, 7, 8, 9] h (fun x hx => ?_)
  have := hr x hx
  simp
  omega
/-- The model's search of a cycle from a chain on. -/
def chainF : Nat → List Tg → Int → List Int → Int → Option (List Int)
  | 0, _, _, _, _ => none
  | f + 1, t, hd, c, last => ((List.range 10).map Int.ofNat).findSome? (fun k =>
      if hd ≤ k then (if folB t last k = true then (if k = hd then some c else if k ∈ c then none else chainF f t hd (c ++ [k]) k) else none) else none)
/-- Whether the walk may go back to its head by kinds that are new and not below the head. -/
theorem chainF_some {t : List Tg} {hd : Int} (h0 : 0 ≤ hd) : ∀ (f : Nat) (c : List Int) (last : Int) (s : List Int), s.length < f → (∀ x ∈ s, hd < x ∧ x ≤ 9 ∧ x ∉ c) → s.Nodup → walkP t (last :: s ++ [hd]) → hd ≤ 9 → (chainF f t hd c last).isSome = true
  | 0, _, _, _, hl, _, _, _, _ => by omega
  | f + 1, c, last, [], hl, hs, hn, hw, h9 => by
    unfold chainF
    rw [List.findSome?_isSome_iff]
    refine ⟨hd, List.mem_map.2 ⟨hd.toNat, List.mem_range.2 (by omega), by simp; omega⟩, ?_⟩
    rw [if_pos (Int.le_refl _), if_pos hw.1, if_pos rfl]
    rfl
  | f + 1, c, last, k :: s, hl, hs, hn, hw, h9 => by
    have hk := hs k (by simp)
    have hn2 := List.nodup_cons.1 hn
    simp only [List.length_cons] at hl
    unfold chainF
    rw [List.findSome?_isSome_iff]
    refine ⟨k, List.mem_map.2 ⟨k.toNat, List.mem_range.2 (by omega), by simp; omega⟩, ?_⟩
    rw [if_pos (by omega), if_pos hw.1, if_neg (by omega), if_neg hk.2.2]
    refine chainF_some h0 f (c ++ [k]) k s (by omega) (fun x hx => ?_) hn2.2 hw.2 h9
    have := hs x (by simp [hx])
    refine ⟨this.1, this.2.1, fun hm => ?_⟩
    rcases List.mem_append.1 hm with h' | h'
    · exact this.2.2 h'
    · rw [List.mem_singleton.1 h'] at hx
      exact hn2.1 hx
theorem walk_join {t : List Tg} {b : Int} {y : List Int} : ∀ {x : List Int}, walkP t (x ++ [b]) → walkP t (b :: y) → walkP t (x ++ b :: y)
  | [], _, h => h
  | [_], h1, h2 => ⟨h1.1, h2⟩
  | _ :: c :: x, h1, h2 => ⟨h1.1, walk_join (x := c :: x) h1.2 h2⟩
/-- A closed walk begun at another of its kinds. -/
theorem closed_rot {t : List Tg} {m b : Int} {p q : List Int} (h : walkP t (b :: p ++ m :: q ++ [b])) : walkP t (m :: q ++ b :: p ++ [m]) := by
  have h1 : walkP t (m :: q ++ [b]) := walkP_drop (b :: p) _ (by simpa using h)
  have h2 : walkP t (b :: (p ++ [m])) := by
    refine walkP_take (b :: (p ++ [m])) (q ++ [b]) ?_
    simpa using h
  have := walk_join (x := m :: q) (y := p ++ [m]) h1 h2
  simpa using this
theorem has_least : ∀ {l : List Int}, l ≠ [] → ∃ m ∈ l, ∀ x ∈ l, m ≤ x
  | [], h => absurd rfl h
  | [a], _ => ⟨a, by simp, fun x hx => by simp at hx; omega⟩
  | a :: b :: l, _ => by
    obtain ⟨m, hm, hl⟩ := has_least (l := b :: l) (by simp)
    rcases Int.lt_or_le a m with h | h
    · refine ⟨a, by simp, fun x hx => ?_⟩
      rcases List.mem_cons.1 hx with rfl | hx
      · exact Int.le_refl _
      · have := hl x hx; omega
    · refine ⟨m, List.mem_cons_of_mem _ hm, fun x hx => ?_⟩
      rcases List.mem_cons.1 hx with rfl | hx
      · exact h
      · exact hl x hx
/-- A closed walk: one begun at its least kind, that meets no kind twice. -/
theorem closed_least {t : List Tg} {a : Int} {r : List Int} (h : walkP t (a :: r ++ [a])) : ∃ m s, (m :: s).Nodup ∧ walkP t (m :: s ++ [m]) ∧ (∀ x ∈ s, m < x) ∧ ∀ x ∈ m :: s, x ∈ a :: r := by
  obtain ⟨b, s, hn, hw, hsub⟩ := closed_simple r.length a r (Nat.le_refl _) h
  obtain ⟨m, hm, hl⟩ := has_least (l := b :: s) (by simp)
  have hlt : ∀ {l : List Int}, (m :: l).Nodup → (∀ x ∈ l, m ≤ x) → ∀ x ∈ l, m < x := fun h1 h2 x hx => by
    have := h2 x hx
    have h3 : x ≠ m := fun e => (List.nodup_cons.1 h1).1 (e ▸ hx)
    omega
  obtain ⟨p, q, e⟩ := List.append_of_mem hm
  rcases p with _ | ⟨c, p⟩
  · simp only [List.nil_append, List.cons.injEq] at e
    obtain ⟨rfl, rfl⟩ := e
    exact ⟨b, s, hn, hw, hlt hn (fun x hx => hl x (List.mem_cons_of_mem _ hx)), hsub⟩
  · simp only [List.cons_append, List.cons.injEq] at e
    obtain ⟨rfl, rfl⟩ := e
    have hp : (b :: (p ++ m :: q)).Perm (m :: q ++ b :: p) := by
      have : (b :: (p ++ m :: q)) = (b :: p) ++ (m :: q) := by simp
      rw [this]
      exact List.perm_append_comm
    have hn2 : (m :: q ++ b :: p).Nodup := hp.nodup_iff.1 hn
    exact ⟨m, q ++ b :: p, by simpa using hn2, by simpa using closed_rot (by simpa using hw), hlt (by simpa using hn2) (fun x hx => hl x (hp.mem_iff.2 (List.mem_cons_of_mem _ hx))), fun x hx => hsub x (hp.mem_iff.2 hx)⟩
/-- The model's first cycle. -/
def cycF (t : List Tg) : Option (List Int) := ([1, 2, 3, 4, 5, 6, 7, 8, 9] : List Int).findSome? (fun k => chainF 10 t k [k] k)
/-- Where a closed walk goes, the model's search finds a cycle. -/
theorem cycF_some {t : List Tg} (ht : areTg t = true) {a : Int} {r : List Int} (h : walkP t (a :: r ++ [a])) : (cycF t).isSome = true := by
  obtain ⟨m, s, hn, hw, hlt, _⟩ := closed_least h
  have hin : ∀ (x : Int) (l : List Int), walkP t (x :: l ++ [m]) → ∀ y ∈ x :: l, 1 ≤ y ∧ y ≤ 9 := by
    intro x l
    induction l generalizing x with
    | nil => intro h y hy; simp at hy; subst hy; exact (fol_in ht h.1).1
    | cons z l ih =>
      intro h y hy
      rcases List.mem_cons.1 hy with rfl | hy
      · exact (fol_in ht h.1).1
      · exact ih z h.2 y hy
  have hr := hin m s hw
  have hn2 := List.nodup_cons.1 hn
  have hlen := nodup_nine hn hr
  simp only [List.length_cons] at hlen
  have hm := hr m (by simp)
  unfold cycF
  rw [List.findSome?_isSome_iff]
  refine ⟨m, by simp; omega, chainF_some (by omega) 10 [m] m s (by omega) (fun x hx => ⟨hlt x hx, (hr x (by simp [hx])).2, fun hm => ?_⟩) hn2.2 hw hm.2⟩
  rw [List.mem_singleton.1 hm] at hx
  exact hn2.1 hx
/-- Without a cycle no walk meets a kind twice. -/
theorem acyc_nodup {t : List Tg} (ht : areTg t = true) (hc : cycF t = none) {l : List Int} (h : walkP t l) : l.Nodup := by
  by_cases hd : l.Nodup
  · exact hd
  · obtain ⟨r1, r2, r3, a, rfl⟩ := not_nodup_split hd
    have := cycF_some ht (walk_twice h)
    rw [hc] at this
    cases this
/-- What the search answers is a cycle: it goes back to its head. -/
theorem chainF_walk {t : List Tg} {hd : Int} : ∀ (f : Nat) (c : List Int) (last : Int) (out : List Int), chainF f t hd (c ++ [last]) last = some out → (∃ r, c ++ [last] = hd :: r) → walkP t (c ++ [last]) → ∃ r, out = hd :: r ∧ walkP t (out ++ [hd])
  | 0, _, _, _, h, _, _ => by simp [chainF] at h
  | f + 1, c, last, out, h, hh, hw => by
    unfold chainF at h
    obtain ⟨k, hk, hs⟩ := List.exists_of_findSome?_eq_some h
    split at hs
    · split at hs
      · rename_i hf
        have hstep : walkP t (c ++ [last] ++ [k]) := by
          have := walk_join (x := c) (b := last) (y := [k]) hw ⟨hf, trivial⟩
          simpa using this
        split at hs
        · rename_i hkd
          cases hs
          subst hkd
          obtain ⟨r, e⟩ := hh
          exact ⟨r, e, hstep⟩
        · split at hs
          · cases hs
          · obtain ⟨r, e⟩ := hh
            exact chainF_walk f (c ++ [last]) k out hs ⟨r ++ [k], by rw [e]; simp⟩ hstep
      · cases hs
    · cases hs
theorem cycF_walk {t : List Tg} {out : List Int} (h : cycF t = some out) : ∃ a r, out = a :: r ∧ walkP t (out ++ [a]) := by
  unfold cycF at h
  obtain ⟨k, hk, hs⟩ := List.exists_of_findSome?_eq_some h
  obtain ⟨r, e, hw⟩ := chainF_walk (hd := k) 10 [] k out hs ⟨[], rfl⟩ trivial
  exact ⟨k, r, e, hw⟩
/-- The model's expected day, by so many steps. -/
def dayGo (D : Int → Int) (e : Int) : List Tg → Int → Int
  | [], most => most
  | x :: r, most => if x.ev = e then (if D x.aft < 0 then -1 else dayGo D e r (max most (D x.aft + x.days))) else dayGo D e r most
def dayF : Nat → List Tg → Int → Int
  | 0, _, _ => -1
  | f + 1, t, e => if e = 0 then 0 else dayGo (dayF f t) e t (-1)
theorem dayGo_same {D E : Int → Int} {e : Int} : ∀ (l : List Tg) (most : Int), (∀ x ∈ l, x.ev = e → D x.aft = E x.aft) → dayGo D e l most = dayGo E e l most
  | [], _, _ => rfl
  | x :: r, most, h => by
    unfold dayGo
    by_cases hx : x.ev = e
    · rw [if_pos hx, if_pos hx, h x (by simp) hx]
      split
      · rfl
      · exact dayGo_same r _ (fun y hy => h y (by simp [hy]))
    · rw [if_neg hx, if_neg hx]
      exact dayGo_same r _ (fun y hy => h y (by simp [hy]))
/-- As many steps as walks are long are enough. -/
theorem dayF_more {t : List Tg} : ∀ (f g : Nat) (e : Int), (∀ l, walkP t (e :: l) → l.length < f) → f ≤ g → dayF g t e = dayF f t e
  | 0, _, e, h, _ => absurd (h [] trivial) (by simp)
  | f + 1, 0, e, h, hg => by omega
  | f + 1, g + 1, e, h, hg => by
    unfold dayF
    split
    · rfl
    · refine dayGo_same t _ (fun x hx he => ?_)
      refine dayF_more f g x.aft (fun l hl => ?_) (by omega)
      have := h (x.aft :: l) ⟨folB_iff.2 ⟨x, hx, he, rfl⟩, hl⟩
      simp only [List.length_cons] at this
      omega
theorem walk_in {t : List Tg} (ht : areTg t = true) : ∀ (l : List Int) (e : Int), walkP t (e :: l) → ∀ y ∈ l, 0 ≤ y ∧ y ≤ 9
  | [], _, _, y, hy => by simp at hy
  | z :: l, e, h, y, hy => by
    rcases List.mem_cons.1 hy with rfl | hy
    · exact (fol_in ht h.1).2.1
    · exact walk_in ht l z h.2 y hy
/-- Without a cycle a walk is short. -/
theorem acyc_short {t : List Tg} (ht : areTg t = true) (hc : cycF t = none) {e : Int} {l : List Int} (h : walkP t (e :: l)) : l.length < 10 := by
  rcases l with _ | ⟨z, l⟩
  · simp
  · have hn := acyc_nodup ht hc h
    have he := (fol_in ht h.1).1
    have hin := walk_in ht (z :: l) e h
    have := nodup_len (e :: z :: l) [0, 1, 2, 3, 4, 5, 6, 7, 8, 9] hn (fun x hx => by
      rcases List.mem_cons.1 hx with rfl | hx
      · simp; omega
      · have := hin x hx; simp; omega)
    simp only [List.length_cons, List.length_nil] at this ⊢
    omega
theorem dayF_enough {t : List Tg} (ht : areTg t = true) (hc : cycF t = none) (g : Nat) (hg : 10 ≤ g) (e : Int) : dayF g t e = dayF 10 t e :=
  dayF_more 10 g e (fun l h => acyc_short ht hc h) hg
/-- The expected day, or -1. -/
def dayX (t : List Tg) (e : Int) : Int := dayF 10 t e
theorem dayX_zero (t : List Tg) : dayX t 0 = 0 := by unfold dayX dayF; rw [if_pos rfl]
theorem dayX_step {t : List Tg} (ht : areTg t = true) (hc : cycF t = none) {e : Int} (he : e ≠ 0) : dayX t e = dayGo (dayX t) e t (-1) := by
  have h1 := dayF_enough ht hc 11 (by omega) e
  have h2 : dayF (10 + 1) t e = if e = 0 then 0 else dayGo (dayF 10 t) e t (-1) := rfl
  rw [if_neg he] at h2
  exact h1.symm.trans h2
/-- An event is not expected before the one that it follows. -/
theorem dayGo_ge {D : Int → Int} {e : Int} : ∀ (l : List Tg) (most : Int), 0 ≤ dayGo D e l most → most ≤ dayGo D e l most ∧ ∀ x ∈ l, x.ev = e → 0 ≤ D x.aft ∧ D x.aft + x.days ≤ dayGo D e l most
  | [], most, h => ⟨by simp [dayGo], fun x hx => by simp at hx⟩
  | x :: r, most, h => by
    unfold dayGo at h ⊢
    by_cases hx : x.ev = e
    · rw [if_pos hx] at h ⊢
      by_cases hd : D x.aft < 0
      · rw [if_pos hd] at h; omega
      · rw [if_neg hd] at h ⊢
        obtain ⟨h1, h2⟩ := dayGo_ge r _ h
        refine ⟨by omega, fun y hy hye => ?_⟩
        rcases List.mem_cons.1 hy with rfl | hy
        · exact ⟨by omega, by omega⟩
        · exact h2 y hy hye
    · rw [if_neg hx] at h ⊢
      obtain ⟨h1, h2⟩ := dayGo_ge r _ h
      refine ⟨h1, fun y hy hye => ?_⟩
      rcases List.mem_cons.1 hy with rfl | hy
      · exact absurd hye hx
      · exact h2 y hy hye
/-- The answer of DropTriggers. -/
def dropTg (t : List Tg) (e : Int) : List Tg := t.filter (fun x => decide (¬ x.ev = e ∧ ¬ x.aft = e))
def dropTRes (t : List Tg) (e : Int) : List Tg × Bool := if areTg t = true ∧ (0 ≤ e ∧ e ≤ 9) then (dropTg t e, true) else ([], false)
/-- The answers of SeriesGaps, Contradictions, NeverDecides. -/
def gapsOf (s : List Ru) (xs : List Int) : List Int := xs.filter (fun x => decide (¬ ∃ r ∈ s, r.series = x))
end Go.Proofs.Ytenjajcknmfhfaa
