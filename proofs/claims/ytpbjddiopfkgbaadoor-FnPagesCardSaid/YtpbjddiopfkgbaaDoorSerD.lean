/- The map of the pages of each series, as a datum; its keys in order. No program is named here. -/
import Derived.Test.YtpbjddiopfkgbaaDoorSerM
import Derived.Maps.Own
import Derived.Lib.SlKeysI
namespace Go.Proofs.YtpbjddiopfkgbaaDoor
set_option linter.unusedVariables false
open Go.Maps

def pairD (a b : Int) : DataW Unit := .agg [.lit (.int .i64 a), .lit (.int .i64 b)]
theorem pairD_inj {a b c d : Int} (h : pairD a b = pairD c d) : a = c ∧ b = d := by
  unfold pairD at h
  simp at h
  exact h
theorem mem_insertD (x p : Lit × DataW Unit) : ∀ l : List (Lit × DataW Unit), p ∈ DataW.insert x l ↔ p = x ∨ p ∈ l
  | [] => by simp [DataW.insert]
  | y :: r => by
    unfold DataW.insert
    split
    · simp
    · rw [List.mem_cons, mem_insertD x p r, List.mem_cons]
      constructor
      · rintro (h | h | h)
        · exact .inr (.inl h)
        · exact .inl h
        · exact .inr (.inr h)
      · rintro (h | h | h)
        · exact .inr (.inl h)
        · exact .inl h
        · exact .inr (.inr h)

/-- The datum tells, of the files t, how many each series has and their pages. -/
structure DOK (D : DataW Unit) (t : List Fi) : Prop where
  tidy : Tidy D
  keys : ∀ es, D = .map es → ∀ p ∈ es, ∃ s : Int, p.1 = .int .i64 s
  look : ∀ s : Int, D.atKey (.int .i64 s) (pairD 0 0) = pairD (cntS t s) (pagS t s)
  has_ : ∀ s : Int, has D (.int .i64 s) = decide (0 < cntS t s)
  size_ : size D ≤ t.length
theorem DOK.empty : DOK (.map []) [] := ⟨tidy_empty, (fun es e p hp => by cases e; cases hp), fun s => rfl, (fun s => by simp [has_eq, cntS]), Nat.le_refl _⟩
theorem DOK.put {D : DataW Unit} {t : List Fi} (h : DOK D t) (f : Fi) : DOK (D.put (.int .i64 f.series) (pairD ((cntS t f.series : Int) + 1) (pagS t f.series + f.pages))) (t ++ [f]) := by
  have hk : WideAt.IsKeyLit (.int .i64 f.series) := trivial
  obtain ⟨es0, hes⟩ := h.tidy.isMap
  refine ⟨h.tidy.put hk _, fun es e p hp => ?_, fun s => ?_, fun s => ?_, ?_⟩
  · subst hes
    simp only [DataW.put, DataW.map.injEq] at e
    subst e
    rcases (mem_insertD _ _ _).1 hp with rfl | hp
    · exact ⟨_, rfl⟩
    · exact h.keys es0 rfl p (List.mem_filter.1 hp).1
  · rw [cntS_snoc, pagS_snoc]
    by_cases e : f.series = s
    · subst e
      rw [atKey_put_same h.tidy.isMap hk, if_pos rfl, if_pos rfl]
      rfl
    · rw [atKey_put_other (by simp; exact fun q => e q.symm), h.look, if_neg e, if_neg e]
      simp
  · rw [cntS_snoc]
    by_cases e : f.series = s
    · subst e
      rw [has_put_same h.tidy.isMap hk, if_pos rfl, decide_eq_true (by omega)]
    · rw [has_put_other (by simp; exact fun q => e q.symm), h.has_, if_neg e]
      rfl
  · rw [size_put h.tidy, List.length_append]
    have := h.size_
    split <;> simp <;> omega

theorem DOK.mem {D : DataW Unit} {t : List Fi} (h : DOK D t) (s : Int) : s ∈ intKeys D ↔ 0 < cntS t s := by
  have h1 := h.has_ s
  obtain ⟨es, rfl⟩ := h.tidy.isMap
  rw [has_eq] at h1
  have h2 : (es.any fun p => p.1.sameKey (.int .i64 s)) = true ↔ 0 < cntS t s := by rw [h1]; simp
  rw [← h2, List.any_eq_true]
  simp only [intKeys, List.mem_map]
  constructor
  · rintro ⟨p, hp, e⟩
    obtain ⟨z, hz⟩ := h.keys es rfl p hp
    refine ⟨p, hp, ?_⟩
    rw [hz] at e ⊢
    have e' : z = s := e
    subst e'
    simp [Lit.sameKey]
  · rintro ⟨p, hp, e⟩
    obtain ⟨z, hz⟩ := h.keys es rfl p hp
    refine ⟨p, hp, ?_⟩
    rw [hz] at e ⊢
    simp [Lit.sameKey] at e
    exact e
theorem DOK.nodup {D : DataW Unit} {t : List Fi} (h : DOK D t) : (intKeys D).Nodup := by
  obtain ⟨es, rfl, hp⟩ := h.tidy
  have hk := h.keys es rfl
  clear h
  simp only [intKeys]
  unfold List.Nodup
  rw [List.pairwise_map]
  refine hp.imp_of_mem fun {a b} ha hb hne e => hne ?_
  obtain ⟨x, hx⟩ := hk a ha
  obtain ⟨y, hy⟩ := hk b hb
  rw [hx, hy] at e ⊢
  have e' : x = y := e
  rw [e']

/-- Two rising lists with the same members are the same. -/
theorem rising_eq : ∀ (l m : List Int), l.Pairwise (· < ·) → m.Pairwise (· < ·) → (∀ x, x ∈ l ↔ x ∈ m) → l = m
  | [], [], _, _, _ => rfl
  | [], b :: m, _, _, h => absurd ((h b).2 (by simp)) (by simp)
  | a :: l, [], _, _, h => absurd ((h a).1 (by simp)) (by simp)
  | a :: l, b :: m, hl, hm, h => by
    rw [List.pairwise_cons] at hl hm
    have hab : a = b := by
      rcases List.mem_cons.1 ((h a).1 (by simp)) with e | e
      · exact e
      · rcases List.mem_cons.1 ((h b).2 (by simp)) with e2 | e2
        · exact e2.symm
        · have := hm.1 a e
          have := hl.1 b e2
          omega
    subst hab
    rw [rising_eq l m hl.2 hm.2 fun x => ?_]
    constructor
    · intro hx
      rcases List.mem_cons.1 ((h x).1 (List.mem_cons_of_mem _ hx)) with e | e
      · subst e; exact absurd (hl.1 x hx) (by omega)
      · exact e
    · intro hx
      rcases List.mem_cons.1 ((h x).2 (List.mem_cons_of_mem _ hx)) with e | e
      · subst e; exact absurd (hm.1 x hx) (by omega)
      · exact e
/-- The series from 1 to n that occur. -/
def keysTo (t : List Fi) : Nat → List Int
  | 0 => []
  | n + 1 => if 0 < cntS t ((n + 1 : Nat) : Int) then keysTo t n ++ [((n + 1 : Nat) : Int)] else keysTo t n
theorem rowsTo_keys (t : List Fi) : ∀ n, rowsTo t n = (keysTo t n).map (rowS t)
  | 0 => rfl
  | n + 1 => by
    unfold rowsTo keysTo
    rw [rowsTo_keys t n]
    split <;> simp
theorem keysTo_mem (t : List Fi) (s : Int) : ∀ n, s ∈ keysTo t n ↔ (1 ≤ s ∧ s ≤ (n : Int)) ∧ 0 < cntS t s
  | 0 => by simp [keysTo]; omega
  | n + 1 => by
    have ih := keysTo_mem t s n
    unfold keysTo
    by_cases h : 0 < cntS t ((n + 1 : Nat) : Int)
    · rw [if_pos h, List.mem_append, ih, List.mem_singleton]
      constructor
      · rintro (⟨a, b⟩ | rfl)
        · exact ⟨by omega, b⟩
        · exact ⟨by omega, h⟩
      · rintro ⟨a, b⟩
        by_cases e : s = ((n + 1 : Nat) : Int)
        · exact .inr e
        · exact .inl ⟨by omega, b⟩
    · rw [if_neg h, ih]
      constructor
      · rintro ⟨a, b⟩; exact ⟨by omega, b⟩
      · rintro ⟨a, b⟩
        refine ⟨?_, b⟩
        by_cases e : s = ((n + 1 : Nat) : Int)
        · rw [e] at b; exact absurd b h
        · omega
theorem keysTo_rising (t : List Fi) : ∀ n, (keysTo t n).Pairwise (· < ·)
  | 0 => List.Pairwise.nil
  | n + 1 => by
    have ih := keysTo_rising t n
    unfold keysTo
    split
    · rw [List.pairwise_append]
      refine ⟨ih, by simp, fun a ha b hb => ?_⟩
      rw [List.mem_singleton.1 hb]
      have := ((keysTo_mem t a n).1 ha).1
      omega
    · exact ih
theorem DOK.sorted {D : DataW Unit} {t : List Fi} (h : DOK D t) (hv : ∀ f ∈ t, isFi f = true) {ss : List Int} (hs : ss.Perm (intKeys D)) : ss.mergeSort (fun x y => decide (x ≤ y)) = keysTo t 99 := by
  have hp := List.mergeSort_perm ss (fun x y => decide (x ≤ y))
  have hle := List.pairwise_mergeSort (le := fun x y : Int => decide (x ≤ y)) (fun a b c h1 h2 => by simp at *; omega) (fun a b => by simp; omega) ss
  have hnd : (ss.mergeSort (fun x y => decide (x ≤ y))).Nodup := (hp.trans hs).nodup_iff.2 h.nodup
  refine rising_eq _ _ ?_ (keysTo_rising t 99) fun s => ?_
  · have := hle.and hnd
    exact this.imp fun {a b} ⟨h1, h2⟩ => by
      have h1' : a ≤ b := by simpa using h1
      have h2' : a ≠ b := h2
      omega
  · rw [(hp.trans hs).mem_iff, h.mem, keysTo_mem]
    refine ⟨fun hc => ⟨?_, hc⟩, fun hc => hc.2⟩
    obtain ⟨f, hf, e⟩ := cntS_pos.1 hc
    have := (isFi_iff.1 (hv f hf)).2.1
    omega
end Go.Proofs.YtpbjddiopfkgbaaDoor
