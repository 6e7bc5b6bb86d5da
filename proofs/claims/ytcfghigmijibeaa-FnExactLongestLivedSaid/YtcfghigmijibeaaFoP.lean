/- Paths between formats, as plain mathematics: the search by breadth, and that each path that it finds is the first one of the shortest ones. No program is named here. -/
import Derived.Test.YtcfghigmijibeaaFoK
namespace Go.Proofs.Ytcfghigmijibeaa
set_option linter.unusedVariables false

/-- A path as a number: shorter ones first, of the same length in order. -/
def encP (p : List Int) : Int := p.foldl (fun n x => 64 * n + x) 0
theorem encP_snoc (p : List Int) (b : Int) : encP (p ++ [b]) = 64 * encP p + b := by simp [encP]
theorem encP_one (x : Int) : encP [x] = x := by simp [encP]
/-- One may go from a format to this one. -/
def edB (d a : Int) (f : Fo) : Bool := decide (d ≤ f.til) && decide (a ∈ f.reads)
abbrev En := Int × List Int
def hasK (S : List En) (x : Int) : Bool := S.any (fun e => decide (e.1 = x))
theorem hasK_iff {S : List En} {x : Int} : hasK S x = true ↔ ∃ e ∈ S, e.1 = x := by simp [hasK]
theorem hasK_snoc (S : List En) (e : En) (x : Int) : hasK (S ++ [e]) x = (hasK S x || decide (e.1 = x)) := by simp [hasK]
def bStep (d a : Int) (p : List Int) (S : List En) (f : Fo) : List En := if hasK S f.id = false ∧ edB d a f = true then S ++ [(f.id, p ++ [f.id])] else S
def bRow (t : List Fo) (d a : Int) (p : List Int) (S : List En) (k : Nat) : List En := (t.take k).foldl (bStep d a p) S
theorem bRow_zero (t : List Fo) (d a : Int) (p : List Int) (S : List En) : bRow t d a p S 0 = S := by simp [bRow]
theorem bRow_succ (t : List Fo) (d a : Int) (p : List Int) (S : List En) {k : Nat} (h : k < t.length) : bRow t d a p S (k + 1) = bStep d a p (bRow t d a p S k) (t.getD k foD) := by
  unfold bRow
  rw [List.take_succ_eq_append_getElem h, List.foldl_append, getFo_lt h]
  rfl
def bfsN (t : List Fo) (d x : Int) : Nat → List En
  | 0 => [(x, [x])]
  | q + 1 => match (bfsN t d x q)[q]? with
    | some e => bRow t d e.1 e.2 (bfsN t d x q) t.length
    | none => bfsN t d x q
theorem bfs_next {t : List Fo} {d x : Int} {q : Nat} {e : En} (h : (bfsN t d x q)[q]? = some e) : bfsN t d x (q + 1) = bRow t d e.1 e.2 (bfsN t d x q) t.length := by
  rw [bfsN, h]
theorem bfs_stop {t : List Fo} {d x : Int} {q : Nat} (h : (bfsN t d x q).length ≤ q) : ∀ m, bfsN t d x (q + m) = bfsN t d x q
  | 0 => rfl
  | m + 1 => by
    have ih := bfs_stop h m
    rw [show q + (m + 1) = q + m + 1 by omega, bfsN, List.getElem?_eq_none (by rw [ih]; omega)]
    exact ih

/-- A walk from a format, with where it ends. -/
inductive WK (t : List Fo) (d x : Int) : List Int → Int → Prop
  | one : WK t d x [x] x
  | snoc {p : List Int} {a : Int} {f : Fo} : WK t d x p a → f ∈ t → edB d a f = true → WK t d x (p ++ [f.id]) f.id

theorem WK.last {t : List Fo} {d x : Int} {p : List Int} {b : Int} (h : WK t d x p b) : b = x ∨ ∃ f ∈ t, b = f.id := by
  cases h with
  | one => exact .inl rfl
  | snoc _ hf _ => exact .inr ⟨_, hf, rfl⟩
structure BInv (t : List Fo) (d x : Int) (S : List En) (P : Int) (k : Nat) : Prop where
  root : (x, [x]) ∈ S
  rootP : x ≤ P
  nd : S.Pairwise (fun e e' => e.1 ≠ e'.1)
  walk : ∀ e ∈ S, WK t d x e.2 e.1
  asc : S.Pairwise (fun e e' => encP e.2 < encP e'.2)
  par : ∀ e ∈ S, e = (x, [x]) ∨ ∃ e' ∈ S, e.2 = e'.2 ++ [e.1] ∧ (encP e'.2 < P ∨ (encP e'.2 = P ∧ ∃ i, i < k ∧ e.1 = (t.getD i foD).id))
  clo : ∀ e' ∈ S, ∀ i, i < t.length → edB d e'.1 (t.getD i foD) = true → (encP e'.2 < P ∨ (encP e'.2 = P ∧ i < k)) → ∃ e ∈ S, e.1 = (t.getD i foD).id ∧ encP e.2 ≤ 64 * encP e'.2 + (t.getD i foD).id

theorem id_bnd {t : List Fo} (h : areFo t = true) {k : Nat} (hk : k < t.length) : 1 ≤ (t.getD k foD).id ∧ (t.getD k foD).id ≤ 50 := ((foAt_iff rfl).1 ((fo_iff.1 h).2 k hk)).1.1
theorem asc_inj {S : List En} (h : S.Pairwise (fun e e' => encP e.2 < encP e'.2)) {a b : En} (ha : a ∈ S) (hb : b ∈ S) (e : encP a.2 = encP b.2) : a = b := by
  obtain ⟨i, hi, rfl⟩ := List.getElem_of_mem ha
  obtain ⟨j, hj, rfl⟩ := List.getElem_of_mem hb
  rw [List.pairwise_iff_getElem] at h
  rcases Nat.lt_trichotomy i j with c | c | c
  · have := h i j hi hj c; omega
  · subst c; rfl
  · have := h j i hj hi c; omega
/-- The bound of a path by its parent. -/
theorem BInv.bnd {t : List Fo} {d x P : Int} {S : List En} {k : Nat} (H : BInv t d x S P k) (hx : 1 ≤ x ∧ x ≤ 50) {e : En} (he : e ∈ S) : encP e.2 ≤ 64 * P + e.1 := by
  have hr := H.rootP
  rcases H.par e he with rfl | ⟨e', _, h2, h3⟩
  · simp only [encP_one]; omega
  · rw [h2, encP_snoc]; omega
theorem BInv.step {t : List Fo} {d x P : Int} {S : List En} {k : Nat} {a : Int} {p : List Int} (ht : areFo t = true) (hx : 1 ≤ x ∧ x ≤ 50) (H : BInv t d x S P k) (hm : (a, p) ∈ S) (hp : encP p = P) (hk : k < t.length) : BInv t d x (bStep d a p S (t.getD k foD)) P (k + 1) := by
  have hr := H.rootP
  have hb := id_bnd ht hk
  have hids : ∀ e ∈ S, 1 ≤ e.1 ∧ e.1 ≤ 50 := fun e he => by
    rcases (H.walk e he).last with q | ⟨f, hf, q⟩
    · rw [q]; exact hx
    · obtain ⟨i, hi, rfl⟩ := List.getElem_of_mem hf
      rw [q, ← getFo_lt hi]; exact id_bnd ht hi
  unfold bStep
  by_cases hc : hasK S (t.getD k foD).id = false ∧ edB d a (t.getD k foD) = true
  · rw [if_pos hc]
    have hlt : ∀ e ∈ S, encP e.2 < 64 * P + (t.getD k foD).id := fun e he => by
      have hi := hids e he
      rcases H.par e he with rfl | ⟨e', h1, h2, h3⟩
      · simp only [encP_one]; omega
      · rw [h2, encP_snoc]
        rcases h3 with h3 | ⟨h3, i, hik, h4⟩
        · omega
        · have := ids_uniq ht (k - i - 1) i (by omega)
          rw [show i + (k - i - 1) + 1 = k by omega] at this
          omega
    refine ⟨List.mem_append_left _ H.root, hr, ?_, ?_, ?_, ?_, ?_⟩
    · rw [List.pairwise_append]
      refine ⟨H.nd, by simp, fun e he e' he' q => ?_⟩
      rw [List.mem_singleton.1 he'] at q
      have : hasK S (t.getD k foD).id = true := hasK_iff.2 ⟨e, he, q⟩
      rw [hc.1] at this; cases this
    · intro e he
      rcases List.mem_append.1 he with he | he
      · exact H.walk e he
      · rw [List.mem_singleton.1 he]
        have := WK.snoc (H.walk _ hm) (f := t.getD k foD) (by rw [getFo_lt hk]; exact List.getElem_mem hk) hc.2
        exact this
    · rw [List.pairwise_append]
      refine ⟨H.asc, by simp, fun e he e' he' => ?_⟩
      rw [List.mem_singleton.1 he']
      simp only [encP_snoc, hp]
      exact hlt e he
    · intro e he
      rcases List.mem_append.1 he with he | he
      · rcases H.par e he with h | ⟨e', h1, h2, h3⟩
        · exact .inl h
        · refine .inr ⟨e', List.mem_append_left _ h1, h2, ?_⟩
          rcases h3 with h3 | ⟨h3, i, hi, h4⟩
          · exact .inl h3
          · exact .inr ⟨h3, i, by omega, h4⟩
      · rw [List.mem_singleton.1 he]
        exact .inr ⟨(a, p), List.mem_append_left _ hm, rfl, .inr ⟨hp, k, by omega, rfl⟩⟩
    · intro e' he' i hi hed hor
      rcases List.mem_append.1 he' with he' | he'
      · by_cases hik : encP e'.2 < P ∨ (encP e'.2 = P ∧ i < k)
        · obtain ⟨e, h1, h2⟩ := H.clo e' he' i hi hed hik
          exact ⟨e, List.mem_append_left _ h1, h2⟩
        · have hik2 : i = k ∧ encP e'.2 = P := by omega
          obtain ⟨rfl, hq⟩ := hik2
          refine ⟨_, List.mem_append_right _ (List.mem_singleton.2 rfl), rfl, ?_⟩
          simp only [encP_snoc]
          omega
      · rw [List.mem_singleton.1 he'] at hor
        simp only [encP_snoc] at hor
        omega
  · rw [if_neg hc]
    refine ⟨H.root, hr, H.nd, H.walk, H.asc, ?_, ?_⟩
    · intro e he
      rcases H.par e he with h | ⟨e', h1, h2, h3⟩
      · exact .inl h
      · refine .inr ⟨e', h1, h2, ?_⟩
        rcases h3 with h3 | ⟨h3, i, hi, h4⟩
        · exact .inl h3
        · exact .inr ⟨h3, i, by omega, h4⟩
    · intro e' he' i hi hed hor
      by_cases hik : encP e'.2 < P ∨ (encP e'.2 = P ∧ i < k)
      · exact H.clo e' he' i hi hed hik
      · have hik2 : i = k ∧ encP e'.2 = P := by omega
        obtain ⟨rfl, hq⟩ := hik2
        have : e' = (a, p) := asc_inj H.asc he' hm (by rw [hq, hp])
        subst this
        have hk2 : hasK S (t.getD i foD).id = true := by
          rcases hh : hasK S (t.getD i foD).id with _ | _
          · exact absurd ⟨hh, hed⟩ hc
          · rfl
        obtain ⟨e, h1, h2⟩ := hasK_iff.1 hk2
        exact ⟨e, h1, h2, by have := H.bnd hx h1; rw [h2] at this; omega⟩
theorem bStep_sub (d a : Int) (p : List Int) (S : List En) (f : Fo) : ∃ l, bStep d a p S f = S ++ l := by
  unfold bStep
  split
  · exact ⟨_, rfl⟩
  · exact ⟨[], by simp⟩
theorem bRow_sub (t : List Fo) (d a : Int) (p : List Int) (S : List En) : ∀ k, k ≤ t.length → ∃ l, bRow t d a p S k = S ++ l
  | 0, _ => ⟨[], by simp [bRow]⟩
  | k + 1, h => by
    obtain ⟨l, hl⟩ := bRow_sub t d a p S k (by omega)
    obtain ⟨m, hm⟩ := bStep_sub d a p (bRow t d a p S k) (t.getD k foD)
    exact ⟨l ++ m, by rw [bRow_succ t d a p S (by omega), hm, hl, List.append_assoc]⟩
theorem BInv.row {t : List Fo} {d x P : Int} {S : List En} {a : Int} {p : List Int} (ht : areFo t = true) (hx : 1 ≤ x ∧ x ≤ 50) (H : BInv t d x S P 0) (hm : (a, p) ∈ S) (hp : encP p = P) : ∀ k, k ≤ t.length → BInv t d x (bRow t d a p S k) P k
  | 0, _ => by rw [bRow_zero]; exact H
  | k + 1, h => by
    obtain ⟨l, hl⟩ := bRow_sub t d a p S k (by omega)
    rw [bRow_succ t d a p S (by omega)]
    exact (BInv.row ht hx H hm hp k (by omega)).step ht hx (by rw [hl]; exact List.mem_append_left _ hm) hp (by omega)
/-- Between two rows. -/
theorem BInv.next {t : List Fo} {d x P P' : Int} {S : List En} (H : BInv t d x S P t.length) (hPP : P < P') (hgap : ∀ e ∈ S, encP e.2 < P' → encP e.2 ≤ P) : BInv t d x S P' 0 := by
  have hr := H.rootP
  refine ⟨H.root, by omega, H.nd, H.walk, H.asc, ?_, ?_⟩
  · intro e he
    rcases H.par e he with h | ⟨e', h1, h2, h3⟩
    · exact .inl h
    · exact .inr ⟨e', h1, h2, .inl (by omega)⟩
  · intro e' he' i hi hed hor
    have := hgap e' he' (by omega)
    exact H.clo e' he' i hi hed (by omega)
theorem BInv.start {t : List Fo} {d x : Int} : BInv t d x [(x, [x])] x 0 := by
  refine ⟨by simp, Int.le_refl _, by simp, ?_, by simp, ?_, ?_⟩
  · intro e he; rw [List.mem_singleton.1 he]; exact .one
  · intro e he; exact .inl (List.mem_singleton.1 he)
  · intro e' he' i hi hed hor
    rw [List.mem_singleton.1 he'] at hor
    simp only [encP_one] at hor
    omega
/-- Of the search: at each row. -/
theorem bfs_inv {t : List Fo} {d x : Int} (ht : areFo t = true) (hx : 1 ≤ x ∧ x ≤ 50) : ∀ q e, (bfsN t d x q)[q]? = some e → BInv t d x (bfsN t d x q) (encP e.2) 0
  | 0, e, h => by
    simp only [bfsN, List.getElem?_cons_zero, Option.some.injEq] at h
    subst h
    have := BInv.start (t := t) (d := d) (x := x)
    simpa [bfsN, encP_one] using this
  | q + 1, e, h => by
    rcases hq : (bfsN t d x q)[q]? with _ | e0
    · have hl := List.getElem?_eq_none_iff.1 hq
      have : bfsN t d x (q + 1) = bfsN t d x q := bfs_stop hl 1
      rw [this, List.getElem?_eq_none (by omega)] at h
      cases h
    · have ih := bfs_inv ht hx q e0 hq
      have hrow := ih.row ht hx (List.mem_of_getElem? hq) rfl t.length (Nat.le_refl _)
      rw [← bfs_next hq] at hrow
      obtain ⟨l, hl⟩ := bRow_sub t d e0.1 e0.2 (bfsN t d x q) t.length (Nat.le_refl _)
      rw [← bfs_next hq] at hl
      have h0 : (bfsN t d x (q + 1))[q]? = some e0 := by rw [hl, List.getElem?_append_left (List.getElem?_eq_some_iff.1 hq).1]; exact hq
      obtain ⟨a1, a2⟩ := List.getElem?_eq_some_iff.1 h0
      obtain ⟨b1, b2⟩ := List.getElem?_eq_some_iff.1 h
      have hasc := List.pairwise_iff_getElem.1 hrow.asc
      refine hrow.next (by have := hasc q (q + 1) a1 b1 (by omega); rwa [a2, b2] at this) (fun e' he' hlt => ?_)
      obtain ⟨i, hi, rfl⟩ := List.getElem_of_mem he'
      rcases Nat.lt_trichotomy i q with c | c | c
      · have := hasc i q hi a1 c; rw [a2] at this; omega
      · subst c; rw [a2]; exact Int.le_refl _
      · rcases Nat.lt_or_ge (q + 1) i with c2 | c2
        · have := hasc (q + 1) i b1 hi c2; rw [b2] at this; omega
        · have : i = q + 1 := by omega
          subst this
          rw [b2] at hlt; omega
end Go.Proofs.Ytcfghigmijibeaa
