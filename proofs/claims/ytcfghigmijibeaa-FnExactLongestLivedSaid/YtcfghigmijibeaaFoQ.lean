/- Paths between formats: what the search gives, and the model's path of just so many steps. No program is named here. -/
import Derived.Test.YtcfghigmijibeaaFoP
namespace Go.Proofs.Ytcfghigmijibeaa
set_option linter.unusedVariables false

/-- When no row is left. -/
structure BFin (t : List Fo) (d x : Int) (S : List En) : Prop where
  root : (x, [x]) ∈ S
  nd : S.Pairwise (fun e e' => e.1 ≠ e'.1)
  walk : ∀ e ∈ S, WK t d x e.2 e.1
  clo : ∀ e' ∈ S, ∀ f ∈ t, edB d e'.1 f = true → ∃ e ∈ S, e.1 = f.id ∧ encP e.2 ≤ 64 * encP e'.2 + f.id
theorem bfs_fin {t : List Fo} {d x : Int} (ht : areFo t = true) (hx : 1 ≤ x ∧ x ≤ 50) : ∀ q, (bfsN t d x q).length = q → BFin t d x (bfsN t d x q)
  | 0, h => by simp [bfsN] at h
  | q + 1, h => by
    rcases hq : (bfsN t d x q)[q]? with _ | e0
    · have hl := List.getElem?_eq_none_iff.1 hq
      have : bfsN t d x (q + 1) = bfsN t d x q := bfs_stop hl 1
      rw [this] at h; omega
    · have hrow := (bfs_inv ht hx q e0 hq).row ht hx (List.mem_of_getElem? hq) rfl t.length (Nat.le_refl _)
      rw [← bfs_next hq] at hrow
      obtain ⟨l, hl⟩ := bRow_sub t d e0.1 e0.2 (bfsN t d x q) t.length (Nat.le_refl _)
      rw [← bfs_next hq] at hl
      have h0 : (bfsN t d x (q + 1))[q]? = some e0 := by rw [hl, List.getElem?_append_left (List.getElem?_eq_some_iff.1 hq).1]; exact hq
      obtain ⟨a1, a2⟩ := List.getElem?_eq_some_iff.1 h0
      have hasc := List.pairwise_iff_getElem.1 hrow.asc
      refine ⟨hrow.root, hrow.nd, hrow.walk, fun e' he' f hf hed => ?_⟩
      obtain ⟨k, hk, rfl⟩ := List.getElem_of_mem hf
      rw [← getFo_lt hk] at hed ⊢
      refine hrow.clo e' he' k hk hed ?_
      obtain ⟨i, hi, rfl⟩ := List.getElem_of_mem he'
      rcases Nat.lt_or_ge i q with c | c
      · have := hasc i q hi a1 c; rw [a2] at this; exact .inl this
      · have : i = q := by omega
        subst this
        rw [a2]; exact .inr ⟨rfl, hk⟩
theorem keys_le {t : List Fo} {d x : Int} {S : List En} (hin : hasId t x = true) (nd : S.Pairwise (fun e e' => e.1 ≠ e'.1)) (walk : ∀ e ∈ S, WK t d x e.2 e.1) : S.length ≤ t.length := by
  have h := nodup_len (S.map Prod.fst) (t.map Fo.id) (by unfold List.Nodup; rw [List.pairwise_map]; exact nd) (fun y hy => by
    obtain ⟨e, he, rfl⟩ := List.mem_map.1 hy
    rcases (walk e he).last with q | ⟨f, hf, q⟩
    · rw [q]; exact hasId_mem.1 hin
    · rw [q]; exact List.mem_map.2 ⟨f, hf, rfl⟩)
  simpa using h
theorem BInv.len {t : List Fo} {d x P : Int} {S : List En} {k : Nat} (H : BInv t d x S P k) (hin : hasId t x = true) : S.length ≤ t.length := keys_le hin H.nd H.walk
def pathsF (t : List Fo) (x d : Int) : List En := bfsN t d x t.length
theorem bfs_ends {t : List Fo} {d x : Int} : ∀ n, (∃ q, q ≤ n ∧ (bfsN t d x q).length = q) ∨ n < (bfsN t d x n).length
  | 0 => .inr (by simp [bfsN])
  | n + 1 => by
    rcases bfs_ends (t := t) (d := d) (x := x) n with ⟨q, h1, h2⟩ | h
    · exact .inl ⟨q, by omega, h2⟩
    · obtain ⟨l, hl⟩ := bRow_sub t d (bfsN t d x n)[n].1 (bfsN t d x n)[n].2 (bfsN t d x n) t.length (Nat.le_refl _)
      rw [← bfs_next (List.getElem?_eq_getElem h)] at hl
      have := congrArg List.length hl
      rw [List.length_append] at this
      by_cases e : (bfsN t d x (n + 1)).length = n + 1
      · exact .inl ⟨n + 1, Nat.le_refl _, e⟩
      · exact .inr (by omega)
theorem id_of {t : List Fo} {x : Int} (ht : areFo t = true) (hin : hasId t x = true) : 1 ≤ x ∧ x ≤ 50 := by
  obtain ⟨i, hi, rfl⟩ := hasId_at hin
  exact id_bnd ht hi
theorem paths_at {t : List Fo} {d x : Int} {q : Nat} (h : (bfsN t d x q).length = q) (hq : q ≤ t.length) : bfsN t d x q = pathsF t x d := by
  have := bfs_stop (Nat.le_of_eq h) (t.length - q)
  rw [show q + (t.length - q) = t.length by omega] at this
  exact this.symm
theorem paths_fin {t : List Fo} {x : Int} (d : Int) (ht : areFo t = true) (hin : hasId t x = true) : BFin t d x (pathsF t x d) := by
  rcases bfs_ends (t := t) (d := d) (x := x) t.length with ⟨q, h1, h2⟩ | h
  · rw [← paths_at h2 h1]; exact bfs_fin ht (id_of ht hin) q h2
  · have := (bfs_inv ht (id_of ht hin) _ _ (List.getElem?_eq_getElem h)).len hin
    omega
/-- Each path is no longer than its place. -/
def plB (S : List En) : Prop := ∀ i (h : i < S.length), S[i].2.length ≤ i + 1
theorem plB.step {d a : Int} {p : List Int} {S : List En} {f : Fo} {q : Nat} (H : plB S) (hp : p.length ≤ q + 1) (hq : q < S.length) : plB (bStep d a p S f) := by
  unfold bStep
  split
  · intro i hi
    rw [List.length_append] at hi
    simp at hi
    rcases Nat.lt_or_ge i S.length with c | c
    · rw [List.getElem_append_left c]; exact H i c
    · have : i = S.length := by omega
      subst this
      simp
      omega
  · exact H
theorem plB.row {t : List Fo} {d a : Int} {p : List Int} {S : List En} {q : Nat} (H : plB S) (hp : p.length ≤ q + 1) (hq : q < S.length) : ∀ k, k ≤ t.length → plB (bRow t d a p S k)
  | 0, _ => by rw [bRow_zero]; exact H
  | k + 1, h => by
    obtain ⟨l, hl⟩ := bRow_sub t d a p S k (by omega)
    rw [bRow_succ t d a p S (by omega)]
    exact (plB.row H hp hq k (by omega)).step hp (by rw [hl, List.length_append]; omega)
theorem bfs_pl (t : List Fo) (d x : Int) : ∀ q, plB (bfsN t d x q)
  | 0 => by intro i hi; simp [bfsN] at hi ⊢
  | q + 1 => by
    rcases hq : (bfsN t d x q)[q]? with _ | e0
    · have hl := List.getElem?_eq_none_iff.1 hq
      have : bfsN t d x (q + 1) = bfsN t d x q := bfs_stop hl 1
      rw [this]; exact bfs_pl t d x q
    · rw [bfs_next hq]
      obtain ⟨a1, a2⟩ := List.getElem?_eq_some_iff.1 hq
      have := bfs_pl t d x q q a1
      rw [a2] at this
      exact (bfs_pl t d x q).row this a1 t.length (Nat.le_refl _)
/-- The first of the shortest. -/
theorem BFin.best {t : List Fo} {d x : Int} {S : List En} (H : BFin t d x S) {w : List Int} {b : Int} (h : WK t d x w b) : ∃ e ∈ S, e.1 = b ∧ encP e.2 ≤ encP w := by
  induction h with
  | one => exact ⟨_, H.root, rfl, Int.le_refl _⟩
  | snoc _ hf hed ih =>
    obtain ⟨e, he, h1, h2⟩ := ih
    rw [← h1] at hed
    obtain ⟨e2, h3, h4, h5⟩ := H.clo e he _ hf hed
    exact ⟨e2, h3, h4, by rw [encP_snoc]; omega⟩
def lookP (S : List En) (x : Int) : Option (List Int) := (S.find? (fun e => decide (e.1 = x))).map (·.2)
theorem key_inj {S : List En} (nd : S.Pairwise (fun e e' => e.1 ≠ e'.1)) {a b : En} (ha : a ∈ S) (hb : b ∈ S) (e : a.1 = b.1) : a = b := by
  obtain ⟨i, hi, rfl⟩ := List.getElem_of_mem ha
  obtain ⟨j, hj, rfl⟩ := List.getElem_of_mem hb
  rw [List.pairwise_iff_getElem] at nd
  rcases Nat.lt_trichotomy i j with c | c | c
  · exact absurd e (nd i j hi hj c)
  · subst c; rfl
  · exact absurd e.symm (nd j i hj hi c)
theorem lookP_of {S : List En} (nd : S.Pairwise (fun e e' => e.1 ≠ e'.1)) {e : En} (h : e ∈ S) : lookP S e.1 = some e.2 := by
  unfold lookP
  rcases hf : S.find? (fun e' => decide (e'.1 = e.1)) with _ | g
  · have := List.find?_eq_none.1 hf e h
    simp at this
  · have h1 := List.find?_some hf
    have h2 := List.mem_of_find?_eq_some hf
    have h3 : g = e := key_inj nd h2 h (of_decide_eq_true h1)
    rw [hf, h3]
    rfl
theorem lookP_mem {S : List En} {x : Int} {p : List Int} (h : lookP S x = some p) : (x, p) ∈ S := by
  unfold lookP at h
  rcases hf : S.find? (fun e' => decide (e'.1 = x)) with _ | g
  · rw [hf] at h; cases h
  · rw [hf] at h
    have h0 := List.find?_some hf
    have h1 : g.1 = x := of_decide_eq_true h0
    have h2 := List.mem_of_find?_eq_some hf
    simp at h
    rw [← h1, ← h]; exact h2
theorem lookP_none {S : List En} {x : Int} : lookP S x = none ↔ hasK S x = false := by
  unfold lookP hasK
  rw [Option.map_eq_none_iff, List.find?_eq_none, ← Bool.not_eq_true, List.any_eq_true]
  constructor
  · rintro h ⟨e, he, h2⟩; exact h e he h2
  · intro h e he h2; exact h ⟨e, he, h2⟩

/-- The model's path of just so many steps: the first. -/
def pathN (t : List Fo) (d : Int) : Nat → Int → Int → Option (List Int)
  | 0, a, b => if a = b then some [a] else none
  | n + 1, a, b => t.findSome? (fun f => if edB d a f = true then (pathN t d n f.id b).map (a :: ·) else none)
theorem WK.cons {t : List Fo} {d x : Int} {f : Fo} {w : List Int} {b : Int} (hf : f ∈ t) (he : edB d x f = true) (h : WK t d f.id w b) : WK t d x (x :: w) b := by
  induction h with
  | one => exact WK.snoc (.one) hf he
  | snoc _ hg hed ih => exact WK.snoc ih hg hed
theorem WK.uncons {t : List Fo} {d x : Int} {p : List Int} {b : Int} (h : WK t d x p b) : (p = [x] ∧ b = x) ∨ ∃ f ∈ t, edB d x f = true ∧ ∃ w, p = x :: w ∧ WK t d f.id w b := by
  induction h with
  | one => exact .inl ⟨rfl, rfl⟩
  | snoc _ hg hed ih =>
    rcases ih with ⟨rfl, rfl⟩ | ⟨f, hf, h1, w, rfl, h2⟩
    · exact .inr ⟨_, hg, hed, _, rfl, .one⟩
    · exact .inr ⟨f, hf, h1, _, rfl, .snoc h2 hg hed⟩
theorem WK.pos {t : List Fo} {d x : Int} {p : List Int} {b : Int} (h : WK t d x p b) : 1 ≤ p.length := by
  cases h <;> simp
/-- The bounds of a path's number. -/
theorem WK.bnds {t : List Fo} {d x : Int} (ht : areFo t = true) {p : List Int} {b : Int} (h : WK t d x p b) : x * 64 ^ (p.length - 1) ≤ encP p ∧ encP p < x * 64 ^ (p.length - 1) + 64 ^ (p.length - 1) := by
  induction h with
  | one => simp [encP]; omega
  | @snoc p a f hw hf hed ih =>
    obtain ⟨k, hk, e⟩ := List.getElem_of_mem hf
    have hb := id_bnd ht hk
    rw [getFo_lt hk, e] at hb
    have hl := hw.pos
    obtain ⟨n, hn⟩ : ∃ n, p.length = n + 1 := ⟨p.length - 1, by omega⟩
    rw [encP_snoc, List.length_append, List.length_singleton, hn]
    rw [hn] at ih
    simp only [Nat.add_sub_cancel] at ih ⊢
    rw [Int.pow_succ, ← Int.mul_assoc]
    omega
theorem encP_acc (w : List Int) : ∀ n : Int, w.foldl (fun n x => 64 * n + x) n = n * 64 ^ w.length + encP w := by
  induction w with
  | nil => intro n; simp [encP]
  | cons x w ih =>
    intro n
    unfold encP
    simp only [List.foldl_cons, List.length_cons]
    rw [ih, ih, Int.pow_succ, Int.add_mul, Int.mul_comm 64 n, Int.mul_assoc, Int.mul_comm (64 ^ w.length) 64]
    simp [Int.add_assoc]
theorem encP_cons (a : Int) (w : List Int) : encP (a :: w) = a * 64 ^ w.length + encP w := by
  have := encP_acc w a
  unfold encP at this ⊢
  simpa using this
theorem pathN_sound {t : List Fo} {d : Int} : ∀ {n : Nat} {a b : Int} {p : List Int}, pathN t d n a b = some p → WK t d a p b ∧ p.length = n + 1
  | 0, a, b, p, h => by
    unfold pathN at h
    split at h
    · rename_i e
      subst e
      have := Option.some.inj h
      subst this
      exact ⟨.one, rfl⟩
    · cases h
  | n + 1, a, b, p, h => by
    unfold pathN at h
    obtain ⟨f, hf, h2⟩ := List.exists_of_findSome?_eq_some h
    split at h2
    · rename_i he
      rcases hr : pathN t d n f.id b with _ | r
      · rw [hr] at h2; cases h2
      · rw [hr] at h2
        have := Option.some.inj h2
        subst this
        obtain ⟨h3, h4⟩ := pathN_sound hr
        exact ⟨h3.cons hf he, by simp [h4]⟩
    · cases h2
theorem pathN_best {t : List Fo} {d : Int} (ht : areFo t = true) : ∀ (n : Nat) {a b : Int} {w : List Int}, WK t d a w b → w.length = n + 1 → ∃ p, pathN t d n a b = some p ∧ encP p ≤ encP w
  | 0, a, b, w, h, hl => by
    rcases h.uncons with ⟨rfl, rfl⟩ | ⟨f, _, _, u, rfl, h2⟩
    · exact ⟨_, by simp [pathN], Int.le_refl _⟩
    · have := h2.pos; rw [List.length_cons] at hl; omega
  | n + 1, a, b, w, h, hl => by
    rcases h.uncons with ⟨rfl, rfl⟩ | ⟨f, hf, he, u, rfl, h2⟩
    · simp at hl
    · have hu : u.length = n + 1 := by simpa using hl
      obtain ⟨p, hp, hle⟩ := pathN_best ht n h2 hu
      rcases hr : pathN t d (n + 1) a b with _ | r
      · unfold pathN at hr
        have := List.findSome?_eq_none_iff.1 hr f hf
        rw [if_pos he, hp] at this
        cases this
      · refine ⟨r, rfl, ?_⟩
        have hlr := (pathN_sound hr).2
        unfold pathN at hr
        obtain ⟨l1, g, l2, hs, hg, hno⟩ := List.findSome?_eq_some_iff.1 hr
        split at hg
        · rename_i heg
          rcases hq : pathN t d n g.id b with _ | v
          · rw [hq] at hg; cases hg
          · rw [hq] at hg
            have := Option.some.inj hg
            subst this
            have hv := pathN_sound hq
            rw [encP_cons, encP_cons, hu, hv.2]
            suffices encP v ≤ encP u by omega
            have hf2 : f ∈ l1 ++ g :: l2 := hs ▸ hf
            rcases List.mem_append.1 hf2 with h6 | h6
            · have := hno f h6
              rw [if_pos he, hp] at this
              cases this
            · rcases List.mem_cons.1 h6 with h7 | h7
              · subst h7
                rw [hp] at hq
                rw [← Option.some.inj hq]; exact hle
              · have hlt : g.id < f.id := by
                  obtain ⟨j, hj, ej⟩ := List.getElem_of_mem h7
                  have hlen : t.length = l1.length + (l2.length + 1) := by rw [hs]; simp
                  have h8 := ids_uniq ht j l1.length (by omega)
                  rw [getFo_lt (show l1.length < t.length by omega), getFo_lt (show l1.length + j + 1 < t.length by omega)] at h8
                  have e1 : t[l1.length]'(by omega) = g := by simp [hs]
                  have e2 : t[l1.length + j + 1]'(by omega) = f := by
                    have : (l1 ++ g :: l2)[l1.length + (j + 1)]? = some f := by
                      rw [List.getElem?_append_right (by omega)]
                      simp [ej, hj]
                    rw [← hs] at this
                    obtain ⟨_, e⟩ := List.getElem?_eq_some_iff.1 this
                    exact e
                  rw [e1, e2] at h8
                  exact h8
                have b1 := (hv.1.bnds ht).2
                have b2 := (h2.bnds ht).1
                rw [hv.2] at b1
                rw [hu] at b2
                simp only [Nat.add_sub_cancel] at b1 b2
                have hE : (0 : Int) ≤ 64 ^ n := Int.le_of_lt (Int.pow_pos (by decide))
                have hm := Int.mul_le_mul_of_nonneg_right (show g.id + 1 ≤ f.id by omega) hE
                rw [Int.add_mul, Int.one_mul] at hm
                omega
        · cases hg
end Go.Proofs.Ytcfghigmijibeaa
