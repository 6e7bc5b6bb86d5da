/- Paths between formats: what the four functions answer. No program is named here. -/
import Derived.Test.YtcfghigmijibeaaFoQ
namespace Go.Proofs.Ytcfghigmijibeaa
set_option linter.unusedVariables false

def askP (t : List Fo) (x d : Int) : Bool := areFo t && (hasId t x && dayB d)
def wayL (t : List Fo) (x d : Int) : List Fo := t.filter (fun f => hasK (pathsF t x d) f.id)
def wayF (t : List Fo) (x d : Int) : List Int := (wayL t x d).map Fo.id
def wayRes (t : List Fo) (x d : Int) : List Int × Bool := if askP t x d then (wayF t x d, true) else ([], false)
def spRes (t : List Fo) (x y d : Int) : List Int × Bool := if askP t x d then (match lookP (pathsF t x d) y with | some p => (p, true) | none => ([], false)) else ([], false)
def foM : Fo := { foD with til := -1 }
def llStep (b f : Fo) : Fo := if b.til < f.til then f else b
def llStepC (S : List En) (b f : Fo) : Fo := if hasK S f.id = true ∧ b.til < f.til then f else b
def llRes (t : List Fo) (x d : Int) : Int × Bool := if askP t x d then ((t.foldl (llStepC (pathsF t x d)) foM).id, true) else (0, false)
theorem wayRes_no {t : List Fo} {x d : Int} {xs : List Int} {b : Bool} (h : wayRes t x d = (xs, b)) (hn : ¬ (areFo t = true ∧ hasId t x = true ∧ dayB d = true)) : xs = [] ∧ b = false := by
  unfold wayRes at h
  rw [if_neg (by simpa [askP] using hn)] at h
  exact ⟨(Prod.mk.inj h).1.symm, (Prod.mk.inj h).2.symm⟩
theorem wayRes_yes {t : List Fo} {x d : Int} {xs : List Int} {b : Bool} (h : wayRes t x d = (xs, b)) (hn : areFo t = true ∧ hasId t x = true ∧ dayB d = true) : xs = wayF t x d ∧ b = true := by
  unfold wayRes at h
  rw [if_pos (by simpa [askP] using hn)] at h
  exact ⟨(Prod.mk.inj h).1.symm, (Prod.mk.inj h).2.symm⟩
theorem llRes_no {t : List Fo} {x d n : Int} {b : Bool} (h : llRes t x d = (n, b)) (hn : ¬ (areFo t = true ∧ hasId t x = true ∧ dayB d = true)) : n = 0 ∧ b = false := by
  unfold llRes at h
  rw [if_neg (by simpa [askP] using hn)] at h
  exact ⟨(Prod.mk.inj h).1.symm, (Prod.mk.inj h).2.symm⟩
theorem llRes_yes {t : List Fo} {x d n : Int} {b : Bool} (h : llRes t x d = (n, b)) (hn : areFo t = true ∧ hasId t x = true ∧ dayB d = true) : n = (t.foldl (llStepC (pathsF t x d)) foM).id ∧ b = true := by
  unfold llRes at h
  rw [if_pos (by simpa [askP] using hn)] at h
  exact ⟨(Prod.mk.inj h).1.symm, (Prod.mk.inj h).2.symm⟩
theorem spRes_no {t : List Fo} {x y d : Int} {xs : List Int} {b : Bool} (h : spRes t x y d = (xs, b)) (hn : ¬ (areFo t = true ∧ hasId t x = true ∧ dayB d = true)) : xs = [] ∧ b = false := by
  unfold spRes at h
  rw [if_neg (by simpa [askP] using hn)] at h
  exact ⟨(Prod.mk.inj h).1.symm, (Prod.mk.inj h).2.symm⟩
theorem spRes_none {t : List Fo} {x y d : Int} {xs : List Int} {b : Bool} (h : spRes t x y d = (xs, b)) (hl : lookP (pathsF t x d) y = none) : xs = [] ∧ b = false := by
  unfold spRes at h
  rw [hl] at h
  split at h <;> exact ⟨(Prod.mk.inj h).1.symm, (Prod.mk.inj h).2.symm⟩
theorem spRes_some {t : List Fo} {x y d : Int} {xs p : List Int} {b : Bool} (h : spRes t x y d = (xs, b)) (hn : areFo t = true ∧ hasId t x = true ∧ dayB d = true) (hl : lookP (pathsF t x d) y = some p) : xs = p ∧ b = true := by
  unfold spRes at h
  rw [if_pos (by simpa [askP] using hn), hl] at h
  exact ⟨(Prod.mk.inj h).1.symm, (Prod.mk.inj h).2.symm⟩

/-- Which one may reach. -/
def Reach (t : List Fo) (d x y : Int) : Prop := ∃ w, WK t d x w y
theorem has_reach {t : List Fo} {x d : Int} (ht : areFo t = true) (hin : hasId t x = true) (y : Int) : hasK (pathsF t x d) y = true ↔ Reach t d x y := by
  have H := paths_fin d ht hin
  rw [hasK_iff]
  constructor
  · rintro ⟨e, he, rfl⟩; exact ⟨_, H.walk e he⟩
  · rintro ⟨w, hw⟩
    obtain ⟨e, he, h1, _⟩ := H.best hw
    exact ⟨e, he, h1⟩
theorem ids_pw {t : List Fo} (ht : areFo t = true) : t.Pairwise (fun f g => f.id < g.id) := by
  rw [List.pairwise_iff_getElem]
  intro i j hi hj hij
  have := ids_uniq ht (j - i - 1) i (by omega)
  rw [show i + (j - i - 1) + 1 = j by omega, getFo_lt hi, getFo_lt hj] at this
  exact this
theorem wayF_rising {t : List Fo} (ht : areFo t = true) (x d : Int) : (wayF t x d).Pairwise (· < ·) := by
  unfold wayF wayL
  rw [List.pairwise_map]
  exact (ids_pw ht).filter _
theorem wayF_mem {t : List Fo} {x d : Int} (ht : areFo t = true) (hin : hasId t x = true) (y : Int) : y ∈ wayF t x d ↔ hasK (pathsF t x d) y = true := by
  unfold wayF wayL
  simp only [List.mem_map, List.mem_filter]
  constructor
  · rintro ⟨f, ⟨_, h⟩, rfl⟩; exact h
  · intro h
    obtain ⟨e, he, h1⟩ := hasK_iff.1 h
    rcases ((paths_fin d ht hin).walk e he).last with q | ⟨f, hf, q⟩
    · obtain ⟨f, hf, h2⟩ := List.mem_map.1 (hasId_mem.1 hin)
      have : f.id = y := by rw [h2, ← q, h1]
      exact ⟨f, ⟨hf, by rw [this]; exact h⟩, this⟩
    · have : f.id = y := by rw [← q, h1]
      exact ⟨f, ⟨hf, by rw [this]; exact h⟩, this⟩
theorem wayF_len (t : List Fo) (x d : Int) : (wayF t x d).length ≤ t.length := by
  unfold wayF wayL
  rw [List.length_map]
  exact List.length_filter_le _ _
theorem wayRes_len {t : List Fo} {x d : Int} {xs : List Int} {b : Bool} (h : wayRes t x d = (xs, b)) : xs.length ≤ t.length := by
  unfold wayRes at h
  split at h
  · rw [← (Prod.mk.inj h).1]; exact wayF_len _ _ _
  · rw [← (Prod.mk.inj h).1]; simp
/-- The model's closure, on its way: rising, with the first, and all may be reached. -/
structure WOut (t : List Fo) (d x : Int) (out : List Int) : Prop where
  up : out.Pairwise (· < ·)
  root : x ∈ out
  reach : ∀ y ∈ out, Reach t d x y
theorem WOut.start (t : List Fo) (d x : Int) : WOut t d x [x] := ⟨by simp, by simp, fun y hy => by rw [List.mem_singleton.1 hy]; exact ⟨_, .one⟩⟩
theorem reach_id {t : List Fo} {d x y : Int} (hin : hasId t x = true) (h : Reach t d x y) : y ∈ t.map Fo.id := by
  obtain ⟨w, hw⟩ := h
  rcases hw.last with q | ⟨f, hf, q⟩
  · rw [q]; exact hasId_mem.1 hin
  · rw [q]; exact List.mem_map.2 ⟨f, hf, rfl⟩
theorem WOut.len {t : List Fo} {d x : Int} {out : List Int} (h : WOut t d x out) (hin : hasId t x = true) : out.length ≤ t.length := by
  have := nodup_len out (t.map Fo.id) (h.up.imp (fun h => by omega)) (fun y hy => reach_id hin (h.reach y hy))
  simpa using this
/-- A number put into a rising list. -/
def putI (l : List Int) (n : Int) : List Int := if n ∈ l then l else l.filter (fun y => decide (y < n)) ++ n :: l.filter (fun y => decide (n < y))
theorem putI_mem (l : List Int) (n y : Int) : y ∈ putI l n ↔ y = n ∨ y ∈ l := by
  unfold putI
  by_cases h : n ∈ l
  · rw [if_pos h]
    constructor
    · exact .inr
    · rintro (rfl | q)
      · exact h
      · exact q
  · rw [if_neg h]
    simp only [List.mem_append, List.mem_cons, List.mem_filter, decide_eq_true_eq]
    constructor
    · rintro (⟨q, _⟩ | q | ⟨q, _⟩)
      · exact .inr q
      · exact .inl q
      · exact .inr q
    · rintro (q | q)
      · exact .inr (.inl q)
      · have : y ≠ n := fun e => h (e ▸ q)
        rcases Int.lt_or_gt_of_ne this with c | c
        · exact .inl ⟨q, c⟩
        · exact .inr (.inr ⟨q, c⟩)
theorem putI_up {l : List Int} (h : l.Pairwise (· < ·)) (n : Int) : (putI l n).Pairwise (· < ·) := by
  unfold putI
  split
  · exact h
  · rw [List.pairwise_append, List.pairwise_cons]
    refine ⟨h.filter _, ⟨fun y hy => ?_, h.filter _⟩, fun y hy z hz => ?_⟩
    · simpa using (List.mem_filter.1 hy).2
    · have h1 : y < n := by simpa using (List.mem_filter.1 hy).2
      rcases List.mem_cons.1 hz with e | e
      · rw [e]; exact h1
      · have h2 : n < z := by simpa using (List.mem_filter.1 e).2
        omega
/-- A rising list up to a place is what is less. -/
theorem up_less {l : List Int} (h : l.Pairwise (· < ·)) {n : Int} {k : Nat} (hk : k ≤ l.length) (h1 : ∀ i (hi : i < k), l[i]'(by omega) < n) (h2 : ∀ (h : k < l.length), n < l[k]) : putI l n = l.take k ++ n :: l.drop k := by
  have hsp : l = l.take k ++ l.drop k := (List.take_append_drop k l).symm
  have ha : ∀ y ∈ l.take k, y < n := fun y hy => by
    obtain ⟨i, hi, rfl⟩ := List.mem_take_iff_getElem.1 hy
    exact h1 i (by omega)
  have hb : ∀ y ∈ l.drop k, n < y := fun y hy => by
    obtain ⟨i, hi, rfl⟩ := List.mem_drop_iff_getElem.1 hy
    have hkl : k < l.length := by omega
    have := h2 hkl
    rcases Nat.eq_or_lt_of_le (Nat.le_add_right k i) with c | c
    · have : i = 0 := by omega
      subst this
      simpa using h2 hkl
    · have := List.pairwise_iff_getElem.1 h k (k + i) hkl (by omega) c
      omega
  have hn : n ∉ l := fun q => by
    rw [hsp] at q
    rcases List.mem_append.1 q with q | q
    · have := ha n q; omega
    · have := hb n q; omega
  unfold putI
  rw [if_neg hn]
  have e1 : l.filter (fun y => decide (y < n)) = l.take k := by
    conv => lhs; rw [hsp]
    rw [List.filter_append, List.filter_eq_self.2 (fun y hy => by simpa using ha y hy), List.filter_eq_nil_iff.2 (fun y hy => by have := hb y hy; simp; omega)]
    simp
  have e2 : l.filter (fun y => decide (n < y)) = l.drop k := by
    conv => lhs; rw [hsp]
    rw [List.filter_append, List.filter_eq_nil_iff.2 (fun y hy => by have := ha y hy; simp; omega), List.filter_eq_self.2 (fun y hy => by simpa using hb y hy)]
    simp
  rw [e1, e2]
theorem putI_len {l : List Int} {n : Int} (h : n ∉ l) (hp : l.Pairwise (· < ·)) : (putI l n).length = l.length + 1 := by
  have e : (putI l n).Perm (n :: l) := by
    refine (List.perm_ext_iff_of_nodup ((putI_up hp n).imp (fun h => by omega)) (List.nodup_cons.2 ⟨h, hp.imp (fun h => by omega)⟩)).2 (fun y => ?_)
    rw [putI_mem, List.mem_cons]
  have := e.length_eq
  simpa using this
theorem WOut.put {t : List Fo} {d x : Int} {out : List Int} (h : WOut t d x out) {f : Fo} (hf : f ∈ t) (hd : d ≤ f.til) {r : Int} (hr : r ∈ f.reads) (ho : r ∈ out) : WOut t d x (putI out f.id) := by
  refine ⟨putI_up h.up _, (putI_mem _ _ _).2 (.inr h.root), fun y hy => ?_⟩
  rcases (putI_mem _ _ _).1 hy with rfl | hy
  · obtain ⟨w, hw⟩ := h.reach r ho
    exact ⟨_, hw.snoc hf (by simp [edB, hd, hr])⟩
  · exact h.reach y hy
/-- Closed, so all. -/
theorem WOut.done {t : List Fo} {d x : Int} {out : List Int} (ht : areFo t = true) (hin : hasId t x = true) (h : WOut t d x out) (hc : ∀ f ∈ t, d ≤ f.til → (∃ r ∈ f.reads, r ∈ out) → f.id ∈ out) : out = wayF t x d := by
  refine rising_same _ _ h.up (wayF_rising ht x d) fun y => ?_
  rw [wayF_mem ht hin, has_reach ht hin]
  constructor
  · exact h.reach y
  · rintro ⟨w, hw⟩
    induction hw with
    | one => exact h.root
    | snoc _ hf hed ih =>
      simp only [edB, Bool.and_eq_true, decide_eq_true_eq] at hed
      exact hc _ hf hed.1 ⟨_, hed.2, ih⟩
theorem wayF_pos {t : List Fo} {x d : Int} (ht : areFo t = true) (hin : hasId t x = true) : 0 < (wayF t x d).length := by
  have : x ∈ wayF t x d := (wayF_mem ht hin x).2 (hasK_iff.2 ⟨_, (paths_fin d ht hin).root, rfl⟩)
  exact List.length_pos_of_mem this
/-- The model's walk over the steps ends at the path found. -/
theorem sp_some {t : List Fo} {x y d : Int} {p : List Int} (ht : areFo t = true) (hin : hasId t x = true) (h : lookP (pathsF t x d) y = some p) : ∃ n, n + 1 = p.length ∧ n < (wayF t x d).length ∧ pathN t d n x y = some p ∧ ∀ m, m < n → pathN t d m x y = none := by
  have H := paths_fin d ht hin
  have hm := lookP_mem h
  have hw : WK t d x p y := H.walk _ hm
  obtain ⟨n, hn⟩ : ∃ n, p.length = n + 1 := ⟨p.length - 1, by have := hw.pos; omega⟩
  have hbest : ∀ w, WK t d x w y → encP p ≤ encP w := fun w h1 => by
    obtain ⟨e, he, h2, h3⟩ := H.best h1
    have := key_inj H.nd he hm h2
    subst this
    exact h3
  have hx := id_of ht hin
  refine ⟨n, hn.symm, ?_, ?_, fun m hlt => ?_⟩
  · obtain ⟨i, hi, hq⟩ := List.getElem_of_mem hm
    have h1 := bfs_pl t d x t.length i hi
    have h2 : (pathsF t x d)[i].2.length ≤ i + 1 := h1
    rw [hq] at h2
    have h3 : (pathsF t x d).length ≤ (wayF t x d).length := by
      have := nodup_len ((pathsF t x d).map Prod.fst) (wayF t x d) (by unfold List.Nodup; rw [List.pairwise_map]; exact H.nd) (fun z hz => by
        obtain ⟨e, he, rfl⟩ := List.mem_map.1 hz
        exact (wayF_mem ht hin _).2 (hasK_iff.2 ⟨e, he, rfl⟩))
      simpa using this
    simp only at h2
    omega
  · obtain ⟨r, hr, hle⟩ := pathN_best ht n hw hn
    obtain ⟨h1, h2⟩ := pathN_sound hr
    have h3 := hbest r h1
    rw [hr]
    congr 1
    have hdig : ∀ {w : List Int} {z : Int}, WK t d x w z → ∀ v ∈ w, 1 ≤ v ∧ v ≤ 50 := fun hh => by
      induction hh with
      | one => intro v hv; rw [List.mem_singleton.1 hv]; exact hx
      | snoc _ hf _ ih =>
        intro v hv
        rcases List.mem_append.1 hv with hv | hv
        · exact ih v hv
        · rw [List.mem_singleton.1 hv]
          obtain ⟨k, hk, rfl⟩ := List.getElem_of_mem hf
          rw [← getFo_lt hk]; exact id_bnd ht hk
    have hinj : ∀ (k : Nat) (a b : List Int), a.length = k → b.length = k → (∀ v ∈ a, 1 ≤ v ∧ v ≤ 50) → (∀ v ∈ b, 1 ≤ v ∧ v ≤ 50) → encP a = encP b → a = b := by
      intro k
      induction k with
      | zero => intro a b h1 h2 _ _ _; rw [List.length_eq_zero_iff.1 h1, List.length_eq_zero_iff.1 h2]
      | succ k ih =>
        intro a b h1 h2 h3 h4 h5
        rcases List.eq_nil_or_concat a with rfl | ⟨a', u, rfl⟩
        · simp at h1
        · rcases List.eq_nil_or_concat b with rfl | ⟨b', v, rfl⟩
          · simp at h2
          · simp only [List.concat_eq_append] at h1 h2 h3 h4 h5 ⊢
            rw [encP_snoc, encP_snoc] at h5
            have hu := h3 u (by simp)
            have hv := h4 v (by simp)
            have e1 : u = v := by omega
            subst e1
            rw [ih a' b' (by simpa using h1) (by simpa using h2) (fun z hz => h3 z (by simp [hz])) (fun z hz => h4 z (by simp [hz])) (by omega)]
    exact hinj (n + 1) r p h2 hn (hdig h1) (hdig hw) (by omega)
  · rcases hr : pathN t d m x y with _ | r
    · rfl
    · obtain ⟨h1, h2⟩ := pathN_sound hr
      have h3 := hbest r h1
      have b1 := (h1.bnds ht).2
      have b2 := (hw.bnds ht).1
      rw [h2] at b1
      rw [hn] at b2
      simp only [Nat.add_sub_cancel] at b1 b2
      obtain ⟨j, rfl⟩ : ∃ j, n = m + 1 + j := ⟨n - m - 1, by omega⟩
      have hE : (0 : Int) < 64 ^ m := Int.pow_pos (by decide)
      have hF : (0 : Int) < 64 ^ j := Int.pow_pos (by decide)
      have e1 : (64 : Int) ^ (m + 1 + j) = 64 ^ m * 64 * 64 ^ j := by rw [Int.pow_add, Int.pow_succ]
      have h6 : (64 : Int) ^ m * 64 ≤ 64 ^ m * 64 * 64 ^ j := by
        have := Int.mul_le_mul_of_nonneg_left (show (1 : Int) ≤ 64 ^ j by omega) (show (0 : Int) ≤ 64 ^ m * 64 by omega)
        rwa [Int.mul_one] at this
      rw [← e1] at h6
      have h7 : (64 : Int) ^ (m + 1 + j) ≤ x * 64 ^ (m + 1 + j) := by
        have := Int.mul_le_mul_of_nonneg_right hx.1 (show (0 : Int) ≤ 64 ^ (m + 1 + j) by omega)
        rwa [Int.one_mul] at this
      have h8 : x * 64 ^ m ≤ 50 * 64 ^ m := Int.mul_le_mul_of_nonneg_right hx.2 (by omega)
      omega

/-- The longest lived. -/
theorem ll_all (S : List En) (t : List Fo) : t.foldl (llStepC S) foM = (t.filter (fun f => hasK S f.id)).foldl llStep foM := by
  rw [List.foldl_filter]
  congr 1
  funext b f
  unfold llStepC llStep
  by_cases h : hasK S f.id = true
  · simp [h]
  · simp [h]
def bestL (L : List Fo) (n : Nat) : Fo := (L.take n).foldl llStep foM
theorem bestL_succ {L : List Fo} {n : Nat} (h : n < L.length) : bestL L (n + 1) = llStep (bestL L n) (L.getD n foD) := by
  unfold bestL
  rw [List.take_succ_eq_append_getElem h, List.foldl_append, getFo_lt h]
  rfl
def bestC (S : List En) (t : List Fo) (n : Nat) : Fo := (t.take n).foldl (llStepC S) foM
theorem bestC_succ {S : List En} {t : List Fo} {n : Nat} (h : n < t.length) : bestC S t (n + 1) = llStepC S (bestC S t n) (t.getD n foD) := by
  unfold bestC
  rw [List.take_succ_eq_append_getElem h, List.foldl_append, getFo_lt h]
  rfl
theorem fo_til {t : List Fo} (ht : areFo t = true) {f : Fo} (hf : f ∈ t) : 0 ≤ f.til ∧ f.til ≤ 20000 := by
  obtain ⟨k, hk, rfl⟩ := List.getElem_of_mem hf
  rw [← getFo_lt hk]
  exact ((foAt_iff rfl).1 ((fo_iff.1 ht).2 k hk)).1.2.2.1
theorem bestL_one {L : List Fo} (h : 0 < L.length) (h0 : 0 ≤ (L.getD 0 foD).til) : bestL L 1 = L.getD 0 foD := by
  rw [bestL_succ h]
  unfold llStep
  rw [if_pos]
  show (-1 : Int) < (L.getD 0 foD).til
  omega
theorem bestL_mem {L : List Fo} (hp : ∀ f ∈ L, 0 ≤ f.til) : ∀ n, 0 < n → n ≤ L.length → bestL L n ∈ L
  | 0, h, _ => by omega
  | 1, _, h => by
    have h0 : 0 < L.length := by omega
    rw [bestL_one h0 (by rw [getFo_lt h0]; exact hp _ (List.getElem_mem h0)), getFo_lt h0]
    exact List.getElem_mem h0
  | n + 2, _, h => by
    rw [bestL_succ (by omega)]
    unfold llStep
    split
    · rw [getFo_lt (by omega)]; exact List.getElem_mem _
    · exact bestL_mem hp (n + 1) (by omega) (by omega)
end Go.Proofs.Ytcfghigmijibeaa
