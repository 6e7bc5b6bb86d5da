/- What closing and opening again, lending and taking back, splitting, and the sums of a series have to do with each other. No program is named here. -/
import Derived.Test.YtpbjddiopfkgbaaDoorStepM
import Derived.Test.YtpbjddiopfkgbaaDoorSinceC
import Derived.Test.YtpbjddiopfkgbaaDoorSerM
namespace Go.Proofs.YtpbjddiopfkgbaaDoor
set_option linter.unusedVariables false

theorem with_yes {t : List Fi} {k : Nat} {f : Fi} {ys : List Fi} (h : withFi t k f = (ys, true)) : areFi (t.set k f) = true ∧ ys = t.set k f := by
  unfold withFi at h
  split at h
  · rename_i hh; exact ⟨hh, (Prod.mk.inj h).1.symm⟩
  · cases (Prod.mk.inj h).2
theorem find_hit {t : List Fi} {x st : Int} (h0 : 0 ≤ st) (h : ¬ findFi t x st < 0) : ∃ k, k < t.length ∧ placeFi t x st = k ∧ areFi t = true ∧ (t.getD k fiD).id = x ∧ (t.getD k fiD).state = st := by
  rcases findFi_cases t x st with hk | ⟨k, hkl, hk, hpl, ht, hhit⟩
  · omega
  · obtain ⟨h1, h2⟩ := hitFi_iff.1 hhit
    exact ⟨k, hkl, hpl, ht, h1, h2.resolve_left (by omega)⟩
theorem set_self_fi {t : List Fi} {k : Nat} (hk : k < t.length) : t.set k (t.getD k fiD) = t := by
  rw [getFi_lt hk]; exact List.set_getElem_self hk
theorem back_fi {t : List Fi} {k : Nat} {f g : Fi} (hk : k < t.length) (ht : areFi t = true) (hg : g = t.getD k fiD) : withFi (t.set k f) k g = (t, true) := by
  have e : (t.set k f).set k g = t := by rw [List.set_set, hg]; exact set_self_fi hk
  unfold withFi
  rw [e, if_pos ht]
theorem valid_at {t : List Fi} (h : areFi t = true) {k : Nat} (hk : k < t.length) : isFi (t.getD k fiD) = true := (fi_at h hk).1
theorem open_zero {f : Fi} (h : isFi f = true) (hs : f.state = 0) : f.closed = 0 := by
  have := (isFi_iff.1 h).2.2.2.2.2.2
  unfold closedB at this
  rw [if_pos hs] at this
  exact of_decide_eq_true this
theorem shut_days {f : Fi} (h : isFi f = true) (hs : f.state ≠ 0) : (0 ≤ f.closed ∧ f.closed ≤ 20000) ∧ f.opened ≤ f.closed := by
  have := (isFi_iff.1 h).2.2.2.2.2.2
  unfold closedB at this
  rw [if_neg hs, Bool.and_eq_true] at this
  exact ⟨of_decide_eq_true this.1, of_decide_eq_true this.2⟩
theorem fi_open (f : Fi) (h : f.state = 0) (hz : f.closed = 0) : (⟨f.id, f.series, f.title, f.opened, 0, 0, f.pages⟩ : Fi) = f := by
  obtain ⟨x0, x1, x2, x3, x4, x5, x6⟩ := f
  simp only at h hz
  subst h
  subst hz
  rfl
theorem fi_state (f : Fi) (s : Int) (h : f.state = s) : (⟨f.id, f.series, f.title, f.opened, f.closed, s, f.pages⟩ : Fi) = f := by
  obtain ⟨x0, x1, x2, x3, x4, x5, x6⟩ := f
  simp only at h
  subst h
  rfl
theorem clo_yes {t : List Fi} {x d : Int} {ys : List Fi} (h : cloRes t x d = (ys, true)) : ∃ k, k < t.length ∧ areFi t = true ∧ (t.getD k fiD).id = x ∧ (t.getD k fiD).state = 0 ∧ areFi ys = true ∧ ys = t.set k { t.getD k fiD with state := 1, closed := d } := by
  unfold cloRes at h
  split at h
  · cases (Prod.mk.inj h).2
  · rename_i hh
    obtain ⟨k, hk, hpl, ht, h1, h2⟩ := find_hit (Int.le_refl 0) (fun e => hh (.inl e))
    rw [hpl] at h
    obtain ⟨hy, rfl⟩ := with_yes h
    exact ⟨k, hk, ht, h1, h2, hy, rfl⟩
theorem clo_back {t : List Fi} {x d : Int} {ys : List Fi} (h : cloRes t x d = (ys, true)) : reoRes ys x = (t, true) := by
  obtain ⟨k, hk, ht, h1, h2, hy, rfl⟩ := clo_yes h
  have hl : k < (t.set k { t.getD k fiD with state := 1, closed := d }).length := by rw [List.length_set]; exact hk
  have hg : (t.set k { t.getD k fiD with state := 1, closed := d }).getD k fiD = { t.getD k fiD with state := 1, closed := d } := by rw [getD_set_fi hk, if_pos rfl]
  obtain ⟨e1, e2⟩ := find_yes (x := x) (st := 1) hy hl (by rw [hg]; exact h1) (.inr (by rw [hg]))
  unfold reoRes
  rw [if_neg (by rw [e1]; omega), e2, hg]
  refine back_fi hk ht ?_
  have hz := open_zero (valid_at ht hk) h2
  exact fi_open _ h2 hz
theorem clo_since {t : List Fi} {x d : Int} {ys : List Fi} (h : cloRes t x d = (ys, true)) : ∃ zs, sinceRes ys d d = (zs, true) ∧ x ∈ zs := by
  obtain ⟨k, hk, ht, h1, h2, hy, rfl⟩ := clo_yes h
  have hl : k < (t.set k { t.getD k fiD with state := 1, closed := d }).length := by rw [List.length_set]; exact hk
  have hg : (t.set k { t.getD k fiD with state := 1, closed := d }).getD k fiD = { t.getD k fiD with state := 1, closed := d } := by rw [getD_set_fi hk, if_pos rfl]
  have hv := valid_at hy hl
  have hd := shut_days hv (by rw [hg]; simp)
  have hc : ((t.set k { t.getD k fiD with state := 1, closed := d }).getD k fiD).closed = d := by rw [hg]
  have hst : ((t.set k { t.getD k fiD with state := 1, closed := d }).getD k fiD).state = 1 := by rw [hg]
  have hid : ((t.set k { t.getD k fiD with state := 1, closed := d }).getD k fiD).id = x := by rw [hg]; exact h1
  generalize t.set k { t.getD k fiD with state := 1, closed := d } = ys at *
  refine ⟨(sinceF ys d d).map (·.id), ?_, ?_⟩
  · unfold sinceRes
    rw [if_pos ⟨hy, by omega, by omega⟩]
  · refine List.mem_map.2 ⟨ys.getD k fiD, ?_, hid⟩
    unfold sinceF
    rw [mem_ordF, List.mem_filter]
    refine ⟨by rw [getFi_lt hl]; exact List.getElem_mem hl, ?_⟩
    unfold sinceB
    rw [hst, hc]
    simp
theorem len_back {t : List Fi} {x : Int} {c : Bool} {ys : List Fi} (h : lenRes t x c = (ys, true)) : lenRes ys x (!c) = (t, true) := by
  cases c
  all_goals
    unfold lenRes at h
    simp only [Bool.false_eq_true, if_false, if_true] at h
    split at h
    · cases (Prod.mk.inj h).2
    · rename_i hh
      obtain ⟨k, hk, hpl, ht, h1, h2⟩ := find_hit (by omega) hh
      rw [hpl] at h
      obtain ⟨hy, rfl⟩ := with_yes h
      unfold lenRes
      simp only [Bool.not_false, Bool.not_true, Bool.false_eq_true, if_false, if_true]
      have hg : ∀ f : Fi, (t.set k f).getD k fiD = f := fun f => by rw [getD_set_fi hk, if_pos rfl]
      have hl : ∀ f : Fi, k < (t.set k f).length := fun f => by rw [List.length_set]; exact hk
      first
        | (obtain ⟨e1, e2⟩ := find_yes (x := x) (st := 2) hy (hl _) (by rw [hg]; exact h1) (.inr (by rw [hg]))
           rw [if_neg (by rw [e1]; omega), e2, hg]
           exact back_fi hk ht (fi_state _ _ h2))
        | (obtain ⟨e1, e2⟩ := find_yes (x := x) (st := 1) hy (hl _) (by rw [hg]; exact h1) (.inr (by rw [hg]))
           rw [if_neg (by rw [e1]; omega), e2, hg]
           exact back_fi hk ht (fi_state _ _ h2))
theorem day_pos {t : List Fi} {x d n : Int} (h : dayRes t x d = (n, true)) : 1 ≤ n := by
  unfold dayRes at h
  split at h
  · cases (Prod.mk.inj h).2
  · rename_i hh
    rcases findFi_cases t x (-1) with hk | ⟨k, hkl, hk, hpl, ht, hhit⟩
    · exact absurd (.inl (by omega)) hh
    · rw [hpl] at h hh
      have hv := valid_at ht hkl
      obtain ⟨rfl, _⟩ := Prod.mk.inj h
      split
      · omega
      · rename_i hs
        have := shut_days hv hs
        omega
theorem since_more {t : List Fi} {a b : Int} {xs : List Int} (h : sinceRes t a b = (xs, true)) : ∃ ys, sinceRes t 0 b = (ys, true) ∧ xs.length ≤ ys.length := by
  unfold sinceRes at h
  split at h
  · rename_i hh
    obtain ⟨rfl, _⟩ := Prod.mk.inj h
    refine ⟨(sinceF t 0 b).map (·.id), by unfold sinceRes; rw [if_pos ⟨hh.1, hh.2.1, by omega⟩], ?_⟩
    rw [List.length_map, List.length_map, sinceF, sinceF, ordF_length, ordF_length]
    have e : t.filter (sinceB a b) = (t.filter (sinceB 0 b)).filter (sinceB a b) := by
      rw [List.filter_filter]
      congr 1
      funext f
      rcases hb : sinceB a b f with _ | _
      · simp
      · have : sinceB 0 b f = true := by
          simp only [sinceB, Bool.and_eq_true, decide_eq_true_eq] at hb ⊢
          omega
        rw [this]; rfl
    rw [e]
    exact List.length_filter_le _ _
  · cases (Prod.mk.inj h).2
theorem ser_known {t : List Fi} {rs : List (List Int)} {b : Bool} (h : serRes t = (rs, b)) : b = areFi t := by
  unfold serRes at h
  split at h
  · rename_i hh; rw [hh]; exact (Prod.mk.inj h).2.symm
  · rename_i hh
    rw [← (Prod.mk.inj h).2]
    cases hb : areFi t
    · rfl
    · exact absurd hb hh
theorem rows_like {t u : List Fi} (h1 : ∀ s, 0 < cntS t s ↔ 0 < cntS u s) (h2 : ∀ s, pagS t s = pagS u s) : ∀ n, (rowsTo t n).map (fun r => (r.getD 0 0, r.getD 2 0)) = (rowsTo u n).map (fun r => (r.getD 0 0, r.getD 2 0))
  | 0 => rfl
  | n + 1 => by
    have ih := rows_like h1 h2 n
    unfold rowsTo
    by_cases hc : 0 < cntS t ((n + 1 : Nat) : Int)
    · rw [if_pos hc, if_pos ((h1 _).1 hc), List.map_append, List.map_append, ih]
      simp [rowS, h2]
    · rw [if_neg hc, if_neg (fun e => hc ((h1 _).2 e))]
      exact ih
theorem parts_fi {t : List Fi} {k : Nat} (hk : k < t.length) : t = t.take k ++ t.getD k fiD :: t.drop (k + 1) := by
  rw [getFi_lt hk, ← List.drop_eq_getElem_cons hk, List.take_append_drop]
theorem set_parts_fi {t : List Fi} {k : Nat} {g : Fi} (hk : k < t.length) : t.set k g = t.take k ++ g :: t.drop (k + 1) := by
  rw [List.set_eq_take_append_cons_drop, if_pos hk]
theorem cntS_set {t : List Fi} {k : Nat} {g : Fi} (hk : k < t.length) (hs : g.series = (t.getD k fiD).series) (s : Int) : cntS (t.set k g) s = cntS t s := by
  conv => rhs; rw [parts_fi hk]
  rw [set_parts_fi hk]
  unfold cntS
  rw [List.filter_append, List.filter_append, List.filter_cons, List.filter_cons, hs]
  split <;> simp
theorem pagS_set {t : List Fi} {k : Nat} {g : Fi} (hk : k < t.length) (hs : g.series = (t.getD k fiD).series) (s : Int) : pagS (t.set k g) s = pagS t s + (if (t.getD k fiD).series = s then g.pages - (t.getD k fiD).pages else 0) := by
  have e : pagS t s = pagS (t.take k ++ t.getD k fiD :: t.drop (k + 1)) s := congrArg (fun z => pagS z s) (parts_fi hk)
  rw [e, set_parts_fi hk]
  unfold pagS
  rw [List.filter_append, List.filter_append, List.filter_cons, List.filter_cons, hs]
  generalize t.getD k fiD = f
  by_cases h : f.series = s
  · simp [h]; omega
  · simp [h]
theorem spl_pages {t : List Fi} {x p : Int} {s : ByteArray} {xs : List Fi} {n : Int} (h : splRes t x p s = (xs, n, true)) : ∃ ra rb, serRes t = (ra, true) ∧ serRes xs = (rb, true) ∧ areFi xs = true ∧ ra.length = rb.length ∧ (∀ r ∈ ra, r.length = 3) ∧ (∀ r ∈ rb, r.length = 3) ∧
    ∀ i, i < ra.length → (ra.getD i []).getD 0 0 = (rb.getD i []).getD 0 0 ∧ (ra.getD i []).getD 2 0 = (rb.getD i []).getD 2 0 := by
  unfold splRes at h
  split at h
  · cases (Prod.mk.inj (Prod.mk.inj h).2).2
  · rename_i hh
    split at h
    · rename_i hv
      obtain ⟨rfl, h3⟩ := Prod.mk.inj h
      obtain ⟨k, hk, hpl, ht, h1, h2⟩ := find_hit (Int.le_refl 0) (fun e => hh (.inl e))
      rw [hpl] at hv ⊢
      have hcnt : ∀ q, 0 < cntS t q ↔ 0 < cntS (splList t k p s) q := fun q => by
        unfold splList
        have e1 := cntS_set (t := t) (k := k) (g := { t.getD k fiD with pages := (t.getD k fiD).pages - p }) hk rfl q
        rw [cntS_snoc, e1]
        simp only
        constructor
        · intro h; omega
        · intro h
          by_cases e : (t.getD k fiD).series = q
          · exact cntS_pos.2 ⟨t.getD k fiD, by rw [getFi_lt hk]; exact List.getElem_mem hk, e⟩
          · rw [if_neg e] at h; omega
      have hpag : ∀ q, pagS t q = pagS (splList t k p s) q := fun q => by
        unfold splList
        have e1 := pagS_set (t := t) (k := k) (g := { t.getD k fiD with pages := (t.getD k fiD).pages - p }) hk rfl q
        rw [pagS_snoc, e1]
        simp only
        by_cases e : (t.getD k fiD).series = q
        · rw [if_pos e, if_pos e]; omega
        · rw [if_neg e, if_neg e]; omega
      have hm := rows_like hcnt hpag 99
      have hl : (rowsTo t 99).length = (rowsTo (splList t k p s) 99).length := by
        have := congrArg List.length hm
        simpa using this
      refine ⟨rowsTo t 99, rowsTo (splList t k p s) 99, by unfold serRes; rw [if_pos ht], by unfold serRes; rw [if_pos hv], hv, hl, rowsTo_three t 99, rowsTo_three _ 99, fun i hi => ?_⟩
      have hi2 : i < (rowsTo (splList t k p s) 99).length := by omega
      have e := congrArg (fun l : List (Int × Int) => l[i]?) hm
      simp only [List.getElem?_map, List.getElem?_eq_getElem hi, List.getElem?_eq_getElem hi2, Option.map_some] at e
      have e2 := Option.some.inj e
      have r1 : (rowsTo t 99).getD i [] = (rowsTo t 99)[i] := by rw [List.getD_eq_getElem?_getD, List.getElem?_eq_getElem hi]; rfl
      have r2 : (rowsTo (splList t k p s) 99).getD i [] = (rowsTo (splList t k p s) 99)[i] := by rw [List.getD_eq_getElem?_getD, List.getElem?_eq_getElem hi2]; rfl
      rw [r1, r2]
      exact ⟨congrArg Prod.fst e2, congrArg Prod.snd e2⟩
    · cases (Prod.mk.inj (Prod.mk.inj h).2).2
end Go.Proofs.YtpbjddiopfkgbaaDoor
