/- What the two laws of clerks ask, as plain mathematics. No program is named here. -/
import Derived.Test.YtalaegkfkjpmoaaCkM
namespace Go.Proofs.Ytalaegkfkjpmoaa
set_option linter.unusedVariables false
open Go

theorem zero_not10 : hasR 0 10 = false := by decide +kernel
theorem rights_in {t : List Ck} (h : areCk t = true) {i : Nat} (hi : i < t.length) (d : Int) : 0 ≤ rightsC t (t.getD i ckD) d ∧ rightsC t (t.getD i ckD) d ≤ 15 := by
  have h1 := (ckOne_iff.1 (ck_at h hi).1).2.2.1
  unfold rightsC
  split
  · omega
  · split
    · exact h1
    · rename_i h3
      have hl : ckF t (t.getD i ckD).stands < t.length := Classical.not_not.1 (fun hh => h3 (.inl hh))
      have h2 := (ckOne_iff.1 (ck_at h hl).1).2.2.1
      split
      · exact h1
      · exact or_in h1 h2
theorem rights_not10 {t : List Ck} (h : areCk t = true) {i : Nat} (hi : i < t.length) (d : Int) : hasR (rightsC t (t.getD i ckD) d) 10 = false := by
  have h1 := (ckOne_iff.1 (ck_at h hi).1).2.2.2.1
  unfold rightsC
  split
  · exact zero_not10
  · split
    · exact h1
    · split
      · exact h1
      · rename_i h4; simpa using h4
theorem who_mem {t : List Ck} (h : areCk t = true) {r d : Int} {i : Nat} (hi : i < t.length) : decide ((t.getD i ckD).id ∈ whoF t r d t) = hasR (rightsC t (t.getD i ckD) d) r := by
  rw [Bool.eq_iff_iff, decide_eq_true_eq]
  unfold whoF
  constructor
  · intro hm
    obtain ⟨x, hx, he⟩ := List.mem_map.1 hm
    obtain ⟨hx1, hx2⟩ := List.mem_filter.1 hx
    obtain ⟨j, hj, rfl⟩ := List.getElem_of_mem hx1
    rw [← getCk_lt hj] at he hx2
    have hji : j = i := by
      have a := ckF_self h hj
      have b := ckF_self h hi
      rw [he] at a
      omega
    rw [← hji]; exact hx2
  · intro hh
    exact List.mem_map.2 ⟨t.getD i ckD, List.mem_filter.2 ⟨by rw [getCk_lt hi]; exact List.getElem_mem hi, hh⟩, rfl⟩
theorem who_in {t : List Ck} {r d a : Int} (h : a ∈ whoF t r d t) : ∃ i, i < t.length ∧ (t.getD i ckD).id = a ∧ hasR (rightsC t (t.getD i ckD) d) r = true := by
  unfold whoF at h
  obtain ⟨x, hx, he⟩ := List.mem_map.1 h
  obtain ⟨hx1, hx2⟩ := List.mem_filter.1 hx
  obtain ⟨j, hj, rfl⟩ := List.getElem_of_mem hx1
  rw [← getCk_lt hj] at he hx2
  exact ⟨j, hj, he, hx2⟩
theorem two_eight : ∀ (a : Fin 16), bits .and .i64 (a.val : Int) 2 = 2 → bits .and .i64 (a.val : Int) 8 = 8 → bits .and .i64 (a.val : Int) 10 = 10 := by decide +kernel
theorem both_ten {R : Int} (h : 0 ≤ R ∧ R ≤ 15) (h2 : hasR R 2 = true) (h8 : hasR R 8 = true) : hasR R 10 = true := by
  have := two_eight ⟨R.toNat, by omega⟩
  simp only at this
  rw [show ((R.toNat : Nat) : Int) = R by omega] at this
  exact hasR_iff.2 (this (hasR_iff.1 h2) (hasR_iff.1 h8))
theorem pair_ne {t : List Ck} {d a b : Int} (h : pairRes t d = (a, b, true)) : ¬ a = b := by
  unfold pairRes at h
  split at h
  · rename_i hc
    obtain ⟨hA, hD, hX, hY⟩ := hc
    obtain ⟨h1, h2⟩ := Prod.mk.inj h
    obtain ⟨h2, _⟩ := Prod.mk.inj h2
    rcases hx : whoF t 2 d t with _ | ⟨x, r⟩
    · exact absurd hx hX
    · rcases hy : whoF t 8 d t with _ | ⟨y, s⟩
      · exact absurd hy hY
      · rw [hx] at h1
        rw [hy] at h2
        simp at h1 h2
        obtain ⟨i, hi, he, hr⟩ := who_in (t := t) (r := 2) (d := d) (a := x) (by rw [hx]; simp)
        obtain ⟨j, hj, he2, hr2⟩ := who_in (t := t) (r := 8) (d := d) (a := y) (by rw [hy]; simp)
        intro hab
        have hij : i = j := by
          have p := ckF_self hA hi
          have q := ckF_self hA hj
          rw [he, h1, hab, ← h2, ← he2, q] at p
          exact p.symm
        subst hij
        have := both_ten (rights_in hA hi d) hr hr2
        rw [rights_not10 hA hi d] at this
        cases this
  · simp at h
/-- A clerk of the list is found by the own number. -/
theorem rOn_self {t : List Ck} (h : areCk t = true) {i : Nat} (hi : i < t.length) {d : Int} (hd : dayB d = true) : rOnRes t (t.getD i ckD).id d = (rightsC t (t.getD i ckD) d, true) := by
  rw [rOn_yes h (by rw [ckF_self h hi]; exact hi) hd, ckF_self h hi]
theorem may_self {t : List Ck} (h : areCk t = true) {i : Nat} (hi : i < t.length) {d r : Int} (hd : dayB d = true) (hr : sumB r = true) : mayRes t (t.getD i ckD).id r d = (hasR (rightsC t (t.getD i ckD) d) r, true) := by
  rw [may_is (rOn_self h hi hd), if_pos ⟨rfl, hr⟩]
theorem who_told {t : List Ck} {r d : Int} {xs : List Int} (h : whoRes t r d = (xs, true)) : areCk t = true ∧ sumB r = true ∧ dayB d = true ∧ xs = whoF t r d t := by
  unfold whoRes at h
  split at h
  · rename_i hc; exact ⟨hc.1, hc.2.1, hc.2.2, (Prod.mk.inj h).1.symm⟩
  · simp at h
/-- The places of the numbers stay when a clerk is replaced by one of the same number. -/
theorem ckF_set {t : List Ck} {P : Nat} {f : Ck} (hP : P < t.length) (hf : f.id = (t.getD P ckD).id) (x : Int) : ckF (t.set P f) x = ckF t x := by
  unfold ckF
  have : ∀ (p : Int → Bool), (t.set P f).findIdx (fun c => p c.id) = t.findIdx (fun c => p c.id) := by
    intro p
    have e : (t.set P f).map (·.id) = t.map (·.id) := by
      rw [List.map_set]
      apply List.ext_getElem (by simp)
      intro i h1 h2
      rw [List.getElem_set]
      split
      · rename_i he; subst he; rw [List.getElem_map, hf, getCk_lt hP]
      · rfl
    have g : ∀ l : List Ck, l.findIdx (fun c => p c.id) = (l.map (·.id)).findIdx p := by
      intro l
      induction l with
      | nil => rfl
      | cons a l ih => simp only [List.map_cons, List.findIdx_cons, ih]
    rw [g, g, e]
  exact this (fun i => decide (i = x))
theorem with_told {t : List Ck} {P : Nat} {f : Ck} {xs : List Ck} (h : withCk t P f = (xs, true)) : areCk (t.set P f) = true ∧ xs = t.set P f := by
  unfold withCk at h
  split at h
  · rename_i hc; exact ⟨hc, (Prod.mk.inj h).1.symm⟩
  · simp at h
theorem back_all : ∀ (a b : Fin 16), bits .and .i64 (a.val : Int) (b.val : Int) = (b.val : Int) → bits .or .i64 (bits .andNot .i64 (a.val : Int) (b.val : Int)) (b.val : Int) = (a.val : Int) := by decide +kernel
theorem back_is {r n : Int} (hr : 0 ≤ r ∧ r ≤ 15) (hn : oneR n = true) (h : hasR r n = true) : bits .or .i64 (bits .andNot .i64 r n) n = r := by
  have h0 := oneR_in hn
  have := back_all ⟨r.toNat, by omega⟩ ⟨n.toNat, by omega⟩
  simp only at this
  rw [show ((r.toNat : Nat) : Int) = r by omega, show ((n.toNat : Nat) : Int) = n by omega] at this
  exact this (hasR_iff.1 h)
theorem getD_set {t : List Ck} {P : Nat} {f : Ck} (hP : P < t.length) : (t.set P f).getD P ckD = f := by
  rw [getCk_lt (by simpa using hP)]; simp
/-- A right that is taken can be given back. -/
theorem take_back {t : List Ck} {x r : Int} {xs : List Ck} (h : takeRes t x r = (xs, true)) : giveRes xs x r = (t, true) := by
  unfold takeRes at h
  split at h
  · rename_i hc
    obtain ⟨hA, hF, hO, hH⟩ := hc
    obtain ⟨hA2, rfl⟩ := with_told h
    obtain ⟨P, hP⟩ : ∃ P, ckF t x = P := ⟨_, rfl⟩
    rw [hP] at hF hH hA2 ⊢
    obtain ⟨f, hf⟩ : ∃ f, t.getD P ckD = f := ⟨_, rfl⟩
    rw [hf] at hH hA2 ⊢
    have hr := (ckOne_iff.1 (ck_at hA hF).1).2.2.1
    rw [hf] at hr
    have hF2 : ckF (t.set P { f with rights := bits .andNot .i64 f.rights r }) x = P := by rw [ckF_set hF (by rw [hf]), hP]
    rw [give_yes hA2 (by simpa using hF) hF2 (getD_set hF) hO]
    have hb := back_is hr hO hH
    have e : (t.set P { f with rights := bits .andNot .i64 f.rights r }).set P { ({ f with rights := bits .andNot .i64 f.rights r } : Ck) with rights := bits .or .i64 (bits .andNot .i64 f.rights r) r } = t := by
      rw [List.set_set, hb]
      have : ({ f with rights := f.rights } : Ck) = t[P] := by rw [← getCk_lt hF, hf]
      show t.set P ({ f with rights := f.rights } : Ck) = t
      rw [this]; exact List.set_getElem_self hF
    unfold withCk
    simp only at e ⊢
    rw [e, if_pos hA]
  · simp at h
theorem give_told {t : List Ck} {x r : Int} {xs : List Ck} (h : giveRes t x r = (xs, true)) : areCk xs = true := by
  unfold giveRes at h
  split at h
  · obtain ⟨h1, rfl⟩ := with_told h; exact h1
  · simp at h
theorem days_told {t : List Ck} {r a b : Int} {xs : List Int} (h : daysRes t r a b = (xs, true)) : whoRes t r a = (whoF t r a t, true) ∧ (decide (a ∈ xs) = (whoF t r a t).isEmpty) := by
  unfold daysRes at h
  split at h
  · rename_i hc
    obtain ⟨hA, hS, hB⟩ := hc
    have hs := spanB_iff.1 hB
    obtain ⟨rfl, _⟩ := Prod.mk.inj h
    refine ⟨who_yes hA hS (decide_eq_true (by omega)), ?_⟩
    rw [Bool.eq_iff_iff, decide_eq_true_eq]
    unfold daysF
    constructor
    · intro hm
      obtain ⟨k, hk, he⟩ := List.mem_map.1 hm
      have hk0 : k = 0 := by omega
      subst hk0
      have := (List.mem_filter.1 hk).2
      simpa using this
    · intro hh
      exact List.mem_map.2 ⟨0, List.mem_filter.2 ⟨List.mem_range.2 (by omega), by simpa using hh⟩, by simp⟩
  · simp at h
/-- Who stands in for nobody has the own rights. -/
theorem sta_own {t : List Ck} {x : Int} {xs : List Ck} (h : staRes t x 0 = (xs, true)) {i : Nat} (hi : i < t.length) (he : (t.getD i ckD).id = x) : rOnRes xs x (t.getD i ckD).frm = ((t.getD i ckD).rights, true) := by
  unfold staRes at h
  split at h
  · rename_i hc
    obtain ⟨hA, hF⟩ := hc
    obtain ⟨hA2, rfl⟩ := with_told h
    have hP : ckF t x = i := by rw [← he]; exact ckF_self hA hi
    rw [hP] at hA2 ⊢
    obtain ⟨f, hf⟩ : ∃ f, t.getD i ckD = f := ⟨_, rfl⟩
    have hone := ckOne_iff.1 (ck_at hA hi).1
    rw [hf] at hone hA2 ⊢
    have hF2 : ckF (t.set i { f with stands := 0 }) x = i := by rw [ckF_set hi (by rw [hf]), hP]
    rw [rOn_yes hA2 (by rw [hF2]; simpa using hi) (decide_eq_true (by omega)), hF2, getD_set hi]
    rw [rights_own (by unfold onC; exact decide_eq_true ⟨by simp, by simpa using hone.2.2.2.2.2.1.2⟩) (.inl (by simp only; exact ck_nobody hA2))]
  · simp at h
end Go.Proofs.Ytalaegkfkjpmoaa
