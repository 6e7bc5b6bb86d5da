/- What the periods of a record are, and what the functions of periods answer, as plain mathematics (chapter 6). No program is named here. -/
import Derived.Test.YtenjajcknmfhfaaRecM
import Derived.Test.YtenjajcknmfhfaaRuM
namespace Go.Proofs.Ytenjajcknmfhfaa
set_option linter.unusedVariables false

/-- The end of a rule's period for a record, or -1 if it is open. -/
def endR (r : Rec) (u : Ru) : Int := if dayOf r u.event < 0 then -1 else dayOf r u.event + u.days
theorem endR_open {r : Rec} {u : Ru} (h : dayOf r u.event < 0) : endR r u = -1 := by unfold endR; rw [if_pos h]
theorem endR_shut {r : Rec} {u : Ru} (h : ¬ dayOf r u.event < 0) : endR r u = dayOf r u.event + u.days := by unfold endR; rw [if_neg h]
theorem endR_neg {r : Rec} {u : Ru} (hd : 0 ≤ u.days) : endR r u < 0 ↔ dayOf r u.event < 0 := by
  by_cases h : dayOf r u.event < 0
  · rw [endR_open h]; omega
  · rw [endR_shut h]; omega
/-- The deciding rule so far and the due day so far, or the rule of nothing and -1 as soon as one is open. -/
def decF (r : Rec) : List Ru → Ru → Int → Ru × Int
  | [], b, d => (b, d)
  | u :: us, b, d => if endR r u < 0 then (ruD, -1) else if d < endR r u ∨ (endR r u = d ∧ u.act < b.act) then decF r us u (endR r u) else decF r us b d
def decR (r : Rec) (us : List Ru) : Ru × Int := decF r us ruD (-1)
theorem decF_open {r : Rec} : ∀ (us : List Ru) (b : Ru) (d : Int), (∃ u ∈ us, endR r u < 0) → decF r us b d = (ruD, -1)
  | [], b, d, h => by obtain ⟨u, hu, _⟩ := h; simp at hu
  | u :: us, b, d, h => by
    unfold decF
    by_cases ho : endR r u < 0
    · rw [if_pos ho]
    · rw [if_neg ho]
      have h2 : ∃ u ∈ us, endR r u < 0 := by
        obtain ⟨x, hx, hn⟩ := h
        rcases List.mem_cons.1 hx with rfl | hx
        · exact absurd hn ho
        · exact ⟨x, hx, hn⟩
      split
      · exact decF_open us _ _ h2
      · exact decF_open us _ _ h2
theorem decF_shut {r : Rec} : ∀ (us : List Ru) (b : Ru) (d : Int), (∀ u ∈ us, ¬ endR r u < 0) →
    d ≤ (decF r us b d).2 ∧ (∀ u ∈ us, endR r u ≤ (decF r us b d).2) ∧ (((decF r us b d).1 = b ∧ (decF r us b d).2 = d) ∨ ((decF r us b d).1 ∈ us ∧ endR r (decF r us b d).1 = (decF r us b d).2))
  | [], b, d, _ => ⟨Int.le_refl _, fun u hu => by simp at hu, .inl ⟨rfl, rfl⟩⟩
  | u :: us, b, d, h => by
    have h2 : ∀ x ∈ us, ¬ endR r x < 0 := fun x hx => h x (List.mem_cons_of_mem _ hx)
    have ho := h u (by simp)
    unfold decF
    rw [if_neg ho]
    by_cases hc : d < endR r u ∨ (endR r u = d ∧ u.act < b.act)
    · rw [if_pos hc]
      obtain ⟨i1, i2, i3⟩ := decF_shut us u (endR r u) h2
      refine ⟨by omega, fun x hx => ?_, .inr ?_⟩
      · rcases List.mem_cons.1 hx with rfl | hx
        · exact i1
        · exact i2 x hx
      · rcases i3 with ⟨e1, e2⟩ | ⟨e1, e2⟩
        · rw [e1, e2]; exact ⟨by simp, rfl⟩
        · exact ⟨List.mem_cons_of_mem _ e1, e2⟩
    · rw [if_neg hc]
      obtain ⟨i1, i2, i3⟩ := decF_shut us b d h2
      refine ⟨i1, fun x hx => ?_, ?_⟩
      · rcases List.mem_cons.1 hx with rfl | hx
        · omega
        · exact i2 x hx
      · rcases i3 with e | ⟨e1, e2⟩
        · exact .inl e
        · exact .inr ⟨List.mem_cons_of_mem _ e1, e2⟩
/-- A record is settled just where there is a rule and none is open. -/
theorem dec_told {r : Rec} {us : List Ru} : 0 ≤ (decR r us).2 ↔ us ≠ [] ∧ ∀ u ∈ us, ¬ endR r u < 0 := by
  unfold decR
  constructor
  · intro h
    refine ⟨fun e => by rw [e] at h; simp [decF] at h, fun u hu hn => ?_⟩
    rw [decF_open us _ _ ⟨u, hu, hn⟩] at h
    simp at h
  · rintro ⟨hn, h⟩
    obtain ⟨_, i2, _⟩ := decF_shut us ruD (-1) h
    rcases us with _ | ⟨u, us⟩
    · exact absurd rfl hn
    · have := i2 u (by simp)
      have := h u (by simp)
      omega
theorem dec_best {r : Rec} {us : List Ru} (h : 0 ≤ (decR r us).2) : (∀ u ∈ us, endR r u ≤ (decR r us).2) ∧ (decR r us).1 ∈ us ∧ endR r (decR r us).1 = (decR r us).2 := by
  have hs := (dec_told.1 h).2
  unfold decR at h ⊢
  obtain ⟨_, i2, i3⟩ := decF_shut us ruD (-1) hs
  refine ⟨i2, ?_⟩
  rcases i3 with ⟨_, e⟩ | e
  · rw [e] at h; omega
  · exact e
theorem decF_congr {r q : Rec} : ∀ (us : List Ru) (b : Ru) (d : Int), (∀ u ∈ us, endR r u = endR q u) → decF r us b d = decF q us b d
  | [], _, _, _ => rfl
  | u :: us, b, d, h => by
    have h2 : ∀ x ∈ us, endR r x = endR q x := fun x hx => h x (List.mem_cons_of_mem _ hx)
    unfold decF
    rw [h u (by simp)]
    split
    · rfl
    · split
      · exact decF_congr us _ _ h2
      · exact decF_congr us _ _ h2
/-- What the functions of periods answer; `isRec`, `isSch` are told from outside. -/
def endsF (r : Rec) (t : List Ru) : List Int := (forRu t r.series).map (endR r)
def waitF (r : Rec) (t : List Ru) : List Int := ((forRu t r.series).filter (fun u => decide (endR r u < 0))).map (·.event)
def dueF (r : Rec) (t : List Ru) : Int := (decR r (forRu t r.series)).2
def ruleF (r : Rec) (t : List Ru) : Ru := (decR r (forRu t r.series)).1
theorem due_told {r : Rec} {t : List Ru} : 0 ≤ dueF r t ↔ endsF r t ≠ [] ∧ waitF r t = [] := by
  unfold dueF endsF waitF
  rw [dec_told]
  constructor
  · rintro ⟨h1, h2⟩
    refine ⟨fun e => h1 (List.map_eq_nil_iff.1 e), List.map_eq_nil_iff.2 (List.filter_eq_nil_iff.2 fun u hu => by simpa using h2 u hu)⟩
  · rintro ⟨h1, h2⟩
    refine ⟨fun e => h1 (by rw [e]; rfl), fun u hu => ?_⟩
    have := List.filter_eq_nil_iff.1 (List.map_eq_nil_iff.1 h2) u hu
    simpa using this
theorem due_max {r : Rec} {t : List Ru} (h : 0 ≤ dueF r t) : (∀ x ∈ endsF r t, x ≤ dueF r t) ∧ dueF r t ∈ endsF r t := by
  obtain ⟨h1, h2, h3⟩ := dec_best (us := forRu t r.series) h
  refine ⟨fun x hx => ?_, ?_⟩
  · obtain ⟨u, hu, rfl⟩ := List.mem_map.1 hx
    exact h1 u hu
  · exact List.mem_map.2 ⟨_, h2, h3⟩
theorem due_rule {r : Rec} {t : List Ru} (h : 0 ≤ dueF r t) : (ruleF r t).series = r.series ∧ ¬ dayOf r (ruleF r t).event < 0 ∧ dayOf r (ruleF r t).event + (ruleF r t).days = dueF r t := by
  obtain ⟨h1, h2, h3⟩ := dec_best (us := forRu t r.series) h
  have hs := (dec_told.1 h).2 _ h2
  have hd : ¬ dayOf r (ruleF r t).event < 0 := fun e => hs (by rw [show (decR r (forRu t r.series)).1 = ruleF r t from rfl, endR_open e]; decide)
  refine ⟨by have := (List.mem_filter.1 h2).2; simpa [ruleF] using this, hd, ?_⟩
  rw [← endR_shut hd]
  exact h3
theorem find_ins {α : Type} (p : α → Bool) (xs : List α) (e : α) (n : Nat) (h : p e = false) : (xs.take n ++ e :: xs.drop n).find? p = xs.find? p := by
  rw [List.find?_append, List.find?_cons, h]
  conv => rhs; rw [← List.take_append_drop n xs, List.find?_append]
theorem dayOf_ins {r : Rec} {e : Ev} {k : Int} (n : Nat) (h : k ≠ e.kind) : dayOf ⟨r.id, r.series, r.made, r.evs.take n ++ e :: r.evs.drop n⟩ k = dayOf r k := by
  unfold dayOf
  simp only
  rw [find_ins (fun x : Ev => decide (x.kind = k)) r.evs e n (decide_eq_false (fun q => h q.symm))]
theorem dayOf_none {r : Rec} {k : Int} (h0 : k ≠ 0) (h : ∀ x ∈ r.evs, x.kind ≠ k) : dayOf r k = -1 := by
  unfold dayOf
  rw [if_neg h0]
  have : r.evs.find? (fun e => decide (e.kind = k)) = none := List.find?_eq_none.2 fun x hx => by simpa using h x hx
  rw [this]
/-- One more event never makes the due day of a settled record an earlier one: it is the same. -/
theorem due_after {r : Rec} {e : Ev} {t : List Ru} (n : Nat) (h0 : e.kind ≠ 0) (hn : ∀ x ∈ r.evs, x.kind ≠ e.kind) (h : 0 ≤ dueF r t) : dueF ⟨r.id, r.series, r.made, r.evs.take n ++ e :: r.evs.drop n⟩ t = dueF r t := by
  have hs := (dec_told (us := forRu t r.series)).1 h
  unfold dueF decR
  simp only
  rw [decF_congr (q := r) _ _ _ (fun u hu => ?_)]
  have ho := hs.2 u hu
  have hk : u.event ≠ e.kind := fun q => ho (by rw [endR_open (by rw [q, dayOf_none h0 hn]; decide)]; decide)
  unfold endR
  rw [dayOf_ins n hk]
/-- The next due day behind a day, and whose it is; -1 as long as there is none. -/
def nextF (t : List Ru) (day : Int) : List Rec → Int → Int → Int × Int
  | [], b, l => (b, l)
  | r :: rs, b, l => if day < dueF r t ∧ (l < 0 ∨ dueF r t < l) then nextF t day rs r.id (dueF r t) else nextF t day rs b l
theorem next_spec {t : List Ru} {day : Int} (h0 : 0 ≤ day) : ∀ (rs : List Rec) (b l : Int), (l < 0 ∨ day < l) →
    ((nextF t day rs b l).2 < 0 ∨ day < (nextF t day rs b l).2) ∧ (0 ≤ l → 0 ≤ (nextF t day rs b l).2 ∧ (nextF t day rs b l).2 ≤ l) ∧ (∀ r ∈ rs, day < dueF r t → 0 ≤ (nextF t day rs b l).2 ∧ (nextF t day rs b l).2 ≤ dueF r t) ∧ (nextF t day rs b l = (b, l) ∨ ∃ r ∈ rs, nextF t day rs b l = (r.id, dueF r t) ∧ day < dueF r t)
  | [], b, l, hl => ⟨hl, fun h => ⟨h, Int.le_refl _⟩, fun r hr => by simp at hr, .inl rfl⟩
  | r :: rs, b, l, hl => by
    unfold nextF
    by_cases hc : day < dueF r t ∧ (l < 0 ∨ dueF r t < l)
    · rw [if_pos hc]
      obtain ⟨i1, i2, i3, i4⟩ := next_spec h0 rs r.id (dueF r t) (.inr hc.1)
      have := i2 (by omega)
      refine ⟨i1, fun h => ⟨this.1, by omega⟩, fun x hx hd => ?_, .inr ?_⟩
      · rcases List.mem_cons.1 hx with rfl | hx
        · exact this
        · exact i3 x hx hd
      · rcases i4 with e | ⟨x, hx, e⟩
        · exact ⟨r, by simp, e, hc.1⟩
        · exact ⟨x, List.mem_cons_of_mem _ hx, e⟩
    · rw [if_neg hc]
      obtain ⟨i1, i2, i3, i4⟩ := next_spec h0 rs b l hl
      refine ⟨i1, i2, fun x hx hd => ?_, ?_⟩
      · rcases List.mem_cons.1 hx with rfl | hx
        · have hl2 : 0 ≤ l := by omega
          have := i2 hl2
          exact ⟨this.1, by omega⟩
        · exact i3 x hx hd
      · rcases i4 with e | ⟨x, hx, e⟩
        · exact .inl e
        · exact .inr ⟨x, List.mem_cons_of_mem _ hx, e⟩
theorem next_best {t : List Ru} {day : Int} (h0 : 0 ≤ day) {rs : List Rec} (h : 0 ≤ (nextF t day rs 0 (-1)).2) :
    day < (nextF t day rs 0 (-1)).2 ∧ (∀ r ∈ rs, ¬ (day < dueF r t ∧ dueF r t < (nextF t day rs 0 (-1)).2)) ∧ ∃ r ∈ rs, nextF t day rs 0 (-1) = (r.id, dueF r t) := by
  obtain ⟨i1, _, i3, i4⟩ := next_spec (t := t) h0 rs 0 (-1) (.inl (by decide))
  refine ⟨by omega, fun r hr hd => ?_, ?_⟩
  · have := i3 r hr hd.1
    omega
  · rcases i4 with e | ⟨r, hr, e, _⟩
    · rw [e] at h; simp at h
    · exact ⟨r, hr, e⟩
/-! ### What each function answers. -/
def askB (r : Rec) (t : List Ru) : Bool := isRec r && isSch t
def endsRes (r : Rec) (t : List Ru) : List Int × Bool := if askB r t = true then (endsF r t, true) else ([], false)
def waitRes (r : Rec) (t : List Ru) : List Int × Bool := if askB r t = true then (waitF r t, true) else ([], false)
def setF (r : Rec) (t : List Ru) : Ru × Int × Bool := if askB r t = true ∧ 0 ≤ dueF r t then (ruleF r t, dueF r t, true) else (ruD, 0, false)
def dueRes (r : Rec) (t : List Ru) : Int × Bool := ((setF r t).2.1, (setF r t).2.2)
def decRes (r : Rec) (t : List Ru) : Ru × Bool := ((setF r t).1, (setF r t).2.2)
def isdRes (r : Rec) (t : List Ru) (d : Int) : Bool × Bool := if askB r t = true ∧ (0 ≤ d ∧ d ≤ 20000) then (decide (0 ≤ dueF r t ∧ dueF r t ≤ d), true) else (false, false)
def hitB (t : List Ru) (d a : Int) (r : Rec) : Bool := decide ((ruleF r t).act = a ∧ (0 ≤ dueF r t ∧ dueF r t ≤ d))
def hitF (t : List Ru) (d a : Int) (rs : List Rec) : List Int := (rs.filter (hitB t d a)).map (·.id)
def drecRes (rs : List Rec) (t : List Ru) (d a : Int) : List Int × Bool := if areRecs rs = true ∧ isSch t = true ∧ (0 ≤ d ∧ d ≤ 20000) ∧ (1 ≤ a ∧ a ≤ 3) then (hitF t d a rs, true) else ([], false)
def nextRes (rs : List Rec) (t : List Ru) (d : Int) : Int × Int × Bool :=
  if areRecs rs = true ∧ isSch t = true ∧ (0 ≤ d ∧ d ≤ 20000) ∧ 0 ≤ (nextF t d rs 0 (-1)).2 then ((nextF t d rs 0 (-1)).1, (nextF t d rs 0 (-1)).2, true) else (0, 0, false)
def noneB (t : List Ru) (r : Rec) : Bool := decide ((forRu t r.series).length = 0)
def noneF (t : List Ru) (rs : List Rec) : List Int := (rs.filter (noneB t)).map (·.id)
def notsRes (rs : List Rec) (t : List Ru) : List Int × Bool := if areRecs rs = true ∧ isSch t = true then (noneF t rs, true) else ([], false)

theorem endsRes_no {r : Rec} {t : List Ru} {xs : List Int} {b : Bool} (h : endsRes r t = (xs, b)) (hn : askB r t = false) : xs = [] ∧ b = false := by
  unfold endsRes at h; rw [if_neg (by rw [hn]; simp)] at h; obtain ⟨h1, h2⟩ := Prod.mk.inj h; exact ⟨h1.symm, h2.symm⟩
theorem endsRes_yes {r : Rec} {t : List Ru} {xs : List Int} {b : Bool} (h : endsRes r t = (xs, b)) (hn : askB r t = true) : xs = endsF r t ∧ b = true := by
  unfold endsRes at h; rw [if_pos hn] at h; obtain ⟨h1, h2⟩ := Prod.mk.inj h; exact ⟨h1.symm, h2.symm⟩
theorem waitRes_no {r : Rec} {t : List Ru} {xs : List Int} {b : Bool} (h : waitRes r t = (xs, b)) (hn : askB r t = false) : xs = [] ∧ b = false := by
  unfold waitRes at h; rw [if_neg (by rw [hn]; simp)] at h; obtain ⟨h1, h2⟩ := Prod.mk.inj h; exact ⟨h1.symm, h2.symm⟩
theorem waitRes_yes {r : Rec} {t : List Ru} {xs : List Int} {b : Bool} (h : waitRes r t = (xs, b)) (hn : askB r t = true) : xs = waitF r t ∧ b = true := by
  unfold waitRes at h; rw [if_pos hn] at h; obtain ⟨h1, h2⟩ := Prod.mk.inj h; exact ⟨h1.symm, h2.symm⟩
theorem endsRes_len {r : Rec} {t : List Ru} {xs : List Int} {b : Bool} (h : endsRes r t = (xs, b)) : xs.length ≤ t.length := by
  unfold endsRes at h
  split at h
  · obtain ⟨rfl, _⟩ := Prod.mk.inj h; unfold endsF; rw [List.length_map]; exact forRu_len _ _
  · obtain ⟨rfl, _⟩ := Prod.mk.inj h; exact Nat.zero_le _
theorem waitRes_len {r : Rec} {t : List Ru} {xs : List Int} {b : Bool} (h : waitRes r t = (xs, b)) : xs.length ≤ t.length := by
  unfold waitRes at h
  split at h
  · obtain ⟨rfl, _⟩ := Prod.mk.inj h; unfold waitF; rw [List.length_map]; exact Nat.le_trans (List.length_filter_le _ _) (forRu_len _ _)
  · obtain ⟨rfl, _⟩ := Prod.mk.inj h; exact Nat.zero_le _
theorem drecRes_len {rs : List Rec} {t : List Ru} {d a : Int} {xs : List Int} {b : Bool} (h : drecRes rs t d a = (xs, b)) : xs.length ≤ rs.length := by
  unfold drecRes at h
  split at h
  · obtain ⟨rfl, _⟩ := Prod.mk.inj h; unfold hitF; rw [List.length_map]; exact List.length_filter_le _ _
  · obtain ⟨rfl, _⟩ := Prod.mk.inj h; exact Nat.zero_le _
theorem notsRes_len {rs : List Rec} {t : List Ru} {xs : List Int} {b : Bool} (h : notsRes rs t = (xs, b)) : xs.length ≤ rs.length := by
  unfold notsRes at h
  split at h
  · obtain ⟨rfl, _⟩ := Prod.mk.inj h; unfold noneF; rw [List.length_map]; exact List.length_filter_le _ _
  · obtain ⟨rfl, _⟩ := Prod.mk.inj h; exact Nat.zero_le _
theorem setF_yes {r : Rec} {t : List Ru} (h : askB r t = true) (h0 : 0 ≤ dueF r t) : setF r t = (ruleF r t, dueF r t, true) := by unfold setF; rw [if_pos ⟨h, h0⟩]
theorem setF_no {r : Rec} {t : List Ru} (h : askB r t = false ∨ dueF r t < 0) : setF r t = (ruD, 0, false) := by
  unfold setF; rw [if_neg (by rcases h with e | e; · simp [e]
                              · intro q; omega)]
theorem ask_iff {r : Rec} {t : List Ru} : askB r t = true ↔ isRec r = true ∧ isSch t = true := by simp [askB]

/-! ### What the days are bounded by. -/
theorem dayOf_top {r : Rec} (h : isRec r = true) (k : Int) : dayOf r k ≤ 20000 := by
  by_cases h0 : k = 0
  · subst h0; rw [dayOf_zero]; exact (isRec_iff.1 h).2.2.1.2
  · rw [dayOf_place h h0]
    by_cases hf : foundK r.evs k = true
    · rw [if_pos hf]
      simp only [foundK, Bool.and_eq_true, decide_eq_true_eq] at hf
      exact (isEv_iff.1 (isRec_ev h _ hf.1).1).2.2.2
    · rw [if_neg hf]; omega
theorem dayOf_least {r : Rec} (h : isRec r = true) (k : Int) : -1 ≤ dayOf r k := by
  by_cases h0 : 0 ≤ dayOf r k
  · omega
  · have : dayOf r k = -1 := by
      by_cases hk : k = 0
      · exact absurd ((dayOf_neg h k).2 (.inl hk)) h0
      · rw [dayOf_place h hk]
        rw [if_neg (fun e => h0 ((dayOf_neg h k).2 (.inr e)))]
    omega
theorem endR_top {r : Rec} {u : Ru} (h : isRec r = true) (hu : isRu u = true) : -1 ≤ endR r u ∧ endR r u ≤ 40000 := by
  have h1 := dayOf_top h u.event
  have h2 := dayOf_least h u.event
  have h3 := (isRu_iff.1 hu).2.2.1
  unfold endR
  split <;> omega
theorem endR_eq {r : Rec} {u : Ru} (h : isRec r = true) (hu : isRu u = true) : (endR r u = -1) ↔ endR r u < 0 := by
  have := (endR_top h hu).1
  omega
theorem forRu_ok {t : List Ru} (h : isSch t = true) (s : Int) : ∀ u ∈ forRu t s, isRu u = true := fun u hu => sch_mem h u (forRu_mem hu).1
theorem decF_last {r : Rec} : ∀ (us : List Ru) (b : Ru) (d : Int), (decF r us b d).2 = -1 ∨ (decF r us b d).2 = d ∨ ∃ u ∈ us, (decF r us b d).2 = endR r u
  | [], b, d => .inr (.inl rfl)
  | u :: us, b, d => by
    unfold decF
    split
    · exact .inl rfl
    · split
      · rcases decF_last us u (endR r u) with h | h | ⟨x, hx, h⟩
        · exact .inl h
        · exact .inr (.inr ⟨u, List.mem_cons_self .., h⟩)
        · exact .inr (.inr ⟨x, List.mem_cons_of_mem _ hx, h⟩)
      · rcases decF_last us b d with h | h | ⟨x, hx, h⟩
        · exact .inl h
        · exact .inr (.inl h)
        · exact .inr (.inr ⟨x, List.mem_cons_of_mem _ hx, h⟩)
theorem due_top {r : Rec} {t : List Ru} (h : isRec r = true) (ht : isSch t = true) : -1 ≤ dueF r t ∧ dueF r t ≤ 40000 := by
  unfold dueF decR
  rcases decF_last (r := r) (forRu t r.series) ruD (-1) with e | e | ⟨u, hu, e⟩
  · rw [e]; omega
  · rw [e]; omega
  · rw [e]; exact endR_top h (forRu_ok ht _ u hu)

/-! ### The program's search for the deciding rule. -/
theorem dec_head {r : Rec} {u : Ru} {us : List Ru} (h : ∀ x ∈ u :: us, ¬ endR r x < 0) : decR r (u :: us) = decF r (u :: us) u (endR r u) := by
  have h0 := h u (List.mem_cons_self ..)
  unfold decR
  unfold decF
  rw [if_neg h0, if_neg h0, if_pos (.inl (by omega)), if_neg (by omega)]
theorem decF_cons {r : Rec} {u : Ru} {us : List Ru} {b : Ru} {d : Int} (h : ¬ endR r u < 0) : decF r (u :: us) b d = if d < endR r u ∨ (endR r u = d ∧ u.act < b.act) then decF r us u (endR r u) else decF r us b d := by
  conv => lhs; unfold decF
  rw [if_neg h]
theorem decF_stop {r : Rec} {u : Ru} {us : List Ru} {b : Ru} {d : Int} (h : endR r u < 0) : decF r (u :: us) b d = (ruD, -1) := by
  unfold decF
  rw [if_pos h]
theorem drop_ru {us : List Ru} {k : Nat} (h : k < us.length) : us.drop k = us.getD k ruD :: us.drop (k + 1) := by
  rw [getRu_lt h, List.drop_eq_getElem_cons h]
theorem ends_take {r : Rec} {us : List Ru} {k : Nat} (h : k < us.length) : (us.take (k + 1)).map (endR r) = (us.take k).map (endR r) ++ [endR r (us.getD k ruD)] := by
  rw [List.take_add_one, List.getElem?_eq_getElem h, getRu_lt h, List.map_append]; rfl
def waitU (r : Rec) (us : List Ru) : List Int := (us.filter (fun u => decide (endR r u < 0))).map (·.event)
theorem wait_take {r : Rec} {us : List Ru} {k : Nat} (h : k < us.length) : waitU r (us.take (k + 1)) = if endR r (us.getD k ruD) < 0 then waitU r (us.take k) ++ [(us.getD k ruD).event] else waitU r (us.take k) := by
  unfold waitU
  rw [List.take_add_one, List.getElem?_eq_getElem h, getRu_lt h, List.filter_append]
  by_cases hs : endR r us[k] < 0
  · simp [hs]
  · simp [hs]
theorem waitU_len (r : Rec) (us : List Ru) : (waitU r us).length ≤ us.length := by unfold waitU; rw [List.length_map]; exact List.length_filter_le _ _
theorem waitF_u (r : Rec) (t : List Ru) : waitF r t = waitU r (forRu t r.series) := rfl
/-- An end that is open stands among the ends just where a rule is open. -/
theorem open_mem {r : Rec} {t : List Ru} (h : isRec r = true) (ht : isSch t = true) : (-1 : Int) ∈ endsF r t ↔ ∃ u ∈ forRu t r.series, endR r u < 0 := by
  unfold endsF
  rw [List.mem_map]
  constructor
  · rintro ⟨u, hu, e⟩; exact ⟨u, hu, by omega⟩
  · rintro ⟨u, hu, e⟩; exact ⟨u, hu, (endR_eq h (forRu_ok ht _ u hu)).2 e⟩
theorem set_told {r : Rec} {t : List Ru} (h : isRec r = true) (ht : isSch t = true) : (0 ≤ dueF r t) ↔ forRu t r.series ≠ [] ∧ ¬ (-1 : Int) ∈ endsF r t := by
  unfold dueF
  rw [dec_told, open_mem h ht]
  constructor
  · rintro ⟨a, b⟩; exact ⟨a, fun ⟨u, hu, e⟩ => b u hu e⟩
  · rintro ⟨a, b⟩; exact ⟨a, fun u hu e => b ⟨u, hu, e⟩⟩

/-! ### The days of a record as a map. -/
/-- The last event of a kind, or the day made for 0. -/
def lookE (made : Int) : List Ev → Int → Option Int
  | [], s => if s = 0 then some made else none
  | e :: es, s => match lookE made es s with
    | some d => if (es.any (fun x => decide (x.kind = s))) = true then some d else if e.kind = s then some e.day else some d
    | none => if e.kind = s then some e.day else none
theorem lookE_snoc (made : Int) (e : Ev) (s : Int) : ∀ es, lookE made (es ++ [e]) s = if e.kind = s then some e.day else lookE made es s
  | [] => by
    simp only [List.nil_append, lookE]
    by_cases h0 : s = 0 <;> by_cases h1 : e.kind = s <;> simp [h0, h1]
  | x :: es => by
    simp only [List.cons_append, lookE]
    rw [lookE_snoc made e s es]
    by_cases h1 : e.kind = s
    · simp [h1]
    · simp only [h1, if_false, List.any_append, List.any_cons, List.any_nil, decide_false, Bool.or_false]
theorem lookE_dayOf {r : Rec} (h : isRec r = true) (s : Int) : lookE r.made r.evs s = if dayOf r s < 0 then none else some (dayOf r s) := by
  have key : ∀ es : List Ev, (∀ e ∈ es, 1 ≤ e.kind ∧ 0 ≤ e.day) → (∀ i j, i < j → j < es.length → (es.getD i evD).kind < (es.getD j evD).kind) → 0 ≤ r.made →
      lookE r.made es s = if dayOf ⟨r.id, r.series, r.made, es⟩ s < 0 then none else some (dayOf ⟨r.id, r.series, r.made, es⟩ s) := by
    intro es
    induction es with
    | nil =>
      intro _ _ hm
      by_cases h0 : s = 0
      · subst h0; simp [lookE, dayOf]; omega
      · simp [lookE, dayOf, h0]
    | cons e es ih =>
      intro h1 h2 hm
      have ih' := ih (fun x hx => h1 x (List.mem_cons_of_mem _ hx)) (fun i j hij hj => by simpa using h2 (i + 1) (j + 1) (by omega) (by simpa using hj)) hm
      have he := h1 e (List.mem_cons_self ..)
      by_cases h0 : s = 0
      · subst h0
        have : es.any (fun x => decide (x.kind = 0)) = false := by
          rw [List.any_eq_false]; intro x hx; have := h1 x (List.mem_cons_of_mem _ hx); simp; omega
        have hk : ¬ e.kind = 0 := by omega
        rw [lookE, ih']
        simp only [dayOf, if_true, this, hk, if_false]
        split <;> simp_all
      · by_cases hk : e.kind = s
        · have hne : ∀ x ∈ es, x.kind ≠ s := by
            intro x hx
            obtain ⟨j, hj, rfl⟩ := List.getElem_of_mem hx
            have := h2 0 (j + 1) (by omega) (by simpa using hj)
            simp only [List.getD_cons_zero, List.getD_cons_succ] at this
            rw [getD_lt hj] at this
            omega
          have hd : dayOf ⟨r.id, r.series, r.made, es⟩ s = -1 := dayOf_none h0 (fun x hx => hne x hx)
          rw [lookE, ih', hd]
          have : dayOf ⟨r.id, r.series, r.made, e :: es⟩ s = e.day := by simp [dayOf, h0, hk]
          rw [this]
          simp [hk]
          omega
        · have hd : dayOf ⟨r.id, r.series, r.made, e :: es⟩ s = dayOf ⟨r.id, r.series, r.made, es⟩ s := by simp [dayOf, h0, hk]
          rw [lookE, ih', hd]
          simp only [hk, if_false]
          split <;> rename_i q <;> split at q <;> simp_all
  have hm := (isRec_iff.1 h).2.2.1.1
  exact key r.evs (fun e he => by
    obtain ⟨j, hj, rfl⟩ := List.getElem_of_mem he
    have := isEv_iff.1 (isRec_ev h j hj).1
    rw [getD_lt hj] at this
    exact ⟨this.1, this.2.2.1⟩) (isRec_sorted h) hm

/-! ### Lists of records. -/
theorem hit_succ {t : List Ru} {d a : Int} {rs : List Rec} {k : Nat} (h : k < rs.length) : hitF t d a (rs.take (k + 1)) = if hitB t d a (rs.getD k recD) = true then hitF t d a (rs.take k) ++ [(rs.getD k recD).id] else hitF t d a (rs.take k) := by
  unfold hitF
  rw [List.take_add_one, List.getElem?_eq_getElem h, getDr_lt h, List.filter_append]
  by_cases hs : hitB t d a rs[k] = true
  · simp [hs]
  · simp [hs]
theorem hit_len (t : List Ru) (d a : Int) (rs : List Rec) : (hitF t d a rs).length ≤ rs.length := by unfold hitF; rw [List.length_map]; exact List.length_filter_le _ _
theorem none_succ {t : List Ru} {rs : List Rec} {k : Nat} (h : k < rs.length) : noneF t (rs.take (k + 1)) = if noneB t (rs.getD k recD) = true then noneF t (rs.take k) ++ [(rs.getD k recD).id] else noneF t (rs.take k) := by
  unfold noneF
  rw [List.take_add_one, List.getElem?_eq_getElem h, getDr_lt h, List.filter_append]
  by_cases hs : noneB t rs[k] = true
  · simp [hs]
  · simp [hs]
theorem none_len (t : List Ru) (rs : List Rec) : (noneF t rs).length ≤ rs.length := by unfold noneF; rw [List.length_map]; exact List.length_filter_le _ _
theorem drop_rec {rs : List Rec} {k : Nat} (h : k < rs.length) : rs.drop k = rs.getD k recD :: rs.drop (k + 1) := by
  rw [getDr_lt h, List.drop_eq_getElem_cons h]
theorem next_cons {t : List Ru} {day : Int} {r : Rec} {rs : List Rec} {b l : Int} : nextF t day (r :: rs) b l = if day < dueF r t ∧ (l < 0 ∨ dueF r t < l) then nextF t day rs r.id (dueF r t) else nextF t day rs b l := rfl
theorem recs_at {rs : List Rec} (h : areRecs rs = true) {k : Nat} (hk : k < rs.length) : isRec (rs.getD k recD) = true := by
  simp only [areRecs, Bool.and_eq_true, decide_eq_true_eq] at h
  have := upto_iff.1 h.2 k hk
  unfold recAtB at this
  simp only [Bool.and_eq_true] at this
  exact this.1
theorem recs_ten {rs : List Rec} (h : areRecs rs = true) : rs.length ≤ 10 := by
  simp only [areRecs, Bool.and_eq_true, decide_eq_true_eq] at h
  exact h.1
theorem drecRes_no {rs : List Rec} {t : List Ru} {d a : Int} {xs : List Int} {b : Bool} (h : drecRes rs t d a = (xs, b)) (hn : ¬ (areRecs rs = true ∧ isSch t = true ∧ (0 ≤ d ∧ d ≤ 20000) ∧ (1 ≤ a ∧ a ≤ 3))) : xs = [] ∧ b = false := by
  unfold drecRes at h; rw [if_neg hn] at h; obtain ⟨h1, h2⟩ := Prod.mk.inj h; exact ⟨h1.symm, h2.symm⟩
theorem drecRes_yes {rs : List Rec} {t : List Ru} {d a : Int} {xs : List Int} {b : Bool} (h : drecRes rs t d a = (xs, b)) (hn : areRecs rs = true ∧ isSch t = true ∧ (0 ≤ d ∧ d ≤ 20000) ∧ (1 ≤ a ∧ a ≤ 3)) : xs = hitF t d a rs ∧ b = true := by
  unfold drecRes at h; rw [if_pos hn] at h; obtain ⟨h1, h2⟩ := Prod.mk.inj h; exact ⟨h1.symm, h2.symm⟩
theorem notsRes_no {rs : List Rec} {t : List Ru} {xs : List Int} {b : Bool} (h : notsRes rs t = (xs, b)) (hn : ¬ (areRecs rs = true ∧ isSch t = true)) : xs = [] ∧ b = false := by
  unfold notsRes at h; rw [if_neg hn] at h; obtain ⟨h1, h2⟩ := Prod.mk.inj h; exact ⟨h1.symm, h2.symm⟩
theorem notsRes_yes {rs : List Rec} {t : List Ru} {xs : List Int} {b : Bool} (h : notsRes rs t = (xs, b)) (hn : areRecs rs = true ∧ isSch t = true) : xs = noneF t rs ∧ b = true := by
  unfold notsRes at h; rw [if_pos hn] at h; obtain ⟨h1, h2⟩ := Prod.mk.inj h; exact ⟨h1.symm, h2.symm⟩
/-- The due day with one more event. -/
def aftRes (r : Rec) (t : List Ru) (e : Ev) : Int × Bool := if isRec r = true ∧ isRec { r with evs := insEv r.evs e } = true then dueRes { r with evs := insEv r.evs e } t else (0, false)
theorem nextRes_no {rs : List Rec} {t : List Ru} {d x y : Int} {b : Bool} (h : nextRes rs t d = (x, y, b)) (hn : ¬ (areRecs rs = true ∧ isSch t = true ∧ (0 ≤ d ∧ d ≤ 20000) ∧ 0 ≤ (nextF t d rs 0 (-1)).2)) : x = 0 ∧ y = 0 ∧ b = false := by
  unfold nextRes at h; rw [if_neg hn] at h; obtain ⟨h1, h2⟩ := Prod.mk.inj h; obtain ⟨h2, h3⟩ := Prod.mk.inj h2; exact ⟨h1.symm, h2.symm, h3.symm⟩
end Go.Proofs.Ytenjajcknmfhfaa
