/- The records of which no copy is readable, as plain mathematics; the map of what is kept, as a datum. No program is named here. -/
import Derived.Test.YtcfghigmijibeaaFoM
import Derived.Maps.Own
import Derived.Lib.SlKeysI
namespace Go.Proofs.Ytcfghigmijibeaa
set_option linter.unusedVariables false
open Go.Maps

def recIn (cs : List Co) (r : Int) : Bool := cs.any (fun c => decide (c.rcd = r))
def keptB (t : List Fo) (d : Int) (cs : List Co) (r : Int) : Bool := cs.any (fun c => decide (c.rcd = r) && decide (d ≤ lastF t c.fmt))
theorem recIn_snoc (cs : List Co) (c : Co) (r : Int) : recIn (cs ++ [c]) r = (recIn cs r || decide (c.rcd = r)) := by simp [recIn]
theorem keptB_snoc (t : List Fo) (d : Int) (cs : List Co) (c : Co) (r : Int) : keptB t d (cs ++ [c]) r = (keptB t d cs r || (decide (c.rcd = r) && decide (d ≤ lastF t c.fmt))) := by simp [keptB]
theorem take_co {cs : List Co} {k : Nat} (h : k < cs.length) : cs.take (k + 1) = cs.take k ++ [cs.getD k coD] := by rw [List.take_succ_eq_append_getElem h, getCo_lt h]
theorem recIn_iff {cs : List Co} {r : Int} : recIn cs r = true ↔ ∃ c ∈ cs, c.rcd = r := by simp [recIn]
/-- The list behind one more copy. -/
def losStep (t : List Fo) (d : Int) (cs : List Co) (out : List Int) (c : Co) : List Int := if keptB t d cs c.rcd = false ∧ ¬ c.rcd ∈ out then out ++ [c.rcd] else out
def losF (t : List Fo) (d : Int) (cs : List Co) (n : Nat) : List Int := (cs.take n).foldl (losStep t d cs) []
theorem losF_succ (t : List Fo) (d : Int) {cs : List Co} {n : Nat} (h : n < cs.length) : losF t d cs (n + 1) = losStep t d cs (losF t d cs n) (cs.getD n coD) := by
  unfold losF
  rw [take_co h, List.foldl_append]
  rfl
theorem losF_len (t : List Fo) (d : Int) (cs : List Co) : ∀ n, n ≤ cs.length → (losF t d cs n).length ≤ n
  | 0, _ => by simp [losF]
  | n + 1, h => by
    have ih := losF_len t d cs n (by omega)
    rw [losF_succ t d (by omega)]
    unfold losStep
    split <;> simp <;> omega
def losAsk (t : List Fo) (cs : List Co) (d : Int) : Bool := areCo t cs && dayB d
def losRes (t : List Fo) (cs : List Co) (d : Int) : List Int × Bool := if losAsk t cs d then (losF t d cs cs.length, true) else ([], false)
theorem losRes_no {t : List Fo} {cs : List Co} {d : Int} {xs : List Int} {b : Bool} (h : losRes t cs d = (xs, b)) (hn : ¬ (areCo t cs = true ∧ dayB d = true)) : xs = [] ∧ b = false := by
  unfold losRes at h
  rw [if_neg (by simpa [losAsk] using hn)] at h
  exact ⟨(Prod.mk.inj h).1.symm, (Prod.mk.inj h).2.symm⟩
theorem losRes_yes {t : List Fo} {cs : List Co} {d : Int} {xs : List Int} {b : Bool} (h : losRes t cs d = (xs, b)) (hn : areCo t cs = true ∧ dayB d = true) : xs = losF t d cs cs.length ∧ b = true := by
  unfold losRes at h
  rw [if_pos (by simpa [losAsk] using hn)] at h
  exact ⟨(Prod.mk.inj h).1.symm, (Prod.mk.inj h).2.symm⟩
theorem losRes_len {t : List Fo} {cs : List Co} {d : Int} {xs : List Int} {b : Bool} (h : losRes t cs d = (xs, b)) : xs.length ≤ cs.length := by
  unfold losRes at h
  split at h
  · rw [← (Prod.mk.inj h).1]; exact losF_len t d cs _ (Nat.le_refl _)
  · rw [← (Prod.mk.inj h).1]; simp
theorem co_rcd_le {t : List Fo} {cs : List Co} (h : areCo t cs = true) : ∀ (e i : Nat), i + e < cs.length → (cs.getD i coD).rcd ≤ (cs.getD (i + e) coD).rcd
  | 0, i, _ => Int.le_refl _
  | e + 1, i, hd => by
    have h1 := co_rcd_le h e i (by omega)
    have h2 := coBef_iff.1 (co_at h (i := i + (e + 1)) hd).2
    rw [show i + (e + 1) = i + e + 1 by omega] at h2 ⊢
    simp only [prevCo] at h2
    omega
theorem losF_mem (t : List Fo) (d : Int) (cs : List Co) : ∀ n, n ≤ cs.length → ∀ r, r ∈ losF t d cs n ↔ (recIn (cs.take n) r = true ∧ keptB t d cs r = false)
  | 0, _, r => by simp [losF, recIn]
  | n + 1, h, r => by
    have ih := losF_mem t d cs n (by omega)
    rw [losF_succ t d (by omega), take_co (by omega), recIn_snoc]
    obtain ⟨c, hc⟩ : ∃ c, cs.getD n coD = c := ⟨_, rfl⟩
    rw [hc]
    unfold losStep
    by_cases hk : keptB t d cs c.rcd = false ∧ ¬ c.rcd ∈ losF t d cs n
    · rw [if_pos hk, List.mem_append, List.mem_singleton, ih r]
      simp only [Bool.or_eq_true, decide_eq_true_eq]
      constructor
      · rintro (⟨a, b⟩ | rfl)
        · exact ⟨.inl a, b⟩
        · exact ⟨.inr rfl, hk.1⟩
      · rintro ⟨a | a, b⟩
        · exact .inl ⟨a, b⟩
        · exact .inr a.symm
    · rw [if_neg hk, ih r]
      simp only [Bool.or_eq_true, decide_eq_true_eq]
      refine ⟨fun ⟨a, b⟩ => ⟨.inl a, b⟩, fun ⟨a, b⟩ => ?_⟩
      rcases a with a | a
      · exact ⟨a, b⟩
      · subst a
        exact (ih c.rcd).1 (Classical.not_not.1 (fun q => hk ⟨b, q⟩))
theorem losF_rising {t : List Fo} {cs : List Co} (ht : areCo t cs = true) (d : Int) : ∀ n, n ≤ cs.length → (losF t d cs n).Pairwise (· < ·)
  | 0, _ => by simp [losF]
  | n + 1, h => by
    have ih := losF_rising ht d n (by omega)
    rw [losF_succ t d (by omega)]
    unfold losStep
    split
    · rename_i hk
      rw [List.pairwise_append]
      refine ⟨ih, by simp, fun a ha b hb => ?_⟩
      rw [List.mem_singleton.1 hb]
      obtain ⟨c, hc, e⟩ := recIn_iff.1 ((losF_mem t d cs n (by omega) a).1 ha).1
      obtain ⟨i, hi, rfl⟩ := List.mem_take_iff_getElem.1 hc
      have hle := co_rcd_le ht (n - i) i (by omega)
      rw [show i + (n - i) = n by omega, getCo_lt (show i < cs.length by omega), e] at hle
      have hne : a ≠ (cs.getD n coD).rcd := fun q => hk.2 (by rw [← q]; exact ha)
      omega
    · exact ih

/-- Two rising lists with the same members are the same. -/
theorem rising_same : ∀ (l m : List Int), l.Pairwise (· < ·) → m.Pairwise (· < ·) → (∀ x, x ∈ l ↔ x ∈ m) → l = m
  | [], [], _, _, _ => rfl
  | [], b :: m, _, _, h => absurd ((h b).2 (by simp)) (by simp)
  | a :: l, [], _, _, h => absurd ((h a).1 (by simp)) (by simp)
  | a :: l, b :: m, hl, hm, h => by
    rw [List.pairwise_cons] at hl hm
    have hab : a = b := by
      rcases List.mem_cons.1 ((h a).1 (by simp)) with e | e
      · exact e
      · rcases List.mem_cons.1 ((h b).2 (by simp)) with e2 | e2
        · exact e2.symm
        · have := hm.1 a e
          have := hl.1 b e2
          omega
    subst hab
    rw [rising_same l m hl.2 hm.2 fun x => ?_]
    constructor
    · intro hx
      rcases List.mem_cons.1 ((h x).1 (List.mem_cons_of_mem _ hx)) with e | e
      · subst e; exact absurd (hl.1 x hx) (by omega)
      · exact e
    · intro hx
      rcases List.mem_cons.1 ((h x).2 (List.mem_cons_of_mem _ hx)) with e | e
      · subst e; exact absurd (hm.1 x hx) (by omega)
      · exact e
theorem mem_insertK (x p : Lit × DataW Unit) : ∀ l : List (Lit × DataW Unit), p ∈ DataW.insert x l ↔ p = x ∨ p ∈ l
  | [] => by simp [DataW.insert]
  | y :: r => by
    unfold DataW.insert
    split
    · simp
    · rw [List.mem_cons, mem_insertK x p r, List.mem_cons]
      constructor
      · rintro (h | h | h)
        · exact .inr (.inl h)
        · exact .inl h
        · exact .inr (.inr h)
      · rintro (h | h | h)
        · exact .inr (.inl h)
        · exact .inl h
        · exact .inr (.inr h)
/-- A map with int keys: which keys it has. -/
structure IntKeyed (D : DataW Unit) (inn : Int → Bool) : Prop where
  tidy : Tidy D
  keys : ∀ es, D = .map es → ∀ p ∈ es, ∃ s : Int, p.1 = .int .i64 s
  has_ : ∀ s : Int, has D (.int .i64 s) = inn s
theorem IntKeyed.empty : IntKeyed (.map []) (fun _ => false) := ⟨tidy_empty, (fun es e p hp => by cases e; cases hp), fun s => by simp [has_eq]⟩
theorem IntKeyed.put {D : DataW Unit} {inn : Int → Bool} (h : IntKeyed D inn) (r : Int) (v : DataW Unit) : IntKeyed (D.put (.int .i64 r) v) (fun s => inn s || decide (r = s)) := by
  have hk : WideAt.IsKeyLit (.int .i64 r) := trivial
  obtain ⟨es0, hes⟩ := h.tidy.isMap
  refine ⟨h.tidy.put hk _, fun es e p hp => ?_, fun s => ?_⟩
  · subst hes
    simp only [DataW.put, DataW.map.injEq] at e
    subst e
    rcases (mem_insertK _ _ _).1 hp with rfl | hp
    · exact ⟨_, rfl⟩
    · exact h.keys es0 rfl p (List.mem_filter.1 hp).1
  · by_cases e : r = s
    · subst e
      rw [has_put_same h.tidy.isMap hk]; simp
    · rw [has_put_other (by simp; exact fun q => e q.symm), h.has_]; simp [e]
theorem IntKeyed.mem {D : DataW Unit} {inn : Int → Bool} (h : IntKeyed D inn) (s : Int) : s ∈ intKeys D ↔ inn s = true := by
  have h1 := h.has_ s
  obtain ⟨es, rfl⟩ := h.tidy.isMap
  rw [has_eq] at h1
  rw [← h1, List.any_eq_true]
  simp only [intKeys, List.mem_map]
  constructor
  · rintro ⟨p, hp, e⟩
    obtain ⟨z, hz⟩ := h.keys es rfl p hp
    refine ⟨p, hp, ?_⟩
    rw [hz] at e ⊢
    have e' : z = s := e
    subst e'
    simp [Lit.sameKey]
  · rintro ⟨p, hp, e⟩
    obtain ⟨z, hz⟩ := h.keys es rfl p hp
    refine ⟨p, hp, ?_⟩
    rw [hz] at e ⊢
    simp [Lit.sameKey] at e
    exact e
theorem IntKeyed.nodup {D : DataW Unit} {inn : Int → Bool} (h : IntKeyed D inn) : (intKeys D).Nodup := by
  obtain ⟨es, rfl, hp⟩ := h.tidy
  have hk := h.keys es rfl
  clear h
  simp only [intKeys]
  unfold List.Nodup
  rw [List.pairwise_map]
  refine hp.imp_of_mem fun {a b} ha hb hne e => hne ?_
  obtain ⟨x, hx⟩ := hk a ha
  obtain ⟨y, hy⟩ := hk b hb
  rw [hx, hy] at e ⊢
  have e' : x = y := e
  rw [e']
/-- Its keys in order: rising, and just those that it has. -/
theorem IntKeyed.sorted {D : DataW Unit} {inn : Int → Bool} (h : IntKeyed D inn) {ss : List Int} (hs : ss.Perm (intKeys D)) :
    (ss.mergeSort (fun x y => decide (x ≤ y))).Pairwise (· < ·) ∧ ∀ s, s ∈ ss.mergeSort (fun x y => decide (x ≤ y)) ↔ inn s = true := by
  have hp := List.mergeSort_perm ss (fun x y => decide (x ≤ y))
  have hle := List.pairwise_mergeSort (le := fun x y : Int => decide (x ≤ y)) (fun a b c h1 h2 => by simp at *; omega) (fun a b => by simp; omega) ss
  have hnd : (ss.mergeSort (fun x y => decide (x ≤ y))).Nodup := (hp.trans hs).nodup_iff.2 h.nodup
  refine ⟨?_, fun s => by rw [(hp.trans hs).mem_iff, h.mem]⟩
  have := hle.and hnd
  exact this.imp fun {a b} ⟨h1, h2⟩ => by
    have h1' : a ≤ b := by simpa using h1
    have h2' : a ≠ b := h2
    omega

/-- The datum tells, of the copies, which records are kept. -/
structure KOK (t : List Fo) (d : Int) (D : DataW Unit) (cs : List Co) : Prop where
  ik : IntKeyed D (recIn cs)
  look : ∀ s : Int, D.atKey (.int .i64 s) (.lit (.bool false)) = .lit (.bool (keptB t d cs s))
  size_ : size D ≤ cs.length
theorem KOK.empty (t : List Fo) (d : Int) : KOK t d (.map []) [] := ⟨(show recIn [] = fun _ => false from funext fun s => rfl) ▸ IntKeyed.empty, fun s => rfl, Nat.le_refl _⟩
theorem KOK.put {t : List Fo} {d : Int} {D : DataW Unit} {cs : List Co} (h : KOK t d D cs) (c : Co) {v : Bool} (hv : v = (keptB t d cs c.rcd || decide (d ≤ lastF t c.fmt))) : KOK t d (D.put (.int .i64 c.rcd) (.lit (.bool v))) (cs ++ [c]) := by
  have hk : WideAt.IsKeyLit (.int .i64 c.rcd) := trivial
  subst hv
  refine ⟨?_, fun s => ?_, ?_⟩
  · have := h.ik.put c.rcd (.lit (.bool (keptB t d cs c.rcd || decide (d ≤ lastF t c.fmt))))
    have e : recIn (cs ++ [c]) = fun s => recIn cs s || decide (c.rcd = s) := funext fun s => recIn_snoc _ _ _
    rw [e]; exact this
  · rw [keptB_snoc]
    by_cases e : c.rcd = s
    · subst e
      rw [atKey_put_same h.ik.tidy.isMap hk]; simp
    · rw [atKey_put_other (by simp; exact fun q => e q.symm), h.look]; simp [e]
  · rw [size_put h.ik.tidy, List.length_append]
    have := h.size_
    split <;> simp <;> omega
/-- The keys in order without those that are kept. -/
def noKept (t : List Fo) (d : Int) (cs : List Co) (L : List Int) : List Int := L.filter (fun r => !keptB t d cs r)
theorem noKept_all {t : List Fo} {d : Int} {cs : List Co} (ht : areCo t cs = true) {L : List Int} (h1 : L.Pairwise (· < ·)) (h2 : ∀ s, s ∈ L ↔ recIn cs s = true) : noKept t d cs L = losF t d cs cs.length := by
  refine rising_same _ _ (h1.filter _) (losF_rising ht d _ (Nat.le_refl _)) fun x => ?_
  unfold noKept
  rw [List.mem_filter, h2, losF_mem t d cs _ (Nat.le_refl _), List.take_length]
  simp
theorem noKept_succ (t : List Fo) (d : Int) (cs : List Co) {L : List Int} {k : Nat} (h : k < L.length) : noKept t d cs (L.take (k + 1)) = if keptB t d cs L[k] = true then noKept t d cs (L.take k) else noKept t d cs (L.take k) ++ [L[k]] := by
  unfold noKept
  rw [List.take_succ_eq_append_getElem h, List.filter_append]
  by_cases q : keptB t d cs L[k] = true
  · rw [if_pos q]; simp [q]
  · rw [if_neg q]; simp [q]
theorem noKept_len (t : List Fo) (d : Int) (cs : List Co) (L : List Int) : (noKept t d cs L).length ≤ L.length := List.length_filter_le _ _
end Go.Proofs.Ytcfghigmijibeaa
