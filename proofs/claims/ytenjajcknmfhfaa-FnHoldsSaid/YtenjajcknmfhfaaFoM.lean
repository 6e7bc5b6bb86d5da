/- What a list of formats and a list of copies are, and what the functions of formats answer, as plain mathematics. No program is named here. -/
import Derived.Test.YtenjajcknmfhfaaIdxM
import Derived.Test.YtenjajcknmfhfaaWordM
import Derived.Test.YtenjajcknmfhfaaOpen
namespace Go.Proofs.Ytenjajcknmfhfaa
set_option linter.unusedVariables false

structure Fo where
  id : Int
  name : ByteArray
  til : Int
  reads : List Int
  deriving DecidableEq
def foD : Fo := ⟨0, ⟨#[]⟩, 0, []⟩
theorem getFo_lt {xs : List Fo} {i : Nat} (h : i < xs.length) : xs.getD i foD = xs[i] := by simp [List.getD, List.getElem?_eq_getElem h]
structure Co where
  rcd : Int
  fmt : Int
  size : Int
  seen : Int
  deriving DecidableEq
def coD : Co := ⟨0, 0, 0, 0⟩
theorem getCo_lt {xs : List Co} {i : Nat} (h : i < xs.length) : xs.getD i coD = xs[i] := by simp [List.getD, List.getElem?_eq_getElem h]

def hasId (t : List Fo) (x : Int) : Bool := t.any (fun f => decide (f.id = x))
def foI (t : List Fo) (x : Int) : Int := gIdx (fun f => decide (f.id = x)) t
theorem foI_neg (t : List Fo) (x : Int) : decide (foI t x < 0) = !hasId t x := gIdx_neg _ _
theorem foI_lt {t : List Fo} {x : Int} (h : hasId t x = false) : foI t x = -1 := by
  rcases gIdx_cases foD (fun f => decide (f.id = x)) t with ⟨h1, _⟩ | ⟨k, h1, h2, h3, _⟩
  · exact h1
  · have : hasId t x = true := List.any_eq_true.2 ⟨t[k], List.getElem_mem h2, by rwa [getFo_lt h2] at h3⟩
    rw [h] at this; cases this
theorem foI_at {t : List Fo} {x : Int} (h : hasId t x = true) : ∃ k : Nat, foI t x = (k : Int) ∧ k < t.length ∧ (t.getD k foD).id = x := by
  rcases gIdx_cases foD (fun f => decide (f.id = x)) t with ⟨h1, h2⟩ | ⟨k, h1, h2, h3, _⟩
  · obtain ⟨f, hf, he⟩ := List.any_eq_true.1 h
    obtain ⟨i, hi, rfl⟩ := List.getElem_of_mem hf
    have := h2 i hi
    rw [getFo_lt hi] at this
    rw [this] at he; cases he
  · exact ⟨k, h1, h2, of_decide_eq_true h3⟩

/-- Rising numbers within bounds. -/
def risAt (lo hi : Int) (xs : List Int) (i : Nat) : Bool := decide (lo ≤ xs.getD i 0 ∧ xs.getD i 0 ≤ hi) && (decide (i = 0) || decide (xs.getD (i - 1) 0 < xs.getD i 0))
def risB (lo hi : Int) (xs : List Int) : Bool := upto (risAt lo hi xs) xs.length
def twinN (t : List Fo) (s : ByteArray) : Bool := t.any (fun g => decide (g.name = s))
theorem twinN_iff {t : List Fo} {s : ByteArray} : twinN t s = true ↔ ∃ g ∈ t, g.name = s := by simp [twinN]
/-- A format by itself, as the model asks. -/
def foOne (f : Fo) : Bool := decide (1 ≤ f.id ∧ f.id ≤ 50) && (isWord f.name && (decide (0 ≤ f.til ∧ f.til ≤ 20000) && (decide (f.reads.length ≤ 10) && risB 1 50 f.reads)))
def prevFo (t : List Fo) : Nat → Int
  | 0 => 0
  | j + 1 => (t.getD j foD).id
def foundAll (t : List Fo) (f : Fo) : Bool := f.reads.all (fun x => hasId t x)
def foAtB (t : List Fo) (i : Nat) : Bool := foOne (t.getD i foD) && ((decide (i = 0) || decide (prevFo t i < (t.getD i foD).id)) && (!decide ((t.getD i foD).id ∈ (t.getD i foD).reads) && (!twinN (t.take i) (t.getD i foD).name && foundAll t (t.getD i foD))))
def areFo (t : List Fo) : Bool := decide (t.length ≤ 10) && upto (foAtB t) t.length
theorem fo_long {t : List Fo} (h : ¬ t.length ≤ 10) : areFo t = false := by unfold areFo; rw [decide_eq_false h]; rfl
theorem notFo {t : List Fo} {k : Nat} (hk : k < t.length) (h : foAtB t k = false) : areFo t = false := by unfold areFo; rw [upto_false hk h]; simp
theorem fo_all {t : List Fo} (h : t.length ≤ 10) (hu : upto (foAtB t) t.length = true) : areFo t = true := by unfold areFo; rw [decide_eq_true h, hu]; rfl
theorem fo_iff {t : List Fo} : areFo t = true ↔ t.length ≤ 10 ∧ ∀ i, i < t.length → foAtB t i = true := by simp [areFo, upto_iff]
theorem fo_upto {t : List Fo} (hu : upto (foAtB t) t.length = true) : areFo t = decide (t.length ≤ 10) := by unfold areFo; rw [hu]; simp
/-- What the program asks of the numbers that a format reads: the i-th one. -/
def rdAt (t : List Fo) (f : Fo) (i : Nat) : Bool := decide ((if i = 0 then 0 else f.reads.getD (i - 1) 0) < f.reads.getD i 0) && (!decide (f.reads.getD i 0 = f.id) && hasId t (f.reads.getD i 0))
def rdsB (t : List Fo) (f : Fo) : Bool := upto (rdAt t f) f.reads.length
/-- What the program asks of the i-th format. -/
def pAt (t : List Fo) (i : Nat) : Bool := decide (prevFo t i < (t.getD i foD).id) && (decide ((t.getD i foD).id ≤ 50) && (isWord (t.getD i foD).name && (decide (0 ≤ (t.getD i foD).til ∧ (t.getD i foD).til ≤ 20000) && (!twinN (t.take i) (t.getD i foD).name && rdsB t (t.getD i foD)))))

theorem foAt_iff {t : List Fo} {i : Nat} {f : Fo} (hx : t.getD i foD = f) : foAtB t i = true ↔ ((1 ≤ f.id ∧ f.id ≤ 50) ∧ isWord f.name = true ∧ (0 ≤ f.til ∧ f.til ≤ 20000) ∧ f.reads.length ≤ 10 ∧ risB 1 50 f.reads = true) ∧ (i = 0 ∨ prevFo t i < f.id) ∧ ¬ f.id ∈ f.reads ∧ twinN (t.take i) f.name = false ∧ foundAll t f = true := by
  subst hx
  simp only [foAtB, foOne, Bool.and_eq_true, Bool.or_eq_true, decide_eq_true_eq, Bool.not_eq_true', decide_eq_false_iff_not]
theorem pAt_iff {t : List Fo} {i : Nat} {f : Fo} (hx : t.getD i foD = f) : pAt t i = true ↔ prevFo t i < f.id ∧ f.id ≤ 50 ∧ isWord f.name = true ∧ (0 ≤ f.til ∧ f.til ≤ 20000) ∧ twinN (t.take i) f.name = false ∧ rdsB t f = true := by
  subst hx
  simp only [pAt, Bool.and_eq_true, decide_eq_true_eq, Bool.not_eq_true']
theorem ris_iff {lo hi : Int} {xs : List Int} : risB lo hi xs = true ↔ ∀ i, i < xs.length → (lo ≤ xs.getD i 0 ∧ xs.getD i 0 ≤ hi) ∧ (i = 0 ∨ xs.getD (i - 1) 0 < xs.getD i 0) := by
  simp [risB, upto_iff, risAt]
theorem rds_iff {t : List Fo} {f : Fo} : rdsB t f = true ↔ ∀ i, i < f.reads.length → (if i = 0 then 0 else f.reads.getD (i - 1) 0) < f.reads.getD i 0 ∧ ¬ f.reads.getD i 0 = f.id ∧ hasId t (f.reads.getD i 0) = true := by
  simp [rdsB, upto_iff, rdAt]
theorem getI_lt {xs : List Int} {i : Nat} (h : i < xs.length) : xs.getD i 0 = xs[i] := by simp [List.getD, List.getElem?_eq_getElem h]
theorem all_getD {xs : List Int} {p : Int → Bool} : xs.all p = true ↔ ∀ i, i < xs.length → p (xs.getD i 0) = true := by
  rw [List.all_eq_true]
  constructor
  · intro h i hi; rw [getI_lt hi]; exact h _ (List.getElem_mem hi)
  · intro h x hx
    obtain ⟨i, hi, rfl⟩ := List.getElem_of_mem hx
    rw [← getI_lt hi]; exact h i hi
theorem asc_lt {xs : List Int} (h : ∀ i, i < xs.length → i = 0 ∨ xs.getD (i - 1) 0 < xs.getD i 0) : ∀ (d i : Nat), i + d + 1 < xs.length → xs.getD i 0 < xs.getD (i + d + 1) 0
  | 0, i, hd => by have := h (i + 1) (by omega); simpa using this
  | d + 1, i, hd => by
    have h1 := asc_lt h d i (by omega)
    have h2 := (h (i + d + 1 + 1) (by omega)).resolve_left (by omega)
    rw [show i + d + 1 + 1 - 1 = i + d + 1 by omega] at h2
    rw [show i + (d + 1) + 1 = i + d + 1 + 1 by omega]
    omega
theorem asc_nodup {xs : List Int} (h : ∀ i, i < xs.length → i = 0 ∨ xs.getD (i - 1) 0 < xs.getD i 0) : xs.Nodup := by
  rw [List.nodup_iff_pairwise_ne, List.pairwise_iff_getElem]
  intro i j hi hj hij e
  have h1 := asc_lt h (j - i - 1) i (by omega)
  rw [show i + (j - i - 1) + 1 = j by omega, getI_lt hi, getI_lt hj] at h1
  omega
theorem hasId_mem {t : List Fo} {x : Int} : hasId t x = true ↔ x ∈ t.map Fo.id := by simp [hasId]
theorem hasId_at {t : List Fo} {x : Int} (h : hasId t x = true) : ∃ i, i < t.length ∧ (t.getD i foD).id = x := by
  obtain ⟨k, _, h1, h2⟩ := foI_at h
  exact ⟨k, h1, h2⟩

/-- Formats that the model takes, the program takes. -/
theorem pAt_of {t : List Fo} (h : areFo t = true) {k : Nat} (hk : k < t.length) : pAt t k = true := by
  have ha := (fo_iff.1 h).2
  obtain ⟨⟨h1, h2, h3, h4, h5⟩, h6, h7, h8, h9⟩ := (foAt_iff rfl).1 (ha k hk)
  refine (pAt_iff rfl).2 ⟨?_, h1.2, h2, h3, h8, ?_⟩
  · rcases h6 with rfl | h6
    · exact h1.1
    · exact h6
  · rw [rds_iff]
    intro i hi
    obtain ⟨q1, q2⟩ := ris_iff.1 h5 i hi
    refine ⟨?_, ?_, all_getD.1 h9 i hi⟩
    · split
      · omega
      · rename_i hi0; exact q2.resolve_left hi0
    · intro e
      exact h7 (by rw [← e, getI_lt hi]; exact List.getElem_mem hi)
theorem areFo_no {t : List Fo} {k : Nat} (hk : k < t.length) (h : pAt t k = false) : areFo t = false := by
  rcases hb : areFo t with _ | _
  · rfl
  · rw [pAt_of hb hk] at h; cases h
/-- Formats that the program takes, the model takes. -/
theorem areFo_yes {t : List Fo} (hl : t.length ≤ 10) (h : upto (pAt t) t.length = true) : areFo t = true := by
  have hp := fun i hi => (pAt_iff (t := t) (i := i) rfl).1 (upto_iff.1 h i hi)
  have hpos : ∀ i, i < t.length → 1 ≤ (t.getD i foD).id := by
    intro i
    induction i with
    | zero => intro hi; have := (hp 0 hi).1; simp only [prevFo] at this; omega
    | succ i ih => intro hi; have h1 := (hp (i + 1) hi).1; have h2 := ih (by omega); simp only [prevFo] at h1; omega
  have hid : ∀ x, hasId t x = true → 1 ≤ x ∧ x ≤ 50 := by
    intro x hx
    obtain ⟨i, hi, rfl⟩ := hasId_at hx
    exact ⟨hpos i hi, (hp i hi).2.1⟩
  refine fo_all hl (upto_true fun i hi => ?_)
  obtain ⟨q1, q2, q3, q4, q5, q6⟩ := hp i hi
  have hr := rds_iff.1 q6
  have hasc : ∀ j, j < (t.getD i foD).reads.length → j = 0 ∨ (t.getD i foD).reads.getD (j - 1) 0 < (t.getD i foD).reads.getD j 0 := by
    intro j hj
    have := (hr j hj).1
    split at this
    · exact .inl (by assumption)
    · exact .inr this
  refine (foAt_iff rfl).2 ⟨⟨⟨hpos i hi, q2⟩, q3, q4, ?_, ?_⟩, ?_, ?_, q5, ?_⟩
  · have := nodup_len _ (t.map Fo.id) (asc_nodup hasc) (fun x hx => by
      obtain ⟨j, hj, rfl⟩ := List.getElem_of_mem hx
      rw [← hasId_mem, ← getI_lt hj]; exact (hr j hj).2.2)
    rw [List.length_map] at this
    omega
  · exact ris_iff.2 fun j hj => ⟨hid _ (hr j hj).2.2, hasc j hj⟩
  · exact .inr q1
  · intro hm
    obtain ⟨j, hj, e⟩ := List.getElem_of_mem hm
    rw [← getI_lt hj] at e
    exact (hr j hj).2.1 e
  · exact all_getD.2 fun j hj => (hr j hj).2.2

/-- The last day on which a format is readable. -/
def lastStep (x : Int) (m : Int) (f : Fo) : Int := if x ∈ f.reads then max m f.til else m
def lastF (t : List Fo) (x : Int) : Int := t.foldl (lastStep x) (t.getD (foI t x).toNat foD).til
theorem last_succ {t : List Fo} {k : Nat} (hk : k < t.length) (x m : Int) : (t.take (k + 1)).foldl (lastStep x) m = lastStep x ((t.take k).foldl (lastStep x) m) (t.getD k foD) := by
  rw [List.take_succ_eq_append_getElem hk, List.foldl_append, getFo_lt hk]
  rfl
def lastFoRes (t : List Fo) (x : Int) : Int × Bool := if areFo t && hasId t x then (lastF t x, true) else (0, false)
theorem lastFoRes_no {t : List Fo} {x n : Int} {b : Bool} (h : lastFoRes t x = (n, b)) (hn : ¬ (areFo t = true ∧ hasId t x = true)) : n = 0 ∧ b = false := by
  unfold lastFoRes at h
  rw [if_neg (by simpa using hn)] at h
  exact ⟨(Prod.mk.inj h).1.symm, (Prod.mk.inj h).2.symm⟩
theorem lastFoRes_yes {t : List Fo} {x n : Int} {b : Bool} (h : lastFoRes t x = (n, b)) (hn : areFo t = true ∧ hasId t x = true) : n = lastF t x ∧ b = true := by
  unfold lastFoRes at h
  rw [if_pos (by simpa using hn)] at h
  exact ⟨(Prod.mk.inj h).1.symm, (Prod.mk.inj h).2.symm⟩
def dayB (d : Int) : Bool := decide (0 ≤ d ∧ d ≤ 20000)
def readFoRes (t : List Fo) (x d : Int) : Bool × Bool := if areFo t && (hasId t x && dayB d) then (decide (d ≤ lastF t x), true) else (false, false)
theorem readFoRes_no {t : List Fo} {x d : Int} {n b : Bool} (h : readFoRes t x d = (n, b)) (hn : ¬ (areFo t = true ∧ hasId t x = true ∧ dayB d = true)) : n = false ∧ b = false := by
  unfold readFoRes at h
  rw [if_neg (by simpa using hn)] at h
  exact ⟨(Prod.mk.inj h).1.symm, (Prod.mk.inj h).2.symm⟩
theorem readFoRes_yes {t : List Fo} {x d : Int} {n b : Bool} (h : readFoRes t x d = (n, b)) (hn : areFo t = true ∧ hasId t x = true ∧ dayB d = true) : n = decide (d ≤ lastF t x) ∧ b = true := by
  unfold readFoRes at h
  rw [if_pos (by simpa using hn)] at h
  exact ⟨(Prod.mk.inj h).1.symm, (Prod.mk.inj h).2.symm⟩

/-- Copies. -/
def coOne (t : List Fo) (c : Co) : Bool := decide (1 ≤ c.rcd ∧ c.rcd ≤ 999) && (hasId t c.fmt && (decide (1 ≤ c.size ∧ c.size ≤ 1000000) && decide (0 ≤ c.seen ∧ c.seen ≤ 20000)))
def coBef (a b : Co) : Bool := decide (a.rcd < b.rcd ∨ (a.rcd = b.rcd ∧ a.fmt < b.fmt))
def prevCo (cs : List Co) : Nat → Co
  | 0 => coD
  | j + 1 => cs.getD j coD
def coAtB (t : List Fo) (cs : List Co) (i : Nat) : Bool := coOne t (cs.getD i coD) && coBef (prevCo cs i) (cs.getD i coD)
def areCo (t : List Fo) (cs : List Co) : Bool := areFo t && (decide (cs.length ≤ 15) && upto (coAtB t cs) cs.length)
theorem coOne_iff {t : List Fo} {c : Co} : coOne t c = true ↔ (1 ≤ c.rcd ∧ c.rcd ≤ 999) ∧ hasId t c.fmt = true ∧ (1 ≤ c.size ∧ c.size ≤ 1000000) ∧ (0 ≤ c.seen ∧ c.seen ≤ 20000) := by
  simp only [coOne, Bool.and_eq_true, decide_eq_true_eq]
theorem co_iff {t : List Fo} {cs : List Co} : areCo t cs = true ↔ areFo t = true ∧ cs.length ≤ 15 ∧ ∀ i, i < cs.length → coAtB t cs i = true := by simp [areCo, upto_iff]
theorem coBef_first {c : Co} (h : 1 ≤ c.rcd) : coBef coD c = true := by unfold coBef coD; simp only [decide_eq_true_eq]; omega
theorem co_at {t : List Fo} {cs : List Co} (h : areCo t cs = true) {i : Nat} (hi : i < cs.length) : coOne t (cs.getD i coD) = true ∧ coBef (prevCo cs i) (cs.getD i coD) = true := by
  have := (co_iff.1 h).2.2 i hi
  simpa [coAtB] using this
theorem notCo {t : List Fo} {cs : List Co} {k : Nat} (hk : k < cs.length) (h : coAtB t cs k = false) : areCo t cs = false := by
  rcases hb : areCo t cs with _ | _
  · rfl
  · have := (co_iff.1 hb).2.2 k hk; rw [h] at this; cases this
theorem coAt_iff {t : List Fo} {cs : List Co} {k : Nat} {c : Co} (hx : cs.getD k coD = c) : coAtB t cs k = true ↔ coOne t c = true ∧ coBef (prevCo cs k) c = true := by
  subst hx; simp [coAtB]
theorem co_upto {t : List Fo} {cs : List Co} (hu : upto (coAtB t cs) cs.length = true) : areCo t cs = (areFo t && decide (cs.length ≤ 15)) := by unfold areCo; rw [hu]; simp
theorem coBef_iff {a b : Co} : coBef a b = true ↔ (a.rcd < b.rcd ∨ (a.rcd = b.rcd ∧ a.fmt < b.fmt)) := by simp [coBef]

/-- Copies not seen for longer. -/
def unsB (d ds : Int) (c : Co) : Bool := decide (ds < d - c.seen)
def unsF (cs : List Co) (d ds : Int) (n : Nat) : List Int := ((List.range n).filter (fun i => unsB d ds (cs.getD i coD))).map (fun i => ((i : Nat) : Int))
theorem unsF_succ (cs : List Co) (d ds : Int) (n : Nat) : unsF cs d ds (n + 1) = if unsB d ds (cs.getD n coD) = true then unsF cs d ds n ++ [(n : Int)] else unsF cs d ds n := by
  unfold unsF
  rw [List.range_succ, List.filter_append, List.map_append]
  by_cases h : unsB d ds (cs.getD n coD) = true
  · rw [if_pos h]; simp only [List.filter_cons, h, List.filter_nil, if_true]; simp
  · rw [if_neg h]; simp only [List.filter_cons, h, List.filter_nil]; simp
theorem unsF_len (cs : List Co) (d ds : Int) (n : Nat) : (unsF cs d ds n).length ≤ n := by
  unfold unsF
  rw [List.length_map]
  have := List.length_filter_le (fun i => unsB d ds (cs.getD i coD)) (List.range n)
  rwa [List.length_range] at this
def unsAsk (t : List Fo) (cs : List Co) (d ds : Int) : Bool := areCo t cs && (dayB d && dayB ds)
def unsRes (t : List Fo) (cs : List Co) (d ds : Int) : List Int × Bool := if unsAsk t cs d ds && cs.all (fun c => decide (c.seen ≤ d)) then (unsF cs d ds cs.length, true) else ([], false)
theorem unsRes_no {t : List Fo} {cs : List Co} {d ds : Int} {xs : List Int} {b : Bool} (h : unsRes t cs d ds = (xs, b)) (hn : ¬ (areCo t cs = true ∧ dayB d = true ∧ dayB ds = true)) : xs = [] ∧ b = false := by
  unfold unsRes at h
  rw [if_neg (by simp only [unsAsk, Bool.and_eq_true]; exact fun k => hn ⟨k.1.1, k.1.2.1, k.1.2.2⟩)] at h
  exact ⟨(Prod.mk.inj h).1.symm, (Prod.mk.inj h).2.symm⟩
theorem unsRes_seen {t : List Fo} {cs : List Co} {d ds : Int} {xs : List Int} {b : Bool} {k : Nat} (h : unsRes t cs d ds = (xs, b)) (hk : k < cs.length) (hs : d < (cs.getD k coD).seen) : xs = [] ∧ b = false := by
  unfold unsRes at h
  rw [if_neg (by
    simp only [Bool.and_eq_true, List.all_eq_true, decide_eq_true_eq]
    intro hh
    have := hh.2 cs[k] (List.getElem_mem hk)
    rw [getCo_lt hk] at hs
    omega)] at h
  exact ⟨(Prod.mk.inj h).1.symm, (Prod.mk.inj h).2.symm⟩
theorem unsRes_yes {t : List Fo} {cs : List Co} {d ds : Int} {xs : List Int} {b : Bool} (h : unsRes t cs d ds = (xs, b)) (hn : areCo t cs = true ∧ dayB d = true ∧ dayB ds = true) (hs : ∀ i, i < cs.length → (cs.getD i coD).seen ≤ d) : xs = unsF cs d ds cs.length ∧ b = true := by
  unfold unsRes at h
  rw [if_pos (by
    simp only [unsAsk, Bool.and_eq_true, List.all_eq_true, decide_eq_true_eq]
    refine ⟨⟨hn.1, hn.2.1, hn.2.2⟩, fun c hc => ?_⟩
    obtain ⟨i, hi, rfl⟩ := List.getElem_of_mem hc
    have := hs i hi
    rwa [getCo_lt hi] at this)] at h
  exact ⟨(Prod.mk.inj h).1.symm, (Prod.mk.inj h).2.symm⟩
theorem unsRes_len {t : List Fo} {cs : List Co} {d ds : Int} {xs : List Int} {b : Bool} (h : unsRes t cs d ds = (xs, b)) : xs.length ≤ cs.length := by
  unfold unsRes at h
  split at h
  · rw [← (Prod.mk.inj h).1]; exact unsF_len _ _ _ _
  · rw [← (Prod.mk.inj h).1]; simp

/-- The sum of the sizes of the copies in a format. -/
def sumC (cs : List Co) (x : Int) : Int := (cs.map (fun c => if c.fmt = x then c.size else 0)).sum
theorem sumC_succ {cs : List Co} {k : Nat} (hk : k < cs.length) (x : Int) : sumC (cs.take (k + 1)) x = sumC (cs.take k) x + (if (cs.getD k coD).fmt = x then (cs.getD k coD).size else 0) := by
  unfold sumC
  rw [List.take_succ_eq_append_getElem hk, List.map_append, List.sum_append, getCo_lt hk]
  simp
theorem sumC_bound {t : List Fo} {cs : List Co} (h : areCo t cs = true) (x : Int) : ∀ k, k ≤ cs.length → 0 ≤ sumC (cs.take k) x ∧ sumC (cs.take k) x ≤ k * 1000000
  | 0, _ => by simp [sumC]
  | k + 1, hk => by
    have ih := sumC_bound h x k (by omega)
    have hc := (coOne_iff.1 (co_at h (i := k) (by omega)).1).2.2.1
    rw [sumC_succ (by omega)]
    split <;> omega
def sizRes (t : List Fo) (cs : List Co) : List Int × Bool := if areCo t cs then (t.map (fun f => sumC cs f.id), true) else ([], false)
theorem sizRes_no {t : List Fo} {cs : List Co} {xs : List Int} {b : Bool} (h : sizRes t cs = (xs, b)) (hn : areCo t cs = false) : xs = [] ∧ b = false := by
  unfold sizRes at h
  rw [if_neg (by rw [hn]; simp)] at h
  exact ⟨(Prod.mk.inj h).1.symm, (Prod.mk.inj h).2.symm⟩
theorem sizRes_yes {t : List Fo} {cs : List Co} {xs : List Int} {b : Bool} (h : sizRes t cs = (xs, b)) (hn : areCo t cs = true) : xs = t.map (fun f => sumC cs f.id) ∧ b = true := by
  unfold sizRes at h
  rw [if_pos hn] at h
  exact ⟨(Prod.mk.inj h).1.symm, (Prod.mk.inj h).2.symm⟩
theorem sizRes_len {t : List Fo} {cs : List Co} {xs : List Int} {b : Bool} (h : sizRes t cs = (xs, b)) : xs.length ≤ t.length := by
  unfold sizRes at h
  split at h
  · rw [← (Prod.mk.inj h).1]; simp
  · rw [← (Prod.mk.inj h).1]; simp
/-- The sums behind one more copy. -/
def sizF (t : List Fo) (cs : List Co) (k : Nat) : List Int := t.map (fun f => sumC (cs.take k) f.id)
theorem ids_uniq {t : List Fo} (h : areFo t = true) : ∀ (d i : Nat), i + d + 1 < t.length → (t.getD i foD).id < (t.getD (i + d + 1) foD).id
  | 0, i, hd => by
    have := ((pAt_iff rfl).1 (pAt_of h (k := i + 0 + 1) hd)).1
    simpa [prevFo] using this
  | d + 1, i, hd => by
    have h1 := ids_uniq h d i (by omega)
    have h2 := ((pAt_iff rfl).1 (pAt_of h (k := i + (d + 1) + 1) hd)).1
    simp only [prevFo] at h2
    rw [show i + (d + 1) + 1 = i + d + 1 + 1 by omega] at h2 ⊢
    rw [show i + (d + 1) = i + d + 1 by omega] at h2
    omega
theorem ids_ne {t : List Fo} (h : areFo t = true) {i j : Nat} (hi : i < t.length) (hj : j < t.length) (e : (t.getD i foD).id = (t.getD j foD).id) : i = j := by
  rcases Nat.lt_trichotomy i j with c | c | c
  · have := ids_uniq h (j - i - 1) i (by omega)
    rw [show i + (j - i - 1) + 1 = j by omega] at this; omega
  · exact c
  · have := ids_uniq h (i - j - 1) j (by omega)
    rw [show j + (i - j - 1) + 1 = i by omega] at this; omega
theorem sizF_set {t : List Fo} {cs : List Co} (h : areFo t = true) {k p : Nat} (hk : k < cs.length) (hp : p < t.length) (he : (t.getD p foD).id = (cs.getD k coD).fmt) :
    (sizF t cs k).set p (sumC (cs.take k) (cs.getD k coD).fmt + (cs.getD k coD).size) = sizF t cs (k + 1) := by
  unfold sizF
  apply List.ext_getElem
  · simp
  · intro i h1 h2
    rw [List.getElem_set]
    have hi : i < t.length := by simpa using h2
    split
    · rename_i e; subst e
      rw [List.getElem_map, ← getFo_lt hi, sumC_succ hk, he, if_pos rfl]
    · rename_i e
      rw [List.getElem_map, List.getElem_map, sumC_succ hk, if_neg, Int.add_zero]
      intro e2
      rw [← he, ← getFo_lt hi] at e2
      exact e (ids_ne h hp hi e2)
end Go.Proofs.Ytenjajcknmfhfaa
