/- The mathematics of a record's text that is read back whole. No program is named here but by its imports. -/
import Derived.Test.YtapbajficopnlaaDoorParseM
import Derived.Test.YtapbajficopnlaaDoorSpJoin
import Derived.Test.YtapbajficopnlaaDoorText
namespace Go.Proofs.YtapbajficopnlaaDoor
set_option linter.unusedVariables false
open Go.RowKit

def hdT (r : Rec) : ByteArray := num r.id ++ ba 115 ++ num r.series ++ ba 64 ++ num r.made
def evT (e : Ev) : ByteArray := num e.kind ++ ba 64 ++ num e.day
theorem hdT_list (r : Rec) : (hdT r).data.toList = Lib.itoa r.id ++ 115 :: (Lib.itoa r.series ++ 64 :: Lib.itoa r.made) := by
  unfold hdT num ba; simp
theorem evT_list (e : Ev) : (evT e).data.toList = Lib.itoa e.kind ++ 64 :: Lib.itoa e.day := by
  unfold evT num ba; simp
/-- A record's text is the join of its head and its events. -/
theorem textAt_sj (r : Rec) : ∀ k, k ≤ r.evs.length → (textAt r k).data.toList = sj (hdT r :: (r.evs.take k).map evT) 32
  | 0, _ => by
    rw [List.take_zero, List.map_nil, sj_one]
    rfl
  | k + 1, h => by
    have ih := textAt_sj r k (by omega)
    have e : hdT r :: (r.evs.take (k + 1)).map evT = (hdT r :: (r.evs.take k).map evT) ++ [evT (r.evs.getD k evD)] := by
      rw [take_succ_snoc r.evs k (by omega), getD_lt (by omega), List.map_append]
      rfl
    rw [e, sj_snoc _ _ _ (by simp), ← ih, evT_list]
    simp only [textAt]
    unfold num ba
    simp
theorem ev_rng {r : Rec} (h : isRec r = true) {e : Ev} (he : e ∈ r.evs) : 1 ≤ e.kind ∧ e.kind ≤ 9 ∧ 0 ≤ e.day ∧ e.day ≤ 20000 := by
  obtain ⟨i, hi, rfl⟩ := List.getElem_of_mem he
  have := isEv_iff.1 (isRec_ev h i hi).1
  rwa [getD_lt hi] at this
theorem hdT_nosp {r : Rec} (h : isRec r = true) : ¬ (32 : UInt8) ∈ (hdT r).data.toList := by
  obtain ⟨v1, v2, v3, _⟩ := isRec_iff.1 h
  rw [hdT_list]
  simp only [List.mem_append, List.mem_cons, not_or]
  exact ⟨num_no (by omega) no_sp, by decide, num_no (by omega) no_sp, by decide, num_no (by omega) no_sp⟩
theorem evT_nosp {e : Ev} (h1 : 1 ≤ e.kind) (h2 : 0 ≤ e.day) : ¬ (32 : UInt8) ∈ (evT e).data.toList := by
  rw [evT_list]
  simp only [List.mem_append, List.mem_cons, not_or]
  exact ⟨num_no (by omega) no_sp, by decide, num_no (by omega) no_sp⟩

/-- What a word tells: an event. -/
noncomputable def evR (l : List UInt8) : Ev := ⟨numV (cutL l 64), numV (cutR l 64)⟩
noncomputable def evB (l : List UInt8) : Bool := numB (cutL l 64) && numB (cutR l 64)
theorem ev_back {e : Ev} (h1 : 0 ≤ e.kind) (h2 : e.kind ≤ 999999) (h3 : 0 ≤ e.day) (h4 : e.day ≤ 999999) : evR (evT e).data.toList = e ∧ evB (evT e).data.toList = true := by
  obtain ⟨b1, w1⟩ := num_back h1 h2
  obtain ⟨b2, w2⟩ := num_back h3 h4
  rw [evT_list]
  unfold evR evB
  rw [cutL_at (num_no h1 no_at), cutR_at (num_no h1 no_at), b1, b2, w1, w2]
  exact ⟨rfl, rfl⟩
theorem ev_text {s : ByteArray} (h : evB s.data.toList = true) : evT (evR s.data.toList) = s := by
  unfold evB at h
  simp only [Bool.and_eq_true] at h
  have p := pair_text (ne_of_num h.2)
  have e := (evT_list (evR s.data.toList)).trans (by unfold evR; simp only; rw [num_text h.1, num_text h.2, ← p] : _ = s.data.toList)
  exact ByteArray.ext (Array.toList_inj.1 e)

/-- The pieces of a text: the head's and the others. -/
noncomputable def prHead (s : ByteArray) : ByteArray := (spAll s 32).headD ⟨#[]⟩
noncomputable def prTail (s : ByteArray) : List ByteArray := (spAll s 32).tail
theorem pr_pieces (s : ByteArray) : spAll s 32 = prHead s :: prTail s := by
  unfold prHead prTail
  cases h : spAll s 32 with
  | nil => exact absurd h (spAll_ne s 32)
  | cons a b => rfl
noncomputable def prRec (s : ByteArray) : Rec := { headR (prHead s).data.toList with evs := (prTail s).map fun p => evR p.data.toList }
noncomputable def prOk (s : ByteArray) : Bool := headB (prHead s).data.toList && (prTail s).all fun p => evB p.data.toList
noncomputable def prRes (s : ByteArray) : Rec × Bool := if prOk s = true ∧ isRec (prRec s) = true then (prRec s, true) else (recD, false)
/-- What is read and valid has the text. -/
theorem pr_text {s : ByteArray} (hok : prOk s = true) (hr : isRec (prRec s) = true) : textAt (prRec s) (prRec s).evs.length = s := by
  unfold prOk at hok
  simp only [Bool.and_eq_true] at hok
  obtain ⟨hh, ht⟩ := hok
  have e1 : hdT (prRec s) = prHead s := by
    have h1 := (hdT_list (prRec s)).trans (head_text hh).symm
    exact ByteArray.ext (Array.toList_inj.1 h1)
  have e2 : (prRec s).evs.map evT = prTail s := by
    unfold prRec
    simp only [List.map_map]
    refine (List.map_congr_left fun p hp => ?_).trans (List.map_id _)
    exact ev_text (List.all_eq_true.1 ht p hp)
  have h := textAt_sj (prRec s) _ (Nat.le_refl _)
  rw [List.take_length, e1, e2, ← pr_pieces, (spAll_sj s 32).1] at h
  exact ByteArray.ext (Array.toList_inj.1 h)
/-- A record whose text it is, is what is read. -/
theorem pr_of_text {s : ByteArray} {r : Rec} (hr : isRec r = true) (h : textAt r r.evs.length = s) : spAll s 32 = hdT r :: r.evs.map evT := by
  have hj := textAt_sj r _ (Nat.le_refl _)
  rw [List.take_length, h] at hj
  obtain ⟨hj2, hm2⟩ := spAll_sj s 32
  refine sj_inj (spAll_ne s 32) (by simp) hm2 (fun p hp => ?_) (hj2.trans hj)
  rcases List.mem_cons.1 hp with rfl | hp
  · exact hdT_nosp hr
  · obtain ⟨e, he, rfl⟩ := List.mem_map.1 hp
    have := ev_rng hr he
    exact evT_nosp (by omega) (by omega)
theorem pr_read {s : ByteArray} {r : Rec} (hr : isRec r = true) (h : textAt r r.evs.length = s) : prOk s = true ∧ prRec s = r := by
  have hp := pr_of_text hr h
  rw [pr_pieces] at hp
  obtain ⟨e1, e2⟩ := List.cons.inj hp
  obtain ⟨v1, v2, v3, _⟩ := isRec_iff.1 hr
  obtain ⟨hb, hv⟩ := head_back (a := r.id) (b := r.series) (d := r.made) (by omega) (by omega) (by omega) (by omega) (by omega) (by omega)
  have hev : ∀ e ∈ r.evs, evR (evT e).data.toList = e ∧ evB (evT e).data.toList = true := fun e he => by
    have := ev_rng hr he
    exact ev_back (by omega) (by omega) (by omega) (by omega)
  constructor
  · unfold prOk
    rw [e1, e2, hdT_list, hb, Bool.true_and]
    refine List.all_eq_true.2 fun p hp => ?_
    obtain ⟨e, he, rfl⟩ := List.mem_map.1 hp
    exact (hev e he).2
  · unfold prRec
    rw [e1, e2, hdT_list, hv, List.map_map]
    have : r.evs.map ((fun p : ByteArray => evR p.data.toList) ∘ evT) = r.evs := (List.map_congr_left fun e he => (hev e he).1).trans (List.map_id _)
    rw [this]

theorem sp_two' {a b : List UInt8} {c : UInt8} (ha : ¬ c ∈ a) (hb : ¬ c ∈ b) : spAll ⟨(a ++ c :: b).toArray⟩ c = [⟨a.toArray⟩, ⟨b.toArray⟩] := by
  obtain ⟨hj, hm⟩ := spAll_sj ⟨(a ++ c :: b).toArray⟩ c
  refine sj_inj (spAll_ne _ _) (by simp) hm (fun p hp => ?_) (hj.trans ?_)
  · simp only [List.mem_cons, List.not_mem_nil, or_false] at hp
    rcases hp with rfl | rfl
    · simpa using ha
    · simpa using hb
  · have := sj_snoc [(⟨a.toArray⟩ : ByteArray)] ⟨b.toArray⟩ c (by simp)
    rw [sj_one] at this
    simp at this
    simp [this]
theorem num_short {n : Int} (h0 : 0 ≤ n) {k : Nat} (h1 : n < 10 ^ (k + 1)) : (Lib.itoa n).length ≤ k + 1 := by
  obtain ⟨u, rfl⟩ := Int.eq_ofNat_of_zero_le h0
  rw [Lib.itoa_nonneg]
  exact (dec_len k u (by exact_mod_cast h1)).2
/-- No valid record's text is longer than 80 bytes. -/
theorem text_short {r : Rec} (hr : isRec r = true) : ∀ k, k ≤ r.evs.length → (textAt r k).size ≤ 16 + k * 8
  | 0, _ => by
    obtain ⟨v1, v2, v3, _⟩ := isRec_iff.1 hr
    have h1 := num_short (n := r.id) (k := 2) (by omega) (by omega)
    have h2 := num_short (n := r.series) (k := 1) (by omega) (by omega)
    have h3 := num_short (n := r.made) (k := 4) (by omega) (by omega)
    simp only [textAt, ByteArray.size_append, ba_size]
    have e : ∀ n, (num n).size = (Lib.itoa n).length := fun n => by unfold num; exact List.size_toArray
    rw [e, e, e]
    omega
  | k + 1, h => by
    have ih := text_short hr k (by omega)
    have hv := ev_rng hr (e := r.evs.getD k evD) (by rw [getD_lt (by omega)]; exact List.getElem_mem _)
    have h1 := num_short (n := (r.evs.getD k evD).kind) (k := 0) (by omega) (by omega)
    have h2 := num_short (n := (r.evs.getD k evD).day) (k := 4) (by omega) (by omega)
    simp only [textAt, ByteArray.size_append, ba_size]
    have e : ∀ n, (num n).size = (Lib.itoa n).length := fun n => by unfold num; exact List.size_toArray
    rw [e, e]
    omega
theorem text_80 {r : Rec} (hr : isRec r = true) : (textAt r r.evs.length).size ≤ 80 := by
  have h := text_short hr _ (Nat.le_refl _)
  have := (isRec_iff.1 hr).2.2.2.1
  omega

/-- What the model reads of a head and of a word: parts between marks; none where there are not two. -/
noncomputable def two (s : ByteArray) (c : UInt8) : Option (ByteArray × ByteArray) := match spAll s c with
  | [a, b] => some (a, b)
  | _ => none
noncomputable def mHead (p : ByteArray) : Option Rec := (two p 64).bind fun q => (two q.1 115).map fun n => ⟨numV n.1.data.toList, numV n.2.data.toList, numV q.2.data.toList, []⟩
noncomputable def mEvt (p : ByteArray) : Option Ev := (two p 64).map fun q => ⟨numV q.1.data.toList, numV q.2.data.toList⟩
theorem mHead_back {r : Rec} (hr : isRec r = true) : mHead (hdT r) = some { r with evs := [] } := by
  obtain ⟨v1, v2, v3, _⟩ := isRec_iff.1 hr
  have e : hdT r = ⟨((Lib.itoa r.id ++ 115 :: Lib.itoa r.series) ++ 64 :: Lib.itoa r.made).toArray⟩ := ByteArray.ext (Array.toList_inj.1 (by rw [hdT_list]; simp))
  have q1 : ¬ (64 : UInt8) ∈ Lib.itoa r.id ++ 115 :: Lib.itoa r.series := by
    simp only [List.mem_append, List.mem_cons, not_or]
    exact ⟨num_no (by omega) no_at, by decide, num_no (by omega) no_at⟩
  unfold mHead two
  rw [e, sp_two' q1 (num_no (by omega) no_at)]
  simp only [Option.bind_some]
  rw [sp_two' (num_no (n := r.id) (by omega) no_s) (num_no (n := r.series) (by omega) no_s)]
  simp only [Option.map_some]
  rw [(num_back (n := r.id) (by omega) (by omega)).2, (num_back (n := r.series) (by omega) (by omega)).2, (num_back (n := r.made) (by omega) (by omega)).2]
theorem mEvt_back {e : Ev} (h1 : 0 ≤ e.kind) (h2 : e.kind ≤ 999999) (h3 : 0 ≤ e.day) (h4 : e.day ≤ 999999) : mEvt (evT e) = some e := by
  have q : evT e = ⟨(Lib.itoa e.kind ++ 64 :: Lib.itoa e.day).toArray⟩ := ByteArray.ext (Array.toList_inj.1 (evT_list e))
  unfold mEvt two
  rw [q, sp_two' (num_no h1 no_at) (num_no h3 no_at)]
  simp only [Option.map_some]
  rw [(num_back h1 h2).2, (num_back h3 h4).2]
/-- The model's answer is the program's: h, es: what it reads of the head and of the words, all of which it must read. -/
theorem prRes_model (s : ByteArray) : prRes s = if s.size ≤ 80 then (match mHead (prHead s), (prTail s).mapM mEvt with
    | some h, some es => if isRec { h with evs := es } = true ∧ textAt { h with evs := es } es.length = s then ({ h with evs := es }, true) else (recD, false)
    | _, _ => (recD, false)) else (recD, false) := by
  unfold prRes
  by_cases hp : prOk s = true ∧ isRec (prRec s) = true
  · have ht := pr_text hp.1 hp.2
    have hsz := text_80 hp.2
    rw [ht] at hsz
    have hw := pr_of_text hp.2 ht
    rw [pr_pieces] at hw
    obtain ⟨e1, e2⟩ := List.cons.inj hw
    have hm : ((prRec s).evs.map evT).mapM mEvt = some (prRec s).evs := by
      have hall : ∀ e ∈ (prRec s).evs, mEvt (evT e) = some e := fun e he => by
        have := ev_rng hp.2 he
        exact mEvt_back (by omega) (by omega) (by omega) (by omega)
      revert hall
      induction (prRec s).evs with
      | nil => intro _; rfl
      | cons a l ih =>
        intro hall
        rw [List.map_cons, List.mapM_cons, hall a (by simp), ih (fun e he => hall e (List.mem_cons_of_mem _ he))]
        rfl
    rw [if_pos hp, if_pos hsz, e1, e2, mHead_back hp.2, hm]
    simp only
    rw [if_pos ⟨hp.2, ht⟩]
  · rw [if_neg hp]
    split
    · split
      · rename_i h es h1 h2
        rw [if_neg]
        rintro ⟨ha, hb⟩
        obtain ⟨hx, hy⟩ := pr_read (r := { h with evs := es }) ha hb
        exact hp ⟨hx, by rw [hy]; exact ha⟩
      · rfl
    · rfl
end Go.Proofs.YtapbajficopnlaaDoor
