/- The mathematics of a schedule's text that is read back. No program is named here but by its imports. -/
import Derived.Test.YtpcdjpkcalbpkaaDoorParseM
import Derived.Test.YtpcdjpkcalbpkaaDoorSpJoin
import Derived.Test.YtpcdjpkcalbpkaaDoorSchT
namespace Go.Proofs.YtpcdjpkcalbpkaaDoor
set_option linter.unusedVariables false
open Go.RowKit

/-- The act of a letter; 0 of another one. -/
def actOf (c : UInt8) : Int := if c = 107 then 1 else if c = 116 then 2 else if c = 100 then 3 else 0
theorem actOf_actB {a : Int} (h1 : 1 ≤ a) (h3 : a ≤ 3) : actOf (actB a) = a := by
  rcases (show a = 1 ∨ a = 2 ∨ a = 3 by omega) with rfl | rfl | rfl <;> rfl
theorem actB_actOf {c : UInt8} (h : 1 ≤ actOf c) : actB (actOf c) = c := by
  unfold actOf at h ⊢
  split
  · rename_i e; rw [e]; rfl
  · split
    · rename_i e; rw [e]; rfl
    · split
      · rename_i e; rw [e]; rfl
      · rename_i a b d
        rw [if_neg a, if_neg b, if_neg d] at h
        omega
theorem no_dot : ¬ isD 46 := by unfold isD; decide
theorem no_plus : ¬ isD 43 := by unfold isD; decide
theorem actB_nosp (a : Int) : actB a ≠ 32 := by
  unfold actB
  split
  · decide
  · split <;> decide

/-- The text of a rule ahead of its letter. -/
def ruPre (r : Ru) : List UInt8 := Lib.itoa r.series ++ 46 :: (Lib.itoa r.event ++ 43 :: Lib.itoa r.days)
theorem ruTxt_list (r : Ru) : (ruTxt r).data.toList = ruPre r ++ [actB r.act] := by
  unfold ruTxt num ba ruPre
  simp
theorem ruTxt_nosp {r : Ru} (h : isRu r = true) : ¬ (32 : UInt8) ∈ (ruTxt r).data.toList := by
  obtain ⟨⟨u0, u1⟩, ⟨u2, u3⟩, ⟨u4, u5⟩, u6, u7⟩ := isRu_iff.1 h
  rw [ruTxt_list]
  unfold ruPre
  simp only [List.mem_append, List.mem_cons, List.not_mem_nil, or_false, not_or]
  have n0 := num_no (n := r.series) (by omega) no_sp
  have n1 := num_no (n := r.event) (by omega) no_sp
  have n2 := num_no (n := r.days) (by omega) no_sp
  exact ⟨⟨n0, by decide, n1, by decide, n2⟩, (actB_nosp _).symm⟩

/-- What a word tells: the rule (which need not be valid), and whether its numbers are numbers. -/
noncomputable def rdR (l : List UInt8) : Ru := ⟨numV (cutL l.dropLast 46), numV (cutL (cutR l.dropLast 46) 43), numV (cutR (cutR l.dropLast 46) 43), actOf (l.getLastD 0)⟩
noncomputable def rdB (l : List UInt8) : Bool := numB (cutL l.dropLast 46) && (numB (cutL (cutR l.dropLast 46) 43) && numB (cutR (cutR l.dropLast 46) 43))
theorem rd_back {r : Ru} (h : isRu r = true) : rdR (ruTxt r).data.toList = r ∧ rdB (ruTxt r).data.toList = true := by
  obtain ⟨⟨u0, u1⟩, ⟨u2, u3⟩, ⟨u4, u5⟩, u6, u7⟩ := isRu_iff.1 h
  rw [ruTxt_list]
  unfold rdR rdB
  rw [List.dropLast_concat, List.getLastD_concat]
  unfold ruPre
  rw [cutL_at (num_no (by omega) no_dot), cutR_at (num_no (by omega) no_dot), cutL_at (num_no (by omega) no_plus), cutR_at (num_no (by omega) no_plus)]
  obtain ⟨b0, v0⟩ := num_back (n := r.series) (by omega) (by omega)
  obtain ⟨b1, v1⟩ := num_back (n := r.event) (by omega) (by omega)
  obtain ⟨b2, v2⟩ := num_back (n := r.days) (by omega) (by omega)
  rw [b0, b1, b2, v0, v1, v2, actOf_actB u6 u7]
  exact ⟨rfl, rfl⟩
theorem rd_text {l : List UInt8} (hb : rdB l = true) (hr : isRu (rdR l) = true) : ruPre (rdR l) ++ [actB (rdR l).act] = l := by
  obtain ⟨_, _, _, u6, _⟩ := isRu_iff.1 hr
  unfold rdB at hb
  simp only [Bool.and_eq_true] at hb
  obtain ⟨h1, h2, h3⟩ := hb
  have e1 := num_text h1
  have e2 := num_text h2
  have e3 := num_text h3
  have p2 := pair_text (ne_of_num h3)
  have hne : cutR l.dropLast 46 ≠ [] := fun e => by
    rw [e] at p2
    have := congrArg List.length p2
    simp at this
  have p1 := pair_text hne
  have hl : l ≠ [] := fun e => by
    rw [e] at hne
    exact hne (cutR_none (by simp))
  have ha : actB (rdR l).act = l.getLastD 0 := actB_actOf u6
  rw [ha]
  unfold ruPre rdR
  simp only
  rw [e1, e2, e3, ← p2, ← p1]
  obtain ⟨q, x, rfl⟩ : ∃ q x, l = q ++ [x] := ⟨l.dropLast, l.getLast hl, (List.dropLast_concat_getLast hl).symm⟩
  rw [List.dropLast_concat, List.getLastD_concat]
theorem rd_txt {s : ByteArray} (hb : rdB s.data.toList = true) (hr : isRu (rdR s.data.toList) = true) : ruTxt (rdR s.data.toList) = s := by
  have h := (ruTxt_list (rdR s.data.toList)).trans (rd_text hb hr)
  exact ByteArray.ext (Array.toList_inj.1 h)

/-- What ParseSchedule answers. -/
noncomputable def psRows (s : ByteArray) : List Ru := (spAll s 32).map fun p => rdR p.data.toList
noncomputable def psOk (s : ByteArray) : Bool := (spAll s 32).all fun p => rdB p.data.toList
noncomputable def psRes (s : ByteArray) : List Ru × Bool := if s.size = 0 then ([], true) else if (s.size ≤ 4000 ∧ psOk s = true) ∧ isSch (psRows s) = true then (psRows s, true) else ([], false)
theorem sch_ru {t : List Ru} (h : isSch t = true) : ∀ r ∈ t, isRu r = true := fun r hr => by
  obtain ⟨i, hi, rfl⟩ := List.getElem_of_mem hr
  have := (sch_at h hi).1
  rwa [getRu_lt hi] at this
/-- The program's way: what is read and valid has the text. -/
theorem ps_text {s : ByteArray} (hok : psOk s = true) (hs : isSch (psRows s) = true) : (psRows s).map ruTxt = spAll s 32 := by
  unfold psRows
  rw [List.map_map]
  refine (List.map_congr_left fun p hp => ?_).trans (List.map_id _)
  have hb : rdB p.data.toList = true := by
    unfold psOk at hok
    exact List.all_eq_true.1 hok p hp
  exact rd_txt hb (sch_ru hs _ (List.mem_map.2 ⟨p, hp, rfl⟩))
/-- The model's way: a schedule whose text it is, is what is read. -/
theorem ps_of_text {s : ByteArray} {t : List Ru} (hs : isSch t = true) (h0 : t ≠ []) (h : schAt t t.length = s) : psOk s = true ∧ psRows s = t ∧ s.size ≤ 4000 := by
  have hj : sj (t.map ruTxt) 32 = s.data.toList := by
    rw [← h]
    unfold schAt schL
    rw [List.take_length]
  obtain ⟨hj2, hm2⟩ := spAll_sj s 32
  have he : t.map ruTxt = spAll s 32 := sj_inj (c := 32) (by simpa using h0) (spAll_ne s 32) (fun p hp => by
    obtain ⟨r, hr, rfl⟩ := List.mem_map.1 hp
    exact ruTxt_nosp (sch_ru hs r hr)) hm2 (hj.trans hj2.symm)
  refine ⟨?_, ?_, ?_⟩
  · unfold psOk
    rw [← he]
    refine List.all_eq_true.2 fun p hp => ?_
    obtain ⟨r, hr, rfl⟩ := List.mem_map.1 hp
    exact (rd_back (sch_ru hs r hr)).2
  · unfold psRows
    rw [← he, List.map_map]
    refine (List.map_congr_left fun r hr => ?_).trans (List.map_id _)
    exact (rd_back (sch_ru hs r hr)).1
  · have h8 := sch_len hs
    have hk : ∀ r ∈ t, r.ok := fun r hr => by
      obtain ⟨⟨u0, u1⟩, ⟨u2, u3⟩, ⟨u4, u5⟩, u6, u7⟩ := isRu_iff.1 (sch_ru hs r hr)
      refine ⟨?_, ?_, ?_, ?_⟩ <;> (unfold inI; omega)
    have := schAt_size hk t.length (Nat.le_refl _)
    rw [h] at this
    omega

/-- What the model's l4Read tells of a word. -/
noncomputable def rdS (s : ByteArray) : Ru :=
  if s.size = 0 then ruD else
    let pre : ByteArray := ⟨s.data.toList.dropLast.toArray⟩
    let parts := spAll pre 43
    let names := spAll (parts.getD 0 ⟨#[]⟩) 46
    if parts.length = 2 ∧ names.length = 2 then ⟨numV (names.getD 0 ⟨#[]⟩).data.toList, numV (names.getD 1 ⟨#[]⟩).data.toList, numV (parts.getD 1 ⟨#[]⟩).data.toList, actOf (s.data.toList.getLastD 0)⟩ else ruD
theorem sp_two {a b : List UInt8} {c : UInt8} (ha : ¬ c ∈ a) (hb : ¬ c ∈ b) : spAll ⟨(a ++ c :: b).toArray⟩ c = [⟨a.toArray⟩, ⟨b.toArray⟩] := by
  obtain ⟨hj, hm⟩ := spAll_sj ⟨(a ++ c :: b).toArray⟩ c
  refine sj_inj (spAll_ne _ _) (by simp) hm (fun p hp => ?_) (hj.trans ?_)
  · simp only [List.mem_cons, List.not_mem_nil, or_false] at hp
    rcases hp with rfl | rfl
    · simpa using ha
    · simpa using hb
  · have := sj_snoc [(⟨a.toArray⟩ : ByteArray)] ⟨b.toArray⟩ c (by simp)
    rw [sj_one] at this
    simp at this
    simp [this]
theorem rdS_back {r : Ru} (h : isRu r = true) : rdS (ruTxt r) = r := by
  obtain ⟨⟨u0, u1⟩, ⟨u2, u3⟩, ⟨u4, u5⟩, u6, u7⟩ := isRu_iff.1 h
  have hsz : (ruTxt r).size ≠ 0 := by
    have := congrArg List.length (ruTxt_list r)
    simp only [List.length_append, List.length_cons, List.length_nil] at this
    show (ruTxt r).data.size ≠ 0
    rw [← Array.length_toList, this]
    omega
  have e1 : ruPre r = (Lib.itoa r.series ++ 46 :: Lib.itoa r.event) ++ 43 :: Lib.itoa r.days := by unfold ruPre; simp
  have q1 : ¬ (43 : UInt8) ∈ Lib.itoa r.series ++ 46 :: Lib.itoa r.event := by
    simp only [List.mem_append, List.mem_cons, not_or]
    exact ⟨num_no (by omega) no_plus, by decide, num_no (by omega) no_plus⟩
  have s1 := sp_two (c := 43) q1 (num_no (n := r.days) (by omega) no_plus)
  have s2 := sp_two (c := 46) (num_no (n := r.series) (by omega) no_dot) (num_no (n := r.event) (by omega) no_dot)
  unfold rdS
  rw [if_neg hsz]
  simp only [ruTxt_list, List.dropLast_concat, List.getLastD_concat]
  rw [e1, s1]
  simp only [List.getD_cons_zero, List.getD_cons_succ]
  rw [s2]
  simp only [List.getD_cons_zero, List.getD_cons_succ, List.length_cons, List.length_nil, Nat.zero_add, Nat.reduceAdd, and_self, if_true]
  rw [(num_back (n := r.series) (by omega) (by omega)).2, (num_back (n := r.event) (by omega) (by omega)).2, (num_back (n := r.days) (by omega) (by omega)).2, actOf_actB u6 u7]
/-- What the model lays: the first nine words, read. -/
noncomputable def psOut (s : ByteArray) : List Ru := ((spAll s 32).take 9).map rdS
/-- The model's test and the program's give one answer. -/
theorem psRes_model {s : ByteArray} (h0 : s.size ≠ 0) : psRes s = if isSch (psOut s) = true ∧ schAt (psOut s) (psOut s).length = s then (psOut s, true) else ([], false) := by
  unfold psRes
  rw [if_neg h0]
  by_cases hp : (s.size ≤ 4000 ∧ psOk s = true) ∧ isSch (psRows s) = true
  · have ht := ps_text hp.1.2 hp.2
    have h8 := sch_len hp.2
    have hl : (spAll s 32).length ≤ 8 := by rw [← ht, List.length_map]; exact h8
    have he : psOut s = psRows s := by
      unfold psOut
      rw [List.take_of_length_le (by omega), ← ht, List.map_map]
      refine (List.map_congr_left fun r hr => ?_).trans (List.map_id _)
      exact rdS_back (sch_ru hp.2 r hr)
    have htx : schAt (psRows s) (psRows s).length = s := by
      have : (schAt (psRows s) (psRows s).length).data.toList = s.data.toList := by
        unfold schAt schL
        rw [List.take_length, ht]
        exact (spAll_sj s 32).1
      exact ByteArray.ext (Array.toList_inj.1 this)
    rw [if_pos hp, he, if_pos ⟨hp.2, htx⟩]
  · rw [if_neg hp, if_neg]
    rintro ⟨h1, h2⟩
    have hne : psOut s ≠ [] := by
      unfold psOut
      intro e
      have := List.map_eq_nil_iff.1 e
      rw [List.take_eq_nil_iff] at this
      exact spAll_ne s 32 (this.resolve_left (by omega))
    obtain ⟨a, b, c⟩ := ps_of_text h1 hne h2
    exact hp ⟨⟨c, a⟩, by rw [b]; exact h1⟩
end Go.Proofs.YtpcdjpkcalbpkaaDoor
