/- PerD, PerP, PerI, in one text. -/
import Derived.Test.YtnfcfinecjgakaaPerM
import Derived.Test.YtnfcfinecjgakaaIsRecI
import Derived.Test.YtnfcfinecjgakaaInSer1
import Derived.Test.YtnfcfinecjgakaaRuForI
import Derived.Test.YtnfcfinecjgakaaBox4
import Derived.Maps.Own
import Derived.Maps.OwnSet
import Derived.Test.YtnfcfinecjgakaaPerS
import Derived.Test.YtnfcfinecjgakaaContains
import Derived.ScopeJumps
import Derived.BigRegion
import Derived.Test.YtnfcfinecjgakaaAreRec
import Derived.Test.YtnfcfinecjgakaaRecs
import Derived.Test.YtnfcfinecjgakaaDayI
import Derived.Test.YtnfcfinecjgakaaSerIn
import Derived.Test.YtnfcfinecjgakaaAdd
namespace Go.Proofs.Ytnfcfinecjgakaa
set_option linter.unusedVariables false
open Go.RowKit Go.Sort Go.Maps

structure LOK (D : DataW Unit) (made : Int) (es : List Ev) : Prop where
  tidy : Tidy D
  has_ : ∀ s : Int, has D (.int .i64 s) = (lookE made es s).isSome
  at_ : ∀ (s d : Int), lookE made es s = some d → D.atKey (.int .i64 s) (.lit (.int .i64 0)) = .lit (.int .i64 d)
theorem LOK.start (made : Int) : LOK (DataW.put (.map []) (.int .i64 0) (.lit (.int .i64 made))) made [] := by
  have hk : WideAt.IsKeyLit (.int .i64 0) := trivial
  have ht : Tidy (.map [] : DataW Unit) := tidy_empty
  refine ⟨ht.put hk _, fun s => ?_, fun s d h => ?_⟩
  · by_cases e : s = 0
    · subst e; rw [has_put_same ht.isMap hk]; rfl
    · rw [has_put_other (by simp; exact fun q => e q), has_eq]; simp [lookE, e]
  · by_cases e : s = 0
    · subst e
      simp [lookE] at h
      subst h
      exact atKey_put_same ht.isMap hk _ _
    · simp [lookE, e] at h
theorem LOK.put {D : DataW Unit} {made : Int} {es : List Ev} (h : LOK D made es) (e : Ev) : LOK (D.put (.int .i64 e.kind) (.lit (.int .i64 e.day))) made (es ++ [e]) := by
  have hk : WideAt.IsKeyLit (.int .i64 e.kind) := trivial
  refine ⟨h.tidy.put hk _, fun s => ?_, fun s d hd => ?_⟩
  · rw [lookE_snoc]
    by_cases q : e.kind = s
    · subst q; rw [has_put_same h.tidy.isMap hk, if_pos rfl]; rfl
    · rw [has_put_other (by simp; exact fun z => q z.symm), h.has_, if_neg q]
  · rw [lookE_snoc] at hd
    by_cases q : e.kind = s
    · subst q
      rw [if_pos rfl] at hd
      cases hd
      exact atKey_put_same h.tidy.isMap hk _ _
    · rw [if_neg q] at hd
      rw [atKey_put_other (by simp; exact fun z => q z.symm)]
      exact h.at_ s d hd
theorem LOK.day {D : DataW Unit} {r : Rec} (h : LOK D r.made r.evs) (hr : isRec r = true) (k : Int) : has D (.int .i64 k) = decide (0 ≤ dayOf r k) ∧ (0 ≤ dayOf r k → D.atKey (.int .i64 k) (.lit (.int .i64 0)) = .lit (.int .i64 (dayOf r k))) := by
  have h1 := lookE_dayOf hr k
  refine ⟨?_, fun h0 => ?_⟩
  · rw [h.has_, h1]
    by_cases q : dayOf r k < 0
    · rw [if_pos q, decide_eq_false (by omega)]; rfl
    · rw [if_neg q, decide_eq_true (by omega)]; rfl
  · exact h.at_ k _ (by rw [h1, if_neg (by omega)])

theorem wf_of_inI {n : Int} (h : inI n) : (Lit.int .i64 n).wf = true := by unfold inI at h; simp [Lit.wf, IntKind.min, IntKind.max, IntKind.signed, IntKind.bits]; omega
theorem key_day (s : Int) (h : inI s) : keyOf Try.prog 3 (.int .i64 s) = some (.int .i64 s) := keyOf_int_mk Try.underlying3 (wf_of_inI h)
abbrev DayS (w : World) (b n : Nat) (D : DataW Unit) : Prop := w.ownsMap Try.prog 3 (plainElem Try.prog 3) b n D
theorem zero_int (w : World) : (zeroValue 3).run Try.prog w = .ok (.int .i64 0) w := by kernel_rfl
theorem wpList_insert_own {H : Type} {P : Program} (w : World) {ops : Array Oper} {rest : List Oper} {o : Oper} {a : Act} {Q : Exit → Act → World → Prop}
    (hg : o.guard = none) (m x v : Operand) (t : TypeId) (hop : o.op = Op.insert t m x v)
    (k e : TypeId) (K : Keyed P k) (ht : P.underlying t = some (.map k e)) (R : Value → Option (DataW H × List MemPlace)) (b n : Nat) (D : DataW H)
    (hm : a.eval m = .map (some b)) (hown : w.ownsMap P k R b n D) (hn : n < maxLen) (key val : Value) (kl : Lit) (hx : a.eval x = key) (hv : a.eval v = val) (hkey : keyOf P k key = some kl)
    (d : DataW H) (ps : List MemPlace) (hval : R val = some (d, ps))
    (hK : ∀ w', w'.ownsMap P k R b (n + 1) (D.put kl d) → w.grownBy w' (some b) → wpList P ops Q rest (a.put o.dst undef) w') :
    wpList P ops Q (o :: rest) a w := by
  refine wpList_plain hg fun K' hK' => ?_
  obtain ⟨w', hrun, r1, r2⟩ := hown.update K ht hn hkey hval
  unfold Oper.wp
  simp [execOp, hop, hm, hx, hv, hrun, Result.andThen]
  exact hK' _ _ (hK w' r1 r2)

def StartD (w : World) (r : Rec) (e : Ending) (w' : World) : Prop := ∃ b D, e = .returned (.map (some b)) ∧ w.heap.size ≤ b ∧ b < w'.heap.size ∧ DayS w' b (r.evs.length + 1) D ∧ LOK D r.made r.evs ∧ Below w.heap.size w w'
set_option maxRecDepth 20000 in
set_option maxHeartbeats 4000000 in
theorem startDays_any (v : Value) (r : Rec) (w : World) (h : RecV w v r) (hn : r.evs.length ≤ 1048576) :
    Calls Try.prog 119 #[v] w (StartD w r) := by
  obtain ⟨s, rfl, h1, hok⟩ := h
  obtain ⟨a1, c1, rfl, hl1, hm1, r1⟩ := h1.evs
  have R1 := Lib.hid r1
  clear h1 r1
  unfold maxLen at hm1
  have hmm := @run_makeMap Try.prog
  have him : inI r.made := hok.2.2
  have HK0 := Lib.hid (key_day 0 (by simp [inI]))
  have HVM := Lib.hid (plainElem_int (H := Unit) Try.underlying3 (wf_of_inI him))
  have M0 : Hid (DayS ((w.alloc (.cells #[.int .i64 r.id, .int .i64 r.series, .int .i64 r.made, .slice a1 r.evs.length c1] 26 (0, 0))).alloc (.map #[] 0)) (w.heap.size + 1) 0 (.map [])) :=
    Lib.hid (by simpa using World.ownsMap_made (w.alloc (.cells #[.int .i64 r.id, .int .i64 r.series, .int .i64 r.made, .slice a1 r.evs.length c1] 26 (0, 0))) Try.prog 3 (plainElem (H := Unit) Try.prog 3))
  have c3 := cell_new w #[.int .i64 r.id, .int .i64 r.series, .int .i64 r.made, .slice a1 r.evs.length c1] 26 3 (v := .slice a1 r.evs.length c1) rfl
  have c2 := cell_new w #[.int .i64 r.id, .int .i64 r.series, .int .i64 r.made, .slice a1 r.evs.length c1] 26 2 (v := .int .i64 r.made) rfl
  clear him hok
  go_enter Try.func119, Try.ntmps119
  go_wp2_with (first | (refine wpList_insert_own _ rfl _ _ _ 144 rfl 3 3 (int_keyed Try.underlying3) Try.underlying144 (plainElem (H := Unit) Try.prog 3) (w.heap.size + 1) 0 (.map []) rfl M0.out (by unfold maxLen; omega) (.int .i64 0) (.int .i64 r.made) (.int .i64 0) rfl rfl HK0.out (.lit (.int .i64 r.made)) [] HVM.out ?_; intro w2 hown2 hg2; have HM2 := Lib.hid hown2; have HG2 := Lib.hid hg2; have s2 := hg2.size; have p3 := hg2.cell (below_al_cell c3 (.map #[] 0)) (by simp); have bw2 := (below_al (below_al (Below.refl w.heap.size w) (.cells #[.int .i64 r.id, .int .i64 r.series, .int .i64 r.made, .slice a1 r.evs.length c1] 26 (0, 0))) (.map #[] 0)).grown hg2 (by simp; omega) (fun g e => by cases e; omega); simp at s2; clear hown2 hg2 M0 c3 c2))
  go_loopw [13] (fun i wr => ∃ (k : Nat) (D : DataW Unit), k ≤ r.evs.length ∧ i = .int .i64 k ∧ Hid (LOK D r.made (r.evs.take k)) ∧ Hid (DayS wr (w.heap.size + 1) (k + 1) D) ∧ Below w.heap.size w wr ∧ w.heap.size + 1 < wr.heap.size) (fun i _ => r.evs.length - (intOf i).toNat)
  case atStart => exact ⟨0, _, Nat.zero_le _, rfl, Lib.hid (by simpa using LOK.start r.made), HM2, bw2, by omega⟩
  case round =>
    clear HM2 HG2 bw2 s2
    obtain ⟨k, D, hk, rfl, HD, HM, hb, hmb⟩ := hrel
    by_cases hlt : k < r.evs.length
    · obtain ⟨b1, o1, hb1, rfl, e1⟩ := R1.out.resolve_left (fun e => by rw [e] at hlt; simp at hlt)
      obtain ⟨⟨x, y⟩, hx⟩ : ∃ s, r.evs.getD k evD = s := ⟨_, rfl⟩
      obtain ⟨q1, q2, hok⟩ := e1 k hlt
      rw [hx] at q1 q2 hok
      have f1 := cell_kept q1 hb
      have f2 := cell_kept q2 hb
      simp only at f1 f2
      have hix : inI x := hok.1
      have hiy : inI y := hok.2
      have htk : r.evs.take (k + 1) = r.evs.take k ++ [⟨x, y⟩] := by rw [List.take_succ_eq_append_getElem hlt, ← getD_lt hlt, hx]
      have HPUT := Lib.hid (HD.out.put ⟨x, y⟩)
      rw [← htk] at HPUT
      have HIN := Lib.hid (key_day x hix)
      have HVY := Lib.hid (plainElem_int (H := Unit) Try.underlying3 (wf_of_inI hiy))
      have g0 : (0 : Int) ≤ (k : Int) := by omega
      have g1 : (k : Int) < (r.evs.length : Int) := by omega
      clear q1 q2 hok e1 hx htk hix hiy
      go_wp2_with (first | (at_mapUpdate; refine wpList_mapUpdate_own _ rfl _ _ _ 144 rfl 3 3 (int_keyed Try.underlying3) Try.underlying144 (plainElem (H := Unit) Try.prog 3) (w.heap.size + 1) (k + 1) D rfl (HM.out.alloc _) (by unfold maxLen; omega) (.int .i64 x) (.int .i64 y) (.int .i64 x) rfl rfl HIN.out (.lit (.int .i64 y)) [] HVY.out ?_; intro w3 hown3 hg3; have HM3 := Lib.hid hown3; have HG3 := Lib.hid hg3; clear hown3 hg3))
      go_roundw
      case rel =>
        have s3 := HG3.out.size
        simp at s3
        exact ⟨k + 1, _, by omega, by go_num, HPUT, HM3, (hb.alloc hb.size _).grown HG3.out (by have := hb.size; simp; omega) (fun g e => by cases e; omega), by omega⟩
      case measure => simp [intOf]; omega
    · obtain rfl : k = r.evs.length := by omega
      have HD2 := Lib.hid (by have := HD.out; rw [List.take_length] at this; exact this : LOK D r.made r.evs)
      clear HD
      go_wp2_with fail
      go_ret
      exact ⟨_, D, rfl, by omega, hmb, HM.out, HD2.out, hb⟩

def perRules (r : Rec) (t : List Ru) : List Ru := if askB r t = true then forRu t r.series else []
def perEnds (r : Rec) (t : List Ru) : List Int := if askB r t = true then endsF r t else []
theorem ruf_ask {r : Rec} {t : List Ru} (hr : isRec r = true) : rufRes t r.series = if isSch t = true then (forRu t r.series, true) else ([], false) := by
  have := (isRec_iff.1 hr).2.1
  unfold rufRes
  simp [this.1, this.2]
def PeriodsD (w : World) (r : Rec) (t : List Ru) (e : Ending) (w' : World) : Prop :=
  ∃ u1 u2, e = .returned (.tuple #[u1, u2, .bool (askB r t)]) ∧ RusO w.heap.size w'.heap.size w' u1 (perRules r t) ∧ IntsO w.heap.size w'.heap.size w' u2 (perEnds r t) ∧ Below w.heap.size w w'
theorem ints_nil (lo hi : Nat) (w : World) : IntsO lo hi w (.slice none 0 0) [] := ⟨World.ownsRow_nil _ _ _ _, Under.nil _ _ _⟩
theorem ints_ofRow {lo n : Nat} {w : World} {v : Value} {xs : List Int} (h : w.ownsRow lo 3 1 v n (xs.map vI)) (hn : n = xs.length) : IntsO lo w.heap.size w v xs := ⟨by rw [← hn]; exact h, fun g hg => (h.lt g hg).2⟩
set_option maxRecDepth 20000 in
set_option maxHeartbeats 8000000 in
theorem periodsOf_any (v v1 : Value) (r : Rec) (t : List Ru) (w : World) (h : RecV w v r) (h1 : RowR 4 rRu w v1 t) (hn : t.length ≤ 1048576) :
    Calls Try.prog 67 #[v, v1] w (PeriodsD w r t) := by
  obtain ⟨i0, hi, hz0, hz1, hz2⟩ := info_parts Try.info_intI
  obtain ⟨s, rfl, h0, hok⟩ := h
  have HV := Lib.hid (show ∀ W, Below w.heap.size w W → RecV W (.agg #[.int .i64 r.id, .int .i64 r.series, .int .i64 r.made, s]) r from fun W hb => ⟨s, rfl, h0.below rEv_stable hb, hok⟩)
  have H1 := Lib.hid h1
  obtain ⟨br, hr⟩ : ∃ b, isRec r = b := ⟨_, rfl⟩
  obtain ⟨R, bR, hR⟩ : ∃ R b, rufRes t r.series = (R, b) := ⟨_, _, rfl⟩
  have HR := Lib.hid hr
  have HRR := Lib.hid hR
  clear h0 hok h1 hr hR
  have b0 := below_al (Below.refl w.heap.size w) (.cells #[.int .i64 r.id, .int .i64 r.series, .int .i64 r.made, s] 26 (0, 0))
  have HC0 := Lib.hid (Box4.new w r s 26)
  cases bR
  · have HA : Hid (askB r t = false) := Lib.hid (by
      rcases ha : askB r t with _ | _
      · rfl
      · have := ask_iff.1 ha
        have hq := HRR.out
        rw [ruf_ask this.1, if_pos this.2] at hq
        cases hq)
    go_enter Try.func67, Try.ntmps67
    go_wp2_with (first | (go_at_call 118; refine (implRulesFor_any _ t r.series _ (H1.out.below rRu_stable b0) hn R false HRR.out).mono ?_; rintro e w1 ⟨u1, rfl, ho1, b1⟩; replace b1 := below_chain b0 b1; clear ho1))
    go_ret3
    exact ⟨_, _, by rw [HA.out]; rfl, by unfold perRules; rw [HA.out]; exact RusO.nil _ _ _, by unfold perEnds; rw [HA.out]; exact ints_nil _ _ _, b1⟩
  · cases br
    · have HA : Hid (askB r t = false) := Lib.hid (by unfold askB; rw [HR.out]; rfl)
      go_enter Try.func67, Try.ntmps67
      go_wp2_with (first | (go_at_call 118; refine (implRulesFor_any _ t r.series _ (H1.out.below rRu_stable b0) hn R true HRR.out).mono ?_; rintro e w1 ⟨u1, rfl, ho1, b1⟩; obtain ⟨c0, c1, c2, c3⟩ := HC0.out.kept b1; obtain ⟨ga, gn, gc, rfl⟩ := ho1.1.slice; replace b1 := below_chain b0 b1; clear ho1) | (go_at_call 73; refine (implIsRecord_any _ r _ (HV.out _ b1)).mono ?_; rw [HR.out]; rintro e w2 ⟨rfl, b2⟩))
      go_ret3
      exact ⟨_, _, by rw [HA.out]; rfl, by unfold perRules; rw [HA.out]; exact RusO.nil _ _ _, by unfold perEnds; rw [HA.out]; exact ints_nil _ _ _, below_chain b1 b2⟩
    · have hq := HRR.out
      rw [ruf_ask HR.out] at hq
      have hs : isSch t = true := by
        rcases hs : isSch t with _ | _
        · rw [hs] at hq; simp at hq
        · rfl
      rw [if_pos hs] at hq
      obtain ⟨hRf, _⟩ := Prod.mk.inj hq
      have ha : askB r t = true := ask_iff.2 ⟨HR.out, hs⟩
      have HA := Lib.hid ha
      have HPR := Lib.hid (show perRules r t = R by unfold perRules; rw [if_pos ha, hRf])
      have HPE := Lib.hid (show perEnds r t = R.map (endR r) by unfold perEnds; rw [if_pos ha]; unfold endsF; rw [hRf])
      have HRU := Lib.hid (show ∀ u ∈ R, isRu u = true by rw [← hRf]; exact forRu_ok hs r.series)
      have hRl : R.length ≤ 8 := by rw [← hRf]; exact Nat.le_trans (forRu_len t r.series) (sch_len hs)
      have hev : r.evs.length ≤ 6 := (isRec_iff.1 HR.out).2.2.2.1
      clear hq hs hRf ha
      go_enter Try.func67, Try.ntmps67
      go_wp2_with (first | (go_at_call 118; refine (implRulesFor_any _ t r.series _ (H1.out.below rRu_stable b0) hn R true HRR.out).mono ?_; rintro e w1 ⟨u1, rfl, ho1, b1⟩; have HC1 := Lib.hid (HC0.out.kept b1); obtain ⟨c0, c1, c2, c3⟩ := HC1.out; obtain ⟨ga, gc, hgv, gl, gm, gr⟩ := ho1.row.rus; subst hgv; have HO1 := Lib.hid ho1; replace b1 := below_chain b0 b1; unfold maxLen at gm; clear ho1 gr b0 HC0) | (go_at_call 73; refine (implIsRecord_any _ r _ (HV.out _ b1)).mono ?_; rw [HR.out]; rintro e w2 ⟨rfl, b2⟩; have HO2 := Lib.hid ((HO1.out.below b2).wide (Nat.le_refl _) b2.size); replace c0 := cell_kept c0 b2; replace c1 := cell_kept c1 b2; replace c2 := cell_kept c2 b2; replace c3 := cell_kept c3 b2; replace b2 := below_chain b1 b2; clear HO1 HC1 b1) | (go_at_call 119; refine (startDays_any _ r _ (HV.out _ b2) (by omega)).mono ?_; rintro e w3 ⟨mb, D, rfl, hm1, hm2, hown3, hlok, b3⟩; have HO3 := Lib.hid ((HO2.out.below b3).wide (Nat.le_refl _) b3.size); have HM3 := Lib.hid hown3; have HL := Lib.hid hlok; replace b3 := below_chain b2 b3; clear hown3 hlok c0 c1 c2 c3 b2 HO2))
      have R3 := Lib.hid (by obtain ⟨a, c, e, _, _, r⟩ := HO3.out.row.rus; cases e; exact r : R = [] ∨ ∃ b off, b < w3.heap.size ∧ ga = some ⟨b, off, none⟩ ∧ ∀ i, i < R.length → w3.cell? ⟨b, off + i * 4, none⟩ = some (.int .i64 (R.getD i ruD).series) ∧ w3.cell? ⟨b, off + i * 4 + 1, none⟩ = some (.int .i64 (R.getD i ruD).event) ∧ w3.cell? ⟨b, off + i * 4 + 2, none⟩ = some (.int .i64 (R.getD i ruD).days) ∧ w3.cell? ⟨b, off + i * 4 + 3, none⟩ = some (.int .i64 (R.getD i ruD).act) ∧ (R.getD i ruD).ok)
      go_loopw [10, 34] (fun o i wr => ∃ k : Nat, k ≤ R.length ∧ i = .int .i64 k ∧ wr.ownsRow w3.heap.size 3 1 o ((R.take k).map (endR r)).length (((R.take k).map (endR r)).map vI) ∧ Below w3.heap.size w3 wr) (fun _ i _ => R.length - (intOf i).toNat)
      case atStart => exact ⟨0, Nat.zero_le _, rfl, by simpa using World.ownsRow_nil _ _ _ _, Below.refl _ _⟩
      case round =>
        obtain ⟨k, hk, rfl, hO, hb⟩ := hrel
        have hsz := hb.size
        by_cases hlt : k < R.length
        · obtain ⟨bb, o1, hb1, rfl, e1⟩ := R3.out.resolve_left (fun e => by rw [e] at hlt; simp at hlt)
          obtain ⟨q0, q1, q2, q3, hok⟩ := e1 k hlt
          obtain ⟨⟨x0, x1, x2, x3⟩, hx⟩ : ∃ s, R.getD k ruD = s := ⟨_, rfl⟩
          rw [hx] at q0 q1 q2 q3
          simp only at q0 q1 q2 q3
          have f0 := cell_kept q0 hb
          have f1 := cell_kept q1 hb
          have f2 := cell_kept q2 hb
          have f3 := cell_kept q3 hb
          have hxu : isRu ⟨x0, x1, x2, x3⟩ = true := by rw [← hx, getRu_lt hlt]; exact HRU.out _ (List.getElem_mem hlt)
          have hxb := isRu_iff.1 hxu
          simp only at hxb
          have htake := ends_take (r := r) hlt
          rw [hx] at htake
          obtain ⟨P, hP⟩ : ∃ P, (R.take k).map (endR r) = P := ⟨_, rfl⟩
          have hPl : P.length ≤ 8 := by rw [← hP, List.length_map, List.length_take]; omega
          rw [hP] at hO htake
          have HT := Lib.hid htake
          have HMr := Lib.hid (HM3.out.kept (grownBy_of_below hb none) (by simp))
          have hin : inI x1 := by unfold inI; omega
          have HKY := Lib.hid (key_day x1 hin)
          obtain ⟨hh, hat0⟩ := HL.out.day HR.out x1
          have hd1 := dayOf_top HR.out x1
          obtain ⟨d, hd⟩ : ∃ d, dayOf r x1 = d := ⟨_, rfl⟩
          rw [hd] at hh hat0 hd1
          have he : endR r ⟨x0, x1, x2, x3⟩ = if d < 0 then -1 else d + x2 := by unfold endR; simp only; rw [hd]
          have HE := Lib.hid he
          have HAT := Lib.hid hat0
          have g0 : (0 : Int) ≤ (k : Int) := by omega
          have g1 : (k : Int) < (R.length : Int) := by omega
          have hx2 := hxb.2.2.1
          clear q0 q1 q2 q3 hok e1 hx htake hP hxu hin hd he hat0 hxb
          by_cases hn : 0 ≤ d
          · have hh2 : Maps.has D (.int .i64 x1) = true := by rw [hh]; exact decide_eq_true hn
            have hw : IntKind.i64.wrap (d + x2) = d + x2 := Go.IntWalk.i64_in _ (by omega)
            have HV2 := Lib.hid (HAT.out hn)
            have HT2 : Hid ((R.take (k + 1)).map (endR r) = P ++ [d + x2]) := Lib.hid (by rw [HT.out, HE.out, if_neg (by omega)])
            clear hh
            go_wp2_with (first | (at_lookup; refine wpList_lookup_own_ok_int _ rfl _ _ 144 rfl 3 3 .i64 (int_keyed Try.underlying3) Try.underlying144 Try.underlying3 (zero_int _) mb (r.evs.length + 1) D rfl (HMr.out.alloc _) _ _ rfl HKY.out ?_; intro c hat hwc; rw [HV2.out] at hat; obtain rfl : d = c := (by simpa using hat); clear hat hwc; rw [hh2]) | (at_builtin; refine wpList_append_own _ rfl _ _ 30 rfl w3.heap.size 3 i0 (.int .i64 0) 1 8 Try.underlying30 hi hz0 hz1 hz2 rfl (by decide) _ _ _ rfl ((hO.alloc _).alloc _) ⟨wr.heap.size + 1, 0, none⟩ 1 1 [.int .i64 (d + x2)] rfl rfl (cell_oneI _ _ _ (by simp)) (by simp [Value.oneCell']) (by unfold maxLen; omega) (by omega) (by simp; omega) ?_; intro v' w4 hown' hgrow _))
            have HOWN := Lib.hid hown'
            have HB := Lib.hid (below_app (below_al hb _) (Nat.le_refl _) (hO.alloc _) hgrow)
            clear hown' hgrow hO
            go_wp2_with fail
            go_roundw
            case rel => exact ⟨k + 1, by omega, by go_num, (by rw [HT2.out]; simpa [vI] using HOWN.out), HB.out⟩
            case measure => simp [intOf]; omega
          · have hh2 : Maps.has D (.int .i64 x1) = false := by rw [hh]; exact decide_eq_false hn
            have HT2 : Hid ((R.take (k + 1)).map (endR r) = P ++ [-1]) := Lib.hid (by rw [HT.out, HE.out, if_pos (by omega)])
            clear hh
            go_wp2_with (first | (at_lookup; refine wpList_lookup_own_ok_int _ rfl _ _ 144 rfl 3 3 .i64 (int_keyed Try.underlying3) Try.underlying144 Try.underlying3 (zero_int _) mb (r.evs.length + 1) D rfl (HMr.out.alloc _) _ _ rfl HKY.out ?_; intro c hat hwc; clear hat hwc; rw [hh2]) | (at_builtin; refine wpList_append_own _ rfl _ _ 30 rfl w3.heap.size 3 i0 (.int .i64 0) 1 8 Try.underlying30 hi hz0 hz1 hz2 rfl (by decide) _ _ _ rfl ((hO.alloc _).alloc _) ⟨wr.heap.size + 1, 0, none⟩ 1 1 [.int .i64 (-1)] rfl rfl (cell_oneI _ _ _ (by simp)) (by simp [Value.oneCell']) (by unfold maxLen; omega) (by omega) (by simp; omega) ?_; intro v' w4 hown' hgrow _))
            have HOWN := Lib.hid hown'
            have HB := Lib.hid (below_app (below_al hb _) (Nat.le_refl _) (hO.alloc _) hgrow)
            clear hown' hgrow hO
            go_wp2_with fail
            go_roundw
            case rel => exact ⟨k + 1, by omega, by go_num, (by rw [HT2.out]; simpa [vI] using HOWN.out), HB.out⟩
            case measure => simp [intOf]; omega
        · obtain rfl : k = R.length := by omega
          rw [List.take_length] at hO
          have HO := Lib.hid hO
          clear hO
          have s3 := b3.size
          go_wp2_with fail
          go_ret3
          refine ⟨_, _, by rw [HA.out]; rfl, ?_, ?_, b3.trans (hb.mono s3)⟩
          · rw [HPR.out]; exact (HO3.out.below hb).wide (by simp) hsz
          · rw [HPE.out]; exact (ints_ofRow HO.out rfl).wide s3 (Nat.le_refl _)
end Go.Proofs.Ytnfcfinecjgakaa

namespace Go.Proofs.Ytnfcfinecjgakaa
set_option linter.unusedVariables false
open Go.RowKit Go.Sort

theorem wp_scope_forward {P : Program} {Q : Exit → Act → World → Prop} {a : Act} {w : World} {c : Code} (l : Nat) (rest : Code) (hf : findLabel c l = some rest)
    (first : c.wp P (Exit.jump l (fun a w => rest.wp P (Exit.noGoto Q) a w) Q) a w) : (Code.scope c).wp P Q a w :=
  wp_scope_jumps l (fun a w => rest.wp P (Exit.noGoto Q) a w) (fun _ _ => 0) hf first (fun a w hJ => wp_mono hJ (by
    intro e a w h
    cases e <;> first | exact h | exact h.elim))
theorem per_nil {r : Rec} {t : List Ru} (h : (perRules r t).length = 0) : setF r t = (ruD, 0, false) := by
  rcases ha : askB r t with _ | _
  · exact setF_no (.inl ha)
  · refine setF_no (.inr ?_)
    unfold perRules at h
    rw [if_pos ha] at h
    have hq := ask_iff.1 ha
    rcases Int.lt_or_le (dueF r t) 0 with h1 | h1
    · exact h1
    · exact absurd (List.length_eq_zero_iff.1 h) ((set_told hq.1 hq.2).1 h1).1
theorem per_open {r : Rec} {t : List Ru} (h : (-1 : Int) ∈ perEnds r t) : setF r t = (ruD, 0, false) := by
  rcases ha : askB r t with _ | _
  · exact setF_no (.inl ha)
  · refine setF_no (.inr ?_)
    unfold perEnds at h
    rw [if_pos ha] at h
    have hq := ask_iff.1 ha
    rcases Int.lt_or_le (dueF r t) 0 with h1 | h1
    · exact h1
    · exact absurd h ((set_told hq.1 hq.2).1 h1).2
theorem per_told {r : Rec} {t : List Ru} (h : (perRules r t).length ≠ 0) (h2 : ¬ (-1 : Int) ∈ perEnds r t) : askB r t = true ∧ perRules r t = forRu t r.series ∧ perEnds r t = endsF r t ∧ setF r t = (ruleF r t, dueF r t, true) := by
  rcases ha : askB r t with _ | _
  · unfold perRules at h; rw [if_neg (by rw [ha]; simp)] at h; simp at h
  · have hq := ask_iff.1 ha
    have e1 : perRules r t = forRu t r.series := by unfold perRules; rw [if_pos ha]
    have e2 : perEnds r t = endsF r t := by unfold perEnds; rw [if_pos ha]
    refine ⟨rfl, e1, e2, setF_yes ha ((set_told hq.1 hq.2).2 ⟨fun e => h (by rw [e1, e]; rfl), by rw [← e2]; exact h2⟩)⟩
theorem per_len (r : Rec) (t : List Ru) : (perEnds r t).length = (perRules r t).length := by
  unfold perEnds perRules
  split
  · unfold endsF; rw [List.length_map]
  · rfl
theorem per_le (r : Rec) (t : List Ru) : (perRules r t).length ≤ t.length := by
  unfold perRules
  split
  · exact forRu_len _ _
  · exact Nat.zero_le _
set_option maxRecDepth 20000 in
set_option maxHeartbeats 8000000 in
theorem settle_any (v v1 : Value) (r : Rec) (t : List Ru) (w : World) (h : RecV w v r) (h1 : RowR 4 rRu w v1 t) (hn : t.length ≤ 1048576) (q : Ru) (d : Int) (b : Bool) (hres : setF r t = (q, d, b)) :
    Calls Try.prog 71 #[v, v1] w fun e w' => e = .returned (.tuple #[.agg #[.int .i64 q.series, .int .i64 q.event, .int .i64 q.days, .int .i64 q.act], .int .i64 d, .bool b]) ∧ Below w.heap.size w w' := by
  obtain ⟨s, rfl, h0, hok⟩ := h
  have HV := Lib.hid (show ∀ W, Below w.heap.size w W → RecV W (.agg #[.int .i64 r.id, .int .i64 r.series, .int .i64 r.made, s]) r from fun W hb => ⟨s, rfl, h0.below rEv_stable hb, hok⟩)
  have H1 := Lib.hid h1
  have HRES := Lib.hid hres
  have hpl := per_len r t
  have hpe := per_le r t
  obtain ⟨R, hR⟩ : ∃ R, perRules r t = R := ⟨_, rfl⟩
  obtain ⟨E, hE⟩ : ∃ E, perEnds r t = E := ⟨_, rfl⟩
  rw [hR] at hpl hpe
  rw [hE] at hpl
  have HPL := Lib.hid hpl
  have HR := Lib.hid hR
  have HE := Lib.hid hE
  clear h0 hok h1 hres hR hE hpl
  have b0 := below_al (below_al (Below.refl w.heap.size w) (RBOX r s 26)) (.cells #[.int .i64 0, .int .i64 0, .int .i64 0, .int .i64 0] 37 (0, 0))
  have HX0 : Hid (UBox ((w.alloc (RBOX r s 26)).alloc (.cells #[.int .i64 0, .int .i64 0, .int .i64 0, .int .i64 0] 37 (0, 0))) (w.heap.size + 1) ruD) := Lib.hid (by rw [← (show (w.alloc (RBOX r s 26)).heap.size = w.heap.size + 1 by simp)]; exact UBox.new (w.alloc (RBOX r s 26)) ruD 37)
  by_cases hz : R.length = 0
  · have hz1 : ((R.length : Int) == 0) = true := by simp [hz]
    have hz2 : decide ((R.length : Int) = 0) = true := decide_eq_true (by omega)
    have hz3 : decide (R.length = 0) = true := decide_eq_true hz
    have hq := HRES.out
    rw [per_nil (by rw [HR.out]; exact hz)] at hq
    cases hq
    have HZ := Lib.hid hz
    clear hz
    go_enter Try.func71, Try.ntmps71
    go_wp2_with (first | (go_at_call 67; refine (periodsOf_any _ _ r t _ (HV.out _ b0) (H1.out.below rRu_stable b0) hn).mono ?_; rintro e w1 ⟨u1, u2, rfl, ho1, ho2, b1⟩; rw [HR.out] at ho1; rw [HE.out] at ho2; have HX1 := Lib.hid (HX0.out.kept b1); obtain ⟨z0, z1, z2, z3, y0, y1, y2, y3⟩ := HX1.out; simp only [ruD] at z0 z1 z2 z3; replace b1 := below_chain b0 b1; obtain ⟨a1, n1, c1, hu1⟩ := ho1.1.slice; obtain ⟨a1', c1', hv, hl1, hm1, r1⟩ := ho1.row.rus; subst hv; unfold maxLen at hm1; clear hu1 r1 ho1 ho2))
    refine bodyPost_ret (v := .tuple #[.agg #[.int .i64 0, .int .i64 0, .int .i64 0, .int .i64 0], .int .i64 0, .bool false]) (by simp [results, Try.results71, go_sem, z0, z1, z2, z3]) rfl ⟨rfl, ?_⟩
    exact below_putU b1 (by omega) ruD
  · have hz1 : ((R.length : Int) == 0) = false := by simp [hz]
    have hz2 : decide ((R.length : Int) = 0) = false := decide_eq_false (by omega)
    have hz3 : decide (R.length = 0) = false := decide_eq_false hz
    have HZ := Lib.hid hz
    have hpos : (0 : Int) < (R.length : Int) := by omega
    clear hz
    by_cases ho : (-1 : Int) ∈ E
    · have hq := HRES.out
      rw [per_open (by rw [HE.out]; exact ho)] at hq
      cases hq
      have HO := Lib.hid (decide_eq_true ho)
      clear ho
      go_enter Try.func71, Try.ntmps71
      go_wp2_with (first | (go_at_call 67; refine (periodsOf_any _ _ r t _ (HV.out _ b0) (H1.out.below rRu_stable b0) hn).mono ?_; rintro e w1 ⟨u1, u2, rfl, ho1, ho2, b1⟩; rw [HR.out] at ho1; rw [HE.out] at ho2; have HX1 := Lib.hid (HX0.out.kept b1); replace b1 := below_chain b0 b1; obtain ⟨a1', c1', hv, hl1, hm1, r1⟩ := ho1.row.rus; subst hv; unfold maxLen at hm1; have HO2 := Lib.hid ho2; clear r1 ho1 ho2) | (go_at_call 94; refine (contains_any _ E _ _ HO2.out.row).mono ?_; rw [HO.out]; rintro e w2 ⟨rfl, b2⟩; have HX2 := Lib.hid (HX1.out.kept b2); obtain ⟨z0, z1, z2, z3, y0, y1, y2, y3⟩ := HX2.out; simp only [ruD] at z0 z1 z2 z3; replace b2 := below_chain b1 b2))
      refine bodyPost_ret (v := .tuple #[.agg #[.int .i64 0, .int .i64 0, .int .i64 0, .int .i64 0], .int .i64 0, .bool false]) (by simp [results, Try.results71, go_sem, z0, z1, z2, z3]) rfl ⟨rfl, ?_⟩
      exact below_putU b2 (by omega) ruD
    · obtain ⟨ha, hRf, hEf, hset⟩ := per_told (by rw [HR.out]; exact HZ.out) (by rw [HE.out]; exact ho)
      rw [HR.out] at hRf
      rw [HE.out] at hEf
      have hq := HRES.out
      rw [hset] at hq
      cases hq
      have HO := Lib.hid (decide_eq_false ho)
      have hask := ask_iff.1 ha
      have hshut : ∀ u ∈ R, 0 ≤ endR r u := fun u hu => by
        rcases Int.lt_or_le (endR r u) 0 with hlt | hlt
        · exact absurd (by rw [hEf]; exact (open_mem hask.1 hask.2).2 ⟨u, by rw [← hRf]; exact hu, hlt⟩) ho
        · exact hlt
      have HSH := Lib.hid hshut
      have HEM := Lib.hid (show E = R.map (endR r) by rw [hEf, hRf]; rfl)
      have hdec : decR r R = (ruleF r t, dueF r t) := by rw [hRf]; rfl
      have HRU := Lib.hid (show ∀ u ∈ R, isRu u = true by rw [hRf]; exact forRu_ok hask.2 r.series)
      have HDEC := Lib.hid hdec
      obtain ⟨Q1, hQ1⟩ : ∃ x, ruleF r t = x := ⟨_, rfl⟩
      obtain ⟨D1, hD1⟩ : ∃ x, dueF r t = x := ⟨_, rfl⟩
      rw [hQ1, hD1] at HDEC ⊢
      clear ho hRf hEf hset ha hask hshut hdec hQ1 hD1
      go_enter Try.func71, Try.ntmps71
      go_wp2_with (first | (go_at_call 67; refine (periodsOf_any _ _ r t _ (HV.out _ b0) (H1.out.below rRu_stable b0) hn).mono ?_; rintro e w1 ⟨u1, u2, rfl, ho1, ho2, b1⟩; rw [HR.out] at ho1; rw [HE.out] at ho2; have HX1 := Lib.hid (HX0.out.kept b1); replace b1 := below_chain b0 b1; obtain ⟨a1', c1', hv, hl1, hm1, r1⟩ := ho1.row.rus; subst hv; unfold maxLen at hm1; have HO1 := Lib.hid ho1; have HO2 := Lib.hid ho2; obtain ⟨a2, c2, hv2, hl2, hm2, r2⟩ := ho2.row; subst hv2; rw [HPL.out] at hl2; unfold maxLen at hm2; clear r1 r2 ho1 ho2) | (go_at_call 94; refine (contains_any _ E _ _ HO2.out.row).mono ?_; rw [HO.out]; rintro e w2 ⟨rfl, b2⟩; have HX2 := Lib.hid (HX1.out.kept b2); have hx2 := HO1.out.row.below rRu_stable b2; have hy2 := (HO2.out.below b2).row; replace b2 := below_chain b1 b2))
      have hEl : E.length = R.length := HPL.out
      have hR0 : 0 < R.length := by omega
      have hE0 : 0 < E.length := by omega
      obtain ⟨_, _, hva, _, _, rA⟩ := hx2.rus
      cases hva
      obtain ⟨bR, oR, hbR, rfl, eR⟩ := rA.resolve_left (fun e => by rw [e] at hR0; simp at hR0)
      obtain ⟨_, _, hvb, _, _, rB⟩ := hy2
      cases hvb
      obtain ⟨bE, oE, hbE, rfl, eE⟩ := rB.resolve_left (fun e => by rw [e] at hE0; simp at hE0)
      have ER := Lib.hid eR
      have EE := Lib.hid eE
      obtain ⟨q0, q1, q2, q3, hok0⟩ := eR 0 hR0
      obtain ⟨⟨x0, x1, x2, x3⟩, hx⟩ : ∃ s, R.getD 0 ruD = s := ⟨_, rfl⟩
      rw [hx] at q0 q1 q2 q3
      have p0 := eE 0 hE0
      obtain ⟨d0, hd0⟩ : ∃ x, E[0] = x := ⟨_, rfl⟩
      rw [hd0] at p0
      simp only [vI, Nat.zero_mul, Nat.add_zero] at q0 q1 q2 q3 p0
      have HXX := Lib.hid hx
      have HD0 := Lib.hid hd0
      have ge : (0 : Int) < (E.length : Int) := by omega
      clear hEl eR eE rA rB hx2 hok0 hx hd0 HO1 HO2 HX1 b1 b0 HX0
      have hd00 : d0 = endR r ⟨x0, x1, x2, x3⟩ := by
        have e1 : E[0]? = some d0 := by rw [List.getElem?_eq_getElem hE0, HD0.out]
        rw [HEM.out, List.getElem?_map, List.getElem?_eq_getElem hR0, ← getRu_lt hR0, HXX.out] at e1
        simpa using e1.symm
      have HF0 : Hid (decF r (R.drop 0) ⟨x0, x1, x2, x3⟩ d0 = (Q1, D1)) := Lib.hid (by
        have e2 := drop_ru hR0
        rw [HXX.out] at e2
        have e3 : R = ⟨x0, x1, x2, x3⟩ :: R.drop 1 := by simpa using e2
        rw [hd00, ← HDEC.out]
        conv => rhs; rw [e3]
        rw [dec_head (by rw [← e3]; intro u hu; have := HSH.out u hu; omega), ← e3, List.drop_zero])
      clear hd00
      go_region
      go_wp2_with fail
      go_loopw [11, 37] (fun due i wr => ∃ (k : Nat) (b : Ru) (dd : Int), k ≤ R.length ∧ i = .int .i64 k ∧ due = .int .i64 dd ∧ Hid (decF r (R.drop k) b dd = (Q1, D1)) ∧ Hid (UBox wr w2.heap.size b) ∧ Below w2.heap.size w2 wr) (fun _ i _ => R.length - (intOf i).toNat)
      case atStart => exact ⟨0, ⟨x0, x1, x2, x3⟩, d0, Nat.zero_le _, rfl, rfl, HF0, Lib.hid ((UBox.new w2 ⟨x0, x1, x2, x3⟩ _).drew), (below_al (Below.refl _ _) _).drew⟩
      case round =>
        clear HF0 q0 q1 q2 q3 p0
        obtain ⟨k, b, dd, hk, rfl, rfl, HF, HB, hb⟩ := hrel
        have bw := b2.trans (hb.mono b2.size)
        have HX := Lib.hid (HX2.out.kept hb)
        have hgl := HB.out.lt
        by_cases hlt : k < R.length
        · have hlE : k < E.length := by have := HPL.out; omega
          obtain ⟨q0, q1, q2, q3, hok⟩ := ER.out k hlt
          obtain ⟨⟨z0, z1, z2, z3⟩, hx⟩ : ∃ s, R.getD k ruD = s := ⟨_, rfl⟩
          rw [hx] at q0 q1 q2 q3
          have p0 := EE.out k hlE
          obtain ⟨e, he⟩ : ∃ x, E[k] = x := ⟨_, rfl⟩
          rw [he] at p0
          simp only [vI] at q0 q1 q2 q3 p0
          have hee : e = endR r ⟨z0, z1, z2, z3⟩ := by
            have e1 : E[k]? = some e := by rw [List.getElem?_eq_getElem hlE, he]
            rw [HEM.out, List.getElem?_map, List.getElem?_eq_getElem hlt, ← getRu_lt hlt, hx] at e1
            simpa using e1.symm
          have hns : ¬ endR r ⟨z0, z1, z2, z3⟩ < 0 := by rw [← hx, getRu_lt hlt]; have := HSH.out _ (List.getElem_mem hlt); omega
          have hdrop := drop_ru hlt
          rw [hx] at hdrop
          have hcons : (if dd < e ∨ (e = dd ∧ z3 < b.act) then decF r (R.drop (k + 1)) ⟨z0, z1, z2, z3⟩ e else decF r (R.drop (k + 1)) b dd) = (Q1, D1) := by
            rw [hee, ← decF_cons hns, ← hdrop]; exact HF.out
          have HCO := Lib.hid hcons
          have f0 := cell_kept q0 hb
          have f1 := cell_kept q1 hb
          have f2 := cell_kept q2 hb
          have f3 := cell_kept q3 hb
          have e0 := cell_kept p0 hb
          have g0 : (0 : Int) ≤ (k : Int) := by omega
          have g1 : (k : Int) < (R.length : Int) := by omega
          have g2 : (k : Int) < (E.length : Int) := by omega
          obtain ⟨b0, b1', b2', b3⟩ := b
          clear q0 q1 q2 q3 p0 hok hx he hee hns hdrop hcons HF
          go_wp2_with fail
          generalize hWE : wr.alloc (.cells #[.int .i64 z0, .int .i64 z1, .int .i64 z2, .int .i64 z3] 37 (0, 0)) = wE
          have bE : Below wr.heap.size wr wE := by rw [← hWE]; exact below_al (Below.refl _ _) _
          have HU : Hid (UBox wE wr.heap.size ⟨z0, z1, z2, z3⟩) := Lib.hid (by rw [← hWE]; exact UBox.new wr ⟨z0, z1, z2, z3⟩ _)
          have e0' := cell_kept e0 bE
          have HB' := Lib.hid (HB.out.kept bE)
          have bg := hb.trans (bE.mono hb.size)
          have hne : wr.heap.size ≠ w2.heap.size := by omega
          clear hWE e0 f0 f1 f2 f3 HX HB
          obtain ⟨c0, c1, c2', c3, y0, y1, y2, y3⟩ := HB'.out
          obtain ⟨u0, u1, u2, u3, t0, t1, t2, t3⟩ := HU.out
          simp only at c0 c1 c2' c3 u0 u1 u2 u3
          clear t0 t1 t2 t3
          by_cases h1 : dd < e
          · have HZ := Lib.hid HCO.out
            rw [if_pos (.inl h1)] at HZ
            refine wp_scope_forward 0 _ rfl ?_
            go_wp2_with fail
            apply wp_goto
            refine And.intro (a := 0 = 0) rfl ?_
            show Code.wp _ _ _ _ _
            go_wp2_with fail
            go_region
            rw [Exit.noGoto_normal]
            go_wp2_with fail
            go_roundw
            case rel => exact ⟨k + 1, ⟨z0, z1, z2, z3⟩, e, by omega, by go_num, rfl, HZ, Lib.hid ((HB'.out.put ⟨z0, z1, z2, z3⟩).drew), (below_putU bg (Nat.le_refl _) ⟨z0, z1, z2, z3⟩).drew⟩
            case measure => simp [intOf]; omega
          · by_cases h2 : e < dd
            · have h2d : decide (e < dd) = true := decide_eq_true h2
              have HZ := Lib.hid HCO.out
              rw [if_neg (by rintro (q | ⟨q, _⟩) <;> omega)] at HZ
              go_step3
              go_wp2_with fail
              try rw [Exit.noGoto_exit]
              go_wp2_with fail
              go_roundw
              case rel => exact ⟨k + 1, ⟨b0, b1', b2', b3⟩, dd, by omega, by go_num, rfl, HZ, HB', bg⟩
              case measure => simp [intOf]; omega
            · have h2d : decide (e < dd) = false := decide_eq_false h2
              by_cases h3 : z3 < b3
              · have h3d : decide (b3 ≤ z3) = false := decide_eq_false (by omega)
                have HZ := Lib.hid HCO.out
                rw [if_pos (.inr ⟨by omega, h3⟩)] at HZ
                go_step3
                go_wp2_with fail
                go_step3
                go_wp2_with fail
                go_region
                rw [Exit.noGoto_normal]
                go_wp2_with fail
                go_roundw
                case rel => exact ⟨k + 1, ⟨z0, z1, z2, z3⟩, e, by omega, by go_num, rfl, HZ, Lib.hid ((HB'.out.put ⟨z0, z1, z2, z3⟩).drew), (below_putU bg (Nat.le_refl _) ⟨z0, z1, z2, z3⟩).drew⟩
                case measure => simp [intOf]; omega
              · have h3d : decide (b3 ≤ z3) = true := decide_eq_true (by omega)
                have HZ := Lib.hid HCO.out
                rw [if_neg (by rintro (q | ⟨_, q⟩); · omega
                               · exact h3 q)] at HZ
                go_step3
                go_wp2_with fail
                try rw [Exit.noGoto_exit]
                go_wp2_with fail
                go_roundw
                case rel => exact ⟨k + 1, ⟨b0, b1', b2', b3⟩, dd, by omega, by go_num, rfl, HZ, HB', bg⟩
                case measure => simp [intOf]; omega
        · obtain rfl : k = R.length := by omega
          have hfin := HF.out
          rw [List.drop_length] at hfin
          obtain ⟨rfl, rfl⟩ := Prod.mk.inj (show (b, dd) = (Q1, D1) from hfin)
          obtain ⟨b0, b1', b2', b3⟩ := b
          obtain ⟨p0, p1, p2, p3, y0, y1, y2, y3⟩ := HB.out
          obtain ⟨z0, z1, z2, z3, u0, u1, u2, u3⟩ := HX.out
          simp only [ruD] at z0 z1 z2 z3 p0 p1 p2 p3 ⊢
          have hXl := HX2.out.lt
          have hne : w2.heap.size ≠ w.heap.size + 1 := by omega
          clear hfin
          go_wp2_with fail
          refine bodyPost_ret (v := .tuple #[.agg #[.int .i64 b0, .int .i64 b1', .int .i64 b2', .int .i64 b3], .int .i64 dd, .bool true]) (by simp [results, Try.results71, go_sem, z0, z1, z2, z3]) rfl ⟨rfl, ?_⟩
          exact below_putU bw (by omega) ⟨b0, b1', b2', b3⟩
end Go.Proofs.Ytnfcfinecjgakaa

namespace Go.Proofs.Ytnfcfinecjgakaa
set_option linter.unusedVariables false
open Go.RowKit Go.Sort

theorem implEndsOf_any (v v1 : Value) (r : Rec) (t : List Ru) (w : World) (h : RecV w v r) (h1 : RowR 4 rRu w v1 t) (hn : t.length ≤ 1048576) (xs : List Int) (b : Bool) (hres : endsRes r t = (xs, b)) :
    Calls Try.prog 9 #[v, v1] w fun e w' => ∃ v', e = .returned (.tuple #[v', .bool b]) ∧ IntsO w.heap.size w'.heap.size w' v' xs ∧ Below w.heap.size w w' := by
  obtain ⟨s, rfl, h0, hok⟩ := h
  have HV := Lib.hid (show ∀ W, Below w.heap.size w W → RecV W (.agg #[.int .i64 r.id, .int .i64 r.series, .int .i64 r.made, s]) r from fun W hb => ⟨s, rfl, h0.below rEv_stable hb, hok⟩)
  have H1 := Lib.hid h1
  have b0 := below_al (Below.refl w.heap.size w) (RBOX r s 26)
  have hxs : perEnds r t = xs ∧ askB r t = b := by
    rcases ha : askB r t with _ | _
    · obtain ⟨rfl, rfl⟩ := endsRes_no hres ha
      exact ⟨by unfold perEnds; rw [if_neg (by rw [ha]; simp)], rfl⟩
    · obtain ⟨rfl, rfl⟩ := endsRes_yes hres ha
      exact ⟨by unfold perEnds; rw [if_pos ha], rfl⟩
  have HXS := Lib.hid hxs
  clear h0 hok h1 hres hxs
  go_enter Try.func9, Try.ntmps9
  go_wp2_with (first | (go_at_call 67; refine (periodsOf_any _ _ r t _ (HV.out _ b0) (H1.out.below rRu_stable b0) hn).mono ?_; rintro e w1 ⟨u1, u2, rfl, ho1, ho2, b1⟩; rw [HXS.out.1] at ho2; rw [HXS.out.2]; have HO2 := Lib.hid ho2; replace b1 := below_chain b0 b1; clear ho1 ho2))
  go_ret2
  exact ⟨_, rfl, HO2.out.wide (by simp) (Nat.le_refl _), b1⟩

theorem implDueDay_any (v v1 : Value) (r : Rec) (t : List Ru) (w : World) (h : RecV w v r) (h1 : RowR 4 rRu w v1 t) (hn : t.length ≤ 1048576) (d : Int) (b : Bool) (hres : dueRes r t = (d, b)) :
    Calls Try.prog 12 #[v, v1] w fun e w' => e = .returned (.tuple #[.int .i64 d, .bool b]) ∧ Below w.heap.size w w' := by
  obtain ⟨s, rfl, h0, hok⟩ := h
  have HV := Lib.hid (show ∀ W, Below w.heap.size w W → RecV W (.agg #[.int .i64 r.id, .int .i64 r.series, .int .i64 r.made, s]) r from fun W hb => ⟨s, rfl, h0.below rEv_stable hb, hok⟩)
  have H1 := Lib.hid h1
  have b0 := below_al (Below.refl w.heap.size w) (RBOX r s 26)
  obtain ⟨q, d', b', hs⟩ : ∃ q d' b', setF r t = (q, d', b') := ⟨_, _, _, rfl⟩
  unfold dueRes at hres
  rw [hs] at hres
  obtain ⟨rfl, rfl⟩ := Prod.mk.inj hres
  have HS := Lib.hid hs
  clear h0 hok h1 hres hs
  go_enter Try.func12, Try.ntmps12
  go_wp2_with (first | (go_at_call 71; refine (settle_any _ _ r t _ (HV.out _ b0) (H1.out.below rRu_stable b0) hn q d' b' HS.out).mono ?_; rintro e w1 ⟨rfl, b1⟩; replace b1 := below_chain b0 b1))
  go_ret2
  exact ⟨rfl, below_al b1 _⟩

theorem implDecidingRule_any (v v1 : Value) (r : Rec) (t : List Ru) (w : World) (h : RecV w v r) (h1 : RowR 4 rRu w v1 t) (hn : t.length ≤ 1048576) (q : Ru) (b : Bool) (hres : decRes r t = (q, b)) :
    Calls Try.prog 16 #[v, v1] w fun e w' => e = .returned (.tuple #[.agg #[.int .i64 q.series, .int .i64 q.event, .int .i64 q.days, .int .i64 q.act], .bool b]) ∧ Below w.heap.size w w' := by
  obtain ⟨s, rfl, h0, hok⟩ := h
  have HV := Lib.hid (show ∀ W, Below w.heap.size w W → RecV W (.agg #[.int .i64 r.id, .int .i64 r.series, .int .i64 r.made, s]) r from fun W hb => ⟨s, rfl, h0.below rEv_stable hb, hok⟩)
  have H1 := Lib.hid h1
  have b0 := below_al (Below.refl w.heap.size w) (RBOX r s 26)
  obtain ⟨q', d', b', hs⟩ : ∃ q d' b', setF r t = (q, d', b') := ⟨_, _, _, rfl⟩
  unfold decRes at hres
  rw [hs] at hres
  obtain ⟨rfl, rfl⟩ := Prod.mk.inj hres
  have HS := Lib.hid hs
  replace b0 := below_al b0 (.cells #[.int .i64 0, .int .i64 0, .int .i64 0, .int .i64 0] 37 (0, 0))
  have HX0 : Hid (UBox ((w.alloc (RBOX r s 26)).alloc (.cells #[.int .i64 0, .int .i64 0, .int .i64 0, .int .i64 0] 37 (0, 0))) (w.heap.size + 1) ruD) := Lib.hid (by rw [← (show (w.alloc (RBOX r s 26)).heap.size = w.heap.size + 1 by simp)]; exact UBox.new (w.alloc (RBOX r s 26)) ruD 37)
  clear h0 hok h1 hres hs
  obtain ⟨x0, x1, x2, x3⟩ := q'
  go_enter Try.func16, Try.ntmps16
  go_wp2_with (first | (go_at_call 71; refine (settle_any _ _ r t _ (HV.out _ b0) (H1.out.below rRu_stable b0) hn _ d' b' HS.out).mono ?_; rintro e w1 ⟨rfl, b1⟩; have HX1 := Lib.hid ((HX0.out.kept b1).al (.cells #[.int .i64 x0, .int .i64 x1, .int .i64 x2, .int .i64 x3] 37 (0, 0))); obtain ⟨z0, z1, z2, z3, y0, y1, y2, y3⟩ := HX1.out; simp only [ruD] at z0 z1 z2 z3; replace b1 := below_chain b0 b1; simp only))
  refine bodyPost_ret (v := .tuple #[.agg #[.int .i64 x0, .int .i64 x1, .int .i64 x2, .int .i64 x3], .bool b']) (by simp [results, Try.results16 , go_sem, z0, z1, z2, z3]) rfl ⟨rfl, ?_⟩
  exact below_putU (below_al b1 _) (by omega) ⟨x0, x1, x2, x3⟩

set_option maxRecDepth 20000 in
set_option maxHeartbeats 2000000 in
theorem implIsDue_any (v v1 : Value) (r : Rec) (t : List Ru) (dy : Int) (w : World) (h : RecV w v r) (h1 : RowR 4 rRu w v1 t) (hn : t.length ≤ 1048576) (a b : Bool) (hres : isdRes r t dy = (a, b)) :
    Calls Try.prog 24 #[v, v1, .int .i64 dy] w fun e w' => e = .returned (.tuple #[.bool a, .bool b]) ∧ Below w.heap.size w w' := by
  obtain ⟨s, rfl, h0, hok⟩ := h
  have HV := Lib.hid (show ∀ W, Below w.heap.size w W → RecV W (.agg #[.int .i64 r.id, .int .i64 r.series, .int .i64 r.made, s]) r from fun W hb => ⟨s, rfl, h0.below rEv_stable hb, hok⟩)
  have H1 := Lib.hid h1
  have b0 := below_al (Below.refl w.heap.size w) (RBOX r s 26)
  have HC0 := Lib.hid (Box4.new w r s 26)
  obtain ⟨br, hr⟩ : ∃ b, isRec r = b := ⟨_, rfl⟩
  obtain ⟨bs, hs⟩ : ∃ b, isSch t = b := ⟨_, rfl⟩
  obtain ⟨bd, hd⟩ : ∃ b, decide (0 ≤ dy ∧ dy ≤ 20000) = b := ⟨_, rfl⟩
  have HR := Lib.hid hr
  have HS := Lib.hid hs
  have HD := Lib.hid hd
  have HRES := Lib.hid hres
  clear h0 hok h1 hres hr hs hd
  have NO : ¬ (askB r t = true ∧ (0 ≤ dy ∧ dy ≤ 20000)) → a = false ∧ b = false := fun hn => by
    have := HRES.out
    unfold isdRes at this
    rw [if_neg hn] at this
    obtain ⟨h1, h2⟩ := Prod.mk.inj this
    exact ⟨h1.symm, h2.symm⟩
  have NO := Lib.hid NO
  cases br
  · obtain ⟨rfl, rfl⟩ := NO.out (fun h => by have := ask_iff.1 h.1; rw [HR.out] at this; exact absurd this.1 (by simp))
    go_enter Try.func24, Try.ntmps24
    go_wp2_with (first | (go_at_call 73; refine (implIsRecord_any _ r _ (HV.out _ b0)).mono ?_; rw [HR.out]; rintro e w1 ⟨rfl, b1⟩; replace b1 := below_chain b0 b1))
    go_ret2
    exact ⟨rfl, b1⟩
  · cases bs
    · obtain ⟨rfl, rfl⟩ := NO.out (fun h => by have := ask_iff.1 h.1; rw [HS.out] at this; exact absurd this.2 (by simp))
      go_enter Try.func24, Try.ntmps24
      go_wp2_with (first | (go_at_call 73; refine (implIsRecord_any _ r _ (HV.out _ b0)).mono ?_; rw [HR.out]; rintro e w1 ⟨rfl, b1⟩; replace b1 := below_chain b0 b1) | (go_at_call 83; refine (implIsSchedule_any _ t _ (H1.out.below rRu_stable b1)).mono ?_; rw [HS.out]; rintro e w2 ⟨rfl, b2⟩; replace b2 := below_chain b1 b2))
      go_ret2
      exact ⟨rfl, b2⟩
    · cases bd
      · obtain ⟨rfl, rfl⟩ := NO.out (fun h => of_decide_eq_false HD.out h.2)
        go_enter Try.func24, Try.ntmps24
        go_wp2_with (first | (go_at_call 73; refine (implIsRecord_any _ r _ (HV.out _ b0)).mono ?_; rw [HR.out]; rintro e w1 ⟨rfl, b1⟩; replace b1 := below_chain b0 b1) | (go_at_call 83; refine (implIsSchedule_any _ t _ (H1.out.below rRu_stable b1)).mono ?_; rw [HS.out]; rintro e w2 ⟨rfl, b2⟩; replace b2 := below_chain b1 b2) | (go_at_call 84; refine (isDay_any _ _).mono ?_; rw [HD.out]; rintro e w3 ⟨rfl, rfl⟩))
        go_ret2
        exact ⟨rfl, b2⟩
      · have hask : askB r t = true := ask_iff.2 ⟨HR.out, HS.out⟩
        have hq := HRES.out
        unfold isdRes at hq
        rw [if_pos ⟨hask, of_decide_eq_true HD.out⟩] at hq
        obtain ⟨hqa, rfl⟩ := Prod.mk.inj hq
        obtain ⟨n, k, hdr⟩ : ∃ n k, dueRes r t = (n, k) := ⟨_, _, rfl⟩
        have hA : a = (k && decide (n ≤ dy)) := by
          rw [← hqa]
          unfold dueRes at hdr
          rcases Int.lt_or_le (dueF r t) 0 with hl | hl
          · rw [setF_no (.inr hl)] at hdr
            obtain ⟨rfl, rfl⟩ := Prod.mk.inj hdr
            simp; omega
          · rw [setF_yes hask hl] at hdr
            obtain ⟨rfl, rfl⟩ := Prod.mk.inj hdr
            simp [hl]
        subst hA
        have HDR := Lib.hid hdr
        clear hq hqa hask hdr NO HRES
        have hc := HC0.out
        cases k
        · go_enter Try.func24, Try.ntmps24
          go_wp2_with (first | (go_at_call 73; refine (implIsRecord_any _ r _ (HV.out _ b0)).mono ?_; rw [HR.out]; rintro e w1 ⟨rfl, b1⟩; have HC1 := Lib.hid (HC0.out.kept b1); replace b1 := below_chain b0 b1) | (go_at_call 83; refine (implIsSchedule_any _ t _ (H1.out.below rRu_stable b1)).mono ?_; rw [HS.out]; rintro e w2 ⟨rfl, b2⟩; obtain ⟨c0, c1, c2, c3⟩ := HC1.out.kept b2; replace b2 := below_chain b1 b2) | (go_at_call 84; refine (isDay_any _ _).mono ?_; rw [HD.out]; rintro e w3 ⟨rfl, rfl⟩) | (go_at_call 12; refine (implDueDay_any _ _ r t _ (HV.out _ b2) (H1.out.below rRu_stable b2) hn n false HDR.out).mono ?_; rintro e w4 ⟨rfl, b4⟩; replace b4 := below_chain b2 b4))
          go_ret2
          exact ⟨rfl, b4⟩
        · go_enter Try.func24, Try.ntmps24
          go_wp2_with (first | (go_at_call 73; refine (implIsRecord_any _ r _ (HV.out _ b0)).mono ?_; rw [HR.out]; rintro e w1 ⟨rfl, b1⟩; have HC1 := Lib.hid (HC0.out.kept b1); replace b1 := below_chain b0 b1) | (go_at_call 83; refine (implIsSchedule_any _ t _ (H1.out.below rRu_stable b1)).mono ?_; rw [HS.out]; rintro e w2 ⟨rfl, b2⟩; obtain ⟨c0, c1, c2, c3⟩ := HC1.out.kept b2; replace b2 := below_chain b1 b2) | (go_at_call 84; refine (isDay_any _ _).mono ?_; rw [HD.out]; rintro e w3 ⟨rfl, rfl⟩) | (go_at_call 12; refine (implDueDay_any _ _ r t _ (HV.out _ b2) (H1.out.below rRu_stable b2) hn n true HDR.out).mono ?_; rintro e w4 ⟨rfl, b4⟩; replace b4 := below_chain b2 b4))
          go_ret2
          exact ⟨by simp, b4⟩

theorem implDueAfter_any (v v1 : Value) (r : Rec) (t : List Ru) (e : Ev) (w : World) (lo hi : Nat) (h : RecO lo hi w v r) (he : e.ok) (h1 : RowR 4 rRu w v1 t) (hn : t.length ≤ 1048576) (d : Int) (b : Bool) (hres : aftRes r t e = (d, b)) :
    Calls Try.prog 21 #[v, v1, .agg #[.int .i64 e.kind, .int .i64 e.day]] w fun e w' => e = .returned (.tuple #[.int .i64 d, .bool b]) ∧ Below w.heap.size w w' := by
  obtain ⟨s, rfl, hs, hok⟩ := h
  have H1 := Lib.hid h1
  have b0 := below_al (below_al (Below.refl w.heap.size w) (RBOX r s 26)) (.cells #[.int .i64 e.kind, .int .i64 e.day] 43 (0, 0))
  have HR0 : Hid (RecO lo hi ((w.alloc (RBOX r s 26)).alloc (.cells #[.int .i64 e.kind, .int .i64 e.day] 43 (0, 0))) (.agg #[.int .i64 r.id, .int .i64 r.series, .int .i64 r.made, s]) r) := Lib.hid (RecO.below ⟨s, rfl, hs, hok⟩ b0)
  obtain ⟨q, k, hq⟩ : ∃ q k, addRes r e = (q, k) := ⟨_, _, rfl⟩
  have HQ := Lib.hid hq
  have HRES := Lib.hid hres
  clear hs hok h1 hres hq
  cases k
  · have hd : d = 0 ∧ b = false := by
      have h2 := HRES.out
      have h3 := HQ.out
      unfold addRes at h3
      split at h3
      · cases h3
      · rename_i hc
        unfold aftRes at h2
        rw [if_neg hc] at h2
        cases h2
        exact ⟨rfl, rfl⟩
    obtain ⟨rfl, rfl⟩ := hd
    go_enter Try.func21, Try.ntmps21
    go_wp2_with (first | (go_at_call 76; refine (implAddEvent_any _ r e _ lo hi HR0.out he q false HQ.out).mono ?_; rintro en w1 ⟨v', rfl, ho, b1⟩; replace b1 := below_chain b0 b1; obtain ⟨sx, rfl, hox, _⟩ := ho; obtain ⟨sa, sn, sc, rfl⟩ := hox.1.slice; clear hox))
    go_ret2
    exact ⟨rfl, below_al b1 _⟩
  · have hdd : dueRes q t = (d, b) := by
      have h2 := HRES.out
      have h3 := HQ.out
      unfold addRes at h3
      split at h3
      · rename_i hc
        unfold aftRes at h2
        rw [if_pos hc] at h2
        cases h3
        exact h2
      · cases h3
    have HDD := Lib.hid hdd
    clear hdd
    go_enter Try.func21, Try.ntmps21
    go_wp2_with (first | (go_at_call 76; refine (implAddEvent_any _ r e _ lo hi HR0.out he q true HQ.out).mono ?_; rintro en w1 ⟨v', rfl, ho, b1⟩; replace b1 := below_chain b0 b1; obtain ⟨sx, rfl, hox, hokx⟩ := ho; obtain ⟨sa, sn, sc, rfl⟩ := hox.1.slice; have HOX := Lib.hid hox; have HOK := Lib.hid hokx; clear hox hokx) | (go_at_call 12; refine (implDueDay_any _ _ q t _ (RecO.toV (RecO.below ⟨_, rfl, HOX.out, HOK.out⟩ (below_al (Below.refl _ _) _))) (H1.out.below rRu_stable (below_al b1 _)) hn d b HDD.out).mono ?_; rintro e w2 ⟨rfl, b2⟩; replace b2 := below_chain (below_al b1 _) b2))
    go_ret2
    exact ⟨rfl, b2⟩

theorem perEnds_map (r : Rec) (t : List Ru) : perEnds r t = (perRules r t).map (endR r) := by
  unfold perEnds perRules
  split
  · rfl
  · rfl
theorem per_sign {r : Rec} {t : List Ru} : ∀ u ∈ perRules r t, (endR r u = -1 ↔ endR r u < 0) := by
  intro u hu
  rcases ha : askB r t with _ | _
  · unfold perRules at hu; rw [if_neg (by rw [ha]; simp)] at hu; cases hu
  · have hq := ask_iff.1 ha
    unfold perRules at hu
    rw [if_pos ha] at hu
    exact endR_eq hq.1 (forRu_ok hq.2 _ u hu)
set_option maxRecDepth 20000 in
set_option maxHeartbeats 4000000 in
theorem implWaitsFor_any (v v1 : Value) (r : Rec) (t : List Ru) (w : World) (h : RecV w v r) (h1 : RowR 4 rRu w v1 t) (hn : t.length ≤ 1048576) (xs : List Int) (b : Bool) (hres : waitRes r t = (xs, b)) :
    Calls Try.prog 14 #[v, v1] w fun e w' => ∃ v', e = .returned (.tuple #[v', .bool b]) ∧ IntsO w.heap.size w'.heap.size w' v' xs ∧ Below w.heap.size w w' := by
  obtain ⟨i0, hi, hz0, hz1, hz2⟩ := info_parts Try.info_intI
  obtain ⟨s, rfl, h0, hok⟩ := h
  have HV := Lib.hid (show ∀ W, Below w.heap.size w W → RecV W (.agg #[.int .i64 r.id, .int .i64 r.series, .int .i64 r.made, s]) r from fun W hb => ⟨s, rfl, h0.below rEv_stable hb, hok⟩)
  have H1 := Lib.hid h1
  have b0 := below_al (Below.refl w.heap.size w) (RBOX r s 26)
  have hxs : xs = waitU r (perRules r t) ∧ askB r t = b := by
    rcases ha : askB r t with _ | _
    · obtain ⟨rfl, rfl⟩ := waitRes_no hres ha
      exact ⟨by unfold perRules; rw [if_neg (by rw [ha]; simp)]; rfl, rfl⟩
    · obtain ⟨rfl, rfl⟩ := waitRes_yes hres ha
      exact ⟨by unfold perRules; rw [if_pos ha]; rfl, rfl⟩
  have hpe := per_le r t
  have hpl := per_len r t
  have hmap := perEnds_map r t
  have hsg := per_sign (r := r) (t := t)
  obtain ⟨R, hR⟩ : ∃ R, perRules r t = R := ⟨_, rfl⟩
  obtain ⟨E, hE⟩ : ∃ E, perEnds r t = E := ⟨_, rfl⟩
  rw [hR] at hpe hpl hmap hsg hxs
  rw [hE] at hpl hmap
  have HXS := Lib.hid hxs
  have HR := Lib.hid hR
  have HE := Lib.hid hE
  have HPL := Lib.hid hpl
  have HEM := Lib.hid hmap
  have HSG := Lib.hid hsg
  clear h0 hok h1 hres hxs hR hE hpl hmap hsg
  go_enter Try.func14, Try.ntmps14
  go_wp2_with (first | (go_at_call 67; refine (periodsOf_any _ _ r t _ (HV.out _ b0) (H1.out.below rRu_stable b0) hn).mono ?_; rintro e w1 ⟨u1, u2, rfl, ho1, ho2, b1⟩; rw [HXS.out.2]; rw [HR.out] at ho1; rw [HE.out] at ho2; replace b1 := below_chain b0 b1; obtain ⟨a1, c1, hv, hl1, hm1, r1⟩ := ho1.row.rus; subst hv; unfold maxLen at hm1; obtain ⟨a2, c2, hv2, hl2, hm2, r2⟩ := ho2.row; subst hv2; rw [HPL.out] at hl2; unfold maxLen at hm2; have R1 := Lib.hid r1; have R2 := Lib.hid r2; clear r1 r2 ho1 ho2))
  have s1 := b1.size
  go_loopw [9, 21] (fun o i wr => ∃ k : Nat, k ≤ R.length ∧ i = .int .i64 k ∧ wr.ownsRow w1.heap.size 3 1 o (waitU r (R.take k)).length ((waitU r (R.take k)).map vI) ∧ Below w1.heap.size w1 wr) (fun _ i _ => R.length - (intOf i).toNat)
  case atStart => exact ⟨0, Nat.zero_le _, rfl, by simpa [waitU] using World.ownsRow_nil _ _ _ _, Below.refl _ _⟩
  case round =>
    obtain ⟨k, hk, rfl, hO, hb⟩ := hrel
    have hsz := hb.size
    by_cases hlt : k < R.length
    · have hlE : k < E.length := by have := HPL.out; omega
      obtain ⟨bb, o1, hb1, rfl, e1⟩ := R1.out.resolve_left (fun e => by rw [e] at hlt; simp at hlt)
      obtain ⟨q0, q1, q2, q3, hok⟩ := e1 k hlt
      obtain ⟨⟨x0, x1, x2, x3⟩, hx⟩ : ∃ s, R.getD k ruD = s := ⟨_, rfl⟩
      rw [hx] at q0 q1 q2 q3
      simp only at q0 q1 q2 q3
      obtain ⟨bE, oE, hbE, rfl, eE⟩ := R2.out.resolve_left (fun e => by rw [e] at hlE; simp at hlE)
      have p0 := eE k hlE
      obtain ⟨e, he⟩ : ∃ x, E[k] = x := ⟨_, rfl⟩
      rw [he] at p0
      simp only [vI] at p0
      have hee : e = endR r ⟨x0, x1, x2, x3⟩ := by
        have e1 : E[k]? = some e := by rw [List.getElem?_eq_getElem hlE, he]
        rw [HEM.out, List.getElem?_map, List.getElem?_eq_getElem hlt, ← getRu_lt hlt, hx] at e1
        simpa using e1.symm
      have hsg : (e = -1 ↔ e < 0) := by
        rw [hee, ← hx, getRu_lt hlt]
        exact HSG.out _ (List.getElem_mem hlt)
      have hsucc := wait_take (r := r) hlt
      rw [hx, ← hee] at hsucc
      obtain ⟨Pp, hP⟩ : ∃ P, waitU r (R.take k) = P := ⟨_, rfl⟩
      have hPl : Pp.length ≤ k := by
        rw [← hP]
        have := waitU_len r (R.take k)
        rw [List.length_take] at this
        omega
      rw [hP] at hO hsucc
      have f0 := cell_kept q0 hb
      have f1 := cell_kept q1 hb
      have f2 := cell_kept q2 hb
      have f3 := cell_kept q3 hb
      have e0 := cell_kept p0 hb
      have e0' : ∀ o, (wr.alloc o).cell? ⟨bE, oE + k, none⟩ = some (.int .i64 e) := fun o => below_al_cell e0 o
      have HSU := Lib.hid hsucc
      have g0 : (0 : Int) ≤ (k : Int) := by omega
      have g1 : (k : Int) < (R.length : Int) := by omega
      have g2 : (k : Int) < (E.length : Int) := by omega
      clear q0 q1 q2 q3 p0 hok e1 hx hsucc hP eE he hee
      by_cases hq : e = -1
      · have hq1 : (e == -1) = true := by simp [hq]
        have HSU2 := Lib.hid (HSU.out.trans (if_pos (hsg.1 hq)))
        clear hsg hq
        go_wp2_with (first | (at_builtin; refine wpList_append_own _ rfl _ _ 30 rfl w1.heap.size 3 i0 (.int .i64 0) 1 8 Try.underlying30 hi hz0 hz1 hz2 rfl (by decide) _ _ _ rfl ((hO.alloc _).alloc _) ⟨wr.heap.size + 1, 0, none⟩ 1 1 [.int .i64 x1] rfl rfl (cell_oneI _ _ _ (by simp)) (by simp [Value.oneCell']) (by unfold maxLen; omega) (by omega) (by simp; omega) ?_; intro v' w4 hown' hgrow _))
        have HOWN := Lib.hid hown'
        have HB := Lib.hid (below_app (below_al hb _) (Nat.le_refl _) (hO.alloc _) hgrow)
        clear hown' hgrow hO
        go_wp2_with fail
        go_roundw
        case rel => exact ⟨k + 1, by omega, by go_num, (by rw [HSU2.out]; simpa [vI] using HOWN.out), HB.out⟩
        case measure => simp [intOf]; omega
      · have hq1 : (e == -1) = false := by simp [hq]
        have HSU2 := Lib.hid (HSU.out.trans (if_neg (fun h => hq (hsg.2 h))))
        have HO := Lib.hid hO
        clear hsg hq hO
        go_wp2_with fail
        go_roundw
        case rel => exact ⟨k + 1, by omega, by go_num, (by rw [HSU2.out]; exact HO.out.alloc _), below_al hb _⟩
        case measure => simp [intOf]; omega
    · obtain rfl : k = R.length := by omega
      rw [List.take_length] at hO
      have HO := Lib.hid hO
      clear hO
      go_wp2_with fail
      go_ret2
      exact ⟨_, rfl, by rw [HXS.out.1]; exact (ints_ofRow HO.out rfl).wide s1 (Nat.le_refl _), b1.trans (hb.mono s1)⟩

theorem hit_set {r : Rec} {t : List Ru} {d a : Int} {q : Ru} {n : Int} {b : Bool} (ha : askB r t = true) (h : setF r t = (q, n, b)) : hitB t d a r = (b && (decide (n ≤ d) && decide (q.act = a))) := by
  unfold hitB
  rcases Int.lt_or_le (dueF r t) 0 with h1 | h1
  · rw [setF_no (.inr h1)] at h
    cases h
    simp; omega
  · rw [setF_yes ha h1] at h
    cases h
    rw [Bool.eq_iff_iff]
    simp [h1]
    constructor
    · rintro ⟨x, y⟩; exact ⟨y, x⟩
    · rintro ⟨x, y⟩; exact ⟨y, x⟩
set_option maxRecDepth 20000 in
set_option maxHeartbeats 4000000 in
theorem implDueRecords_any (v v1 : Value) (rs : List Rec) (t : List Ru) (dy ac : Int) (w : World) (h : RowR 4 rRec w v rs) (h1 : RowR 4 rRu w v1 t) (hn : t.length ≤ 1048576) (xs : List Int) (b : Bool) (hres : drecRes rs t dy ac = (xs, b)) :
    Calls Try.prog 27 #[v, v1, .int .i64 dy, .int .i64 ac] w fun e w' => ∃ v', e = .returned (.tuple #[v', .bool b]) ∧ IntsO w.heap.size w'.heap.size w' v' xs ∧ Below w.heap.size w w' := by
  obtain ⟨i0, hi, hz0, hz1, hz2⟩ := info_parts Try.info_intI
  have H := Lib.hid h
  have H1 := Lib.hid h1
  obtain ⟨a1, c1, rfl, hl1, hm1, r1⟩ := h.recs
  have R1 := Lib.hid r1
  unfold maxLen at hm1
  obtain ⟨br, hr⟩ : ∃ b, areRecs rs = b := ⟨_, rfl⟩
  obtain ⟨bs, hs⟩ : ∃ b, isSch t = b := ⟨_, rfl⟩
  obtain ⟨bd, hd⟩ : ∃ b, decide (0 ≤ dy ∧ dy ≤ 20000) = b := ⟨_, rfl⟩
  obtain ⟨ba, ha⟩ : ∃ b, decide (1 ≤ ac ∧ ac ≤ 3) = b := ⟨_, rfl⟩
  have HR := Lib.hid hr
  have HS := Lib.hid hs
  have HD := Lib.hid hd
  have HA := Lib.hid ha
  have NO := Lib.hid (fun hn => drecRes_no hres hn)
  have YES := Lib.hid (fun hn => drecRes_yes hres hn)
  clear h h1 r1 hr hs hd ha hres
  cases br
  · obtain ⟨rfl, rfl⟩ := NO.out (fun h => by rw [HR.out] at h; exact absurd h.1 (by simp))
    go_enter Try.func27, Try.ntmps27
    go_wp2_with (first | (go_at_call 89; refine (implAreRecords_any _ rs _ H.out).mono ?_; rw [HR.out]; rintro e w1 ⟨rfl, b1⟩) | (go_at_call 83; refine (implIsSchedule_any _ t _ (H1.out.below rRu_stable b1)).mono ?_; rw [HS.out]; rintro e w2 ⟨rfl, b2⟩; replace b2 := below_chain b1 b2) | (go_at_call 84; refine (isDay_any _ _).mono ?_; rw [HD.out]; rintro e w3 ⟨rfl, h3⟩; subst w3) | (go_at_call 90; refine (implIsAct_any _ _).mono ?_; rw [HA.out]; rintro e w3 ⟨rfl, h3⟩; subst w3))
    go_ret2
    exact ⟨_, rfl, ints_nil _ _ _, b1⟩
  · cases bs
    · obtain ⟨rfl, rfl⟩ := NO.out (fun h => by rw [HS.out] at h; exact absurd h.2.1 (by simp))
      go_enter Try.func27, Try.ntmps27
      go_wp2_with (first | (go_at_call 89; refine (implAreRecords_any _ rs _ H.out).mono ?_; rw [HR.out]; rintro e w1 ⟨rfl, b1⟩) | (go_at_call 83; refine (implIsSchedule_any _ t _ (H1.out.below rRu_stable b1)).mono ?_; rw [HS.out]; rintro e w2 ⟨rfl, b2⟩; replace b2 := below_chain b1 b2) | (go_at_call 84; refine (isDay_any _ _).mono ?_; rw [HD.out]; rintro e w3 ⟨rfl, h3⟩; subst w3) | (go_at_call 90; refine (implIsAct_any _ _).mono ?_; rw [HA.out]; rintro e w3 ⟨rfl, h3⟩; subst w3))
      go_ret2
      exact ⟨_, rfl, ints_nil _ _ _, b2⟩
    · cases bd
      · obtain ⟨rfl, rfl⟩ := NO.out (fun h => of_decide_eq_false HD.out h.2.2.1)
        go_enter Try.func27, Try.ntmps27
        go_wp2_with (first | (go_at_call 89; refine (implAreRecords_any _ rs _ H.out).mono ?_; rw [HR.out]; rintro e w1 ⟨rfl, b1⟩) | (go_at_call 83; refine (implIsSchedule_any _ t _ (H1.out.below rRu_stable b1)).mono ?_; rw [HS.out]; rintro e w2 ⟨rfl, b2⟩; replace b2 := below_chain b1 b2) | (go_at_call 84; refine (isDay_any _ _).mono ?_; rw [HD.out]; rintro e w3 ⟨rfl, h3⟩; subst w3) | (go_at_call 90; refine (implIsAct_any _ _).mono ?_; rw [HA.out]; rintro e w3 ⟨rfl, h3⟩; subst w3))
        go_ret2
        exact ⟨_, rfl, ints_nil _ _ _, b2⟩
      · cases ba
        · obtain ⟨rfl, rfl⟩ := NO.out (fun h => of_decide_eq_false HA.out h.2.2.2)
          go_enter Try.func27, Try.ntmps27
          go_wp2_with (first | (go_at_call 89; refine (implAreRecords_any _ rs _ H.out).mono ?_; rw [HR.out]; rintro e w1 ⟨rfl, b1⟩) | (go_at_call 83; refine (implIsSchedule_any _ t _ (H1.out.below rRu_stable b1)).mono ?_; rw [HS.out]; rintro e w2 ⟨rfl, b2⟩; replace b2 := below_chain b1 b2) | (go_at_call 84; refine (isDay_any _ _).mono ?_; rw [HD.out]; rintro e w3 ⟨rfl, h3⟩; subst w3) | (go_at_call 90; refine (implIsAct_any _ _).mono ?_; rw [HA.out]; rintro e w3 ⟨rfl, h3⟩; subst w3))
          go_ret2
          exact ⟨_, rfl, ints_nil _ _ _, b2⟩
        · obtain ⟨rfl, rfl⟩ := YES.out ⟨HR.out, HS.out, of_decide_eq_true HD.out, of_decide_eq_true HA.out⟩
          have hten := recs_ten HR.out
          clear NO YES
          go_enter Try.func27, Try.ntmps27
          go_wp2_with (first | (go_at_call 89; refine (implAreRecords_any _ rs _ H.out).mono ?_; rw [HR.out]; rintro e w1 ⟨rfl, b1⟩) | (go_at_call 83; refine (implIsSchedule_any _ t _ (H1.out.below rRu_stable b1)).mono ?_; rw [HS.out]; rintro e w2 ⟨rfl, b2⟩; replace b2 := below_chain b1 b2) | (go_at_call 84; refine (isDay_any _ _).mono ?_; rw [HD.out]; rintro e w3 ⟨rfl, h3⟩; subst w3) | (go_at_call 90; refine (implIsAct_any _ _).mono ?_; rw [HA.out]; rintro e w3 ⟨rfl, h3⟩; subst w3))
          have s2 := b2.size
          go_loopw [10, 36] (fun o i wr => ∃ k : Nat, k ≤ rs.length ∧ i = .int .i64 k ∧ wr.ownsRow w2.heap.size 3 1 o (hitF t dy ac (rs.take k)).length ((hitF t dy ac (rs.take k)).map vI) ∧ Below w2.heap.size w2 wr) (fun _ i _ => rs.length - (intOf i).toNat)
          case atStart => exact ⟨0, Nat.zero_le _, rfl, by simpa [hitF] using World.ownsRow_nil _ _ _ _, Below.refl _ _⟩
          case round =>
            obtain ⟨k, hk, rfl, hO, hb⟩ := hrel
            have hbw := b2.trans (hb.mono s2)
            by_cases hlt : k < rs.length
            · obtain ⟨bR, oR, hbR, rfl, e1⟩ := R1.out.resolve_left (fun e => by rw [e] at hlt; simp at hlt)
              obtain ⟨sv, q0, q1, q2, q3, hrow, hok⟩ := e1 k hlt
              obtain ⟨r, hx⟩ : ∃ s, rs.getD k recD = s := ⟨_, rfl⟩
              have hri : isRec r = true := by rw [← hx]; exact recs_at HR.out hlt
              rw [hx] at q0 q1 q2 hrow hok
              have hr0 := hrow
              obtain ⟨sa, sc, rfl, _⟩ := hr0
              have f0 := cell_kept q0 hbw
              have f1 := cell_kept q1 hbw
              have f2 := cell_kept q2 hbw
              have f3 := cell_kept q3 hbw
              have HV := Lib.hid (show ∀ W, Below w.heap.size w W → RecV W (.agg #[.int .i64 r.id, .int .i64 r.series, .int .i64 r.made, .slice sa r.evs.length sc]) r from fun W hb => ⟨_, rfl, hrow.below rEv_stable hb, hok⟩)
              obtain ⟨⟨y0, y1, y2, y3⟩, n, bq, hset⟩ : ∃ q n b, setF r t = (q, n, b) := ⟨_, _, _, rfl⟩
              have hsucc := hit_succ (t := t) (d := dy) (a := ac) hlt
              have hlen := hit_len t dy ac (rs.take k)
              rw [hx, hit_set (ask_iff.2 ⟨hri, HS.out⟩) hset] at hsucc
              simp only at hsucc
              rw [List.length_take] at hlen
              obtain ⟨Pp, hP⟩ : ∃ P, hitF t dy ac (rs.take k) = P := ⟨_, rfl⟩
              rw [hP] at hO hlen hsucc
              have HSU := Lib.hid hsucc
              have HSET := Lib.hid hset
              have g0 : (0 : Int) ≤ (k : Int) := by omega
              have g1 : (k : Int) < (rs.length : Int) := by omega
              have hsz := hb.size
              have HO := Lib.hid (hO.alloc (RBOX r (.slice sa r.evs.length sc) 26))
              have bx := below_al hb (RBOX r (.slice sa r.evs.length sc) 26)
              have bxw := below_al hbw (RBOX r (.slice sa r.evs.length sc) 26)
              have HC := Lib.hid (Box4.new wr r (.slice sa r.evs.length sc) 26)
              clear q0 q1 q2 q3 hrow hx e1 hsucc hP hok hset hri hO
              have hxn : wr.heap.size < (wr.alloc (RBOX r (.slice sa r.evs.length sc) 26)).heap.size := by simp
              cases bq
              · have HSU2 := Lib.hid (HSU.out.trans (if_neg (by simp)))
                go_wp2_with (first | (go_at_call 71; refine (settle_any _ _ r t _ (HV.out _ bxw) (H1.out.below rRu_stable bxw) hn _ _ _ HSET.out).mono ?_; rintro e w6 ⟨rfl, b6⟩; have HO6 := Lib.hid (ownsRow_below HO.out b6); obtain ⟨c0, c1, c2, c3⟩ := HC.out.kept b6; have c0' : ∀ o, (w6.alloc o).cell? ⟨wr.heap.size, 0, none⟩ = some (.int .i64 r.id) := (fun o => below_al_cell c0 o); replace b6 := below_chain bx b6; have hs6 := b6.size; clear HO HC; simp only))
                go_roundw
                case rel => exact ⟨k + 1, by omega, by go_num, (by rw [HSU2.out]; exact HO6.out.alloc _), below_al b6 _⟩
                case measure => simp [intOf]; omega
              · by_cases hl : n ≤ dy
                · have hld : decide (n ≤ dy) = true := decide_eq_true hl
                  by_cases hac : y3 = ac
                  · have hacd : (y3 == ac) = true := by simp [hac]
                    have HSU2 := Lib.hid (HSU.out.trans (if_pos (by simp [hl, hac])))
                    clear hac
                    go_wp2_with (first | (go_at_call 71; refine (settle_any _ _ r t _ (HV.out _ bxw) (H1.out.below rRu_stable bxw) hn _ _ _ HSET.out).mono ?_; rintro e w6 ⟨rfl, b6⟩; have HO6 := Lib.hid (ownsRow_below HO.out b6); obtain ⟨c0, c1, c2, c3⟩ := HC.out.kept b6; have c0' : ∀ o, (w6.alloc o).cell? ⟨wr.heap.size, 0, none⟩ = some (.int .i64 r.id) := (fun o => below_al_cell c0 o); replace b6 := below_chain bx b6; have hs6 := b6.size; clear HO HC; simp only) | (at_builtin; refine wpList_append_own _ rfl _ _ 30 rfl w2.heap.size 3 i0 (.int .i64 0) 1 8 Try.underlying30 hi hz0 hz1 hz2 rfl (by decide) _ _ _ rfl ((HO6.out.alloc _).alloc _) ⟨w6.heap.size + 1, 0, none⟩ 1 1 [.int .i64 r.id] rfl rfl (cell_oneI _ _ _ (by simp)) (by simp [Value.oneCell']) (by unfold maxLen; omega) (by omega) (by simp; omega) ?_; intro v' w7 hown' hgrow _))
                    have HOWN := Lib.hid hown'
                    have HB := Lib.hid (below_app (below_al b6 _) (Nat.le_refl _) (HO6.out.alloc _) hgrow)
                    clear hown' hgrow
                    go_wp2_with fail
                    go_roundw
                    case rel => exact ⟨k + 1, by omega, by go_num, (by rw [HSU2.out]; simpa [vI] using HOWN.out), HB.out⟩
                    case measure => simp [intOf]; omega
                  · have hacd : (y3 == ac) = false := by simp [hac]
                    have HSU2 := Lib.hid (HSU.out.trans (if_neg (by simp [hac])))
                    clear hac
                    go_wp2_with (first | (go_at_call 71; refine (settle_any _ _ r t _ (HV.out _ bxw) (H1.out.below rRu_stable bxw) hn _ _ _ HSET.out).mono ?_; rintro e w6 ⟨rfl, b6⟩; have HO6 := Lib.hid (ownsRow_below HO.out b6); obtain ⟨c0, c1, c2, c3⟩ := HC.out.kept b6; have c0' : ∀ o, (w6.alloc o).cell? ⟨wr.heap.size, 0, none⟩ = some (.int .i64 r.id) := (fun o => below_al_cell c0 o); replace b6 := below_chain bx b6; have hs6 := b6.size; clear HO HC; simp only))
                    go_roundw
                    case rel => exact ⟨k + 1, by omega, by go_num, (by rw [HSU2.out]; exact HO6.out.alloc _), below_al b6 _⟩
                    case measure => simp [intOf]; omega
                · have hld : decide (n ≤ dy) = false := decide_eq_false hl
                  have HSU2 := Lib.hid (HSU.out.trans (if_neg (by simp [hl])))
                  go_wp2_with (first | (go_at_call 71; refine (settle_any _ _ r t _ (HV.out _ bxw) (H1.out.below rRu_stable bxw) hn _ _ _ HSET.out).mono ?_; rintro e w6 ⟨rfl, b6⟩; have HO6 := Lib.hid (ownsRow_below HO.out b6); obtain ⟨c0, c1, c2, c3⟩ := HC.out.kept b6; have c0' : ∀ o, (w6.alloc o).cell? ⟨wr.heap.size, 0, none⟩ = some (.int .i64 r.id) := (fun o => below_al_cell c0 o); replace b6 := below_chain bx b6; have hs6 := b6.size; clear HO HC; simp only))
                  go_roundw
                  case rel => exact ⟨k + 1, by omega, by go_num, (by rw [HSU2.out]; exact HO6.out.alloc _), below_al b6 _⟩
                  case measure => simp [intOf]; omega
            · obtain rfl : k = rs.length := by omega
              rw [List.take_length] at hO
              have HO := Lib.hid hO
              clear hO
              go_wp2_with fail
              go_ret2
              exact ⟨_, rfl, (ints_ofRow HO.out rfl).wide s2 (Nat.le_refl _), hbw⟩

theorem none_iff {t : List Ru} {r : Rec} : noneB t r = decide (¬ r.series ∈ serF t) := by
  unfold noneB
  apply decide_eq_decide.2
  rw [serF_iff, List.length_eq_zero_iff]
  unfold forRu
  rw [List.filter_eq_nil_iff]
  constructor
  · rintro h ⟨u, hu, e⟩; exact h u hu (by simp [e])
  · intro h u hu e; exact h ⟨u, hu, by simpa using e⟩
set_option maxRecDepth 20000 in
set_option maxHeartbeats 4000000 in
theorem implNotScheduled_any (v v1 : Value) (rs : List Rec) (t : List Ru) (w : World) (h : RowR 4 rRec w v rs) (h1 : RowR 4 rRu w v1 t) (hn : t.length ≤ 1048576) (xs : List Int) (b : Bool) (hres : notsRes rs t = (xs, b)) :
    Calls Try.prog 33 #[v, v1] w fun e w' => ∃ v', e = .returned (.tuple #[v', .bool b]) ∧ IntsO w.heap.size w'.heap.size w' v' xs ∧ Below w.heap.size w w' := by
  obtain ⟨i0, hi, hz0, hz1, hz2⟩ := info_parts Try.info_intI
  have H := Lib.hid h
  have H1 := Lib.hid h1
  obtain ⟨a1, c1, rfl, hl1, hm1, r1⟩ := h.recs
  have R1 := Lib.hid r1
  unfold maxLen at hm1
  obtain ⟨br, hr⟩ : ∃ b, areRecs rs = b := ⟨_, rfl⟩
  obtain ⟨ys, bs, hss⟩ : ∃ ys b, sinRes t = (ys, b) := ⟨_, _, rfl⟩
  have HR := Lib.hid hr
  have HSS := Lib.hid hss
  have NO := Lib.hid (fun hn => notsRes_no hres hn)
  have YES := Lib.hid (fun hn => notsRes_yes hres hn)
  clear h h1 r1 hr hss hres
  cases bs
  · have hs : isSch t = false := by
      rcases hq : isSch t with _ | _
      · rfl
      · have := (sinRes_yes HSS.out hq).2; cases this
    obtain ⟨rfl, rfl⟩ := NO.out (fun h => by rw [hs] at h; exact absurd h.2 (by simp))
    go_enter Try.func33, Try.ntmps33
    go_wp2_with (first | (go_at_call 93; refine (implSeriesIn_any _ t _ H1.out hn ys false HSS.out).mono ?_; rintro e w1 ⟨u1, rfl, ho1, b1⟩; clear ho1))
    go_ret2
    exact ⟨_, rfl, ints_nil _ _ _, b1⟩
  · have hs : isSch t = true := by
      rcases hq : isSch t with _ | _
      · have := (sinRes_no HSS.out hq).2; cases this
      · rfl
    have hys := (sinRes_yes HSS.out hs).1
    have HYS := Lib.hid hys
    have HS := Lib.hid hs
    clear hs hys
    cases br
    · obtain ⟨rfl, rfl⟩ := NO.out (fun h => by rw [HR.out] at h; exact absurd h.1 (by simp))
      go_enter Try.func33, Try.ntmps33
      go_wp2_with (first | (go_at_call 93; refine (implSeriesIn_any _ t _ H1.out hn ys true HSS.out).mono ?_; rintro e w1 ⟨u1, rfl, ho1, b1⟩; obtain ⟨a2, c2, hv2, hl2, hm2, r2⟩ := ho1.row; subst hv2; clear ho1 r2) | (go_at_call 89; refine (implAreRecords_any _ rs _ (H.out.below rRec_stable b1)).mono ?_; rw [HR.out]; rintro e w2 ⟨rfl, b2⟩; replace b2 := below_chain b1 b2))
      go_ret2
      exact ⟨_, rfl, ints_nil _ _ _, b2⟩
    · obtain ⟨rfl, rfl⟩ := YES.out ⟨HR.out, HS.out⟩
      have hten := recs_ten HR.out
      clear NO YES
      go_enter Try.func33, Try.ntmps33
      go_wp2_with (first | (go_at_call 93; refine (implSeriesIn_any _ t _ H1.out hn ys true HSS.out).mono ?_; rintro e w1 ⟨u1, rfl, ho1, b1⟩; obtain ⟨a2, c2, hv2, hl2, hm2, r2⟩ := ho1.row; subst hv2; have HO1 := Lib.hid ho1; clear ho1 r2) | (go_at_call 89; refine (implAreRecords_any _ rs _ (H.out.below rRec_stable b1)).mono ?_; rw [HR.out]; rintro e w2 ⟨rfl, b2⟩; have HO2 := Lib.hid (HO1.out.below b2); replace b2 := below_chain b1 b2; clear HO1))
      have s2 := b2.size
      go_loopw [8, 25] (fun o i wr => ∃ k : Nat, k ≤ rs.length ∧ i = .int .i64 k ∧ wr.ownsRow w2.heap.size 3 1 o (noneF t (rs.take k)).length ((noneF t (rs.take k)).map vI) ∧ Below w2.heap.size w2 wr) (fun _ i _ => rs.length - (intOf i).toNat)
      case atStart => exact ⟨0, Nat.zero_le _, rfl, by simpa [noneF] using World.ownsRow_nil _ _ _ _, Below.refl _ _⟩
      case round =>
        obtain ⟨k, hk, rfl, hO, hb⟩ := hrel
        have hbw := b2.trans (hb.mono s2)
        by_cases hlt : k < rs.length
        · obtain ⟨bR, oR, hbR, rfl, e1⟩ := R1.out.resolve_left (fun e => by rw [e] at hlt; simp at hlt)
          obtain ⟨sv, q0, q1, q2, q3, hrow, hok⟩ := e1 k hlt
          obtain ⟨r, hx⟩ : ∃ s, rs.getD k recD = s := ⟨_, rfl⟩
          rw [hx] at q0 q1 q2 hrow hok
          have hr0 := hrow
          obtain ⟨sa, sc, rfl, _⟩ := hr0
          have f0 := cell_kept q0 hbw
          have f1 := cell_kept q1 hbw
          have f2 := cell_kept q2 hbw
          have f3 := cell_kept q3 hbw
          have hsucc := none_succ (t := t) hlt
          have hlen := none_len t (rs.take k)
          rw [hx, none_iff] at hsucc
          rw [List.length_take] at hlen
          obtain ⟨Pp, hP⟩ : ∃ P, noneF t (rs.take k) = P := ⟨_, rfl⟩
          rw [hP] at hO hlen hsucc
          have HSU := Lib.hid hsucc
          have g0 : (0 : Int) ≤ (k : Int) := by omega
          have g1 : (k : Int) < (rs.length : Int) := by omega
          have hsz := hb.size
          obtain ⟨bm, hm⟩ : ∃ b, decide (r.series ∈ ys) = b := ⟨_, rfl⟩
          have hmm : decide (r.series ∈ serF t) = bm := by rw [← HYS.out]; exact hm
          have HM := Lib.hid hm
          have HMM := Lib.hid hmm
          have HO := Lib.hid (hO.alloc (RBOX r (.slice sa r.evs.length sc) 26))
          have bx := below_al hb (RBOX r (.slice sa r.evs.length sc) 26)
          have HC := Lib.hid (Box4.new wr r (.slice sa r.evs.length sc) 26)
          have HY := Lib.hid (HO2.out.below bx)
          clear q0 q1 q2 q3 hrow hx e1 hsucc hP hok hO hm hmm
          cases bm
          · have HSU2 := Lib.hid (HSU.out.trans (if_pos (decide_eq_true (of_decide_eq_false HMM.out))))
            go_wp2_with (first | (go_at_call 94; refine (contains_any _ ys _ _ HY.out.row).mono ?_; rw [HM.out]; rintro e w6 ⟨rfl, b6⟩; have HO6 := Lib.hid (ownsRow_below HO.out b6); obtain ⟨c0, c1, c2, c3⟩ := HC.out.kept b6; replace b6 := below_chain bx b6; have hs6 := b6.size; clear HO HC HY) | (at_builtin; refine wpList_append_own _ rfl _ _ 30 rfl w2.heap.size 3 i0 (.int .i64 0) 1 8 Try.underlying30 hi hz0 hz1 hz2 rfl (by decide) _ _ _ rfl (HO6.out.alloc _) ⟨w6.heap.size, 0, none⟩ 1 1 [.int .i64 r.id] rfl rfl (cell_oneI _ _ _ (by simp)) (by simp [Value.oneCell']) (by unfold maxLen; omega) (by omega) (by simp; omega) ?_; intro v' w7 hown' hgrow _))
            have HOWN := Lib.hid hown'
            have HB := Lib.hid (below_app b6 (Nat.le_refl _) HO6.out hgrow)
            clear hown' hgrow
            go_wp2_with fail
            go_roundw
            case rel => exact ⟨k + 1, by omega, by go_num, (by rw [HSU2.out]; simpa [vI] using HOWN.out), HB.out⟩
            case measure => simp [intOf]; omega
          · have HSU2 := Lib.hid (HSU.out.trans (if_neg (by rw [decide_eq_true_eq]; exact fun h => h (of_decide_eq_true HMM.out))))
            go_wp2_with (first | (go_at_call 94; refine (contains_any _ ys _ _ HY.out.row).mono ?_; rw [HM.out]; rintro e w6 ⟨rfl, b6⟩; have HO6 := Lib.hid (ownsRow_below HO.out b6); obtain ⟨c0, c1, c2, c3⟩ := HC.out.kept b6; replace b6 := below_chain bx b6; have hs6 := b6.size; clear HO HC HY))
            go_roundw
            case rel => exact ⟨k + 1, by omega, by go_num, (by rw [HSU2.out]; exact HO6.out), b6⟩
            case measure => simp [intOf]; omega
        · obtain rfl : k = rs.length := by omega
          rw [List.take_length] at hO
          have HO := Lib.hid hO
          clear hO
          go_wp2_with fail
          go_ret2
          exact ⟨_, rfl, (ints_ofRow HO.out rfl).wide s2 (Nat.le_refl _), hbw⟩

set_option maxRecDepth 20000 in
set_option maxHeartbeats 4000000 in
theorem implNextDue_any (v v1 : Value) (rs : List Rec) (t : List Ru) (dy : Int) (w : World) (h : RowR 4 rRec w v rs) (h1 : RowR 4 rRu w v1 t) (hn : t.length ≤ 1048576) (x y : Int) (b : Bool) (hres : nextRes rs t dy = (x, y, b)) :
    Calls Try.prog 30 #[v, v1, .int .i64 dy] w fun e w' => e = .returned (.tuple #[.int .i64 x, .int .i64 y, .bool b]) ∧ Below w.heap.size w w' := by
  have H := Lib.hid h
  have H1 := Lib.hid h1
  obtain ⟨a1, c1, rfl, hl1, hm1, r1⟩ := h.recs
  have R1 := Lib.hid r1
  unfold maxLen at hm1
  obtain ⟨br, hr⟩ : ∃ b, areRecs rs = b := ⟨_, rfl⟩
  obtain ⟨bs, hs⟩ : ∃ b, isSch t = b := ⟨_, rfl⟩
  obtain ⟨bd, hd⟩ : ∃ b, decide (0 ≤ dy ∧ dy ≤ 20000) = b := ⟨_, rfl⟩
  have HR := Lib.hid hr
  have HS := Lib.hid hs
  have HD := Lib.hid hd
  have NO := Lib.hid (fun hn => nextRes_no hres hn)
  have HRES := Lib.hid hres
  clear h h1 r1 hr hs hd hres
  cases br
  · obtain ⟨rfl, rfl, rfl⟩ := NO.out (fun h => by rw [HR.out] at h; exact absurd h.1 (by simp))
    go_enter Try.func30, Try.ntmps30
    go_wp2_with (first | (go_at_call 89; refine (implAreRecords_any _ rs _ H.out).mono ?_; rw [HR.out]; rintro e w1 ⟨rfl, b1⟩) | (go_at_call 83; refine (implIsSchedule_any _ t _ (H1.out.below rRu_stable b1)).mono ?_; rw [HS.out]; rintro e w2 ⟨rfl, b2⟩; replace b2 := below_chain b1 b2) | (go_at_call 84; refine (isDay_any _ _).mono ?_; rw [HD.out]; rintro e w3 ⟨rfl, h3⟩; subst w3) | (go_at_call 90; refine (implIsAct_any _ _).mono ?_; rw [HA.out]; rintro e w3 ⟨rfl, h3⟩; subst w3))
    go_ret3
    exact ⟨rfl, b1⟩
  · cases bs
    · obtain ⟨rfl, rfl, rfl⟩ := NO.out (fun h => by rw [HS.out] at h; exact absurd h.2.1 (by simp))
      go_enter Try.func30, Try.ntmps30
      go_wp2_with (first | (go_at_call 89; refine (implAreRecords_any _ rs _ H.out).mono ?_; rw [HR.out]; rintro e w1 ⟨rfl, b1⟩) | (go_at_call 83; refine (implIsSchedule_any _ t _ (H1.out.below rRu_stable b1)).mono ?_; rw [HS.out]; rintro e w2 ⟨rfl, b2⟩; replace b2 := below_chain b1 b2) | (go_at_call 84; refine (isDay_any _ _).mono ?_; rw [HD.out]; rintro e w3 ⟨rfl, h3⟩; subst w3) | (go_at_call 90; refine (implIsAct_any _ _).mono ?_; rw [HA.out]; rintro e w3 ⟨rfl, h3⟩; subst w3))
      go_ret3
      exact ⟨rfl, b2⟩
    · cases bd
      · obtain ⟨rfl, rfl, rfl⟩ := NO.out (fun h => of_decide_eq_false HD.out h.2.2.1)
        go_enter Try.func30, Try.ntmps30
        go_wp2_with (first | (go_at_call 89; refine (implAreRecords_any _ rs _ H.out).mono ?_; rw [HR.out]; rintro e w1 ⟨rfl, b1⟩) | (go_at_call 83; refine (implIsSchedule_any _ t _ (H1.out.below rRu_stable b1)).mono ?_; rw [HS.out]; rintro e w2 ⟨rfl, b2⟩; replace b2 := below_chain b1 b2) | (go_at_call 84; refine (isDay_any _ _).mono ?_; rw [HD.out]; rintro e w3 ⟨rfl, h3⟩; subst w3) | (go_at_call 90; refine (implIsAct_any _ _).mono ?_; rw [HA.out]; rintro e w3 ⟨rfl, h3⟩; subst w3))
        go_ret3
        exact ⟨rfl, b2⟩
      · have hten := recs_ten HR.out
        have hdy := of_decide_eq_true HD.out
        go_enter Try.func30, Try.ntmps30
        go_wp2_with (first | (go_at_call 89; refine (implAreRecords_any _ rs _ H.out).mono ?_; rw [HR.out]; rintro e w1 ⟨rfl, b1⟩) | (go_at_call 83; refine (implIsSchedule_any _ t _ (H1.out.below rRu_stable b1)).mono ?_; rw [HS.out]; rintro e w2 ⟨rfl, b2⟩; replace b2 := below_chain b1 b2) | (go_at_call 84; refine (isDay_any _ _).mono ?_; rw [HD.out]; rintro e w3 ⟨rfl, h3⟩; subst w3) | (go_at_call 90; refine (implIsAct_any _ _).mono ?_; rw [HA.out]; rintro e w3 ⟨rfl, h3⟩; subst w3))
        have s2 := b2.size
        go_loopw [9, 10, 30] (fun nx sm i wr => ∃ (k : Nat) (n m p l : Int), k ≤ rs.length ∧ i = .int .i64 k ∧ nx = .int .i64 n ∧ sm = .int .i64 m ∧ Hid (nextF t dy (rs.drop k) p l = nextF t dy rs 0 (-1)) ∧ Hid ((l < 0 ∧ n = 0 ∧ m = 0) ∨ (0 ≤ l ∧ n = p ∧ m = l ∧ 1 ≤ p)) ∧ Below w2.heap.size w2 wr) (fun _ _ i _ => rs.length - (intOf i).toNat)
        case atStart => exact ⟨0, 0, 0, 0, -1, Nat.zero_le _, rfl, rfl, rfl, Lib.hid rfl, Lib.hid (.inl ⟨by decide, rfl, rfl⟩), Below.refl _ _⟩
        case round =>
          obtain ⟨k, n, m, p, l, hk, rfl, rfl, rfl, HF, HJ, hb⟩ := hrel
          have hbw := b2.trans (hb.mono s2)
          by_cases hlt : k < rs.length
          · obtain ⟨bR, oR, hbR, rfl, e1⟩ := R1.out.resolve_left (fun e => by rw [e] at hlt; simp at hlt)
            obtain ⟨sv, q0, q1, q2, q3, hrow, hok⟩ := e1 k hlt
            obtain ⟨r, hx⟩ : ∃ s, rs.getD k recD = s := ⟨_, rfl⟩
            have hri : isRec r = true := by rw [← hx]; exact recs_at HR.out hlt
            rw [hx] at q0 q1 q2 hrow hok
            have hid1 := (isRec_iff.1 hri).1.1
            have hr0 := hrow
            obtain ⟨sa, sc, rfl, _⟩ := hr0
            have f0 := cell_kept q0 hbw
            have f1 := cell_kept q1 hbw
            have f2 := cell_kept q2 hbw
            have f3 := cell_kept q3 hbw
            have HV := Lib.hid (show ∀ W, Below w.heap.size w W → RecV W (.agg #[.int .i64 r.id, .int .i64 r.series, .int .i64 r.made, .slice sa r.evs.length sc]) r from fun W hb => ⟨_, rfl, hrow.below rEv_stable hb, hok⟩)
            obtain ⟨du, bq, hdr⟩ : ∃ n b, dueRes r t = (n, b) := ⟨_, _, rfl⟩
            have hdrop := drop_rec hlt
            rw [hx] at hdrop
            have HFF := Lib.hid (by rw [hdrop, next_cons] at HF; exact HF.out : (if dy < dueF r t ∧ (l < 0 ∨ dueF r t < l) then nextF t dy (rs.drop (k + 1)) r.id (dueF r t) else nextF t dy (rs.drop (k + 1)) p l) = nextF t dy rs 0 (-1))
            have hdu : (bq = false ∧ ¬ dy < dueF r t) ∨ (bq = true ∧ du = dueF r t) := by
              unfold dueRes at hdr
              rcases Int.lt_or_le (dueF r t) 0 with hl | hl
              · rw [setF_no (.inr hl)] at hdr
                cases hdr
                exact .inl ⟨rfl, by omega⟩
              · rw [setF_yes (ask_iff.2 ⟨hri, HS.out⟩) hl] at hdr
                cases hdr
                exact .inr ⟨rfl, rfl⟩
            have HDR := Lib.hid hdr
            have g0 : (0 : Int) ≤ (k : Int) := by omega
            have g1 : (k : Int) < (rs.length : Int) := by omega
            have hsz := hb.size
            have bx := below_al hb (RBOX r (.slice sa r.evs.length sc) 26)
            have bxw := below_al hbw (RBOX r (.slice sa r.evs.length sc) 26)
            have HC := Lib.hid (Box4.new wr r (.slice sa r.evs.length sc) 26)
            clear q0 q1 q2 q3 hrow hx e1 hdrop hok hdr hri HF
            cases bq
            · have HZ := Lib.hid (HFF.out)
              rw [if_neg (fun h => by rcases hdu with ⟨_, h2⟩ | ⟨h2, _⟩; exact h2 h.1; cases h2)] at HZ
              clear hdu
              go_wp2_with (first | (go_at_call 12; refine (implDueDay_any _ _ r t _ (HV.out _ bxw) (H1.out.below rRu_stable bxw) hn _ _ HDR.out).mono ?_; rintro e w6 ⟨rfl, b6⟩; obtain ⟨c0, c1, c2, c3⟩ := HC.out.kept b6; replace b6 := below_chain bx b6; have hs6 := b6.size; clear HC))
              go_roundw
              case rel => exact ⟨k + 1, n, m, p, l, by omega, by go_num, rfl, rfl, HZ, HJ, b6⟩
              case measure => simp [intOf]; omega
            · have hdd : du = dueF r t := by rcases hdu with ⟨h, _⟩ | ⟨_, h⟩; cases h; exact h
              rw [← hdd] at HFF
              clear hdu hdd
              by_cases hgt : dy < du
              · have hgd : decide (dy < du) = true := decide_eq_true hgt
                by_cases hn0 : n = 0
                · have hnd : (n == 0) = true := by simp [hn0]
                  have HZ := Lib.hid (HFF.out)
                  rw [if_pos ⟨hgt, .inl (by rcases HJ.out with h | h; exact h.1; omega)⟩] at HZ
                  clear hn0
                  go_wp2_with (first | (go_at_call 12; refine (implDueDay_any _ _ r t _ (HV.out _ bxw) (H1.out.below rRu_stable bxw) hn _ _ HDR.out).mono ?_; rintro e w6 ⟨rfl, b6⟩; obtain ⟨c0, c1, c2, c3⟩ := HC.out.kept b6; replace b6 := below_chain bx b6; have hs6 := b6.size; clear HC))
                  go_roundw
                  case rel => exact ⟨k + 1, r.id, du, r.id, du, by omega, by go_num, rfl, rfl, HZ, Lib.hid (.inr ⟨by omega, rfl, rfl, hid1⟩), b6⟩
                  case measure => simp [intOf]; omega
                · have hnd : (n == 0) = false := by simp [hn0]
                  by_cases hls : du < m
                  · have hlsd : decide (du < m) = true := decide_eq_true hls
                    have HZ := Lib.hid (HFF.out)
                    rw [if_pos ⟨hgt, .inr (by rcases HJ.out with h | h <;> omega)⟩] at HZ
                    clear hn0
                    go_wp2_with (first | (go_at_call 12; refine (implDueDay_any _ _ r t _ (HV.out _ bxw) (H1.out.below rRu_stable bxw) hn _ _ HDR.out).mono ?_; rintro e w6 ⟨rfl, b6⟩; obtain ⟨c0, c1, c2, c3⟩ := HC.out.kept b6; replace b6 := below_chain bx b6; have hs6 := b6.size; clear HC))
                    go_roundw
                    case rel => exact ⟨k + 1, r.id, du, r.id, du, by omega, by go_num, rfl, rfl, HZ, Lib.hid (.inr ⟨by omega, rfl, rfl, hid1⟩), b6⟩
                    case measure => simp [intOf]; omega
                  · have hlsd : decide (du < m) = false := decide_eq_false hls
                    have HZ := Lib.hid (HFF.out)
                    rw [if_neg (by rintro ⟨_, h | h⟩ <;> rcases HJ.out with h2 | h2 <;> omega)] at HZ
                    clear hn0
                    go_wp2_with (first | (go_at_call 12; refine (implDueDay_any _ _ r t _ (HV.out _ bxw) (H1.out.below rRu_stable bxw) hn _ _ HDR.out).mono ?_; rintro e w6 ⟨rfl, b6⟩; obtain ⟨c0, c1, c2, c3⟩ := HC.out.kept b6; replace b6 := below_chain bx b6; have hs6 := b6.size; clear HC))
                    go_roundw
                    case rel => exact ⟨k + 1, n, m, p, l, by omega, by go_num, rfl, rfl, HZ, HJ, b6⟩
                    case measure => simp [intOf]; omega
              · have hgd : decide (dy < du) = false := decide_eq_false hgt
                have HZ := Lib.hid (HFF.out)
                rw [if_neg (fun h => hgt h.1)] at HZ
                go_wp2_with (first | (go_at_call 12; refine (implDueDay_any _ _ r t _ (HV.out _ bxw) (H1.out.below rRu_stable bxw) hn _ _ HDR.out).mono ?_; rintro e w6 ⟨rfl, b6⟩; obtain ⟨c0, c1, c2, c3⟩ := HC.out.kept b6; replace b6 := below_chain bx b6; have hs6 := b6.size; clear HC))
                go_roundw
                case rel => exact ⟨k + 1, n, m, p, l, by omega, by go_num, rfl, rfl, HZ, HJ, b6⟩
                case measure => simp [intOf]; omega
          · obtain rfl : k = rs.length := by omega
            have hfin := HF.out
            rw [List.drop_length] at hfin
            have hfin2 : nextF t dy rs 0 (-1) = (p, l) := hfin.symm
            have hend : x = n ∧ y = m ∧ b = (n != 0) := by
              rcases HJ.out with ⟨h1, h2, h3⟩ | ⟨h1, h2, h3, h4⟩
              · obtain ⟨rfl, rfl, rfl⟩ := NO.out (fun h => by have := h.2.2.2; rw [hfin2] at this; omega)
                exact ⟨h2.symm, h3.symm, by simp [h2]⟩
              · have hq := HRES.out
                unfold nextRes at hq
                rw [if_pos ⟨HR.out, HS.out, hdy, by rw [hfin2]; exact h1⟩, hfin2] at hq
                obtain ⟨e1, e2⟩ := Prod.mk.inj hq
                obtain ⟨e3, e4⟩ := Prod.mk.inj e2
                refine ⟨by rw [h2, ← e1], by rw [h3, ← e3], ?_⟩
                rw [← e4, h2]
                symm
                simp; omega
            obtain ⟨rfl, rfl, rfl⟩ := hend
            clear hfin hfin2
            go_wp2_with fail
            go_ret3
            exact ⟨rfl, hbw⟩
end Go.Proofs.Ytnfcfinecjgakaa
