/- Has, SerIn, PerI, VeI4, ToVe, EqVe, MarkVe, MarkRec, CellOnly, Bx, DcoL, in one text. -/
import Derived.Test.YtpngmheflpbnbaaInts
import Derived.Lib.Hide
import Derived.Test.YtpngmheflpbnbaaRuS
import Derived.Test.YtpngmheflpbnbaaRuI
import Derived.Test.YtpngmheflpbnbaaShelf
import Derived.Lib.OwnBridge
import Derived.Test.YtpngmheflpbnbaaPerP
import Derived.Test.YtpngmheflpbnbaaAreRec
import Derived.Test.YtpngmheflpbnbaaRecs
import Derived.Test.YtpngmheflpbnbaaDayI
import Derived.Test.YtpngmheflpbnbaaAdd
import Derived.Test.YtpngmheflpbnbaaVerOn
import Derived.Test.YtpngmheflpbnbaaPerS2
import Derived.Test.YtpngmheflpbnbaaBytesNe
import Derived.Test.YtpngmheflpbnbaaContains
import Derived.StillTailTactics
import Derived.Test.YtpngmheflpbnbaaTyVe
import Derived.Test.YtpngmheflpbnbaaCells
import Derived.Test.YtpngmheflpbnbaaProg
import Derived.Test.YtpngmheflpbnbaaUpto
import Derived.WalkSmall
import Derived.Deep.RegionHeld3
import Derived.Test.YtpngmheflpbnbaaToRec
import Derived.Test.YtpngmheflpbnbaaOwn
import Derived.Test.YtpngmheflpbnbaaVeS2
import Derived.Test.YtpngmheflpbnbaaEqRu
import Derived.Test.YtpngmheflpbnbaaEqRec
import Derived.Test.YtpngmheflpbnbaaFrame
import Derived.Test.YtpngmheflpbnbaaBox4
import Derived.Deep.CutRange
namespace Go.Proofs.Ytpngmheflpbnbaa
set_option linter.unusedVariables false
open Go.RowKit

theorem Try.info_int : (Try.prog.info? 3).map (fun i => (i.zero, i.size, i.bytes)) = some (some (.int .i64 0), 1, 8) := by kernel_rfl


end Go.Proofs.Ytpngmheflpbnbaa

namespace Go.Proofs.Ytpngmheflpbnbaa
set_option linter.unusedVariables false
open Go.RowKit Go.Sort

theorem cell1_new (w : World) (v : Value) (t : TypeId) {k : Nat} (hk : k = w.heap.size) : ∀ j u, [v][j]? = some u → (w.alloc (.cells #[v] t (0, 0))).cell? ((⟨k, 0, none⟩ : Addr).add j) = some u := by
  subst hk
  intro j u hj
  rw [Addr.add_lit]
  match j, hj with
  | 0, h => cases h; exact cell_new w _ _ 0 rfl
theorem serF_iff {t : List Ru} {x : Int} : x ∈ serF t ↔ ∃ r ∈ t, r.series = x := by
  refine ⟨serF_mem, ?_⟩
  have key : ∀ (t : List Ru) (o : List Int), (x ∈ o ∨ ∃ r ∈ t, r.series = x) → x ∈ (t.foldl (fun o r => if r.series ∈ o then o else o ++ [r.series]) o) := by
    intro t
    induction t with
    | nil => intro o h; simpa using h
    | cons r l ih =>
      intro o h
      rw [List.foldl_cons]
      refine ih _ ?_
      rcases h with h | ⟨q, hq, e⟩
      · left; split
        · exact h
        · exact List.mem_append_left _ h
      · rcases List.mem_cons.1 hq with h1 | h1
        · subst h1; left; split
          · rename_i hm; rw [← e]; exact hm
          · rw [← e]; simp
        · exact .inr ⟨q, h1, e⟩
  intro h
  exact key t [] (.inr h)
theorem ser_le {t : List Ru} (h : isSch t = true) {i j : Nat} (hij : i ≤ j) (hj : j < t.length) : (t.getD i ruD).series ≤ (t.getD j ruD).series := by
  rcases Nat.lt_or_eq_of_le hij with h' | h'
  · have := sch_bef h h' hj
    rw [bef_iff] at this
    omega
  · subst h'; exact Int.le_refl _
theorem ser_compact {t : List Ru} (h : isSch t = true) : Lib.compact (t.map (·.series)) = serF t := by
  have hk : ∀ k, k ≤ t.length → Lib.compactUpTo (t.map (·.series)).toArray k = serF (t.take k) := by
    intro k
    induction k with
    | zero => intro _; simp [Lib.compactUpTo, serF]
    | succ k ih =>
      intro hk
      have hlt : k < t.length := by omega
      have g : ∀ j, j < t.length → (t.map (·.series)).toArray[j]! = (t.getD j ruD).series := fun j hj => by
        rw [getElem!_pos _ j (by simpa using hj), getRu_lt hj]; simp
      rw [Lib.compactUpTo_succ, ih (by omega), serF_succ hlt, g k hlt]
      by_cases hm : (t.getD k ruD).series ∈ serF (t.take k)
      · rw [if_pos hm]
        obtain ⟨r, hr, e⟩ := serF_iff.1 hm
        rw [List.mem_take_iff_getElem] at hr
        obtain ⟨i, hi, rfl⟩ := hr
        have h1 := ser_le h (i := i) (j := k - 1) (by omega) (by omega)
        have h2 := ser_le h (i := k - 1) (j := k) (by omega) hlt
        rw [getRu_lt (show i < t.length by omega)] at h1
        have hkn : Lib.keeps (t.map (·.series)).toArray k = false := Lib.keeps_neg (by omega) (by rw [g k hlt, g (k - 1) (by omega)]; omega)
        rw [hkn]; simp
      · rw [if_neg hm]
        have hkn : Lib.keeps (t.map (·.series)).toArray k = true := by
          rcases Nat.eq_zero_or_pos k with h0 | h0
          · subst h0; exact Lib.keeps_lt_one _ 0 (by omega)
          · refine Lib.keeps_pos ?_
            rw [g k hlt, g (k - 1) (by omega)]
            intro e
            refine hm (serF_iff.2 ⟨t.getD (k - 1) ruD, ?_, e.symm⟩)
            rw [getRu_lt (by omega), List.mem_take_iff_getElem]
            exact ⟨k - 1, by omega, rfl⟩
        rw [hkn]; simp
  have := hk t.length (Nat.le_refl _)
  rw [List.take_length] at this
  unfold Lib.compact
  rw [← this]; simp
theorem sinRes_no {t : List Ru} {xs : List Int} {b : Bool} (h : sinRes t = (xs, b)) (hn : isSch t = false) : xs = [] ∧ b = false := by
  unfold sinRes at h
  rw [if_neg (by rw [hn]; simp)] at h
  obtain ⟨h1, h2⟩ := Prod.mk.inj h
  exact ⟨h1.symm, h2.symm⟩
theorem sinRes_yes {t : List Ru} {xs : List Int} {b : Bool} (h : sinRes t = (xs, b)) (hn : isSch t = true) : xs = serF t ∧ b = true := by
  unfold sinRes at h
  rw [if_pos hn] at h
  obtain ⟨h1, h2⟩ := Prod.mk.inj h
  exact ⟨h1.symm, h2.symm⟩
theorem IntsO.of_row {lo n : Nat} {w : World} {v : Value} {xs : List Int} (h : w.ownsRow lo 3 1 v n (xs.map vI)) (hn : n = xs.length) : IntsO lo w.heap.size w v xs := ⟨by rw [← hn]; exact h, fun g hg => (h.lt g hg).2⟩


end Go.Proofs.Ytpngmheflpbnbaa

namespace Go.Proofs.Ytpngmheflpbnbaa
set_option linter.unusedVariables false
open Go.RowKit Go.Sort

theorem implEndsOf_any (v v1 : Value) (r : Rec) (t : List Ru) (w : World) (h : RecV w v r) (h1 : RowR 4 rRu w v1 t) (hn : t.length ≤ 1048576) (xs : List Int) (b : Bool) (hres : endsRes r t = (xs, b)) :
    Calls Try.prog 78 #[v, v1] w fun e w' => ∃ v', e = .returned (.tuple #[v', .bool b]) ∧ IntsO w.heap.size w'.heap.size w' v' xs ∧ Below w.heap.size w w' := by
  obtain ⟨s, rfl, h0, hok⟩ := h
  have HV := Lib.hid (show ∀ W, Below w.heap.size w W → RecV W (.agg #[.int .i64 r.id, .int .i64 r.series, .int .i64 r.made, s]) r from fun W hb => ⟨s, rfl, h0.below rEv_stable hb, hok⟩)
  have H1 := Lib.hid h1
  have b0 := below_al (Below.refl w.heap.size w) (RBOX r s 42)
  have hxs : perEnds r t = xs ∧ askB r t = b := by
    rcases ha : askB r t with _ | _
    · obtain ⟨rfl, rfl⟩ := endsRes_no hres ha
      exact ⟨by unfold perEnds; rw [if_neg (by rw [ha]; simp)], rfl⟩
    · obtain ⟨rfl, rfl⟩ := endsRes_yes hres ha
      exact ⟨by unfold perEnds; rw [if_pos ha], rfl⟩
  have HXS := Lib.hid hxs
  clear h0 hok h1 hres hxs
  go_enter Try.func78, Try.ntmps78
  go_wp2_with (first | (go_at_call 100; refine (periodsOf_any _ _ r t _ (HV.out _ b0) (H1.out.below rRu_stable b0) hn).mono ?_; rintro e w1 ⟨u1, u2, rfl, ho1, ho2, b1⟩; rw [HXS.out.1] at ho2; rw [HXS.out.2]; have HO2 := Lib.hid ho2; replace b1 := below_chain b0 b1; clear ho1 ho2))
  go_ret2
  exact ⟨_, rfl, HO2.out.wide (by simp) (Nat.le_refl _), b1⟩

theorem implDueDay_any (v v1 : Value) (r : Rec) (t : List Ru) (w : World) (h : RecV w v r) (h1 : RowR 4 rRu w v1 t) (hn : t.length ≤ 1048576) (d : Int) (b : Bool) (hres : dueRes r t = (d, b)) :
    Calls Try.prog 61 #[v, v1] w fun e w' => e = .returned (.tuple #[.int .i64 d, .bool b]) ∧ Below w.heap.size w w' := by
  obtain ⟨s, rfl, h0, hok⟩ := h
  have HV := Lib.hid (show ∀ W, Below w.heap.size w W → RecV W (.agg #[.int .i64 r.id, .int .i64 r.series, .int .i64 r.made, s]) r from fun W hb => ⟨s, rfl, h0.below rEv_stable hb, hok⟩)
  have H1 := Lib.hid h1
  have b0 := below_al (Below.refl w.heap.size w) (RBOX r s 42)
  obtain ⟨q, d', b', hs⟩ : ∃ q d' b', setF r t = (q, d', b') := ⟨_, _, _, rfl⟩
  unfold dueRes at hres
  rw [hs] at hres
  obtain ⟨rfl, rfl⟩ := Prod.mk.inj hres
  have HS := Lib.hid hs
  clear h0 hok h1 hres hs
  go_enter Try.func61, Try.ntmps61
  go_wp2_with (first | (go_at_call 89; refine (settle_any _ _ r t _ (HV.out _ b0) (H1.out.below rRu_stable b0) hn q d' b' HS.out).mono ?_; rintro e w1 ⟨rfl, b1⟩; replace b1 := below_chain b0 b1))
  go_ret2
  exact ⟨rfl, below_al b1 _⟩

theorem implDecidingRule_any (v v1 : Value) (r : Rec) (t : List Ru) (w : World) (h : RecV w v r) (h1 : RowR 4 rRu w v1 t) (hn : t.length ≤ 1048576) (q : Ru) (b : Bool) (hres : decRes r t = (q, b)) :
    Calls Try.prog 57 #[v, v1] w fun e w' => e = .returned (.tuple #[.agg #[.int .i64 q.series, .int .i64 q.event, .int .i64 q.days, .int .i64 q.act], .bool b]) ∧ Below w.heap.size w w' := by
  obtain ⟨s, rfl, h0, hok⟩ := h
  have HV := Lib.hid (show ∀ W, Below w.heap.size w W → RecV W (.agg #[.int .i64 r.id, .int .i64 r.series, .int .i64 r.made, s]) r from fun W hb => ⟨s, rfl, h0.below rEv_stable hb, hok⟩)
  have H1 := Lib.hid h1
  have b0 := below_al (Below.refl w.heap.size w) (RBOX r s 42)
  obtain ⟨q', d', b', hs⟩ : ∃ q d' b', setF r t = (q, d', b') := ⟨_, _, _, rfl⟩
  unfold decRes at hres
  rw [hs] at hres
  obtain ⟨rfl, rfl⟩ := Prod.mk.inj hres
  have HS := Lib.hid hs
  replace b0 := below_al b0 (.cells #[.int .i64 0, .int .i64 0, .int .i64 0, .int .i64 0] 37 (0, 0))
  have HX0 : Hid (UBox ((w.alloc (RBOX r s 42)).alloc (.cells #[.int .i64 0, .int .i64 0, .int .i64 0, .int .i64 0] 37 (0, 0))) (w.heap.size + 1) ruD) := Lib.hid (by rw [← (show (w.alloc (RBOX r s 42)).heap.size = w.heap.size + 1 by simp)]; exact UBox.new (w.alloc (RBOX r s 42)) ruD 37)
  clear h0 hok h1 hres hs
  obtain ⟨x0, x1, x2, x3⟩ := q'
  go_enter Try.func57, Try.ntmps57
  go_wp2_with (first | (go_at_call 89; refine (settle_any _ _ r t _ (HV.out _ b0) (H1.out.below rRu_stable b0) hn _ d' b' HS.out).mono ?_; rintro e w1 ⟨rfl, b1⟩; have HX1 := Lib.hid ((HX0.out.kept b1).al (.cells #[.int .i64 x0, .int .i64 x1, .int .i64 x2, .int .i64 x3] 37 (0, 0))); obtain ⟨z0, z1, z2, z3, y0, y1, y2, y3⟩ := HX1.out; simp only [ruD] at z0 z1 z2 z3; replace b1 := below_chain b0 b1; simp only))
  refine bodyPost_ret (v := .tuple #[.agg #[.int .i64 x0, .int .i64 x1, .int .i64 x2, .int .i64 x3], .bool b']) (by simp [results, Try.results57 , go_sem, z0, z1, z2, z3]) rfl ⟨rfl, ?_⟩
  exact below_putU (below_al b1 _) (by omega) ⟨x0, x1, x2, x3⟩



theorem perEnds_map (r : Rec) (t : List Ru) : perEnds r t = (perRules r t).map (endR r) := by
  unfold perEnds perRules
  split
  · rfl
  · rfl
theorem per_sign {r : Rec} {t : List Ru} : ∀ u ∈ perRules r t, (endR r u = -1 ↔ endR r u < 0) := by
  intro u hu
  rcases ha : askB r t with _ | _
  · unfold perRules at hu; rw [if_neg (by rw [ha]; simp)] at hu; cases hu
  · have hq := ask_iff.1 ha
    unfold perRules at hu
    rw [if_pos ha] at hu
    exact endR_eq hq.1 (forRu_ok hq.2 _ u hu)

theorem hit_set {r : Rec} {t : List Ru} {d a : Int} {q : Ru} {n : Int} {b : Bool} (ha : askB r t = true) (h : setF r t = (q, n, b)) : hitB t d a r = (b && (decide (n ≤ d) && decide (q.act = a))) := by
  unfold hitB
  rcases Int.lt_or_le (dueF r t) 0 with h1 | h1
  · rw [setF_no (.inr h1)] at h
    cases h
    simp; omega
  · rw [setF_yes ha h1] at h
    cases h
    rw [Bool.eq_iff_iff]
    simp [h1]
    constructor
    · rintro ⟨x, y⟩; exact ⟨y, x⟩
    · rintro ⟨x, y⟩; exact ⟨y, x⟩

theorem none_iff {t : List Ru} {r : Rec} : noneB t r = decide (¬ r.series ∈ serF t) := by
  unfold noneB
  apply decide_eq_decide.2
  rw [serF_iff, List.length_eq_zero_iff]
  unfold forRu
  rw [List.filter_eq_nil_iff]
  constructor
  · rintro h ⟨u, hu, e⟩; exact h u hu (by simp [e])
  · intro h u hu e; exact h ⟨u, hu, by simpa using e⟩

end Go.Proofs.Ytpngmheflpbnbaa

namespace Go.Proofs.Ytpngmheflpbnbaa
set_option linter.unusedVariables false
open Go.RowKit Go.Sort

set_option maxRecDepth 20000 in
set_option maxHeartbeats 4000000 in
theorem implDecidesOn_any (v v1 : Value) (t : List Ve) (r : Rec) (d : Int) (w : World) (h : RowR 2 rVe w v t) (h1 : RecV w v1 r) (q : Ru) (b : Bool) (hres : decoRes t r d = (q, b)) :
    Calls Try.prog 22 #[v, v1, .int .i64 d] w fun e w' => e = .returned (.tuple #[.agg #[.int .i64 q.series, .int .i64 q.event, .int .i64 q.days, .int .i64 q.act], .bool b]) ∧ Below w.heap.size w w' := by
  obtain ⟨s, rfl, h0, hok⟩ := h1
  have HV := Lib.hid (show ∀ W, Below w.heap.size w W → RecV W (.agg #[.int .i64 r.id, .int .i64 r.series, .int .i64 r.made, s]) r from fun W hb => ⟨s, rfl, h0.below rEv_stable hb, hok⟩)
  have H := Lib.hid (show ∀ W, Below w.heap.size w W → RowR 2 rVe W v t from fun W hb => h.below rVe_stable hb)
  obtain ⟨a1, c1, rfl, hl1, hm1, r1⟩ := h.ves
  have R1 := Lib.hid r1
  unfold maxLen at hm1
  have b0 := below_al (below_al (Below.refl w.heap.size w) (RBOX r s 42)) (.cells #[.int .i64 0, .int .i64 0, .int .i64 0, .int .i64 0] 37 (0, 0))
  have HC0 : Hid (Box4 ((w.alloc (RBOX r s 42)).alloc (.cells #[.int .i64 0, .int .i64 0, .int .i64 0, .int .i64 0] 37 (0, 0))) w.heap.size r s) := Lib.hid ((Box4.new w r s 42).kept (below_al (Below.refl _ _) _))
  have HX0 : Hid (UBox ((w.alloc (RBOX r s 42)).alloc (.cells #[.int .i64 0, .int .i64 0, .int .i64 0, .int .i64 0] 37 (0, 0))) (w.heap.size + 1) ruD) := Lib.hid (by rw [← (show (w.alloc (RBOX r s 42)).heap.size = w.heap.size + 1 by simp)]; exact UBox.new (w.alloc (RBOX r s 42)) ruD 37)
  obtain ⟨N, bo, hon⟩ : ∃ N b, onRes t d = (N, b) := ⟨_, _, rfl⟩
  have HON := Lib.hid hon
  cases bo
  · have hno : decoRes t r d = (ruD, false) := by
      unfold decoRes
      rw [if_neg]
      rintro ⟨e1, e2⟩
      obtain ⟨q1, q2, q3⟩ := askV_iff.1 e1
      unfold onRes at hon
      rw [if_pos ⟨⟨q1, q3⟩, e2⟩] at hon
      cases hon
    rw [hno] at hres
    cases hres
    clear h0 hok h r1 hon hno
    go_enter Try.func22, Try.ntmps22
    go_wp2_with (first | (go_at_call 18; refine (implVersionOn_any _ t d _ (H.out _ b0) N false HON.out).mono ?_; rintro e w1 ⟨rfl, b1⟩; have HX1 := Lib.hid (HX0.out.kept b1); obtain ⟨z0, z1, z2, z3, y0, y1, y2, y3⟩ := HX1.out; simp only [ruD] at z0 z1 z2 z3; replace b1 := below_chain b0 b1))
    refine bodyPost_ret (v := .tuple #[.agg #[.int .i64 0, .int .i64 0, .int .i64 0, .int .i64 0], .bool false]) (by simp [results, Try.results22 , go_sem, z0, z1, z2, z3]) rfl ⟨rfl, ?_⟩
    exact below_putU b1 (by omega) ruD
  · have hyes : (areVe t = true ∧ (0 ≤ d ∧ d ≤ 20000)) ∧ 0 ≤ onV t d ∧ onV t d = N := by
      unfold onRes at hon
      split at hon
      · rename_i hc
        cases hon
        exact ⟨hc.1, hc.2, rfl⟩
      · cases hon
    obtain ⟨k, hk0, hk, _, _⟩ := onV_at (t := t) (d := d) hyes.2.1
    have hNk : N = (k : Int) := by rw [← hyes.2.2]; exact hk0
    subst hNk
    obtain ⟨x, hx⟩ : ∃ x, (t.getD k veD).rules = x := ⟨_, rfl⟩
    have hdec : decRes r x = (q, b) := by
      rw [← hres]
      unfold decoRes
      by_cases hr : isRec r = true
      · rw [if_pos ⟨askV_iff.2 ⟨hyes.1.1, hr, hyes.1.2⟩, hyes.2.1⟩, hyes.2.2, rulesAt_nat, hx]
      · rw [if_neg (fun e => hr (askV_iff.1 e.1).2.1)]
        unfold decRes
        rw [setF_no (.inl (by unfold askB; rw [Bool.eq_false_iff.2 hr]; rfl))]
    have HDEC := Lib.hid hdec
    obtain ⟨bL, oL, hbL, rfl, e1⟩ := r1.resolve_left (fun e => by rw [e] at hk; simp at hk)
    obtain ⟨sr, _, q1, hr, _⟩ := e1 k hk
    rw [hx] at hr
    have hxl : x.length ≤ 8 := by rw [← hx]; exact sch_len (ve_at hyes.1.1 hk).2.1
    have HRW := Lib.hid (show ∀ W, Below w.heap.size w W → RowR 4 rRu W sr x from fun W hb => hr.below rRu_stable hb)
    have g0 : (0 : Int) ≤ (k : Int) := by omega
    have g1 : (k : Int) < (t.length : Int) := by omega
    obtain ⟨x0, x1, x2, x3⟩ := q
    clear h0 hok h r1 hon hres hx hdec e1 hr hyes hk0
    go_enter Try.func22, Try.ntmps22
    go_wp2_with (first | (go_at_call 18; refine (implVersionOn_any _ t d _ (H.out _ b0) _ true HON.out).mono ?_; rintro e w1 ⟨rfl, b1⟩; have HX1 := Lib.hid (HX0.out.kept b1); obtain ⟨c0, c1, c2, c3⟩ := HC0.out.kept b1; replace b1 := below_chain b0 b1; have f1 := cell_kept q1 b1))
    have hl0 : w.heap.size < w1.heap.size := World.block_lt_of_cell? _ _ c0
    have hl1 : w.heap.size + 1 < w1.heap.size := HX1.out.lt
    have hlL : bL < w1.heap.size := World.block_lt_of_cell? _ _ f1
    have hlM : bL < w.heap.size := hbL
    go_region_held3 (fun w' => w'.cell? ⟨w.heap.size, 0, none⟩ = some (.int .i64 r.id) ∧ w'.cell? ⟨w.heap.size, 1, none⟩ = some (.int .i64 r.series) ∧ w'.cell? ⟨w.heap.size, 2, none⟩ = some (.int .i64 r.made) ∧ w'.cell? ⟨w.heap.size, 3, none⟩ = some (s) ∧ w'.cell? ⟨bL, oL + k * 2 + 1, none⟩ = some sr)
      (first | with_reducible exact ⟨c0, c1, c2, c3, f1⟩ | with_reducible exact ⟨cell_drew c0, cell_drew c1, cell_drew c2, cell_drew c3, cell_drew f1⟩ | with_reducible exact ⟨below_al_cell c0 _, below_al_cell c1 _, below_al_cell c2 _, below_al_cell c3 _, below_al_cell f1 _⟩ | with_reducible exact ⟨cell_drew (below_al_cell c0 _), cell_drew (below_al_cell c1 _), cell_drew (below_al_cell c2 _), cell_drew (below_al_cell c3 _), cell_drew (below_al_cell f1 _)⟩ | (refine ⟨?_, ?_, ?_, ?_, ?_⟩ <;> (repeat rw [World.cell?_setCell_far _ _ _ _ (by first | (simp; done) | (simp; omega))]) <;> first | assumption | go_keep))
      (first | (go_at_call 57; (with_reducible refine (implDecidingRule_any _ _ r x _ (HV.out _ b1.drew) (HRW.out _ b1.drew) (by omega) _ _ HDEC.out).mono ?_); rintro e w3 ⟨rfl, b3⟩; have HX3 := Lib.hid (HX1.out.drew.kept b3); obtain ⟨z0, z1, z2, z3, y0, y1, y2, y3⟩ := HX3.out; simp only [ruD] at z0 z1 z2 z3; replace c0 := cell_kept (cell_drew c0) b3; replace c1 := cell_kept (cell_drew c1) b3; replace c2 := cell_kept (cell_drew c2) b3; replace c3 := cell_kept (cell_drew c3) b3; replace f1 := cell_kept (cell_drew f1) b3; have hs3 := b3.size; replace b3 := below_chain b1.drew b3; simp only))
    go_wp2_with fail
    refine bodyPost_ret (v := .tuple #[.agg #[.int .i64 x0, .int .i64 x1, .int .i64 x2, .int .i64 x3], .bool b]) (by simp [results, Try.results22 , go_sem, z0, z1, z2, z3]) rfl ⟨rfl, ?_⟩
    exact below_putU b3 (by omega) ⟨x0, x1, x2, x3⟩
end Go.Proofs.Ytpngmheflpbnbaa

namespace Go.Proofs.Ytpngmheflpbnbaa
set_option linter.unusedVariables false
open Go.RowKit

def VeO (lo hi : Nat) (w : World) (v : Value) (r : Ve) : Prop := ∃ s, v = .agg #[.int .i64 r.frm, s] ∧ RusO lo hi w s r.rules ∧ r.ok
def veC (r : Ve) (s : Value) : List Value := [.int .i64 r.frm, s]
def VesO (lo hi : Nat) (w : World) (v : Value) (rs : List Ve) : Prop :=
  ∃ (css : List (List Value)) (f : Nat → Nat), css.length = rs.length ∧ Own lo 67 2 w v css ∧ Under (f 0) v ∧ lo ≤ f 0 ∧ (∀ i, i < rs.length → f i ≤ f (i + 1)) ∧ f rs.length ≤ hi ∧
    ∀ i (h1 : i < css.length) (h2 : i < rs.length), ∃ s, css[i] = veC rs[i] s ∧ RusO (f i) (f (i + 1)) w s rs[i].rules ∧ rs[i].ok
section
variable {lo hi lo' hi' : Nat} {w w' : World} {v : Value} {r : Ve} {rs : List Ve}
theorem VeO.toV (h : VeO lo hi w v r) : VeV w v r := by
  obtain ⟨s, e, h, k⟩ := h
  exact ⟨s, e, h.row, k⟩
theorem VeO.below (h : VeO lo hi w v r) (hb : Below w.heap.size w w') : VeO lo hi w' v r := by
  obtain ⟨s, e, h, k⟩ := h
  exact ⟨s, e, h.below hb, k⟩
theorem VeO.only (h : VeO lo hi w v r) (hb : Only lo' hi' w w') (hh : hi' ≤ lo) : VeO lo hi w' v r := by
  obtain ⟨s, e, h, k⟩ := h
  exact ⟨s, e, h.only hb hh, k⟩
theorem VeO.wide (h : VeO lo hi w v r) (hl : lo' ≤ lo) (hh : hi ≤ hi') : VeO lo' hi' w v r := by
  obtain ⟨s, e, h, k⟩ := h
  exact ⟨s, e, h.wide hl hh, k⟩
theorem VesO.row (h : VesO lo hi w v rs) : RowR 2 rVe w v rs := by
  obtain ⟨css, f, hl, ho, _, _, _, _, he⟩ := h
  refine ho.row hl fun i h1 h2 => ?_
  obtain ⟨s, e, hs, hok⟩ := he i h1 h2
  exact ⟨s, e, hs.row, hok⟩
theorem VesO.below (h : VesO lo hi w v rs) (hb : Below w.heap.size w w') : VesO lo hi w' v rs := by
  obtain ⟨css, f, hl, ho, h1, h2, h3, h4, he⟩ := h
  refine ⟨css, f, hl, ho.below hb, h1, h2, h3, h4, fun i a b => ?_⟩
  obtain ⟨s, e, hs, hok⟩ := he i a b
  exact ⟨s, e, hs.below hb, hok⟩
theorem VesO.only (h : VesO lo hi w v rs) (hb : Only lo' hi' w w') (hh : hi' ≤ lo) : VesO lo hi w' v rs := by
  obtain ⟨css, f, hl, ho, h1, h2, h3, h4, he⟩ := h
  refine ⟨css, f, hl, ho.only hb hh, h1, h2, h3, h4, fun i a b => ?_⟩
  obtain ⟨s, e, hs, hok⟩ := he i a b
  exact ⟨s, e, hs.only hb (by have := mono_up h3 0 i (Nat.zero_le _) (by omega); omega), hok⟩
theorem VesO.only2 (h : VesO lo hi w v rs) (hb : Only lo' hi' w w') (hh : hi ≤ lo') : VesO lo hi w' v rs := by
  obtain ⟨css, f, hl, ho, h1, h2, h3, h4, he⟩ := h
  have hm := fun i (hi : i ≤ rs.length) => mono_up h3 i rs.length hi (Nat.le_refl _)
  refine ⟨css, f, hl, ho.only2 hb (h1.up (by have := hm 0 (Nat.zero_le _); omega)), h1, h2, h3, h4, fun i a b => ?_⟩
  obtain ⟨s, e, hs, hok⟩ := he i a b
  exact ⟨s, e, hs.only2 hb (by have := hm (i + 1) b; omega), hok⟩
theorem VesO.wide (h : VesO lo hi w v rs) (hl : lo' ≤ lo) (hh : hi ≤ hi') : VesO lo' hi' w v rs := by
  obtain ⟨css, f, a, ho, h1, h2, h3, h4, he⟩ := h
  exact ⟨css, f, a, ho.lower hl, h1, by omega, h3, by omega, he⟩
end

set_option maxHeartbeats 1000000 in
theorem toVe_any (v : Value) (r : Ve) (w : World) (h : VeV w v r) (hn : r.rules.length ≤ 1099511627776) :
    Calls Try.prog 40 #[v] w fun en w' => ∃ v', en = .returned v' ∧ VeO w.heap.size w'.heap.size w' v' r ∧ Below w.heap.size w w' := by
  obtain ⟨s, rfl, h1, hok⟩ := h
  obtain ⟨a0, a1⟩ := r
  have H1 := Lib.hid h1
  have HOK := Lib.hid hok
  clear h1 hok
  go_enter Try.func40, Try.ntmps40
  go_wp2_with (first | (go_at_call 72; refine (toRuS_any _ a1 _ (H1.out.below rRu_stable (below_al (below_al (below_al (Below.refl _ _) _) _) _)) hn).mono ?_; rintro en w1 ⟨v1, rfl, ho, hb'⟩; obtain ⟨sa, sn, sc, rfl⟩ := ho.slice; have hblk := (hb'.block (w.heap.size + 1 + 1) (by simp)).trans (heap_alloc_new' _ _ (by simp)); have pc0 := blk_cell hblk 0; have pf0 := blk_frozen hblk 0; simp at pc0; have pc1 := blk_cell hblk 1; have pf1 := blk_frozen hblk 1; simp at pc1; have hblq := (hb'.block (w.heap.size + 1) (by simp)).trans ((Below.heap_alloc _ _ _ (by simp)).trans (heap_alloc_new' _ _ (by simp))); have qc0 := blk_cell hblq 0; have qf0 := blk_frozen hblq 0; simp at qc0; have qc1 := blk_cell hblq 1; have qf1 := blk_frozen hblq 1; simp at qc1; have HO := Lib.hid ho; clear ho hblk hblq))
  refine bodyPost_ret (v := .agg #[.int .i64 a0, .slice sa sn sc]) (by simp [results, Try.results40, go_sem, qc0, qc1]) rfl ⟨_, rfl, ⟨_, rfl, ?_, HOK.out⟩, ?_⟩
  · have := HO.out
    exact (((this.far (by simp) _).far (by simp) _).far (by simp) _).wide (by simp; omega) (by simp)
  · have hb := below_chain (below_al (below_al (below_al (Below.refl _ _) _) _) _) hb'
    exact (((hb.setCell (by simp; omega) _).setCell (by simp) _).setCell (by simp) _)

theorem Try.info_ve : (Try.prog.info? 67).map (fun i => (i.zero, i.size, i.bytes)) = some (some (.agg #[.int .i64 0, .slice none 0 0]), 2, 32) := by kernel_rfl

def sz1Ve (x : Ve) : Nat := x.rules.length
def szVe (xs : List Ve) : Nat := (xs.map sz1Ve).sum
theorem szVe_take_succ (xs : List Ve) (k : Nat) (h : k < xs.length) : szVe (xs.take (k + 1)) = szVe (xs.take k) + sz1Ve (xs.getD k veD) := by
  unfold szVe
  rw [List.take_add_one, List.getElem?_eq_getElem h, getVe_lt h, List.map_append, List.sum_append]
  simp only [Option.toList_some, List.map_cons, List.map_nil, List.sum_cons, List.sum_nil, Nat.add_zero]
theorem szVe_take_le (xs : List Ve) (k : Nat) : szVe (xs.take k) ≤ szVe xs := by
  have h : szVe xs = szVe (xs.take k) + szVe (xs.drop k) := by
    unfold szVe
    rw [← List.sum_append, ← List.map_append, List.take_append_drop]
  omega
theorem szVe_at (xs : List Ve) (i : Nat) (h : i < xs.length) : sz1Ve (xs.getD i veD) ≤ szVe xs := by
  have h1 := szVe_take_succ xs i h
  have h2 := szVe_take_le xs (i + 1)
  omega
theorem sz1Ve_len (x : Ve) : x.rules.length ≤ sz1Ve x := by unfold sz1Ve; omega

set_option maxHeartbeats 2000000 in
theorem toVeS_any (v : Value) (rs : List Ve) (w : World) (h : RowR 2 rVe w v rs) (hn : rs.length + szVe rs ≤ 1048576) :
    Calls Try.prog 14 #[v] w fun en w' => ∃ v', en = .returned v' ∧ VesO w.heap.size w'.heap.size w' v' rs ∧ Below w.heap.size w w' := by
  obtain ⟨i0, hi, hz0, hz1, hz2⟩ := info_parts Try.info_ve
  obtain ⟨a1, c1, rfl, hl1, hm1, r1⟩ := h.ves
  have R1 := Lib.hid r1
  clear h r1
  unfold maxLen at hm1
  go_enter Try.func14, Try.ntmps14
  go_wp2_with (first | (at_make; refine wpList_make_full _ rfl _ _ 25 rfl w.heap.size 67 i0 _ 2 Try.underlying25 hi hz0 hz1 .i64 .i64 _ _ rs.length rfl rfl rfl rfl (by rw [hz2]; omega) (by unfold maxLen; omega) (Nat.le_refl _) ?_; intro w1 hown1 hgrow1; have HOWN := Lib.hid hown1; have HGROW := Lib.hid hgrow1; clear hown1 hgrow1))
  go_loopw [4] (fun i wr => ∃ (k : Nat) (css : List (List Value)) (f : Nat → Nat), k ≤ rs.length ∧ i = .int .i64 k ∧ css.length = rs.length ∧ Own w.heap.size 67 2 wr (.slice (some ⟨w.heap.size, 0, none⟩) rs.length rs.length) css ∧
      Hid (f 0 = w.heap.size + 1 ∧ (∀ i, i < k → f i ≤ f (i + 1)) ∧ f k ≤ wr.heap.size ∧ ∀ i (h1 : i < css.length) (h2 : i < rs.length), i < k → ∃ s, css[i] = veC rs[i] s ∧ RusO (f i) (f (i + 1)) wr s rs[i].rules ∧ rs[i].ok) ∧ Below w.heap.size w wr) (fun i _ => rs.length - (intOf i).toNat)
  case atStart =>
    refine ⟨0, List.replicate rs.length (#[.int .i64 0, .slice none 0 0] : Array Value).toList, fun _ => w.heap.size + 1, Nat.zero_le _, rfl, by simp, ?_, Lib.hid ⟨rfl, fun i h => absurd h (Nat.not_lt_zero _), (HOWN.out.lt _ rfl).2, fun i _ _ h => absurd h (Nat.not_lt_zero _)⟩, below_of_grow HGROW.out (Nat.le_refl _) (fun k h => by cases h)⟩
    exact Own.made (z := #[.int .i64 0, .slice none 0 0]) rfl (by omega) HOWN.out
  case round =>
    obtain ⟨k, css, f, hk, rfl, hcl, hO, I, hb⟩ := hrel
    have HO := Lib.hid hO
    have HCL := Lib.hid hcl
    by_cases hlt : k < rs.length
    · obtain ⟨b1, o1, hb1, rfl, e1⟩ := R1.out.resolve_left (fun e => by rw [e] at hlt; simp at hlt)
      obtain ⟨s, q0, q1, hr, hok⟩ := e1 k hlt
      obtain ⟨r, hx⟩ : ∃ s, rs.getD k veD = s := ⟨_, rfl⟩
      have hsz := szVe_at rs k hlt
      rw [hx] at q0 hr hok hsz
      have hsl := sz1Ve_len r
      rw [getVe_lt hlt] at hx
      have f0 := cell_kept q0 hb
      have f1 := cell_kept q1 hb
      have HX := Lib.hid hx
      have hV : VeV wr (.agg #[.int .i64 r.frm, s]) r := ⟨s, rfl, hr.below rRu_stable hb, hok⟩
      have HV := Lib.hid hV
      have g0 : (0 : Int) ≤ (k : Int) := by omega
      have g1 : (k : Int) < (rs.length : Int) := by omega
      have hw := hb.size
      clear q0 q1 hr hok hx e1 hV hO hcl HOWN HGROW
      go_wp2_with fail
      refine (toVe_any _ r _ HV.out (by omega)).mono ?_
      rintro e w2 ⟨v2, rfl, ho, b2⟩
      obtain ⟨s2, rfl, hev, hok⟩ := ho
      obtain ⟨sa, sn, sc, rfl⟩ := hev.slice
      have hO2 := HO.out.below b2
      obtain ⟨y0, y1, hy⟩ : ∃ y0 y1, css[k]'(by rw [HCL.out]; exact hlt) = [y0, y1] := by
        have h4 := HO.out.2 _ (List.getElem_mem (by rw [HCL.out]; exact hlt : k < css.length))
        match css[k]'(by rw [HCL.out]; exact hlt), h4 with
        | [y0, y1], _ => exact ⟨_, _, rfl⟩
      have c0 := hO2.cell k 0 (by rw [HCL.out]; exact hlt) (by omega)
      have c1 := hO2.cell k 1 (by rw [HCL.out]; exact hlt) (by omega)
      rw [hy] at c0 c1
      have fr0 := hO2.frozen (k * 2)
      have fr1 := hO2.frozen (k * 2 + 1)
      simp at c0 c1
      have HO2 := Lib.hid hO2
      have HEV := Lib.hid hev
      have HOK := Lib.hid hok
      clear hO2 hev hok hy
      go_wp2_with fail
      go_roundw
      case rel =>
        have hkc : k < css.length := by rw [HCL.out]; exact hlt
        obtain ⟨p1, p2⟩ := HO2.out.put k hkc (veC r (.slice sa sn sc)) rfl
        have hon : Only w.heap.size (w.heap.size + 1) w2 (w2.setCells w.heap.size (k * 2) (veC r (.slice sa sn sc))) :=
          Only.of_grown (v := .slice (some ⟨w.heap.size, 0, none⟩) rs.length rs.length) p2 (fun g hg => by simp [Value.ownBlock] at hg; omega) (fun g hg => by simp [Value.ownBlock] at hg; omega)
        obtain ⟨I0, I1, I2, I3⟩ := I.out
        have hgt : w.heap.size + 1 ≤ wr.heap.size := by have := mono_up I1 0 k (Nat.zero_le _) (Nat.le_refl _); omega
        have key : ∀ i (h1 : i < (css.set k (veC r (.slice sa sn sc))).length) (h2 : i < rs.length), i < k + 1 → ∃ s, (css.set k (veC r (.slice sa sn sc)))[i] = veC rs[i] s ∧ RusO (upd f (k + 1) w2.heap.size i) (upd f (k + 1) w2.heap.size (i + 1)) (w2.setCells w.heap.size (k * 2) (veC r (.slice sa sn sc))) s rs[i].rules ∧ rs[i].ok := by
          intro i h1 h2 h3
          rw [upd_ne f _ (by omega : i ≠ k + 1)]
          rcases Nat.lt_or_ge i k with h' | h'
          · obtain ⟨s', e1, e2, e3⟩ := I3 i (by rw [HCL.out]; exact h2) h2 h'
            rw [upd_ne f _ (by omega : i + 1 ≠ k + 1)]
            exact ⟨s', by rw [List.getElem_set_ne (by omega)]; exact e1, (e2.below b2).only hon (by rw [← I0]; exact mono_up I1 0 i (Nat.zero_le _) (by omega)), e3⟩
          · obtain rfl : i = k := by omega
            rw [upd_at]
            refine ⟨.slice sa sn sc, by rw [List.getElem_set_self, HX.out], ?_, by rw [HX.out]; exact HOK.out⟩
            rw [HX.out]
            exact (HEV.out.only hon hgt).wide I2 (Nat.le_refl _)
        refine ⟨k + 1, css.set k (veC r (.slice sa sn sc)), upd f (k + 1) w2.heap.size, by omega, by go_num, by rw [List.length_set]; exact HCL.out, p1, Lib.hid ⟨by rw [upd_ne f _ (by omega)]; exact I0, fun i hi => ?_, by rw [upd_at]; exact p2.size, key⟩, (hb.trans (b2.mono hb.size)).grown p2 (Nat.le_trans hb.size b2.size) (fun _ h => by cases h; exact Nat.le_refl _)⟩
        rw [upd_ne f _ (by omega : i ≠ k + 1)]
        rcases Nat.lt_or_ge i k with h' | h'
        · rw [upd_ne f _ (by omega : i + 1 ≠ k + 1)]
          exact I1 i h'
        · obtain rfl : i = k := by omega
          rw [upd_at]
          exact Nat.le_trans I2 b2.size
      case measure => simp [intOf]; omega
    · clear hO
      go_wp2_with fail
      go_ret
      obtain rfl : k = rs.length := by omega
      obtain ⟨I0, I1, I2, I3⟩ := I.out
      exact ⟨_, rfl, ⟨css, f, HCL.out, HO.out, (by rw [I0]; intro g hg; simp [Value.ownBlock] at hg; omega), by omega, I1, I2, fun i h1 h2 => I3 i h1 h2 h2⟩, hb⟩
end Go.Proofs.Ytpngmheflpbnbaa

namespace Go.Proofs.Ytpngmheflpbnbaa
set_option linter.unusedVariables false
open Go.RowKit

theorem szVe_one (v : Value) (x : Ve) (left : Int) (w : World) (h : VeV w v x) (h0 : 0 ≤ left) (h2 : left ≤ 1099511627776) :
    Calls Try.prog 38 #[v, .int .i64 left] w fun e w' => e = .returned (.int .i64 (if left < sz1Ve x then -1 else left - sz1Ve x)) ∧ Below w.heap.size w w' := by
  obtain ⟨s, rfl, h1, hok⟩ := h
  have hcap := h1.cap
  obtain ⟨x0, x1⟩ := x
  obtain ⟨o0⟩ := hok
  obtain ⟨z, hz⟩ : ∃ z, sz1Ve ⟨x0, x1⟩ = z := ⟨_, rfl⟩
  have hz2 : x1.length = z := hz
  rw [hz]
  have H1 := Lib.hid h1
  clear hz h1
  by_cases t1 : left < (x1.length : Int)
  · have hc : left < (z : Int) := by omega
    simp only [if_pos hc]
    clear hc
    go_enter Try.func38, Try.ntmps38
    go_wp2_with (first | (go_at_call 70; refine (szRuS_flat _ x1 _ _ (H1.out.below rRu_stable (below_al (Below.refl _ _) _)) (by omega) (by omega)).mono ?_; rw [if_pos (by omega)]; rintro e w' ⟨rfl, hb'⟩))
    go_ret
    exact ⟨rfl, below_chain (below_al (Below.refl _ _) _) hb'⟩
  · have hc : ¬ left < (z : Int) := by omega
    simp only [if_neg hc]
    clear hc
    go_enter Try.func38, Try.ntmps38
    go_wp2_with (first | (go_at_call 70; refine (szRuS_flat _ x1 _ _ (H1.out.below rRu_stable (below_al (Below.refl _ _) _)) (by omega) (by omega)).mono ?_; rw [if_neg (by omega)]; rintro e w' ⟨rfl, hb'⟩))
    go_ret
    exact ⟨ret_int (by omega), below_chain (below_al (Below.refl _ _) _) hb'⟩

set_option maxHeartbeats 1000000 in
theorem szVeS_any (v : Value) (xs : List Ve) (left : Int) (w : World) (h : RowR 2 rVe w v xs) (h0 : 0 ≤ left) (h2 : left ≤ 1099511627776) :
    Calls Try.prog 12 #[v, .int .i64 left] w fun e w' => ∃ n : Int, e = .returned (.int .i64 n) ∧ (n < 0 ∨ (xs.length : Int) + szVe xs ≤ left) ∧ (0 ≤ n ∨ n = -1) ∧ n ≤ left ∧ Below w.heap.size w w' := by
  have hcap := h.cap
  obtain ⟨a1, c1, rfl, hl1, hm1, r1⟩ := h.ves
  have R1 := Lib.hid r1
  clear h r1
  unfold maxLen at hm1
  by_cases hb : left < xs.length
  · go_enter Try.func12, Try.ntmps12
    go_wp2_with fail
    go_ret
    exact ⟨-1, rfl, Or.inl (by omega), Or.inr rfl, by omega, Below.refl _ _⟩
  · go_enter Try.func12, Try.ntmps12
    go_wp2_with fail
    go_loopw [1, 5] (fun l i wr => ∃ (k : Nat) (n : Int), k ≤ xs.length ∧ i = .int .i64 k ∧ l = .int .i64 n ∧ Hid (n = left - xs.length - szVe (xs.take k)) ∧ 0 ≤ n ∧ n ≤ left ∧ Below w.heap.size w wr) (fun _ i _ => xs.length - (intOf i).toNat)
    case atStart => exact ⟨0, left - xs.length, Nat.zero_le _, rfl, rfl, Lib.hid (by simp [szVe]), by omega, by omega, Below.refl _ _⟩
    case round =>
      obtain ⟨k, n, hk, rfl, rfl, HN, hn0, hnl, hb⟩ := hrel
      by_cases hlt : k < xs.length
      · obtain ⟨b1, o1, hb1, rfl, e1⟩ := R1.out.resolve_left (fun e => by rw [e] at hlt; simp at hlt)
        obtain ⟨s, q0, q1, hr, hok⟩ := e1 k hlt
        obtain ⟨r, hx⟩ : ∃ s, xs.getD k veD = s := ⟨_, rfl⟩
        rw [hx] at q0 hr hok
        have f0 := cell_kept q0 hb
        have f1 := cell_kept q1 hb
        have HX := Lib.hid hx
        have hV : VeV wr (.agg #[.int .i64 r.frm, s]) r := ⟨s, rfl, hr.below rRu_stable hb, hok⟩
        have HV := Lib.hid hV
        have g0 : (0 : Int) ≤ (k : Int) := by omega
        have g1 : (k : Int) < (xs.length : Int) := by omega
        have hw := hb.size
        clear q0 q1 hr hok hx e1 hV
        by_cases hfit : n < sz1Ve r
        · go_wp2_with fail
          refine (szVe_one _ r n _ HV.out hn0 (by omega)).mono ?_
          rw [if_pos (by omega)]
          rintro e w1 ⟨rfl, b2⟩
          go_wp2_with fail
          go_ret
          exact ⟨-1, rfl, Or.inl (by omega), Or.inr rfl, by omega, hb.trans (b2.mono hw)⟩
        · go_wp2_with fail
          refine (szVe_one _ r n _ HV.out hn0 (by omega)).mono ?_
          rw [if_neg (by omega)]
          rintro e w1 ⟨rfl, b2⟩
          go_wp2_with fail
          go_roundw
          case rel =>
            refine ⟨k + 1, n - sz1Ve r, by omega, by go_num, rfl, Lib.hid ?_, by omega, by omega, hb.trans (b2.mono hw)⟩
            have h1 := szVe_take_succ xs k hlt
            rw [HX.out] at h1
            have h2 := HN.out
            omega
          case measure => simp [intOf]; omega
      · obtain rfl : k = xs.length := by omega
        go_wp2_with fail
        go_ret
        refine ⟨n, rfl, Or.inr ?_, Or.inl hn0, hnl, hb⟩
        have := HN.out
        rw [List.take_length] at this
        omega

set_option maxHeartbeats 1000000 in
theorem eqVe_any (v1 v2 : Value) (a b : Ve) (w : World) (h1 : VeV w v1 a) (h2 : VeV w v2 b) :
    Calls Try.prog 42 #[v1, v2] w fun e w' => e = .returned (.bool (decide (a = b))) ∧ Below w.heap.size w w' := by
  obtain ⟨s1, rfl, h1, _⟩ := h1
  obtain ⟨s2, rfl, h2, _⟩ := h2
  obtain ⟨a0, a1⟩ := a
  obtain ⟨b0, b1⟩ := b
  have H1 := Lib.hid h1
  have H2 := Lib.hid h2
  clear h1 h2
  by_cases h0 : a0 = b0
  · subst h0
    obtain ⟨bb, hbb⟩ : ∃ bb, decide (a1 = b1) = bb := ⟨_, rfl⟩
    have hcall : ∀ W : World, Below w.heap.size w W → Calls Try.prog 76 #[s1, s2] W fun e w' => e = .returned (.bool bb) ∧ Below W.heap.size W w' := fun W hW => by
      have := eqRuS_any s1 s2 a1 b1 W (H1.out.below rRu_stable hW) (H2.out.below rRu_stable hW)
      rwa [hbb] at this
    have hgoal : decide ((⟨a0, a1⟩ : Ve) = ⟨a0, b1⟩) = bb := by rw [← hbb]; simp
    rw [hgoal]
    clear hgoal hbb
    cases bb
    all_goals
      go_enter Try.func42, Try.ntmps42
      go_wp2_with (first | (go_at_call 76; refine (hcall _ (below_al (below_al (Below.refl _ _) _) _)).mono ?_; rintro e w' ⟨rfl, hb'⟩))
      go_ret
      exact ⟨rfl, below_chain (below_al (below_al (Below.refl _ _) _) _) hb'⟩
  · have e1 : (a0 != b0) = true := by simp [h0]
    go_enter Try.func42, Try.ntmps42
    go_wp2_with fail
    go_ret
    exact ⟨ret_bool (by first | (simp; done) | simp [h0]), below_al (below_al (Below.refl _ _) _) _⟩

set_option maxHeartbeats 1000000 in
theorem eqVeS_any (v1 v2 : Value) (xs ys : List Ve) (w : World) (h1 : RowR 2 rVe w v1 xs) (h2 : RowR 2 rVe w v2 ys) :
    Calls Try.prog 16 #[v1, v2] w fun e w' => e = .returned (.bool (decide (xs = ys))) ∧ Below w.heap.size w w' := by
  have hx := h1.cap
  have hy := h2.cap
  obtain ⟨a1, c1, rfl, hl1, hm1, r1⟩ := h1.ves
  obtain ⟨a2, c2, rfl, hl2, hm2, r2⟩ := h2.ves
  clear h1 h2
  by_cases hlen : xs.length = ys.length
  · have hLen := Lib.hid hlen
    have hne : (((xs.length : Nat) : Int) != (xs.length : Int)) = false := by simp
    rw [← hlen]
    clear hlen
    have R1 := Lib.hid r1
    have R2 := Lib.hid r2
    clear r1 r2
    go_enter Try.func16, Try.ntmps16
    go_wp2
    go_loopw [5] (fun i wr => ∃ k : Nat, k ≤ xs.length ∧ i = .int .i64 k ∧ Hid (∀ j, j < k → xs.getD j veD = ys.getD j veD) ∧ Below w.heap.size w wr) (fun i _ => xs.length - (intOf i).toNat)
    case atStart => exact ⟨0, Nat.zero_le _, rfl, Lib.hid (fun j h => by omega), Below.refl _ _⟩
    case round =>
      obtain ⟨k, hk, rfl, HJ, hb⟩ := hrel
      by_cases hlt : k < xs.length
      · obtain ⟨b1, o1, hb1, rfl, e1⟩ := R1.out.resolve_left (fun e => by rw [e] at hlt; simp at hlt)
        obtain ⟨b2, o2, hb2, rfl, e2⟩ := R2.out.resolve_left (fun e => by have := hLen.out; rw [e] at this; simp at this; rw [this] at hlt; simp at hlt)
        obtain ⟨s1, q0, q1, hr1, hok1⟩ := e1 k hlt
        obtain ⟨s2, z0, z1, hr2, hok2⟩ := e2 k (by have := hLen.out; omega)
        obtain ⟨r1, hx⟩ : ∃ s, xs.getD k veD = s := ⟨_, rfl⟩
        obtain ⟨r2, hy⟩ : ∃ s, ys.getD k veD = s := ⟨_, rfl⟩
        rw [hx] at q0 hr1 hok1
        rw [hy] at z0 hr2 hok2
        have f10 := cell_kept q0 hb
        have f11 := cell_kept q1 hb
        have f20 := cell_kept z0 hb
        have f21 := cell_kept z1 hb
        have hV1 : ∀ W, Below wr.heap.size wr W → VeV W (.agg #[.int .i64 r1.frm, s1]) r1 := fun W hW => ⟨s1, rfl, (hr1.below rRu_stable hb).below rRu_stable hW, hok1⟩
        have hV2 : ∀ W, Below wr.heap.size wr W → VeV W (.agg #[.int .i64 r2.frm, s2]) r2 := fun W hW => ⟨s2, rfl, (hr2.below rRu_stable hb).below rRu_stable hW, hok2⟩
        have HV1 := Lib.hid hV1
        have HV2 := Lib.hid hV2
        have HX := Lib.hid hx
        have HY := Lib.hid hy
        have hsz := hb.size
        have g0 : (0 : Int) ≤ (k : Int) := by omega
        have g1 : (k : Int) < (xs.length : Int) := by omega
        clear q0 q1 z0 z1 hr1 hr2 hok1 hok2 e1 e2 hx hy hV1 hV2
        obtain ⟨bb, hbb⟩ : ∃ bb, decide (r1 = r2) = bb := ⟨_, rfl⟩
        have HB := Lib.hid hbb
        clear hbb
        cases bb
        all_goals
          go_wp2_with fail
          go_region_held3 (fun w' => w'.cell? ⟨b1, o1 + k * 2, none⟩ = some (.int .i64 r1.frm) ∧ w'.cell? ⟨b1, o1 + k * 2 + 1, none⟩ = some s1 ∧ w'.cell? ⟨b2, o2 + k * 2, none⟩ = some (.int .i64 r2.frm) ∧ w'.cell? ⟨b2, o2 + k * 2 + 1, none⟩ = some s2)
            (first | exact ⟨f10, f11, f20, f21⟩ | exact ⟨cell_keptd f10 b7, cell_keptd f11 b7, cell_keptd f20 b7, cell_keptd f21 b7⟩)
            (first | (go_at_call 42; refine (eqVe_any _ _ r1 r2 _ (HV1.out _ (Below.refl _ _).drew) (HV2.out _ (Below.refl _ _).drew)).mono ?_; rw [HB.out]; rintro e w7 ⟨rfl, b7⟩))
        · go_wp2_with fail
          go_ret
          refine ⟨ret_bool (Eq.symm (decide_eq_false fun e => ?_)), hb.drew.trans (b7.mono hsz)⟩
          have h1 := of_decide_eq_false HB.out
          subst e
          exact h1 (HX.out.symm.trans HY.out)
        · go_wp2_with fail
          go_roundw
          case rel =>
            refine ⟨k + 1, by omega, by go_num, Lib.hid (fun j h => ?_), hb.drew.trans (b7.mono hsz)⟩
            rcases Nat.lt_or_ge j k with h' | h'
            · exact HJ.out j h'
            · obtain rfl : j = k := by omega
              rw [HX.out, HY.out]
              exact of_decide_eq_true HB.out
          case measure => simp [intOf]; omega
      · go_wp2_with fail
        go_ret
        refine ⟨ret_bool (Eq.symm (decide_eq_true ?_)), hb⟩
        refine List.ext_getElem hLen.out fun i a b => ?_
        have := HJ.out i (by omega)
        rwa [getVe_lt a, getVe_lt b] at this
  · have hne : (((xs.length : Nat) : Int) != (ys.length : Int)) = true := by simp; omega
    rw [decide_eq_false (fun e => hlen (by rw [e]))]
    go_enter Try.func16, Try.ntmps16
    go_wp2
    go_ret
    exact ⟨rfl, Below.refl _ _⟩
end Go.Proofs.Ytpngmheflpbnbaa

namespace Go.Proofs.Ytpngmheflpbnbaa
set_option linter.unusedVariables false
open Go.RowKit

def msVe (xs : List Ve) : Nat := (xs.map (fun x => x.rules.length * 4)).sum
theorem msVe_take_succ (xs : List Ve) (k : Nat) (h : k < xs.length) : msVe (xs.take (k + 1)) = msVe (xs.take k) + xs[k].rules.length * 4 := by
  unfold msVe
  rw [List.take_add_one, List.getElem?_eq_getElem h, List.map_append, List.sum_append]
  simp only [Option.toList_some, List.map_cons, List.map_nil, List.sum_cons, List.sum_nil, Nat.add_zero]
theorem msVe_take_le (xs : List Ve) (k : Nat) : msVe (xs.take k) ≤ msVe xs := by
  have h : msVe xs = msVe (xs.take k) + msVe (xs.drop k) := by
    unfold msVe
    rw [← List.sum_append, ← List.map_append, List.take_append_drop]
  omega
theorem msVe_le (xs : List Ve) : msVe xs ≤ szVe xs * 4 := by
  induction xs with
  | nil => simp [msVe]
  | cons x xs ih =>
    have h := sz1Ve_len x
    simp only [msVe, szVe, List.map_cons, List.sum_cons] at ih ⊢
    omega

set_option maxHeartbeats 2000000 in
theorem markVeS_val (v : Value) (rs : List Ve) (lo hi k0 : Nat) (w : World) (hk0 : 1 ≤ k0) (hk1 : k0 + rs.length * 1 + msVe rs ≤ 1099511627776) (h : VesO lo hi w v rs) :
    Calls Try.prog 30 #[v, .int .i64 k0] w fun e w' => ∃ n : Nat, e = .returned (.int .i64 n) ∧ n = k0 + rs.length * 1 + msVe rs ∧ Only lo hi w w' := by
  obtain ⟨css, f, hl, ho, hu, hlo, hm, hhi, he⟩ := h
  rcases ho.form with ⟨rfl, h0⟩ | ⟨g, cap, hv, hg, hgl, hn, hmx⟩
  · have hx : rs = [] := by rw [h0] at hl; exact List.length_eq_zero_iff.1 hl.symm
    subst hx
    clear h0 ho he hl
    go_enter Try.func30, Try.ntmps30
    go_wp2
    refine wp_loop_rounds 1 ?_
    rw [rounds_succ]
    go_wp2
    go_ret
    exact ⟨k0, rfl, by simp [msVe], Only.refl _ _ _⟩
  · rw [hl] at hv hn
    subst hv
    unfold maxLen at hmx
    have hg0 : g < f 0 := hu g rfl
    have HM := Lib.hid hm
    have HL := Lib.hid hl
    have HO0 := Lib.hid ho
    have HE := Lib.hid he
    have HF := Lib.hid (And.intro hlo hhi)
    clear ho he hm hl hlo hhi hu
    go_enter Try.func30, Try.ntmps30
    go_wp2
    go_loopw [1, 5] (fun q i wr => ∃ (k n : Nat) (cs : List (List Value)), k ≤ rs.length ∧ i = .int .i64 k ∧ q = .int .i64 n ∧ Hid (n = k0 + k * 1 + msVe (rs.take k)) ∧ n ≤ 1099511627776 ∧
        Own lo 67 2 wr (.slice (some ⟨g, 0, none⟩) rs.length cap) cs ∧ Hid (cs.length = rs.length ∧ ∀ i (h1 : i < cs.length) (h2 : i < rs.length), k ≤ i → ∃ s, cs[i] = veC rs[i] s ∧ RusO (f i) (f (i + 1)) wr s rs[i].rules) ∧ Only lo hi w wr) (fun _ i _ => rs.length - (intOf i).toNat)
    case atStart => exact ⟨0, k0, css, Nat.zero_le _, rfl, rfl, Lib.hid (by simp [msVe]), by omega, HO0.out, Lib.hid ⟨HL.out, fun i h1 h2 _ => by obtain ⟨s, e1, e2, _⟩ := HE.out i h1 h2; exact ⟨s, e1, e2⟩⟩, Only.refl _ _ _⟩
    case round =>
      obtain ⟨k, n, cs, hk, rfl, rfl, HN, hnb, hO, I, hOn⟩ := hrel
      have HO := Lib.hid hO
      by_cases hlt : k < rs.length
      · obtain ⟨r, hx⟩ : ∃ r, rs[k] = r := ⟨_, rfl⟩
        obtain ⟨s, e1, e2⟩ := I.out.2 k (by rw [I.out.1]; exact hlt) hlt (Nat.le_refl _)
        obtain ⟨sa, sn, sc, rfl⟩ := e2.slice
        rw [hx] at e1 e2
        simp only [veC] at e1
        have hkc : k < cs.length := by rw [I.out.1]; exact hlt
        have HKC := Lib.hid hkc
        have HX := Lib.hid hx
        have E2 := Lib.hid e2
        have HI : Hid (Own lo 67 2 wr (.slice (some ⟨g, 0, none⟩) rs.length cap) cs ∧ ∃ h : k < cs.length, cs[k] = [.int .i64 r.frm, .slice sa sn sc]) := ⟨HO.out, hkc, e1⟩
        have HON : Hid (Only g (g + 1) wr wr) := Lib.hid (Only.refl _ _ _)
        have g0 : (0 : Int) ≤ (k : Int) := by omega
        have g1 : (k : Int) < (rs.length : Int) := by omega
        have hszk := msVe_take_succ rs k hlt
        have hszl := msVe_take_le rs (k + 1)
        rw [hx] at hszk
        have hnn : n + 1 + r.rules.length * 4 ≤ 1099511627776 := by have := HN.out; omega
        have HSZ := Lib.hid hszk
        have c0 := HI.out.1.cell k 0 HI.out.2.1 (by omega)
        have c1 := HI.out.1.cell k 1 HI.out.2.1 (by omega)
        rw [HI.out.2.2] at c0 c1
        simp at c0 c1
        have fr0 := HI.out.1.frozen (k * 2)
        have fr1 := HI.out.1.frozen (k * 2 + 1)
        clear hO e1 e2 hx hszk hszl hkc HO
        go_wp2_with fail
        obtain ⟨p1, p2⟩ := Own.puts [.int .i64 ((n : Int))] _ _ k 0 HI.out.2.1 (by simp) HI.out.1
        rw [HI.out.2.2] at p1
        simp only [setFrom, List.set_cons_zero, Nat.add_zero] at p1 p2
        replace HI : Hid (Own lo 67 2 _ (.slice (some ⟨g, 0, none⟩) rs.length cap) (cs.set k [.int .i64 ((n : Int)), .slice sa sn sc]) ∧ ∃ h : k < (cs.set k [.int .i64 ((n : Int)), .slice sa sn sc]).length, (cs.set k [.int .i64 ((n : Int)), .slice sa sn sc])[k] = [.int .i64 ((n : Int)), .slice sa sn sc]) := ⟨p1, by simpa using HKC.out, by rw [List.getElem_set_self]⟩
        replace HON := Lib.hid (HON.out.trans (Only.of_grown (lo := g) (hi := g + 1) (v := .slice (some ⟨g, 0, none⟩) rs.length cap) p2 (fun g' hg' => by simp [Value.ownBlock] at hg'; omega) (fun g' hg' => by simp [Value.ownBlock] at hg'; omega)))
        clear p1 p2
        have hon := HON.out
        have hmk : ∀ i, i ≤ rs.length → g + 1 ≤ f i := fun i hi => Nat.le_trans hg0 (mono_up HM.out 0 i (Nat.zero_le _) hi)
        have hev := E2.out.only hon (hmk k (by omega))
        (first | rw [show (n : Int) + 1 = ((n + 1 : Nat) : Int) by omega] | rw [show (n : Int) + 1 = ((n + 1 : Nat) : Int) by omega])
        refine (markRuS_any _ r.rules (f k) (f (k + 1)) (n + 1) _ (by omega) (by omega) hev).mono ?_
        rintro e w2 ⟨rfl, _, hon2⟩
        clear hev
        go_wp2_with fail
        go_roundw
        case rel =>
          have hfl : lo ≤ f k := Nat.le_trans HF.out.1 (mono_up HM.out 0 k (Nat.zero_le _) (by omega))
          have hfh : f (k + 1) ≤ hi := Nat.le_trans (mono_up HM.out (k + 1) rs.length (by omega) (Nat.le_refl _)) HF.out.2
          have hgh : g + 1 ≤ hi := Nat.le_trans (hmk rs.length (Nat.le_refl _)) HF.out.2
          refine ⟨k + 1, n + 1 + r.rules.length * 4, _, by omega, by go_num, by go_num, Lib.hid (by have h1 := HN.out; have h2 := HSZ.out; omega), hnn, HI.out.1.only2 hon2 (fun g' hg' => by simp [Value.ownBlock] at hg'; have := hmk k (by omega); omega),
            Lib.hid ⟨by simpa using I.out.1, fun i h1 h2 h3 => ?_⟩, (hOn.trans (hon.wide hg hgh)).trans (hon2.wide hfl hfh)⟩
          obtain ⟨s, q1, q2⟩ := I.out.2 i (by rw [I.out.1]; exact h2) h2 (by omega)
          exact ⟨s, by simpa [List.getElem_set_ne (show k ≠ i by omega)] using q1, (q2.only hon (hmk i (by omega))).only hon2 (mono_up HM.out (k + 1) i h3 (by omega))⟩
        case measure => simp [intOf]; omega
      · clear hO
        go_wp2_with fail
        go_ret
        exact ⟨n, rfl, by have h1 := HN.out; obtain rfl : k = rs.length := (by omega); rwa [List.take_length] at h1, hOn⟩
end Go.Proofs.Ytpngmheflpbnbaa

namespace Go.Proofs.Ytpngmheflpbnbaa
set_option linter.unusedVariables false
open Go.RowKit

def mEv (k i : Nat) : Ev := ⟨(k + i * 2 : Nat), (k + i * 2 + 1 : Nat)⟩
def mEvs (k n : Nat) : List Ev := (List.range n).map (mEv k)
theorem mEvs_len (k n : Nat) : (mEvs k n).length = n := by simp [mEvs]
theorem mEv_ok (k i : Nat) (h : k + i * 2 + 1 ≤ 1099511627776) : (mEv k i).ok := ⟨by simp only [mEv, inI]; omega, by simp only [mEv, inI]; omega⟩
theorem mkd_ok {k0 : Nat} {xs : List Ev} (h : ∀ e ∈ xs, e.ok) (k : Nat) (hk : k ≤ xs.length) (hb : k0 + xs.length * 2 ≤ 1099511627776) : ∀ e ∈ mkd (mEv k0) xs k, e.ok := by
  intro e he
  unfold mkd at he
  rcases List.mem_append.1 he with h1 | h1
  · obtain ⟨i, hi, rfl⟩ := List.mem_map.1 h1
    exact mEv_ok _ _ (by have := List.mem_range.1 hi; omega)
  · exact h e (List.mem_of_mem_drop h1)

set_option maxHeartbeats 1000000 in
theorem markEventS_any (v : Value) (xs : List Ev) (lo hi k0 : Nat) (w : World) (hk0 : 1 ≤ k0) (hk1 : k0 + xs.length * 2 ≤ 1099511627776) (hown : EvsO lo hi w v xs) :
    Calls Try.prog 63 #[v, .int .i64 k0] w fun e w' => e = .returned (.int .i64 (k0 + xs.length * 2 : Nat)) ∧ EvsO lo hi w' v (mEvs k0 xs.length) ∧ Only lo hi w w' := by
  obtain ⟨ho, hok, hun⟩ := hown
  have HGE := Lib.hid ho.ge
  have HUN := Lib.hid hun
  clear hun
  have hlen : (xs.map evC).length = xs.length := List.length_map _
  have HOK := Lib.hid hok
  clear hok
  rcases ho.form with ⟨rfl, h0⟩ | ⟨g, cap, hv, hg, hgl, hn, hm⟩
  · have hx : xs = [] := List.map_eq_nil_iff.1 h0
    subst hx
    clear h0 hlen
    have HO := Lib.hid ho
    clear ho
    go_enter Try.func63, Try.ntmps63
    go_wp2
    refine wp_loop_rounds 1 ?_
    rw [rounds_succ]
    go_wp2
    go_ret
    exact ⟨by simp, ⟨HO.out, by simp [mEvs], HUN.out⟩, Only.refl _ _ _⟩
  · rw [hlen] at hv hn
    subst hv
    unfold maxLen at hm
    have HO0 := Lib.hid ho
    clear ho
    go_enter Try.func63, Try.ntmps63
    go_wp2
    go_loopw [1, 5] (fun q i wr => ∃ k : Nat, k ≤ xs.length ∧ i = .int .i64 k ∧ q = .int .i64 ((k0 : Int) + k * 2) ∧
        Own lo 112 2 wr (.slice (some ⟨g, 0, none⟩) xs.length cap) ((mkd (mEv k0) xs k).map evC) ∧ w.grownBy wr (some g)) (fun _ i _ => xs.length - (intOf i).toNat)
    case atStart => exact ⟨0, Nat.zero_le _, rfl, by simp, by simpa [mkd_zero] using HO0.out, World.grownBy.refl _ _⟩
    case round =>
      obtain ⟨k, hk, rfl, rfl, hO, hG⟩ := hrel
      have HO := Lib.hid hO
      by_cases hlt : k < xs.length
      · have hml : ((mkd (mEv k0) xs k).map evC).length = xs.length := by rw [List.length_map, mkd_len _ _ _ (by omega)]
        have hat : ((mkd (mEv k0) xs k).map evC)[k]'(by omega) = evC xs[k] := by
          have h1 := mkd_at (mEv k0) xs k hlt
          rw [List.getElem?_eq_getElem (by rw [mkd_len _ _ _ (by omega)]; exact hlt)] at h1
          rw [List.getElem_map, Option.some.inj h1]
        obtain ⟨⟨x, y⟩, hs⟩ : ∃ s, xs[k] = s := ⟨_, rfl⟩
        rw [hs] at hat
        have HML := Lib.hid hml
        have c1 := hO.cell k 0 (by omega) (by omega)
        have c2 := hO.cell k 1 (by omega) (by omega)
        rw [hat] at c1 c2
        simp [evC] at c1 c2
        have fr1 := hO.frozen (k * 2)
        have fr2 := hO.frozen (k * 2 + 1)
        have g0 : (0 : Int) ≤ (k : Int) := by omega
        have g1 : (k : Int) < (xs.length : Int) := by omega
        clear hO hat hs hml
        go_wp2
        go_roundw
        case rel =>
          obtain ⟨p1, p2⟩ := HO.out.put k (by rw [HML.out]; exact hlt) (evC (mEv k0 k)) rfl
          rw [← List.map_set, mkd_set _ _ _ hlt] at p1
          refine ⟨k + 1, by omega, by go_num, by go_num, p1, grownBy_trans hG p2⟩
        case measure => simp [intOf]; omega
      · clear hO
        go_wp2
        go_ret
        obtain rfl : k = xs.length := by omega
        have h1 := HO.out
        have h2 := mkd_ok (k0 := k0) HOK.out xs.length (Nat.le_refl _) hk1
        rw [mkd_all] at h1 h2
        exact ⟨ret_int (by omega), ⟨h1, h2, HUN.out⟩, Only.of_grown (v := .slice (some ⟨g, 0, none⟩) xs.length cap) hG HGE.out HUN.out⟩

theorem mEvs_at (k0 n i : Nat) (h : i < (mEvs k0 n).length) : (mEvs k0 n)[i] = mEv k0 i := by simp [mEvs]
theorem mEvs_get (k0 n i : Nat) (h : i < n) : (mEvs k0 n)[i]'(by rw [mEvs_len]; exact h) = mEv k0 i := mEvs_at _ _ _ _


theorem markRecord_any (v : Value) (r : Rec) (lo hi k0 : Nat) (w : World) (hk0 : 1 ≤ k0) (hk1 : k0 + r.evs.length * 2 ≤ 1099511627776) (h : RecO lo hi w v r) :
    Calls Try.prog 31 #[v, .int .i64 k0] w fun e w' => e = .returned (.int .i64 (k0 + r.evs.length * 2 : Nat)) ∧ RecO lo hi w' v { r with evs := mEvs k0 r.evs.length } ∧ Only lo hi w w' := by
  obtain ⟨s, rfl, h1, hok⟩ := h
  obtain ⟨id, series, made, evs⟩ := r
  have H1 := Lib.hid h1
  have HOK := Lib.hid hok
  clear h1 hok
  go_enter Try.func31, Try.ntmps31
  go_wp2_with (first | (go_at_call 63; refine (markEventS_any _ evs lo hi k0 _ hk0 hk1 (H1.out.alloc _)).mono ?_; rintro e w' ⟨rfl, ho, hb'⟩; have HO := Lib.hid ho; clear ho))
  go_ret
  exact ⟨rfl, ⟨_, rfl, HO.out, HOK.out⟩, (Only.of_below (below_al (Below.refl _ _) _)).trans hb'⟩

end Go.Proofs.Ytpngmheflpbnbaa

namespace Go.Proofs.Ytpngmheflpbnbaa
set_option linter.unusedVariables false
open Go.RowKit
theorem cell_only {lo hi b j : Nat} {w w' : World} {v : Value} (h : Only lo hi w w') (hc : w.cell? ⟨b, j, none⟩ = some v) (hb : b < lo ∨ hi ≤ b) : w'.cell? ⟨b, j, none⟩ = some v :=
  (World.cell?_of_block (h.block b (World.block_lt_of_cell? _ _ hc) hb)).trans hc
end Go.Proofs.Ytpngmheflpbnbaa

namespace Go.Proofs.Ytpngmheflpbnbaa
set_option linter.unusedVariables false
open Go.RowKit

def BxV (w : World) (F : Nat) (cs : List Value) : Prop := ∃ t, w.heap[F]? = some (.cells cs.toArray t (0, 0))
theorem BxV.new (w : World) (cs : List Value) (t : TypeId) : BxV (w.alloc (.cells cs.toArray t (0, 0))) w.heap.size cs := ⟨t, heap_alloc_new w _⟩
theorem BxV.new' {w : World} {F : Nat} (h : w.heap.size = F) (cs : List Value) (t : TypeId) : BxV (w.alloc (.cells cs.toArray t (0, 0))) F cs := by subst h; exact BxV.new w cs t
theorem BxV.lt {w : World} {F : Nat} {cs : List Value} (h : BxV w F cs) : F < w.heap.size := by obtain ⟨t, h⟩ := h; exact (Array.getElem?_eq_some_iff.1 h).1
theorem BxV.cell {w : World} {F : Nat} {cs : List Value} (h : BxV w F cs) (j : Nat) : w.cell? ⟨F, j, none⟩ = cs[j]? := by obtain ⟨t, h⟩ := h; rw [blk_cell h]; simp
theorem BxV.frozen {w : World} {F : Nat} {cs : List Value} (h : BxV w F cs) (j : Nat) : w.frozen? ⟨F, j, none⟩ = false := by obtain ⟨t, h⟩ := h; exact blk_frozen h j
theorem BxV.grown {w w' : World} {F : Nat} {cs : List Value} {row : Option Nat} (h : BxV w F cs) (hg : w.grownBy w' row) (hn : some F ≠ row) : BxV w' F cs := by
  have hl := h.lt
  obtain ⟨t, h⟩ := h
  exact ⟨t, (hg.block F hl hn).trans h⟩
theorem BxV.below {w w' : World} {F : Nat} {cs : List Value} (h : BxV w F cs) (hb : Below w.heap.size w w') : BxV w' F cs := h.grown (row := none) (grownBy_of_below hb none) (by simp)
theorem BxV.al {w : World} {F : Nat} {cs : List Value} (h : BxV w F cs) (o : Obj) : BxV (w.alloc o) F cs := h.below (below_al (Below.refl _ _) o)
theorem BxV.drew {w : World} {F : Nat} {cs : List Value} (h : BxV w F cs) : BxV w.drew F cs := h
theorem BxV.other {w : World} {F G j : Nat} {u : Value} {cs : List Value} (h : BxV w F cs) (hn : F ≠ G) : BxV (w.setCell ⟨G, j, none⟩ u) F cs := by
  obtain ⟨t, h⟩ := h
  exact ⟨t, (Below.heap_setCell w ⟨G, j, none⟩ u F hn).trans h⟩
theorem BxV.set {w : World} {F : Nat} {cs cs' : List Value} (j : Nat) (u : Value) (h : BxV w F cs) (e : cs.set j u = cs') : BxV (w.setCell ⟨F, j, none⟩ u) F cs' := by
  subst e
  obtain ⟨t, h⟩ := h
  refine ⟨t, ?_⟩
  unfold World.setCell
  simp only
  rw [Array.getElem?_modify]
  simp [h]
end Go.Proofs.Ytpngmheflpbnbaa

namespace Go.Proofs.Ytpngmheflpbnbaa
set_option linter.unusedVariables false
open Go.ChangeShapes Go.WideShapes Go.ChangeAt Go.RowKit

theorem bx_put4 {w : World} {k : Nat} {z0 z1 z2 z3 : Value} (h : BxV w k [z0, z1, z2, z3]) (q0 q1 q2 q3 : Value) : BxV ((((w.setCell ⟨k, 0, none⟩ q0).setCell ⟨k, 1, none⟩ q1).setCell ⟨k, 2, none⟩ q2).setCell ⟨k, 3, none⟩ q3) k [q0, q1, q2, q3] :=
  (((h.set 0 q0 (cs' := [q0, z1, z2, z3]) rfl).set 1 q1 (cs' := [q0, q1, z2, z3]) rfl).set 2 q2 (cs' := [q0, q1, q2, z3]) rfl).set 3 q3 (cs' := [q0, q1, q2, q3]) rfl
theorem cell_put4 {w : World} {k g j : Nat} {u q0 q1 q2 q3 : Value} (h : w.cell? ⟨g, j, none⟩ = some u) (hn : g ≠ k) : ((((w.setCell ⟨k, 0, none⟩ q0).setCell ⟨k, 1, none⟩ q1).setCell ⟨k, 2, none⟩ q2).setCell ⟨k, 3, none⟩ q3).cell? ⟨g, j, none⟩ = some u := by
  rw [cellset_other _ (fun e => by injection e with e1; exact hn e1.symm), cellset_other _ (fun e => by injection e with e1; exact hn e1.symm), cellset_other _ (fun e => by injection e with e1; exact hn e1.symm), cellset_other _ (fun e => by injection e with e1; exact hn e1.symm)]; exact h
theorem below_put4 {n k : Nat} {a b : World} {q0 q1 q2 q3 : Value} (h : Below n a b) (hk : n ≤ k) : Below n a ((((b.setCell ⟨k, 0, none⟩ q0).setCell ⟨k, 1, none⟩ q1).setCell ⟨k, 2, none⟩ q2).setCell ⟨k, 3, none⟩ q3) :=
  (((h.setCell (p := ⟨k, 0, none⟩) hk q0).setCell (p := ⟨k, 1, none⟩) hk q1).setCell (p := ⟨k, 2, none⟩) hk q2).setCell (p := ⟨k, 3, none⟩) hk q3

set_option maxRecDepth 20000 in
set_option maxHeartbeats 8000000 in
theorem walkDecidesOn (v0 : Value) (l : List Ve) (v1 : Value) (r : Rec) (v2 : Value) (d : Int) (W : World) (h0 : RowR 2 rVe W v0 l) (h1 : RecV W v1 r) (h2 : v2 = .int .i64 d ∧ inI d) :
    Calls Try.prog 5 #[v0, v1, v2] W fun e w' => e = .returned (.bool true) ∧ Below W.heap.size W w' := by
  have HA0 := Lib.hid (show ∀ W', Below W.heap.size W W' → RowR 2 rVe W' v0 l from fun W' hb => h0.below rVe_stable hb)
  clear h0
  obtain ⟨sl1, rfl, hh1, hok1⟩ := h1
  have HA1 := Lib.hid (show ∀ W', Below W.heap.size W W' → RecV W' (.agg #[.int .i64 r.id, .int .i64 r.series, .int .i64 r.made, sl1]) r from fun W' hb => ⟨sl1, rfl, hh1.below rEv_stable hb, hok1⟩)
  clear hh1 hok1
  obtain ⟨rfl, k2⟩ := h2
  obtain ⟨q, b, hb⟩ : ∃ q b, decoRes l r d = (q, b) := ⟨_, _, rfl⟩
  have HB := Lib.hid hb
  clear hb
  have eb_b : (b != b) = false := by simp
  go_enter Try.func5, Try.ntmps5
  go_wp2_with fail
  generalize hW0 : W.alloc (.cells #[.int .i64 r.id, .int .i64 r.series, .int .i64 r.made, sl1] 34 (0, 0)) = W0
  have HBW : Hid (Below W.heap.size W W0) := Lib.hid (by rw [← hW0]; exact below_al (Below.refl W.heap.size W) _)
  have HC1 := Lib.hid (show W0.cell? ⟨W.heap.size, 0, none⟩ = some (.int .i64 r.id) ∧ W0.cell? ⟨W.heap.size, 1, none⟩ = some (.int .i64 r.series) ∧ W0.cell? ⟨W.heap.size, 2, none⟩ = some (.int .i64 r.made) ∧ W0.cell? ⟨W.heap.size, 3, none⟩ = some (sl1) by rw [← hW0]; exact ⟨cell_new W #[.int .i64 r.id, .int .i64 r.series, .int .i64 r.made, sl1] 34 0 rfl, cell_new W #[.int .i64 r.id, .int .i64 r.series, .int .i64 r.made, sl1] 34 1 rfl, cell_new W #[.int .i64 r.id, .int .i64 r.series, .int .i64 r.made, sl1] 34 2 rfl, cell_new W #[.int .i64 r.id, .int .i64 r.series, .int .i64 r.made, sl1] 34 3 rfl⟩)
  clear hW0
  obtain ⟨c1_0, c1_1, c1_2, c1_3⟩ := HC1.out
  go_wp2_with fail
  refine (szVeS_any _ l 1048576 _ (HA0.out _ HBW.out) (by omega) (by omega)).mono ?_
  rintro e w1 ⟨n0, rfl, hf0, hp0, hq0, b1⟩
  have sz1 := b1.size
  replace HC1 := Lib.hid (show w1.cell? ⟨W.heap.size, 0, none⟩ = some (.int .i64 r.id) ∧ w1.cell? ⟨W.heap.size, 1, none⟩ = some (.int .i64 r.series) ∧ w1.cell? ⟨W.heap.size, 2, none⟩ = some (.int .i64 r.made) ∧ w1.cell? ⟨W.heap.size, 3, none⟩ = some (sl1) by obtain ⟨z0, z1, z2, z3⟩ := HC1.out; exact ⟨cell_kept z0 b1, cell_kept z1 b1, cell_kept z2 b1, cell_kept z3 b1⟩)
  replace HBW := Lib.hid (HBW.out.trans (b1.mono HBW.out.size))
  clear b1 c1_0 c1_1 c1_2 c1_3
  have HF0 := Lib.hid hf0
  have HP0 := Lib.hid hp0
  clear hf0 hp0
  by_cases hs0 : n0 < 0
  · go_wp2_with fail
    go_ret
    exact ⟨rfl, HBW.out⟩
  · have hl0 : l.length + szVe l ≤ 1048576 := by have := HF0.out; omega
    have hn00 : 0 ≤ n0 := by omega
    have hxt0 := msVe_le l
    obtain ⟨c1_0, c1_1, c1_2, c1_3⟩ := HC1.out
    go_wp2_with fail
    refine (szRecord_any _ r n0 _ (HA1.out _ HBW.out) (by omega) (by omega)).mono ?_
    rintro e w2 ⟨rfl, b2⟩
    have sz2 := b2.size
    replace HC1 := Lib.hid (show w2.cell? ⟨W.heap.size, 0, none⟩ = some (.int .i64 r.id) ∧ w2.cell? ⟨W.heap.size, 1, none⟩ = some (.int .i64 r.series) ∧ w2.cell? ⟨W.heap.size, 2, none⟩ = some (.int .i64 r.made) ∧ w2.cell? ⟨W.heap.size, 3, none⟩ = some (sl1) by obtain ⟨z0, z1, z2, z3⟩ := HC1.out; exact ⟨cell_kept z0 b2, cell_kept z1 b2, cell_kept z2 b2, cell_kept z3 b2⟩)
    replace HBW := Lib.hid (HBW.out.trans (b2.mono HBW.out.size))
    clear b2 c1_0 c1_1 c1_2 c1_3
    by_cases hs1 : (n0 : Int) < r.evs.length
    · rw [if_pos hs1]
      go_wp2_with fail
      go_ret
      exact ⟨rfl, HBW.out⟩
    · rw [if_neg hs1]
      obtain ⟨n1, hn1⟩ : ∃ n : Int, n0 - (r.evs.length : Int) = n := ⟨_, rfl⟩
      have hl1 : r.evs.length ≤ 1048576 := by omega
      have hn10 : 0 ≤ n1 := by omega
      have hn11 : n1 ≤ n0 := by omega
      rw [hn1]
      clear hn1
      obtain ⟨c1_0, c1_1, c1_2, c1_3⟩ := HC1.out
      go_wp2_with fail
      go_cut [8, 9] from 14 to 62 (fun p p2 wx => ∃ G : Nat, p = .pointer (some ⟨G, 0, none⟩) ∧ p2 = .bool b ∧ Hid (BxV wx G [.int .i64 q.series, .int .i64 q.event, .int .i64 q.days, .int .i64 q.act]) ∧ Hid (wx.cell? ⟨W.heap.size, 0, none⟩ = some (.int .i64 r.id) ∧ wx.cell? ⟨W.heap.size, 1, none⟩ = some (.int .i64 r.series) ∧ wx.cell? ⟨W.heap.size, 2, none⟩ = some (.int .i64 r.made) ∧ wx.cell? ⟨W.heap.size, 3, none⟩ = some (sl1)) ∧ Hid (Below W.heap.size W wx))
      case first =>
        as_aux_lemma =>
          have hWl := World.block_lt_of_cell? _ _ c1_0
          simp only at hWl
          go_region_held3 (fun w' => w'.cell? ⟨W.heap.size, 0, none⟩ = some (.int .i64 r.id) ∧ w'.cell? ⟨W.heap.size, 1, none⟩ = some (.int .i64 r.series) ∧ w'.cell? ⟨W.heap.size, 2, none⟩ = some (.int .i64 r.made) ∧ w'.cell? ⟨W.heap.size, 3, none⟩ = some (sl1)) (first | with_reducible exact ⟨c1_0, c1_1, c1_2, c1_3⟩ | with_reducible exact ⟨cell_drew c1_0, cell_drew c1_1, cell_drew c1_2, cell_drew c1_3⟩ | with_reducible exact ⟨below_al_cell c1_0 _, below_al_cell c1_1 _, below_al_cell c1_2 _, below_al_cell c1_3 _⟩ | with_reducible exact ⟨cell_drew (below_al_cell c1_0 _), cell_drew (below_al_cell c1_1 _), cell_drew (below_al_cell c1_2 _), cell_drew (below_al_cell c1_3 _)⟩ | with_reducible exact ⟨below_al_cell (cell_drew c1_0) _, below_al_cell (cell_drew c1_1) _, below_al_cell (cell_drew c1_2) _, below_al_cell (cell_drew c1_3) _⟩ | (refine ⟨?_, ?_, ?_, ?_⟩ <;> (repeat rw [World.cell?_setCell_far _ _ _ _ (by first | (simp; done) | (simp; omega) | omega)]) <;> first | assumption | go_keep)) (first | (go_at_call 14; refine (toVeS_any _ l _ (HA0.out _ (by first | exact HBW.out | exact HBW.out.drew | exact HBW.out.alloc HBW.out.size _ | exact (HBW.out.alloc HBW.out.size _).drew | exact HBW.out.drew.alloc HBW.out.size _)) (by omega)).mono ?_; rintro e w3 ⟨s0, rfl, hos0, b3⟩; have HOs0 := Lib.hid hos0; clear hos0; (first | have HZ := Lib.hid ((BxV.new w2 [.int .i64 0, .int .i64 0, .int .i64 0, .int .i64 0] 37).below b3) | have HZ := Lib.hid ((BxV.new w2.drew [.int .i64 0, .int .i64 0, .int .i64 0, .int .i64 0] 37).below b3) | have HZ := Lib.hid (BxV.below (w := (World.alloc w2 _).drew) (BxV.new w2 [.int .i64 0, .int .i64 0, .int .i64 0, .int .i64 0] 37) b3) | skip); replace b3 : Below w2.heap.size w2 w3 := (by first | exact below_chain (Below.refl _ _) b3 | exact below_chain (Below.refl _ _).drew b3 | exact below_chain (below_al (Below.refl _ _) _) b3 | exact below_chain (below_al (Below.refl _ _) _).drew b3 | exact below_chain (below_al (Below.refl _ _).drew _) b3); have sz3 := b3.size; replace c1_0 := cell_kept c1_0 b3; replace c1_1 := cell_kept c1_1 b3; replace c1_2 := cell_kept c1_2 b3; replace c1_3 := cell_kept c1_3 b3; replace HBW := Lib.hid (HBW.out.trans (b3.mono HBW.out.size)); clear b3) | (go_at_call 21; refine (toRecord_some _ r _ (HA1.out _ (by first | exact HBW.out | exact HBW.out.drew | exact HBW.out.alloc HBW.out.size _ | exact (HBW.out.alloc HBW.out.size _).drew | exact HBW.out.drew.alloc HBW.out.size _)) (by omega)).mono ?_; rintro e w4 ⟨s1, rfl, hos1, b4, hss1⟩; have HOs1 := Lib.hid hos1; clear hos1 hss1; (first | have HZ := Lib.hid ((BxV.new w3 [.int .i64 0, .int .i64 0, .int .i64 0, .int .i64 0] 37).below b4) | have HZ := Lib.hid ((BxV.new w3.drew [.int .i64 0, .int .i64 0, .int .i64 0, .int .i64 0] 37).below b4) | have HZ := Lib.hid (BxV.below (w := (World.alloc w3 _).drew) (BxV.new w3 [.int .i64 0, .int .i64 0, .int .i64 0, .int .i64 0] 37) b4) | skip); replace b4 : Below w3.heap.size w3 w4 := (by first | exact below_chain (Below.refl _ _) b4 | exact below_chain (Below.refl _ _).drew b4 | exact below_chain (below_al (Below.refl _ _) _) b4 | exact below_chain (below_al (Below.refl _ _) _).drew b4 | exact below_chain (below_al (Below.refl _ _).drew _) b4); have sz4 := b4.size; (try replace HZ := Lib.hid (HZ.out.below b4)); replace c1_0 := cell_kept c1_0 b4; replace c1_1 := cell_kept c1_1 b4; replace c1_2 := cell_kept c1_2 b4; replace c1_3 := cell_kept c1_3 b4; replace HOs0 := Lib.hid (HOs0.out.below b4); replace HBW := Lib.hid (HBW.out.trans (b4.mono HBW.out.size)); clear b4) | (go_at_call 20; refine (specDecidesOn_any _ _ l r d _ (by first | exact HOs0.out.row | exact (HOs0.out.below (below_al (Below.refl _ _) _)).row | exact (HOs0.out.below (below_al (Below.refl _ _) _).drew).row | exact (HOs0.out.below (Below.refl _ _).drew).row) (by first | exact HOs1.out.toV | exact (HOs1.out.below (below_al (Below.refl _ _) _)).toV | exact (HOs1.out.below (below_al (Below.refl _ _) _).drew).toV | exact (HOs1.out.below (Below.refl _ _).drew).toV) q b HB.out).mono ?_; rintro e w5 ⟨rfl, b5⟩; (first | have HZ := Lib.hid ((BxV.new w4 [.int .i64 0, .int .i64 0, .int .i64 0, .int .i64 0] 37).below b5) | have HZ := Lib.hid ((BxV.new w4.drew [.int .i64 0, .int .i64 0, .int .i64 0, .int .i64 0] 37).below b5) | have HZ := Lib.hid (BxV.below (w := (World.alloc w4 _).drew) (BxV.new w4 [.int .i64 0, .int .i64 0, .int .i64 0, .int .i64 0] 37) b5) | skip); replace b5 : Below w4.heap.size w4 w5 := (by first | exact below_chain (Below.refl _ _) b5 | exact below_chain (Below.refl _ _).drew b5 | exact below_chain (below_al (Below.refl _ _) _) b5 | exact below_chain (below_al (Below.refl _ _) _).drew b5 | exact below_chain (below_al (Below.refl _ _).drew _) b5); have sz5 := b5.size; (try replace HZ := Lib.hid (HZ.out.below b5)); replace c1_0 := cell_kept c1_0 b5; replace c1_1 := cell_kept c1_1 b5; replace c1_2 := cell_kept c1_2 b5; replace c1_3 := cell_kept c1_3 b5; replace HBW := Lib.hid (HBW.out.trans (b5.mono HBW.out.size)); clear b5; (try (have z0 := HZ.out.cell 0; have z1 := HZ.out.cell 1; have z2 := HZ.out.cell 2; have z3 := HZ.out.cell 3; simp at z0 z1 z2 z3; have y0 := HZ.out.frozen 0; have y1 := HZ.out.frozen 1; have y2 := HZ.out.frozen 2; have y3 := HZ.out.frozen 3; (try simp at y0 y1 y2 y3); have hzl := HZ.out.lt))))
          all_goals
            go_wp2_with fail
            go_meet
            first
              | exact ⟨_, rfl, rfl, Lib.hid (bx_put4 HZ.out _ _ _ _), Lib.hid ⟨cell_put4 c1_0 (by omega), cell_put4 c1_1 (by omega), cell_put4 c1_2 (by omega), cell_put4 c1_3 (by omega)⟩, Lib.hid (below_put4 HBW.out (by omega))⟩
              | exact ⟨w5.heap.size, rfl, rfl, Lib.hid (BxV.new w5 [.int .i64 q.series, .int .i64 q.event, .int .i64 q.days, .int .i64 q.act] _), Lib.hid ⟨below_al_cell c1_0 _, below_al_cell c1_1 _, below_al_cell c1_2 _, below_al_cell c1_3 _⟩, Lib.hid (HBW.out.alloc HBW.out.size _)⟩
      case rest =>
        clear HC1 HBW c1_0 c1_1 c1_2 c1_3
        obtain ⟨G, rfl, rfl, HBQ, HC1, HBW⟩ := hcut
        have hGl := HBQ.out.lt
        obtain ⟨c1_0, c1_1, c1_2, c1_3⟩ := HC1.out
        have q0 := HBQ.out.cell 0
        have q1 := HBQ.out.cell 1
        have q2 := HBQ.out.cell 2
        have q3 := HBQ.out.cell 3
        simp at q0 q1 q2 q3
        go_wp2_with fail
        refine (toVeS_any _ l _ (HA0.out _ HBW.out) (by omega)).mono ?_
        rintro e w6 ⟨x0, rfl, hox0, b6⟩
        have HOx0 := Lib.hid hox0
        clear hox0
        have HC2 := Lib.hid (show w6.cell? ⟨G, 0, none⟩ = some (.int .i64 q.series) ∧ w6.cell? ⟨G, 1, none⟩ = some (.int .i64 q.event) ∧ w6.cell? ⟨G, 2, none⟩ = some (.int .i64 q.days) ∧ w6.cell? ⟨G, 3, none⟩ = some (.int .i64 q.act) from ⟨cell_kept q0 b6, cell_kept q1 b6, cell_kept q2 b6, cell_kept q3 b6⟩)
        have sz6 := b6.size
        replace HC1 := Lib.hid (show w6.cell? ⟨W.heap.size, 0, none⟩ = some (.int .i64 r.id) ∧ w6.cell? ⟨W.heap.size, 1, none⟩ = some (.int .i64 r.series) ∧ w6.cell? ⟨W.heap.size, 2, none⟩ = some (.int .i64 r.made) ∧ w6.cell? ⟨W.heap.size, 3, none⟩ = some (sl1) by obtain ⟨z0, z1, z2, z3⟩ := HC1.out; exact ⟨cell_kept z0 b6, cell_kept z1 b6, cell_kept z2 b6, cell_kept z3 b6⟩)
        replace HBW := Lib.hid (HBW.out.trans (b6.mono HBW.out.size))
        clear b6 c1_0 c1_1 c1_2 c1_3 q0 q1 q2 q3
        obtain ⟨c1_0, c1_1, c1_2, c1_3⟩ := HC1.out
        obtain ⟨c2_0, c2_1, c2_2, c2_3⟩ := HC2.out
        go_wp2_with fail
        refine (toRecord_some _ r _ (HA1.out _ HBW.out) (by omega)).mono ?_
        rintro e w7 ⟨x1, rfl, hox1, b7, hsx1⟩
        have HOx1 := Lib.hid hox1
        have HSx1 := Lib.hid hsx1
        clear hox1 hsx1
        have sz7 := b7.size
        replace HOx0 := Lib.hid (HOx0.out.below b7)
        replace HC1 := Lib.hid (show w7.cell? ⟨W.heap.size, 0, none⟩ = some (.int .i64 r.id) ∧ w7.cell? ⟨W.heap.size, 1, none⟩ = some (.int .i64 r.series) ∧ w7.cell? ⟨W.heap.size, 2, none⟩ = some (.int .i64 r.made) ∧ w7.cell? ⟨W.heap.size, 3, none⟩ = some (sl1) by obtain ⟨z0, z1, z2, z3⟩ := HC1.out; exact ⟨cell_kept z0 b7, cell_kept z1 b7, cell_kept z2 b7, cell_kept z3 b7⟩)
        replace HC2 := Lib.hid (show w7.cell? ⟨G, 0, none⟩ = some (.int .i64 q.series) ∧ w7.cell? ⟨G, 1, none⟩ = some (.int .i64 q.event) ∧ w7.cell? ⟨G, 2, none⟩ = some (.int .i64 q.days) ∧ w7.cell? ⟨G, 3, none⟩ = some (.int .i64 q.act) by obtain ⟨z0, z1, z2, z3⟩ := HC2.out; exact ⟨cell_kept z0 b7, cell_kept z1 b7, cell_kept z2 b7, cell_kept z3 b7⟩)
        replace HBW := Lib.hid (HBW.out.trans (b7.mono HBW.out.size))
        clear b7 c1_0 c1_1 c1_2 c1_3 c2_0 c2_1 c2_2 c2_3
        obtain ⟨sx1, hvx1, hox1, hokx1⟩ := HOx1.out
        obtain ⟨sa1, sn1, sc1, rfl⟩ := hox1.1.slice
        subst hvx1
        clear hox1 hokx1
        obtain ⟨c1_0, c1_1, c1_2, c1_3⟩ := HC1.out
        have c1_0x := fun ob => below_al_cell c1_0 ob
        have c1_1x := fun ob => below_al_cell c1_1 ob
        have c1_2x := fun ob => below_al_cell c1_2 ob
        have c1_3x := fun ob => below_al_cell c1_3 ob
        obtain ⟨c2_0, c2_1, c2_2, c2_3⟩ := HC2.out
        have c2_0x := fun ob => below_al_cell c2_0 ob
        have c2_1x := fun ob => below_al_cell c2_1 ob
        have c2_2x := fun ob => below_al_cell c2_2 ob
        have c2_3x := fun ob => below_al_cell c2_3 ob
        go_wp2_with fail
        refine (implDecidesOn_any _ _ l r d _ (HOx0.out.below (below_al (Below.refl _ _) _)).row (HOx1.out.below (below_al (Below.refl _ _) _)).toV q b HB.out).mono ?_
        rintro e w8 ⟨rfl, b8⟩
        have HC3 := Lib.hid (show w8.cell? ⟨w7.heap.size, 0, none⟩ = some (.int .i64 r.id) ∧ w8.cell? ⟨w7.heap.size, 1, none⟩ = some (.int .i64 r.series) ∧ w8.cell? ⟨w7.heap.size, 2, none⟩ = some (.int .i64 r.made) ∧ w8.cell? ⟨w7.heap.size, 3, none⟩ = some (.slice sa1 sn1 sc1) from ⟨cell_kept (cell_new _ _ _ 0 rfl) b8, cell_kept (cell_new _ _ _ 1 rfl) b8, cell_kept (cell_new _ _ _ 2 rfl) b8, cell_kept (cell_new _ _ _ 3 rfl) b8⟩)
        replace b8 := below_chain (below_al (Below.refl w7.heap.size w7) _) b8
        have sz8 := b8.size
        replace HOx0 := Lib.hid (HOx0.out.below b8)
        replace HOx1 := Lib.hid (HOx1.out.below b8)
        replace HC1 := Lib.hid (show w8.cell? ⟨W.heap.size, 0, none⟩ = some (.int .i64 r.id) ∧ w8.cell? ⟨W.heap.size, 1, none⟩ = some (.int .i64 r.series) ∧ w8.cell? ⟨W.heap.size, 2, none⟩ = some (.int .i64 r.made) ∧ w8.cell? ⟨W.heap.size, 3, none⟩ = some (sl1) by obtain ⟨z0, z1, z2, z3⟩ := HC1.out; exact ⟨cell_kept z0 b8, cell_kept z1 b8, cell_kept z2 b8, cell_kept z3 b8⟩)
        replace HC2 := Lib.hid (show w8.cell? ⟨G, 0, none⟩ = some (.int .i64 q.series) ∧ w8.cell? ⟨G, 1, none⟩ = some (.int .i64 q.event) ∧ w8.cell? ⟨G, 2, none⟩ = some (.int .i64 q.days) ∧ w8.cell? ⟨G, 3, none⟩ = some (.int .i64 q.act) by obtain ⟨z0, z1, z2, z3⟩ := HC2.out; exact ⟨cell_kept z0 b8, cell_kept z1 b8, cell_kept z2 b8, cell_kept z3 b8⟩)
        replace HBW := Lib.hid (HBW.out.trans (b8.mono HBW.out.size))
        clear b8 c1_0 c1_1 c1_2 c1_3 c1_0x c1_1x c1_2x c1_3x c2_0 c2_1 c2_2 c2_3 c2_0x c2_1x c2_2x c2_3x
        obtain ⟨c1_0, c1_1, c1_2, c1_3⟩ := HC1.out
        have c1_0x := fun ob => below_al_cell c1_0 ob
        have c1_1x := fun ob => below_al_cell c1_1 ob
        have c1_2x := fun ob => below_al_cell c1_2 ob
        have c1_3x := fun ob => below_al_cell c1_3 ob
        obtain ⟨c2_0, c2_1, c2_2, c2_3⟩ := HC2.out
        have c2_0x := fun ob => below_al_cell c2_0 ob
        have c2_1x := fun ob => below_al_cell c2_1 ob
        have c2_2x := fun ob => below_al_cell c2_2 ob
        have c2_3x := fun ob => below_al_cell c2_3 ob
        obtain ⟨c3_0, c3_1, c3_2, c3_3⟩ := HC3.out
        have c3_0x := fun ob => below_al_cell c3_0 ob
        have c3_1x := fun ob => below_al_cell c3_1 ob
        have c3_2x := fun ob => below_al_cell c3_2 ob
        have c3_3x := fun ob => below_al_cell c3_3 ob
        go_wp2_with fail
        refine (eqRu_any _ _ _).mono ?_
        rw [decide_eq_true rfl]
        rintro e w9 ⟨rfl, b9⟩
        have HC4 := Lib.hid (show w9.cell? ⟨w8.heap.size, 0, none⟩ = some (.int .i64 q.series) ∧ w9.cell? ⟨w8.heap.size, 1, none⟩ = some (.int .i64 q.event) ∧ w9.cell? ⟨w8.heap.size, 2, none⟩ = some (.int .i64 q.days) ∧ w9.cell? ⟨w8.heap.size, 3, none⟩ = some (.int .i64 q.act) from ⟨cell_kept (cell_new _ _ _ 0 rfl) b9, cell_kept (cell_new _ _ _ 1 rfl) b9, cell_kept (cell_new _ _ _ 2 rfl) b9, cell_kept (cell_new _ _ _ 3 rfl) b9⟩)
        replace b9 := below_chain (below_al (Below.refl w8.heap.size w8) _) b9
        have sz9 := b9.size
        replace HOx0 := Lib.hid (HOx0.out.below b9)
        replace HOx1 := Lib.hid (HOx1.out.below b9)
        replace HC1 := Lib.hid (show w9.cell? ⟨W.heap.size, 0, none⟩ = some (.int .i64 r.id) ∧ w9.cell? ⟨W.heap.size, 1, none⟩ = some (.int .i64 r.series) ∧ w9.cell? ⟨W.heap.size, 2, none⟩ = some (.int .i64 r.made) ∧ w9.cell? ⟨W.heap.size, 3, none⟩ = some (sl1) by obtain ⟨z0, z1, z2, z3⟩ := HC1.out; exact ⟨cell_kept z0 b9, cell_kept z1 b9, cell_kept z2 b9, cell_kept z3 b9⟩)
        replace HC2 := Lib.hid (show w9.cell? ⟨G, 0, none⟩ = some (.int .i64 q.series) ∧ w9.cell? ⟨G, 1, none⟩ = some (.int .i64 q.event) ∧ w9.cell? ⟨G, 2, none⟩ = some (.int .i64 q.days) ∧ w9.cell? ⟨G, 3, none⟩ = some (.int .i64 q.act) by obtain ⟨z0, z1, z2, z3⟩ := HC2.out; exact ⟨cell_kept z0 b9, cell_kept z1 b9, cell_kept z2 b9, cell_kept z3 b9⟩)
        replace HC3 := Lib.hid (show w9.cell? ⟨w7.heap.size, 0, none⟩ = some (.int .i64 r.id) ∧ w9.cell? ⟨w7.heap.size, 1, none⟩ = some (.int .i64 r.series) ∧ w9.cell? ⟨w7.heap.size, 2, none⟩ = some (.int .i64 r.made) ∧ w9.cell? ⟨w7.heap.size, 3, none⟩ = some (.slice sa1 sn1 sc1) by obtain ⟨z0, z1, z2, z3⟩ := HC3.out; exact ⟨cell_kept z0 b9, cell_kept z1 b9, cell_kept z2 b9, cell_kept z3 b9⟩)
        replace HBW := Lib.hid (HBW.out.trans (b9.mono HBW.out.size))
        clear b9 c1_0 c1_1 c1_2 c1_3 c1_0x c1_1x c1_2x c1_3x c2_0 c2_1 c2_2 c2_3 c2_0x c2_1x c2_2x c2_3x c3_0 c3_1 c3_2 c3_3 c3_0x c3_1x c3_2x c3_3x
  
        obtain ⟨c1_0, c1_1, c1_2, c1_3⟩ := HC1.out
        obtain ⟨c2_0, c2_1, c2_2, c2_3⟩ := HC2.out
        obtain ⟨c3_0, c3_1, c3_2, c3_3⟩ := HC3.out
        obtain ⟨c4_0, c4_1, c4_2, c4_3⟩ := HC4.out
        go_wp2_with fail
        refine (toVeS_any _ l _ (HA0.out _ HBW.out) (by omega)).mono ?_
        rintro e w10 ⟨vq0, rfl, hq0_, b10⟩
        have HQ0 := Lib.hid hq0_
        clear hq0_
        have sz10 := b10.size
        replace HOx0 := Lib.hid (HOx0.out.below b10)
        replace HOx1 := Lib.hid (HOx1.out.below b10)
        replace HC1 := Lib.hid (show w10.cell? ⟨W.heap.size, 0, none⟩ = some (.int .i64 r.id) ∧ w10.cell? ⟨W.heap.size, 1, none⟩ = some (.int .i64 r.series) ∧ w10.cell? ⟨W.heap.size, 2, none⟩ = some (.int .i64 r.made) ∧ w10.cell? ⟨W.heap.size, 3, none⟩ = some (sl1) by obtain ⟨z0, z1, z2, z3⟩ := HC1.out; exact ⟨cell_kept z0 b10, cell_kept z1 b10, cell_kept z2 b10, cell_kept z3 b10⟩)
        replace HC2 := Lib.hid (show w10.cell? ⟨G, 0, none⟩ = some (.int .i64 q.series) ∧ w10.cell? ⟨G, 1, none⟩ = some (.int .i64 q.event) ∧ w10.cell? ⟨G, 2, none⟩ = some (.int .i64 q.days) ∧ w10.cell? ⟨G, 3, none⟩ = some (.int .i64 q.act) by obtain ⟨z0, z1, z2, z3⟩ := HC2.out; exact ⟨cell_kept z0 b10, cell_kept z1 b10, cell_kept z2 b10, cell_kept z3 b10⟩)
        replace HC3 := Lib.hid (show w10.cell? ⟨w7.heap.size, 0, none⟩ = some (.int .i64 r.id) ∧ w10.cell? ⟨w7.heap.size, 1, none⟩ = some (.int .i64 r.series) ∧ w10.cell? ⟨w7.heap.size, 2, none⟩ = some (.int .i64 r.made) ∧ w10.cell? ⟨w7.heap.size, 3, none⟩ = some (.slice sa1 sn1 sc1) by obtain ⟨z0, z1, z2, z3⟩ := HC3.out; exact ⟨cell_kept z0 b10, cell_kept z1 b10, cell_kept z2 b10, cell_kept z3 b10⟩)
        replace HC4 := Lib.hid (show w10.cell? ⟨w8.heap.size, 0, none⟩ = some (.int .i64 q.series) ∧ w10.cell? ⟨w8.heap.size, 1, none⟩ = some (.int .i64 q.event) ∧ w10.cell? ⟨w8.heap.size, 2, none⟩ = some (.int .i64 q.days) ∧ w10.cell? ⟨w8.heap.size, 3, none⟩ = some (.int .i64 q.act) by obtain ⟨z0, z1, z2, z3⟩ := HC4.out; exact ⟨cell_kept z0 b10, cell_kept z1 b10, cell_kept z2 b10, cell_kept z3 b10⟩)
        replace HBW := Lib.hid (HBW.out.trans (b10.mono HBW.out.size))
        clear b10 c1_0 c1_1 c1_2 c1_3 c2_0 c2_1 c2_2 c2_3 c3_0 c3_1 c3_2 c3_3 c4_0 c4_1 c4_2 c4_3
        obtain ⟨c1_0, c1_1, c1_2, c1_3⟩ := HC1.out
        obtain ⟨c2_0, c2_1, c2_2, c2_3⟩ := HC2.out
        obtain ⟨c3_0, c3_1, c3_2, c3_3⟩ := HC3.out
        obtain ⟨c4_0, c4_1, c4_2, c4_3⟩ := HC4.out
        go_wp2_with fail
        refine (eqVeS_any _ _ l l _ HOx0.out.row HQ0.out.row).mono ?_
        rw [decide_eq_true rfl]
        rintro e w11 ⟨rfl, b11⟩
        have sz11 := b11.size
        replace HOx0 := Lib.hid (HOx0.out.below b11)
        replace HOx1 := Lib.hid (HOx1.out.below b11)
        replace HQ0 := Lib.hid (HQ0.out.below b11)
        replace HC1 := Lib.hid (show w11.cell? ⟨W.heap.size, 0, none⟩ = some (.int .i64 r.id) ∧ w11.cell? ⟨W.heap.size, 1, none⟩ = some (.int .i64 r.series) ∧ w11.cell? ⟨W.heap.size, 2, none⟩ = some (.int .i64 r.made) ∧ w11.cell? ⟨W.heap.size, 3, none⟩ = some (sl1) by obtain ⟨z0, z1, z2, z3⟩ := HC1.out; exact ⟨cell_kept z0 b11, cell_kept z1 b11, cell_kept z2 b11, cell_kept z3 b11⟩)
        replace HC2 := Lib.hid (show w11.cell? ⟨G, 0, none⟩ = some (.int .i64 q.series) ∧ w11.cell? ⟨G, 1, none⟩ = some (.int .i64 q.event) ∧ w11.cell? ⟨G, 2, none⟩ = some (.int .i64 q.days) ∧ w11.cell? ⟨G, 3, none⟩ = some (.int .i64 q.act) by obtain ⟨z0, z1, z2, z3⟩ := HC2.out; exact ⟨cell_kept z0 b11, cell_kept z1 b11, cell_kept z2 b11, cell_kept z3 b11⟩)
        replace HC3 := Lib.hid (show w11.cell? ⟨w7.heap.size, 0, none⟩ = some (.int .i64 r.id) ∧ w11.cell? ⟨w7.heap.size, 1, none⟩ = some (.int .i64 r.series) ∧ w11.cell? ⟨w7.heap.size, 2, none⟩ = some (.int .i64 r.made) ∧ w11.cell? ⟨w7.heap.size, 3, none⟩ = some (.slice sa1 sn1 sc1) by obtain ⟨z0, z1, z2, z3⟩ := HC3.out; exact ⟨cell_kept z0 b11, cell_kept z1 b11, cell_kept z2 b11, cell_kept z3 b11⟩)
        replace HC4 := Lib.hid (show w11.cell? ⟨w8.heap.size, 0, none⟩ = some (.int .i64 q.series) ∧ w11.cell? ⟨w8.heap.size, 1, none⟩ = some (.int .i64 q.event) ∧ w11.cell? ⟨w8.heap.size, 2, none⟩ = some (.int .i64 q.days) ∧ w11.cell? ⟨w8.heap.size, 3, none⟩ = some (.int .i64 q.act) by obtain ⟨z0, z1, z2, z3⟩ := HC4.out; exact ⟨cell_kept z0 b11, cell_kept z1 b11, cell_kept z2 b11, cell_kept z3 b11⟩)
        replace HBW := Lib.hid (HBW.out.trans (b11.mono HBW.out.size))
        clear b11 c1_0 c1_1 c1_2 c1_3 c2_0 c2_1 c2_2 c2_3 c3_0 c3_1 c3_2 c3_3 c4_0 c4_1 c4_2 c4_3
        clear HQ0
        obtain ⟨c1_0, c1_1, c1_2, c1_3⟩ := HC1.out
        obtain ⟨c2_0, c2_1, c2_2, c2_3⟩ := HC2.out
        obtain ⟨c3_0, c3_1, c3_2, c3_3⟩ := HC3.out
        obtain ⟨c4_0, c4_1, c4_2, c4_3⟩ := HC4.out
        go_wp2_with fail
        go_region_held3 (fun w' => w'.cell? ⟨W.heap.size, 0, none⟩ = some (.int .i64 r.id) ∧ w'.cell? ⟨W.heap.size, 1, none⟩ = some (.int .i64 r.series) ∧ w'.cell? ⟨W.heap.size, 2, none⟩ = some (.int .i64 r.made) ∧ w'.cell? ⟨W.heap.size, 3, none⟩ = some (sl1) ∧ w'.cell? ⟨G, 0, none⟩ = some (.int .i64 q.series) ∧ w'.cell? ⟨G, 1, none⟩ = some (.int .i64 q.event) ∧ w'.cell? ⟨G, 2, none⟩ = some (.int .i64 q.days) ∧ w'.cell? ⟨G, 3, none⟩ = some (.int .i64 q.act) ∧ w'.cell? ⟨w7.heap.size, 0, none⟩ = some (.int .i64 r.id) ∧ w'.cell? ⟨w7.heap.size, 1, none⟩ = some (.int .i64 r.series) ∧ w'.cell? ⟨w7.heap.size, 2, none⟩ = some (.int .i64 r.made) ∧ w'.cell? ⟨w7.heap.size, 3, none⟩ = some (.slice sa1 sn1 sc1) ∧ w'.cell? ⟨w8.heap.size, 0, none⟩ = some (.int .i64 q.series) ∧ w'.cell? ⟨w8.heap.size, 1, none⟩ = some (.int .i64 q.event) ∧ w'.cell? ⟨w8.heap.size, 2, none⟩ = some (.int .i64 q.days) ∧ w'.cell? ⟨w8.heap.size, 3, none⟩ = some (.int .i64 q.act)) (first | exact ⟨c1_0, c1_1, c1_2, c1_3, c2_0, c2_1, c2_2, c2_3, c3_0, c3_1, c3_2, c3_3, c4_0, c4_1, c4_2, c4_3⟩ | go_keep) (first | (go_at_call 21; refine (toRecord_any _ r _ (HA1.out _ HBW.out.drew) (by omega)).mono ?_; rintro e w12 ⟨vq1, rfl, hq1_, b12⟩; have HQ1 := Lib.hid hq1_; clear hq1_; replace b12 : Below w11.heap.size w11 w12 := (Below.refl _ _).drew.trans b12; have sz12 := b12.size; replace c1_0 := cell_kept c1_0 b12; replace c1_1 := cell_kept c1_1 b12; replace c1_2 := cell_kept c1_2 b12; replace c1_3 := cell_kept c1_3 b12; replace c2_0 := cell_kept c2_0 b12; replace c2_1 := cell_kept c2_1 b12; replace c2_2 := cell_kept c2_2 b12; replace c2_3 := cell_kept c2_3 b12; replace c3_0 := cell_kept c3_0 b12; replace c3_1 := cell_kept c3_1 b12; replace c3_2 := cell_kept c3_2 b12; replace c3_3 := cell_kept c3_3 b12; replace c4_0 := cell_kept c4_0 b12; replace c4_1 := cell_kept c4_1 b12; replace c4_2 := cell_kept c4_2 b12; replace c4_3 := cell_kept c4_3 b12; replace HOx0 := Lib.hid (HOx0.out.below b12); replace HOx1 := Lib.hid (HOx1.out.below b12); (replace HC1 := Lib.hid (show w12.cell? ⟨W.heap.size, 0, none⟩ = some (.int .i64 r.id) ∧ w12.cell? ⟨W.heap.size, 1, none⟩ = some (.int .i64 r.series) ∧ w12.cell? ⟨W.heap.size, 2, none⟩ = some (.int .i64 r.made) ∧ w12.cell? ⟨W.heap.size, 3, none⟩ = some (sl1) by obtain ⟨z0, z1, z2, z3⟩ := HC1.out; exact ⟨cell_kept z0 b12, cell_kept z1 b12, cell_kept z2 b12, cell_kept z3 b12⟩)); (replace HC2 := Lib.hid (show w12.cell? ⟨G, 0, none⟩ = some (.int .i64 q.series) ∧ w12.cell? ⟨G, 1, none⟩ = some (.int .i64 q.event) ∧ w12.cell? ⟨G, 2, none⟩ = some (.int .i64 q.days) ∧ w12.cell? ⟨G, 3, none⟩ = some (.int .i64 q.act) by obtain ⟨z0, z1, z2, z3⟩ := HC2.out; exact ⟨cell_kept z0 b12, cell_kept z1 b12, cell_kept z2 b12, cell_kept z3 b12⟩)); (replace HC3 := Lib.hid (show w12.cell? ⟨w7.heap.size, 0, none⟩ = some (.int .i64 r.id) ∧ w12.cell? ⟨w7.heap.size, 1, none⟩ = some (.int .i64 r.series) ∧ w12.cell? ⟨w7.heap.size, 2, none⟩ = some (.int .i64 r.made) ∧ w12.cell? ⟨w7.heap.size, 3, none⟩ = some (.slice sa1 sn1 sc1) by obtain ⟨z0, z1, z2, z3⟩ := HC3.out; exact ⟨cell_kept z0 b12, cell_kept z1 b12, cell_kept z2 b12, cell_kept z3 b12⟩)); (replace HC4 := Lib.hid (show w12.cell? ⟨w8.heap.size, 0, none⟩ = some (.int .i64 q.series) ∧ w12.cell? ⟨w8.heap.size, 1, none⟩ = some (.int .i64 q.event) ∧ w12.cell? ⟨w8.heap.size, 2, none⟩ = some (.int .i64 q.days) ∧ w12.cell? ⟨w8.heap.size, 3, none⟩ = some (.int .i64 q.act) by obtain ⟨z0, z1, z2, z3⟩ := HC4.out; exact ⟨cell_kept z0 b12, cell_kept z1 b12, cell_kept z2 b12, cell_kept z3 b12⟩)); replace HBW := Lib.hid (HBW.out.trans (b12.mono HBW.out.size)); clear b12) | (go_at_call 24; refine (eqRecord_any _ _ r r _ HOx1.out.toV HQ1.out.toV).mono ?_; rw [decide_eq_true rfl]; rintro e w13 ⟨rfl, b13⟩; have sz13 := b13.size; replace c1_0 := cell_kept c1_0 b13; replace c1_1 := cell_kept c1_1 b13; replace c1_2 := cell_kept c1_2 b13; replace c1_3 := cell_kept c1_3 b13; replace c2_0 := cell_kept c2_0 b13; replace c2_1 := cell_kept c2_1 b13; replace c2_2 := cell_kept c2_2 b13; replace c2_3 := cell_kept c2_3 b13; replace c3_0 := cell_kept c3_0 b13; replace c3_1 := cell_kept c3_1 b13; replace c3_2 := cell_kept c3_2 b13; replace c3_3 := cell_kept c3_3 b13; replace c4_0 := cell_kept c4_0 b13; replace c4_1 := cell_kept c4_1 b13; replace c4_2 := cell_kept c4_2 b13; replace c4_3 := cell_kept c4_3 b13; replace HOx0 := Lib.hid (HOx0.out.below b13); replace HOx1 := Lib.hid (HOx1.out.below b13); (replace HC1 := Lib.hid (show w13.cell? ⟨W.heap.size, 0, none⟩ = some (.int .i64 r.id) ∧ w13.cell? ⟨W.heap.size, 1, none⟩ = some (.int .i64 r.series) ∧ w13.cell? ⟨W.heap.size, 2, none⟩ = some (.int .i64 r.made) ∧ w13.cell? ⟨W.heap.size, 3, none⟩ = some (sl1) by obtain ⟨z0, z1, z2, z3⟩ := HC1.out; exact ⟨cell_kept z0 b13, cell_kept z1 b13, cell_kept z2 b13, cell_kept z3 b13⟩)); (replace HC2 := Lib.hid (show w13.cell? ⟨G, 0, none⟩ = some (.int .i64 q.series) ∧ w13.cell? ⟨G, 1, none⟩ = some (.int .i64 q.event) ∧ w13.cell? ⟨G, 2, none⟩ = some (.int .i64 q.days) ∧ w13.cell? ⟨G, 3, none⟩ = some (.int .i64 q.act) by obtain ⟨z0, z1, z2, z3⟩ := HC2.out; exact ⟨cell_kept z0 b13, cell_kept z1 b13, cell_kept z2 b13, cell_kept z3 b13⟩)); (replace HC3 := Lib.hid (show w13.cell? ⟨w7.heap.size, 0, none⟩ = some (.int .i64 r.id) ∧ w13.cell? ⟨w7.heap.size, 1, none⟩ = some (.int .i64 r.series) ∧ w13.cell? ⟨w7.heap.size, 2, none⟩ = some (.int .i64 r.made) ∧ w13.cell? ⟨w7.heap.size, 3, none⟩ = some (.slice sa1 sn1 sc1) by obtain ⟨z0, z1, z2, z3⟩ := HC3.out; exact ⟨cell_kept z0 b13, cell_kept z1 b13, cell_kept z2 b13, cell_kept z3 b13⟩)); (replace HC4 := Lib.hid (show w13.cell? ⟨w8.heap.size, 0, none⟩ = some (.int .i64 q.series) ∧ w13.cell? ⟨w8.heap.size, 1, none⟩ = some (.int .i64 q.event) ∧ w13.cell? ⟨w8.heap.size, 2, none⟩ = some (.int .i64 q.days) ∧ w13.cell? ⟨w8.heap.size, 3, none⟩ = some (.int .i64 q.act) by obtain ⟨z0, z1, z2, z3⟩ := HC4.out; exact ⟨cell_kept z0 b13, cell_kept z1 b13, cell_kept z2 b13, cell_kept z3 b13⟩)); replace HBW := Lib.hid (HBW.out.trans (b13.mono HBW.out.size)); clear b13))
        clear c1_0 c1_1 c1_2 c1_3 c2_0 c2_1 c2_2 c2_3 c3_0 c3_1 c3_2 c3_3 c4_0 c4_1 c4_2 c4_3
        clear HQ1
        go_wp2_with fail
        go_ret
        exact ⟨rfl, HBW.out⟩
  
set_option maxRecDepth 100000 in
theorem fnExactDecidesOn_lifted (os : Os) (started : os.Started) (H : Type) (enc : TypeId × Value → H) :
    ReturnsInHanded {} Try.checked os 5 .any (Rows.fnExactDecidesOnSpec.pre6 enc Try.prog Try.f5 Rows.fnExactDecidesOnRow.domain false) (Rows.fnExactDecidesOnSpec.post enc Try.prog Try.f5 false true false false) := by
  refine returnsInHanded_of_change (C := Try.checked) Try.own started (by kernel_rfl) Try.func5
    (ChangeSpec.witness6 (enc := enc) (C := Try.checked) false ⟨#[], #[.slice none 0 0, .agg #[.int .i64 0, .int .i64 0, .int .i64 0, .slice none 0 0], .int .i64 0], []⟩ 8 (by kernel_rfl) (by kernel_rfl) (by kernel_rfl) (by kernel_rfl)) ?_
  intro W base args ds gs before hval0 hW hcnd _
  have hval : ∀ (j : Nat) t v, Try.f5.params[j]? = some t → args[j]? = some v → Value.okWide Try.prog W .any base t v := hval0
  have hW' := hW
  obtain ⟨p, q, hA0, hV, rfl, hfz, hnd⟩ := hW
  have hA : DataW.TrodAll enc Try.prog W 0 (fun _ => true) true Try.f5.params.toList args.toList ds p := hA0
  rw [Try.params5] at hA hval
  obtain ⟨v0, vs0, d0, ds0, p0, q0, hargs, rfl, rfl, h0, r0⟩ := trodAll_cons hA
  obtain ⟨v1, vs1, d1, ds1, p1, q1, rfl, rfl, rfl, h1, r1⟩ := trodAll_cons r0
  obtain ⟨v2, vs2, d2, ds2, p2, q2, rfl, rfl, rfl, h2, r2⟩ := trodAll_cons r1
  obtain ⟨rfl, rfl, rfl⟩ := trodAll_nil r2
  obtain rfl : args = #[v0, v1, v2] := by cases args; simp_all
  obtain ⟨rfl, rfl⟩ := trodVars_none hV
  obtain ⟨x0, w0⟩ := arg_ves (hval 0 22 v0 rfl rfl) h0
  have lt0 : ∀ x ∈ p0, x.block < W.heap.size := by obtain ⟨m, hm⟩ := h0; exact DataW.trod_lt m _ _ _ hm
  obtain ⟨x1, w1⟩ := arg_rec (hval 1 34 v1 rfl rfl) h1
  have lt1 : ∀ x ∈ p1, x.block < W.heap.size := by obtain ⟨m, hm⟩ := h1; exact DataW.trod_lt m _ _ _ hm
  obtain ⟨x2, w2⟩ := arg_int (hval 2 3 v2 rfl rfl) h2
  have lt2 : ∀ x ∈ p2, x.block < W.heap.size := by obtain ⟨m, hm⟩ := h2; exact DataW.trod_lt m _ _ _ hm
  clear hA0 hval0
  refine (walkDecidesOn v0 x0 v1 x1 v2 x2 W w0 w1 w2).mono fun e W' ⟨he, bel⟩ => ?_
  subst he
  exact ⟨_, rfl, _, _, _, [], _, [], hW', trodAll_mk1 (shut_bool Try.underlying4 _), (trodAll_cons_mk (Below.trod Try.laidOut (by kernel_rfl) (of_decide_eq_true (by kernel_rfl)) h0 bel lt0) (trodAll_cons_mk (Below.trod Try.laidOut (by kernel_rfl) (of_decide_eq_true (by kernel_rfl)) h1 bel lt1) (trodAll_cons_mk (Below.trod Try.laidOut (by kernel_rfl) (of_decide_eq_true (by kernel_rfl)) h2 bel lt2) trodAll_mk0))), rfl, bel.frame _, fun h => by cases h⟩

theorem fnExactDecidesOn_proved : Rows.FnExactDecidesOnSaid :=
  OpenClaim.holds_of_wide 5 Try.f5 rfl rfl rfl rfl rfl rfl rfl ⟨rfl, rfl, rfl, rfl, rfl⟩ rfl rfl rfl rfl rfl (by kernel_rfl) Try.func5 (by kernel_rfl)
    (of_decide_eq_true (by kernel_rfl)) (by unfold Func.isWrapper; first | (rw [if_pos (by decide +kernel)]; kernel_rfl) | (rw [if_neg (by decide +kernel)]; exact ⟨rfl, rfl⟩))
    (fun os started H enc _ => fnExactDecidesOn_lifted os started H enc)
end Go.Proofs.Ytpngmheflpbnbaa
