/- SeriesIn, the model's and the program's. -/
import Derived.Test.YtedckfbjhhabgaaRuS
import Derived.Test.YtedckfbjhhabgaaRuI
import Derived.Test.YtedckfbjhhabgaaHas
import Derived.Test.YtedckfbjhhabgaaShelf
import Derived.Lib.OwnBridge
namespace Go.Proofs.Ytedckfbjhhabgaa
set_option linter.unusedVariables false
open Go.RowKit Go.Sort

theorem cell1_new (w : World) (v : Value) (t : TypeId) {k : Nat} (hk : k = w.heap.size) : ∀ j u, [v][j]? = some u → (w.alloc (.cells #[v] t (0, 0))).cell? ((⟨k, 0, none⟩ : Addr).add j) = some u := by
  subst hk
  intro j u hj
  rw [Addr.add_lit]
  match j, hj with
  | 0, h => cases h; exact cell_new w _ _ 0 rfl
theorem serF_iff {t : List Ru} {x : Int} : x ∈ serF t ↔ ∃ r ∈ t, r.series = x := by
  refine ⟨serF_mem, ?_⟩
  have key : ∀ (t : List Ru) (o : List Int), (x ∈ o ∨ ∃ r ∈ t, r.series = x) → x ∈ (t.foldl (fun o r => if r.series ∈ o then o else o ++ [r.series]) o) := by
    intro t
    induction t with
    | nil => intro o h; simpa using h
    | cons r l ih =>
      intro o h
      rw [List.foldl_cons]
      refine ih _ ?_
      rcases h with h | ⟨q, hq, e⟩
      · left; split
        · exact h
        · exact List.mem_append_left _ h
      · rcases List.mem_cons.1 hq with h1 | h1
        · subst h1; left; split
          · rename_i hm; rw [← e]; exact hm
          · rw [← e]; simp
        · exact .inr ⟨q, h1, e⟩
  intro h
  exact key t [] (.inr h)
theorem ser_le {t : List Ru} (h : isSch t = true) {i j : Nat} (hij : i ≤ j) (hj : j < t.length) : (t.getD i ruD).series ≤ (t.getD j ruD).series := by
  rcases Nat.lt_or_eq_of_le hij with h' | h'
  · have := sch_bef h h' hj
    rw [bef_iff] at this
    omega
  · subst h'; exact Int.le_refl _
theorem ser_compact {t : List Ru} (h : isSch t = true) : Lib.compact (t.map (·.series)) = serF t := by
  have hk : ∀ k, k ≤ t.length → Lib.compactUpTo (t.map (·.series)).toArray k = serF (t.take k) := by
    intro k
    induction k with
    | zero => intro _; simp [Lib.compactUpTo, serF]
    | succ k ih =>
      intro hk
      have hlt : k < t.length := by omega
      have g : ∀ j, j < t.length → (t.map (·.series)).toArray[j]! = (t.getD j ruD).series := fun j hj => by
        rw [getElem!_pos _ j (by simpa using hj), getRu_lt hj]; simp
      rw [Lib.compactUpTo_succ, ih (by omega), serF_succ hlt, g k hlt]
      by_cases hm : (t.getD k ruD).series ∈ serF (t.take k)
      · rw [if_pos hm]
        obtain ⟨r, hr, e⟩ := serF_iff.1 hm
        rw [List.mem_take_iff_getElem] at hr
        obtain ⟨i, hi, rfl⟩ := hr
        have h1 := ser_le h (i := i) (j := k - 1) (by omega) (by omega)
        have h2 := ser_le h (i := k - 1) (j := k) (by omega) hlt
        rw [getRu_lt (show i < t.length by omega)] at h1
        have hkn : Lib.keeps (t.map (·.series)).toArray k = false := Lib.keeps_neg (by omega) (by rw [g k hlt, g (k - 1) (by omega)]; omega)
        rw [hkn]; simp
      · rw [if_neg hm]
        have hkn : Lib.keeps (t.map (·.series)).toArray k = true := by
          rcases Nat.eq_zero_or_pos k with h0 | h0
          · subst h0; exact Lib.keeps_lt_one _ 0 (by omega)
          · refine Lib.keeps_pos ?_
            rw [g k hlt, g (k - 1) (by omega)]
            intro e
            refine hm (serF_iff.2 ⟨t.getD (k - 1) ruD, ?_, e.symm⟩)
            rw [getRu_lt (by omega), List.mem_take_iff_getElem]
            exact ⟨k - 1, by omega, rfl⟩
        rw [hkn]; simp
  have := hk t.length (Nat.le_refl _)
  rw [List.take_length] at this
  unfold Lib.compact
  rw [← this]; simp
theorem sinRes_no {t : List Ru} {xs : List Int} {b : Bool} (h : sinRes t = (xs, b)) (hn : isSch t = false) : xs = [] ∧ b = false := by
  unfold sinRes at h
  rw [if_neg (by rw [hn]; simp)] at h
  obtain ⟨h1, h2⟩ := Prod.mk.inj h
  exact ⟨h1.symm, h2.symm⟩
theorem sinRes_yes {t : List Ru} {xs : List Int} {b : Bool} (h : sinRes t = (xs, b)) (hn : isSch t = true) : xs = serF t ∧ b = true := by
  unfold sinRes at h
  rw [if_pos hn] at h
  obtain ⟨h1, h2⟩ := Prod.mk.inj h
  exact ⟨h1.symm, h2.symm⟩
theorem IntsO.of_row {lo n : Nat} {w : World} {v : Value} {xs : List Int} (h : w.ownsRow lo 3 1 v n (xs.map vI)) (hn : n = xs.length) : IntsO lo w.heap.size w v xs := ⟨by rw [← hn]; exact h, fun g hg => (h.lt g hg).2⟩


set_option maxRecDepth 20000 in
set_option maxHeartbeats 2000000 in
theorem implSeriesIn_any (v : Value) (t : List Ru) (w : World) (h : RowR 4 rRu w v t) (hn : t.length ≤ 1048576) (xs : List Int) (b : Bool) (hres : sinRes t = (xs, b)) :
    Calls Try.prog 58 #[v] w fun e w' => ∃ v', e = .returned (.tuple #[v', .bool b]) ∧ IntsO w.heap.size w'.heap.size w' v' xs ∧ Below w.heap.size w w' := by
  obtain ⟨i0, hi, hz0, hz1, hz2⟩ := info_parts Try.info_int
  have H := Lib.hid h
  have HRES := Lib.hid hres
  obtain ⟨bs, hs⟩ : ∃ b, isSch t = b := ⟨_, rfl⟩
  have HS := Lib.hid hs
  obtain ⟨a1, c1, hv, hl1, hm1, r1⟩ := h.rus
  subst hv
  have R1 := Lib.hid r1
  unfold maxLen at hm1
  clear h hres hs r1
  cases bs
  · obtain ⟨rfl, rfl⟩ := sinRes_no HRES.out HS.out
    go_enter Try.func58, Try.ntmps58
    go_wp2_with (first | (go_at_call 63; refine (implIsSchedule_any _ t _ H.out).mono ?_; rw [HS.out]; rintro e w1 ⟨rfl, b1⟩))
    go_ret2
    exact ⟨_, rfl, ⟨(Own.nil w.heap.size 3 1 w1).1, Under.nil _ _ _⟩, b1⟩
  · obtain ⟨rfl, rfl⟩ := sinRes_yes HRES.out HS.out
    have HC := Lib.hid (ser_compact HS.out)
    go_enter Try.func58, Try.ntmps58
    go_wp2_with (first | (go_at_call 63; refine (implIsSchedule_any _ t _ H.out).mono ?_; rw [HS.out]; rintro e w1 ⟨rfl, b1⟩))
    go_loopw [4, 12] (fun o i wr => ∃ k : Nat, k ≤ t.length ∧ i = .int .i64 k ∧ wr.ownsRow w.heap.size 3 1 o k (((t.take k).map (·.series)).map vI) ∧ Below w.heap.size w wr) (fun _ i _ => t.length - (intOf i).toNat)
    case atStart => exact ⟨0, Nat.zero_le _, rfl, (Own.nil w.heap.size 3 1 _).1, b1⟩
    case round =>
      clear b1
      obtain ⟨k, hk, rfl, hO, hb⟩ := hrel
      by_cases hlt : k < t.length
      · obtain ⟨b1, o1, hb1, rfl, e1⟩ := R1.out.resolve_left (fun e => by rw [e] at hlt; simp at hlt)
        obtain ⟨q0, q1, q2, q3, hok⟩ := e1 k hlt
        have hsucc : t.take (k + 1) = t.take k ++ [t.getD k ruD] := by rw [List.take_add_one, List.getElem?_eq_getElem hlt, getRu_lt hlt]; rfl
        obtain ⟨⟨x0, x1, x2, x3⟩, hx⟩ : ∃ s, t.getD k ruD = s := ⟨_, rfl⟩
        rw [hx] at q0 q1 q2 q3 hsucc
        simp only at q0 q1 q2 q3
        have f0 := cell_kept q0 hb
        have f1 := cell_kept q1 hb
        have f2 := cell_kept q2 hb
        have f3 := cell_kept q3 hb
        have HSU := Lib.hid hsucc
        have g0 : (0 : Int) ≤ (k : Int) := by omega
        have g1 : (k : Int) < (t.length : Int) := by omega
        have hsz := hb.size
        have hb2 := below_al hb (.cells #[.int .i64 x0, .int .i64 x1, .int .i64 x2, .int .i64 x3] 73 (0, 0))
        have hO2 := hO.alloc (.cells #[.int .i64 x0, .int .i64 x1, .int .i64 x2, .int .i64 x3] 73 (0, 0))
        clear q0 q1 q2 q3 hok e1 hx hsucc hO
        go_wp2_with (first | (at_builtin; refine wpList_append_own _ rfl _ _ 30 rfl w.heap.size 3 i0 (.int .i64 0) 1 8 Try.underlying30 hi hz0 hz1 hz2 rfl (by decide) _ _ _ rfl (hO2.alloc _) ⟨wr.heap.size + 1, 0, none⟩ 1 1 [.int .i64 x0] rfl rfl (cell1_new _ _ _ (by simp)) (by simp [Value.oneCell']) (by unfold maxLen; omega) (by omega) (by simp; omega) ?_; intro v' w4 hown' hgrow _))
        have HOWN := Lib.hid hown'
        have HB := Lib.hid (below_app hb2 (Nat.le_refl _) hO2 hgrow)
        clear hown' hgrow hO2
        go_wp2_with fail
        go_roundw
        case rel => exact ⟨k + 1, by omega, by go_num, (by rw [HSU.out]; simpa [vI] using HOWN.out), HB.out⟩
        case measure => simp [intOf]; omega
      · obtain rfl : k = t.length := by omega
        rw [List.take_length] at hO
        rcases Nat.eq_zero_or_pos t.length with h0 | h0
        · obtain rfl := List.length_eq_zero_iff.1 h0
          have hO2 := hO
          rcases hO.2 with ⟨e, _⟩ | ⟨g, cap, cur, e, hg, hh, hnc, hm, hs, ht⟩
          · subst e
            clear hO
            have HO := Lib.hid hO2
            clear hO2
            go_wp2_with (first | (go_at_call 65; refine (Try.slices_Compact_int_empty none 0 _).mono ?_; rintro e w5 ⟨rfl, rfl⟩))
            go_ret2
            exact ⟨_, rfl, IntsO.of_row (xs := []) (by simpa using HO.out) rfl, hb⟩
          · subst e
            clear hO hg hh hnc hm hs ht
            have HO := Lib.hid hO2
            clear hO2
            go_wp2_with (first | (go_at_call 65; refine (Try.slices_Compact_int_empty _ cap _).mono ?_; rintro e w5 ⟨rfl, rfl⟩))
            go_ret2
            exact ⟨_, rfl, IntsO.of_row (xs := []) (by simpa using HO.out) rfl, hb⟩
        · obtain ⟨g, cap, rfl, hbg, hgl, hnc, hcm, hlen, hH⟩ := Lib.holds_of_ownsRow hO (by rintro rfl; rcases hO.2 with ⟨_, e⟩ | ⟨_, _, _, e, _⟩; (· omega); cases e)
          have hcp := Try.slices_Compact_int g 0 cap (t.map (fun r : Ru => r.series)) wr hH (by rw [hlen]; unfold maxLen at hcm; omega) (by rw [hlen]; exact hnc)
          rw [HC.out, hlen] at hcp
          have HO := Lib.hid hO
          have HG := Lib.hid hbg
          have hsl := serF_len t
          have HL := Lib.hid hlen
          have HCP := Lib.hid hcp
          clear hO hH hcp hbg hlen h0
          go_wp2_with (first | (go_at_call 65; refine HCP.out.mono ?_; rintro e w5 ⟨rfl, q, rfl⟩))
          go_ret2
          have h1 := Lib.ownsRow_putRow (q := q) (k := (serF t).length) (ys := serF t ++ List.replicate (t.length - (serF t).length) 0) HO.out (by simp; omega) hsl
          rw [List.take_left' rfl] at h1
          exact ⟨_, rfl, IntsO.of_row h1 rfl, Lib.below_putRow hb HG.out⟩
end Go.Proofs.Ytedckfbjhhabgaa
