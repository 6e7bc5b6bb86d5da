/- NeverDecides, the model's and the program's. -/
import Derived.Test.YtedckfbjhhabgaaPrs
import Derived.Test.YtedckfbjhhabgaaRuAct
import Derived.Test.YtedckfbjhhabgaaTgC
import Derived.Test.YtedckfbjhhabgaaBx
namespace Go.Proofs.Ytedckfbjhhabgaa
set_option linter.unusedVariables false
open Go.RowKit Go.Sort

theorem Try.info_pr : (Try.prog.info? 79).map (fun i => (i.zero, i.size, i.bytes)) = some (some (.agg #[.int .i64 0, .int .i64 0]), 2, 16) := by kernel_rfl
theorem cellsL_newV (w : World) (cs : List Value) (t : TypeId) {k : Nat} (hk : k = w.heap.size) : ∀ j u, cs[j]? = some u → (w.alloc (.cells cs.toArray t (0, 0))).cell? ((⟨k, 0, none⟩ : Addr).add j) = some u := by
  subst hk
  intro j u hj
  rw [Addr.add_lit]
  simp only [Nat.zero_add]
  rw [blk_cell (heap_alloc_new w _)]
  simpa using hj
def nevT (s : List Ru) (k : Nat) : List (Int × Int) := ((s.take k).filter (nevB s)).map (fun r => (r.series, r.event))
theorem nevT_all (s : List Ru) : nevT s s.length = nevF s := by unfold nevT nevF; rw [List.take_length]
theorem nevT_len (s : List Ru) (k : Nat) : (nevT s k).length ≤ k := by
  unfold nevT
  rw [List.length_map]
  have := List.length_filter_le (nevB s) (s.take k)
  rw [List.length_take] at this
  omega
theorem nevT_succ {s : List Ru} {k : Nat} (hk : k < s.length) : nevT s (k + 1) = if (s.getD k ruD).event = 0 ∧ (s.getD k ruD).days < (lonRes s (s.getD k ruD).series).1 then nevT s k ++ [((s.getD k ruD).series, (s.getD k ruD).event)] else nevT s k := by
  unfold nevT
  rw [List.take_succ_eq_append_getElem hk, List.filter_append, ← getRu_lt hk]
  by_cases h : (s.getD k ruD).event = 0 ∧ (s.getD k ruD).days < (lonRes s (s.getD k ruD).series).1
  · have hn : nevB s (s.getD k ruD) = true := by unfold nevB; rw [decide_eq_true h.1, decide_eq_true h.2]; rfl
    rw [if_pos h, List.filter_cons_of_pos hn, List.filter_nil, List.map_append]; rfl
  · have hn : ¬ nevB s (s.getD k ruD) = true := by unfold nevB; rw [Bool.and_eq_true, decide_eq_true_eq, decide_eq_true_eq]; exact h
    rw [if_neg h, List.filter_cons_of_neg hn, List.filter_nil, List.append_nil]
theorem nevRes_len {s : List Ru} {xs : List (Int × Int)} {b : Bool} (h : nevRes s = (xs, b)) : xs.length ≤ s.length := by
  unfold nevRes at h
  split at h <;> obtain ⟨rfl, _⟩ := Prod.mk.inj h
  · rw [← nevT_all]; exact nevT_len _ _
  · exact Nat.zero_le _
set_option maxRecDepth 20000 in
set_option maxHeartbeats 8000000 in
theorem specNev_any (v : Value) (s : List Ru) (w : World) (h : RowR 4 rRu w v s) (hn1 : s.length ≤ 1048576) (xs : List (Int × Int)) (b : Bool) (hres : nevRes s = (xs, b)) :
    Calls Try.prog 30 #[v] w fun e w' => ∃ v', e = .returned (.tuple #[v', .bool b]) ∧ PrsO w.heap.size w'.heap.size w' v' xs ∧ Below w.heap.size w w' := by
  obtain ⟨i0, hi, hz0, hz1, hz2⟩ := info_parts Try.info_pr
  have b0 := below_al (Below.refl w.heap.size w) (.cells #[] 79 (0, 0))
  have HS1 := Lib.hid (show ∀ W, Below w.heap.size w W → RowR 4 rRu W v s from fun W hb => h.below rRu_stable hb)
  obtain ⟨a1, c1, hv, hl1, hm1, r1⟩ := h.rus
  subst hv
  have R1 := Lib.hid r1
  unfold maxLen at hm1
  obtain ⟨bs, hs⟩ : ∃ b, isSch s = b := ⟨_, rfl⟩
  have HS := Lib.hid hs
  have HRES := Lib.hid hres
  clear h hs r1 hres
  cases bs
  · have hr := HRES.out
    unfold nevRes at hr
    rw [if_neg (by rw [HS.out]; simp)] at hr
    obtain ⟨rfl, rfl⟩ := Prod.mk.inj hr
    clear hr HRES
    go_enter Try.func30, Try.ntmps30
    go_wp2_with (first | (go_at_call 54; refine (l4Good_any _ s _ (HS1.out _ b0)).mono ?_; rw [HS.out]; rintro e w1 ⟨rfl, b1⟩; have HI1 := Lib.hid (((PrsO.empty w (Nat.le_refl _)).below b1).wide (Nat.le_refl _) b1.size); replace b1 := below_chain b0 b1))
    go_ret2
    exact ⟨_, rfl, HI1.out, b1⟩
  · have hr := HRES.out
    unfold nevRes at hr
    rw [if_pos HS.out] at hr
    obtain ⟨rfl, rfl⟩ := Prod.mk.inj hr
    clear hr HRES
    go_enter Try.func30, Try.ntmps30
    go_wp2_with (first | (go_at_call 54; refine (l4Good_any _ s _ (HS1.out _ b0)).mono ?_; rw [HS.out]; rintro e w1 ⟨rfl, b1⟩; have HI1 := Lib.hid (((PrsO.empty w (Nat.le_refl _)).below b1).wide (Nat.le_refl _) b1.size); replace b1 := below_chain b0 b1))
    go_loopw [4, 5] (fun o i wr => ∃ k : Nat, k ≤ s.length ∧ i = .int .i64 k ∧ wr.ownsRow w.heap.size 79 2 o (nevT s k).length (((nevT s k).map prC).flatten) ∧ Below w.heap.size w wr) (fun _ i _ => s.length - (intOf i).toNat)
    case atStart => exact ⟨0, Nat.zero_le _, rfl, (by simpa [nevT] using HI1.out.1.1), b1⟩
    case round =>
      clear b1 HI1
      obtain ⟨k, hk, rfl, hO, hb⟩ := hrel
      have hsz := hb.size
      by_cases hlt : k < s.length
      · obtain ⟨bb, o1, hbb, rfl, e1⟩ := R1.out.resolve_left (fun e => by rw [e] at hlt; simp at hlt)
        obtain ⟨⟨x0, x1, x2, x3⟩, hx⟩ : ∃ x, s.getD k ruD = x := ⟨_, rfl⟩
        obtain ⟨q0, q1, q2, q3, _⟩ := e1 k hlt
        rw [hx] at q0 q1 q2 q3
        simp only at q0 q1 q2 q3
        have f0 := cell_kept q0 hb
        have f1 := cell_kept q1 hb
        have f2 := cell_kept q2 hb
        have f3 := cell_kept q3 hb
        have hst := nevT_succ hlt
        rw [hx] at hst
        simp only at hst
        obtain ⟨P, hP⟩ : ∃ P, nevT s k = P := ⟨_, rfl⟩
        have hPl : P.length ≤ k := by rw [← hP]; exact nevT_len s k
        rw [hP] at hO hst
        obtain ⟨lc, lb, hL⟩ : ∃ c b, lonRes s x0 = (c, b) := ⟨_, _, rfl⟩
        rw [hL] at hst
        simp only at hst
        have HL := Lib.hid hL
        have HST0 := Lib.hid hst
        have hba := below_al hb (.cells #[.int .i64 x0, .int .i64 x1, .int .i64 x2, .int .i64 x3] 73 (0, 0))
        have HOA := Lib.hid (hO.alloc (.cells #[.int .i64 x0, .int .i64 x1, .int .i64 x2, .int .i64 x3] 73 (0, 0)))
        have HXA := Lib.hid (BxV.new wr [.int .i64 x0, .int .i64 x1, .int .i64 x2, .int .i64 x3] 73)
        have g0 : (0 : Int) ≤ (k : Int) := by omega
        have g1 : (k : Int) < (s.length : Int) := by omega
        clear q0 q1 q2 q3 e1 hx hst hP hL hO
        by_cases he : x1 = 0
        · have r0 : (x1 == 0) = true := by simp [he]
          by_cases hf : x2 < lc
          · have HST := Lib.hid (HST0.out.trans (if_pos ⟨he, hf⟩))
            clear he
            go_wp2_with fail
            refine (specLongestPeriod_any _ s x0 _ (HS1.out _ hba) hn1 lc lb HL.out).mono ?_
            rintro e w2 ⟨rfl, b2⟩
            have hb2 := hba.trans (b2.mono hba.size)
            have hs2 := hb2.size
            have HX2 := HXA.out.below b2
            have z0 := HX2.cell 0
            have z1 := HX2.cell 1
            have z2 := HX2.cell 2
            simp at z0 z1 z2
            have HO2 := Lib.hid (ownsRow_below HOA.out b2)
            clear HXA HOA
            go_wp2_with (first | (at_builtin; refine wpList_append_own _ rfl _ _ 44 rfl w.heap.size 79 i0 (.agg #[.int .i64 0, .int .i64 0]) 2 16 Try.underlying44 hi hz0 hz1 hz2 rfl (by decide) _ _ _ rfl (HO2.out.alloc _) ⟨w2.heap.size, 0, none⟩ 1 1 [.int .i64 x0, .int .i64 x1] rfl rfl (cellsL_newV _ _ _ (by simp)) (by simp [Value.oneCell']) (by unfold maxLen; omega) (by omega) (by simp; omega) ?_; intro v' w4 hown' hgrow _))
            have HOWN := Lib.hid hown'
            have HB2 := Lib.hid (below_app hb2 (Nat.le_refl _) HO2.out hgrow)
            clear hown' hgrow
            go_wp2_with fail
            go_roundw
            case rel => exact ⟨k + 1, by omega, by go_num, (by rw [HST.out]; simpa [prC] using HOWN.out), HB2.out⟩
            case measure => simp [intOf]; omega
          · have HST := Lib.hid (HST0.out.trans (if_neg (fun q => hf q.2)))
            clear he
            go_wp2_with fail
            refine (specLongestPeriod_any _ s x0 _ (HS1.out _ hba) hn1 lc lb HL.out).mono ?_
            rintro e w2 ⟨rfl, b2⟩
            have hb2 := hba.trans (b2.mono hba.size)
            have hs2 := hb2.size
            have HX2 := HXA.out.below b2
            have z0 := HX2.cell 0
            have z1 := HX2.cell 1
            have z2 := HX2.cell 2
            simp at z0 z1 z2
            have HO2 := Lib.hid (ownsRow_below HOA.out b2)
            clear HXA HOA
            go_wp2_with fail
            go_roundw
            case rel => exact ⟨k + 1, by omega, by go_num, (by rw [HST.out]; exact HO2.out), hb2⟩
            case measure => simp [intOf]; omega
        · have r0 : (x1 == 0) = false := by simp [he]
          have HST := Lib.hid (HST0.out.trans (if_neg (fun q => he q.1)))
          clear he
          go_wp2_with fail
          refine (specLongestPeriod_any _ s x0 _ (HS1.out _ hba) hn1 lc lb HL.out).mono ?_
          rintro e w2 ⟨rfl, b2⟩
          have hb2 := hba.trans (b2.mono hba.size)
          have hs2 := hb2.size
          have HX2 := HXA.out.below b2
          have z0 := HX2.cell 0
          have z1 := HX2.cell 1
          have z2 := HX2.cell 2
          simp at z0 z1 z2
          have HO2 := Lib.hid (ownsRow_below HOA.out b2)
          clear HXA HOA
          go_wp2_with fail
          go_roundw
          case rel => exact ⟨k + 1, by omega, by go_num, (by rw [HST.out]; exact HO2.out), hb2⟩
          case measure => simp [intOf]; omega
      · obtain rfl : k = s.length := by omega
        have HF := Lib.hid (by rw [nevT_all] at hO; exact PrsO.of_row hO rfl : PrsO w.heap.size wr.heap.size wr _ (nevF s))
        clear hO
        go_wp2_with fail
        go_ret2
        exact ⟨_, rfl, HF.out, hb⟩
set_option maxRecDepth 20000 in
set_option maxHeartbeats 8000000 in
theorem implNev_any (v : Value) (s : List Ru) (w : World) (h : RowR 4 rRu w v s) (hn1 : s.length ≤ 1048576) (xs : List (Int × Int)) (b : Bool) (hres : nevRes s = (xs, b)) :
    Calls Try.prog 31 #[v] w fun e w' => ∃ v', e = .returned (.tuple #[v', .bool b]) ∧ PrsO w.heap.size w'.heap.size w' v' xs ∧ Below w.heap.size w w' := by
  obtain ⟨i0, hi, hz0, hz1, hz2⟩ := info_parts Try.info_pr
  have b0 := below_al (Below.refl w.heap.size w) (.cells #[] 79 (0, 0))
  have HS1 := Lib.hid (show ∀ W, Below w.heap.size w W → RowR 4 rRu W v s from fun W hb => h.below rRu_stable hb)
  obtain ⟨a1, c1, hv, hl1, hm1, r1⟩ := h.rus
  subst hv
  have R1 := Lib.hid r1
  unfold maxLen at hm1
  obtain ⟨bs, hs⟩ : ∃ b, isSch s = b := ⟨_, rfl⟩
  have HS := Lib.hid hs
  have HRES := Lib.hid hres
  clear h hs r1 hres
  cases bs
  · have hr := HRES.out
    unfold nevRes at hr
    rw [if_neg (by rw [HS.out]; simp)] at hr
    obtain ⟨rfl, rfl⟩ := Prod.mk.inj hr
    clear hr HRES
    go_enter Try.func31, Try.ntmps31
    go_wp2_with (first | (go_at_call 63; refine (implIsSchedule_any _ s _ (HS1.out _ (Below.refl _ _))).mono ?_; rw [HS.out]; rintro e w1 ⟨rfl, b1⟩))
    go_ret2
    exact ⟨_, rfl, PrsO.nil _ _ _, b1⟩
  · have hr := HRES.out
    unfold nevRes at hr
    rw [if_pos HS.out] at hr
    obtain ⟨rfl, rfl⟩ := Prod.mk.inj hr
    clear hr HRES
    go_enter Try.func31, Try.ntmps31
    go_wp2_with (first | (go_at_call 63; refine (implIsSchedule_any _ s _ (HS1.out _ (Below.refl _ _))).mono ?_; rw [HS.out]; rintro e w1 ⟨rfl, b1⟩))
    go_loopw [4, 14] (fun o i wr => ∃ k : Nat, k ≤ s.length ∧ i = .int .i64 k ∧ wr.ownsRow w.heap.size 79 2 o (nevT s k).length (((nevT s k).map prC).flatten) ∧ Below w.heap.size w wr) (fun _ i _ => s.length - (intOf i).toNat)
    case atStart => exact ⟨0, Nat.zero_le _, rfl, (by simpa [nevT] using (PrsO.nil w.heap.size w.heap.size w1).1.1), b1⟩
    case round =>
      clear b1
      obtain ⟨k, hk, rfl, hO, hb⟩ := hrel
      have hsz := hb.size
      by_cases hlt : k < s.length
      · obtain ⟨bb, o1, hbb, rfl, e1⟩ := R1.out.resolve_left (fun e => by rw [e] at hlt; simp at hlt)
        obtain ⟨⟨x0, x1, x2, x3⟩, hx⟩ : ∃ x, s.getD k ruD = x := ⟨_, rfl⟩
        obtain ⟨q0, q1, q2, q3, _⟩ := e1 k hlt
        rw [hx] at q0 q1 q2 q3
        simp only at q0 q1 q2 q3
        have f0 := cell_kept q0 hb
        have f1 := cell_kept q1 hb
        have f2 := cell_kept q2 hb
        have f3 := cell_kept q3 hb
        have hst := nevT_succ hlt
        rw [hx] at hst
        simp only at hst
        obtain ⟨P, hP⟩ : ∃ P, nevT s k = P := ⟨_, rfl⟩
        have hPl : P.length ≤ k := by rw [← hP]; exact nevT_len s k
        rw [hP] at hO hst
        obtain ⟨lc, lb, hL⟩ : ∃ c b, lonRes s x0 = (c, b) := ⟨_, _, rfl⟩
        rw [hL] at hst
        simp only at hst
        have HL := Lib.hid hL
        have HST0 := Lib.hid hst
        have hba := below_al hb (.cells #[.int .i64 x0, .int .i64 x1, .int .i64 x2, .int .i64 x3] 73 (0, 0))
        have HOA := Lib.hid (hO.alloc (.cells #[.int .i64 x0, .int .i64 x1, .int .i64 x2, .int .i64 x3] 73 (0, 0)))
        have HXA := Lib.hid (BxV.new wr [.int .i64 x0, .int .i64 x1, .int .i64 x2, .int .i64 x3] 73)
        have g0 : (0 : Int) ≤ (k : Int) := by omega
        have g1 : (k : Int) < (s.length : Int) := by omega
        clear q0 q1 q2 q3 e1 hx hst hP hL hO
        by_cases he : x1 = 0
        · have r0 : (x1 == 0) = true := by simp [he]
          by_cases hf : x2 < lc
          · have HST := Lib.hid (HST0.out.trans (if_pos ⟨he, hf⟩))
            clear he
            go_wp2_with fail
            refine (implLongestPeriod_any _ s x0 _ (HS1.out _ hba) hn1 lc lb HL.out).mono ?_
            rintro e w2 ⟨rfl, b2⟩
            have hb2 := hba.trans (b2.mono hba.size)
            have hs2 := hb2.size
            have HX2 := HXA.out.below b2
            have z0 := HX2.cell 0
            have z1 := HX2.cell 1
            have z2 := HX2.cell 2
            simp at z0 z1 z2
            have HO2 := Lib.hid (ownsRow_below HOA.out b2)
            clear HXA HOA
            go_wp2_with (first | (at_builtin; refine wpList_append_own _ rfl _ _ 44 rfl w.heap.size 79 i0 (.agg #[.int .i64 0, .int .i64 0]) 2 16 Try.underlying44 hi hz0 hz1 hz2 rfl (by decide) _ _ _ rfl (HO2.out.alloc _) ⟨w2.heap.size, 0, none⟩ 1 1 [.int .i64 x0, .int .i64 x1] rfl rfl (cellsL_newV _ _ _ (by simp)) (by simp [Value.oneCell']) (by unfold maxLen; omega) (by omega) (by simp; omega) ?_; intro v' w4 hown' hgrow _))
            have HOWN := Lib.hid hown'
            have HB2 := Lib.hid (below_app hb2 (Nat.le_refl _) HO2.out hgrow)
            clear hown' hgrow
            go_wp2_with fail
            go_roundw
            case rel => exact ⟨k + 1, by omega, by go_num, (by rw [HST.out]; simpa [prC] using HOWN.out), HB2.out⟩
            case measure => simp [intOf]; omega
          · have HST := Lib.hid (HST0.out.trans (if_neg (fun q => hf q.2)))
            clear he
            go_wp2_with fail
            refine (implLongestPeriod_any _ s x0 _ (HS1.out _ hba) hn1 lc lb HL.out).mono ?_
            rintro e w2 ⟨rfl, b2⟩
            have hb2 := hba.trans (b2.mono hba.size)
            have hs2 := hb2.size
            have HX2 := HXA.out.below b2
            have z0 := HX2.cell 0
            have z1 := HX2.cell 1
            have z2 := HX2.cell 2
            simp at z0 z1 z2
            have HO2 := Lib.hid (ownsRow_below HOA.out b2)
            clear HXA HOA
            go_wp2_with fail
            go_roundw
            case rel => exact ⟨k + 1, by omega, by go_num, (by rw [HST.out]; exact HO2.out), hb2⟩
            case measure => simp [intOf]; omega
        · have r0 : (x1 == 0) = false := by simp [he]
          have HST := Lib.hid (HST0.out.trans (if_neg (fun q => he q.1)))
          clear he
          go_wp2_with fail
          refine (implLongestPeriod_any _ s x0 _ (HS1.out _ hba) hn1 lc lb HL.out).mono ?_
          rintro e w2 ⟨rfl, b2⟩
          have hb2 := hba.trans (b2.mono hba.size)
          have hs2 := hb2.size
          have HX2 := HXA.out.below b2
          have z0 := HX2.cell 0
          have z1 := HX2.cell 1
          have z2 := HX2.cell 2
          simp at z0 z1 z2
          have HO2 := Lib.hid (ownsRow_below HOA.out b2)
          clear HXA HOA
          go_wp2_with fail
          go_roundw
          case rel => exact ⟨k + 1, by omega, by go_num, (by rw [HST.out]; exact HO2.out), hb2⟩
          case measure => simp [intOf]; omega
      · obtain rfl : k = s.length := by omega
        have HF := Lib.hid (by rw [nevT_all] at hO; exact PrsO.of_row hO rfl : PrsO w.heap.size wr.heap.size wr _ (nevF s))
        clear hO
        go_wp2_with fail
        go_ret2
        exact ⟨_, rfl, HF.out, hb⟩
end Go.Proofs.Ytedckfbjhhabgaa
