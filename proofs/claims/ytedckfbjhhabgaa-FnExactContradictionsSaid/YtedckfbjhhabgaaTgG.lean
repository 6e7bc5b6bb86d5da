/- SeriesGaps, the model's and the program's. -/
import Derived.Test.YtedckfbjhhabgaaTgN
import Derived.Test.YtedckfbjhhabgaaRuFor
import Derived.Test.YtedckfbjhhabgaaSerIn
import Derived.Test.YtedckfbjhhabgaaRis
import Derived.Test.YtedckfbjhhabgaaAreSer
import Derived.Test.YtedckfbjhhabgaaContains
namespace Go.Proofs.Ytedckfbjhhabgaa
set_option linter.unusedVariables false
open Go.RowKit Go.Sort

theorem gaps_succ {s : List Ru} {xs : List Int} {k : Nat} (hk : k < xs.length) : gapsOf s (xs.take (k + 1)) = if (forRu s (xs.getD k 0)).length = 0 then gapsOf s (xs.take k) ++ [xs.getD k 0] else gapsOf s (xs.take k) := by
  have e0 : xs.getD k 0 = xs[k] := getI_lt hk
  have key : (forRu s (xs.getD k 0)).length = 0 ↔ ¬ ∃ r ∈ s, r.series = xs.getD k 0 := by
    rw [List.length_eq_zero_iff]
    unfold forRu
    rw [List.filter_eq_nil_iff]
    simp
  unfold gapsOf
  rw [List.take_succ_eq_append_getElem hk, List.filter_append, ← e0]
  by_cases h : (forRu s (xs.getD k 0)).length = 0
  · rw [if_pos h, List.filter_cons_of_pos (by rw [decide_eq_true_eq]; exact key.1 h), List.filter_nil]
  · rw [if_neg h, List.filter_cons_of_neg (by rw [decide_eq_true_eq]; exact fun q => h (key.2 q)), List.filter_nil, List.append_nil]
theorem gaps_len (s : List Ru) (xs : List Int) : (gapsOf s xs).length ≤ xs.length := List.length_filter_le _ _
theorem gapsRes_len {s : List Ru} {xs ys : List Int} {b : Bool} (h : gapsRes s xs = (ys, b)) : ys.length ≤ xs.length := by
  unfold gapsRes at h
  split at h <;> obtain ⟨rfl, _⟩ := Prod.mk.inj h
  · exact gaps_len _ _
  · exact Nat.zero_le _
theorem ser_forRu {s : List Ru} {y : Int} : y ∈ serF s ↔ ¬ (forRu s y).length = 0 := by
  rw [serF_iff, List.length_eq_zero_iff]
  unfold forRu
  rw [List.filter_eq_nil_iff]
  simp
theorem ints_rowG {lo n : Nat} {w : World} {v : Value} {xs : List Int} (h : w.ownsRow lo 3 1 v n (xs.map vI)) (hn : n = xs.length) : IntsO lo w.heap.size w v xs := ⟨by rw [← hn]; exact h, fun g hg => (h.lt g hg).2⟩
theorem ints_newG (w : World) : IntsO w.heap.size (w.alloc (.cells #[] 3 (0, 0))).heap.size (w.alloc (.cells #[] 3 (0, 0))) (.slice (some ⟨w.heap.size, 0, none⟩) 0 0) [] := ints_rowG (World.ownsRow_made w #[] 0 (Nat.le_refl _) (Nat.zero_le _) rfl) rfl
theorem ints_nilG (lo hi : Nat) (w : World) : IntsO lo hi w (.slice none 0 0) [] := ⟨World.ownsRow_nil _ _ _ _, Under.nil _ _ _⟩

set_option maxRecDepth 20000 in
set_option maxHeartbeats 4000000 in
theorem specGaps_any (v1 v2 : Value) (s : List Ru) (t : List Int) (w : World) (h1 : RowR 4 rRu w v1 s) (hn1 : s.length ≤ 1048576) (h2 : RowOf vI w v2 t) (hn : t.length ≤ 1048576) (xs : List Int) (b : Bool) (hres : gapsRes s t = (xs, b)) :
    Calls Try.prog 19 #[v1, v2] w fun e w' => ∃ v', e = .returned (.tuple #[v', .bool b]) ∧ IntsO w.heap.size w'.heap.size w' v' xs ∧ Below w.heap.size w w' := by
  obtain ⟨i0, hi, hz0, hz1, hz2⟩ := info_parts Try.info_int
  have b0 := below_al (Below.refl w.heap.size w) (.cells #[] 3 (0, 0))
  have HS1 := Lib.hid (show ∀ W, Below w.heap.size w W → RowR 4 rRu W v1 s from fun W hb => h1.below rRu_stable hb)
  have HT := Lib.hid (show ∀ W, Below w.heap.size w W → RowOf vI W v2 t from fun W hb => h2.below hb)
  obtain ⟨a1, c1, hv, hl1, hm1, r1⟩ := h2
  subst hv
  have R1 := Lib.hid r1
  unfold maxLen at hm1
  obtain ⟨bs, hs⟩ : ∃ b, isSch s = b := ⟨_, rfl⟩
  obtain ⟨br, hr⟩ : ∃ b, risB 1 99 t = b := ⟨_, rfl⟩
  have HS := Lib.hid hs
  have HR := Lib.hid hr
  have HRES := Lib.hid hres
  clear h1 hs hr r1 hres
  cases bs
  · have hr := HRES.out
    unfold gapsRes at hr
    rw [if_neg (fun q => by rw [HS.out] at q; cases q.1)] at hr
    obtain ⟨rfl, rfl⟩ := Prod.mk.inj hr
    clear hr HRES
    go_enter Try.func19, Try.ntmps19
    go_wp2_with (first | (go_at_call 54; refine (l4Good_any _ s _ (HS1.out _ b0)).mono ?_; rw [HS.out]; rintro e w1 ⟨rfl, b1⟩; have HI1 := Lib.hid (((ints_newG w).below b1).wide (Nat.le_refl _) b1.size); replace b1 := below_chain b0 b1))
    go_ret2
    exact ⟨_, rfl, HI1.out, b1⟩
  · by_cases hL : t.length ≤ 20
    · have gL : ¬ (20 : Int) < (t.length : Int) := by omega
      have HL := Lib.hid hL
      clear hL
      cases br
      · have hr := HRES.out
        unfold gapsRes at hr
        rw [if_neg (fun q => by have := q.2.2; rw [HR.out] at this; cases this)] at hr
        obtain ⟨rfl, rfl⟩ := Prod.mk.inj hr
        clear hr HRES
        go_enter Try.func19, Try.ntmps19
        go_wp2_with (first | (go_at_call 54; refine (l4Good_any _ s _ (HS1.out _ b0)).mono ?_; rw [HS.out]; rintro e w1 ⟨rfl, b1⟩; have HI1 := Lib.hid (((ints_newG w).below b1).wide (Nat.le_refl _) b1.size); replace b1 := below_chain b0 b1) | (go_at_call 55; refine (l1Rising_any _ t 1 99 _ (HT.out _ b1)).mono ?_; rw [HR.out]; rintro e w2 ⟨rfl, b2⟩; replace HI1 := Lib.hid ((HI1.out.below b2).wide (Nat.le_refl _) b2.size); replace b1 := below_chain b1 b2; clear b2))
        go_ret2
        exact ⟨_, rfl, HI1.out, b1⟩
      · have hr := HRES.out
        unfold gapsRes at hr
        rw [if_pos ⟨HS.out, HL.out, HR.out⟩] at hr
        obtain ⟨rfl, rfl⟩ := Prod.mk.inj hr
        clear hr HRES
        go_enter Try.func19, Try.ntmps19
        go_wp2_with (first | (go_at_call 54; refine (l4Good_any _ s _ (HS1.out _ b0)).mono ?_; rw [HS.out]; rintro e w1 ⟨rfl, b1⟩; have HI1 := Lib.hid (((ints_newG w).below b1).wide (Nat.le_refl _) b1.size); replace b1 := below_chain b0 b1) | (go_at_call 55; refine (l1Rising_any _ t 1 99 _ (HT.out _ b1)).mono ?_; rw [HR.out]; rintro e w2 ⟨rfl, b2⟩; replace HI1 := Lib.hid ((HI1.out.below b2).wide (Nat.le_refl _) b2.size); replace b1 := below_chain b1 b2; clear b2))

        go_loopw [6, 7] (fun o i wr => ∃ k : Nat, k ≤ t.length ∧ i = .int .i64 k ∧ wr.ownsRow w.heap.size 3 1 o (gapsOf s (t.take k)).length ((gapsOf s (t.take k)).map vI) ∧ Below w.heap.size w wr) (fun _ i _ => t.length - (intOf i).toNat)
        case atStart => exact ⟨0, Nat.zero_le _, rfl, (by simpa [gapsOf] using HI1.out.1), b1⟩
        case round =>
          clear b1 HI1
          obtain ⟨k, hk, rfl, hO, hb⟩ := hrel
          have hsz := hb.size
          by_cases hlt : k < t.length
          · obtain ⟨b1, o1, hb1, rfl, e1⟩ := R1.out.resolve_left (fun e => by rw [e] at hlt; simp at hlt)
            have q0 := e1 k hlt
            have hsucc := gaps_succ (s := s) hlt
            obtain ⟨P, hP⟩ : ∃ P, gapsOf s (t.take k) = P := ⟨_, rfl⟩
            have hPl : P.length ≤ k := by
              rw [← hP]
              have := gaps_len s (t.take k)
              rw [List.length_take] at this
              omega
            rw [hP] at hO hsucc
            obtain ⟨x0, hx⟩ : ∃ y, t.getD k 0 = y := ⟨_, rfl⟩
            rw [← getI_lt hlt, hx] at q0
            simp only [vI] at q0
            rw [hx] at hsucc
            have f0 := (hb.cell (p := ⟨b1, o1 + k, none⟩) hb1).trans q0
            have HSU := Lib.hid hsucc
            have g0 : (0 : Int) ≤ (k : Int) := by omega
            have g1 : (k : Int) < (t.length : Int) := by omega
            have HO := Lib.hid hO
            clear q0 e1 hx hsucc hP hO
            obtain ⟨L, hL⟩ : ∃ L, forRu s x0 = L := ⟨_, rfl⟩
            rw [hL] at HSU
            have HLL := Lib.hid hL
            clear hL
            by_cases hz : L.length = 0
            · have HSU2 := Lib.hid (HSU.out.trans (if_pos hz))
              have HZ := Lib.hid hz
              clear hz
              go_wp2_with fail
              refine (l4For_any _ s x0 _ (HS1.out _ hb) hn1).mono ?_
              rw [HLL.out]
              rintro e w2 ⟨v2, rfl, ho2, b2⟩
              obtain ⟨ga, gc, hgv, _, _, _⟩ := ho2.row.rus
              subst hgv
              have hO2 := ownsRow_below HO.out b2
              have hb2 := hb.trans (b2.mono hsz)
              have hs2 := hb2.size
              have f2 := cell_kept f0 b2
              have dz : ((L.length : Int) == 0) = true := by rw [HZ.out]; rfl
              clear ho2
              go_wp2_with (first | (at_builtin; refine wpList_append_own _ rfl _ _ 30 rfl w.heap.size 3 i0 (.int .i64 0) 1 8 Try.underlying30 hi hz0 hz1 hz2 rfl (by decide) _ _ _ rfl (hO2.alloc _) ⟨w2.heap.size, 0, none⟩ 1 1 [.int .i64 x0] rfl rfl (cell1_new _ _ _ (by simp)) (by simp [Value.oneCell']) (by unfold maxLen; omega) (by omega) (by simp; omega) ?_; intro v' w4 hown' hgrow _))
              have HOWN := Lib.hid hown'
              have HB := Lib.hid (below_app hb2 (Nat.le_refl _) hO2 hgrow)
              clear hown' hgrow hO2
              go_wp2_with fail
              go_roundw
              case rel => exact ⟨k + 1, by omega, by go_num, (by rw [HSU2.out]; simpa [vI] using HOWN.out), HB.out⟩
              case measure => simp [intOf]; omega
            · have HSU2 := Lib.hid (HSU.out.trans (if_neg hz))
              have HZ := Lib.hid hz
              clear hz
              go_wp2_with fail
              refine (l4For_any _ s x0 _ (HS1.out _ hb) hn1).mono ?_
              rw [HLL.out]
              rintro e w2 ⟨v2, rfl, ho2, b2⟩
              obtain ⟨ga, gc, hgv, _, _, _⟩ := ho2.row.rus
              subst hgv
              have hO2 := Lib.hid (ownsRow_below HO.out b2)
              have hb2 := hb.trans (b2.mono hsz)
              have dz : ((L.length : Int) == 0) = false := by rw [beq_eq_false_iff_ne]; have := HZ.out; omega
              clear ho2
              go_wp2_with fail
              go_roundw
              case rel => exact ⟨k + 1, by omega, by go_num, (by rw [HSU2.out]; exact hO2.out), hb2⟩
              case measure => simp [intOf]; omega
          · obtain rfl : k = t.length := by omega
            rw [List.take_length] at hO
            have HF := Lib.hid (ints_rowG hO rfl)
            clear hO
            go_wp2_with fail
            go_ret2
            exact ⟨_, rfl, HF.out, hb⟩
    · have gL : (20 : Int) < (t.length : Int) := by omega
      have hr := HRES.out
      unfold gapsRes at hr
      rw [if_neg (fun q => hL q.2.1)] at hr
      obtain ⟨rfl, rfl⟩ := Prod.mk.inj hr
      clear hr HRES
      clear hL
      go_enter Try.func19, Try.ntmps19
      go_wp2_with (first | (go_at_call 54; refine (l4Good_any _ s _ (HS1.out _ b0)).mono ?_; rw [HS.out]; rintro e w1 ⟨rfl, b1⟩; have HI1 := Lib.hid (((ints_newG w).below b1).wide (Nat.le_refl _) b1.size); replace b1 := below_chain b0 b1))
      go_ret2
      exact ⟨_, rfl, HI1.out, b1⟩
set_option maxRecDepth 20000 in
set_option maxHeartbeats 4000000 in
theorem implGaps_any (v1 v2 : Value) (s : List Ru) (t : List Int) (w : World) (h1 : RowR 4 rRu w v1 s) (hn1 : s.length ≤ 1048576) (h2 : RowOf vI w v2 t) (hn : t.length ≤ 1048576) (xs : List Int) (b : Bool) (hres : gapsRes s t = (xs, b)) :
    Calls Try.prog 22 #[v1, v2] w fun e w' => ∃ v', e = .returned (.tuple #[v', .bool b]) ∧ IntsO w.heap.size w'.heap.size w' v' xs ∧ Below w.heap.size w w' := by
  obtain ⟨i0, hi, hz0, hz1, hz2⟩ := info_parts Try.info_int
  have b0 := below_al (Below.refl w.heap.size w) (.cells #[] 3 (0, 0))
  have HS1 := Lib.hid (show ∀ W, Below w.heap.size w W → RowR 4 rRu W v1 s from fun W hb => h1.below rRu_stable hb)
  have HT := Lib.hid (show ∀ W, Below w.heap.size w W → RowOf vI W v2 t from fun W hb => h2.below hb)
  obtain ⟨a1, c1, hv, hl1, hm1, r1⟩ := h2
  subst hv
  have R1 := Lib.hid r1
  unfold maxLen at hm1
  obtain ⟨bs, hs⟩ : ∃ b, isSch s = b := ⟨_, rfl⟩
  obtain ⟨br, hr⟩ : ∃ b, risB 1 99 t = b := ⟨_, rfl⟩
  have HS := Lib.hid hs
  have HR := Lib.hid hr
  have HRES := Lib.hid hres
  clear h1 hs hr r1 hres
  obtain ⟨zs, bz, hz⟩ : ∃ zs b, sinRes s = (zs, b) := ⟨_, _, rfl⟩
  have HZ := Lib.hid hz
  clear hz
  obtain ⟨ba, ha⟩ : ∃ b, serN 20 t = b := ⟨_, rfl⟩
  have HA := Lib.hid ha
  clear ha
  cases bs
  · have hr := HRES.out
    unfold gapsRes at hr
    rw [if_neg (fun q => by rw [HS.out] at q; cases q.1)] at hr
    obtain ⟨rfl, rfl⟩ := Prod.mk.inj hr
    clear hr HRES
    obtain ⟨rfl, rfl⟩ := sinRes_no HZ.out HS.out
    go_enter Try.func22, Try.ntmps22
    go_wp2_with (first | (go_at_call 58; refine (implSeriesIn_any _ s _ (HS1.out _ (Below.refl _ _)) hn1 _ _ HZ.out).mono ?_; rintro e w1 ⟨vz, rfl, hz, b1⟩; have HZV := Lib.hid hz; clear hz))
    go_ret2
    exact ⟨_, rfl, ints_nilG _ _ _, b1⟩
  · obtain ⟨rfl, rfl⟩ := sinRes_yes HZ.out HS.out
    cases ba
    · have hr := HRES.out
      unfold gapsRes at hr
      rw [if_neg (fun q => by have h3 := HA.out; unfold serN at h3; rw [q.2.2, decide_eq_true (by omega)] at h3; cases h3)] at hr
      obtain ⟨rfl, rfl⟩ := Prod.mk.inj hr
      clear hr HRES
      go_enter Try.func22, Try.ntmps22
      go_wp2_with (first | (go_at_call 58; refine (implSeriesIn_any _ s _ (HS1.out _ (Below.refl _ _)) hn1 _ _ HZ.out).mono ?_; rintro e w1 ⟨vz, rfl, hz, b1⟩; have HZV := Lib.hid hz; clear hz) | (go_at_call 59; refine (areSeries_any _ t 20 _ (HT.out _ b1)).mono ?_; rw [HA.out]; rintro e w2 ⟨rfl, b2⟩; replace HZV := Lib.hid ((HZV.out.below b2).wide (Nat.le_refl _) b2.size); replace b1 := below_chain b1 b2; clear b2))
      go_ret2
      exact ⟨_, rfl, ints_nilG _ _ _, b1⟩
    · have HQ : Hid (t.length ≤ 20 ∧ risB 1 99 t = true) := Lib.hid (by have h3 := HA.out; unfold serN at h3; rw [Bool.and_eq_true, decide_eq_true_eq] at h3; exact ⟨by omega, h3.2⟩)
      have HL := Lib.hid HQ.out.1
      replace HR := Lib.hid HQ.out.2
      clear HQ
      have hr := HRES.out
      unfold gapsRes at hr
      rw [if_pos ⟨HS.out, HL.out, HR.out⟩] at hr
      obtain ⟨rfl, rfl⟩ := Prod.mk.inj hr
      clear hr HRES
      go_enter Try.func22, Try.ntmps22
      go_wp2_with (first | (go_at_call 58; refine (implSeriesIn_any _ s _ (HS1.out _ (Below.refl _ _)) hn1 _ _ HZ.out).mono ?_; rintro e w1 ⟨vz, rfl, hz, b1⟩; have HZV := Lib.hid hz; clear hz) | (go_at_call 59; refine (areSeries_any _ t 20 _ (HT.out _ b1)).mono ?_; rw [HA.out]; rintro e w2 ⟨rfl, b2⟩; replace HZV := Lib.hid ((HZV.out.below b2).wide (Nat.le_refl _) b2.size); replace b1 := below_chain b1 b2; clear b2))
      go_loopw [8, 25] (fun o i wr => ∃ k : Nat, k ≤ t.length ∧ i = .int .i64 k ∧ wr.ownsRow w2.heap.size 3 1 o (gapsOf s (t.take k)).length ((gapsOf s (t.take k)).map vI) ∧ Below w2.heap.size w2 wr) (fun _ i _ => t.length - (intOf i).toNat)
      case atStart => exact ⟨0, Nat.zero_le _, rfl, (by simpa [gapsOf] using (ints_nilG w2.heap.size w2.heap.size _).1), Below.refl _ _⟩
      case round =>
        obtain ⟨k, hk, rfl, hO, hb9⟩ := hrel
        have hsz := hb9.size
        have hb := b1.trans (hb9.mono b1.size)
        have hsw := b1.size
        by_cases hlt : k < t.length
        · obtain ⟨b1, o1, hb1, rfl, e1⟩ := R1.out.resolve_left (fun e => by rw [e] at hlt; simp at hlt)
          have q0 := e1 k hlt
          have hsucc := gaps_succ (s := s) hlt
          obtain ⟨P, hP⟩ : ∃ P, gapsOf s (t.take k) = P := ⟨_, rfl⟩
          have hPl : P.length ≤ k := by
            rw [← hP]
            have := gaps_len s (t.take k)
            rw [List.length_take] at this
            omega
          rw [hP] at hO hsucc
          obtain ⟨x0, hx⟩ : ∃ y, t.getD k 0 = y := ⟨_, rfl⟩
          rw [← getI_lt hlt, hx] at q0
          simp only [vI] at q0
          rw [hx] at hsucc
          have f0 := (hb.cell (p := ⟨b1, o1 + k, none⟩) hb1).trans q0
          have HSU := Lib.hid hsucc
          have g0 : (0 : Int) ≤ (k : Int) := by omega
          have g1 : (k : Int) < (t.length : Int) := by omega
          have HO := Lib.hid hO
          clear q0 e1 hx hsucc hP hO
          obtain ⟨bm, hbm⟩ : ∃ b, decide (x0 ∈ serF s) = b := ⟨_, rfl⟩
          have HBM := Lib.hid hbm
          clear hbm
          have HZR := Lib.hid (HZV.out.row.below hb9)
          cases bm
          · have HSU2 := Lib.hid (HSU.out.trans (if_pos (by have := of_decide_eq_false HBM.out; rw [ser_forRu] at this; omega)))
            go_wp2_with fail
            refine (contains_any _ (serF s) x0 _ HZR.out).mono ?_
            rw [HBM.out]
            rintro e w3 ⟨rfl, b3⟩
            have hO2 := ownsRow_below HO.out b3
            have hb2 := hb9.trans (b3.mono hsz)
            have hs3 := hb2.size
            go_wp2_with (first | (at_builtin; refine wpList_append_own _ rfl _ _ 30 rfl w2.heap.size 3 i0 (.int .i64 0) 1 8 Try.underlying30 hi hz0 hz1 hz2 rfl (by decide) _ _ _ rfl (hO2.alloc _) ⟨w3.heap.size, 0, none⟩ 1 1 [.int .i64 x0] rfl rfl (cell1_new _ _ _ (by simp)) (by simp [Value.oneCell']) (by unfold maxLen; omega) (by omega) (by simp; omega) ?_; intro v' w4 hown' hgrow _))
            have HOWN := Lib.hid hown'
            have HB := Lib.hid (below_app hb2 (Nat.le_refl _) hO2 hgrow)
            clear hown' hgrow hO2
            go_wp2_with fail
            go_roundw
            case rel => exact ⟨k + 1, by omega, by go_num, (by rw [HSU2.out]; simpa [vI] using HOWN.out), HB.out⟩
            case measure => simp [intOf]; omega
          · have HSU2 := Lib.hid (HSU.out.trans (if_neg (by have := of_decide_eq_true HBM.out; rw [ser_forRu] at this; exact this)))
            go_wp2_with fail
            refine (contains_any _ (serF s) x0 _ HZR.out).mono ?_
            rw [HBM.out]
            rintro e w3 ⟨rfl, b3⟩
            have hO2 := Lib.hid (ownsRow_below HO.out b3)
            have hb2 := hb9.trans (b3.mono hsz)
            go_wp2_with fail
            go_roundw
            case rel => exact ⟨k + 1, by omega, by go_num, (by rw [HSU2.out]; exact hO2.out), hb2⟩
            case measure => simp [intOf]; omega
        · obtain rfl : k = t.length := by omega
          rw [List.take_length] at hO
          have HF := Lib.hid ((ints_rowG hO rfl).wide b1.size (Nat.le_refl _))
          clear hO
          go_wp2_with fail
          go_ret2
          exact ⟨_, rfl, HF.out, hb⟩
end Go.Proofs.Ytedckfbjhhabgaa
