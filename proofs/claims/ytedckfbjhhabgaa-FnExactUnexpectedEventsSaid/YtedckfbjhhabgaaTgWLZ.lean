/- TgZ, TgC, SerIn, CompO, TgW, BytesNe, EqTg, MarkTg, EqRu, MarkRu, CellOnly, in one text. -/
import Derived.Test.YtedckfbjhhabgaaTgY
import Derived.Test.YtedckfbjhhabgaaRuForI
import Derived.Test.YtedckfbjhhabgaaTgN
import Derived.Lib.SlicesCompact
import Derived.Test.YtedckfbjhhabgaaRuS
import Derived.Test.YtedckfbjhhabgaaRuI
import Derived.Test.YtedckfbjhhabgaaHas
import Derived.Test.YtedckfbjhhabgaaShelf
import Derived.Lib.OwnBridge
import Derived.Test.YtedckfbjhhabgaaIntsN
import Derived.Test.YtedckfbjhhabgaaRowOf
import Derived.Test.YtedckfbjhhabgaaToTg
import Derived.Deep.RegionHeld3
import Derived.WalkSmall
import Derived.Test.YtedckfbjhhabgaaToRu
import Derived.Test.YtedckfbjhhabgaaOwn
import Derived.Test.YtedckfbjhhabgaaCells
namespace Go.Proofs.Ytedckfbjhhabgaa
set_option linter.unusedVariables false
open Go.RowKit Go.Sort Go.Maps

theorem dueL_neg {D : Int → Int} {R : List Ru} {j : Nat} {m : Int} (hj : j < R.length) (h : D (R.getD j ruD).event < 0) : dueL D (R.drop j) m = none := by
  rw [List.drop_eq_getElem_cons hj, ← getRu_lt hj]
  unfold dueL
  rw [if_pos h]
theorem dueL_step {D : Int → Int} {R : List Ru} {j : Nat} {m : Int} (hj : j < R.length) (h : 0 ≤ D (R.getD j ruD).event) : dueL D (R.drop j) m = dueL D (R.drop (j + 1)) (max m (D (R.getD j ruD).event + (R.getD j ruD).days)) := by
  rw [List.drop_eq_getElem_cons hj, ← getRu_lt hj]
  conv => lhs; unfold dueL
  rw [if_neg (by omega)]
theorem dueT_ok {s : List Ru} {k : Int} : ∀ r ∈ (rufRes s k).1, isRu r = true := by
  intro r hr
  unfold rufRes at hr
  split at hr
  · rename_i h
    rw [Bool.and_eq_true] at h
    exact forRu_ok h.1 k r hr
  · simp at hr
theorem rufT_len (s : List Ru) (k : Int) : (rufRes s k).1.length ≤ 8 := by
  unfold rufRes
  split
  · rename_i h
    rw [Bool.and_eq_true] at h
    exact Nat.le_trans (forRu_len s k) (sch_len h.1)
  · simp
theorem dueT_of {t : List Tg} {s : List Ru} {k : Int} {R : List Ru} (hR : (rufRes s k).1 = R) (h0 : R ≠ []) : dueTRes t s k = match dueL (edayX t) R 0 with | some m => (m, true) | none => (0, false) := by
  unfold dueTRes
  rw [hR, if_neg h0]
  rcases dueL (edayX t) R 0 with _ | m <;> rfl
theorem dueT_nil {t : List Tg} {s : List Ru} {k : Int} (hR : (rufRes s k).1 = []) : dueTRes t s k = (0, false) := by
  unfold dueTRes
  rw [hR, if_pos rfl]
def LookD (W : World) (m : Value) (t : List Tg) : Prop := ∀ x, inI x → (Instr.lookup 85 m (.int .i64 x) true).run Try.prog W = .ok (.tuple #[.int .i64 (edRes t x).1, .bool (edRes t x).2]) W
theorem look_nilD {t : List Tg} (hf : freeB t = false) (W : World) : LookD W (.map none) t := fun x _ => by
  rw [ed_nofree hf]
  exact nil_look x W
theorem look_ownD {t : List Tg} {W : World} {mb nn : Nat} {D : DataW Unit} (hf : freeB t = true) (hm : DayI W mb nn D) (hd : DKL D t (fun _ => false)) : LookD W (.map (some mb)) t := fun x hx => by
  obtain ⟨h1, h2⟩ := days_look hf hd x
  have hk := key_n x hx
  obtain ⟨v, ps, hrun, hv⟩ := hm.look_ok (int_keyed Try.underlying3) Try.underlying85 (zero_intX W) (zd := .lit (.int .i64 0)) (zp := []) (plainElem_int Try.underlying3 (by decide)) hk
  obtain ⟨c, rfl, hc, _⟩ := plainElem_int_inv Try.underlying3 hv
  rw [hrun, h1, h2 c (congrArg Prod.fst hc)]
set_option maxRecDepth 20000 in
set_option maxHeartbeats 8000000 in
theorem implExpectedDue_any (v v1 : Value) (t : List Tg) (s : List Ru) (k : Int) (w : World) (h : RowR 3 rTg w v t) (h1 : RowR 4 rRu w v1 s) (hn : s.length ≤ 1048576) (n : Int) (b : Bool) (hres : dueTRes t s k = (n, b)) :
    Calls Try.prog 43 #[v, v1, .int .i64 k] w fun e w' => e = .returned (.tuple #[.int .i64 n, .bool b]) ∧ Below w.heap.size w w' := by
  have H := Lib.hid h
  have H1 := Lib.hid h1
  have HRES := Lib.hid hres
  obtain ⟨R, br, hR⟩ : ∃ R b, rufRes s k = (R, b) := ⟨_, _, rfl⟩
  have HR := Lib.hid hR
  have HR1 : Hid ((rufRes s k).1 = R) := Lib.hid (by rw [hR])
  have hRl : R.length ≤ 8 := by rw [← HR1.out]; exact rufT_len s k
  have HOK : Hid (∀ r ∈ R, isRu r = true) := Lib.hid (by rw [← HR1.out]; exact dueT_ok)
  clear h h1 hres hR
  go_enter Try.func43, Try.ntmps43
  go_wp2_with fail
  refine (implRulesFor_any _ s k _ H1.out hn R br HR.out).mono ?_
  rintro e w1 ⟨u1, rfl, ho1, b1⟩
  obtain ⟨ra, rc, hgv, hgl, hgm, hr3⟩ := ho1.row.rus
  subst hgv
  have R3 := Lib.hid hr3
  unfold maxLen at hgm
  clear ho1 hr3
  go_wp2_with fail
  refine (expectedDays_any _ t _ (H.out.below rTg_stable b1)).mono ?_
  rintro e w2 ⟨b2, hd⟩
  have hw12 := b2.size
  have hmap : ∃ (mp : Value) (bo : Bool), e = .returned (.tuple #[mp, .bool bo]) ∧ (∃ o, mp = .map o) ∧ ∀ W, Below w2.heap.size w2 W → LookD W mp t := by
    rcases hd with ⟨hf, rfl⟩ | ⟨hf, mb, nn, D, rfl, hm, hd⟩
    · exact ⟨_, _, rfl, ⟨_, rfl⟩, fun W _ => look_nilD hf W⟩
    · exact ⟨_, _, rfl, ⟨_, rfl⟩, fun W hW => look_ownD hf (hm.kept (grownBy_of_below hW none) (by simp)) hd⟩
  obtain ⟨mp, bo, rfl, ⟨mo, rfl⟩, hlk⟩ := hmap
  have HLK := Lib.hid hlk
  clear hd hlk
  have hw01 := b1.size
  go_wp2_with fail
  go_loopw [12, 30] (fun o i wr => ∃ (j : Nat) (dd : Int), j ≤ R.length ∧ i = .int .i64 j ∧ o = .int .i64 dd ∧ Hid (dueL (edayX t) R 0 = dueL (edayX t) (R.drop j) dd) ∧ 0 ≤ dd ∧ dd ≤ 200000 ∧ Below w2.heap.size w2 wr) (fun _ i _ => R.length - (intOf i).toNat)
  case atStart => exact ⟨0, 0, Nat.zero_le _, rfl, rfl, Lib.hid (by rw [List.drop_zero]), by omega, by omega, Below.refl _ _⟩
  case round =>
    obtain ⟨j, dd, hj, rfl, rfl, HGO, hd0, hd1, hb⟩ := hrel
    have hsz := hb.size
    have hbw := b1.trans ((b2.mono hw01).trans (hb.mono (by omega)))
    have hb12 : Below w1.heap.size w1 wr := b2.trans (hb.mono hw12)
    by_cases hlt : j < R.length
    · obtain ⟨bb, o1, hbb, rfl, e1⟩ := R3.out.resolve_left (fun e => by rw [e] at hlt; simp at hlt)
      obtain ⟨⟨x0, x1, x2, x3⟩, hx⟩ : ∃ x, R.getD j ruD = x := ⟨_, rfl⟩
      obtain ⟨q0, q1, q2, q3, _⟩ := e1 j hlt
      rw [hx] at q0 q1 q2 q3
      simp only at q0 q1 q2 q3
      have f0 := cell_kept q0 hb12
      have f1 := cell_kept q1 hb12
      have f2 := cell_kept q2 hb12
      have f3 := cell_kept q3 hb12
      have hru := isRu_iff.1 (HOK.out ⟨x0, x1, x2, x3⟩ (by rw [← hx, getRu_lt hlt]; exact List.getElem_mem hlt))
      simp only at hru
      have hx1 := hru.2.1
      have hx2 := hru.2.2.1
      have hlk := HLK.out (wr.alloc (.cells #[.int .i64 x0, .int .i64 x1, .int .i64 x2, .int .i64 x3] 73 (0, 0))) (below_al hb _) x1 (by simp [inI]; omega)
      have HX := Lib.hid hx
      have hba := below_al hbw (.cells #[.int .i64 x0, .int .i64 x1, .int .i64 x2, .int .i64 x3] 73 (0, 0))
      have hba2 := below_al hb (.cells #[.int .i64 x0, .int .i64 x1, .int .i64 x2, .int .i64 x3] 73 (0, 0))
      have g0 : (0 : Int) ≤ (j : Int) := by omega
      have g1 : (j : Int) < (R.length : Int) := by omega
      obtain ⟨d1, hd⟩ : ∃ d, edayX t x1 = d := ⟨_, rfl⟩
      have hdin := edayX_in t x1
      rw [hd] at hdin
      unfold edRes at hlk
      rw [hd] at hlk
      have HD1 := Lib.hid hd
      clear q0 q1 q2 q3 e1 hx hd hru
      by_cases hneg : d1 < 0
      · rw [if_pos hneg] at hlk
        have HQ : Hid (n = 0 ∧ b = false) := Lib.hid (by
          have := HRES.out
          rw [dueT_of HR1.out (fun e => by rw [e] at hlt; simp at hlt), HGO.out, dueL_neg hlt (by rw [HX.out]; simp only; rw [HD1.out]; exact hneg)] at this
          obtain ⟨h1, h2⟩ := Prod.mk.inj this
          exact ⟨h1.symm, h2.symm⟩)
        clear hneg
        go_wp2_with fail
        go_ret2
        exact ⟨by rw [HQ.out.1, HQ.out.2]; rfl, hba⟩
      · have hpos : 0 ≤ d1 := by omega
        rw [if_neg hneg] at hlk
        have HG2 : Hid (dueL (edayX t) R 0 = dueL (edayX t) (R.drop (j + 1)) (max dd (d1 + x2))) := Lib.hid (by
          rw [HGO.out, dueL_step hlt (by rw [HX.out]; simp only; rw [HD1.out]; exact hpos), HX.out]
          simp only
          rw [HD1.out])
        have hs1 : d1 + x2 ≤ 130000 := by omega
        have hs0 : 0 ≤ d1 + x2 := by omega
        clear hneg
        by_cases hmx : dd < d1 + x2
        · have HRS : Hid (max dd (d1 + x2) = d1 + x2) := Lib.hid (by omega)
          have hmx2 : max dd (d1 + x2) = d1 + x2 := HRS.out
          go_wp2_with fail
          go_roundw
          case rel => exact ⟨j + 1, d1 + x2, by omega, by go_num, by first | rfl | (rw [if_pos hmx]) | (rw [hmx2]), Lib.hid (by rw [HG2.out, HRS.out]), by omega, by omega, hba2⟩
          case measure => simp [intOf]; omega
        · have HRS : Hid (max dd (d1 + x2) = dd) := Lib.hid (by omega)
          have hmx2 : max dd (d1 + x2) = dd := HRS.out
          go_wp2_with fail
          go_roundw
          case rel => exact ⟨j + 1, dd, by omega, by go_num, by first | rfl | (rw [if_neg hmx]) | (rw [hmx2]), Lib.hid (by rw [HG2.out, HRS.out]), by omega, by omega, hba2⟩
          case measure => simp [intOf]; omega
    · have hjl : j = R.length := by omega
      by_cases hl0 : R.length = 0
      · have HQ : Hid (n = 0 ∧ b = false ∧ dd = 0) := Lib.hid (by
          have h0 := List.length_eq_zero_iff.1 hl0
          have := HRES.out
          rw [dueT_nil (by rw [HR1.out, h0])] at this
          obtain ⟨h1, h2⟩ := Prod.mk.inj this
          have h3 := HGO.out
          rw [h0, List.drop_nil] at h3
          unfold dueL at h3
          exact ⟨h1.symm, h2.symm, (Option.some.inj h3).symm⟩)
        have gl : ¬ (0 : Int) < (R.length : Int) := by omega
        have gl3 : decide (0 < R.length) = false := decide_eq_false (by omega)
        clear hjl hl0
        go_wp2_with fail
        go_ret2
        exact ⟨by rw [HQ.out.1, HQ.out.2.1, HQ.out.2.2]; rfl, hbw⟩
      · have HQ : Hid (n = dd ∧ b = true) := Lib.hid (by
          have := HRES.out
          rw [dueT_of HR1.out (fun e => by rw [e] at hl0; simp at hl0), HGO.out, hjl, List.drop_length] at this
          obtain ⟨h1, h2⟩ := Prod.mk.inj this
          exact ⟨h1.symm, h2.symm⟩)
        have gl : (0 : Int) < (R.length : Int) := by omega
        have gl3 : decide (0 < R.length) = true := decide_eq_true (by omega)
        clear hjl hl0
        go_wp2_with fail
        go_ret2
        exact ⟨by rw [HQ.out.1, HQ.out.2]; rfl, hbw⟩
theorem dueL_start {D : Int → Int} {R : List Ru} (h0 : R ≠ []) (hok : ∀ r ∈ R, 0 ≤ r.days) : dueL D R (-1) = dueL D R 0 := by
  rcases R with _ | ⟨r, R⟩
  · exact absurd rfl h0
  · unfold dueL
    have := hok r (by simp)
    by_cases q : D r.event < 0
    · rw [if_pos q, if_pos q]
    · rw [if_neg q, if_neg q]
      congr 1
      omega
theorem dueL_pos {D : Int → Int} : ∀ (R : List Ru) (m : Int), -1 ≤ m → (∀ r ∈ R, 0 ≤ r.days) → R ≠ [] → ∀ x, dueL D R m = some x → 0 ≤ x
  | [], _, _, _, h0, _, _ => absurd rfl h0
  | r :: R, m, hm, hok, _, x, hx => by
    unfold dueL at hx
    have h1 := hok r (by simp)
    by_cases q : D r.event < 0
    · rw [if_pos q] at hx; cases hx
    · rw [if_neg q] at hx
      rcases R with _ | ⟨r2, R⟩
      · unfold dueL at hx
        have := Option.some.inj hx
        omega
      · exact dueL_pos (r2 :: R) _ (by omega) (fun z hz => hok z (by simp [hz])) (by simp) x hx
set_option maxRecDepth 20000 in
set_option maxHeartbeats 8000000 in
theorem specExpectedDue_any (v v1 : Value) (t : List Tg) (s : List Ru) (k : Int) (w : World) (h : RowR 3 rTg w v t) (h1 : RowR 4 rRu w v1 s) (hn : s.length ≤ 1048576) (n : Int) (b : Bool) (hres : dueTRes t s k = (n, b)) :
    Calls Try.prog 42 #[v, v1, .int .i64 k] w fun e w' => e = .returned (.tuple #[.int .i64 n, .bool b]) ∧ Below w.heap.size w w' := by
  have H := Lib.hid h
  have H1 := Lib.hid h1
  have HRES := Lib.hid hres
  obtain ⟨bf, hbf⟩ : ∃ b, freeB t = b := ⟨_, rfl⟩
  obtain ⟨bs, hbs⟩ : ∃ b, isSch s = b := ⟨_, rfl⟩
  obtain ⟨bk, hbk⟩ : ∃ b, decide (1 ≤ k ∧ k ≤ 99) = b := ⟨_, rfl⟩
  have HBF := Lib.hid hbf
  have HBS := Lib.hid hbs
  have HBK := Lib.hid hbk
  have HRF : Hid (rufRes s k = if (bs && bk) = true then (forRu s k, true) else ([], false)) := Lib.hid (by unfold rufRes; rw [hbs, hbk])
  clear h h1 hres hbf hbs hbk
  cases bf
  · have HQ : Hid (n = 0 ∧ b = false) := Lib.hid (by
      have := HRES.out
      have hz : dueTRes t s k = (0, false) := by
        by_cases h0 : (rufRes s k).1 = []
        · exact dueT_nil h0
        · rw [dueT_of rfl h0]
          obtain ⟨r, R, hr⟩ : ∃ r R, (rufRes s k).1 = r :: R := by
            rcases q : (rufRes s k).1 with _ | ⟨r, R⟩
            · exact absurd q h0
            · exact ⟨r, R, rfl⟩
          rw [hr]
          unfold dueL
          rw [if_pos (by unfold edayX; rw [HBF.out]; simp)]
      rw [hz] at this
      obtain ⟨h1, h2⟩ := Prod.mk.inj this
      exact ⟨h1.symm, h2.symm⟩)
    go_enter Try.func42, Try.ntmps42
    go_wp2_with fail
    refine (l10Free_any _ t _ H.out).mono ?_
    rw [HBF.out]
    rintro e w1 ⟨rfl, b1⟩
    go_wp2_with fail
    go_ret2
    exact ⟨by rw [HQ.out.1, HQ.out.2]; rfl, b1⟩
  · obtain ⟨ht, hc⟩ := freeB_iff.1 HBF.out
    have HT := Lib.hid ht
    have HC := Lib.hid hc
    have HED : Hid (edayX t = dayX t) := Lib.hid (by funext x; unfold edayX; rw [if_pos HBF.out])
    clear ht hc
    cases bs
    · have HQ : Hid (n = 0 ∧ b = false) := Lib.hid (by have := HRES.out; rw [dueT_nil (by rw [HRF.out]; rfl)] at this; obtain ⟨h1, h2⟩ := Prod.mk.inj this; exact ⟨h1.symm, h2.symm⟩)
      go_enter Try.func42, Try.ntmps42
      go_wp2_with fail
      refine (l10Free_any _ t _ H.out).mono ?_
      rw [HBF.out]
      rintro e w1 ⟨rfl, b1⟩
      go_wp2_with fail
      refine (l4Good_any _ s _ (H1.out.below rRu_stable b1)).mono ?_
      rw [HBS.out]
      rintro e w2 ⟨rfl, b2⟩
      go_wp2_with fail
      go_ret2
      exact ⟨by rw [HQ.out.1, HQ.out.2]; rfl, b1.trans (b2.mono b1.size)⟩
    · cases bk
      · have HQ : Hid (n = 0 ∧ b = false) := Lib.hid (by have := HRES.out; rw [dueT_nil (by rw [HRF.out]; rfl)] at this; obtain ⟨h1, h2⟩ := Prod.mk.inj this; exact ⟨h1.symm, h2.symm⟩)
        go_enter Try.func42, Try.ntmps42
        go_wp2_with fail
        refine (l10Free_any _ t _ H.out).mono ?_
        rw [HBF.out]
        rintro e w1 ⟨rfl, b1⟩
        go_wp2_with fail
        refine (l4Good_any _ s _ (H1.out.below rRu_stable b1)).mono ?_
        rw [HBS.out]
        rintro e w2 ⟨rfl, b2⟩
        replace b2 := b1.trans (b2.mono b1.size)
        go_wp2_with fail
        refine (l1In_any _ _ _ _).mono ?_
        rw [HBK.out]
        rintro e w3 ⟨rfl, h3⟩
        subst w3
        go_wp2_with fail
        go_ret2
        exact ⟨by rw [HQ.out.1, HQ.out.2]; rfl, b2⟩
      · obtain ⟨R, hR⟩ : ∃ R, forRu s k = R := ⟨_, rfl⟩
        have HR1 : Hid ((rufRes s k).1 = R) := Lib.hid (by rw [HRF.out]; exact hR)
        have hRl : R.length ≤ 8 := by rw [← HR1.out]; exact rufT_len s k
        have HOK : Hid (∀ r ∈ R, isRu r = true) := Lib.hid (by rw [← HR1.out]; exact dueT_ok)
        have HRR := Lib.hid hR
        clear hR
        go_enter Try.func42, Try.ntmps42
        go_wp2_with fail
        refine (l10Free_any _ t _ H.out).mono ?_
        rw [HBF.out]
        rintro e w1 ⟨rfl, b1⟩
        go_wp2_with fail
        refine (l4Good_any _ s _ (H1.out.below rRu_stable b1)).mono ?_
        rw [HBS.out]
        rintro e w2 ⟨rfl, b2⟩
        replace b2 := b1.trans (b2.mono b1.size)
        go_wp2_with fail
        refine (l1In_any _ _ _ _).mono ?_
        rw [HBK.out]
        rintro e w3 ⟨rfl, h3⟩
        subst w3
        go_wp2_with fail
        refine (l4For_any _ s k _ (H1.out.below rRu_stable b2) hn).mono ?_
        rw [HRR.out]
        rintro e w4 ⟨u1, rfl, ho1, b4⟩
        obtain ⟨ra, rc, hgv, hgl, hgm, hr3⟩ := ho1.row.rus
        subst hgv
        have R3 := Lib.hid hr3
        unfold maxLen at hgm
        have hs2 := b2.size
        have hs4 := b4.size
        have b24 := b2.trans (b4.mono hs2)
        clear ho1 hr3
        go_wp2_with fail
        go_loopw [9, 10] (fun o i wr => ∃ (j : Nat) (dd : Int), j ≤ R.length ∧ i = .int .i64 j ∧ o = .int .i64 dd ∧ Hid (dueL (dayX t) R (-1) = dueL (dayX t) (R.drop j) dd) ∧ -1 ≤ dd ∧ dd ≤ 200000 ∧ Below w4.heap.size w4 wr) (fun _ i _ => R.length - (intOf i).toNat)
        case atStart => exact ⟨0, -1, Nat.zero_le _, rfl, rfl, Lib.hid (by rw [List.drop_zero]), by omega, by omega, Below.refl _ _⟩
        case round =>
          obtain ⟨j, dd, hj, rfl, rfl, HGO, hd0, hd1, hb⟩ := hrel
          have hsz := hb.size
          have hbw := b24.trans (hb.mono (by omega))
          by_cases hlt : j < R.length
          · obtain ⟨bb, o1, hbb, rfl, e1⟩ := R3.out.resolve_left (fun e => by rw [e] at hlt; simp at hlt)
            obtain ⟨⟨x0, x1, x2, x3⟩, hx⟩ : ∃ x, R.getD j ruD = x := ⟨_, rfl⟩
            obtain ⟨q0, q1, q2, q3, _⟩ := e1 j hlt
            rw [hx] at q1 q2
            simp only at q1 q2
            have f1 := cell_kept q1 hb
            have f2 := cell_kept q2 hb
            have hru := isRu_iff.1 (HOK.out ⟨x0, x1, x2, x3⟩ (by rw [← hx, getRu_lt hlt]; exact List.getElem_mem hlt))
            simp only at hru
            have hx2 := hru.2.2.1
            have HX := Lib.hid hx
            have g0 : (0 : Int) ≤ (j : Int) := by omega
            have g1 : (j : Int) < (R.length : Int) := by omega
            obtain ⟨d1, hd⟩ : ∃ d, dayX t x1 = d := ⟨_, rfl⟩
            have hdin := dayX_in HT.out x1
            rw [hd] at hdin
            have HD1 := Lib.hid hd
            have HCALL : Hid (Calls Try.prog 74 #[v, .int .i64 x1] wr fun e w' => e = .returned (.int .i64 d1) ∧ Below wr.heap.size wr w') := Lib.hid (by
              have := l10Day_any t HT.out HC.out 10 v x1 wr (H.out.below rTg_stable hbw) (shortW_ten HT.out HC.out x1)
              rwa [hd] at this)
            clear q0 q1 q2 q3 e1 hx hd hru
            by_cases hneg : d1 < 0
            · have HQ : Hid (n = 0 ∧ b = false) := Lib.hid (by
                have h0 : R ≠ [] := fun e => by rw [e] at hlt; simp at hlt
                have := HRES.out
                rw [dueT_of HR1.out h0, HED.out, ← dueL_start h0 (fun r hr => (isRu_iff.1 (HOK.out r hr)).2.2.1.1), HGO.out, dueL_neg hlt (by rw [HX.out]; simp only; rw [HD1.out]; exact hneg)] at this
                obtain ⟨h1, h2⟩ := Prod.mk.inj this
                exact ⟨h1.symm, h2.symm⟩)
              go_wp2_with fail
              refine HCALL.out.mono ?_
              rintro e w5 ⟨rfl, b5⟩
              go_wp2_with fail
              go_ret2
              exact ⟨by rw [HQ.out.1, HQ.out.2]; rfl, hbw.trans (b5.mono hbw.size)⟩
            · have HG2 : Hid (dueL (dayX t) R (-1) = dueL (dayX t) (R.drop (j + 1)) (max dd (d1 + x2))) := Lib.hid (by
                rw [HGO.out, dueL_step hlt (by rw [HX.out]; simp only; rw [HD1.out]; omega), HX.out]
                simp only
                rw [HD1.out])
              have hs1 : d1 + x2 ≤ 130000 := by omega
              have hs0 : 0 ≤ d1 + x2 := by omega
              have HMB : Hid (-1 ≤ max dd (d1 + x2) ∧ max dd (d1 + x2) ≤ 200000) := Lib.hid (by omega)
              go_wp2_with fail
              refine HCALL.out.mono ?_
              rintro e w5 ⟨rfl, b5⟩
              have y2 := cell_kept f2 b5
              go_wp2_with (first | (go_at_call 76; refine (l1Most_any dd (d1 + x2) _).mono ?_; rintro e w6 ⟨rfl, h6⟩; subst w6))
              go_roundw
              case rel => exact ⟨j + 1, max dd (d1 + x2), by omega, by go_num, rfl, HG2, HMB.out.1, HMB.out.2, hb.trans (b5.mono hsz)⟩
              case measure => simp [intOf]; omega
          · have hjl : j = R.length := by omega
            have HE : Hid (dueL (dayX t) R (-1) = some dd) := Lib.hid (by rw [HGO.out, hjl, List.drop_length]; rfl)
            by_cases hl0 : R.length = 0
            · have h00 := List.length_eq_zero_iff.1 hl0
              have HQ : Hid (n = 0 ∧ b = false) := Lib.hid (by have := HRES.out; rw [dueT_nil (by rw [HR1.out, h00])] at this; obtain ⟨h1, h2⟩ := Prod.mk.inj this; exact ⟨h1.symm, h2.symm⟩)
              have hdn : dd < 0 := by have h1 := HE.out; rw [h00] at h1; unfold dueL at h1; have := Option.some.inj h1; omega
              clear hjl hl0 h00
              go_wp2_with fail
              go_ret2
              exact ⟨by rw [HQ.out.1, HQ.out.2]; rfl, hbw⟩
            · have h0 : R ≠ [] := fun e => by rw [e] at hl0; simp at hl0
              have hdays : ∀ r ∈ R, 0 ≤ r.days := fun r hr => (isRu_iff.1 (HOK.out r hr)).2.2.1.1
              have hdp : 0 ≤ dd := dueL_pos R (-1) (by omega) hdays h0 dd HE.out
              have HQ : Hid (n = dd ∧ b = true) := Lib.hid (by
                have := HRES.out
                rw [dueT_of HR1.out h0, HED.out, ← dueL_start h0 hdays, HE.out] at this
                obtain ⟨h1, h2⟩ := Prod.mk.inj this
                exact ⟨h1.symm, h2.symm⟩)
              have hdn : ¬ dd < 0 := by omega
              clear hjl hl0 h0 hdays
              go_wp2_with fail
              go_ret2
              exact ⟨by rw [HQ.out.1, HQ.out.2]; rfl, hbw⟩
end Go.Proofs.Ytedckfbjhhabgaa

namespace Go.Proofs.Ytedckfbjhhabgaa
set_option linter.unusedVariables false

def dedF (xs : List Int) : List Int := xs.foldl (fun o x => if x ∈ o then o else o ++ [x]) []
theorem dedF_snoc (xs : List Int) (x : Int) : dedF (xs ++ [x]) = if x ∈ dedF xs then dedF xs else dedF xs ++ [x] := by unfold dedF; rw [List.foldl_append]; rfl
theorem dedF_mem {x : Int} {xs : List Int} : x ∈ dedF xs ↔ x ∈ xs := by
  have key : ∀ (l : List Int) (o : List Int), x ∈ l.foldl (fun o x => if x ∈ o then o else o ++ [x]) o ↔ x ∈ o ∨ x ∈ l := by
    intro l
    induction l with
    | nil => intro o; simp
    | cons a l ih =>
      intro o
      rw [List.foldl_cons, ih]
      split
      · rename_i h
        constructor
        · rintro (q | q)
          · exact .inl q
          · exact .inr (by simp [q])
        · rintro (q | q)
          · exact .inl q
          · rcases List.mem_cons.1 q with rfl | q
            · exact .inl h
            · exact .inr q
      · simp only [List.mem_append, List.mem_cons, or_assoc]
        simp
  have := key xs []
  simpa [dedF] using this
theorem dedF_take {xs : List Int} {k : Nat} (hk : k < xs.length) : dedF (xs.take (k + 1)) = if xs.getD k 0 ∈ dedF (xs.take k) then dedF (xs.take k) else dedF (xs.take k) ++ [xs.getD k 0] := by
  have e : xs.take (k + 1) = xs.take k ++ [xs.getD k 0] := by
    rw [List.take_succ_eq_append_getElem hk]
    simp [List.getD, List.getElem?_eq_getElem hk]
  rw [e, dedF_snoc]
theorem pair_le {xs : List Int} (h : xs.Pairwise (· ≤ ·)) {i j : Nat} (hij : i ≤ j) (hj : j < xs.length) : xs.getD i 0 ≤ xs.getD j 0 := by
  have g : ∀ n (hn : n < xs.length), xs.getD n 0 = xs[n] := fun n hn => by simp [List.getD, List.getElem?_eq_getElem hn]
  rw [g i (by omega), g j hj]
  rcases Nat.lt_or_eq_of_le hij with h' | h'
  · exact List.pairwise_iff_getElem.1 h i j (by omega) hj h'
  · subst h'; exact Int.le_refl _
theorem compact_ded {xs : List Int} (h : xs.Pairwise (· ≤ ·)) : Lib.compact xs = dedF xs := by
  have hk : ∀ k, k ≤ xs.length → Lib.compactUpTo xs.toArray k = dedF (xs.take k) := by
    intro k
    induction k with
    | zero => intro _; simp [Lib.compactUpTo, dedF]
    | succ k ih =>
      intro hk
      have hlt : k < xs.length := by omega
      have g : ∀ j, j < xs.length → xs.toArray[j]! = xs.getD j 0 := fun j hj => by
        rw [getElem!_pos _ j (by simpa using hj)]; simp [List.getD, List.getElem?_eq_getElem hj]
      rw [Lib.compactUpTo_succ, ih (by omega), dedF_take hlt, g k hlt]
      by_cases hm : xs.getD k 0 ∈ dedF (xs.take k)
      · rw [if_pos hm]
        have hr := dedF_mem.1 hm
        rw [List.mem_take_iff_getElem] at hr
        obtain ⟨i, hi, e⟩ := hr
        have hil : i < xs.length := by omega
        have h1 := pair_le h (i := i) (j := k - 1) (by omega) (by omega)
        have h2 := pair_le h (i := k - 1) (j := k) (by omega) hlt
        have e2 : xs.getD i 0 = xs[i] := by simp [List.getD, List.getElem?_eq_getElem hil]
        rw [e2, e] at h1
        have hkn : Lib.keeps xs.toArray k = false := Lib.keeps_neg (by omega) (by rw [g k hlt, g (k - 1) (by omega)]; omega)
        rw [hkn]; simp
      · rw [if_neg hm]
        have hkn : Lib.keeps xs.toArray k = true := by
          rcases Nat.eq_zero_or_pos k with h0 | h0
          · subst h0; exact Lib.keeps_lt_one _ 0 (by omega)
          · refine Lib.keeps_pos ?_
            rw [g k hlt, g (k - 1) (by omega)]
            intro e
            refine hm (dedF_mem.2 ?_)
            rw [e, List.mem_take_iff_getElem]
            exact ⟨k - 1, by omega, by simp [List.getD, List.getElem?_eq_getElem (show k - 1 < xs.length by omega)]⟩
        rw [hkn]; simp
  have := hk xs.length (Nat.le_refl _)
  rw [List.take_length] at this
  unfold Lib.compact
  rw [← this]
theorem dedF_rising {xs : List Int} (h : xs.Pairwise (· ≤ ·)) : (dedF xs).Pairwise (· < ·) := by
  have hk : ∀ k, k ≤ xs.length → (dedF (xs.take k)).Pairwise (· < ·) := by
    intro k
    induction k with
    | zero => intro _; simp [dedF]
    | succ k ih =>
      intro hk
      have hlt : k < xs.length := by omega
      rw [dedF_take hlt]
      split
      · exact ih (by omega)
      · rename_i hm
        refine List.pairwise_append.2 ⟨ih (by omega), by simp, fun a ha b hb => ?_⟩
        rw [List.mem_singleton.1 hb]
        have ha2 := dedF_mem.1 ha
        rw [List.mem_take_iff_getElem] at ha2
        obtain ⟨i, hi, e⟩ := ha2
        have h1 := pair_le h (i := i) (j := k) (by omega) hlt
        have e2 : xs.getD i 0 = xs[i] := by simp [List.getD, List.getElem?_eq_getElem (show i < xs.length by omega)]
        have h3 : a ≠ xs.getD k 0 := fun q => hm (by rw [← q]; exact ha)
        omega
  have := hk xs.length (Nat.le_refl _)
  rwa [List.take_length] at this
def conOne (s : List Ru) (a : Ru) : List Int := (s.filter (conB a)).map (fun _ => a.series)
def conL (s l : List Ru) : List Int := l.flatMap (conOne s)
def conF (s : List Ru) : List Int := dedF (conL s s)
def conTRes (s : List Ru) : List Int × Bool := if isSch s = true then (conF s, true) else ([], false)
theorem conOne_mem {s : List Ru} {a : Ru} {x : Int} (h : x ∈ conOne s a) : x = a.series := by
  unfold conOne at h
  obtain ⟨_, _, rfl⟩ := List.mem_map.1 h
  rfl
theorem sch_ser_le {s : List Ru} (h : isSch s = true) : s.Pairwise (fun a b => a.series ≤ b.series) := by
  rw [List.pairwise_iff_getElem]
  intro i j hi hj hij
  have := sch_bef h hij hj
  rw [bef_iff, getRu_lt hi, getRu_lt hj] at this
  omega
theorem conL_le {s : List Ru} (h : isSch s = true) : (conL s s).Pairwise (· ≤ ·) := by
  have key : ∀ l : List Ru, l.Pairwise (fun a b => a.series ≤ b.series) → (conL s l).Pairwise (· ≤ ·) := by
    intro l
    induction l with
    | nil => intro _; simp [conL]
    | cons a l ih =>
      intro hl
      rw [List.pairwise_cons] at hl
      unfold conL
      rw [List.flatMap_cons]
      refine List.pairwise_append.2 ⟨?_, ih hl.2, fun x hx y hy => ?_⟩
      · unfold conOne
        rw [List.pairwise_map]
        exact List.pairwise_of_forall (fun _ _ => Int.le_refl _)
      · obtain ⟨b, hb, hyb⟩ := List.mem_flatMap.1 hy
        rw [conOne_mem hx, conOne_mem hyb]
        exact hl.1 b hb
  exact key s (sch_ser_le h)
theorem con_compact {s : List Ru} (h : isSch s = true) : Lib.compact (conL s s) = conF s := compact_ded (conL_le h)
def conAt (s : List Ru) (i k : Nat) : List Int := conL s (s.take i) ++ ((s.take k).filter (conB (s.getD i ruD))).map (fun _ => (s.getD i ruD).series)
theorem conAt_zero (s : List Ru) : conAt s 0 0 = [] := by simp [conAt, conL]
theorem conAt_len (s : List Ru) (i k : Nat) (hi : i ≤ s.length) (hk : k ≤ s.length) : (conAt s i k).length ≤ s.length * s.length + s.length := by
  unfold conAt
  rw [List.length_append, List.length_map]
  have h1 : (conL s (s.take i)).length ≤ i * s.length := by
    have key : ∀ l : List Ru, (conL s l).length ≤ l.length * s.length := by
      intro l
      induction l with
      | nil => simp [conL]
      | cons a l ih =>
        have h2 : (conOne s a).length ≤ s.length := by unfold conOne; rw [List.length_map]; exact List.length_filter_le _ _
        have h3 : (conL s (a :: l)).length = (conOne s a).length + (conL s l).length := by simp [conL]
        rw [h3, List.length_cons, Nat.add_mul]
        omega
    have := key (s.take i)
    rw [List.length_take, Nat.min_eq_left hi] at this
    exact this
  have h2 : i * s.length ≤ s.length * s.length := Nat.mul_le_mul_right _ hi
  have h3 := List.length_filter_le (conB (s.getD i ruD)) (s.take k)
  rw [List.length_take] at h3
  omega
theorem conAt_next (s : List Ru) (i : Nat) (hi : i < s.length) : conAt s i s.length = conAt s (i + 1) 0 := by
  unfold conAt conL
  rw [List.take_length, List.take_succ_eq_append_getElem hi, List.flatMap_append, getRu_lt hi]
  simp [conOne]
theorem conAt_all (s : List Ru) : conAt s s.length 0 = conL s s := by simp [conAt, List.take_length]
theorem conAt_step (s : List Ru) (i k : Nat) (hk : k < s.length) : conAt s i (k + 1) = if conB (s.getD i ruD) (s.getD k ruD) = true then conAt s i k ++ [(s.getD i ruD).series] else conAt s i k := by
  unfold conAt
  rw [List.take_succ_eq_append_getElem hk, List.filter_append, ← getRu_lt hk]
  by_cases h : conB (s.getD i ruD) (s.getD k ruD) = true
  · rw [if_pos h, List.filter_cons_of_pos h, List.filter_nil, List.map_append, List.append_assoc]; rfl
  · rw [if_neg h, List.filter_cons_of_neg h, List.filter_nil, List.append_nil]
def nevB (s : List Ru) (r : Ru) : Bool := decide (r.event = 0) && decide (r.days < (lonRes s r.series).1)
def nevF (s : List Ru) : List (Int × Int) := (s.filter (nevB s)).map (fun r => (r.series, r.event))
def nevRes (s : List Ru) : List (Int × Int) × Bool := if isSch s = true then (nevF s, true) else ([], false)
def unxL (t : List Tg) (s : List Ru) : List Int := (s.filter (fun r => decide (dayX t r.event < 0))).map (·.event)
theorem unx_compact {t : List Tg} {s : List Ru} (hs : isSch s = true) {ys : List Int} (hp : ys.Perm (unxL t s)) (hr : ys.Pairwise (· ≤ ·)) : Lib.compact ys = unxF t s := by
  rw [compact_ded hr]
  refine rising_eqT _ _ (dedF_rising hr) ?_ fun x => ?_
  · refine List.Pairwise.filter _ ?_
    decide
  · rw [dedF_mem, hp.mem_iff]
    unfold unxL unxF
    rw [List.mem_map, List.mem_filter, Bool.and_eq_true, decide_eq_true_eq, List.any_eq_true]
    constructor
    · rintro ⟨r, hr, rfl⟩
      obtain ⟨h1, h2⟩ := List.mem_filter.1 hr
      have h2' : dayX t r.event < 0 := by simpa using h2
      have h3 := (isRu_iff.1 (sch_mem hs _ h1)).2.1
      have h4 : r.event ≠ 0 := fun e => by rw [e, dayX_zero] at h2'; omega
      refine ⟨?_, h2', r, h1, by simp⟩
      simp
      omega
    · rintro ⟨_, h2, r, hr, h3⟩
      have h3' : r.event = x := by simpa using h3
      exact ⟨r, List.mem_filter.2 ⟨hr, by rw [h3']; simpa using h2⟩, h3'⟩
end Go.Proofs.Ytedckfbjhhabgaa

namespace Go.Proofs.Ytedckfbjhhabgaa
set_option linter.unusedVariables false
open Go.RowKit Go.Sort

theorem cell1_new (w : World) (v : Value) (t : TypeId) {k : Nat} (hk : k = w.heap.size) : ∀ j u, [v][j]? = some u → (w.alloc (.cells #[v] t (0, 0))).cell? ((⟨k, 0, none⟩ : Addr).add j) = some u := by
  subst hk
  intro j u hj
  rw [Addr.add_lit]
  match j, hj with
  | 0, h => cases h; exact cell_new w _ _ 0 rfl
theorem serF_iff {t : List Ru} {x : Int} : x ∈ serF t ↔ ∃ r ∈ t, r.series = x := by
  refine ⟨serF_mem, ?_⟩
  have key : ∀ (t : List Ru) (o : List Int), (x ∈ o ∨ ∃ r ∈ t, r.series = x) → x ∈ (t.foldl (fun o r => if r.series ∈ o then o else o ++ [r.series]) o) := by
    intro t
    induction t with
    | nil => intro o h; simpa using h
    | cons r l ih =>
      intro o h
      rw [List.foldl_cons]
      refine ih _ ?_
      rcases h with h | ⟨q, hq, e⟩
      · left; split
        · exact h
        · exact List.mem_append_left _ h
      · rcases List.mem_cons.1 hq with h1 | h1
        · subst h1; left; split
          · rename_i hm; rw [← e]; exact hm
          · rw [← e]; simp
        · exact .inr ⟨q, h1, e⟩
  intro h
  exact key t [] (.inr h)
theorem ser_le {t : List Ru} (h : isSch t = true) {i j : Nat} (hij : i ≤ j) (hj : j < t.length) : (t.getD i ruD).series ≤ (t.getD j ruD).series := by
  rcases Nat.lt_or_eq_of_le hij with h' | h'
  · have := sch_bef h h' hj
    rw [bef_iff] at this
    omega
  · subst h'; exact Int.le_refl _
theorem ser_compact {t : List Ru} (h : isSch t = true) : Lib.compact (t.map (·.series)) = serF t := by
  have hk : ∀ k, k ≤ t.length → Lib.compactUpTo (t.map (·.series)).toArray k = serF (t.take k) := by
    intro k
    induction k with
    | zero => intro _; simp [Lib.compactUpTo, serF]
    | succ k ih =>
      intro hk
      have hlt : k < t.length := by omega
      have g : ∀ j, j < t.length → (t.map (·.series)).toArray[j]! = (t.getD j ruD).series := fun j hj => by
        rw [getElem!_pos _ j (by simpa using hj), getRu_lt hj]; simp
      rw [Lib.compactUpTo_succ, ih (by omega), serF_succ hlt, g k hlt]
      by_cases hm : (t.getD k ruD).series ∈ serF (t.take k)
      · rw [if_pos hm]
        obtain ⟨r, hr, e⟩ := serF_iff.1 hm
        rw [List.mem_take_iff_getElem] at hr
        obtain ⟨i, hi, rfl⟩ := hr
        have h1 := ser_le h (i := i) (j := k - 1) (by omega) (by omega)
        have h2 := ser_le h (i := k - 1) (j := k) (by omega) hlt
        rw [getRu_lt (show i < t.length by omega)] at h1
        have hkn : Lib.keeps (t.map (·.series)).toArray k = false := Lib.keeps_neg (by omega) (by rw [g k hlt, g (k - 1) (by omega)]; omega)
        rw [hkn]; simp
      · rw [if_neg hm]
        have hkn : Lib.keeps (t.map (·.series)).toArray k = true := by
          rcases Nat.eq_zero_or_pos k with h0 | h0
          · subst h0; exact Lib.keeps_lt_one _ 0 (by omega)
          · refine Lib.keeps_pos ?_
            rw [g k hlt, g (k - 1) (by omega)]
            intro e
            refine hm (serF_iff.2 ⟨t.getD (k - 1) ruD, ?_, e.symm⟩)
            rw [getRu_lt (by omega), List.mem_take_iff_getElem]
            exact ⟨k - 1, by omega, rfl⟩
        rw [hkn]; simp
  have := hk t.length (Nat.le_refl _)
  rw [List.take_length] at this
  unfold Lib.compact
  rw [← this]; simp
theorem sinRes_no {t : List Ru} {xs : List Int} {b : Bool} (h : sinRes t = (xs, b)) (hn : isSch t = false) : xs = [] ∧ b = false := by
  unfold sinRes at h
  rw [if_neg (by rw [hn]; simp)] at h
  obtain ⟨h1, h2⟩ := Prod.mk.inj h
  exact ⟨h1.symm, h2.symm⟩
theorem sinRes_yes {t : List Ru} {xs : List Int} {b : Bool} (h : sinRes t = (xs, b)) (hn : isSch t = true) : xs = serF t ∧ b = true := by
  unfold sinRes at h
  rw [if_pos hn] at h
  obtain ⟨h1, h2⟩ := Prod.mk.inj h
  exact ⟨h1.symm, h2.symm⟩
theorem IntsO.of_row {lo n : Nat} {w : World} {v : Value} {xs : List Int} (h : w.ownsRow lo 3 1 v n (xs.map vI)) (hn : n = xs.length) : IntsO lo w.heap.size w v xs := ⟨by rw [← hn]; exact h, fun g hg => (h.lt g hg).2⟩


set_option maxRecDepth 20000 in
set_option maxHeartbeats 2000000 in
theorem implSeriesIn_any (v : Value) (t : List Ru) (w : World) (h : RowR 4 rRu w v t) (hn : t.length ≤ 1048576) (xs : List Int) (b : Bool) (hres : sinRes t = (xs, b)) :
    Calls Try.prog 58 #[v] w fun e w' => ∃ v', e = .returned (.tuple #[v', .bool b]) ∧ IntsO w.heap.size w'.heap.size w' v' xs ∧ Below w.heap.size w w' := by
  obtain ⟨i0, hi, hz0, hz1, hz2⟩ := info_parts Try.info_int
  have H := Lib.hid h
  have HRES := Lib.hid hres
  obtain ⟨bs, hs⟩ : ∃ b, isSch t = b := ⟨_, rfl⟩
  have HS := Lib.hid hs
  obtain ⟨a1, c1, hv, hl1, hm1, r1⟩ := h.rus
  subst hv
  have R1 := Lib.hid r1
  unfold maxLen at hm1
  clear h hres hs r1
  cases bs
  · obtain ⟨rfl, rfl⟩ := sinRes_no HRES.out HS.out
    go_enter Try.func58, Try.ntmps58
    go_wp2_with (first | (go_at_call 63; refine (implIsSchedule_any _ t _ H.out).mono ?_; rw [HS.out]; rintro e w1 ⟨rfl, b1⟩))
    go_ret2
    exact ⟨_, rfl, ⟨(Own.nil w.heap.size 3 1 w1).1, Under.nil _ _ _⟩, b1⟩
  · obtain ⟨rfl, rfl⟩ := sinRes_yes HRES.out HS.out
    have HC := Lib.hid (ser_compact HS.out)
    go_enter Try.func58, Try.ntmps58
    go_wp2_with (first | (go_at_call 63; refine (implIsSchedule_any _ t _ H.out).mono ?_; rw [HS.out]; rintro e w1 ⟨rfl, b1⟩))
    go_loopw [4, 12] (fun o i wr => ∃ k : Nat, k ≤ t.length ∧ i = .int .i64 k ∧ wr.ownsRow w.heap.size 3 1 o k (((t.take k).map (·.series)).map vI) ∧ Below w.heap.size w wr) (fun _ i _ => t.length - (intOf i).toNat)
    case atStart => exact ⟨0, Nat.zero_le _, rfl, (Own.nil w.heap.size 3 1 _).1, b1⟩
    case round =>
      clear b1
      obtain ⟨k, hk, rfl, hO, hb⟩ := hrel
      by_cases hlt : k < t.length
      · obtain ⟨b1, o1, hb1, rfl, e1⟩ := R1.out.resolve_left (fun e => by rw [e] at hlt; simp at hlt)
        obtain ⟨q0, q1, q2, q3, hok⟩ := e1 k hlt
        have hsucc : t.take (k + 1) = t.take k ++ [t.getD k ruD] := by rw [List.take_add_one, List.getElem?_eq_getElem hlt, getRu_lt hlt]; rfl
        obtain ⟨⟨x0, x1, x2, x3⟩, hx⟩ : ∃ s, t.getD k ruD = s := ⟨_, rfl⟩
        rw [hx] at q0 q1 q2 q3 hsucc
        simp only at q0 q1 q2 q3
        have f0 := cell_kept q0 hb
        have f1 := cell_kept q1 hb
        have f2 := cell_kept q2 hb
        have f3 := cell_kept q3 hb
        have HSU := Lib.hid hsucc
        have g0 : (0 : Int) ≤ (k : Int) := by omega
        have g1 : (k : Int) < (t.length : Int) := by omega
        have hsz := hb.size
        have hb2 := below_al hb (.cells #[.int .i64 x0, .int .i64 x1, .int .i64 x2, .int .i64 x3] 73 (0, 0))
        have hO2 := hO.alloc (.cells #[.int .i64 x0, .int .i64 x1, .int .i64 x2, .int .i64 x3] 73 (0, 0))
        clear q0 q1 q2 q3 hok e1 hx hsucc hO
        go_wp2_with (first | (at_builtin; refine wpList_append_own _ rfl _ _ 30 rfl w.heap.size 3 i0 (.int .i64 0) 1 8 Try.underlying30 hi hz0 hz1 hz2 rfl (by decide) _ _ _ rfl (hO2.alloc _) ⟨wr.heap.size + 1, 0, none⟩ 1 1 [.int .i64 x0] rfl rfl (cell1_new _ _ _ (by simp)) (by simp [Value.oneCell']) (by unfold maxLen; omega) (by omega) (by simp; omega) ?_; intro v' w4 hown' hgrow _))
        have HOWN := Lib.hid hown'
        have HB := Lib.hid (below_app hb2 (Nat.le_refl _) hO2 hgrow)
        clear hown' hgrow hO2
        go_wp2_with fail
        go_roundw
        case rel => exact ⟨k + 1, by omega, by go_num, (by rw [HSU.out]; simpa [vI] using HOWN.out), HB.out⟩
        case measure => simp [intOf]; omega
      · obtain rfl : k = t.length := by omega
        rw [List.take_length] at hO
        rcases Nat.eq_zero_or_pos t.length with h0 | h0
        · obtain rfl := List.length_eq_zero_iff.1 h0
          have hO2 := hO
          rcases hO.2 with ⟨e, _⟩ | ⟨g, cap, cur, e, hg, hh, hnc, hm, hs, ht⟩
          · subst e
            clear hO
            have HO := Lib.hid hO2
            clear hO2
            go_wp2_with (first | (go_at_call 65; refine (Try.slices_Compact_int_empty none 0 _).mono ?_; rintro e w5 ⟨rfl, rfl⟩))
            go_ret2
            exact ⟨_, rfl, IntsO.of_row (xs := []) (by simpa using HO.out) rfl, hb⟩
          · subst e
            clear hO hg hh hnc hm hs ht
            have HO := Lib.hid hO2
            clear hO2
            go_wp2_with (first | (go_at_call 65; refine (Try.slices_Compact_int_empty _ cap _).mono ?_; rintro e w5 ⟨rfl, rfl⟩))
            go_ret2
            exact ⟨_, rfl, IntsO.of_row (xs := []) (by simpa using HO.out) rfl, hb⟩
        · obtain ⟨g, cap, rfl, hbg, hgl, hnc, hcm, hlen, hH⟩ := Lib.holds_of_ownsRow hO (by rintro rfl; rcases hO.2 with ⟨_, e⟩ | ⟨_, _, _, e, _⟩; (· omega); cases e)
          have hcp := Try.slices_Compact_int g 0 cap (t.map (fun r : Ru => r.series)) wr hH (by rw [hlen]; unfold maxLen at hcm; omega) (by rw [hlen]; exact hnc)
          rw [HC.out, hlen] at hcp
          have HO := Lib.hid hO
          have HG := Lib.hid hbg
          have hsl := serF_len t
          have HL := Lib.hid hlen
          have HCP := Lib.hid hcp
          clear hO hH hcp hbg hlen h0
          go_wp2_with (first | (go_at_call 65; refine HCP.out.mono ?_; rintro e w5 ⟨rfl, q, rfl⟩))
          go_ret2
          have h1 := Lib.ownsRow_putRow (q := q) (k := (serF t).length) (ys := serF t ++ List.replicate (t.length - (serF t).length) 0) HO.out (by simp; omega) hsl
          rw [List.take_left' rfl] at h1
          exact ⟨_, rfl, IntsO.of_row h1 rfl, Lib.below_putRow hb HG.out⟩
end Go.Proofs.Ytedckfbjhhabgaa

namespace Go.Proofs.Ytedckfbjhhabgaa
set_option linter.unusedVariables false
open Go.RowKit Go.Sort

theorem dedF_len (xs : List Int) : (dedF xs).length ≤ xs.length := by
  have hk : ∀ k, k ≤ xs.length → (dedF (xs.take k)).length ≤ k := by
    intro k
    induction k with
    | zero => intro _; simp [dedF]
    | succ k ih =>
      intro hk
      rw [dedF_take (by omega)]
      have := ih (by omega)
      split
      · omega
      · rw [List.length_append, List.length_singleton]; omega
  have := hk xs.length (Nat.le_refl _)
  rwa [List.take_length] at this
set_option maxHeartbeats 2000000 in
theorem compactO_any (lo : Nat) (v : Value) (xs ys : List Int) (w : World) (hO : w.ownsRow lo 3 1 v xs.length (xs.map vI)) (hlo : lo ≤ w.heap.size) (hn : xs.length ≤ 1048576) (hc : Lib.compact xs = ys) (hl : ys.length ≤ xs.length) :
    Calls Try.prog 65 #[v] w fun e w' => ∃ v', e = .returned v' ∧ IntsO lo w'.heap.size w' v' ys ∧ Below lo w w' := by
  have b0 : Below lo w w := (Below.refl w.heap.size w).mono hlo
  rcases Nat.eq_zero_or_pos xs.length with h0 | h0
  · obtain rfl := List.length_eq_zero_iff.1 h0
    obtain rfl : ys = [] := List.length_eq_zero_iff.1 (by simpa using hl)
    rcases hO.2 with ⟨e, _⟩ | ⟨g, cap, cur, e, hg, hh, hnc, hm, hs, ht⟩
    · subst e
      refine (Try.slices_Compact_int_empty none 0 _).mono ?_
      rintro e w5 ⟨rfl, rfl⟩
      exact ⟨_, rfl, IntsO.of_row (xs := []) (by simpa using hO) rfl, b0⟩
    · subst e
      refine (Try.slices_Compact_int_empty _ cap _).mono ?_
      rintro e w5 ⟨rfl, rfl⟩
      exact ⟨_, rfl, IntsO.of_row (xs := []) (by simpa using hO) rfl, b0⟩
  · obtain ⟨g, cap, rfl, hbg, hgl, hnc, hcm, hlen, hH⟩ := Lib.holds_of_ownsRow hO (by rintro rfl; rcases hO.2 with ⟨_, e⟩ | ⟨_, _, _, e, _⟩; (· omega); cases e)
    have hcp := Try.slices_Compact_int g 0 cap xs w hH (by unfold maxLen at hcm; omega) hnc
    rw [hc] at hcp
    refine hcp.mono ?_
    rintro e w5 ⟨rfl, q, rfl⟩
    have h1 := Lib.ownsRow_putRow (q := q) (k := ys.length) (ys := ys ++ List.replicate (xs.length - ys.length) 0) hO (by simp; omega) hl
    rw [List.take_left' rfl] at h1
    exact ⟨_, rfl, IntsO.of_row h1 rfl, Lib.below_putRow b0 hbg⟩
end Go.Proofs.Ytedckfbjhhabgaa

namespace Go.Proofs.Ytedckfbjhhabgaa
set_option linter.unusedVariables false
open Go.RowKit Go.Sort Go.Maps

theorem below_growT (w : World) (os : Array Obj) : Below w.heap.size w (grow w os) := ⟨rfl, rfl, rfl, by simp [grow], fun k hk => by simp [grow, Array.getElem?_append_left hk]⟩
set_option maxHeartbeats 2000000 in
theorem sortO_any (lo : Nat) (v : Value) (xs : List Int) (w : World) (hO : w.ownsRow lo 3 1 v xs.length (xs.map vI)) (hlo : lo ≤ w.heap.size) (hn : xs.length ≤ 1048576) :
    Calls Try.prog 78 #[v] w fun e w' => e = .returned (.tuple #[]) ∧ w'.ownsRow lo 3 1 v xs.length ((xs.mergeSort fun x y => decide (x ≤ y)).map vI) ∧ Below lo w w' := by
  have b0 : Below lo w w := (Below.refl w.heap.size w).mono hlo
  rcases Nat.eq_zero_or_pos xs.length with h0 | h0
  · obtain rfl := List.length_eq_zero_iff.1 h0
    obtain ⟨a, c, rfl, _, _⟩ := own_shape hO
    refine (Try.slices_Sort_int_none a c _).mono ?_
    rintro e w5 ⟨rfl, rfl⟩
    exact ⟨rfl, by simpa using hO, b0⟩
  · obtain ⟨g, cap, rfl, hbg, hgl, hnc, hcm, hlen, hH⟩ := Lib.holds_of_ownsRow hO (by rintro rfl; rcases hO.2 with ⟨_, e⟩ | ⟨_, _, _, e, _⟩; (· omega); cases e)
    refine (Try.slices_Sort_int g 0 cap xs w hH hgl (by omega)).mono ?_
    rintro e w5 ⟨rfl, q, os, rfl⟩
    have h1 := Lib.ownsRow_putRow (q := q) (k := xs.length) (ys := xs.mergeSort fun x y => decide (x ≤ y)) hO (by simp) (Nat.le_refl _)
    rw [List.take_of_length_le (by simp)] at h1
    have hb := below_growT (putRow (Value.int .i64) (Sort.ahead w q) g 0 (xs.mergeSort fun x y => decide (x ≤ y)).toArray) os
    have hbl : Below lo w (putRow (Value.int .i64) (Sort.ahead w q) g 0 (xs.mergeSort fun x y => decide (x ≤ y)).toArray) := Lib.below_putRow b0 hbg
    exact ⟨rfl, ownsRow_below h1 hb, hbl.trans (hb.mono (Nat.le_trans hlo hbl.size))⟩
def unxB (t : List Tg) (r : Ru) : Bool := decide (dayX t r.event < 0)
def unxT (t : List Tg) (s : List Ru) (k : Nat) : List Int := ((s.take k).filter (unxB t)).map (·.event)
theorem unxT_all (t : List Tg) (s : List Ru) : unxT t s s.length = unxL t s := by unfold unxT unxL unxB; rw [List.take_length]
theorem unxT_len (t : List Tg) (s : List Ru) (k : Nat) : (unxT t s k).length ≤ k := by
  unfold unxT
  rw [List.length_map]
  have := List.length_filter_le (unxB t) (s.take k)
  rw [List.length_take] at this
  omega
theorem unxT_succ {t : List Tg} {s : List Ru} {k : Nat} (hk : k < s.length) : unxT t s (k + 1) = if dayX t (s.getD k ruD).event < 0 then unxT t s k ++ [(s.getD k ruD).event] else unxT t s k := by
  unfold unxT
  rw [List.take_succ_eq_append_getElem hk, List.filter_append, ← getRu_lt hk]
  by_cases h : dayX t (s.getD k ruD).event < 0
  · have hn : unxB t (s.getD k ruD) = true := decide_eq_true h
    rw [if_pos h, List.filter_cons_of_pos hn, List.filter_nil, List.map_append]; rfl
  · have hn : ¬ unxB t (s.getD k ruD) = true := by unfold unxB; rw [decide_eq_true_eq]; exact h
    rw [if_neg h, List.filter_cons_of_neg hn, List.filter_nil, List.append_nil]
theorem unx_sort {t : List Tg} {s : List Ru} (hs : isSch s = true) : Lib.compact ((unxL t s).mergeSort fun x y => decide (x ≤ y)) = unxF t s ∧ (unxF t s).length ≤ ((unxL t s).mergeSort fun x y => decide (x ≤ y)).length := by
  have hle := List.pairwise_mergeSort (le := fun x y : Int => decide (x ≤ y)) (fun a b c h1 h2 => by simp at *; omega) (fun a b => by simp; omega) (unxL t s)
  have hle2 : ((unxL t s).mergeSort fun x y => decide (x ≤ y)).Pairwise (· ≤ ·) := hle.imp (fun h => by simpa using h)
  have h1 := unx_compact hs (List.mergeSort_perm _ _) hle2
  exact ⟨h1, by rw [← h1, compact_ded hle2]; exact dedF_len _⟩
theorem unxRes_len {t : List Tg} {s : List Ru} {xs : List Int} {b : Bool} (h : unxRes t s = (xs, b)) : xs.length ≤ 9 := by
  unfold unxRes at h
  split at h <;> obtain ⟨rfl, _⟩ := Prod.mk.inj h
  · unfold unxF
    exact Nat.le_trans (List.length_filter_le _ _) (by simp)
  · exact Nat.zero_le _
set_option maxRecDepth 20000 in
set_option maxHeartbeats 8000000 in
theorem implUnx_any (v v1 : Value) (t : List Tg) (s : List Ru) (w : World) (h : RowR 3 rTg w v t) (h1 : RowR 4 rRu w v1 s) (hn : s.length ≤ 1048576) (xs : List Int) (b : Bool) (hres : unxRes t s = (xs, b)) :
    Calls Try.prog 45 #[v, v1] w fun e w' => ∃ v', e = .returned (.tuple #[v', .bool b]) ∧ IntsO w.heap.size w'.heap.size w' v' xs ∧ Below w.heap.size w w' := by
  obtain ⟨i0, hi, hz0, hz1, hz2⟩ := info_parts Try.info_intN
  have H := Lib.hid h
  have H1 := Lib.hid h1
  obtain ⟨a1, c1, hv, hl1, hm1, r1⟩ := h1.rus
  subst hv
  have R1 := Lib.hid r1
  unfold maxLen at hm1
  obtain ⟨bs, hbs⟩ : ∃ b, isSch s = b := ⟨_, rfl⟩
  have HBS := Lib.hid hbs
  have HRES := Lib.hid hres
  clear h h1 r1 hres hbs
  go_enter Try.func45, Try.ntmps45
  go_wp2_with fail
  refine (expectedDays_any _ t _ H.out).mono ?_
  rintro e w2 ⟨b2, hd⟩
  have hs2 := b2.size
  rcases hd with ⟨hf, rfl⟩ | ⟨hf, mb, nn, D, rfl, hm, hd⟩
  · have HQ : Hid (xs = [] ∧ b = false) := Lib.hid (by have := HRES.out; unfold unxRes at this; rw [if_neg (fun q => by rw [hf] at q; cases q.1)] at this; obtain ⟨h1, h2⟩ := Prod.mk.inj this; exact ⟨h1.symm, h2.symm⟩)
    clear hf
    go_wp2_with fail
    go_ret2
    exact ⟨_, by rw [HQ.out.2]; rfl, by rw [HQ.out.1]; exact ⟨World.ownsRow_nil _ _ _ _, Under.nil _ _ _⟩, b2⟩
  · have HF := Lib.hid hf
    have HLK : Hid (∀ W, Below w2.heap.size w2 W → LookD W (.map (some mb)) t) := Lib.hid (fun W hW => look_ownD hf (hm.kept (grownBy_of_below hW none) (by simp)) hd)
    clear hf hm hd
    cases bs
    · have HQ : Hid (xs = [] ∧ b = false) := Lib.hid (by have := HRES.out; unfold unxRes at this; rw [if_neg (fun q => by rw [HBS.out] at q; cases q.2)] at this; obtain ⟨h1, h2⟩ := Prod.mk.inj this; exact ⟨h1.symm, h2.symm⟩)
      go_wp2_with fail
      refine (implIsSchedule_any _ s _ (H1.out.below rRu_stable b2)).mono ?_
      rw [HBS.out]
      rintro e w3 ⟨rfl, b3⟩
      go_wp2_with fail
      go_ret2
      exact ⟨_, by rw [HQ.out.2]; rfl, by rw [HQ.out.1]; exact ⟨World.ownsRow_nil _ _ _ _, Under.nil _ _ _⟩, b2.trans (b3.mono hs2)⟩
    · have HQ : Hid (xs = unxF t s ∧ b = true) := Lib.hid (by have := HRES.out; unfold unxRes at this; rw [if_pos ⟨HF.out, HBS.out⟩] at this; obtain ⟨h1, h2⟩ := Prod.mk.inj this; exact ⟨h1.symm, h2.symm⟩)
      have h8 := sch_len HBS.out
      go_wp2_with fail
      refine (implIsSchedule_any _ s _ (H1.out.below rRu_stable b2)).mono ?_
      rw [HBS.out]
      rintro e w3 ⟨rfl, b3⟩
      have hs3 := b3.size
      have b23 := b2.trans (b3.mono hs2)
      go_wp2_with fail
      go_loopw [8, 27] (fun o i wr => ∃ k : Nat, k ≤ s.length ∧ i = .int .i64 k ∧ wr.ownsRow w3.heap.size 3 1 o (unxT t s k).length ((unxT t s k).map vI) ∧ Below w3.heap.size w3 wr) (fun _ i _ => s.length - (intOf i).toNat)
      case atStart => exact ⟨0, Nat.zero_le _, rfl, (by simpa [unxT] using World.ownsRow_nil w3 w3.heap.size 3 1), Below.refl _ _⟩
      case round =>
        obtain ⟨k, hk, rfl, hO, hb⟩ := hrel
        have hsz := hb.size
        have hbw := b23.trans (hb.mono (by omega))
        by_cases hlt : k < s.length
        · obtain ⟨bb, o1, hbb, rfl, e1⟩ := R1.out.resolve_left (fun e => by rw [e] at hlt; simp at hlt)
          obtain ⟨⟨x0, x1, x2, x3⟩, hx⟩ : ∃ x, s.getD k ruD = x := ⟨_, rfl⟩
          obtain ⟨q0, q1, q2, q3, _⟩ := e1 k hlt
          rw [hx] at q0 q1 q2 q3
          simp only at q0 q1 q2 q3
          have f0 := cell_kept q0 hbw
          have f1 := cell_kept q1 hbw
          have f2 := cell_kept q2 hbw
          have f3 := cell_kept q3 hbw
          have hru := isRu_iff.1 (sch_mem HBS.out ⟨x0, x1, x2, x3⟩ (by rw [← hx, getRu_lt hlt]; exact List.getElem_mem hlt))
          simp only at hru
          have hx1 := hru.2.1
          have hst := unxT_succ (t := t) hlt
          rw [hx] at hst
          simp only at hst
          obtain ⟨P, hP⟩ : ∃ P, unxT t s k = P := ⟨_, rfl⟩
          have hPl : P.length ≤ k := by rw [← hP]; exact unxT_len t s k
          rw [hP] at hO hst
          have HST0 := Lib.hid hst
          have hba := below_al hb (.cells #[.int .i64 x0, .int .i64 x1, .int .i64 x2, .int .i64 x3] 73 (0, 0))
          have hlk := HLK.out (wr.alloc (.cells #[.int .i64 x0, .int .i64 x1, .int .i64 x2, .int .i64 x3] 73 (0, 0))) (b3.trans (hba.mono hs3)) x1 (by simp [inI]; omega)
          have hOA := hO.alloc (.cells #[.int .i64 x0, .int .i64 x1, .int .i64 x2, .int .i64 x3] 73 (0, 0))
          have g0 : (0 : Int) ≤ (k : Int) := by omega
          have g1 : (k : Int) < (s.length : Int) := by omega
          obtain ⟨d1, hd⟩ : ∃ d, edayX t x1 = d := ⟨_, rfl⟩
          have hdx : dayX t x1 = d1 := by rw [← hd]; unfold edayX; rw [if_pos HF.out]
          unfold edRes at hlk
          rw [hd] at hlk
          rw [hdx] at HST0
          clear q0 q1 q2 q3 e1 hx hst hP hd hdx hO hru
          by_cases hneg : d1 < 0
          · rw [if_pos hneg] at hlk
            have HST := Lib.hid (HST0.out.trans (if_pos hneg))
            clear hneg
            go_wp2_with (first | (at_builtin; refine wpList_append_own _ rfl _ _ 30 rfl w3.heap.size 3 i0 (.int .i64 0) 1 8 Try.underlying30 hi hz0 hz1 hz2 rfl (by decide) _ _ _ rfl (hOA.alloc _) ⟨wr.heap.size + 1, 0, none⟩ 1 1 [.int .i64 x1] rfl rfl (cell_oneN _ _ _ (by simp)) (by simp [Value.oneCell']) (by unfold maxLen; omega) (by omega) (by simp; omega) ?_; intro v' w9 hown' hgrow _))
            have HOWN := Lib.hid hown'
            have HB2 := Lib.hid (below_app hba (Nat.le_refl _) hOA hgrow)
            clear hown' hgrow hOA
            go_wp2_with fail
            go_roundw
            case rel => exact ⟨k + 1, by omega, by go_num, (by rw [HST.out]; simpa [vI] using HOWN.out), HB2.out⟩
            case measure => simp [intOf]; omega
          · rw [if_neg hneg] at hlk
            have HST := Lib.hid (HST0.out.trans (if_neg hneg))
            have HO2 := Lib.hid hOA
            clear hneg hOA
            go_wp2_with fail
            go_roundw
            case rel => exact ⟨k + 1, by omega, by go_num, (by rw [HST.out]; exact HO2.out), hba⟩
            case measure => simp [intOf]; omega
        · obtain rfl : k = s.length := by omega
          rw [unxT_all] at hO
          have hul : (unxL t s).length ≤ 8 := by rw [← unxT_all]; exact Nat.le_trans (unxT_len _ _ _) h8
          obtain ⟨hc1, hc2⟩ := unx_sort (t := t) HBS.out
          have HS5 := Lib.hid (sortO_any w3.heap.size _ (unxL t s) wr hO hsz (by omega))
          have HCC : Hid (∀ (v : Value) (W : World), W.ownsRow w3.heap.size 3 1 v (unxL t s).length (((unxL t s).mergeSort fun x y => decide (x ≤ y)).map vI) → w3.heap.size ≤ W.heap.size → Calls Try.prog 65 #[v] W fun e w' => ∃ v', e = .returned v' ∧ IntsO w3.heap.size w'.heap.size w' v' (unxF t s) ∧ Below w3.heap.size W w') := Lib.hid (fun v W hW hl => compactO_any w3.heap.size v _ (unxF t s) W (by rw [List.length_mergeSort]; exact hW) hl (by rw [List.length_mergeSort]; omega) hc1 hc2)
          clear hO hc1 hc2 hul
          go_wp2_with fail
          refine HS5.out.mono ?_
          rintro e w5 ⟨rfl, ho5, b5⟩
          have HO5 := Lib.hid ho5
          clear ho5
          go_wp2_with fail
          refine (HCC.out _ _ HO5.out (Nat.le_trans hsz b5.size)).mono ?_
          rintro e w6 ⟨v6, rfl, ho6, b6⟩
          have HO6 := Lib.hid (ho6.wide (lo' := w.heap.size) (by omega) (Nat.le_refl _))
          obtain ⟨ga, gn, gc, rfl⟩ := ho6.slice
          clear ho6
          go_wp2_with fail
          go_ret2
          exact ⟨_, by rw [HQ.out.2]; rfl, by rw [HQ.out.1]; exact HO6.out, b23.trans (((hb.trans b5).trans b6).mono (by omega))⟩
def unxP (t : List Tg) (s : List Ru) (e : Int) : Bool := decide (dayX t e < 0) && s.any (fun r => decide (r.event = e))
def unxK (t : List Tg) (s : List Ru) (k : Nat) : List Int := ((List.range k).map (fun i : Nat => ((i + 1 : Nat) : Int))).filter (unxP t s)
theorem unxK_nine (t : List Tg) (s : List Ru) : unxK t s 9 = unxF t s := rfl
theorem unxK_len (t : List Tg) (s : List Ru) (k : Nat) : (unxK t s k).length ≤ k := by
  unfold unxK
  exact Nat.le_trans (List.length_filter_le _ _) (by simp)
theorem unxK_succ (t : List Tg) (s : List Ru) (k : Nat) : unxK t s (k + 1) = if unxP t s ((k + 1 : Nat) : Int) = true then unxK t s k ++ [((k + 1 : Nat) : Int)] else unxK t s k := by
  unfold unxK
  rw [List.range_succ, List.map_append, List.filter_append]
  by_cases h : unxP t s ((k + 1 : Nat) : Int) = true
  · rw [if_pos h, List.map_cons, List.map_nil, List.filter_cons_of_pos h, List.filter_nil]
  · rw [if_neg h, List.map_cons, List.map_nil, List.filter_cons_of_neg h, List.filter_nil, List.append_nil]
def anyT (s : List Ru) (k : Nat) (e : Int) : Bool := (s.take k).any (fun r => decide (r.event = e))
theorem anyT_succ {s : List Ru} {k : Nat} (hk : k < s.length) (e : Int) : anyT s (k + 1) e = (anyT s k e || decide ((s.getD k ruD).event = e)) := by
  unfold anyT
  rw [List.take_succ_eq_append_getElem hk, List.any_append, ← getRu_lt hk]
  simp
theorem anyT_all (s : List Ru) (e : Int) : anyT s s.length e = s.any (fun r => decide (r.event = e)) := by unfold anyT; rw [List.take_length]
set_option maxRecDepth 20000 in
set_option maxHeartbeats 8000000 in
theorem specUnx_any (v v1 : Value) (t : List Tg) (s : List Ru) (w : World) (h : RowR 3 rTg w v t) (h1 : RowR 4 rRu w v1 s) (hn : s.length ≤ 1048576) (xs : List Int) (b : Bool) (hres : unxRes t s = (xs, b)) :
    Calls Try.prog 44 #[v, v1] w fun e w' => ∃ v', e = .returned (.tuple #[v', .bool b]) ∧ IntsO w.heap.size w'.heap.size w' v' xs ∧ Below w.heap.size w w' := by
  obtain ⟨i0, hi, hz0, hz1, hz2⟩ := info_parts Try.info_intN
  have b0 := below_al (Below.refl w.heap.size w) (.cells #[] 3 (0, 0))
  have HI0 := Lib.hid (ints_newN w)
  have H := Lib.hid h
  have H1 := Lib.hid h1
  obtain ⟨a1, c1, hv, hl1, hm1, r1⟩ := h1.rus
  subst hv
  have R1 := Lib.hid r1
  unfold maxLen at hm1
  obtain ⟨bf, hbf⟩ : ∃ b, freeB t = b := ⟨_, rfl⟩
  obtain ⟨bs, hbs⟩ : ∃ b, isSch s = b := ⟨_, rfl⟩
  have HBF := Lib.hid hbf
  have HBS := Lib.hid hbs
  have HRES := Lib.hid hres
  clear h h1 r1 hres hbf hbs
  cases bf
  · have HQ : Hid (xs = [] ∧ b = false) := Lib.hid (by have := HRES.out; unfold unxRes at this; rw [if_neg (fun q => by rw [HBF.out] at q; cases q.1)] at this; obtain ⟨h1, h2⟩ := Prod.mk.inj this; exact ⟨h1.symm, h2.symm⟩)
    go_enter Try.func44, Try.ntmps44
    go_wp2_with fail
    refine (l10Free_any _ t _ (H.out.below rTg_stable b0)).mono ?_
    rw [HBF.out]
    rintro e w1 ⟨rfl, b1⟩
    have HI1 := Lib.hid ((HI0.out.below b1).wide (Nat.le_refl _) b1.size)
    go_wp2_with fail
    go_ret2
    exact ⟨_, by rw [HQ.out.2]; rfl, by rw [HQ.out.1]; exact HI1.out, below_chain b0 b1⟩
  · obtain ⟨ht, hc⟩ := freeB_iff.1 HBF.out
    have HT := Lib.hid ht
    have HC := Lib.hid hc
    clear ht hc
    cases bs
    · have HQ : Hid (xs = [] ∧ b = false) := Lib.hid (by have := HRES.out; unfold unxRes at this; rw [if_neg (fun q => by rw [HBS.out] at q; cases q.2)] at this; obtain ⟨h1, h2⟩ := Prod.mk.inj this; exact ⟨h1.symm, h2.symm⟩)
      go_enter Try.func44, Try.ntmps44
      go_wp2_with fail
      refine (l10Free_any _ t _ (H.out.below rTg_stable b0)).mono ?_
      rw [HBF.out]
      rintro e w1 ⟨rfl, b1⟩
      have HI1 := Lib.hid ((HI0.out.below b1).wide (Nat.le_refl _) b1.size)
      replace b1 := below_chain b0 b1
      go_wp2_with fail
      refine (l4Good_any _ s _ (H1.out.below rRu_stable b1)).mono ?_
      rw [HBS.out]
      rintro e w2 ⟨rfl, b2⟩
      have HI2 := Lib.hid ((HI1.out.below b2).wide (Nat.le_refl _) b2.size)
      go_wp2_with fail
      go_ret2
      exact ⟨_, by rw [HQ.out.2]; rfl, by rw [HQ.out.1]; exact HI2.out, b1.trans (b2.mono b1.size)⟩
    · have HQ : Hid (xs = unxF t s ∧ b = true) := Lib.hid (by have := HRES.out; unfold unxRes at this; rw [if_pos ⟨HBF.out, HBS.out⟩] at this; obtain ⟨h1, h2⟩ := Prod.mk.inj this; exact ⟨h1.symm, h2.symm⟩)
      go_enter Try.func44, Try.ntmps44
      go_wp2_with fail
      refine (l10Free_any _ t _ (H.out.below rTg_stable b0)).mono ?_
      rw [HBF.out]
      rintro e w1 ⟨rfl, b1⟩
      have HI1 := Lib.hid ((HI0.out.below b1).wide (Nat.le_refl _) b1.size)
      replace b1 := below_chain b0 b1
      go_wp2_with fail
      refine (l4Good_any _ s _ (H1.out.below rRu_stable b1)).mono ?_
      rw [HBS.out]
      rintro e w2 ⟨rfl, b2⟩
      have HI2 := Lib.hid ((HI1.out.below b2).wide (Nat.le_refl _) b2.size)
      replace b2 := b1.trans (b2.mono b1.size)
      go_wp2_with fail
      go_loopw [6, 7] (fun o i wr => ∃ k : Nat, k ≤ 9 ∧ i = .int .i64 ((k : Int) + 1) ∧ wr.ownsRow w.heap.size 3 1 o (unxK t s k).length ((unxK t s k).map vI) ∧ Below w.heap.size w wr) (fun _ i _ => (10 - intOf i).toNat)
      case atStart => exact ⟨0, by omega, rfl, (by simpa [unxK] using HI2.out.1), b2⟩
      case round =>
        clear b1 b2 HI0 HI1 HI2 b0
        obtain ⟨k, hk, rfl, hO, hb⟩ := hrel
        obtain ⟨wo, hwo⟩ : ∃ x, x = wr := ⟨_, rfl⟩
        subst hwo
        have hK := unxK_succ t s k
        have hKl := unxK_len t s k
        obtain ⟨P, hP⟩ : ∃ P, unxK t s k = P := ⟨_, rfl⟩
        rw [hP] at hO hK hKl
        obtain ⟨ev, hev⟩ : ∃ e : Int, (k : Int) + 1 = e := ⟨_, rfl⟩
        have hev2 : ((k + 1 : Nat) : Int) = ev := by omega
        rw [hev2] at hK
        rw [hev]
        have HK0 := Lib.hid hK
        have HEV := Lib.hid hev
        have HP := Lib.hid hP
        have hev1 : 1 ≤ ev ∧ ev ≤ 10 := by omega
        have HOS := Lib.hid hO
        have hk9 : k = 9 ∨ (k < 9 ∧ ev ≤ 9) := by omega
        clear hK hev hev2 hO hP
        rcases hk9 with hk9 | ⟨hlt, hle⟩
        · have HXF : Hid (P = unxF t s) := Lib.hid (by rw [← HP.out, hk9]; exact unxK_nine t s)
          have hgt : ¬ ev ≤ 9 := by have := HEV.out; omega
          have HF := Lib.hid (ints_rowN HOS.out rfl)
          clear hk9
          go_wp2_with fail
          go_ret2
          exact ⟨_, by rw [HQ.out.2]; rfl, by rw [HQ.out.1, ← HXF.out]; exact HF.out, hb⟩
        · go_wp2_with fail
          go_loopw [8, 9] (fun p i wr => ∃ j : Nat, j ≤ s.length ∧ i = .int .i64 j ∧ p = .bool (anyT s j ev) ∧ Hid (wr.ownsRow w.heap.size 3 1 _ P.length (P.map vI)) ∧ Below w.heap.size w wr) (fun _ i _ => s.length - (intOf i).toNat)
          case atStart => exact ⟨0, Nat.zero_le _, rfl, rfl, HOS, hb⟩
          case round =>
            clear hb HOS
            obtain ⟨j, hj, rfl, rfl, HOS, hb⟩ := hrel
            have hsz := hb.size
            by_cases hjt : j < s.length
            · obtain ⟨b1, o1, hb1, rfl, e1⟩ := R1.out.resolve_left (fun e => by rw [e] at hjt; simp at hjt)
              obtain ⟨⟨x0, x1, x2, x3⟩, hx⟩ : ∃ x, s.getD j ruD = x := ⟨_, rfl⟩
              obtain ⟨q0, q1, q2, q3, hok⟩ := e1 j hjt
              have hsu := anyT_succ hjt ev
              rw [hx] at q1 hsu
              simp only at q1 hsu
              have f1 := cell_kept q1 hb
              obtain ⟨bq, hbq⟩ : ∃ b, anyT s j ev = b := ⟨_, rfl⟩
              rw [hbq] at hsu
              try rw [hbq]
              have HSU := Lib.hid hsu
              have g0 : (0 : Int) ≤ (j : Int) := by omega
              have g1 : (j : Int) < (s.length : Int) := by omega
              clear q0 q1 q2 q3 hok e1 hx hsu hbq
              cases bq
              · by_cases he : x1 = ev
                · have r0 : (x1 == ev) = true := by simp [he]
                  have HS2 : Hid (anyT s (j + 1) ev = true) := Lib.hid (by rw [HSU.out, decide_eq_true he]; rfl)
                  clear he
                  go_wp2_with fail
                  go_roundw
                  case rel => exact ⟨j + 1, by omega, by go_num, by rw [HS2.out], HOS, hb⟩
                  case measure => simp [intOf]; omega
                · have r0 : (x1 == ev) = false := by simp [he]
                  have HS2 : Hid (anyT s (j + 1) ev = false) := Lib.hid (by rw [HSU.out, decide_eq_false he]; rfl)
                  clear he
                  go_wp2_with fail
                  go_roundw
                  case rel => exact ⟨j + 1, by omega, by go_num, by rw [HS2.out], HOS, hb⟩
                  case measure => simp [intOf]; omega
              · have HS2 : Hid (anyT s (j + 1) ev = true) := Lib.hid (by rw [HSU.out]; rfl)
                go_wp2_with fail
                go_roundw
                case rel => exact ⟨j + 1, by omega, by go_num, by rw [HS2.out], HOS, hb⟩
                case measure => simp [intOf]; omega
            · obtain rfl : j = s.length := by omega
              rw [anyT_all]
              obtain ⟨bq, hbq⟩ : ∃ b, s.any (fun r => decide (r.event = ev)) = b := ⟨_, rfl⟩
              rw [hbq]
              have HBQ := Lib.hid hbq
              clear hbq
              cases bq
              · have HST : Hid (unxK t s (k + 1) = P) := Lib.hid (HK0.out.trans (if_neg (by unfold unxP; rw [HBQ.out, Bool.and_false]; simp)))
                go_wp2_with fail
                go_roundw
                case rel => exact ⟨k + 1, by omega, by have := HEV.out; go_num, (by rw [HST.out]; exact HOS.out), hb⟩
                case measure => have := HEV.out; simp [intOf]; omega
              · obtain ⟨d1, hd⟩ : ∃ d, dayX t ev = d := ⟨_, rfl⟩
                have HD1 := Lib.hid hd
                have HCALL : Hid (Calls Try.prog 74 #[v, .int .i64 ev] wr fun e w' => e = .returned (.int .i64 d1) ∧ Below wr.heap.size wr w') := Lib.hid (by
                  have := l10Day_any t HT.out HC.out 10 v ev wr (H.out.below rTg_stable hb) (shortW_ten HT.out HC.out ev)
                  rwa [hd] at this)
                clear hd
                by_cases hneg : d1 < 0
                · have HST : Hid (unxK t s (k + 1) = P ++ [ev]) := Lib.hid (HK0.out.trans (if_pos (by unfold unxP; rw [HBQ.out, HD1.out, decide_eq_true hneg]; rfl)))
                  go_wp2_with fail
                  refine HCALL.out.mono ?_
                  rintro e w5 ⟨rfl, b5⟩
                  have hO5 := ownsRow_below HOS.out b5
                  have hb5 := hb.trans (b5.mono hsz)
                  have hs5 := hb5.size
                  go_wp2_with (first | (at_builtin; refine wpList_append_own _ rfl _ _ 30 rfl w.heap.size 3 i0 (.int .i64 0) 1 8 Try.underlying30 hi hz0 hz1 hz2 rfl (by decide) _ _ _ rfl (hO5.alloc _) ⟨w5.heap.size, 0, none⟩ 1 1 [.int .i64 ev] rfl rfl (cell_oneN _ _ _ (by simp)) (by simp [Value.oneCell']) (by unfold maxLen; omega) (by omega) (by simp; omega) ?_; intro v' w9 hown' hgrow _))
                  have HOWN := Lib.hid hown'
                  have HB2 := Lib.hid (below_app hb5 (Nat.le_refl _) hO5 hgrow)
                  clear hown' hgrow hO5
                  go_wp2_with fail
                  go_roundw
                  case rel => exact ⟨k + 1, by omega, by have := HEV.out; go_num, (by rw [HST.out]; simpa [vI] using HOWN.out), HB2.out⟩
                  case measure => have := HEV.out; simp [intOf]; omega
                · have HST : Hid (unxK t s (k + 1) = P) := Lib.hid (HK0.out.trans (if_neg (by unfold unxP; rw [HBQ.out, HD1.out, decide_eq_false hneg]; simp)))
                  go_wp2_with fail
                  refine HCALL.out.mono ?_
                  rintro e w5 ⟨rfl, b5⟩
                  have HO5 := Lib.hid (ownsRow_below HOS.out b5)
                  go_wp2_with fail
                  go_roundw
                  case rel => exact ⟨k + 1, by omega, by have := HEV.out; go_num, (by rw [HST.out]; exact HO5.out), hb.trans (b5.mono hsz)⟩
                  case measure => have := HEV.out; simp [intOf]; omega
end Go.Proofs.Ytedckfbjhhabgaa

namespace Go.Proofs.Ytedckfbjhhabgaa
set_option linter.unusedVariables false
open Go.RowKit

theorem beq_bytes_ne {a b : ByteArray} (h : ¬ a = b) : (a.toList == b.toList) = false := by
  rw [beq_eq_false_iff_ne]
  intro e
  rw [ByteArray.toList_eq, ByteArray.toList_eq] at e
  exact h (ByteArray.ext (Array.ext' e))

end Go.Proofs.Ytedckfbjhhabgaa

namespace Go.Proofs.Ytedckfbjhhabgaa
set_option linter.unusedVariables false
open Go.RowKit

def szTg (xs : List Tg) : Nat := 0
theorem szTgS_any (v : Value) (xs : List Tg) (left : Int) (w : World) (h : RowR 3 rTg w v xs) (h0 : 0 ≤ left) (h2 : left ≤ 1099511627776) :
    Calls Try.prog 13 #[v, .int .i64 left] w fun e w' => ∃ n : Int, e = .returned (.int .i64 n) ∧ (n < 0 ∨ (xs.length : Int) + szTg xs ≤ left) ∧ (0 ≤ n ∨ n = -1) ∧ n ≤ left ∧ Below w.heap.size w w' := by
  have hcap := h.cap
  obtain ⟨a1, c1, rfl, hl1, hm1, r1⟩ := h
  by_cases hb : left < xs.length
  · go_enter Try.func13, Try.ntmps13
    go_wp2
    go_ret
    exact ⟨-1, rfl, Or.inl (by omega), Or.inr rfl, by omega, Below.refl _ _⟩
  · go_enter Try.func13, Try.ntmps13
    go_wp2
    go_ret
    exact ⟨left - xs.length, rfl, Or.inr (by simp [szTg]; omega), Or.inl (by omega), by omega, Below.refl _ _⟩

theorem eqTg_any (a b : Tg) (w : World) :
    Calls Try.prog 53 #[.agg #[.int .i64 a.ev, .int .i64 a.aft, .int .i64 a.days], .agg #[.int .i64 b.ev, .int .i64 b.aft, .int .i64 b.days]] w fun e w' => e = .returned (.bool (decide (a = b))) ∧ Below w.heap.size w w' := by
  obtain ⟨a0, a1, a2⟩ := a
  obtain ⟨b0, b1, b2⟩ := b
  by_cases h0 : a0 = b0
  · subst h0
    by_cases h1 : a1 = b1
    · subst h1
      by_cases h2 : a2 = b2
      · subst h2
        go_enter Try.func53, Try.ntmps53
        go_wp2_with fail
        go_ret
        exact ⟨ret_bool (by simp), below_al (below_al (Below.refl _ _) _) _⟩
      · have e1 : (a2 != b2) = true := by simp [h2]
        have e10 : (a0 != a0) = false := by simp
        have e11 : (a1 != a1) = false := by simp
        go_enter Try.func53, Try.ntmps53
        go_wp2_with fail
        go_ret
        exact ⟨ret_bool (by simp [h2]), below_al (below_al (Below.refl _ _) _) _⟩
    · have e1 : (a1 != b1) = true := by simp [h1]
      have e10 : (a0 != a0) = false := by simp
      go_enter Try.func53, Try.ntmps53
      go_wp2_with fail
      go_ret
      exact ⟨ret_bool (by simp [h1]), below_al (below_al (Below.refl _ _) _) _⟩
  · have e1 : (a0 != b0) = true := by simp [h0]
    go_enter Try.func53, Try.ntmps53
    go_wp2_with fail
    go_ret
    exact ⟨ret_bool (by simp [h0]), below_al (below_al (Below.refl _ _) _) _⟩

set_option maxHeartbeats 1000000 in
theorem eqTgS_any (v1 v2 : Value) (xs ys : List Tg) (w : World) (h1 : RowR 3 rTg w v1 xs) (h2 : RowR 3 rTg w v2 ys) :
    Calls Try.prog 17 #[v1, v2] w fun e w' => e = .returned (.bool (decide (xs = ys))) ∧ Below w.heap.size w w' := by
  have hx := h1.cap
  have hy := h2.cap
  obtain ⟨a1, c1, rfl, hl1, hm1, r1⟩ := h1
  obtain ⟨a2, c2, rfl, hl2, hm2, r2⟩ := h2
  by_cases hlen : xs.length = ys.length
  · have hLen := Lib.hid hlen
    have hne : (((xs.length : Nat) : Int) != (xs.length : Int)) = false := by simp
    rw [← hlen]
    clear hlen
    have R1 := Lib.hid r1
    have R2 := Lib.hid r2
    clear r1 r2
    go_enter Try.func17, Try.ntmps17
    go_wp2
    go_loopw [5] (fun i wr => ∃ k : Nat, k ≤ xs.length ∧ i = .int .i64 k ∧ (∀ j (h : j < k) (h1 : j < xs.length) (h2 : j < ys.length), xs[j] = ys[j]) ∧ Below w.heap.size w wr) (fun i _ => xs.length - (intOf i).toNat)
    case atStart => exact ⟨0, Nat.zero_le _, rfl, fun j h => by omega, Below.refl _ _⟩
    case round =>
      obtain ⟨k, hk, rfl, hj, hb⟩ := hrel
      have HJ := Lib.hid hj
      clear hj
      by_cases hlt : k < xs.length
      · obtain ⟨b1, o1, hb1, rfl, e1⟩ := R1.out.resolve_left (fun e => by rw [e] at hlt; simp at hlt)
        obtain ⟨b2, o2, hb2, rfl, e2⟩ := R2.out.resolve_left (fun e => by have := hLen.out; rw [e] at this; simp at this; rw [this] at hlt; simp at hlt)
        obtain ⟨⟨x0, x1, x2⟩, hx⟩ : ∃ s, xs[k] = s := ⟨_, rfl⟩
        obtain ⟨⟨y0, y1, y2⟩, hy⟩ : ∃ s, ys[k]'(by have := hLen.out; omega) = s := ⟨_, rfl⟩
        obtain ⟨cs1, hcl1, hcs1, hre1⟩ := e1 k hlt
        obtain ⟨cs2, hcl2, hcs2, hre2⟩ := e2 k (by have := hLen.out; omega)
        rw [hx] at hre1
        rw [hy] at hre2
        obtain ⟨rfl, hok1⟩ := hre1
        obtain ⟨rfl, hok2⟩ := hre2
        have fa0 := (hb.cell (p := ⟨b1, o1 + k * 3, none⟩) hb1).trans (hcs1 0 (by simp only [tgC, List.length_cons, List.length_nil]; omega))
        have fa1 := (hb.cell (p := ⟨b1, o1 + k * 3 + 1, none⟩) hb1).trans (hcs1 1 (by simp only [tgC, List.length_cons, List.length_nil]; omega))
        have fa2 := (hb.cell (p := ⟨b1, o1 + k * 3 + 2, none⟩) hb1).trans (hcs1 2 (by simp only [tgC, List.length_cons, List.length_nil]; omega))
        have fb0 := (hb.cell (p := ⟨b2, o2 + k * 3, none⟩) hb2).trans (hcs2 0 (by simp only [tgC, List.length_cons, List.length_nil]; omega))
        have fb1 := (hb.cell (p := ⟨b2, o2 + k * 3 + 1, none⟩) hb2).trans (hcs2 1 (by simp only [tgC, List.length_cons, List.length_nil]; omega))
        have fb2 := (hb.cell (p := ⟨b2, o2 + k * 3 + 2, none⟩) hb2).trans (hcs2 2 (by simp only [tgC, List.length_cons, List.length_nil]; omega))
        simp [tgC] at fa0 fa1 fa2 fb0 fb1 fb2
        have HX := Lib.hid hx
        have HY := Lib.hid hy
        have hsz := hb.size
        have hb1' : b1 < wr.heap.size := by omega
        have hb2' : b2 < wr.heap.size := by omega
        have g0 : (0 : Int) ≤ (k : Int) := by omega
        have g1 : (k : Int) < (xs.length : Int) := by omega
        clear hcs1 hcs2 hcl1 hcl2 e1 e2 hx hy R1 R2 hok1 hok2
        obtain ⟨bb, hbb⟩ : ∃ bb, decide ((⟨x0, x1, x2⟩ : Tg) = ⟨y0, y1, y2⟩) = bb := ⟨_, rfl⟩
        have hcall : ∀ W : World, Calls Try.prog 53 #[.agg #[.int .i64 x0, .int .i64 x1, .int .i64 x2], .agg #[.int .i64 y0, .int .i64 y1, .int .i64 y2]] W fun e w' => e = .returned (.bool bb) ∧ Below W.heap.size W w' := fun W => by
          have := eqTg_any ⟨x0, x1, x2⟩ ⟨y0, y1, y2⟩ W
          rwa [hbb] at this
        have HB := Lib.hid hbb
        clear hbb
        go_wp2_with fail
        go_region_held3 (fun w' => w'.cell? ⟨b1, o1 + k * 3, none⟩ = some (.int .i64 x0) ∧ w'.cell? ⟨b1, o1 + k * 3 + 1, none⟩ = some (.int .i64 x1) ∧ w'.cell? ⟨b1, o1 + k * 3 + 2, none⟩ = some (.int .i64 x2) ∧ w'.cell? ⟨b2, o2 + k * 3, none⟩ = some (.int .i64 y0) ∧ w'.cell? ⟨b2, o2 + k * 3 + 1, none⟩ = some (.int .i64 y1) ∧ w'.cell? ⟨b2, o2 + k * 3 + 2, none⟩ = some (.int .i64 y2)) (first | go_keep | (refine ⟨?_, ?_, ?_, ?_, ?_, ?_⟩ <;> (rw [hb'.cell (by simp; omega)]; assumption)))
          (first | (go_at_call 53; refine (hcall _).mono ?_; rintro e w' ⟨rfl, hb'⟩))
        cases bb
        · go_wp2
          go_ret
          refine ⟨ret_bool (Eq.symm (decide_eq_false fun e => ?_)), hb.drew.trans (hb'.mono hsz)⟩
          have h1 := of_decide_eq_false HB.out
          subst e
          exact h1 (HX.out.symm.trans HY.out)
        · go_wp2
          go_roundw
          case rel =>
            exact ⟨k + 1, by omega, by go_num, fun j h a b => (by
              rcases Nat.lt_or_ge j k with h' | h'
              · exact HJ.out j h' a b
              · obtain rfl : j = k := by omega
                exact (HX.out.trans (of_decide_eq_true HB.out)).trans HY.out.symm), hb.drew.trans (hb'.mono hsz)⟩
          case measure => simp [intOf]; omega
      · go_wp2
        go_ret
        refine ⟨ret_bool (Eq.symm (decide_eq_true ?_)), hb⟩
        exact List.ext_getElem hLen.out fun i a b => HJ.out i (by omega) a b
  · have hne : (((xs.length : Nat) : Int) != (ys.length : Int)) = true := by simp; omega
    rw [decide_eq_false (fun e => hlen (by rw [e]))]
    go_enter Try.func17, Try.ntmps17
    go_wp2
    go_ret
    exact ⟨rfl, Below.refl _ _⟩
end Go.Proofs.Ytedckfbjhhabgaa

namespace Go.Proofs.Ytedckfbjhhabgaa
set_option linter.unusedVariables false
open Go.RowKit

def mTg (k i : Nat) : Tg := ⟨((k + i * 3 : Nat) : Int), ((k + i * 3 + 1 : Nat) : Int), ((k + i * 3 + 2 : Nat) : Int)⟩
def mTgs (k n : Nat) : List Tg := (List.range n).map (mTg k)
theorem mTgs_len (k n : Nat) : (mTgs k n).length = n := by simp [mTgs]
theorem mTg_ok (k i : Nat) (h : k + i * 3 + 3 ≤ 1099511627777) : (mTg k i).ok := ⟨by simp only [mTg, inI]; omega, by simp only [mTg, inI]; omega, by simp only [mTg, inI]; omega⟩
theorem mTg_mkd_ok {k0 : Nat} {xs : List Tg} (h : ∀ e ∈ xs, e.ok) (k : Nat) (hk : k ≤ xs.length) (hb : k0 + xs.length * 3 ≤ 1099511627776) : ∀ e ∈ mkd (mTg k0) xs k, e.ok := by
  intro e he
  unfold mkd at he
  rcases List.mem_append.1 he with h1 | h1
  · obtain ⟨i, hi, rfl⟩ := List.mem_map.1 h1
    exact mTg_ok _ _ (by have := List.mem_range.1 hi; omega)
  · exact h e (List.mem_of_mem_drop h1)

set_option maxHeartbeats 2000000 in
theorem markTgS_any (v : Value) (xs : List Tg) (lo hi k0 : Nat) (w : World) (hk0 : 1 ≤ k0) (hk1 : k0 + xs.length * 3 ≤ 1099511627776) (hown : TgsO lo hi w v xs) :
    Calls Try.prog 39 #[v, .int .i64 k0] w fun e w' => e = .returned (.int .i64 (k0 + xs.length * 3 : Nat)) ∧ TgsO lo hi w' v (mTgs k0 xs.length) ∧ Only lo hi w w' := by
  obtain ⟨ho, hok, hun⟩ := hown
  have HGE := Lib.hid ho.ge
  have HUN := Lib.hid hun
  clear hun
  have hlen : (xs.map tgC).length = xs.length := List.length_map _
  have HOK := Lib.hid hok
  clear hok
  rcases ho.form with ⟨rfl, h0⟩ | ⟨g, cap, hv, hg, hgl, hn, hm⟩
  · have hx : xs = [] := List.map_eq_nil_iff.1 h0
    subst hx
    clear h0 hlen
    have HO := Lib.hid ho
    clear ho
    go_enter Try.func39, Try.ntmps39
    go_wp2
    refine wp_loop_rounds 1 ?_
    rw [rounds_succ]
    go_wp2
    go_ret
    exact ⟨by simp, ⟨HO.out, by simp [mTgs], HUN.out⟩, Only.refl _ _ _⟩
  · rw [hlen] at hv hn
    subst hv
    unfold maxLen at hm
    have HO0 := Lib.hid ho
    clear ho
    go_enter Try.func39, Try.ntmps39
    go_wp2
    go_loopw [1, 5] (fun q i wr => ∃ k : Nat, k ≤ xs.length ∧ i = .int .i64 k ∧ q = .int .i64 ((k0 : Int) + k * 3) ∧
        Own lo 63 3 wr (.slice (some ⟨g, 0, none⟩) xs.length cap) ((mkd (mTg k0) xs k).map tgC) ∧ w.grownBy wr (some g)) (fun _ i _ => xs.length - (intOf i).toNat)
    case atStart => exact ⟨0, Nat.zero_le _, rfl, by simp, by simpa [mkd_zero] using HO0.out, World.grownBy.refl _ _⟩
    case round =>
      obtain ⟨k, hk, rfl, rfl, hO, hG⟩ := hrel
      have HO := Lib.hid hO
      by_cases hlt : k < xs.length
      · have hml : ((mkd (mTg k0) xs k).map tgC).length = xs.length := by rw [List.length_map, mkd_len _ _ _ (by omega)]
        have hat : ((mkd (mTg k0) xs k).map tgC)[k]'(by omega) = tgC xs[k] := by
          have h1 := mkd_at (mTg k0) xs k hlt
          rw [List.getElem?_eq_getElem (by rw [mkd_len _ _ _ (by omega)]; exact hlt)] at h1
          rw [List.getElem_map, Option.some.inj h1]
        obtain ⟨⟨x0, x1, x2⟩, hs⟩ : ∃ s, xs[k] = s := ⟨_, rfl⟩
        rw [hs] at hat
        have HAT := Lib.hid hat
        have HML := Lib.hid hml
        have c0 := hO.cell k 0 (by omega) (by omega)
        have c1 := hO.cell k 1 (by omega) (by omega)
        have c2 := hO.cell k 2 (by omega) (by omega)
        rw [hat] at c0 c1 c2
        simp [tgC] at c0 c1 c2
        have fr0 := hO.frozen (k * 3)
        have fr1 := hO.frozen (k * 3 + 1)
        have fr2 := hO.frozen (k * 3 + 2)
        have g0 : (0 : Int) ≤ (k : Int) := by omega
        have g1 : (k : Int) < (xs.length : Int) := by omega
        clear hO hat hs HAT hml
        go_wp2
        go_roundw
        case rel =>
          obtain ⟨p1, p2⟩ := HO.out.put k (by rw [HML.out]; exact hlt) (tgC (mTg k0 k)) rfl
          rw [← List.map_set, mkd_set _ _ _ hlt] at p1
          refine ⟨k + 1, by omega, by go_num, by go_num, p1, grownBy_trans hG p2⟩
        case measure => simp [intOf]; omega
      · clear hO
        go_wp2
        go_ret
        obtain rfl : k = xs.length := by omega
        have h1 := HO.out
        have h2 := mTg_mkd_ok (k0 := k0) HOK.out xs.length (Nat.le_refl _) hk1
        rw [mkd_all] at h1 h2
        exact ⟨ret_int (by omega), ⟨h1, h2, HUN.out⟩, Only.of_grown (v := .slice (some ⟨g, 0, none⟩) xs.length cap) hG HGE.out HUN.out⟩

theorem mTgs_get (k0 n i : Nat) (h : i < n) : (mTgs k0 n)[i]'(by rw [mTgs_len]; exact h) = mTg k0 i := by simp [mTgs]

set_option maxHeartbeats 2000000 in
theorem heldTgS_any (v : Value) (k0 n : Nat) (w : World) (hk0 : 1 ≤ k0) (hk1 : k0 + n * 3 ≤ 1099511627776) (h1 : RowR 3 rTg w v (mTgs k0 n)) :
    Calls Try.prog 48 #[v, .int .i64 k0] w fun e w' => e = .returned (.int .i64 (k0 + n * 3 : Nat)) ∧ Below w.heap.size w w' := by
  obtain ⟨a1, c1, rfl, hl1, hm1, r1⟩ := h1
  rw [mTgs_len]
  rw [mTgs_len] at hl1
  have R1 := Lib.hid r1
  clear r1
  go_enter Try.func48, Try.ntmps48
  go_wp2
  go_loopw [1, 5] (fun q i wr => ∃ k : Nat, k ≤ n ∧ i = .int .i64 k ∧ q = .int .i64 ((k0 : Int) + k * 3) ∧ Below w.heap.size w wr) (fun _ i _ => n - (intOf i).toNat)
  case atStart => exact ⟨0, Nat.zero_le _, rfl, by simp, Below.refl _ _⟩
  case round =>
    obtain ⟨k, hk, rfl, rfl, hb⟩ := hrel
    by_cases hlt : k < n
    · obtain ⟨b1, o1, hb1, rfl, e1⟩ := R1.out.resolve_left (fun e => by have := mTgs_len k0 n; rw [e] at this; simp at this; omega)
      obtain ⟨cs, hcl, hcs, hre⟩ := e1 k (by rw [mTgs_len]; exact hlt)
      rw [mTgs_get k0 n k hlt] at hre
      obtain ⟨rfl, _⟩ := hre
      have f0 := (hb.cell (p := ⟨b1, o1 + k * 3, none⟩) hb1).trans (hcs 0 (by simp only [tgC, List.length_cons, List.length_nil]; omega))
      have f1 := (hb.cell (p := ⟨b1, o1 + k * 3 + 1, none⟩) hb1).trans (hcs 1 (by simp only [tgC, List.length_cons, List.length_nil]; omega))
      have f2 := (hb.cell (p := ⟨b1, o1 + k * 3 + 2, none⟩) hb1).trans (hcs 2 (by simp only [tgC, List.length_cons, List.length_nil]; omega))
      have q0 : ((k0 + k * 3 : Nat) : Int) = (k0 : Int) + k * 3 := by omega
      have q1 : ((k0 + k * 3 + 1 : Nat) : Int) = (k0 : Int) + k * 3 + 1 := by omega
      have q2 : ((k0 + k * 3 + 2 : Nat) : Int) = (k0 : Int) + k * 3 + 1 + 1 := by omega
      simp only [tgC, mTg, List.getElem_cons_zero, List.getElem_cons_succ, q0, q1, q2] at f0 f1 f2
      have g0 : (0 : Int) ≤ (k : Int) := by omega
      have g1 : (k : Int) < (n : Int) := by omega
      have hsz := hb.size
      have n0 : (((k0 : Int) + k * 3) != ((k0 : Int) + k * 3)) = false := by simp
      have n1 : (((k0 : Int) + k * 3 + 1) != ((k0 : Int) + k * 3 + 1)) = false := by simp
      have n2 : (((k0 : Int) + k * 3 + 1 + 1) != ((k0 : Int) + k * 3 + 1 + 1)) = false := by simp
      clear hcs hcl e1 q0 q1 q2
      go_wp2
      go_roundw
      case rel => exact ⟨k + 1, by omega, by go_num, by go_num, hb⟩
      case measure => simp [intOf]; omega
    · go_wp2
      go_ret
      exact ⟨ret_int (by omega), hb⟩
end Go.Proofs.Ytedckfbjhhabgaa

namespace Go.Proofs.Ytedckfbjhhabgaa
set_option linter.unusedVariables false
open Go.RowKit

def szRu (xs : List Ru) : Nat := 0
/-- The size: what is left over, or -1. -/
theorem szRuS_any (v : Value) (xs : List Ru) (left : Int) (w : World) (h : RowR 4 rRu w v xs) (h0 : 0 ≤ left) (h2 : left ≤ 1099511627776) :
    Calls Try.prog 18 #[v, .int .i64 left] w fun e w' => ∃ n : Int, e = .returned (.int .i64 n) ∧ (n < 0 ∨ (xs.length : Int) + szRu xs ≤ left) ∧ (0 ≤ n ∨ n = -1) ∧ n ≤ left ∧ Below w.heap.size w w' := by
  have hcap := h.cap
  obtain ⟨a1, c1, rfl, hl1, hm1, r1⟩ := h
  by_cases hb : left < xs.length
  · go_enter Try.func18, Try.ntmps18
    go_wp2
    go_ret
    exact ⟨-1, rfl, Or.inl (by omega), Or.inr rfl, by omega, Below.refl _ _⟩
  · go_enter Try.func18, Try.ntmps18
    go_wp2
    go_ret
    exact ⟨left - xs.length, rfl, Or.inr (by simp [szRu]; omega), Or.inl (by omega), by omega, Below.refl _ _⟩

theorem eqRu_any (a b : Ru) (w : World) :
    Calls Try.prog 61 #[.agg #[.int .i64 a.series, .int .i64 a.event, .int .i64 a.days, .int .i64 a.act], .agg #[.int .i64 b.series, .int .i64 b.event, .int .i64 b.days, .int .i64 b.act]] w fun e w' => e = .returned (.bool (decide (a = b))) ∧ Below w.heap.size w w' := by
  obtain ⟨a0, a1, a2, a3⟩ := a
  obtain ⟨b0, b1, b2, b3⟩ := b
  by_cases h0 : a0 = b0
  · subst h0
    by_cases h1 : a1 = b1
    · subst h1
      by_cases h2 : a2 = b2
      · subst h2
        by_cases h3 : a3 = b3
        · subst h3
          go_enter Try.func61, Try.ntmps61
          go_wp2_with fail
          go_ret
          exact ⟨ret_bool (by simp), below_al (below_al (Below.refl _ _) _) _⟩
        · have e1 : (a3 != b3) = true := by simp [h3]
          have e10 : (a0 != a0) = false := by simp
          have e11 : (a1 != a1) = false := by simp
          have e12 : (a2 != a2) = false := by simp
          go_enter Try.func61, Try.ntmps61
          go_wp2_with fail
          go_ret
          exact ⟨ret_bool (by simp [h3]), below_al (below_al (Below.refl _ _) _) _⟩
      · have e1 : (a2 != b2) = true := by simp [h2]
        have e10 : (a0 != a0) = false := by simp
        have e11 : (a1 != a1) = false := by simp
        go_enter Try.func61, Try.ntmps61
        go_wp2_with fail
        go_ret
        exact ⟨ret_bool (by simp [h2]), below_al (below_al (Below.refl _ _) _) _⟩
    · have e1 : (a1 != b1) = true := by simp [h1]
      have e10 : (a0 != a0) = false := by simp
      go_enter Try.func61, Try.ntmps61
      go_wp2_with fail
      go_ret
      exact ⟨ret_bool (by simp [h1]), below_al (below_al (Below.refl _ _) _) _⟩
  · have e1 : (a0 != b0) = true := by simp [h0]
    go_enter Try.func61, Try.ntmps61
    go_wp2_with fail
    go_ret
    exact ⟨ret_bool (by simp [h0]), below_al (below_al (Below.refl _ _) _) _⟩

set_option maxHeartbeats 1000000 in
theorem eqRuS_any (v1 v2 : Value) (xs ys : List Ru) (w : World) (h1 : RowR 4 rRu w v1 xs) (h2 : RowR 4 rRu w v2 ys) :
    Calls Try.prog 24 #[v1, v2] w fun e w' => e = .returned (.bool (decide (xs = ys))) ∧ Below w.heap.size w w' := by
  have hx := h1.cap
  have hy := h2.cap
  obtain ⟨a1, c1, rfl, hl1, hm1, r1⟩ := h1
  obtain ⟨a2, c2, rfl, hl2, hm2, r2⟩ := h2
  by_cases hlen : xs.length = ys.length
  · have hLen := Lib.hid hlen
    have hne : (((xs.length : Nat) : Int) != (xs.length : Int)) = false := by simp
    rw [← hlen]
    clear hlen
    have R1 := Lib.hid r1
    have R2 := Lib.hid r2
    clear r1 r2
    go_enter Try.func24, Try.ntmps24
    go_wp2
    go_loopw [5] (fun i wr => ∃ k : Nat, k ≤ xs.length ∧ i = .int .i64 k ∧ (∀ j (h : j < k) (h1 : j < xs.length) (h2 : j < ys.length), xs[j] = ys[j]) ∧ Below w.heap.size w wr) (fun i _ => xs.length - (intOf i).toNat)
    case atStart => exact ⟨0, Nat.zero_le _, rfl, fun j h => by omega, Below.refl _ _⟩
    case round =>
      obtain ⟨k, hk, rfl, hj, hb⟩ := hrel
      have HJ := Lib.hid hj
      clear hj
      by_cases hlt : k < xs.length
      · obtain ⟨b1, o1, hb1, rfl, e1⟩ := R1.out.resolve_left (fun e => by rw [e] at hlt; simp at hlt)
        obtain ⟨b2, o2, hb2, rfl, e2⟩ := R2.out.resolve_left (fun e => by have := hLen.out; rw [e] at this; simp at this; rw [this] at hlt; simp at hlt)
        obtain ⟨⟨x0, x1, x2, x3⟩, hx⟩ : ∃ s, xs[k] = s := ⟨_, rfl⟩
        obtain ⟨⟨y0, y1, y2, y3⟩, hy⟩ : ∃ s, ys[k]'(by have := hLen.out; omega) = s := ⟨_, rfl⟩
        obtain ⟨cs1, hcl1, hcs1, hre1⟩ := e1 k hlt
        obtain ⟨cs2, hcl2, hcs2, hre2⟩ := e2 k (by have := hLen.out; omega)
        rw [hx] at hre1
        rw [hy] at hre2
        obtain ⟨rfl, hok1⟩ := hre1
        obtain ⟨rfl, hok2⟩ := hre2
        have fa0 := (hb.cell (p := ⟨b1, o1 + k * 4, none⟩) hb1).trans (hcs1 0 (by simp only [ruC, List.length_cons, List.length_nil]; omega))
        have fa1 := (hb.cell (p := ⟨b1, o1 + k * 4 + 1, none⟩) hb1).trans (hcs1 1 (by simp only [ruC, List.length_cons, List.length_nil]; omega))
        have fa2 := (hb.cell (p := ⟨b1, o1 + k * 4 + 2, none⟩) hb1).trans (hcs1 2 (by simp only [ruC, List.length_cons, List.length_nil]; omega))
        have fa3 := (hb.cell (p := ⟨b1, o1 + k * 4 + 3, none⟩) hb1).trans (hcs1 3 (by simp only [ruC, List.length_cons, List.length_nil]; omega))
        have fb0 := (hb.cell (p := ⟨b2, o2 + k * 4, none⟩) hb2).trans (hcs2 0 (by simp only [ruC, List.length_cons, List.length_nil]; omega))
        have fb1 := (hb.cell (p := ⟨b2, o2 + k * 4 + 1, none⟩) hb2).trans (hcs2 1 (by simp only [ruC, List.length_cons, List.length_nil]; omega))
        have fb2 := (hb.cell (p := ⟨b2, o2 + k * 4 + 2, none⟩) hb2).trans (hcs2 2 (by simp only [ruC, List.length_cons, List.length_nil]; omega))
        have fb3 := (hb.cell (p := ⟨b2, o2 + k * 4 + 3, none⟩) hb2).trans (hcs2 3 (by simp only [ruC, List.length_cons, List.length_nil]; omega))
        simp [ruC] at fa0 fa1 fa2 fa3 fb0 fb1 fb2 fb3
        have HX := Lib.hid hx
        have HY := Lib.hid hy
        have hsz := hb.size
        have hb1' : b1 < wr.heap.size := by omega
        have hb2' : b2 < wr.heap.size := by omega
        have g0 : (0 : Int) ≤ (k : Int) := by omega
        have g1 : (k : Int) < (xs.length : Int) := by omega
        clear hcs1 hcs2 hcl1 hcl2 e1 e2 hx hy R1 R2 hok1 hok2
        obtain ⟨bb, hbb⟩ : ∃ bb, decide ((⟨x0, x1, x2, x3⟩ : Ru) = ⟨y0, y1, y2, y3⟩) = bb := ⟨_, rfl⟩
        have hcall : ∀ W : World, Calls Try.prog 61 #[.agg #[.int .i64 x0, .int .i64 x1, .int .i64 x2, .int .i64 x3], .agg #[.int .i64 y0, .int .i64 y1, .int .i64 y2, .int .i64 y3]] W fun e w' => e = .returned (.bool bb) ∧ Below W.heap.size W w' := fun W => by
          have := eqRu_any ⟨x0, x1, x2, x3⟩ ⟨y0, y1, y2, y3⟩ W
          rwa [hbb] at this
        have HB := Lib.hid hbb
        clear hbb
        go_wp2_with fail
        go_region_held3 (fun w' => w'.cell? ⟨b1, o1 + k * 4, none⟩ = some (.int .i64 x0) ∧ w'.cell? ⟨b1, o1 + k * 4 + 1, none⟩ = some (.int .i64 x1) ∧ w'.cell? ⟨b1, o1 + k * 4 + 2, none⟩ = some (.int .i64 x2) ∧ w'.cell? ⟨b1, o1 + k * 4 + 3, none⟩ = some (.int .i64 x3) ∧ w'.cell? ⟨b2, o2 + k * 4, none⟩ = some (.int .i64 y0) ∧ w'.cell? ⟨b2, o2 + k * 4 + 1, none⟩ = some (.int .i64 y1) ∧ w'.cell? ⟨b2, o2 + k * 4 + 2, none⟩ = some (.int .i64 y2) ∧ w'.cell? ⟨b2, o2 + k * 4 + 3, none⟩ = some (.int .i64 y3)) (first | go_keep | (refine ⟨?_, ?_, ?_, ?_, ?_, ?_, ?_, ?_⟩ <;> (rw [hb'.cell (by simp; omega)]; assumption)))
          (first | (go_at_call 61; refine (hcall _).mono ?_; rintro e w' ⟨rfl, hb'⟩))
        cases bb
        · go_wp2
          go_ret
          refine ⟨ret_bool (Eq.symm (decide_eq_false fun e => ?_)), hb.drew.trans (hb'.mono hsz)⟩
          have h1 := of_decide_eq_false HB.out
          subst e
          exact h1 (HX.out.symm.trans HY.out)
        · go_wp2
          go_roundw
          case rel =>
            exact ⟨k + 1, by omega, by go_num, fun j h a b => (by
              rcases Nat.lt_or_ge j k with h' | h'
              · exact HJ.out j h' a b
              · obtain rfl : j = k := by omega
                exact (HX.out.trans (of_decide_eq_true HB.out)).trans HY.out.symm), hb.drew.trans (hb'.mono hsz)⟩
          case measure => simp [intOf]; omega
      · go_wp2
        go_ret
        refine ⟨ret_bool (Eq.symm (decide_eq_true ?_)), hb⟩
        exact List.ext_getElem hLen.out fun i a b => HJ.out i (by omega) a b
  · have hne : (((xs.length : Nat) : Int) != (ys.length : Int)) = true := by simp; omega
    rw [decide_eq_false (fun e => hlen (by rw [e]))]
    go_enter Try.func24, Try.ntmps24
    go_wp2
    go_ret
    exact ⟨rfl, Below.refl _ _⟩
end Go.Proofs.Ytedckfbjhhabgaa

namespace Go.Proofs.Ytedckfbjhhabgaa
set_option linter.unusedVariables false
open Go.RowKit

def mRu (k i : Nat) : Ru := ⟨((k + i * 4 : Nat) : Int), ((k + i * 4 + 1 : Nat) : Int), ((k + i * 4 + 2 : Nat) : Int), ((k + i * 4 + 3 : Nat) : Int)⟩
def mRus (k n : Nat) : List Ru := (List.range n).map (mRu k)
theorem mRus_len (k n : Nat) : (mRus k n).length = n := by simp [mRus]
theorem mRu_ok (k i : Nat) (h : k + i * 4 + 4 ≤ 1099511627777) : (mRu k i).ok := ⟨by simp only [mRu, inI]; omega, by simp only [mRu, inI]; omega, by simp only [mRu, inI]; omega, by simp only [mRu, inI]; omega⟩
theorem mRu_mkd_ok {k0 : Nat} {xs : List Ru} (h : ∀ e ∈ xs, e.ok) (k : Nat) (hk : k ≤ xs.length) (hb : k0 + xs.length * 4 ≤ 1099511627776) : ∀ e ∈ mkd (mRu k0) xs k, e.ok := by
  intro e he
  unfold mkd at he
  rcases List.mem_append.1 he with h1 | h1
  · obtain ⟨i, hi, rfl⟩ := List.mem_map.1 h1
    exact mRu_ok _ _ (by have := List.mem_range.1 hi; omega)
  · exact h e (List.mem_of_mem_drop h1)

set_option maxHeartbeats 2000000 in
theorem markRuS_any (v : Value) (xs : List Ru) (lo hi k0 : Nat) (w : World) (hk0 : 1 ≤ k0) (hk1 : k0 + xs.length * 4 ≤ 1099511627776) (hown : RusO lo hi w v xs) :
    Calls Try.prog 25 #[v, .int .i64 k0] w fun e w' => e = .returned (.int .i64 (k0 + xs.length * 4 : Nat)) ∧ RusO lo hi w' v (mRus k0 xs.length) ∧ Only lo hi w w' := by
  obtain ⟨ho, hok, hun⟩ := hown
  have HGE := Lib.hid ho.ge
  have HUN := Lib.hid hun
  clear hun
  have hlen : (xs.map ruC).length = xs.length := List.length_map _
  have HOK := Lib.hid hok
  clear hok
  rcases ho.form with ⟨rfl, h0⟩ | ⟨g, cap, hv, hg, hgl, hn, hm⟩
  · have hx : xs = [] := List.map_eq_nil_iff.1 h0
    subst hx
    clear h0 hlen
    have HO := Lib.hid ho
    clear ho
    go_enter Try.func25, Try.ntmps25
    go_wp2
    refine wp_loop_rounds 1 ?_
    rw [rounds_succ]
    go_wp2
    go_ret
    exact ⟨by simp, ⟨HO.out, by simp [mRus], HUN.out⟩, Only.refl _ _ _⟩
  · rw [hlen] at hv hn
    subst hv
    unfold maxLen at hm
    have HO0 := Lib.hid ho
    clear ho
    go_enter Try.func25, Try.ntmps25
    go_wp2
    go_loopw [1, 5] (fun q i wr => ∃ k : Nat, k ≤ xs.length ∧ i = .int .i64 k ∧ q = .int .i64 ((k0 : Int) + k * 4) ∧
        Own lo 73 4 wr (.slice (some ⟨g, 0, none⟩) xs.length cap) ((mkd (mRu k0) xs k).map ruC) ∧ w.grownBy wr (some g)) (fun _ i _ => xs.length - (intOf i).toNat)
    case atStart => exact ⟨0, Nat.zero_le _, rfl, by simp, by simpa [mkd_zero] using HO0.out, World.grownBy.refl _ _⟩
    case round =>
      obtain ⟨k, hk, rfl, rfl, hO, hG⟩ := hrel
      have HO := Lib.hid hO
      by_cases hlt : k < xs.length
      · have hml : ((mkd (mRu k0) xs k).map ruC).length = xs.length := by rw [List.length_map, mkd_len _ _ _ (by omega)]
        have hat : ((mkd (mRu k0) xs k).map ruC)[k]'(by omega) = ruC xs[k] := by
          have h1 := mkd_at (mRu k0) xs k hlt
          rw [List.getElem?_eq_getElem (by rw [mkd_len _ _ _ (by omega)]; exact hlt)] at h1
          rw [List.getElem_map, Option.some.inj h1]
        obtain ⟨⟨x0, x1, x2, x3⟩, hs⟩ : ∃ s, xs[k] = s := ⟨_, rfl⟩
        rw [hs] at hat
        have HAT := Lib.hid hat
        have HML := Lib.hid hml
        have c0 := hO.cell k 0 (by omega) (by omega)
        have c1 := hO.cell k 1 (by omega) (by omega)
        have c2 := hO.cell k 2 (by omega) (by omega)
        have c3 := hO.cell k 3 (by omega) (by omega)
        rw [hat] at c0 c1 c2 c3
        simp [ruC] at c0 c1 c2 c3
        have fr0 := hO.frozen (k * 4)
        have fr1 := hO.frozen (k * 4 + 1)
        have fr2 := hO.frozen (k * 4 + 2)
        have fr3 := hO.frozen (k * 4 + 3)
        have g0 : (0 : Int) ≤ (k : Int) := by omega
        have g1 : (k : Int) < (xs.length : Int) := by omega
        clear hO hat hs HAT hml
        go_wp2
        go_roundw
        case rel =>
          obtain ⟨p1, p2⟩ := HO.out.put k (by rw [HML.out]; exact hlt) (ruC (mRu k0 k)) rfl
          rw [← List.map_set, mkd_set _ _ _ hlt] at p1
          refine ⟨k + 1, by omega, by go_num, by go_num, p1, grownBy_trans hG p2⟩
        case measure => simp [intOf]; omega
      · clear hO
        go_wp2
        go_ret
        obtain rfl : k = xs.length := by omega
        have h1 := HO.out
        have h2 := mRu_mkd_ok (k0 := k0) HOK.out xs.length (Nat.le_refl _) hk1
        rw [mkd_all] at h1 h2
        exact ⟨ret_int (by omega), ⟨h1, h2, HUN.out⟩, Only.of_grown (v := .slice (some ⟨g, 0, none⟩) xs.length cap) hG HGE.out HUN.out⟩

theorem mRus_get (k0 n i : Nat) (h : i < n) : (mRus k0 n)[i]'(by rw [mRus_len]; exact h) = mRu k0 i := by simp [mRus]

end Go.Proofs.Ytedckfbjhhabgaa

namespace Go.Proofs.Ytedckfbjhhabgaa
set_option linter.unusedVariables false
open Go.RowKit
theorem cell_only {lo hi b j : Nat} {w w' : World} {v : Value} (h : Only lo hi w w') (hc : w.cell? ⟨b, j, none⟩ = some v) (hb : b < lo ∨ hi ≤ b) : w'.cell? ⟨b, j, none⟩ = some v :=
  (World.cell?_of_block (h.block b (World.block_lt_of_cell? _ _ hc) hb)).trans hc
end Go.Proofs.Ytedckfbjhhabgaa
