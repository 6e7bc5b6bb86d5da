/- Contradictions, the model's and the program's. -/
import Derived.Test.YtedckfbjhhabgaaCompO
import Derived.Test.YtedckfbjhhabgaaTgG
import Derived.Test.YtedckfbjhhabgaaBx
import Derived.Maps.AppendAt
import Derived.Deep.CutRange
import Derived.Deep.RegionHeld3
namespace Go.Proofs.Ytedckfbjhhabgaa
set_option linter.unusedVariables false
open Go.RowKit Go.Sort

theorem conTRes_len {s : List Ru} {xs : List Int} {b : Bool} (h : conTRes s = (xs, b)) : xs.length ≤ 99 := by
  unfold conTRes at h
  by_cases hs : isSch s = true
  · rw [if_pos hs] at h
    obtain ⟨rfl, _⟩ := Prod.mk.inj h
    have h1 := dedF_len (conL s s)
    have h2 := conAt_len s s.length 0 (Nat.le_refl _) (Nat.zero_le _)
    have h8 := sch_len hs
    rw [conAt_all] at h2
    have h3 : s.length * s.length ≤ 8 * 8 := Nat.mul_le_mul h8 h8
    unfold conF
    omega
  · rw [if_neg hs] at h
    obtain ⟨rfl, _⟩ := Prod.mk.inj h
    exact Nat.zero_le _
theorem con_bound {s : List Ru} (hs : isSch s = true) {i k : Nat} (hi : i ≤ s.length) (hk : k ≤ s.length) : (conAt s i k).length ≤ 72 := by
  have h2 := conAt_len s i k hi hk
  have h8 := sch_len hs
  have h3 : s.length * s.length ≤ 8 * 8 := Nat.mul_le_mul h8 h8
  omega
theorem conD_step (s : List Ru) (i k : Nat) (hk : k < s.length) : dedF (conAt s i (k + 1)) = if conB (s.getD i ruD) (s.getD k ruD) = true then (if (s.getD i ruD).series ∈ dedF (conAt s i k) then dedF (conAt s i k) else dedF (conAt s i k) ++ [(s.getD i ruD).series]) else dedF (conAt s i k) := by
  rw [conAt_step s i k hk]
  split
  · rw [dedF_snoc]
  · rfl
theorem conB_mk (x0 x1 x2 x3 y0 y1 y2 y3 : Int) : conB ⟨x0, x1, x2, x3⟩ ⟨y0, y1, y2, y3⟩ = true ↔ x3 = 1 ∧ y3 = 3 ∧ x0 = y0 ∧ x2 = y2 := by simp [conB]
/-- Two boxes, each somewhere. -/
def TwoBx (wr wx : World) (a b : Value) (cs ds : List Value) : Prop := ∃ ga gb, a = .pointer (some ⟨ga, 0, none⟩) ∧ b = .pointer (some ⟨gb, 0, none⟩) ∧ BxV wx ga cs ∧ BxV wx gb ds ∧ Below wr.heap.size wr wx

set_option maxRecDepth 20000 in
set_option maxHeartbeats 8000000 in
theorem specCon_any (v : Value) (s : List Ru) (w : World) (h : RowR 4 rRu w v s) (xs : List Int) (b : Bool) (hres : conTRes s = (xs, b)) :
    Calls Try.prog 28 #[v] w fun e w' => ∃ v', e = .returned (.tuple #[v', .bool b]) ∧ IntsO w.heap.size w'.heap.size w' v' xs ∧ Below w.heap.size w w' := by
  obtain ⟨i0, hi, hz0, hz1, hz2⟩ := info_parts Try.info_int
  have b0 := below_al (Below.refl w.heap.size w) (.cells #[] 3 (0, 0))
  have hcap := h.cap
  have HS1 := Lib.hid (show ∀ W, Below w.heap.size w W → RowR 4 rRu W v s from fun W hb => h.below rRu_stable hb)
  obtain ⟨a1, c1, hv, hl1, hm1, r1⟩ := h.rus
  subst hv
  have R1 := Lib.hid r1
  unfold maxLen at hm1
  obtain ⟨bs, hs⟩ : ∃ b, isSch s = b := ⟨_, rfl⟩
  have HS := Lib.hid hs
  have HRES := Lib.hid hres
  clear h hs r1 hres
  cases bs
  · have hr := HRES.out
    unfold conTRes at hr
    rw [if_neg (by rw [HS.out]; simp)] at hr
    obtain ⟨rfl, rfl⟩ := Prod.mk.inj hr
    clear hr HRES
    go_enter Try.func28, Try.ntmps28
    go_wp2_with (first | (go_at_call 54; refine (l4Good_any _ s _ (HS1.out _ b0)).mono ?_; rw [HS.out]; rintro e w1 ⟨rfl, b1⟩; have HI1 := Lib.hid (((ints_newG w).below b1).wide (Nat.le_refl _) b1.size); replace b1 := below_chain b0 b1))
    go_ret2
    exact ⟨_, rfl, HI1.out, b1⟩
  · have hr := HRES.out
    unfold conTRes at hr
    rw [if_pos HS.out] at hr
    obtain ⟨rfl, rfl⟩ := Prod.mk.inj hr
    clear hr HRES
    have h8 := sch_len HS.out
    go_enter Try.func28, Try.ntmps28
    go_wp2_with (first | (go_at_call 54; refine (l4Good_any _ s _ (HS1.out _ b0)).mono ?_; rw [HS.out]; rintro e w1 ⟨rfl, b1⟩; have HI1 := Lib.hid (((ints_newG w).below b1).wide (Nat.le_refl _) b1.size); replace b1 := below_chain b0 b1))
    go_loopw [4, 5] (fun o i wr => ∃ n : Nat, n ≤ s.length ∧ i = .int .i64 n ∧ wr.ownsRow w.heap.size 3 1 o (dedF (conAt s n 0)).length ((dedF (conAt s n 0)).map vI) ∧ Below w.heap.size w wr) (fun _ i _ => s.length - (intOf i).toNat)
    case atStart => exact ⟨0, Nat.zero_le _, rfl, (by simpa [conAt_zero, dedF] using HI1.out.1), b1⟩
    case round =>
      clear b1 HI1
      obtain ⟨n, hn, rfl, hO, hb⟩ := hrel
      obtain ⟨wo, hwo⟩ : ∃ x, x = wr := ⟨_, rfl⟩
      subst hwo
      by_cases hnl : n < s.length
      · obtain ⟨bb, o1, hbb, rfl, e1⟩ := R1.out.resolve_left (fun e => by rw [e] at hnl; simp at hnl)
        have E1 := Lib.hid e1
        obtain ⟨⟨x0, x1, x2, x3⟩, hx⟩ : ∃ x, s.getD n ruD = x := ⟨_, rfl⟩
        obtain ⟨q0, q1, q2, q3, _⟩ := e1 n hnl
        rw [hx] at q0 q1 q2 q3
        simp only at q0 q1 q2 q3
        have HX := Lib.hid hx
        have HQ := Lib.hid (show ∀ W, Below w.heap.size w W → W.cell? ⟨bb, o1 + n * 4, none⟩ = some (.int .i64 x0) ∧ W.cell? ⟨bb, o1 + n * 4 + 1, none⟩ = some (.int .i64 x1) ∧ W.cell? ⟨bb, o1 + n * 4 + 2, none⟩ = some (.int .i64 x2) ∧ W.cell? ⟨bb, o1 + n * 4 + 3, none⟩ = some (.int .i64 x3) from fun W hb => ⟨cell_kept q0 hb, cell_kept q1 hb, cell_kept q2 hb, cell_kept q3 hb⟩)
        have g0 : (0 : Int) ≤ (n : Int) := by omega
        have g1 : (n : Int) < (s.length : Int) := by omega
        have HOS := Lib.hid hO
        clear q0 q1 q2 q3 e1 hx hO
        go_wp2_with fail
        go_loopw [4, 6] (fun o i wr => ∃ k : Nat, k ≤ s.length ∧ i = .int .i64 k ∧ wr.ownsRow w.heap.size 3 1 o (dedF (conAt s n k)).length ((dedF (conAt s n k)).map vI) ∧ Below w.heap.size w wr) (fun _ i _ => s.length - (intOf i).toNat)
        case atStart => exact ⟨0, Nat.zero_le _, rfl, HOS.out, hb⟩
        case round =>
          clear HOS hb
          obtain ⟨k, hk, rfl, hO, hb⟩ := hrel
          have hsz := hb.size
          by_cases hlt : k < s.length
          · obtain ⟨⟨y0, y1, y2, y3⟩, hy⟩ : ∃ x, s.getD k ruD = x := ⟨_, rfl⟩
            obtain ⟨q0, q1, q2, q3, _⟩ := E1.out k hlt
            rw [hy] at q0 q1 q2 q3
            simp only at q0 q1 q2 q3
            have k0 := cell_kept q0 hb
            have k1 := cell_kept q1 hb
            have k2 := cell_kept q2 hb
            have k3 := cell_kept q3 hb
            obtain ⟨f0, f1, f2, f3⟩ := HQ.out _ hb
            have hst := conD_step s n k hlt
            have hbd := Nat.le_trans (dedF_len (conAt s n k)) (con_bound HS.out hn hk)
            rw [HX.out, hy] at hst
            obtain ⟨P, hP⟩ : ∃ P, dedF (conAt s n k) = P := ⟨_, rfl⟩
            rw [hP] at hst hO hbd
            simp only at hst
            have HST := Lib.hid hst
            have HO := Lib.hid hO
            have h0 : (0 : Int) ≤ (k : Int) := by omega
            have h1 : (k : Int) < (s.length : Int) := by omega
            clear q0 q1 q2 q3 hy hst hP hO
            go_wp2_with fail
            go_cut [7, 8] from 20 to 67 (fun a b wx => TwoBx wr wx a b [.int .i64 x0, .int .i64 x1, .int .i64 x2, .int .i64 x3] [.int .i64 y0, .int .i64 y1, .int .i64 y2, .int .i64 y3])
            case first =>
              have ma0 : ∀ o : Obj, (wr.alloc o).cell? ⟨bb, o1 + n * 4, none⟩ = some (.int .i64 x0) := fun o => below_al_cell (a := wr) f0 o
              have ma1 : ∀ o : Obj, (wr.alloc o).cell? ⟨bb, o1 + n * 4 + 1, none⟩ = some (.int .i64 x1) := fun o => below_al_cell (a := wr) f1 o
              have ma2 : ∀ o : Obj, (wr.alloc o).cell? ⟨bb, o1 + n * 4 + 2, none⟩ = some (.int .i64 x2) := fun o => below_al_cell (a := wr) f2 o
              have ma3 : ∀ o : Obj, (wr.alloc o).cell? ⟨bb, o1 + n * 4 + 3, none⟩ = some (.int .i64 x3) := fun o => below_al_cell (a := wr) f3 o
              have mb0 : ∀ o : Obj, (wr.alloc o).cell? ⟨bb, o1 + k * 4, none⟩ = some (.int .i64 y0) := fun o => below_al_cell (a := wr) k0 o
              have mb1 : ∀ o : Obj, (wr.alloc o).cell? ⟨bb, o1 + k * 4 + 1, none⟩ = some (.int .i64 y1) := fun o => below_al_cell (a := wr) k1 o
              have mb2 : ∀ o : Obj, (wr.alloc o).cell? ⟨bb, o1 + k * 4 + 2, none⟩ = some (.int .i64 y2) := fun o => below_al_cell (a := wr) k2 o
              have mb3 : ∀ o : Obj, (wr.alloc o).cell? ⟨bb, o1 + k * 4 + 3, none⟩ = some (.int .i64 y3) := fun o => below_al_cell (a := wr) k3 o
              have mc0 : ∀ o o' : Obj, ((wr.alloc o).alloc o').cell? ⟨bb, o1 + n * 4, none⟩ = some (.int .i64 x0) := fun o o' => below_al_cell (ma0 o) o'
              have mc1 : ∀ o o' : Obj, ((wr.alloc o).alloc o').cell? ⟨bb, o1 + n * 4 + 1, none⟩ = some (.int .i64 x1) := fun o o' => below_al_cell (ma1 o) o'
              have mc2 : ∀ o o' : Obj, ((wr.alloc o).alloc o').cell? ⟨bb, o1 + n * 4 + 2, none⟩ = some (.int .i64 x2) := fun o o' => below_al_cell (ma2 o) o'
              have mc3 : ∀ o o' : Obj, ((wr.alloc o).alloc o').cell? ⟨bb, o1 + n * 4 + 3, none⟩ = some (.int .i64 x3) := fun o o' => below_al_cell (ma3 o) o'
              have md0 : ∀ o o' : Obj, ((wr.alloc o).alloc o').cell? ⟨bb, o1 + k * 4, none⟩ = some (.int .i64 y0) := fun o o' => below_al_cell (mb0 o) o'
              have md1 : ∀ o o' : Obj, ((wr.alloc o).alloc o').cell? ⟨bb, o1 + k * 4 + 1, none⟩ = some (.int .i64 y1) := fun o o' => below_al_cell (mb1 o) o'
              have md2 : ∀ o o' : Obj, ((wr.alloc o).alloc o').cell? ⟨bb, o1 + k * 4 + 2, none⟩ = some (.int .i64 y2) := fun o o' => below_al_cell (mb2 o) o'
              have md3 : ∀ o o' : Obj, ((wr.alloc o).alloc o').cell? ⟨bb, o1 + k * 4 + 3, none⟩ = some (.int .i64 y3) := fun o o' => below_al_cell (mb3 o) o'
              go_region
              all_goals go_wp2_with fail
              all_goals go_meet
              all_goals first
                | exact ⟨_, _, rfl, rfl, (BxV.new' (by simp) [.int .i64 x0, .int .i64 x1, .int .i64 x2, .int .i64 x3] _).al _, BxV.new' (by simp) [.int .i64 y0, .int .i64 y1, .int .i64 y2, .int .i64 y3] _, below_al (below_al ((Below.refl _ _).drew) _) _⟩
                | exact ⟨_, _, rfl, rfl, BxV.new' (by simp) [.int .i64 x0, .int .i64 x1, .int .i64 x2, .int .i64 x3] _, (BxV.new' (by simp) [.int .i64 y0, .int .i64 y1, .int .i64 y2, .int .i64 y3] _).al _, below_al (below_al ((Below.refl _ _).drew) _) _⟩
            case rest =>
              obtain ⟨ga, gb, rfl, rfl, HA, HB, bx⟩ := hcut
              have hbx := hb.trans (bx.mono hsz)
              have sx := bx.size
              have sx2 : w.heap.size ≤ wc.heap.size := by omega
              have HOX := Lib.hid (ownsRow_below HO.out bx)
              have HROW := Lib.hid (RowOf.of_owns HOX.out)
              have c0 := HA.cell 0
              have c2 := HA.cell 2
              have c3 := HA.cell 3
              have d0 := HB.cell 0
              have d2 := HB.cell 2
              have d3 := HB.cell 3
              simp at c0 c2 c3 d0 d2 d3
              clear HO f0 f1 f2 f3 k0 k1 k2 k3 hb HA HB bx
              by_cases e0 : x0 = y0
              · have r0 : (x0 == y0) = true := by simp [e0]
                have E0 := Lib.hid e0
                clear e0
                by_cases e1 : x3 = 1
                · have r1 : (x3 == 1) = true := by simp [e1]
                  have EE1 := Lib.hid e1
                  clear e1
                  by_cases e2 : y3 = 3
                  · have r2 : (y3 == 3) = true := by simp [e2]
                    have EE2 := Lib.hid e2
                    clear e2
                    by_cases e3 : x2 = y2
                    · have r3 : (x2 == y2) = true := by simp [e3]
                      have HST2 := Lib.hid (HST.out.trans (if_pos ((conB_mk x0 x1 x2 x3 y0 y1 y2 y3).2 ⟨EE1.out, EE2.out, E0.out, e3⟩)))
                      clear e3
                      obtain ⟨bm, hbm⟩ : ∃ b, decide (x0 ∈ P) = b := ⟨_, rfl⟩
                      have HM := Lib.hid hbm
                      clear hbm
                      cases bm
                      · have HST3 := Lib.hid (HST2.out.trans (if_neg (of_decide_eq_false HM.out)))
                        go_wp2_with (first | (go_at_call 62; refine (l1Has_any _ P x0 _ HROW.out).mono ?_; rw [HM.out]; rintro e w2 ⟨rfl, b2⟩; have hO2 := ownsRow_below HOX.out b2; have hb2 := hbx.trans (b2.mono sx2); have hs2 := hb2.size; have z0 := cell_kept c0 b2) | (at_builtin; refine wpList_append_own _ rfl _ _ 30 rfl w.heap.size 3 i0 (.int .i64 0) 1 8 Try.underlying30 hi hz0 hz1 hz2 rfl (by decide) _ _ _ rfl (hO2.alloc _) ⟨w2.heap.size, 0, none⟩ 1 1 [.int .i64 x0] rfl rfl (cell1_new _ _ _ (by simp)) (by simp [Value.oneCell']) (by unfold maxLen; omega) (by omega) (by simp; omega) ?_; intro v' w4 hown' hgrow _))
                        have HOWN := Lib.hid hown'
                        have HB2 := Lib.hid (below_app hb2 (Nat.le_refl _) hO2 hgrow)
                        clear hown' hgrow hO2
                        go_wp2_with fail
                        go_roundw
                        case rel => exact ⟨k + 1, by omega, by go_num, (by rw [HST3.out]; simpa [vI] using HOWN.out), HB2.out⟩
                        case measure => simp [intOf]; omega
                      · have HST3 := Lib.hid (HST2.out.trans (if_pos (of_decide_eq_true HM.out)))
                        go_wp2_with (first | (go_at_call 62; refine (l1Has_any _ P x0 _ HROW.out).mono ?_; rw [HM.out]; rintro e w2 ⟨rfl, b2⟩; have hO2 := ownsRow_below HOX.out b2; have hb2 := hbx.trans (b2.mono sx2); have hs2 := hb2.size; have z0 := cell_kept c0 b2))
                        have HO2 := Lib.hid hO2
                        clear hO2
                        go_roundw
                        case rel => exact ⟨k + 1, by omega, by go_num, (by rw [HST3.out]; exact HO2.out), hb2⟩
                        case measure => simp [intOf]; omega
                    · have r3 : (x2 == y2) = false := by simp [e3]
                      have HSK := Lib.hid (HST.out.trans (if_neg (fun q => by have := (conB_mk x0 x1 x2 x3 y0 y1 y2 y3).1 q; exact e3 this.2.2.2)))
                      go_wp2_with fail
                      go_roundw
                      case rel => exact ⟨k + 1, by omega, by go_num, (by rw [HSK.out]; exact HOX.out), hbx⟩
                      case measure => simp [intOf]; omega
                  · have r2 : (y3 == 3) = false := by simp [e2]
                    have HSK := Lib.hid (HST.out.trans (if_neg (fun q => by have := (conB_mk x0 x1 x2 x3 y0 y1 y2 y3).1 q; exact e2 this.2.1)))
                    go_wp2_with fail
                    go_roundw
                    case rel => exact ⟨k + 1, by omega, by go_num, (by rw [HSK.out]; exact HOX.out), hbx⟩
                    case measure => simp [intOf]; omega
                · have r1 : (x3 == 1) = false := by simp [e1]
                  have HSK := Lib.hid (HST.out.trans (if_neg (fun q => by have := (conB_mk x0 x1 x2 x3 y0 y1 y2 y3).1 q; exact e1 this.1)))
                  go_wp2_with fail
                  go_roundw
                  case rel => exact ⟨k + 1, by omega, by go_num, (by rw [HSK.out]; exact HOX.out), hbx⟩
                  case measure => simp [intOf]; omega
              · have r0 : (x0 == y0) = false := by simp [e0]
                have HSK := Lib.hid (HST.out.trans (if_neg (fun q => by have := (conB_mk x0 x1 x2 x3 y0 y1 y2 y3).1 q; exact e0 this.2.2.1)))
                go_wp2_with fail
                go_roundw
                case rel => exact ⟨k + 1, by omega, by go_num, (by rw [HSK.out]; exact HOX.out), hbx⟩
                case measure => simp [intOf]; omega
          · obtain rfl : k = s.length := by omega
            have HO := Lib.hid hO
            clear hO
            go_wp2_with fail
            go_roundw
            case rel => exact ⟨n + 1, by omega, by go_num, (by rw [← conAt_next s n hnl]; exact HO.out), hb⟩
            case measure => simp [intOf]; omega
      · obtain rfl : n = s.length := by omega
        rw [conAt_all] at hO
        have HF := Lib.hid (ints_rowG hO rfl)
        clear hO
        go_wp2_with fail
        go_ret2
        exact ⟨_, rfl, HF.out, hb⟩
theorem contradict_any (a b : Ru) (w : World) :
    Calls Try.prog 64 #[.agg #[.int .i64 a.series, .int .i64 a.event, .int .i64 a.days, .int .i64 a.act], .agg #[.int .i64 b.series, .int .i64 b.event, .int .i64 b.days, .int .i64 b.act]] w fun e w' => e = .returned (.bool (conB a b)) ∧ Below w.heap.size w w' := by
  obtain ⟨x0, x1, x2, x3⟩ := a
  obtain ⟨y0, y1, y2, y3⟩ := b
  have b0 := below_al (below_al (Below.refl w.heap.size w) (.cells #[.int .i64 x0, .int .i64 x1, .int .i64 x2, .int .i64 x3] 73 (0, 0))) (.cells #[.int .i64 y0, .int .i64 y1, .int .i64 y2, .int .i64 y3] 73 (0, 0))
  have hm := conB_mk x0 x1 x2 x3 y0 y1 y2 y3
  obtain ⟨bc, hbc⟩ : ∃ b, conB ⟨x0, x1, x2, x3⟩ ⟨y0, y1, y2, y3⟩ = b := ⟨_, rfl⟩
  rw [hbc] at hm
  simp only
  rw [hbc]
  have HM := Lib.hid hm
  clear hm hbc
  by_cases e1 : x3 = 1
  · have r1 : (x3 == 1) = true := by simp [e1]
    have E1 := Lib.hid e1
    clear e1
    by_cases e2 : y3 = 3
    · have r2 : (y3 == 3) = true := by simp [e2]
      have E2 := Lib.hid e2
      clear e2
      by_cases e0 : x0 = y0
      · have r0 : (x0 == y0) = true := by simp [e0]
        have E0 := Lib.hid e0
        clear e0
        by_cases e3 : x2 = y2
        · have r3 : (x2 == y2) = true := by simp [e3]
          have hb : bc = true := HM.out.2 ⟨E1.out, E2.out, E0.out, e3⟩
          subst hb
          clear e3
          go_enter Try.func64, Try.ntmps64
          go_wp2_with fail
          go_ret
          exact ⟨rfl, b0⟩
        · have r3 : (x2 == y2) = false := by simp [e3]
          have hb : bc = false := by rw [Bool.eq_false_iff]; exact fun q => e3 (HM.out.1 q).2.2.2
          subst hb
          clear e3
          go_enter Try.func64, Try.ntmps64
          go_wp2_with fail
          go_ret
          exact ⟨rfl, b0⟩
      · have r0 : (x0 == y0) = false := by simp [e0]
        have hb : bc = false := by rw [Bool.eq_false_iff]; exact fun q => e0 (HM.out.1 q).2.2.1
        subst hb
        clear e0
        go_enter Try.func64, Try.ntmps64
        go_wp2_with fail
        go_ret
        exact ⟨rfl, b0⟩
    · have r2 : (y3 == 3) = false := by simp [e2]
      have hb : bc = false := by rw [Bool.eq_false_iff]; exact fun q => e2 (HM.out.1 q).2.1
      subst hb
      clear e2
      go_enter Try.func64, Try.ntmps64
      go_wp2_with fail
      go_ret
      exact ⟨rfl, b0⟩
  · have r1 : (x3 == 1) = false := by simp [e1]
    have hb : bc = false := by rw [Bool.eq_false_iff]; exact fun q => e1 (HM.out.1 q).1
    subst hb
    clear e1
    go_enter Try.func64, Try.ntmps64
    go_wp2_with fail
    go_ret
    exact ⟨rfl, b0⟩

set_option maxRecDepth 20000 in
set_option maxHeartbeats 8000000 in
theorem implCon_any (v : Value) (s : List Ru) (w : World) (h : RowR 4 rRu w v s) (xs : List Int) (b : Bool) (hres : conTRes s = (xs, b)) :
    Calls Try.prog 29 #[v] w fun e w' => ∃ v', e = .returned (.tuple #[v', .bool b]) ∧ IntsO w.heap.size w'.heap.size w' v' xs ∧ Below w.heap.size w w' := by
  obtain ⟨i0, hi, hz0, hz1, hz2⟩ := info_parts Try.info_int
  have hcap := h.cap
  have HS1 := Lib.hid (show ∀ W, Below w.heap.size w W → RowR 4 rRu W v s from fun W hb => h.below rRu_stable hb)
  obtain ⟨a1, c1, hv, hl1, hm1, r1⟩ := h.rus
  subst hv
  have R1 := Lib.hid r1
  unfold maxLen at hm1
  obtain ⟨bs, hs⟩ : ∃ b, isSch s = b := ⟨_, rfl⟩
  have HS := Lib.hid hs
  have HRES := Lib.hid hres
  clear h hs r1 hres
  cases bs
  · have hr := HRES.out
    unfold conTRes at hr
    rw [if_neg (by rw [HS.out]; simp)] at hr
    obtain ⟨rfl, rfl⟩ := Prod.mk.inj hr
    clear hr HRES
    go_enter Try.func29, Try.ntmps29
    go_wp2_with (first | (go_at_call 63; refine (implIsSchedule_any _ s _ (HS1.out _ (Below.refl _ _))).mono ?_; rw [HS.out]; rintro e w1 ⟨rfl, b1⟩))
    go_ret2
    exact ⟨_, rfl, ints_nilG _ _ _, b1⟩
  · have hr := HRES.out
    unfold conTRes at hr
    rw [if_pos HS.out] at hr
    obtain ⟨rfl, rfl⟩ := Prod.mk.inj hr
    clear hr HRES
    have h8 := sch_len HS.out
    go_enter Try.func29, Try.ntmps29
    go_wp2_with (first | (go_at_call 63; refine (implIsSchedule_any _ s _ (HS1.out _ (Below.refl _ _))).mono ?_; rw [HS.out]; rintro e w1 ⟨rfl, b1⟩))
    go_loopw [4, 14] (fun o i wr => ∃ n : Nat, n ≤ s.length ∧ i = .int .i64 n ∧ wr.ownsRow w.heap.size 3 1 o (conAt s n 0).length ((conAt s n 0).map vI) ∧ Below w.heap.size w wr) (fun _ i _ => s.length - (intOf i).toNat)
    case atStart => exact ⟨0, Nat.zero_le _, rfl, (by simpa [conAt_zero] using (ints_nilG w.heap.size w.heap.size w1).1), b1⟩
    case round =>
      clear b1
      obtain ⟨n, hn, rfl, hO, hb⟩ := hrel
      obtain ⟨wo, hwo⟩ : ∃ x, x = wr := ⟨_, rfl⟩
      subst hwo
      by_cases hnl : n < s.length
      · obtain ⟨bb, o1, hbb, rfl, e1⟩ := R1.out.resolve_left (fun e => by rw [e] at hnl; simp at hnl)
        have E1 := Lib.hid e1
        obtain ⟨⟨x0, x1, x2, x3⟩, hx⟩ : ∃ x, s.getD n ruD = x := ⟨_, rfl⟩
        obtain ⟨q0, q1, q2, q3, _⟩ := e1 n hnl
        rw [hx] at q0 q1 q2 q3
        simp only at q0 q1 q2 q3
        have f0 := cell_kept q0 hb
        have f1 := cell_kept q1 hb
        have f2 := cell_kept q2 hb
        have f3 := cell_kept q3 hb
        have HX := Lib.hid hx
        have g0 : (0 : Int) ≤ (n : Int) := by omega
        have g1 : (n : Int) < (s.length : Int) := by omega
        have hsz := hb.size
        have HBB := Lib.hid (BxV.new wo [.int .i64 x0, .int .i64 x1, .int .i64 x2, .int .i64 x3] 73)
        have HNG := Lib.hid (show ∀ g, (_ : Value).ownBlock = some g → g ≠ wo.heap.size from fun g hg => by have := (hO.lt g hg).2; omega)
        have HOS := Lib.hid (hO.alloc (.cells #[.int .i64 x0, .int .i64 x1, .int .i64 x2, .int .i64 x3] 73 (0, 0)))
        have HBL := Lib.hid (below_al hb (.cells #[.int .i64 x0, .int .i64 x1, .int .i64 x2, .int .i64 x3] 73 (0, 0)))
        clear q0 q1 q2 q3 e1 hx hO
        go_wp2_with fail
        generalize hWW : wo.alloc (.cells #[.int .i64 x0, .int .i64 x1, .int .i64 x2, .int .i64 x3] 73 (0, 0)) = wB at *
        obtain ⟨G, hG⟩ : ∃ G, wo.heap.size = G := ⟨_, rfl⟩
        rw [hG] at HBB HNG
        try rw [hG]
        clear hWW
        go_loopw [4, 20] (fun o i wr => ∃ k : Nat, k ≤ s.length ∧ i = .int .i64 k ∧ Hid (BxV wr G [.int .i64 x0, .int .i64 x1, .int .i64 x2, .int .i64 x3]) ∧ Hid (∀ g, o.ownBlock = some g → g ≠ G) ∧ wr.ownsRow w.heap.size 3 1 o (conAt s n k).length ((conAt s n k).map vI) ∧ Below w.heap.size w wr) (fun _ i _ => s.length - (intOf i).toNat)
        case atStart => exact ⟨0, Nat.zero_le _, rfl, HBB, HNG, HOS.out, HBL.out⟩
        case round =>
          clear HOS HBL HBB HNG hb f0 f1 f2 f3 hsz
          obtain ⟨k, hk, rfl, HXB, HNG, hO, hb⟩ := hrel
          have hsz := hb.size
          by_cases hlt : k < s.length
          · obtain ⟨⟨y0, y1, y2, y3⟩, hy⟩ : ∃ x, s.getD k ruD = x := ⟨_, rfl⟩
            obtain ⟨q0, q1, q2, q3, _⟩ := E1.out k hlt
            rw [hy] at q0 q1 q2 q3
            simp only at q0 q1 q2 q3
            have k0 := cell_kept q0 hb
            have k1 := cell_kept q1 hb
            have k2 := cell_kept q2 hb
            have k3 := cell_kept q3 hb
            have hst := conAt_step s n k hlt
            have hbd := con_bound HS.out hn hk
            rw [HX.out, hy] at hst
            obtain ⟨P, hP⟩ : ∃ P, conAt s n k = P := ⟨_, rfl⟩
            rw [hP] at hst hO hbd
            simp only at hst
            obtain ⟨bc, hbc⟩ : ∃ b, conB ⟨x0, x1, x2, x3⟩ ⟨y0, y1, y2, y3⟩ = b := ⟨_, rfl⟩
            rw [hbc] at hst
            have HBC := Lib.hid hbc
            have HST := Lib.hid hst
            have bya := below_al (Below.refl wr.heap.size wr) (.cells #[.int .i64 y0, .int .i64 y1, .int .i64 y2, .int .i64 y3] 73 (0, 0))
            have hba := below_al hb (.cells #[.int .i64 y0, .int .i64 y1, .int .i64 y2, .int .i64 y3] 73 (0, 0))
            have HOA := Lib.hid (hO.alloc (.cells #[.int .i64 y0, .int .i64 y1, .int .i64 y2, .int .i64 y3] 73 (0, 0)))
            have HXA := Lib.hid (HXB.out.below bya)
            have c0 := HXA.out.cell 0
            have c1 := HXA.out.cell 1
            have c2 := HXA.out.cell 2
            have c3 := HXA.out.cell 3
            simp at c0 c1 c2 c3
            have h0 : (0 : Int) ≤ (k : Int) := by omega
            have h1 : (k : Int) < (s.length : Int) := by omega
            clear q0 q1 q2 q3 hy hst hP hO hbc
            cases bc
            · have HST2 := Lib.hid (HST.out.trans (if_neg (by simp)))
              go_wp2_with (first | (go_at_call 64; refine (contradict_any ⟨x0, x1, x2, x3⟩ ⟨y0, y1, y2, y3⟩ _).mono ?_; rw [HBC.out]; rintro e w2 ⟨rfl, b2⟩; have hO2 := ownsRow_below HOA.out b2; have hb2 := hba.trans (b2.mono hba.size); have hs2 := hb2.size; have HX2 := Lib.hid (HXB.out.below bya |>.below b2); have z0 := HX2.out.cell 0; simp at z0))
              have HO2 := Lib.hid hO2
              clear hO2
              go_roundw
              case rel => exact ⟨k + 1, by omega, by go_num, HX2, HNG, (by rw [HST2.out]; exact HO2.out), hb2⟩
              case measure => simp [intOf]; omega
            · have HST2 := Lib.hid (HST.out.trans (if_pos rfl))
              go_wp2_with (first | (go_at_call 64; refine (contradict_any ⟨x0, x1, x2, x3⟩ ⟨y0, y1, y2, y3⟩ _).mono ?_; rw [HBC.out]; rintro e w2 ⟨rfl, b2⟩; have hO2 := ownsRow_below HOA.out b2; have hb2 := hba.trans (b2.mono hba.size); have hs2 := hb2.size; have HX2 := Lib.hid (HXB.out.below bya |>.below b2); have z0 := HX2.out.cell 0; simp at z0) | (at_builtin; refine wpList_append_own_at _ rfl _ _ 30 rfl w.heap.size 3 i0 (.int .i64 0) 1 8 Try.underlying30 hi hz0 hz1 hz2 rfl (by decide) _ _ _ rfl (hO2.alloc _) ⟨w2.heap.size, 0, none⟩ 1 1 [.int .i64 x0] rfl rfl (cell1_new _ _ _ (by simp)) (by simp [Value.oneCell']) (by unfold maxLen; omega) (by omega) (by simp; omega) ?_; intro v' w4 hown' hgrow _ hat))
              have HOWN := Lib.hid hown'
              have HB2 := Lib.hid (below_app hb2 (Nat.le_refl _) hO2 hgrow)
              have hGl := HX2.out.lt
              have HX4 := Lib.hid ((HX2.out.al _).grown hgrow (fun q => HNG.out G q.symm rfl))
              have HN4 := Lib.hid (show ∀ g, v'.ownBlock = some g → g ≠ G from fun g hg => by rcases hat with q | q; (· exact HNG.out g (q.symm.trans hg)); (· rw [hg] at q; simp at q; omega))
              clear hown' hgrow hO2 hat
              go_wp2_with fail
              go_roundw
              case rel => exact ⟨k + 1, by omega, by go_num, HX4, HN4, (by rw [HST2.out]; simpa [vI] using HOWN.out), HB2.out⟩
              case measure => simp [intOf]; omega
          · obtain rfl : k = s.length := by omega
            have HO := Lib.hid hO
            clear hO
            go_wp2_with fail
            go_roundw
            case rel => exact ⟨n + 1, by omega, by go_num, (by rw [← conAt_next s n hnl]; exact HO.out), hb⟩
            case measure => simp [intOf]; omega
      · obtain rfl : n = s.length := by omega
        rw [conAt_all] at hO
        have hbd := con_bound HS.out (Nat.le_refl s.length) (Nat.zero_le s.length)
        rw [conAt_all] at hbd
        have HC := Lib.hid (compactO_any w.heap.size _ (conL s s) (conF s) wo hO hb.size (by omega) (con_compact HS.out) (dedF_len _))
        clear hO
        go_wp2_with (first | (go_at_call 65; refine HC.out.mono ?_; rintro e w5 ⟨v5, rfl, ho5, b5⟩))
        have HF := Lib.hid ho5
        clear ho5
        go_ret2
        exact ⟨_, rfl, HF.out, hb.trans b5⟩

end Go.Proofs.Ytedckfbjhhabgaa
