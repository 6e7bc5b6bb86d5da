/- Formats, the model's: LostRecords. -/
import Derived.Test.YtcfghigmijibeaaFo2S
import Derived.Test.YtcfghigmijibeaaFoK
import Derived.Test.YtcfghigmijibeaaIntsN
import Derived.WalkSpells
namespace Go.Proofs.Ytcfghigmijibeaa
set_option linter.unusedVariables false
open Go.RowKit Go.Sort Go.Maps

set_option maxRecDepth 20000 in
set_option maxHeartbeats 4000000 in
theorem specLostRecords_any (v vc : Value) (t : List Fo) (cs : List Co) (d : Int) (w : World) (h : RowR 4 rFo w v t) (hc : RowR 4 rCo w vc cs) (xs : List Int) (b : Bool) (hres : losRes t cs d = (xs, b)) :
    Calls Try.prog 25 #[v, vc, .int .i64 d] w fun e w' => ∃ v', e = .returned (.tuple #[v', .bool b]) ∧ IntsO w.heap.size w'.heap.size w' v' xs ∧ Below w.heap.size w w' := by
  obtain ⟨i0, hi, hz0, hz1, hz2⟩ := info_parts Try.info_intN
  have H := Lib.hid h
  have HCO := Lib.hid hc
  obtain ⟨a2, c2, rfl, hl2, hm2, _⟩ := h.fos
  obtain ⟨a1, c1, rfl, hl1, hm1, r1⟩ := hc.cos
  have R1 := Lib.hid r1
  unfold maxLen at hm1
  obtain ⟨bg, hg⟩ : ∃ b, areCo t cs = b := ⟨_, rfl⟩
  have HG := Lib.hid hg
  obtain ⟨bd, hd⟩ : ∃ b, decide ((0 : Int) ≤ d ∧ d ≤ 20000) = b := ⟨_, rfl⟩
  have HD := Lib.hid hd
  have NO := Lib.hid (fun hn => losRes_no hres hn)
  have YES := Lib.hid (fun hn => losRes_yes hres hn)
  have HI0 := Lib.hid (ints_newN w)
  have b0 := below_al (Below.refl w.heap.size w) (.cells #[] 3 (0, 0))
  clear h hc r1 hg hd hres
  cases bg
  · obtain ⟨rfl, rfl⟩ := NO.out (fun h => by rw [HG.out] at h; exact absurd h.1 (by simp))
    go_enter Try.func25, Try.ntmps25
    go_wp2_with (first | (go_at_call 52; refine (l7Copies_any _ _ t cs _ (H.out.below rFo_stable b0) (HCO.out.below rCo_stable b0)).mono ?_; rw [HG.out]; rintro e w1 ⟨rfl, b1⟩; have HI1 := Lib.hid ((HI0.out.below b1).wide (Nat.le_refl _) b1.size); replace b1 := below_chain b0 b1; clear HI0 b0))
    go_ret2
    exact ⟨_, rfl, HI1.out, b1⟩
  · cases bd
    · obtain ⟨rfl, rfl⟩ := NO.out (fun h => by have := h.2; unfold dayB at this; rw [HD.out] at this; cases this)
      go_enter Try.func25, Try.ntmps25
      go_wp2_with (first | (go_at_call 52; refine (l7Copies_any _ _ t cs _ (H.out.below rFo_stable b0) (HCO.out.below rCo_stable b0)).mono ?_; rw [HG.out]; rintro e w1 ⟨rfl, b1⟩; have HI1 := Lib.hid ((HI0.out.below b1).wide (Nat.le_refl _) b1.size); replace b1 := below_chain b0 b1; clear HI0 b0) | (go_at_call 58; refine (l2Day_any d _).mono ?_; rw [HD.out]; rintro e w2 ⟨rfl, h2⟩; subst w2))
      go_ret2
      exact ⟨_, rfl, HI1.out, b1⟩
    · obtain ⟨rfl, rfl⟩ := YES.out ⟨HG.out, HD.out⟩
      have hn15 := (co_iff.1 HG.out).2.1
      clear NO YES
      go_enter Try.func25, Try.ntmps25
      go_wp2_with (first | (go_at_call 52; refine (l7Copies_any _ _ t cs _ (H.out.below rFo_stable b0) (HCO.out.below rCo_stable b0)).mono ?_; rw [HG.out]; rintro e w1 ⟨rfl, b1⟩; have HI1 := Lib.hid ((HI0.out.below b1).wide (Nat.le_refl _) b1.size); replace b1 := below_chain b0 b1; clear HI0 b0) | (go_at_call 58; refine (l2Day_any d _).mono ?_; rw [HD.out]; rintro e w2 ⟨rfl, h2⟩; subst w2))
      go_loopw [8, 9] (fun o i wr => ∃ k : Nat, k ≤ cs.length ∧ i = .int .i64 k ∧ wr.ownsRow w.heap.size 3 1 o (losF t d cs k).length ((losF t d cs k).map vI) ∧ Below w.heap.size w wr) (fun _ i _ => cs.length - (Go.RowKit.intOf i).toNat)
      case atStart => exact ⟨0, Nat.zero_le _, rfl, by simpa [losF] using HI1.out.1, b1⟩
      case round =>
        clear b1 HI1
        obtain ⟨k, hk, rfl, hO, hb⟩ := hrel
        obtain ⟨wo, hwo⟩ : ∃ x, x = wr := ⟨_, rfl⟩
        subst hwo
        have hbs := hb.size
        by_cases hlt : k < cs.length
        · obtain ⟨bR, oR, hbR, rfl, e1⟩ := R1.out.resolve_left (fun e => by rw [e] at hlt; simp at hlt)
          obtain ⟨x0, hx⟩ : ∃ s, (cs.getD k coD).rcd = s := ⟨_, rfl⟩
          obtain ⟨q0, _⟩ := e1 k hlt
          rw [hx] at q0
          have HX := Lib.hid hx
          have f0 := cell_kept q0 hb
          have g0 : (0 : Int) ≤ (k : Int) := by omega
          have g1 : (k : Int) < (cs.length : Int) := by omega
          have hsu := losF_succ t d hlt
          have hle := losF_len t d cs k hk
          obtain ⟨Pp, hP⟩ : ∃ P, losF t d cs k = P := ⟨_, rfl⟩
          have hst : losStep t d cs Pp (cs.getD k coD) = if keptB t d cs x0 = false ∧ ¬ x0 ∈ Pp then Pp ++ [x0] else Pp := by unfold losStep; rw [hx]
          rw [hP] at hO hsu hle
          rw [hst] at hsu
          have HSU := Lib.hid hsu
          have HO := Lib.hid hO
          have E1 := Lib.hid e1
          clear q0 hx hsu hP hO e1 hst
          go_wp2_with fail
          go_loopw [10, 11] (fun l i wr => ∃ (m : Nat) (lv : Bool), m ≤ cs.length ∧ i = .int .i64 m ∧ l = .bool lv ∧ Hid (keptB t d (cs.take m) x0 = !lv) ∧ Below wo.heap.size wo wr) (fun _ i _ => cs.length - (Go.RowKit.intOf i).toNat)
          case atStart => exact ⟨0, true, Nat.zero_le _, rfl, rfl, Lib.hid (by simp [keptB]), Below.refl _ _⟩
          case round =>
            obtain ⟨m, lv, hm, rfl, rfl, HV, hb2⟩ := hrel
            have hbw := hb.trans (hb2.mono hbs)
            have hws := hbw.size
            have hwr2 := hb2.size
            by_cases hml : m < cs.length
            · obtain ⟨⟨y0, y1, y2, y3⟩, hy⟩ : ∃ s, cs.getD m coD = s := ⟨_, rfl⟩
              obtain ⟨p0, p1, p2, p3, _⟩ := E1.out m hml
              rw [hy] at p0 p1
              simp only at p0 p1
              have d0 := cell_kept p0 hbw
              have d1 := cell_kept p1 hbw
              have k0 := cell_kept f0 hb2
              have hss := keptB_snoc t d (cs.take m) ⟨y0, y1, y2, y3⟩ x0
              rw [← hy, ← take_co hml, HV.out, hy] at hss
              simp only at hss
              have HSS := Lib.hid hss
              have hid := (coOne_iff.1 (co_at HG.out hml).1).2.1
              rw [hy] at hid
              simp only at hid
              have HID := Lib.hid hid
              have h0m : (0 : Int) ≤ (m : Int) := by omega
              have h1m : (m : Int) < (cs.length : Int) := by omega
              have m0 := cell_regrown d0
              have m1 := cell_regrown d1
              have m2 := cell_regrown k0
              clear p0 p1 p2 p3 hy hss hid
              by_cases he : y0 = x0
              · have hq : (y0 == x0) = true := by simp [he]
                obtain ⟨lf, hlf⟩ : ∃ n, lastF t y1 = n := ⟨_, rfl⟩
                have hcL : ∀ dd os, Calls Try.prog 59 #[.slice a2 t.length c2, .int .i64 y1] (grow (redrawn wr dd) os) fun e w'' => e = .returned (.int .i64 lf) ∧ ∃ p : Regrown, w'' = grow (redrawn wr p.d) p.os := fun dd os => Calls.regrown_of (by have := l7Last_any _ t y1 (grow (redrawn wr dd) os) ((H.out.below rFo_stable hbw).below rFo_stable (below_regrown wr dd os)) HID.out; rwa [hlf] at this)
                by_cases hd2 : d ≤ lf
                · have HSS2 : Hid (keptB t d (cs.take (m + 1)) x0 = true) := Lib.hid (by rw [HSS.out, hlf, decide_eq_true he, decide_eq_true hd2]; simp)
                  clear he hlf
                  go_wp2_with fail
                  refine wp_region_quiet_below (by kernel_rfl) (by kernel_rfl) ?_
                  repeat (go_big_quiet_step (first | exact hcL _ _))
                  refine wpQuiet_nil ?_
                  intro _ hw'
                  obtain ⟨⟨dq, osq⟩, hw''⟩ := hw'
                  subst hw''
                  have bq := below_regrown wr dq osq
                  generalize grow (redrawn wr dq) osq = w3 at bq ⊢
                  go_wp2_with fail
                  go_roundw
                  case rel => exact ⟨m + 1, false, by omega, by go_num, rfl, HSS2, hb2.trans (bq.mono hwr2)⟩
                  case measure => simp [Go.RowKit.intOf]; omega
                · have dd2 : decide (d ≤ lf) = false := decide_eq_false hd2
                  have HSS2 : Hid (keptB t d (cs.take (m + 1)) x0 = !lv) := Lib.hid (by rw [HSS.out, hlf, decide_eq_false hd2]; simp)
                  clear he hlf
                  go_wp2_with fail
                  refine wp_region_quiet_below (by kernel_rfl) (by kernel_rfl) ?_
                  repeat (go_big_quiet_step (first | exact hcL _ _))
                  refine wpQuiet_nil ?_
                  intro _ hw'
                  obtain ⟨⟨dq, osq⟩, hw''⟩ := hw'
                  subst hw''
                  have bq := below_regrown wr dq osq
                  generalize grow (redrawn wr dq) osq = w3 at bq ⊢
                  go_wp2_with fail
                  go_roundw
                  case rel => exact ⟨m + 1, lv, by omega, by go_num, rfl, HSS2, hb2.trans (bq.mono hwr2)⟩
                  case measure => simp [Go.RowKit.intOf]; omega
              · have hq : (y0 == x0) = false := by simp [he]
                have HSS2 : Hid (keptB t d (cs.take (m + 1)) x0 = !lv) := Lib.hid (by rw [HSS.out, decide_eq_false he]; simp)
                clear he
                go_wp2_with fail
                refine wp_region_quiet_below (by kernel_rfl) (by kernel_rfl) ?_
                repeat (go_big_quiet_step (fail))
                refine wpQuiet_nil ?_
                intro _ hw'
                obtain ⟨⟨dq, osq⟩, hw''⟩ := hw'
                subst hw''
                have bq := below_regrown wr dq osq
                generalize grow (redrawn wr dq) osq = w3 at bq ⊢
                go_wp2_with fail
                go_roundw
                case rel => exact ⟨m + 1, lv, by omega, by go_num, rfl, HSS2, hb2.trans (bq.mono hwr2)⟩
                case measure => simp [Go.RowKit.intOf]; omega
            · have hmk : m = cs.length := by omega
              have HV2 : Hid (keptB t d cs x0 = !lv) := Lib.hid (by have := HV.out; rwa [hmk, List.take_length] at this)
              have HO2 := Lib.hid (ownsRow_below HO.out hb2)
              have k0 := cell_kept f0 hb2
              have H0 := Lib.hid (RowOf.of_owns HO2.out)
              clear hmk HO f0
              cases lv
              · have HSU2 := Lib.hid (HSU.out.trans (if_neg (by rw [HV2.out]; simp)))
                go_wp2_with fail
                go_roundw
                case rel => exact ⟨k + 1, by omega, by go_num, by rw [HSU2.out]; exact HO2.out, hbw⟩
                case measure => simp [Go.RowKit.intOf]; omega
              · obtain ⟨bi, hbi⟩ : ∃ b, decide (x0 ∈ Pp) = b := ⟨_, rfl⟩
                have HBI := Lib.hid hbi
                clear hbi
                cases bi
                · have HSU2 := Lib.hid (HSU.out.trans (if_pos ⟨by rw [HV2.out]; rfl, of_decide_eq_false HBI.out⟩))
                  go_wp2_with (first | (go_at_call 60; refine (l1Has_any _ Pp x0 _ H0.out).mono ?_; rw [HBI.out]; rintro e w7 ⟨rfl, b7⟩; have HO3 := Lib.hid (ownsRow_below HO2.out b7); replace k0 := cell_kept k0 b7; replace b7 := hbw.trans (b7.mono hws); have s7 := b7.size; clear HO2 H0) | (at_builtin; refine wpList_append_own _ rfl _ _ 39 rfl w.heap.size 3 i0 (.int .i64 0) 1 8 Try.underlying39 hi hz0 hz1 hz2 rfl (by decide) _ _ _ rfl (HO3.out.alloc _) ⟨w7.heap.size, 0, none⟩ 1 1 [.int .i64 x0] rfl rfl (cell_oneN _ _ _ (by simp)) (by simp [Value.oneCell']) (by unfold maxLen; omega) (by omega) (by simp; omega) ?_; intro v' w8 hown' hgrow _))
                  have HOWN := Lib.hid hown'
                  have HB := Lib.hid (below_app b7 (Nat.le_refl _) HO3.out hgrow)
                  clear hown' hgrow
                  go_wp2_with fail
                  go_roundw
                  case rel => exact ⟨k + 1, by omega, by go_num, (by rw [HSU2.out]; simpa [vI] using HOWN.out), HB.out⟩
                  case measure => simp [Go.RowKit.intOf]; omega
                · have HSU2 := Lib.hid (HSU.out.trans (if_neg (fun h => h.2 (of_decide_eq_true HBI.out))))
                  go_wp2_with (first | (go_at_call 60; refine (l1Has_any _ Pp x0 _ H0.out).mono ?_; rw [HBI.out]; rintro e w7 ⟨rfl, b7⟩; have HO3 := Lib.hid (ownsRow_below HO2.out b7); replace b7 := hbw.trans (b7.mono hws); clear HO2 H0))
                  go_roundw
                  case rel => exact ⟨k + 1, by omega, by go_num, by rw [HSU2.out]; exact HO3.out, b7⟩
                  case measure => simp [Go.RowKit.intOf]; omega
        · obtain rfl : k = cs.length := by omega
          have HO := Lib.hid hO
          clear hO
          go_wp2_with fail
          go_ret2
          exact ⟨_, rfl, ints_rowN HO.out rfl, hb⟩
end Go.Proofs.Ytcfghigmijibeaa
