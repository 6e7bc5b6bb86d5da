/- Formats, the model's: Unseen, SizeByFormat. -/
import Derived.Test.YtcfghigmijibeaaFo2S
import Derived.Test.YtcfghigmijibeaaIntsN
import Derived.WalkSpells
namespace Go.Proofs.Ytcfghigmijibeaa
set_option linter.unusedVariables false
open Go.RowKit Go.Sort

set_option maxRecDepth 20000 in
set_option maxHeartbeats 4000000 in
theorem specUnseen_any (v vc : Value) (t : List Fo) (cs : List Co) (d ds : Int) (w : World) (h : RowR 4 rFo w v t) (hc : RowR 4 rCo w vc cs) (xs : List Int) (b : Bool) (hres : unsRes t cs d ds = (xs, b)) :
    Calls Try.prog 38 #[v, vc, .int .i64 d, .int .i64 ds] w fun e w' => ∃ v', e = .returned (.tuple #[v', .bool b]) ∧ IntsO w.heap.size w'.heap.size w' v' xs ∧ Below w.heap.size w w' := by
  obtain ⟨i0, hi, hz0, hz1, hz2⟩ := info_parts Try.info_intN
  have H := Lib.hid h
  have HCO := Lib.hid hc
  obtain ⟨a1, c1, rfl, hl1, hm1, r1⟩ := hc.cos
  have R1 := Lib.hid r1
  unfold maxLen at hm1
  obtain ⟨bg, hg⟩ : ∃ b, areCo t cs = b := ⟨_, rfl⟩
  have HG := Lib.hid hg
  obtain ⟨bd, hd⟩ : ∃ b, decide ((0 : Int) ≤ d ∧ d ≤ 20000) = b := ⟨_, rfl⟩
  obtain ⟨be, he⟩ : ∃ b, decide ((0 : Int) ≤ ds ∧ ds ≤ 20000) = b := ⟨_, rfl⟩
  have HD := Lib.hid hd
  have HE := Lib.hid he
  have NO := Lib.hid (fun hn => unsRes_no hres hn)
  have SEEN := Lib.hid (fun k hk hs => unsRes_seen (k := k) hres hk hs)
  have YES := Lib.hid (fun hn hs => unsRes_yes hres hn hs)
  have HI0 := Lib.hid (ints_newN w)
  have b0 := below_al (Below.refl w.heap.size w) (.cells #[] 3 (0, 0))
  clear h hc r1 hg hd he hres
  cases bg
  · obtain ⟨rfl, rfl⟩ := NO.out (fun h => by rw [HG.out] at h; exact absurd h.1 (by simp))
    go_enter Try.func38, Try.ntmps38
    go_wp2_with (first | (go_at_call 52; refine (l7Copies_any _ _ t cs _ (H.out.below rFo_stable b0) (HCO.out.below rCo_stable b0)).mono ?_; rw [HG.out]; rintro e w1 ⟨rfl, b1⟩; have HI1 := Lib.hid ((HI0.out.below b1).wide (Nat.le_refl _) b1.size); replace b1 := below_chain b0 b1; clear HI0 b0))
    go_ret2
    exact ⟨_, rfl, HI1.out, b1⟩
  · cases bd
    · obtain ⟨rfl, rfl⟩ := NO.out (fun h => by have := h.2.1; unfold dayB at this; rw [HD.out] at this; cases this)
      go_enter Try.func38, Try.ntmps38
      go_wp2_with (first | (go_at_call 52; refine (l7Copies_any _ _ t cs _ (H.out.below rFo_stable b0) (HCO.out.below rCo_stable b0)).mono ?_; rw [HG.out]; rintro e w1 ⟨rfl, b1⟩; have HI1 := Lib.hid ((HI0.out.below b1).wide (Nat.le_refl _) b1.size); replace b1 := below_chain b0 b1; clear HI0 b0) | (go_at_call 58; refine (l2Day_any d _).mono ?_; rw [HD.out]; rintro e w2 ⟨rfl, h2⟩; subst w2))
      go_ret2
      exact ⟨_, rfl, HI1.out, b1⟩
    · cases be
      · obtain ⟨rfl, rfl⟩ := NO.out (fun h => by have := h.2.2; unfold dayB at this; rw [HE.out] at this; cases this)
        go_enter Try.func38, Try.ntmps38
        go_wp2_with (first | (go_at_call 52; refine (l7Copies_any _ _ t cs _ (H.out.below rFo_stable b0) (HCO.out.below rCo_stable b0)).mono ?_; rw [HG.out]; rintro e w1 ⟨rfl, b1⟩; have HI1 := Lib.hid ((HI0.out.below b1).wide (Nat.le_refl _) b1.size); replace b1 := below_chain b0 b1; clear HI0 b0) | (go_at_call 58; refine (l2Day_any d _).mono ?_; rw [HD.out]; rintro e w2 ⟨rfl, h2⟩; subst w2) | (go_at_call 58; refine (l2Day_any ds _).mono ?_; rw [HE.out]; rintro e w2 ⟨rfl, h2⟩; subst w2))
        go_ret2
        exact ⟨_, rfl, HI1.out, b1⟩
      · have hd0 := of_decide_eq_true HD.out
        have he0 := of_decide_eq_true HE.out
        have hn15 := (co_iff.1 HG.out).2.1
        go_enter Try.func38, Try.ntmps38
        go_wp2_with (first | (go_at_call 52; refine (l7Copies_any _ _ t cs _ (H.out.below rFo_stable b0) (HCO.out.below rCo_stable b0)).mono ?_; rw [HG.out]; rintro e w1 ⟨rfl, b1⟩; have HI1 := Lib.hid ((HI0.out.below b1).wide (Nat.le_refl _) b1.size); replace b1 := below_chain b0 b1; clear HI0 b0) | (go_at_call 58; refine (l2Day_any d _).mono ?_; rw [HD.out]; rintro e w2 ⟨rfl, h2⟩; subst w2) | (go_at_call 58; refine (l2Day_any ds _).mono ?_; rw [HE.out]; rintro e w2 ⟨rfl, h2⟩; subst w2))
        go_loopw [10, 11] (fun o i wr => ∃ k : Nat, k ≤ cs.length ∧ i = .int .i64 k ∧ wr.ownsRow w.heap.size 3 1 o (unsF cs d ds k).length ((unsF cs d ds k).map vI) ∧ Hid (∀ j, j < k → (cs.getD j coD).seen ≤ d) ∧ Below w.heap.size w wr) (fun _ i _ => cs.length - (intOf i).toNat)
        case atStart => exact ⟨0, Nat.zero_le _, rfl, by simpa [unsF] using HI1.out.1, Lib.hid (fun j h => absurd h (Nat.not_lt_zero _)), b1⟩
        case round =>
          clear b1 HI1
          obtain ⟨k, hk, rfl, hO, HS, hb⟩ := hrel
          have hws := hb.size
          by_cases hlt : k < cs.length
          · obtain ⟨bR, oR, hbR, rfl, e1⟩ := R1.out.resolve_left (fun e => by rw [e] at hlt; simp at hlt)
            obtain ⟨x3, hx⟩ : ∃ s, (cs.getD k coD).seen = s := ⟨_, rfl⟩
            obtain ⟨q0, q1, q2, q3, _⟩ := e1 k hlt
            rw [hx] at q3
            have f3 := cell_kept q3 hb
            have hx3 := (coOne_iff.1 (co_at HG.out hlt).1).2.2.2
            rw [hx] at hx3
            have HX := Lib.hid hx
            have g0 : (0 : Int) ≤ (k : Int) := by omega
            have g1 : (k : Int) < (cs.length : Int) := by omega
            have hsu := unsF_succ cs d ds k
            have hle := unsF_len cs d ds k
            have hun : unsB d ds (cs.getD k coD) = decide (ds < d - x3) := by unfold unsB; rw [hx]
            rw [hun] at hsu
            obtain ⟨Pp, hP⟩ : ∃ P, unsF cs d ds k = P := ⟨_, rfl⟩
            rw [hP] at hO hsu hle
            have HSU := Lib.hid hsu
            have HO := Lib.hid hO
            have hwr : IntKind.i64.wrap (d - x3) = d - x3 := Go.IntWalk.i64_in _ (by omega)
            clear q0 q1 q2 q3 e1 hx hsu hP hun hO
            by_cases hS : d < x3
            · obtain ⟨rfl, rfl⟩ := SEEN.out k hlt (by rw [HX.out]; exact hS)
              go_wp2_with fail
              go_ret2
              exact ⟨_, rfl, (ints_newN wr).wide hb.size (Nat.le_refl _), below_al hb _⟩
            · have dS : decide (d < x3) = false := decide_eq_false hS
              have HS2 : Hid (∀ j, j < k + 1 → (cs.getD j coD).seen ≤ d) := Lib.hid (fun j hj => by
                rcases Nat.lt_or_ge j k with h' | h'
                · exact HS.out j h'
                · obtain rfl : j = k := by omega
                  rw [HX.out]; omega)
              by_cases hU : ds < d - x3
              · have HSU2 := Lib.hid (HSU.out.trans (if_pos (decide_eq_true hU)))
                go_wp2_with (first | (at_builtin; refine wpList_append_own _ rfl _ _ 39 rfl w.heap.size 3 i0 (.int .i64 0) 1 8 Try.underlying39 hi hz0 hz1 hz2 rfl (by decide) _ _ _ rfl (HO.out.alloc _) ⟨wr.heap.size, 0, none⟩ 1 1 [.int .i64 k] rfl rfl (cell_oneN _ _ _ (by simp)) (by simp [Value.oneCell']) (by unfold maxLen; omega) (by omega) (by simp; omega) ?_; intro v' w7 hown' hgrow _))
                have HOWN := Lib.hid hown'
                have HB := Lib.hid (below_app hb (Nat.le_refl _) HO.out hgrow)
                clear hown' hgrow
                go_wp2_with fail
                go_roundw
                case rel => exact ⟨k + 1, by omega, by go_num, (by rw [HSU2.out]; simpa [vI] using HOWN.out), HS2, HB.out⟩
                case measure => simp [intOf]; omega
              · have dU : decide (ds < d - x3) = false := decide_eq_false hU
                have HSU2 := Lib.hid (HSU.out.trans (if_neg (by rw [decide_eq_true_eq]; exact hU)))
                go_wp2_with fail
                go_roundw
                case rel => exact ⟨k + 1, by omega, by go_num, (by rw [HSU2.out]; exact HO.out), HS2, hb⟩
                case measure => simp [intOf]; omega
          · obtain rfl : k = cs.length := by omega
            obtain ⟨rfl, rfl⟩ := YES.out ⟨HG.out, HD.out, HE.out⟩ HS.out
            have HO := Lib.hid hO
            clear hO
            go_wp2_with fail
            go_ret2
            exact ⟨_, rfl, ints_rowN HO.out rfl, hb⟩

set_option maxRecDepth 20000 in
set_option maxHeartbeats 4000000 in
theorem specSizeByFormat_any (v vc : Value) (t : List Fo) (cs : List Co) (w : World) (h : RowR 4 rFo w v t) (hc : RowR 4 rCo w vc cs) (xs : List Int) (b : Bool) (hres : sizRes t cs = (xs, b)) :
    Calls Try.prog 40 #[v, vc] w fun e w' => ∃ v', e = .returned (.tuple #[v', .bool b]) ∧ IntsO w.heap.size w'.heap.size w' v' xs ∧ Below w.heap.size w w' := by
  obtain ⟨i0, hi, hz0, hz1, hz2⟩ := info_parts Try.info_intN
  have H := Lib.hid h
  have HCO := Lib.hid hc
  obtain ⟨a1, c1, rfl, hl1, hm1, r1⟩ := hc.cos
  have R1 := Lib.hid r1
  unfold maxLen at hm1
  obtain ⟨bg, hg⟩ : ∃ b, areCo t cs = b := ⟨_, rfl⟩
  have HG := Lib.hid hg
  have hcap := h.cap
  obtain ⟨a2, c2, rfl, hl2, hm2, r2⟩ := h.fos
  have R2 := Lib.hid r2
  unfold maxLen at hm2
  have NO := Lib.hid (fun hn => sizRes_no hres hn)
  have YES := Lib.hid (fun hn => sizRes_yes hres hn)
  have HI0 := Lib.hid (ints_newN w)
  have b0 := below_al (Below.refl w.heap.size w) (.cells #[] 3 (0, 0))
  clear h hc r1 r2 hg hres
  cases bg
  · obtain ⟨rfl, rfl⟩ := NO.out HG.out
    go_enter Try.func40, Try.ntmps40
    go_wp2_with (first | (go_at_call 52; refine (l7Copies_any _ _ t cs _ (H.out.below rFo_stable b0) (HCO.out.below rCo_stable b0)).mono ?_; rw [HG.out]; rintro e w1 ⟨rfl, b1⟩; have HI1 := Lib.hid ((HI0.out.below b1).wide (Nat.le_refl _) b1.size); replace b1 := below_chain b0 b1; clear HI0 b0))
    go_ret2
    exact ⟨_, rfl, HI1.out, b1⟩
  · obtain ⟨rfl, rfl⟩ := YES.out HG.out
    have hn15 := (co_iff.1 HG.out).2.1
    have hn10 := (fo_iff.1 (co_iff.1 HG.out).1).1
    clear NO YES
    go_enter Try.func40, Try.ntmps40
    go_wp2_with (first | (go_at_call 52; refine (l7Copies_any _ _ t cs _ (H.out.below rFo_stable b0) (HCO.out.below rCo_stable b0)).mono ?_; rw [HG.out]; rintro e w1 ⟨rfl, b1⟩; have HI1 := Lib.hid ((HI0.out.below b1).wide (Nat.le_refl _) b1.size); replace b1 := below_chain b0 b1; clear HI0 b0))
    go_loopw [6, 7] (fun o i wr => ∃ k : Nat, k ≤ t.length ∧ i = .int .i64 k ∧ wr.ownsRow w.heap.size 3 1 o k (((t.take k).map (fun f => sumC cs f.id)).map vI) ∧ Below w.heap.size w wr) (fun _ i _ => t.length - (intOf i).toNat)
    case atStart => exact ⟨0, Nat.zero_le _, rfl, by simpa using HI1.out.1, b1⟩
    case round =>
      clear b1 HI1
      obtain ⟨k, hk, rfl, hO, hb⟩ := hrel
      obtain ⟨wo, hwo⟩ : ∃ x, x = wr := ⟨_, rfl⟩
      subst hwo
      have hbs := hb.size
      by_cases hlt : k < t.length
      · obtain ⟨bF, oF, hbF, rfl, e2⟩ := R2.out.resolve_left (fun e => by rw [e] at hlt; simp at hlt)
        obtain ⟨x0, hx⟩ : ∃ s, (t.getD k foD).id = s := ⟨_, rfl⟩
        obtain ⟨_, q0, _⟩ := e2 k hlt
        rw [hx] at q0
        have HX := Lib.hid hx
        have f0 := cell_kept q0 hb
        have g0 : (0 : Int) ≤ (k : Int) := by omega
        have g1 : (k : Int) < (t.length : Int) := by omega
        have hsu : ((t.take (k + 1)).map (fun f => sumC cs f.id)).map vI = ((t.take k).map (fun f => sumC cs f.id)).map vI ++ [vI (sumC cs x0)] := by
          rw [List.take_succ_eq_append_getElem hlt, ← getFo_lt hlt, List.map_append, List.map_append, List.map_cons, List.map_nil, List.map_cons, List.map_nil, hx]
        have HSU := Lib.hid hsu
        obtain ⟨Pp, hP⟩ : ∃ P, ((t.take k).map (fun f => sumC cs f.id)).map vI = P := ⟨_, rfl⟩
        rw [hP] at hO hsu
        have HSU := Lib.hid hsu
        have HO := Lib.hid hO
        have E2 := Lib.hid e2
        clear q0 hx hsu hP hO e2
        go_wp2_with fail
        go_loopw [8, 9] (fun s i wr => ∃ (m : Nat) (sv : Int), m ≤ cs.length ∧ i = .int .i64 m ∧ s = .int .i64 sv ∧ Hid (sumC (cs.take m) x0 = sv) ∧ Below wo.heap.size wo wr) (fun _ i _ => cs.length - (intOf i).toNat)
        case atStart => exact ⟨0, 0, Nat.zero_le _, rfl, rfl, Lib.hid (by simp [sumC]), Below.refl _ _⟩
        case round =>
          obtain ⟨m, sv, hm, rfl, rfl, HV, hb2⟩ := hrel
          have hbw := hb.trans (hb2.mono hbs)
          have hbws := hbw.size
          by_cases hml : m < cs.length
          · obtain ⟨bC, oC, hbC, rfl, e1⟩ := R1.out.resolve_left (fun e => by rw [e] at hml; simp at hml)
            obtain ⟨⟨y0, y1, y2, y3⟩, hy⟩ : ∃ s, cs.getD m coD = s := ⟨_, rfl⟩
            obtain ⟨p0, p1, p2, p3, _⟩ := e1 m hml
            rw [hy] at p1 p2
            simp only at p1 p2
            have d1 := cell_kept p1 hbw
            have d2 := cell_kept p2 hbw
            have k0 := cell_kept f0 hb2
            have hss := sumC_succ hml x0
            rw [HV.out, hy] at hss
            simp only at hss
            have HSS := Lib.hid hss
            have hbd := sumC_bound HG.out x0 m hm
            rw [HV.out] at hbd
            have hsz := (coOne_iff.1 (co_at HG.out hml).1).2.2.1
            rw [hy] at hsz
            simp only at hsz
            have h0m : (0 : Int) ≤ (m : Int) := by omega
            have h1m : (m : Int) < (cs.length : Int) := by omega
            have hwr : IntKind.i64.wrap (sv + y2) = sv + y2 := Go.IntWalk.i64_in _ (by omega)
            clear p0 p1 p2 p3 hy e1 hss
            by_cases he : y1 = x0
            · have hq : (y1 == x0) = true := by simp [he]
              have HSS2 := Lib.hid (HSS.out.trans (by rw [if_pos he] : _ = sv + y2))
              clear he
              go_wp2_with fail
              go_quiet (fail)
              go_wp2_with fail
              go_roundw
              case rel => exact ⟨m + 1, sv + y2, by omega, by go_num, rfl, HSS2, below_drewN hb2 _⟩
              case measure => simp [intOf]; omega
            · have hq : (y1 == x0) = false := by simp [he]
              have HSS2 := Lib.hid (HSS.out.trans (by rw [if_neg he, Int.add_zero] : _ = sv))
              clear he
              go_wp2_with fail
              go_quiet (fail)
              go_wp2_with fail
              go_roundw
              case rel => exact ⟨m + 1, sv, by omega, by go_num, rfl, HSS2, below_drewN hb2 _⟩
              case measure => simp [intOf]; omega
          · have hmk : m = cs.length := by omega
            have HV2 : Hid (sumC cs x0 = sv) := Lib.hid (by have := HV.out; rwa [hmk, List.take_length] at this)
            have HO2 := Lib.hid (ownsRow_below HO.out hb2)
            clear hmk HO f0
            go_wp2_with (first | (at_builtin; refine wpList_append_own _ rfl _ _ 39 rfl w.heap.size 3 i0 (.int .i64 0) 1 8 Try.underlying39 hi hz0 hz1 hz2 rfl (by decide) _ _ _ rfl (HO2.out.alloc _) ⟨wr.heap.size, 0, none⟩ 1 1 [.int .i64 sv] rfl rfl (cell_oneN _ _ _ (by simp)) (by simp [Value.oneCell']) (by unfold maxLen; omega) (by omega) (by simp; omega) ?_; intro v' w7 hown' hgrow _))
            have HOWN := Lib.hid hown'
            have HB := Lib.hid (below_app hbw (Nat.le_refl _) HO2.out hgrow)
            clear hown' hgrow
            go_wp2_with fail
            go_roundw
            case rel => exact ⟨k + 1, by omega, by go_num, (by rw [HSU.out, HV2.out]; simpa [vI] using HOWN.out), HB.out⟩
            case measure => simp [intOf]; omega
      · obtain rfl : k = t.length := by omega
        rw [List.take_length] at hO
        have HO := Lib.hid hO
        clear hO
        go_wp2_with fail
        go_ret2
        exact ⟨_, rfl, ints_rowN HO.out (by simp), hb⟩
end Go.Proofs.Ytcfghigmijibeaa
