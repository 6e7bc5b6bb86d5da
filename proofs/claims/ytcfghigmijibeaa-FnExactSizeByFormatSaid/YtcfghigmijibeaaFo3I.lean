/- Formats, the program's: Unseen, SizeByFormat. -/
import Derived.Test.YtcfghigmijibeaaFo2I
import Derived.Test.YtcfghigmijibeaaIntsN
import Derived.Deep.RegionLawGrows
namespace Go.Proofs.Ytcfghigmijibeaa
set_option linter.unusedVariables false
open Go.RowKit Go.Sort

set_option maxRecDepth 20000 in
set_option maxHeartbeats 4000000 in
theorem implUnseen_any (v vc : Value) (t : List Fo) (cs : List Co) (d ds : Int) (w : World) (h : RowR 4 rFo w v t) (hc : RowR 4 rCo w vc cs) (xs : List Int) (b : Bool) (hres : unsRes t cs d ds = (xs, b)) :
    Calls Try.prog 39 #[v, vc, .int .i64 d, .int .i64 ds] w fun e w' => ∃ v', e = .returned (.tuple #[v', .bool b]) ∧ IntsO w.heap.size w'.heap.size w' v' xs ∧ Below w.heap.size w w' := by
  obtain ⟨i0, hi, hz0, hz1, hz2⟩ := info_parts Try.info_intN
  have H := Lib.hid h
  have HCO := Lib.hid hc
  obtain ⟨a1, c1, rfl, hl1, hm1, r1⟩ := hc.cos
  have R1 := Lib.hid r1
  unfold maxLen at hm1
  obtain ⟨bg, hg⟩ : ∃ b, areCo t cs = b := ⟨_, rfl⟩
  have HG := Lib.hid hg
  obtain ⟨bd, hd⟩ : ∃ b, decide ((0 : Int) ≤ d ∧ d ≤ 20000) = b := ⟨_, rfl⟩
  have HD := Lib.hid hd
  have NO := Lib.hid (fun hn => unsRes_no hres hn)
  have SEEN := Lib.hid (fun k hk hs => unsRes_seen (k := k) hres hk hs)
  have YES := Lib.hid (fun hn hs => unsRes_yes hres hn hs)
  clear h hc r1 hg hd hres
  cases bg
  · obtain ⟨rfl, rfl⟩ := NO.out (fun h => by rw [HG.out] at h; exact absurd h.1 (by simp))
    go_enter Try.func39, Try.ntmps39
    go_wp2_with (first | (go_at_call 21; refine (implAreCo_any _ _ t cs _ H.out HCO.out).mono ?_; rw [HG.out]; rintro e w1 ⟨rfl, b1⟩))
    go_ret2
    exact ⟨_, rfl, ints_nilN _ _ _, b1⟩
  · cases bd
    · obtain ⟨rfl, rfl⟩ := NO.out (fun h => by have := h.2.1; unfold dayB at this; rw [HD.out] at this; cases this)
      go_enter Try.func39, Try.ntmps39
      go_wp2_with (first | (go_at_call 21; refine (implAreCo_any _ _ t cs _ H.out HCO.out).mono ?_; rw [HG.out]; rintro e w1 ⟨rfl, b1⟩) | (go_at_call 48; refine (isDay_any d _).mono ?_; rw [HD.out]; rintro e w2 ⟨rfl, h2⟩; subst w2))
      go_ret2
      exact ⟨_, rfl, ints_nilN _ _ _, b1⟩
    · by_cases he1 : ds < 0
      · obtain ⟨rfl, rfl⟩ := NO.out (fun h => by have := of_decide_eq_true (h.2.2 : decide (0 ≤ ds ∧ ds ≤ 20000) = true); omega)
        go_enter Try.func39, Try.ntmps39
        go_wp2_with (first | (go_at_call 21; refine (implAreCo_any _ _ t cs _ H.out HCO.out).mono ?_; rw [HG.out]; rintro e w1 ⟨rfl, b1⟩) | (go_at_call 48; refine (isDay_any d _).mono ?_; rw [HD.out]; rintro e w2 ⟨rfl, h2⟩; subst w2))
        go_ret2
        exact ⟨_, rfl, ints_nilN _ _ _, b1⟩
      · by_cases he2 : 20000 < ds
        · obtain ⟨rfl, rfl⟩ := NO.out (fun h => by have := of_decide_eq_true (h.2.2 : decide (0 ≤ ds ∧ ds ≤ 20000) = true); omega)
          have de1 : decide (ds < 0) = false := decide_eq_false he1
          go_enter Try.func39, Try.ntmps39
          go_wp2_with (first | (go_at_call 21; refine (implAreCo_any _ _ t cs _ H.out HCO.out).mono ?_; rw [HG.out]; rintro e w1 ⟨rfl, b1⟩) | (go_at_call 48; refine (isDay_any d _).mono ?_; rw [HD.out]; rintro e w2 ⟨rfl, h2⟩; subst w2))
          go_ret2
          exact ⟨_, rfl, ints_nilN _ _ _, b1⟩
        · have de1 : decide (ds < 0) = false := decide_eq_false he1
          have de2 : decide (20000 < ds) = false := decide_eq_false he2
          have hd0 := of_decide_eq_true HD.out
          have hn15 := (co_iff.1 HG.out).2.1
          have HE : Hid (dayB ds = true) := Lib.hid (decide_eq_true (by omega))
          go_enter Try.func39, Try.ntmps39
          go_wp2_with (first | (go_at_call 21; refine (implAreCo_any _ _ t cs _ H.out HCO.out).mono ?_; rw [HG.out]; rintro e w1 ⟨rfl, b1⟩) | (go_at_call 48; refine (isDay_any d _).mono ?_; rw [HD.out]; rintro e w2 ⟨rfl, h2⟩; subst w2))
          have s1 := b1.size
          go_loopw [10, 32] (fun o i wr => ∃ k : Nat, k ≤ cs.length ∧ i = .int .i64 k ∧ wr.ownsRow w1.heap.size 3 1 o (unsF cs d ds k).length ((unsF cs d ds k).map vI) ∧ Hid (∀ j, j < k → (cs.getD j coD).seen ≤ d) ∧ Below w1.heap.size w1 wr) (fun _ i _ => cs.length - (intOf i).toNat)
          case atStart => exact ⟨0, Nat.zero_le _, rfl, by simpa [unsF] using World.ownsRow_nil _ _ _ _, Lib.hid (fun j h => absurd h (Nat.not_lt_zero _)), Below.refl _ _⟩
          case round =>
            obtain ⟨k, hk, rfl, hO, HS, hb⟩ := hrel
            have hbw := b1.trans (hb.mono s1)
            have hws := hb.size
            by_cases hlt : k < cs.length
            · obtain ⟨bR, oR, hbR, rfl, e1⟩ := R1.out.resolve_left (fun e => by rw [e] at hlt; simp at hlt)
              obtain ⟨⟨x0, x1, x2, x3⟩, hx⟩ : ∃ s, cs.getD k coD = s := ⟨_, rfl⟩
              obtain ⟨q0, q1, q2, q3, _⟩ := e1 k hlt
              rw [hx] at q0 q1 q2 q3
              simp only at q0 q1 q2 q3
              have f0 := cell_kept q0 hbw
              have f1 := cell_kept q1 hbw
              have f2 := cell_kept q2 hbw
              have f3 := cell_kept q3 hbw
              have hx3 := (coOne_iff.1 (co_at HG.out hlt).1).2.2.2
              rw [hx] at hx3
              simp only at hx3
              have HX := Lib.hid hx
              have g0 : (0 : Int) ≤ (k : Int) := by omega
              have g1 : (k : Int) < (cs.length : Int) := by omega
              have hsu := unsF_succ cs d ds k
              have hle := unsF_len cs d ds k
              have hun : unsB d ds (cs.getD k coD) = decide (ds < d - x3) := by unfold unsB; rw [hx]
              rw [hun] at hsu
              obtain ⟨Pp, hP⟩ : ∃ P, unsF cs d ds k = P := ⟨_, rfl⟩
              rw [hP] at hO hsu hle
              have HSU := Lib.hid hsu
              have HO := Lib.hid hO
              have hwr : IntKind.i64.wrap (d - x3) = d - x3 := Go.IntWalk.i64_in _ (by omega)
              have HBX := Lib.hid (below_al hb (.cells #[.int .i64 x0, .int .i64 x1, .int .i64 x2, .int .i64 x3] 68 (0, 0)))
              clear q0 q1 q2 q3 e1 hx hsu hP hun hO
              by_cases hS : d < x3
              · obtain ⟨rfl, rfl⟩ := SEEN.out k hlt (by rw [HX.out]; exact hS)
                go_wp2_with fail
                go_ret2
                exact ⟨_, rfl, ints_nilN _ _ _, b1.trans (HBX.out.mono s1)⟩
              · have dS : decide (d < x3) = false := decide_eq_false hS
                have HS2 : Hid (∀ j, j < k + 1 → (cs.getD j coD).seen ≤ d) := Lib.hid (fun j hj => by
                  rcases Nat.lt_or_ge j k with h' | h'
                  · exact HS.out j h'
                  · obtain rfl : j = k := by omega
                    rw [HX.out]; simp only; omega)
                by_cases hU : ds < d - x3
                · have HSU2 := Lib.hid (HSU.out.trans (if_pos (decide_eq_true hU)))
                  have HO2 := Lib.hid (HO.out.alloc (.cells #[.int .i64 x0, .int .i64 x1, .int .i64 x2, .int .i64 x3] 68 (0, 0)))
                  go_wp2_with (first | (at_builtin; refine wpList_append_own _ rfl _ _ 39 rfl w1.heap.size 3 i0 (.int .i64 0) 1 8 Try.underlying39 hi hz0 hz1 hz2 rfl (by decide) _ _ _ rfl (HO2.out.alloc _) ⟨wr.heap.size + 1, 0, none⟩ 1 1 [.int .i64 k] rfl rfl (cell_oneN _ _ _ (by simp)) (by simp [Value.oneCell']) (by unfold maxLen; omega) (by omega) (by simp; omega) ?_; intro v' w7 hown' hgrow _))
                  have HOWN := Lib.hid hown'
                  have HB := Lib.hid (below_app HBX.out (Nat.le_refl _) HO2.out hgrow)
                  clear hown' hgrow
                  go_wp2_with fail
                  go_roundw
                  case rel => exact ⟨k + 1, by omega, by go_num, (by rw [HSU2.out]; simpa [vI] using HOWN.out), HS2, HB.out⟩
                  case measure => simp [intOf]; omega
                · have dU : decide (ds < d - x3) = false := decide_eq_false hU
                  have HSU2 := Lib.hid (HSU.out.trans (if_neg (by rw [decide_eq_true_eq]; exact hU)))
                  go_wp2_with fail
                  go_roundw
                  case rel => exact ⟨k + 1, by omega, by go_num, (by rw [HSU2.out]; exact HO.out.alloc _), HS2, HBX.out⟩
                  case measure => simp [intOf]; omega
            · obtain rfl : k = cs.length := by omega
              obtain ⟨rfl, rfl⟩ := YES.out ⟨HG.out, HD.out, HE.out⟩ HS.out
              have HO := Lib.hid hO
              clear hO
              go_wp2_with fail
              go_ret2
              exact ⟨_, rfl, (ints_rowN HO.out rfl).wide s1 (Nat.le_refl _), hbw⟩

set_option maxRecDepth 20000 in
set_option maxHeartbeats 4000000 in
theorem implSizeByFormat_any (v vc : Value) (t : List Fo) (cs : List Co) (w : World) (h : RowR 4 rFo w v t) (hc : RowR 4 rCo w vc cs) (xs : List Int) (b : Bool) (hres : sizRes t cs = (xs, b)) :
    Calls Try.prog 41 #[v, vc] w fun e w' => ∃ v', e = .returned (.tuple #[v', .bool b]) ∧ IntsO w.heap.size w'.heap.size w' v' xs ∧ Below w.heap.size w w' := by
  obtain ⟨i0, hi, hz0, hz1, hz2⟩ := info_parts Try.info_intN
  have H := Lib.hid h
  have HCO := Lib.hid hc
  obtain ⟨a1, c1, rfl, hl1, hm1, r1⟩ := hc.cos
  have R1 := Lib.hid r1
  unfold maxLen at hm1
  obtain ⟨bg, hg⟩ : ∃ b, areCo t cs = b := ⟨_, rfl⟩
  have HG := Lib.hid hg
  have hcap := h.cap
  obtain ⟨a2, c2, rfl, hl2, hm2, r2⟩ := h.fos
  unfold maxLen at hm2
  have NO := Lib.hid (fun hn => sizRes_no hres hn)
  have YES := Lib.hid (fun hn => sizRes_yes hres hn)
  clear h hc r1 r2 hg hres
  cases bg
  · obtain ⟨rfl, rfl⟩ := NO.out HG.out
    go_enter Try.func41, Try.ntmps41
    go_wp2_with (first | (go_at_call 21; refine (implAreCo_any _ _ t cs _ H.out HCO.out).mono ?_; rw [HG.out]; rintro e w1 ⟨rfl, b1⟩))
    go_ret2
    exact ⟨_, rfl, ints_nilN _ _ _, b1⟩
  · obtain ⟨rfl, rfl⟩ := YES.out HG.out
    have hn15 := (co_iff.1 HG.out).2.1
    have hn10 := (fo_iff.1 (co_iff.1 HG.out).1).1
    clear NO YES
    go_enter Try.func41, Try.ntmps41
    go_wp2_with (first | (go_at_call 21; refine (implAreCo_any _ _ t cs _ H.out HCO.out).mono ?_; rw [HG.out]; rintro e w1 ⟨rfl, b1⟩) | (at_make; refine wpList_make_full _ rfl _ _ 39 rfl w1.heap.size 3 i0 _ 1 Try.underlying39 hi hz0 hz1 .i64 .i64 _ _ t.length rfl rfl rfl rfl (by rw [hz2]; omega) (by unfold maxLen; omega) (Nat.le_refl _) ?_; intro w2 hown1 hgrow1; have HOWN := Lib.hid hown1; have HGROW := Lib.hid hgrow1; clear hown1 hgrow1))
    have s1 := b1.size
    go_loopw [18] (fun i wr => ∃ k : Nat, k ≤ cs.length ∧ i = .int .i64 k ∧ wr.ownsRow w1.heap.size 3 1 (.slice (some ⟨w1.heap.size, 0, none⟩) t.length t.length) t.length ((sizF t cs k).map vI) ∧ Below w1.heap.size w1 wr) (fun i _ => cs.length - (intOf i).toNat)
    case atStart =>
      refine ⟨0, Nat.zero_le _, rfl, ?_, below_of_grow HGROW.out (Nat.le_refl _) (fun k h => by cases h)⟩
      have e : (sizF t cs 0).map vI = (madeCells #[Value.int .i64 0] (t.length * 1)).toList := by
        rw [madeZ]
        unfold sizF sumC
        simp only [List.take_zero, List.map_nil, List.sum_nil, List.map_map]
        exact (List.map_const' : List.map (fun _ => Value.int .i64 0) t = _)
      rw [e]
      exact HOWN.out
    case round =>
      clear HOWN HGROW
      obtain ⟨k, hk, rfl, hO, hb⟩ := hrel
      have hbw := b1.trans (hb.mono s1)
      have hws := hb.size
      by_cases hlt : k < cs.length
      · obtain ⟨bR, oR, hbR, rfl, e1⟩ := R1.out.resolve_left (fun e => by rw [e] at hlt; simp at hlt)
        obtain ⟨⟨x0, x1, x2, x3⟩, hx⟩ : ∃ s, cs.getD k coD = s := ⟨_, rfl⟩
        obtain ⟨q0, q1, q2, q3, _⟩ := e1 k hlt
        rw [hx] at q0 q1 q2 q3
        simp only at q0 q1 q2 q3
        have f0 := cell_kept q0 hbw
        have f1 := cell_kept q1 hbw
        have f2 := cell_kept q2 hbw
        have f3 := cell_kept q3 hbw
        have hone := coOne_iff.1 (co_at HG.out hlt).1
        rw [hx] at hone
        simp only at hone
        obtain ⟨p, hp, hpl, hpe⟩ := foI_at hone.2.1
        have hset := sizF_set (co_iff.1 HG.out).1 hlt hpl (by rw [hx]; exact hpe)
        rw [hx] at hset
        simp only at hset
        have hbd := sumC_bound HG.out x1 k hk
        have hsz := hone.2.2.1
        obtain ⟨sv, hsv⟩ : ∃ s, sumC (cs.take k) x1 = s := ⟨_, rfl⟩
        rw [hsv] at hset hbd
        have hat : ((sizF t cs k).map vI)[p]? = some (.int .i64 sv) := by
          unfold sizF
          rw [List.getElem?_map, List.getElem?_map, List.getElem?_eq_getElem hpl, Option.map_some, Option.map_some, ← getFo_lt hpl, hpe, hsv]
          rfl
        have HSET := Lib.hid hset
        have HP := Lib.hid hp
        have HAT := Lib.hid hat
        have g0 : (0 : Int) ≤ (k : Int) := by omega
        have g1 : (k : Int) < (cs.length : Int) := by omega
        have p0 : (0 : Int) ≤ (p : Int) := by omega
        have p1 : (p : Int) < (t.length : Int) := by omega
        have hwr : IntKind.i64.wrap (sv + x2) = sv + x2 := Go.IntWalk.i64_in _ (by omega)
        have HO := Lib.hid hO
        clear q0 q1 q2 q3 e1 hx hset hp hat hO hone hsv hpe
        go_wp2_with fail
        generalize hWE : wr.alloc (.cells #[.int .i64 x0, .int .i64 x1, .int .i64 x2, .int .i64 x3] 68 (0, 0)) = wE
        have bE : Below wr.heap.size wr wE := by rw [← hWE]; exact below_al (Below.refl _ _) _
        have z1 : wE.cell? ⟨wr.heap.size, 1, none⟩ = some (.int .i64 x1) := by rw [← hWE]; exact cell_new wr _ _ 1 rfl
        have z2 : wE.cell? ⟨wr.heap.size, 2, none⟩ = some (.int .i64 x2) := by rw [← hWE]; exact cell_new wr _ _ 2 rfl
        have HE1 := Lib.hid (hbw.trans (bE.mono hbw.size))
        have HE2 := Lib.hid (hb.trans (bE.mono hws))
        have HO2 := Lib.hid (ownsRow_below HO.out bE)
        have wEs := HE2.out.size
        clear hWE HO
        go_region_law (first | (go_simp; go_at_call 68; refine (placeOfFormat_any _ t _ _ (H.out.below rFo_stable HE1.out.drew)).mono ?_; rw [HP.out]; rintro e w5 ⟨rfl, b5⟩; have y2 := cell_keptd z2 b5; have HO5 := Lib.hid (ownsRow_below HO2.out.drew b5); have u0 := HO5.out.cellAt p (by omega); have u1 := HO5.out.frozenAt p; rw [HAT.out] at u0; have HB5 := Lib.hid (HE2.out.drew.trans (b5.mono wEs))))
        all_goals
          try go_simp
          go_wp2_with fail
          go_roundw
          case rel =>
            have hst := HO5.out.stored p (vI (sv + x2))
            rw [← List.map_set, HSET.out] at hst
            exact ⟨k + 1, by omega, by go_num, by simpa [vI] using hst.1, HB5.out.grown (by simpa [vI] using hst.2) HB5.out.size (fun _ h => by cases h; exact Nat.le_refl _)⟩
          case measure => simp [intOf]; omega
      · obtain rfl : k = cs.length := by omega
        have HO := Lib.hid hO
        clear hO
        go_wp2_with fail
        go_ret2
        refine ⟨_, rfl, (ints_rowN (n := t.length) ?_ (by simp)).wide s1 (Nat.le_refl _), hbw⟩
        have := HO.out
        unfold sizF at this
        rw [List.take_length] at this
        exact this
end Go.Proofs.Ytcfghigmijibeaa
