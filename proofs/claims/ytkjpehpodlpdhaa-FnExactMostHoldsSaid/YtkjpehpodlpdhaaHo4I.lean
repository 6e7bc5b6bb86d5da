/- Holds, the program's: FreeDay, MostHolds. -/
import Derived.Test.YtkjpehpodlpdhaaHo3I
import Derived.Lib.QuietBelow
import Derived.BigQuiet
import Derived.WalkSmall
namespace Go.Proofs.Ytkjpehpodlpdhaa
set_option linter.unusedVariables false
open Go.RowKit Go.Sort

set_option maxRecDepth 20000 in
set_option maxHeartbeats 4000000 in
theorem implFreeDay_any (v v1 : Value) (t : List Ho) (r : Rec) (d : Int) (w : World) (h : RowR 6 rHo w v t) (h1 : RecV w v1 r) (n : Int) (b : Bool) (hres : freRes t r d = (n, b)) :
    Calls Try.prog 31 #[v, v1, .int .i64 d] w fun e w' => e = .returned (.tuple #[.int .i64 n, .bool b]) ∧ Below w.heap.size w w' := by
  obtain ⟨s, rfl, hr, hok⟩ := h1
  obtain ⟨y0, y1, y2, y3⟩ := r
  simp only at hr ⊢
  have HV := Lib.hid (show ∀ W, Below w.heap.size w W → RecV W (.agg #[.int .i64 y0, .int .i64 y1, .int .i64 y2, s]) ⟨y0, y1, y2, y3⟩ from fun W hW => ⟨s, rfl, hr.below rEv_stable hW, hok⟩)
  obtain ⟨sb, sd, rfl, _⟩ := hr
  have HBX := Lib.hid (show ∀ W, Below (w.alloc (.cells #[.int .i64 y0, .int .i64 y1, .int .i64 y2, .slice sb y3.length sd] 38 (0, 0))).heap.size (w.alloc (.cells #[.int .i64 y0, .int .i64 y1, .int .i64 y2, .slice sb y3.length sd] 38 (0, 0))) W → W.cell? ⟨w.heap.size, 0, none⟩ = some (.int .i64 y0) ∧ W.cell? ⟨w.heap.size, 1, none⟩ = some (.int .i64 y1) ∧ W.cell? ⟨w.heap.size, 2, none⟩ = some (.int .i64 y2) ∧ W.cell? ⟨w.heap.size, 3, none⟩ = some (.slice sb y3.length sd) from
    fun W hW => ⟨cell_kept (cell_new w _ _ 0 rfl) hW, cell_kept (cell_new w _ _ 1 rfl) hW, cell_kept (cell_new w _ _ 2 rfl) hW, cell_kept (cell_new w _ _ 3 rfl) hW⟩)
  have H := Lib.hid h
  obtain ⟨a1, c1, rfl, hl1, hm1, r1⟩ := h.hos
  have R1 := Lib.hid r1
  unfold maxLen at hm1
  obtain ⟨bg, hg⟩ : ∃ b, areHo t = b := ⟨_, rfl⟩
  obtain ⟨br, hrr⟩ : ∃ b, isRec ⟨y0, y1, y2, y3⟩ = b := ⟨_, rfl⟩
  obtain ⟨bd, hd⟩ : ∃ b, decide (0 ≤ d ∧ d ≤ 20000) = b := ⟨_, rfl⟩
  have HG := Lib.hid hg
  have HR := Lib.hid hrr
  have HD := Lib.hid hd
  have NO := Lib.hid (fun hn => freRes_no hres hn)
  have YES := Lib.hid (fun hn => freRes_yes hres hn)
  clear h hg hrr hd hres hok r1
  cases bg
  · skip
    obtain ⟨rfl, rfl⟩ := NO.out (fun hc => by have := askH_iff.1 hc.1; rw [HG.out] at this; exact absurd this.1 (by simp))
    go_enter Try.func31, Try.ntmps31
    go_wp2_with (first | (go_at_call 18; refine (implAreHo_any _ t _ (H.out.below rHo_stable (below_al (Below.refl _ _) _))).mono ?_; rw [HG.out]; rintro e w1 ⟨rfl, b1⟩; obtain ⟨c0, c1, c2, c3⟩ := HBX.out _ b1; have b1w := below_chain (below_al (Below.refl w.heap.size w) _) b1))
    go_ret2
    exact ⟨rfl, b1w⟩
  · cases br
    · skip
      obtain ⟨rfl, rfl⟩ := NO.out (fun hc => by have := askH_iff.1 hc.1; rw [HR.out] at this; exact absurd this.2.1 (by simp))
      go_enter Try.func31, Try.ntmps31
      go_wp2_with (first | (go_at_call 18; refine (implAreHo_any _ t _ (H.out.below rHo_stable (below_al (Below.refl _ _) _))).mono ?_; rw [HG.out]; rintro e w1 ⟨rfl, b1⟩; obtain ⟨c0, c1, c2, c3⟩ := HBX.out _ b1; have b1w := below_chain (below_al (Below.refl w.heap.size w) _) b1) | (go_at_call 85; refine (implIsRecord_any _ ⟨y0, y1, y2, y3⟩ _ (HV.out _ b1w)).mono ?_; rw [HR.out]; rintro e w2 ⟨rfl, b2⟩; replace b1 := b1.trans (b2.mono b1.size); obtain ⟨c0, c1, c2, c3⟩ := HBX.out _ b1; replace b1w := b1w.trans (b2.mono b1w.size); clear b2))
      go_ret2
      exact ⟨rfl, b1w⟩
    · cases bd
      · skip
        obtain ⟨rfl, rfl⟩ := NO.out (fun hc => by have := askH_iff.1 hc.1; exact of_decide_eq_false HD.out this.2.2)
        go_enter Try.func31, Try.ntmps31
        go_wp2_with (first | (go_at_call 18; refine (implAreHo_any _ t _ (H.out.below rHo_stable (below_al (Below.refl _ _) _))).mono ?_; rw [HG.out]; rintro e w1 ⟨rfl, b1⟩; obtain ⟨c0, c1, c2, c3⟩ := HBX.out _ b1; have b1w := below_chain (below_al (Below.refl w.heap.size w) _) b1) | (go_at_call 85; refine (implIsRecord_any _ ⟨y0, y1, y2, y3⟩ _ (HV.out _ b1w)).mono ?_; rw [HR.out]; rintro e w2 ⟨rfl, b2⟩; replace b1 := b1.trans (b2.mono b1.size); obtain ⟨c0, c1, c2, c3⟩ := HBX.out _ b1; replace b1w := b1w.trans (b2.mono b1w.size); clear b2) | (go_at_call 79; refine (isDay_any _ _).mono ?_; rw [HD.out]; rintro e w3 ⟨rfl, h3⟩; subst w3))
        go_ret2
        exact ⟨rfl, b1w⟩
      · have HDD := Lib.hid (of_decide_eq_true HD.out)
        have HASK := Lib.hid (askH_iff.2 ⟨HG.out, HR.out, HDD.out⟩)
        go_enter Try.func31, Try.ntmps31
        go_wp2_with (first | (go_at_call 18; refine (implAreHo_any _ t _ (H.out.below rHo_stable (below_al (Below.refl _ _) _))).mono ?_; rw [HG.out]; rintro e w1 ⟨rfl, b1⟩; obtain ⟨c0, c1, c2, c3⟩ := HBX.out _ b1; have b1w := below_chain (below_al (Below.refl w.heap.size w) _) b1) | (go_at_call 85; refine (implIsRecord_any _ ⟨y0, y1, y2, y3⟩ _ (HV.out _ b1w)).mono ?_; rw [HR.out]; rintro e w2 ⟨rfl, b2⟩; replace b1 := b1.trans (b2.mono b1.size); obtain ⟨c0, c1, c2, c3⟩ := HBX.out _ b1; replace b1w := b1w.trans (b2.mono b1w.size); clear b2) | (go_at_call 79; refine (isDay_any _ _).mono ?_; rw [HD.out]; rintro e w3 ⟨rfl, h3⟩; subst w3))
        have s1 := b1w.size
        obtain ⟨ws, hws⟩ : ∃ ws, ws = w2 := ⟨_, rfl⟩
        subst hws
        go_loopw [2] (fun dy wr => ∃ D : Int, dy = .int .i64 D ∧ Hid (d ≤ D ∧ D ≤ 20001 ∧ ∀ x, d ≤ x → x < D → heldB t ⟨y0, y1, y2, y3⟩ x = true) ∧ Below ws.heap.size ws wr) (fun dy _ => (20001 - intOf dy).toNat)
        case atStart => exact ⟨d, rfl, Lib.hid ⟨Int.le_refl _, by have := HDD.out; omega, fun x a b => absurd a (by omega)⟩, Below.refl _ _⟩
        case round =>
          obtain ⟨D, rfl, HQ, hb⟩ := hrel
          have hbw := b1w.trans (hb.mono s1)
          have hsz := hb.size
          by_cases hle : D ≤ 20000
          · obtain ⟨c0, c1, c2, c3⟩ := HBX.out _ (b1.trans (hb.mono b1.size))
            obtain ⟨c, hc⟩ : ∃ c, gIdx (fun g : Ho => covB g ⟨y0, y1, y2, y3⟩ D) t = c := ⟨_, rfl⟩
            have HC := Lib.hid hc
            rcases gIdx_cases hoD (fun g : Ho => covB g ⟨y0, y1, y2, y3⟩ D) t with ⟨h1, h2⟩ | ⟨k, h1, hlt, h3, _⟩
            · have hcn : c = -1 := by rw [← hc]; exact h1
              subst hcn
              have hF : freeF t ⟨y0, y1, y2, y3⟩ d = D := free_is HDD.out.1 HQ.out.1 hle (held_no h2) HQ.out.2.2
              obtain ⟨e0, rfl⟩ := YES.out ⟨HASK.out, by rw [hF]; exact hle⟩
              have E0 := Lib.hid (e0.trans hF)
              clear hc h1 h2 hF e0
              go_wp2_with (first | (go_at_call 87; refine (covers_any _ ⟨y0, y1, y2, y3⟩ D _ (HV.out _ hbw)).mono ?_; rintro e w4 ⟨B1, B2, rfl, hcov, b4⟩; have b4w := hbw.trans (b4.mono hbw.size); replace b4 := hb.trans (b4.mono hb.size)) | (go_at_call 91; refine (covIdx_any _ t ⟨y0, y1, y2, y3⟩ D B1 B2 _ (H.out.below rHo_stable b4w) hcov).mono ?_; rw [HC.out]; rintro e w5 ⟨rfl, b5⟩; have hk5 := hcov; have b5w := b4w.trans (b5.mono b4w.size); replace b5 := b4.trans (b5.mono b4.size); clear hk5))
              go_ret2
              rw [E0.out]
              exact ⟨rfl, b5w⟩
            · have hcn : c = (k : Int) := by rw [← hc]; exact h1
              subst hcn
              have hone := ho_at HG.out hlt
              have hcE := (covB_iff.1 h3).1.2
              have hend := endH_bd hone
              have hspan : ∀ x, d ≤ x → x < endH (t.getD k hoD) → heldB t ⟨y0, y1, y2, y3⟩ x = true := fun x a b => by
                rcases Int.lt_or_le x D with h | h
                · exact HQ.out.2.2 x a h
                · exact held_at hlt (cov_span h3 h b)
              obtain ⟨E, hE⟩ : ∃ E, endH (t.getD k hoD) = E := ⟨_, rfl⟩
              rw [hE] at hcE hend hspan
              have HSP := Lib.hid hspan
              obtain ⟨bR, oR, hbR, rfl, e1⟩ := R1.out.resolve_left (fun e => by rw [e] at hlt; simp at hlt)
              obtain ⟨⟨x0, x1, x2, x3, x4, x5⟩, hx⟩ : ∃ s, t.getD k hoD = s := ⟨_, rfl⟩
              obtain ⟨s, q0, q1, q2, q3, q4, q5, hr, hok⟩ := e1 k hlt
              rw [hx] at q0 q1 q2 q4 q5 hr hok hE
              simp only at q0 q1 q2 q4 q5 hr
              have HL5 := Lib.hid (show ∀ W, Below w.heap.size w W → W.cell? ⟨bR, oR + k * 6, none⟩ = some (.int .i64 x0) ∧ W.cell? ⟨bR, oR + k * 6 + 1, none⟩ = some (.int .i64 x1) ∧ W.cell? ⟨bR, oR + k * 6 + 2, none⟩ = some (.int .i64 x2) ∧ W.cell? ⟨bR, oR + k * 6 + 3, none⟩ = some s ∧ W.cell? ⟨bR, oR + k * 6 + 4, none⟩ = some (.int .i64 x4) ∧ W.cell? ⟨bR, oR + k * 6 + 5, none⟩ = some (.int .i64 x5) from
                fun W hW => ⟨cell_kept q0 hW, cell_kept q1 hW, cell_kept q2 hW, cell_kept q3 hW, cell_kept q4 hW, cell_kept q5 hW⟩)
              have HL6 := Lib.hid (show ∀ W, Below w.heap.size w W → HoV W (.agg #[.int .i64 x0, .int .i64 x1, .int .i64 x2, s, .int .i64 x4, .int .i64 x5]) ⟨x0, x1, x2, x3, x4, x5⟩ from fun W hW => ⟨s, rfl, hr.below hW, hok⟩)
              obtain ⟨sa, sc, rfl, _⟩ := hr
              have HE := Lib.hid hE
              have g0 : (0 : Int) ≤ (k : Int) := by omega
              have g1 : (k : Int) < (t.length : Int) := by omega
              have hD0 : d ≤ D := HQ.out.1
              clear hc h1 h3 hone hspan q0 q1 q2 q3 q4 q5 hok hx e1 hE
              go_wp2_with (first | (go_at_call 87; refine (covers_any _ ⟨y0, y1, y2, y3⟩ D _ (HV.out _ hbw)).mono ?_; rintro e w4 ⟨B1, B2, rfl, hcov, b4⟩; have b4w := hbw.trans (b4.mono hbw.size); replace b4 := hb.trans (b4.mono hb.size)) | (go_at_call 91; refine (covIdx_any _ t ⟨y0, y1, y2, y3⟩ D B1 B2 _ (H.out.below rHo_stable b4w) hcov).mono ?_; rw [HC.out]; rintro e w5 ⟨rfl, b5⟩; have hk5 := hcov; have b5w := b4w.trans (b5.mono b4w.size); replace b5 := b4.trans (b5.mono b4.size); obtain ⟨u0, u1, u2, u3, u4, u5⟩ := HL5.out _ b5w; clear hk5) | (go_at_call 92; refine (endOf_any _ _ _ (HL6.out _ b5w)).mono ?_; rw [HE.out]; rintro e w6 ⟨rfl, b6⟩; replace b6 := b5.trans (b6.mono b5.size)))
              go_roundw
              case rel => exact ⟨E, rfl, Lib.hid ⟨by omega, hend.2.1, HSP.out⟩, b6⟩
              case measure => simp [intOf]; omega
          · have hDt : D = 20001 := by have := HQ.out.2.1; omega
            have hF : freeF t ⟨y0, y1, y2, y3⟩ d = 20001 := free_top (fun x a b => HQ.out.2.2 x a (by omega))
            obtain ⟨rfl, rfl⟩ := NO.out (fun hc => by have := hc.2; rw [hF] at this; omega)
            clear hDt hF
            go_wp2_with fail
            go_ret2
            exact ⟨rfl, hbw⟩

set_option maxRecDepth 20000 in
set_option maxHeartbeats 4000000 in
theorem implMostHolds_any (v v1 : Value) (t : List Ho) (r : Rec) (w : World) (h : RowR 6 rHo w v t) (h1 : RecV w v1 r) (x y : Int) (b : Bool) (hres : moRes t r = (x, y, b)) :
    Calls Try.prog 49 #[v, v1] w fun e w' => e = .returned (.tuple #[.int .i64 x, .int .i64 y, .bool b]) ∧ Below w.heap.size w w' := by
  obtain ⟨s, rfl, hr, hok⟩ := h1
  obtain ⟨y0, y1, y2, y3⟩ := r
  simp only at hr ⊢
  have HV := Lib.hid (show ∀ W, Below w.heap.size w W → RecV W (.agg #[.int .i64 y0, .int .i64 y1, .int .i64 y2, s]) ⟨y0, y1, y2, y3⟩ from fun W hW => ⟨s, rfl, hr.below rEv_stable hW, hok⟩)
  obtain ⟨sb, sd, rfl, _⟩ := hr
  have HBX := Lib.hid (show ∀ W, Below (w.alloc (.cells #[.int .i64 y0, .int .i64 y1, .int .i64 y2, .slice sb y3.length sd] 38 (0, 0))).heap.size (w.alloc (.cells #[.int .i64 y0, .int .i64 y1, .int .i64 y2, .slice sb y3.length sd] 38 (0, 0))) W → W.cell? ⟨w.heap.size, 0, none⟩ = some (.int .i64 y0) ∧ W.cell? ⟨w.heap.size, 1, none⟩ = some (.int .i64 y1) ∧ W.cell? ⟨w.heap.size, 2, none⟩ = some (.int .i64 y2) ∧ W.cell? ⟨w.heap.size, 3, none⟩ = some (.slice sb y3.length sd) from
    fun W hW => ⟨cell_kept (cell_new w _ _ 0 rfl) hW, cell_kept (cell_new w _ _ 1 rfl) hW, cell_kept (cell_new w _ _ 2 rfl) hW, cell_kept (cell_new w _ _ 3 rfl) hW⟩)
  have H := Lib.hid h
  obtain ⟨a1, c1, rfl, hl1, hm1, r1⟩ := h.hos
  have R1 := Lib.hid r1
  unfold maxLen at hm1
  obtain ⟨bg, hg⟩ : ∃ b, areHo t = b := ⟨_, rfl⟩
  obtain ⟨br, hrr⟩ : ∃ b, isRec ⟨y0, y1, y2, y3⟩ = b := ⟨_, rfl⟩
  have HG := Lib.hid hg
  have HR := Lib.hid hrr
  have NO := Lib.hid (fun hn => moRes_no hres hn)
  have YES := Lib.hid (fun hn => moRes_yes hres hn)
  clear h hg hrr hres hok r1
  cases bg
  · skip
    obtain ⟨rfl, rfl, rfl⟩ := NO.out (fun hc => by rw [HG.out] at hc; exact absurd hc.1 (by simp))
    go_enter Try.func49, Try.ntmps49
    go_wp2_with (first | (go_at_call 18; refine (implAreHo_any _ t _ (H.out.below rHo_stable (below_al (Below.refl _ _) _))).mono ?_; rw [HG.out]; rintro e w1 ⟨rfl, b1⟩; obtain ⟨c0, c1, c2, c3⟩ := HBX.out _ b1; have b1w := below_chain (below_al (Below.refl w.heap.size w) _) b1))
    go_ret3
    exact ⟨rfl, b1w⟩
  · cases br
    · skip
      obtain ⟨rfl, rfl, rfl⟩ := NO.out (fun hc => by rw [HR.out] at hc; exact absurd hc.2 (by simp))
      go_enter Try.func49, Try.ntmps49
      go_wp2_with (first | (go_at_call 18; refine (implAreHo_any _ t _ (H.out.below rHo_stable (below_al (Below.refl _ _) _))).mono ?_; rw [HG.out]; rintro e w1 ⟨rfl, b1⟩; obtain ⟨c0, c1, c2, c3⟩ := HBX.out _ b1; have b1w := below_chain (below_al (Below.refl w.heap.size w) _) b1) | (go_at_call 85; refine (implIsRecord_any _ ⟨y0, y1, y2, y3⟩ _ (HV.out _ b1w)).mono ?_; rw [HR.out]; rintro e w2 ⟨rfl, b2⟩; replace b1 := b1.trans (b2.mono b1.size); obtain ⟨c0, c1, c2, c3⟩ := HBX.out _ b1; replace b1w := b1w.trans (b2.mono b1w.size); clear b2))
      go_ret3
      exact ⟨rfl, b1w⟩
    · obtain ⟨e1, e2, e3⟩ := YES.out ⟨HG.out, HR.out⟩
      have hn8 := ho_len HG.out
      have E1 := Lib.hid e1
      have E2 := Lib.hid e2
      have E3 := Lib.hid e3
      clear e1 e2 e3 NO YES
      go_enter Try.func49, Try.ntmps49
      go_wp2_with (first | (go_at_call 18; refine (implAreHo_any _ t _ (H.out.below rHo_stable (below_al (Below.refl _ _) _))).mono ?_; rw [HG.out]; rintro e w1 ⟨rfl, b1⟩; obtain ⟨c0, c1, c2, c3⟩ := HBX.out _ b1; have b1w := below_chain (below_al (Below.refl w.heap.size w) _) b1) | (go_at_call 85; refine (implIsRecord_any _ ⟨y0, y1, y2, y3⟩ _ (HV.out _ b1w)).mono ?_; rw [HR.out]; rintro e w2 ⟨rfl, b2⟩; replace b1 := b1.trans (b2.mono b1.size); obtain ⟨c0, c1, c2, c3⟩ := HBX.out _ b1; replace b1w := b1w.trans (b2.mono b1w.size); clear b2))
      have s1 := b1w.size
      obtain ⟨ws, hws⟩ : ∃ ws, ws = w2 := ⟨_, rfl⟩
      subst hws
      go_loopw [7, 8, 22] (fun m f i wr => ∃ (k : Nat) (M F : Int), k ≤ t.length ∧ i = .int .i64 k ∧ m = .int .i64 M ∧ f = .int .i64 F ∧ Hid (mostN t ⟨y0, y1, y2, y3⟩ k = (M, F)) ∧ Below ws.heap.size ws wr) (fun _ _ i _ => t.length - (intOf i).toNat)
      case atStart => exact ⟨0, 0, 0, Nat.zero_le _, rfl, rfl, rfl, Lib.hid rfl, Below.refl _ _⟩
      case round =>
        obtain ⟨k, M, F, hk, rfl, rfl, rfl, HM, hb⟩ := hrel
        have hbw := b1w.trans (hb.mono s1)
        have hsz := hb.size
        by_cases hlt : k < t.length
        · obtain ⟨bR, oR, hbR, rfl, e1⟩ := R1.out.resolve_left (fun e => by rw [e] at hlt; simp at hlt)
          have hmp := most_p (r := ⟨y0, y1, y2, y3⟩) HG.out hlt
          obtain ⟨⟨x0, x1, x2, x3, x4, x5⟩, hx⟩ : ∃ s, t.getD k hoD = s := ⟨_, rfl⟩
          obtain ⟨s, q0, q1, q2, q3, q4, q5, hr, hok⟩ := e1 k hlt
          rw [hx] at q0 q1 q2 q4 q5 hr hok hmp
          simp only at q0 q1 q2 q4 q5 hr hmp
          have f0 := cell_kept q0 hbw
          have f1 := cell_kept q1 hbw
          have f2 := cell_kept q2 hbw
          have f3 := cell_kept q3 hbw
          have f4 := cell_kept q4 hbw
          have f5 := cell_kept q5 hbw
          obtain ⟨N, hN⟩ : ∃ N : Nat, (onHo t ⟨y0, y1, y2, y3⟩ x1).length = N := ⟨_, rfl⟩
          have HST : Hid (mostN t ⟨y0, y1, y2, y3⟩ (k + 1) = if M < (N : Int) ∨ ((N : Int) = M ∧ x1 < F) then ((N : Int), x1) else (M, F)) := Lib.hid (by
            rw [hmp, hN, HM.out])
          have HON := Lib.hid hN
          obtain ⟨sa, sc, rfl, _⟩ := hr
          have g0 : (0 : Int) ≤ (k : Int) := by omega
          have g1 : (k : Int) < (t.length : Int) := by omega
          have hbx := below_al hbw (.cells #[.int .i64 x0, .int .i64 x1, .int .i64 x2, .slice sa x3.length sc, .int .i64 x4, .int .i64 x5] 100 (0, 0))
          have HKX := Lib.hid (show ∀ W, Below (wr.alloc (.cells #[.int .i64 x0, .int .i64 x1, .int .i64 x2, .slice sa x3.length sc, .int .i64 x4, .int .i64 x5] 100 (0, 0))).heap.size (wr.alloc (.cells #[.int .i64 x0, .int .i64 x1, .int .i64 x2, .slice sa x3.length sc, .int .i64 x4, .int .i64 x5] 100 (0, 0))) W → W.cell? ⟨wr.heap.size, 0, none⟩ = some (.int .i64 x0) ∧ W.cell? ⟨wr.heap.size, 1, none⟩ = some (.int .i64 x1) ∧ W.cell? ⟨wr.heap.size, 2, none⟩ = some (.int .i64 x2) ∧ W.cell? ⟨wr.heap.size, 3, none⟩ = some (.slice sa x3.length sc) ∧ W.cell? ⟨wr.heap.size, 4, none⟩ = some (.int .i64 x4) ∧ W.cell? ⟨wr.heap.size, 5, none⟩ = some (.int .i64 x5) from
            fun W hW => ⟨cell_kept (cell_new wr _ _ 0 rfl) hW, cell_kept (cell_new wr _ _ 1 rfl) hW, cell_kept (cell_new wr _ _ 2 rfl) hW, cell_kept (cell_new wr _ _ 3 rfl) hW, cell_kept (cell_new wr _ _ 4 rfl) hW, cell_kept (cell_new wr _ _ 5 rfl) hW⟩)
          obtain ⟨c0, c1, c2, c3⟩ := HBX.out _ (b1.trans (hb.mono b1.size))
          have c0a := below_al_cell c0 (.cells #[.int .i64 x0, .int .i64 x1, .int .i64 x2, .slice sa x3.length sc, .int .i64 x4, .int .i64 x5] 100 (0, 0))
          have c1a := below_al_cell c1 (.cells #[.int .i64 x0, .int .i64 x1, .int .i64 x2, .slice sa x3.length sc, .int .i64 x4, .int .i64 x5] 100 (0, 0))
          have c2a := below_al_cell c2 (.cells #[.int .i64 x0, .int .i64 x1, .int .i64 x2, .slice sa x3.length sc, .int .i64 x4, .int .i64 x5] 100 (0, 0))
          have c3a := below_al_cell c3 (.cells #[.int .i64 x0, .int .i64 x1, .int .i64 x2, .slice sa x3.length sc, .int .i64 x4, .int .i64 x5] 100 (0, 0))
          clear q0 q1 q2 q3 q4 q5 hok hx e1 hN hmp
          by_cases hA : M < (N : Int)
          · have HS2 := Lib.hid (HST.out.trans (if_pos (.inl hA)))
            go_wp2_with (first | (go_at_call 87; refine (covers_any _ ⟨y0, y1, y2, y3⟩ x1 _ (HV.out _ hbx)).mono ?_; rintro e w4 ⟨B1, B2, rfl, hcov, b4⟩; have b4w := hbx.trans (b4.mono hbx.size); obtain ⟨u0, u1, u2, u3, u4, u5⟩ := HKX.out _ b4; have b4h := b4) | (go_at_call 86; refine (idsOf_any _ t ⟨y0, y1, y2, y3⟩ x1 B1 B2 _ (H.out.below rHo_stable b4w) hcov (by omega)).mono ?_; rintro e w5 ⟨v', rfl, hi, b5⟩; obtain ⟨u0, u1, u2, u3, u4, u5⟩ := HKX.out _ (b4h.trans (b5.mono b4h.size)); obtain ⟨ao, co, rfl, _⟩ := hi.row; rw [HON.out]; replace b5 := b4h.trans (b5.mono b4h.size); clear hi))
            have m1 := cell_regrown u1
            refine wp_region_quiet_below (by kernel_rfl) (by kernel_rfl) ?_
            repeat (go_big_quiet_step (fail))
            refine wpQuiet_nil ?_
            intro _ hw'
            obtain ⟨⟨dq, osq⟩, hw''⟩ := hw'
            subst hw''
            have bq := below_regrown w5 dq osq
            have b6 := b5.trans (bq.mono b5.size)
            generalize grow (redrawn w5 dq) osq = w2 at *
            go_wp2
            go_roundw
            case rel => exact ⟨k + 1, N, x1, by omega, by go_num, rfl, rfl, HS2, hb.trans ((below_chain (below_al (Below.refl _ _) _) b6).mono hsz)⟩
            case measure => simp [intOf]; omega
          · have dA : decide (M < (N : Int)) = false := decide_eq_false hA
            by_cases hB : (N : Int) = M
            · have dB : ((N : Int) == M) = true := by simp [hB]
              by_cases hD : x1 < F
              · have HS2 := Lib.hid (HST.out.trans (if_pos (.inr ⟨hB, hD⟩)))
                have HBB := Lib.hid hB
                clear hB
                go_wp2_with (first | (go_at_call 87; refine (covers_any _ ⟨y0, y1, y2, y3⟩ x1 _ (HV.out _ hbx)).mono ?_; rintro e w4 ⟨B1, B2, rfl, hcov, b4⟩; have b4w := hbx.trans (b4.mono hbx.size); obtain ⟨u0, u1, u2, u3, u4, u5⟩ := HKX.out _ b4; have b4h := b4) | (go_at_call 86; refine (idsOf_any _ t ⟨y0, y1, y2, y3⟩ x1 B1 B2 _ (H.out.below rHo_stable b4w) hcov (by omega)).mono ?_; rintro e w5 ⟨v', rfl, hi, b5⟩; obtain ⟨u0, u1, u2, u3, u4, u5⟩ := HKX.out _ (b4h.trans (b5.mono b4h.size)); obtain ⟨ao, co, rfl, _⟩ := hi.row; rw [HON.out]; replace b5 := b4h.trans (b5.mono b4h.size); clear hi))
                have m1 := cell_regrown u1
                refine wp_region_quiet_below (by kernel_rfl) (by kernel_rfl) ?_
                repeat (go_big_quiet_step (fail))
                refine wpQuiet_nil ?_
                intro _ hw'
                obtain ⟨⟨dq, osq⟩, hw''⟩ := hw'
                subst hw''
                have bq := below_regrown w5 dq osq
                have b6 := b5.trans (bq.mono b5.size)
                generalize grow (redrawn w5 dq) osq = w2 at *
                go_wp2
                go_roundw
                case rel => exact ⟨k + 1, N, x1, by omega, by go_num, rfl, rfl, HS2, hb.trans ((below_chain (below_al (Below.refl _ _) _) b6).mono hsz)⟩
                case measure => simp [intOf]; omega
              · have dD : decide (x1 < F) = false := decide_eq_false hD
                have HS2 := Lib.hid (HST.out.trans (if_neg (fun h => by rcases h with h | ⟨_, h⟩ <;> contradiction)))
                have HBB := Lib.hid hB
                clear hB
                go_wp2_with (first | (go_at_call 87; refine (covers_any _ ⟨y0, y1, y2, y3⟩ x1 _ (HV.out _ hbx)).mono ?_; rintro e w4 ⟨B1, B2, rfl, hcov, b4⟩; have b4w := hbx.trans (b4.mono hbx.size); obtain ⟨u0, u1, u2, u3, u4, u5⟩ := HKX.out _ b4; have b4h := b4) | (go_at_call 86; refine (idsOf_any _ t ⟨y0, y1, y2, y3⟩ x1 B1 B2 _ (H.out.below rHo_stable b4w) hcov (by omega)).mono ?_; rintro e w5 ⟨v', rfl, hi, b5⟩; obtain ⟨u0, u1, u2, u3, u4, u5⟩ := HKX.out _ (b4h.trans (b5.mono b4h.size)); obtain ⟨ao, co, rfl, _⟩ := hi.row; rw [HON.out]; replace b5 := b4h.trans (b5.mono b4h.size); clear hi))
                go_roundw
                case rel => exact ⟨k + 1, M, F, by omega, by go_num, rfl, rfl, HS2, hb.trans ((below_chain (below_al (Below.refl _ _) _) b5).mono hsz)⟩
                case measure => simp [intOf]; omega
            · have dB : ((N : Int) == M) = false := beq_false_of_ne hB
              have HS2 := Lib.hid (HST.out.trans (if_neg (fun h => by rcases h with h | ⟨h, _⟩ <;> contradiction)))
              have HBB := Lib.hid hB
              clear hB
              go_wp2_with (first | (go_at_call 87; refine (covers_any _ ⟨y0, y1, y2, y3⟩ x1 _ (HV.out _ hbx)).mono ?_; rintro e w4 ⟨B1, B2, rfl, hcov, b4⟩; have b4w := hbx.trans (b4.mono hbx.size); obtain ⟨u0, u1, u2, u3, u4, u5⟩ := HKX.out _ b4; have b4h := b4) | (go_at_call 86; refine (idsOf_any _ t ⟨y0, y1, y2, y3⟩ x1 B1 B2 _ (H.out.below rHo_stable b4w) hcov (by omega)).mono ?_; rintro e w5 ⟨v', rfl, hi, b5⟩; obtain ⟨u0, u1, u2, u3, u4, u5⟩ := HKX.out _ (b4h.trans (b5.mono b4h.size)); obtain ⟨ao, co, rfl, _⟩ := hi.row; rw [HON.out]; replace b5 := b4h.trans (b5.mono b4h.size); clear hi))
              go_roundw
              case rel => exact ⟨k + 1, M, F, by omega, by go_num, rfl, rfl, HS2, hb.trans ((below_chain (below_al (Below.refl _ _) _) b5).mono hsz)⟩
              case measure => simp [intOf]; omega
        · have hkl : k = t.length := by omega
          have hM := HM.out
          rw [hkl] at hM
          have EE1 : Hid (x = M) := Lib.hid (by rw [E1.out, hM])
          have EE2 : Hid (y = F) := Lib.hid (by rw [E2.out, hM])
          have EE3 : Hid (b = decide (0 < M)) := Lib.hid (by rw [E3.out, hM])
          clear hkl hM
          go_wp2_with fail
          go_ret3
          rw [EE1.out, EE2.out, EE3.out]
          exact ⟨rfl, hbw⟩
end Go.Proofs.Ytkjpehpodlpdhaa
