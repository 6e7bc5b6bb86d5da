/- The program's own IsRecord answers isRec. -/
import Derived.Test.YtenjajcknmfhfaaIsRec
namespace Go.Proofs.Ytenjajcknmfhfaa
set_option linter.unusedVariables false
open Go.RowKit Go.Sort

set_option maxHeartbeats 2000000 in
theorem implIsRecord_any (v : Value) (r : Rec) (w : World) (h : RecV w v r) :
    Calls Try.prog 128 #[v] w fun e w' => e = .returned (.bool (isRec r)) ∧ Below w.heap.size w w' := by
  obtain ⟨s, rfl, h1, hok⟩ := h
  obtain ⟨id, series, made, evs⟩ := r
  obtain ⟨o1, o2, o3⟩ := hok
  simp only [inI] at o1 o2 o3
  obtain ⟨a1, c1, rfl, hl1, hm1, r1⟩ := h1.evs
  have R1 := Lib.hid r1
  clear h1 r1
  unfold maxLen at hm1
  simp only at hl1 hm1 ⊢
  obtain ⟨bs, hbs⟩ : ∃ b, decide (1 ≤ series ∧ series ≤ 99) = b := ⟨_, rfl⟩
  obtain ⟨bm, hbm⟩ : ∃ b, decide (0 ≤ made ∧ made ≤ 20000) = b := ⟨_, rfl⟩
  have HS := Lib.hid hbs
  have HM := Lib.hid hbm
  clear hbs hbm
  have hrec : isRec ⟨id, series, made, evs⟩ = (decide (1 ≤ id ∧ id ≤ 999) && (bs && (bm && (decide (evs.length ≤ 6) && upto (evAtB made evs) evs.length)))) := by simp only [isRec]; rw [HS.out, HM.out]
  have HR := Lib.hid hrec
  clear hrec
  by_cases h1 : id < 1
  · go_enter Try.func128, Try.ntmps128
    go_wp2_with (first | (go_at_call 90; refine (isSeries_any _ _).mono ?_; rw [HS.out]; rintro e w2 ⟨rfl, rfl⟩) | (go_at_call 111; refine (isDay_any _ _).mono ?_; rw [HM.out]; rintro e w2 ⟨rfl, rfl⟩))
    go_ret
    exact ⟨ret_bool (by rw [HR.out]; rw [decide_eq_false (by omega)]; rfl), below_al (Below.refl _ _) _⟩
  by_cases h2 : 999 < id
  · go_enter Try.func128, Try.ntmps128
    go_wp2_with (first | (go_at_call 90; refine (isSeries_any _ _).mono ?_; rw [HS.out]; rintro e w2 ⟨rfl, rfl⟩) | (go_at_call 111; refine (isDay_any _ _).mono ?_; rw [HM.out]; rintro e w2 ⟨rfl, rfl⟩))
    go_ret
    exact ⟨ret_bool (by rw [HR.out]; rw [decide_eq_false (by omega)]; rfl), below_al (Below.refl _ _) _⟩
  cases bs
  · go_enter Try.func128, Try.ntmps128
    go_wp2_with (first | (go_at_call 90; refine (isSeries_any _ _).mono ?_; rw [HS.out]; rintro e w2 ⟨rfl, rfl⟩) | (go_at_call 111; refine (isDay_any _ _).mono ?_; rw [HM.out]; rintro e w2 ⟨rfl, rfl⟩))
    go_ret
    exact ⟨ret_bool (by rw [HR.out]; simp), below_al (Below.refl _ _) _⟩
  cases bm
  · go_enter Try.func128, Try.ntmps128
    go_wp2_with (first | (go_at_call 90; refine (isSeries_any _ _).mono ?_; rw [HS.out]; rintro e w2 ⟨rfl, rfl⟩) | (go_at_call 111; refine (isDay_any _ _).mono ?_; rw [HM.out]; rintro e w2 ⟨rfl, rfl⟩))
    go_ret
    exact ⟨ret_bool (by rw [HR.out]; simp), below_al (Below.refl _ _) _⟩
  by_cases hL : 6 < evs.length
  · have gL : (6 : Int) < evs.length := by omega
    go_enter Try.func128, Try.ntmps128
    go_wp2_with (first | (go_at_call 90; refine (isSeries_any _ _).mono ?_; rw [HS.out]; rintro e w2 ⟨rfl, rfl⟩) | (go_at_call 111; refine (isDay_any _ _).mono ?_; rw [HM.out]; rintro e w2 ⟨rfl, rfl⟩))
    go_ret
    exact ⟨ret_bool (by rw [HR.out]; rw [decide_eq_false (show ¬ evs.length ≤ 6 by omega)]; simp), below_al (Below.refl _ _) _⟩
  have g1 : (1 : Int) ≤ id := by omega
  have g2 : id ≤ 999 := by omega
  have gL : (evs.length : Int) ≤ 6 := by omega
  go_enter Try.func128, Try.ntmps128
  go_wp2_with (first | (go_at_call 90; refine (isSeries_any _ _).mono ?_; rw [HS.out]; rintro e w2 ⟨rfl, rfl⟩) | (go_at_call 111; refine (isDay_any _ _).mono ?_; rw [HM.out]; rintro e w2 ⟨rfl, rfl⟩))
  go_loopw [3, 35] (fun b i wr => ∃ (k : Nat) (pk : Int), k ≤ evs.length ∧ i = .int .i64 k ∧ b = .int .i64 pk ∧ Hid (prevK evs k = pk) ∧ upto (evAtB made evs) k = true ∧ Below w.heap.size w wr ∧ wr.cell? ⟨w.heap.size, 2, none⟩ = some (.int .i64 made)) (fun _ i _ => evs.length - (intOf i).toNat)
  case atStart => exact ⟨0, 0, Nat.zero_le _, rfl, rfl, rfl, by simp [upto], below_al (Below.refl _ _) _, cell_new w _ _ 2 rfl⟩
  case round =>
    obtain ⟨k, pk, hk, rfl, rfl, HP, hu, hb, p2⟩ := hrel
    have HU := Lib.hid hu
    clear hu
    by_cases hlt : k < evs.length
    · obtain ⟨b1, o1, hb1, rfl, e1⟩ := R1.out.resolve_left (fun e => by rw [e] at hlt; simp at hlt)
      obtain ⟨⟨x, y⟩, hx⟩ : ∃ s, evs.getD k evD = s := ⟨_, rfl⟩
      obtain ⟨q1, q2, hok⟩ := e1 k hlt
      rw [hx] at q1 q2 hok
      have f1 := cell_kept q1 hb
      have f2 := cell_kept q2 hb
      have HX := Lib.hid hx
      have g0 : (0 : Int) ≤ (k : Int) := by omega
      have g1 : (k : Int) < (evs.length : Int) := by omega
      clear q1 q2 hx e1 hok
      obtain ⟨bE, hbE⟩ : ∃ b, isEv ⟨x, y⟩ = b := ⟨_, rfl⟩
      have hcall : ∀ W : World, Calls Try.prog 162 #[.agg #[.int .i64 x, .int .i64 y]] W fun e w' => e = .returned (.bool bE) ∧ Below W.heap.size W w' := fun W => by
        have := implIsEvent_any ⟨x, y⟩ W
        rwa [hbE] at this
      have HE := Lib.hid hbE
      clear hbE
      have hw := hb.size
      cases bE
      · go_wp2_with (first | (go_at_call 162; refine (hcall _).mono ?_; rintro e w2 ⟨rfl, bq⟩; have k0 := cell_kept (cell_new wr _ _ 0 rfl) bq; have k1 := cell_kept (cell_new wr _ _ 1 rfl) bq; have k2 := cell_kept (cell_kept p2 (below_al (Below.refl _ _) _)) bq; have bb := below_chain (below_al (Below.refl wr.heap.size wr) _) bq))
        go_ret
        exact ⟨ret_bool (Eq.symm (notRec hlt (by rw [evAtB, HX.out, HE.out]; rfl))), hb.trans (bb.mono hw)⟩
      · by_cases hP : x ≤ pk
        · go_wp2_with (first | (go_at_call 162; refine (hcall _).mono ?_; rintro e w2 ⟨rfl, bq⟩; have k0 := cell_kept (cell_new wr _ _ 0 rfl) bq; have k1 := cell_kept (cell_new wr _ _ 1 rfl) bq; have k2 := cell_kept (cell_kept p2 (below_al (Below.refl _ _) _)) bq; have bb := below_chain (below_al (Below.refl wr.heap.size wr) _) bq))
          go_ret
          exact ⟨ret_bool (Eq.symm (notRec hlt (by rw [evAtB, HX.out, HP.out, decide_eq_false (show ¬ pk < x by omega)]; simp))), hb.trans (bb.mono hw)⟩
        · by_cases hD : y < made
          · go_wp2_with (first | (go_at_call 162; refine (hcall _).mono ?_; rintro e w2 ⟨rfl, bq⟩; have k0 := cell_kept (cell_new wr _ _ 0 rfl) bq; have k1 := cell_kept (cell_new wr _ _ 1 rfl) bq; have k2 := cell_kept (cell_kept p2 (below_al (Below.refl _ _) _)) bq; have bb := below_chain (below_al (Below.refl wr.heap.size wr) _) bq))
            go_ret
            exact ⟨ret_bool (Eq.symm (notRec hlt (by rw [evAtB, HX.out, HE.out, decide_eq_false (show ¬ made ≤ y by omega)]; rfl))), hb.trans (bb.mono hw)⟩
          · go_wp2_with (first | (go_at_call 162; refine (hcall _).mono ?_; rintro e w2 ⟨rfl, bq⟩; have k0 := cell_kept (cell_new wr _ _ 0 rfl) bq; have k1 := cell_kept (cell_new wr _ _ 1 rfl) bq; have k2 := cell_kept (cell_kept p2 (below_al (Below.refl _ _) _)) bq; have bb := below_chain (below_al (Below.refl wr.heap.size wr) _) bq))
            go_roundw
            case rel => exact ⟨k + 1, x, by omega, by go_num, rfl, (show prevK evs (k + 1) = x by rw [prevK, HX.out]), upto_succ HU.out (by rw [evAtB, HX.out, HE.out, HP.out, decide_eq_true (show made ≤ y by omega)]; exact decide_eq_true (by omega)), hb.trans (bb.mono hw), k2⟩
            case measure => simp [intOf]; omega
    · obtain rfl : k = evs.length := by omega
      go_wp2_with fail
      go_ret
      exact ⟨ret_bool (by rw [HR.out, HU.out, decide_eq_true (show evs.length ≤ 6 by omega), decide_eq_true (show 1 ≤ id ∧ id ≤ 999 by omega)]; rfl), hb⟩
end Go.Proofs.Ytenjajcknmfhfaa
