/- Holds, the program's: endOf, untilFitsFrom, areHoldSeries, AreHolds, the closures that tell what covers a record, idsOf, slices.IndexFunc and ContainsFunc with them. -/
import Derived.Test.YtiglkpcgioomgaaTyHo
import Derived.Test.YtiglkpcgioomgaaCells
import Derived.Test.YtiglkpcgioomgaaDayI
import Derived.Test.YtiglkpcgioomgaaIsSer
import Derived.Test.YtiglkpcgioomgaaContains
import Derived.Test.YtiglkpcgioomgaaTyRec
import Derived.Test.YtiglkpcgioomgaaInts
import Derived.Lib.QuietBelow
import Derived.BigQuiet
import Derived.WalkSmall
namespace Go.Proofs.Ytiglkpcgioomgaa
set_option linter.unusedVariables false
open Go.RowKit Go.Sort

theorem endOf_any (v : Value) (h : Ho) (w : World) (hv : HoV w v h) :
    Calls Try.prog 70 #[v] w fun e w' => e = .returned (.int .i64 (endH h)) ∧ Below w.heap.size w w' := by
  obtain ⟨s, rfl, hr, hok⟩ := hv
  obtain ⟨x0, x1, x2, x3, x4, x5⟩ := h
  simp only at hr ⊢
  obtain ⟨sa, sc, rfl, _⟩ := hr
  unfold endH
  simp only
  by_cases hu : x2 = -1
  · have hq : (x2 == -1) = true := by simp [hu]
    rw [if_pos hu]
    clear hu
    go_enter Try.func70, Try.ntmps70
    go_wp2
    go_ret
    exact ⟨rfl, below_al (Below.refl _ _) _⟩
  · have hq : (x2 == -1) = false := by simp [hu]
    rw [if_neg hu]
    clear hu
    go_enter Try.func70, Try.ntmps70
    go_wp2
    go_ret
    exact ⟨rfl, below_al (Below.refl _ _) _⟩

theorem untilFits_any (v : Value) (h : Ho) (w : World) (hv : HoV w v h) :
    Calls Try.prog 55 #[v] w fun e w' => e = .returned (.bool (tilB h)) ∧ Below w.heap.size w w' := by
  obtain ⟨s, rfl, hr, hok⟩ := hv
  obtain ⟨x0, x1, x2, x3, x4, x5⟩ := h
  simp only at hr ⊢
  obtain ⟨sa, sc, rfl, _⟩ := hr
  obtain ⟨b1, h1⟩ : ∃ b, decide (0 ≤ x1 ∧ x1 ≤ 20000) = b := ⟨_, rfl⟩
  obtain ⟨b2, h2⟩ : ∃ b, decide (0 ≤ x2 ∧ x2 ≤ 20000) = b := ⟨_, rfl⟩
  have hres : tilB ⟨x0, x1, x2, x3, x4, x5⟩ = (b1 && (decide (x2 = -1) || (b2 && decide (x1 < x2)))) := by
    rw [← h1, ← h2, Bool.eq_iff_iff]
    simp only [tilB, Bool.and_eq_true, Bool.or_eq_true, decide_eq_true_eq]
    constructor
    · rintro ⟨a, b⟩; exact ⟨a, b.imp id fun h => ⟨by omega, by omega⟩⟩
    · rintro ⟨a, b⟩; exact ⟨a, b.imp id fun h => ⟨by omega, by omega⟩⟩
  rw [hres]
  have H1 := Lib.hid h1
  have H2 := Lib.hid h2
  clear h1 h2 hres hok
  cases b1
  · skip
    go_enter Try.func55, Try.ntmps55
    go_wp2_with (first | (go_at_call 57; refine (isDay_any _ _).mono ?_; (first | rw [H1.out] | rw [H2.out]); rintro e w' ⟨rfl, h'⟩; subst h'))
    go_ret
    exact ⟨ret_bool (by rfl), below_al (Below.refl _ _) _⟩
  · by_cases hu : x2 = -1
    · have hq : (x2 == -1) = true := by simp [hu]
      have HU := Lib.hid hu
      clear hu
      go_enter Try.func55, Try.ntmps55
      go_wp2_with (first | (go_at_call 57; refine (isDay_any _ _).mono ?_; (first | rw [H1.out] | rw [H2.out]); rintro e w' ⟨rfl, h'⟩; subst h'))
      go_ret
      exact ⟨ret_bool (by simp [HU.out]), below_al (Below.refl _ _) _⟩
    · have hq : (x2 == -1) = false := by simp [hu]
      have HU := Lib.hid hu
      clear hu
      cases b2
      · skip
        go_enter Try.func55, Try.ntmps55
        go_wp2_with (first | (go_at_call 57; refine (isDay_any _ _).mono ?_; (first | rw [H1.out] | rw [H2.out]); rintro e w' ⟨rfl, h'⟩; subst h'))
        go_ret
        exact ⟨ret_bool (by simp [HU.out]), below_al (Below.refl _ _) _⟩
      · by_cases hg : x1 < x2
        · have HG := Lib.hid (decide_eq_true hg)
          go_enter Try.func55, Try.ntmps55
          go_wp2_with (first | (go_at_call 57; refine (isDay_any _ _).mono ?_; (first | rw [H1.out] | rw [H2.out]); rintro e w' ⟨rfl, h'⟩; subst h'))
          go_ret
          exact ⟨ret_bool (by rw [HG.out]; simp), below_al (Below.refl _ _) _⟩
        · have HG := Lib.hid (decide_eq_false hg)
          go_enter Try.func55, Try.ntmps55
          go_wp2_with (first | (go_at_call 57; refine (isDay_any _ _).mono ?_; (first | rw [H1.out] | rw [H2.out]); rintro e w' ⟨rfl, h'⟩; subst h'))
          go_ret
          exact ⟨ret_bool (by rw [HG.out, decide_eq_false HU.out]; rfl), below_al (Below.refl _ _) _⟩

set_option maxRecDepth 20000 in
set_option maxHeartbeats 2000000 in
theorem areSer_any (v : Value) (xs : List Int) (w : World) (h : RowOf vI w v xs) :
    Calls Try.prog 56 #[v] w fun e w' => e = .returned (.bool (serB xs)) ∧ Below w.heap.size w w' := by
  have hcap := h.cap
  obtain ⟨a1, c1, rfl, hl1, hm1, r1⟩ := h
  have R1 := Lib.hid r1
  clear r1
  unfold maxLen at hm1
  by_cases hL : 5 < xs.length
  · have gL : (5 : Int) < xs.length := by omega
    have HN : Hid (serB xs = false) := Lib.hid (ser_long (by omega))
    clear hL
    go_enter Try.func56, Try.ntmps56
    go_wp2_with fail
    go_ret
    exact ⟨ret_bool HN.out.symm, Below.refl _ _⟩
  · have gL : (xs.length : Int) ≤ 5 := by omega
    have HL : Hid (xs.length ≤ 5) := Lib.hid (by omega)
    clear hL
    go_enter Try.func56, Try.ntmps56
    go_wp2_with fail
    go_loopw [3, 11] (fun b i wr => ∃ (k : Nat) (pk : Int), k ≤ xs.length ∧ i = .int .i64 k ∧ b = .int .i64 pk ∧ Hid ((if k = 0 then 0 else xs.getD (k - 1) 0) = pk) ∧ Hid (upto (risAt 1 99 xs) k = true) ∧ Below w.heap.size w wr) (fun _ i _ => xs.length - (intOf i).toNat)
    case atStart => exact ⟨0, 0, Nat.zero_le _, rfl, rfl, Lib.hid rfl, Lib.hid (by simp [upto]), Below.refl _ _⟩
    case round =>
      obtain ⟨k, pk, hk, rfl, rfl, HP, HU, hb⟩ := hrel
      have hw := hb.size
      by_cases hlt : k < xs.length
      · obtain ⟨b1, o1, hb1, rfl, e1⟩ := R1.out.resolve_left (fun e => by rw [e] at hlt; simp at hlt)
        obtain ⟨y, hy⟩ : ∃ s, xs.getD k 0 = s := ⟨_, rfl⟩
        have f1 := (hb.cell (p := ⟨b1, o1 + k, none⟩) hb1).trans (e1 k hlt)
        rw [← getI_lt hlt, hy] at f1
        simp only [vI] at f1
        have HY := Lib.hid hy
        have HAT := Lib.hid (ris99_iff hy HP.out)
        have g0 : (0 : Int) ≤ (k : Int) := by omega
        have g1 : (k : Int) < (xs.length : Int) := by omega
        clear e1 hy
        by_cases hP : y ≤ pk
        · have HNT : Hid (serB xs = false) := Lib.hid (ser_no hlt (by rw [Bool.eq_false_iff]; intro hc; have := (HAT.out.1 hc).1; omega))
          go_wp2_with fail
          go_ret
          exact ⟨ret_bool HNT.out.symm, hb⟩
        · have dP : decide (y ≤ pk) = false := decide_eq_false hP
          obtain ⟨bs, hbs⟩ : ∃ b, decide (1 ≤ y ∧ y ≤ 99) = b := ⟨_, rfl⟩
          have HBS := Lib.hid hbs
          clear hbs
          cases bs
          · have HNT : Hid (serB xs = false) := Lib.hid (ser_no hlt (by rw [Bool.eq_false_iff]; intro hc; exact of_decide_eq_false HBS.out (HAT.out.1 hc).2))
            go_wp2_with (first | (go_at_call 101; refine (implIsSeriesH_any y _).mono ?_; rw [HBS.out]; rintro e w' ⟨rfl, h'⟩; subst h'))
            go_ret
            exact ⟨ret_bool HNT.out.symm, hb⟩
          · have HU2 : Hid (upto (risAt 1 99 xs) (k + 1) = true) := Lib.hid (upto_succ HU.out (HAT.out.2 ⟨by omega, of_decide_eq_true HBS.out⟩))
            go_wp2_with (first | (go_at_call 101; refine (implIsSeriesH_any y _).mono ?_; rw [HBS.out]; rintro e w' ⟨rfl, h'⟩; subst h'))
            go_roundw
            case rel => exact ⟨k + 1, y, by omega, by go_num, rfl, Lib.hid (by rw [if_neg (by omega)]; exact HY.out), HU2, hb⟩
            case measure => simp [intOf]; omega
      · have hkt : k = xs.length := by omega
        have HE : Hid (serB xs = true) := Lib.hid (ser_yes HL.out (by have := HU.out; rwa [hkt] at this))
        clear hkt
        go_wp2_with fail
        go_ret
        exact ⟨ret_bool HE.out.symm, hb⟩

/-- The box of a record that a closure holds. -/
def RecB (w : World) (B : Nat) (r : Rec) : Prop := w.cell? ⟨B, 1, none⟩ = some (.int .i64 r.series) ∧ w.cell? ⟨B, 2, none⟩ = some (.int .i64 r.made)
def CONF (B : Nat) : Value := .func (.func 120) #[] #[.pointer (some ⟨B, 0, none⟩)]
/-- What a closure that tells whether a hold covers a record holds. -/
def CovB (w : World) (B1 B2 : Nat) (r : Rec) (d : Int) : Prop := w.cell? ⟨B1, 0, none⟩ = some (.int .i64 d) ∧ ∃ B, w.cell? ⟨B2, 0, none⟩ = some (.func (.func 120) #[] #[.pointer (some ⟨B, 0, none⟩)]) ∧ RecB w B r
theorem RecB.below {w w' : World} {B : Nat} {r : Rec} (h : RecB w B r) (hb : Below w.heap.size w w') : RecB w' B r := ⟨cell_kept h.1 hb, cell_kept h.2 hb⟩
theorem CovB.below {w w' : World} {B1 B2 : Nat} {r : Rec} {d : Int} (h : CovB w B1 B2 r d) (hb : Below w.heap.size w w') : CovB w' B1 B2 r d := by
  obtain ⟨h1, B, h2, h3⟩ := h
  exact ⟨cell_kept h1 hb, B, cell_kept h2 hb, h3.below hb⟩

theorem concerns_any (v : Value) (r : Rec) (w : World) (h : RecV w v r) :
    Calls Try.prog 97 #[v] w fun e w' => ∃ B, e = .returned (.func (.func 120) #[] #[.pointer (some ⟨B, 0, none⟩)]) ∧ RecB w' B r ∧ Below w.heap.size w w' := by
  obtain ⟨s, rfl, hr, hok⟩ := h
  obtain ⟨y0, y1, y2, y3⟩ := r
  simp only at hr ⊢
  obtain ⟨sa, sc, rfl, _⟩ := hr
  go_enter Try.func97, Try.ntmps97
  go_wp2_with fail
  go_ret
  exact ⟨w.heap.size, rfl, ⟨cell_new w _ _ 1 rfl, cell_new w _ _ 2 rfl⟩, below_al (Below.refl _ _) _⟩

set_option maxRecDepth 20000 in
set_option maxHeartbeats 2000000 in
theorem concerns1_any (v : Value) (h : Ho) (r : Rec) (B : Nat) (w : World) (hv : HoV w v h) (hB : RecB w B r) :
    Calls Try.prog 120 #[v, .pointer (some ⟨B, 0, none⟩)] w fun e w' => e = .returned (.bool (conB h r)) ∧ Below w.heap.size w w' := by
  obtain ⟨s, rfl, hr, hok⟩ := hv
  obtain ⟨x0, x1, x2, x3, x4, x5⟩ := h
  simp only at hr ⊢
  have hcap := hr.cap
  have HS := Lib.hid (show ∀ W, Below w.heap.size w W → RowOf vI W s x3 from fun W hW => hr.below hW)
  obtain ⟨sa, sc, rfl, _⟩ := hr
  obtain ⟨e1, e2⟩ := hB
  obtain ⟨y1, hy1⟩ : ∃ y, r.series = y := ⟨_, rfl⟩
  obtain ⟨y2, hy2⟩ : ∃ y, r.made = y := ⟨_, rfl⟩
  rw [hy1] at e1
  rw [hy2] at e2
  obtain ⟨b3, h3⟩ : ∃ b, decide (y1 ∈ x3) = b := ⟨_, rfl⟩
  obtain ⟨bl, hbl⟩ : ∃ b, decide (x3.length = 0) = b := ⟨_, rfl⟩
  have hres : conB ⟨x0, x1, x2, x3, x4, x5⟩ r = ((bl || b3) && (decide (x4 ≤ y2) && decide (y2 ≤ x5))) := by
    unfold conB
    simp only
    rw [hy1, hy2, h3, hbl, Bool.decide_and]
  rw [hres]
  generalize hW0 : w.alloc (.cells #[.int .i64 x0, .int .i64 x1, .int .i64 x2, .slice sa x3.length sc, .int .i64 x4, .int .i64 x5] 76 (0, 0)) = W0
  have bW : Below w.heap.size w W0 := by rw [← hW0]; exact below_al (Below.refl _ _) _
  have HC := Lib.hid (show ∀ W, Below W0.heap.size W0 W → W.cell? ⟨w.heap.size, 4, none⟩ = some (.int .i64 x4) ∧ W.cell? ⟨w.heap.size, 5, none⟩ = some (.int .i64 x5) ∧ W.cell? ⟨B, 2, none⟩ = some (.int .i64 y2) from
    fun W hW => by
      subst hW0
      exact ⟨cell_kept (cell_new w _ _ 4 rfl) hW, cell_kept (cell_new w _ _ 5 rfl) hW, cell_kept (below_al_cell e2 _) hW⟩)
  have z1 := below_al_cell e1 (.cells #[.int .i64 x0, .int .i64 x1, .int .i64 x2, .slice sa x3.length sc, .int .i64 x4, .int .i64 x5] 76 (0, 0))
  have z2 := below_al_cell e2 (.cells #[.int .i64 x0, .int .i64 x1, .int .i64 x2, .slice sa x3.length sc, .int .i64 x4, .int .i64 x5] 76 (0, 0))
  have BW := Lib.hid bW
  have HEQ := Lib.hid hW0
  have H3 := Lib.hid h3
  have HBL := Lib.hid hbl
  clear hy1 hy2 hres h3 hok hW0 bW hbl
  by_cases hl : x3.length = 0
  · have hl2 : (x3.length : Int) = 0 := by omega
    have hq2 : ((x3.length : Int) == 0) = true := by simp [hl2]
    obtain rfl : bl = true := HBL.out.symm.trans (decide_eq_true hl)
    clear hl hl2
    by_cases d1 : x4 ≤ y2
    · have D1 := Lib.hid (decide_eq_true d1)
      by_cases d2 : y2 ≤ x5
      · have D2 := Lib.hid (decide_eq_true d2)
        go_enter Try.func120, Try.ntmps120
        go_wp2_with (first | (go_at_call 115; refine (contains_any _ x3 y1 _ (HS.out _ (below_al (Below.refl _ _) _))).mono ?_; rw [H3.out, HEQ.out]; rintro e w3 ⟨rfl, b3⟩; obtain ⟨c4, c5, c6⟩ := HC.out _ b3))
        go_ret
        exact ⟨ret_bool (by (first | exact D1.out.symm | exact D2.out.symm | (rw [D1.out]; rfl) | (rw [D2.out]; rfl) | (rw [D1.out, D2.out]; rfl) | (simp; done))), below_al (Below.refl _ _) _⟩
      · have D2 := Lib.hid (decide_eq_false d2)
        go_enter Try.func120, Try.ntmps120
        go_wp2_with (first | (go_at_call 115; refine (contains_any _ x3 y1 _ (HS.out _ (below_al (Below.refl _ _) _))).mono ?_; rw [H3.out, HEQ.out]; rintro e w3 ⟨rfl, b3⟩; obtain ⟨c4, c5, c6⟩ := HC.out _ b3))
        go_ret
        exact ⟨ret_bool (by (first | exact D1.out.symm | exact D2.out.symm | (rw [D1.out]; rfl) | (rw [D2.out]; rfl) | (rw [D1.out, D2.out]; rfl) | (simp; done))), below_al (Below.refl _ _) _⟩
    · have D1 := Lib.hid (decide_eq_false d1)
      go_enter Try.func120, Try.ntmps120
      go_wp2_with (first | (go_at_call 115; refine (contains_any _ x3 y1 _ (HS.out _ (below_al (Below.refl _ _) _))).mono ?_; rw [H3.out, HEQ.out]; rintro e w3 ⟨rfl, b3⟩; obtain ⟨c4, c5, c6⟩ := HC.out _ b3))
      go_ret
      exact ⟨ret_bool (by (first | exact D1.out.symm | (rw [D1.out]; rfl) | (rw [D1.out]; rfl) | (simp; done))), below_al (Below.refl _ _) _⟩
  · have hq2 : ((x3.length : Int) == 0) = false := beq_false_of_ne (by omega)
    obtain rfl : bl = false := HBL.out.symm.trans (decide_eq_false hl)
    clear hl
    cases b3
    · skip
      go_enter Try.func120, Try.ntmps120
      go_wp2_with (first | (go_at_call 115; refine (contains_any _ x3 y1 _ (HS.out _ (below_al (Below.refl _ _) _))).mono ?_; rw [H3.out, HEQ.out]; rintro e w3 ⟨rfl, b3⟩; obtain ⟨c4, c5, c6⟩ := HC.out _ b3))
      go_ret
      exact ⟨ret_bool (by rfl), BW.out.trans (b3.mono BW.out.size)⟩
    · skip
      by_cases d1 : x4 ≤ y2
      · have D1 := Lib.hid (decide_eq_true d1)
        by_cases d2 : y2 ≤ x5
        · have D2 := Lib.hid (decide_eq_true d2)
          go_enter Try.func120, Try.ntmps120
          go_wp2_with (first | (go_at_call 115; refine (contains_any _ x3 y1 _ (HS.out _ (below_al (Below.refl _ _) _))).mono ?_; rw [H3.out, HEQ.out]; rintro e w3 ⟨rfl, b3⟩; obtain ⟨c4, c5, c6⟩ := HC.out _ b3))
          go_ret
          exact ⟨ret_bool (by (first | exact D1.out.symm | exact D2.out.symm | (rw [D1.out]; rfl) | (rw [D2.out]; rfl) | (rw [D1.out, D2.out]; rfl) | (simp; done))), BW.out.trans (b3.mono BW.out.size)⟩
        · have D2 := Lib.hid (decide_eq_false d2)
          go_enter Try.func120, Try.ntmps120
          go_wp2_with (first | (go_at_call 115; refine (contains_any _ x3 y1 _ (HS.out _ (below_al (Below.refl _ _) _))).mono ?_; rw [H3.out, HEQ.out]; rintro e w3 ⟨rfl, b3⟩; obtain ⟨c4, c5, c6⟩ := HC.out _ b3))
          go_ret
          exact ⟨ret_bool (by (first | exact D1.out.symm | exact D2.out.symm | (rw [D1.out]; rfl) | (rw [D2.out]; rfl) | (rw [D1.out, D2.out]; rfl) | (simp; done))), BW.out.trans (b3.mono BW.out.size)⟩
      · have D1 := Lib.hid (decide_eq_false d1)
        go_enter Try.func120, Try.ntmps120
        go_wp2_with (first | (go_at_call 115; refine (contains_any _ x3 y1 _ (HS.out _ (below_al (Below.refl _ _) _))).mono ?_; rw [H3.out, HEQ.out]; rintro e w3 ⟨rfl, b3⟩; obtain ⟨c4, c5, c6⟩ := HC.out _ b3))
        go_ret
        exact ⟨ret_bool (by (first | exact D1.out.symm | (rw [D1.out]; rfl) | (rw [D1.out]; rfl) | (simp; done))), BW.out.trans (b3.mono BW.out.size)⟩
end Go.Proofs.Ytiglkpcgioomgaa
