/- Holds, the program's: endOf, untilFitsFrom, areSeries, AreHolds, the closures that tell what covers a record, idsOf, slices.IndexFunc and ContainsFunc with them. -/
import Derived.Test.YtkjpehpodlpdhaaTyHo
import Derived.Test.YtkjpehpodlpdhaaCells
import Derived.Test.YtkjpehpodlpdhaaDayI
import Derived.Test.YtkjpehpodlpdhaaIsSer
import Derived.Test.YtkjpehpodlpdhaaAreSer
import Derived.Test.YtkjpehpodlpdhaaContains
import Derived.Test.YtkjpehpodlpdhaaTyRec
import Derived.Test.YtkjpehpodlpdhaaInts
import Derived.Lib.QuietBelow
import Derived.BigQuiet
import Derived.WalkSmall
namespace Go.Proofs.Ytkjpehpodlpdhaa
set_option linter.unusedVariables false
open Go.RowKit Go.Sort

theorem endOf_any (v : Value) (h : Ho) (w : World) (hv : HoV w v h) :
    Calls Try.prog 92 #[v] w fun e w' => e = .returned (.int .i64 (endH h)) ∧ Below w.heap.size w w' := by
  obtain ⟨s, rfl, hr, hok⟩ := hv
  obtain ⟨x0, x1, x2, x3, x4, x5⟩ := h
  simp only at hr ⊢
  obtain ⟨sa, sc, rfl, _⟩ := hr
  unfold endH
  simp only
  by_cases hu : x2 = -1
  · have hq : (x2 == -1) = true := by simp [hu]
    rw [if_pos hu]
    clear hu
    go_enter Try.func92, Try.ntmps92
    go_wp2
    go_ret
    exact ⟨rfl, below_al (Below.refl _ _) _⟩
  · have hq : (x2 == -1) = false := by simp [hu]
    rw [if_neg hu]
    clear hu
    go_enter Try.func92, Try.ntmps92
    go_wp2
    go_ret
    exact ⟨rfl, below_al (Below.refl _ _) _⟩

theorem untilFits_any (v : Value) (h : Ho) (w : World) (hv : HoV w v h) :
    Calls Try.prog 77 #[v] w fun e w' => e = .returned (.bool (tilB h)) ∧ Below w.heap.size w w' := by
  obtain ⟨s, rfl, hr, hok⟩ := hv
  obtain ⟨x0, x1, x2, x3, x4, x5⟩ := h
  simp only at hr ⊢
  obtain ⟨sa, sc, rfl, _⟩ := hr
  obtain ⟨b1, h1⟩ : ∃ b, decide (0 ≤ x1 ∧ x1 ≤ 20000) = b := ⟨_, rfl⟩
  obtain ⟨b2, h2⟩ : ∃ b, decide (0 ≤ x2 ∧ x2 ≤ 20000) = b := ⟨_, rfl⟩
  have hres : tilB ⟨x0, x1, x2, x3, x4, x5⟩ = (b1 && (decide (x2 = -1) || (b2 && decide (x1 < x2)))) := by
    rw [← h1, ← h2, Bool.eq_iff_iff]
    simp only [tilB, Bool.and_eq_true, Bool.or_eq_true, decide_eq_true_eq]
    constructor
    · rintro ⟨a, b⟩; exact ⟨a, b.imp id fun h => ⟨by omega, by omega⟩⟩
    · rintro ⟨a, b⟩; exact ⟨a, b.imp id fun h => ⟨by omega, by omega⟩⟩
  rw [hres]
  have H1 := Lib.hid h1
  have H2 := Lib.hid h2
  clear h1 h2 hres hok
  cases b1
  · skip
    go_enter Try.func77, Try.ntmps77
    go_wp2_with (first | (go_at_call 79; refine (isDay_any _ _).mono ?_; (first | rw [H1.out] | rw [H2.out]); rintro e w' ⟨rfl, h'⟩; subst h'))
    go_ret
    exact ⟨ret_bool (by rfl), below_al (Below.refl _ _) _⟩
  · by_cases hu : x2 = -1
    · have hq : (x2 == -1) = true := by simp [hu]
      have HU := Lib.hid hu
      clear hu
      go_enter Try.func77, Try.ntmps77
      go_wp2_with (first | (go_at_call 79; refine (isDay_any _ _).mono ?_; (first | rw [H1.out] | rw [H2.out]); rintro e w' ⟨rfl, h'⟩; subst h'))
      go_ret
      exact ⟨ret_bool (by simp [HU.out]), below_al (Below.refl _ _) _⟩
    · have hq : (x2 == -1) = false := by simp [hu]
      have HU := Lib.hid hu
      clear hu
      cases b2
      · skip
        go_enter Try.func77, Try.ntmps77
        go_wp2_with (first | (go_at_call 79; refine (isDay_any _ _).mono ?_; (first | rw [H1.out] | rw [H2.out]); rintro e w' ⟨rfl, h'⟩; subst h'))
        go_ret
        exact ⟨ret_bool (by simp [HU.out]), below_al (Below.refl _ _) _⟩
      · by_cases hg : x1 < x2
        · have HG := Lib.hid (decide_eq_true hg)
          go_enter Try.func77, Try.ntmps77
          go_wp2_with (first | (go_at_call 79; refine (isDay_any _ _).mono ?_; (first | rw [H1.out] | rw [H2.out]); rintro e w' ⟨rfl, h'⟩; subst h'))
          go_ret
          exact ⟨ret_bool (by rw [HG.out]; simp), below_al (Below.refl _ _) _⟩
        · have HG := Lib.hid (decide_eq_false hg)
          go_enter Try.func77, Try.ntmps77
          go_wp2_with (first | (go_at_call 79; refine (isDay_any _ _).mono ?_; (first | rw [H1.out] | rw [H2.out]); rintro e w' ⟨rfl, h'⟩; subst h'))
          go_ret
          exact ⟨ret_bool (by rw [HG.out, decide_eq_false HU.out]; rfl), below_al (Below.refl _ _) _⟩

theorem areSer_any (v : Value) (xs : List Int) (w : World) (h : RowOf vI w v xs) :
    Calls Try.prog 78 #[v, .int .i64 5] w fun e w' => e = .returned (.bool (serB xs)) ∧ Below w.heap.size w w' := by
  have e1 : serB xs = serN 5 xs := by
    unfold serB serN
    congr 1
    rw [Bool.eq_iff_iff]
    simp
    omega
  rw [e1]
  exact areSeries_any v xs 5 w h

/-- The box of a record that a closure holds. -/
def RecB (w : World) (B : Nat) (r : Rec) : Prop := w.cell? ⟨B, 1, none⟩ = some (.int .i64 r.series) ∧ w.cell? ⟨B, 2, none⟩ = some (.int .i64 r.made)
def CONF (B : Nat) : Value := .func (.func 159) #[] #[.pointer (some ⟨B, 0, none⟩)]
/-- What a closure that tells whether a hold covers a record holds. -/
def CovB (w : World) (B1 B2 : Nat) (r : Rec) (d : Int) : Prop := w.cell? ⟨B1, 0, none⟩ = some (.int .i64 d) ∧ ∃ B, w.cell? ⟨B2, 0, none⟩ = some (.func (.func 159) #[] #[.pointer (some ⟨B, 0, none⟩)]) ∧ RecB w B r
theorem RecB.below {w w' : World} {B : Nat} {r : Rec} (h : RecB w B r) (hb : Below w.heap.size w w') : RecB w' B r := ⟨cell_kept h.1 hb, cell_kept h.2 hb⟩
theorem CovB.below {w w' : World} {B1 B2 : Nat} {r : Rec} {d : Int} (h : CovB w B1 B2 r d) (hb : Below w.heap.size w w') : CovB w' B1 B2 r d := by
  obtain ⟨h1, B, h2, h3⟩ := h
  exact ⟨cell_kept h1 hb, B, cell_kept h2 hb, h3.below hb⟩

theorem concerns_any (v : Value) (r : Rec) (w : World) (h : RecV w v r) :
    Calls Try.prog 118 #[v] w fun e w' => ∃ B, e = .returned (.func (.func 159) #[] #[.pointer (some ⟨B, 0, none⟩)]) ∧ RecB w' B r ∧ Below w.heap.size w w' := by
  obtain ⟨s, rfl, hr, hok⟩ := h
  obtain ⟨y0, y1, y2, y3⟩ := r
  simp only at hr ⊢
  obtain ⟨sa, sc, rfl, _⟩ := hr
  go_enter Try.func118, Try.ntmps118
  go_wp2_with fail
  go_ret
  exact ⟨w.heap.size, rfl, ⟨cell_new w _ _ 1 rfl, cell_new w _ _ 2 rfl⟩, below_al (Below.refl _ _) _⟩

set_option maxRecDepth 20000 in
set_option maxHeartbeats 2000000 in
theorem concerns1_any (v : Value) (h : Ho) (r : Rec) (B : Nat) (w : World) (hv : HoV w v h) (hB : RecB w B r) :
    Calls Try.prog 159 #[v, .pointer (some ⟨B, 0, none⟩)] w fun e w' => e = .returned (.bool (conB h r)) ∧ Below w.heap.size w w' := by
  obtain ⟨s, rfl, hr, hok⟩ := hv
  obtain ⟨x0, x1, x2, x3, x4, x5⟩ := h
  simp only at hr ⊢
  have hcap := hr.cap
  have HS := Lib.hid (show ∀ W, Below w.heap.size w W → RowOf vI W s x3 from fun W hW => hr.below hW)
  obtain ⟨sa, sc, rfl, _⟩ := hr
  obtain ⟨e1, e2⟩ := hB
  obtain ⟨y1, hy1⟩ : ∃ y, r.series = y := ⟨_, rfl⟩
  obtain ⟨y2, hy2⟩ : ∃ y, r.made = y := ⟨_, rfl⟩
  rw [hy1] at e1
  rw [hy2] at e2
  obtain ⟨b3, h3⟩ : ∃ b, decide (y1 ∈ x3) = b := ⟨_, rfl⟩
  obtain ⟨bl, hbl⟩ : ∃ b, decide (x3.length = 0) = b := ⟨_, rfl⟩
  have hres : conB ⟨x0, x1, x2, x3, x4, x5⟩ r = ((bl || b3) && (decide (x4 ≤ y2) && decide (y2 ≤ x5))) := by
    unfold conB
    simp only
    rw [hy1, hy2, h3, hbl, Bool.decide_and]
  rw [hres]
  generalize hW0 : w.alloc (.cells #[.int .i64 x0, .int .i64 x1, .int .i64 x2, .slice sa x3.length sc, .int .i64 x4, .int .i64 x5] 100 (0, 0)) = W0
  have bW : Below w.heap.size w W0 := by rw [← hW0]; exact below_al (Below.refl _ _) _
  have HC := Lib.hid (show ∀ W, Below W0.heap.size W0 W → W.cell? ⟨w.heap.size, 4, none⟩ = some (.int .i64 x4) ∧ W.cell? ⟨w.heap.size, 5, none⟩ = some (.int .i64 x5) ∧ W.cell? ⟨B, 2, none⟩ = some (.int .i64 y2) from
    fun W hW => by
      subst hW0
      exact ⟨cell_kept (cell_new w _ _ 4 rfl) hW, cell_kept (cell_new w _ _ 5 rfl) hW, cell_kept (below_al_cell e2 _) hW⟩)
  have z1 := below_al_cell e1 (.cells #[.int .i64 x0, .int .i64 x1, .int .i64 x2, .slice sa x3.length sc, .int .i64 x4, .int .i64 x5] 100 (0, 0))
  have z2 := below_al_cell e2 (.cells #[.int .i64 x0, .int .i64 x1, .int .i64 x2, .slice sa x3.length sc, .int .i64 x4, .int .i64 x5] 100 (0, 0))
  have BW := Lib.hid bW
  have HEQ := Lib.hid hW0
  have H3 := Lib.hid h3
  have HBL := Lib.hid hbl
  clear hy1 hy2 hres h3 hok hW0 bW hbl
  by_cases hl : x3.length = 0
  · have hl2 : (x3.length : Int) = 0 := by omega
    have hq2 : ((x3.length : Int) == 0) = true := by simp [hl2]
    obtain rfl : bl = true := HBL.out.symm.trans (decide_eq_true hl)
    clear hl hl2
    by_cases d1 : x4 ≤ y2
    · have D1 := Lib.hid (decide_eq_true d1)
      by_cases d2 : y2 ≤ x5
      · have D2 := Lib.hid (decide_eq_true d2)
        go_enter Try.func159, Try.ntmps159
        go_wp2_with (first | (go_at_call 154; refine (contains_any _ x3 y1 _ (HS.out _ (below_al (Below.refl _ _) _))).mono ?_; rw [H3.out, HEQ.out]; rintro e w3 ⟨rfl, b3⟩; obtain ⟨c4, c5, c6⟩ := HC.out _ b3))
        go_ret
        exact ⟨ret_bool (by (first | exact D1.out.symm | exact D2.out.symm | (rw [D1.out]; rfl) | (rw [D2.out]; rfl) | (rw [D1.out, D2.out]; rfl) | (simp; done))), below_al (Below.refl _ _) _⟩
      · have D2 := Lib.hid (decide_eq_false d2)
        go_enter Try.func159, Try.ntmps159
        go_wp2_with (first | (go_at_call 154; refine (contains_any _ x3 y1 _ (HS.out _ (below_al (Below.refl _ _) _))).mono ?_; rw [H3.out, HEQ.out]; rintro e w3 ⟨rfl, b3⟩; obtain ⟨c4, c5, c6⟩ := HC.out _ b3))
        go_ret
        exact ⟨ret_bool (by (first | exact D1.out.symm | exact D2.out.symm | (rw [D1.out]; rfl) | (rw [D2.out]; rfl) | (rw [D1.out, D2.out]; rfl) | (simp; done))), below_al (Below.refl _ _) _⟩
    · have D1 := Lib.hid (decide_eq_false d1)
      go_enter Try.func159, Try.ntmps159
      go_wp2_with (first | (go_at_call 154; refine (contains_any _ x3 y1 _ (HS.out _ (below_al (Below.refl _ _) _))).mono ?_; rw [H3.out, HEQ.out]; rintro e w3 ⟨rfl, b3⟩; obtain ⟨c4, c5, c6⟩ := HC.out _ b3))
      go_ret
      exact ⟨ret_bool (by (first | exact D1.out.symm | (rw [D1.out]; rfl) | (rw [D1.out]; rfl) | (simp; done))), below_al (Below.refl _ _) _⟩
  · have hq2 : ((x3.length : Int) == 0) = false := beq_false_of_ne (by omega)
    obtain rfl : bl = false := HBL.out.symm.trans (decide_eq_false hl)
    clear hl
    cases b3
    · skip
      go_enter Try.func159, Try.ntmps159
      go_wp2_with (first | (go_at_call 154; refine (contains_any _ x3 y1 _ (HS.out _ (below_al (Below.refl _ _) _))).mono ?_; rw [H3.out, HEQ.out]; rintro e w3 ⟨rfl, b3⟩; obtain ⟨c4, c5, c6⟩ := HC.out _ b3))
      go_ret
      exact ⟨ret_bool (by rfl), BW.out.trans (b3.mono BW.out.size)⟩
    · skip
      by_cases d1 : x4 ≤ y2
      · have D1 := Lib.hid (decide_eq_true d1)
        by_cases d2 : y2 ≤ x5
        · have D2 := Lib.hid (decide_eq_true d2)
          go_enter Try.func159, Try.ntmps159
          go_wp2_with (first | (go_at_call 154; refine (contains_any _ x3 y1 _ (HS.out _ (below_al (Below.refl _ _) _))).mono ?_; rw [H3.out, HEQ.out]; rintro e w3 ⟨rfl, b3⟩; obtain ⟨c4, c5, c6⟩ := HC.out _ b3))
          go_ret
          exact ⟨ret_bool (by (first | exact D1.out.symm | exact D2.out.symm | (rw [D1.out]; rfl) | (rw [D2.out]; rfl) | (rw [D1.out, D2.out]; rfl) | (simp; done))), BW.out.trans (b3.mono BW.out.size)⟩
        · have D2 := Lib.hid (decide_eq_false d2)
          go_enter Try.func159, Try.ntmps159
          go_wp2_with (first | (go_at_call 154; refine (contains_any _ x3 y1 _ (HS.out _ (below_al (Below.refl _ _) _))).mono ?_; rw [H3.out, HEQ.out]; rintro e w3 ⟨rfl, b3⟩; obtain ⟨c4, c5, c6⟩ := HC.out _ b3))
          go_ret
          exact ⟨ret_bool (by (first | exact D1.out.symm | exact D2.out.symm | (rw [D1.out]; rfl) | (rw [D2.out]; rfl) | (rw [D1.out, D2.out]; rfl) | (simp; done))), BW.out.trans (b3.mono BW.out.size)⟩
      · have D1 := Lib.hid (decide_eq_false d1)
        go_enter Try.func159, Try.ntmps159
        go_wp2_with (first | (go_at_call 154; refine (contains_any _ x3 y1 _ (HS.out _ (below_al (Below.refl _ _) _))).mono ?_; rw [H3.out, HEQ.out]; rintro e w3 ⟨rfl, b3⟩; obtain ⟨c4, c5, c6⟩ := HC.out _ b3))
        go_ret
        exact ⟨ret_bool (by (first | exact D1.out.symm | (rw [D1.out]; rfl) | (rw [D1.out]; rfl) | (simp; done))), BW.out.trans (b3.mono BW.out.size)⟩
end Go.Proofs.Ytkjpehpodlpdhaa
