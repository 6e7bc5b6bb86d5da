/- IsSer, AreSer, Contains, HoI, Ho2I, Ho3I, Ho4I, in one text. -/
import Derived.Test.YtenjajcknmfhfaaL1In
import Derived.Test.YtenjajcknmfhfaaProg
import Derived.WalkSmall
import Derived.Test.YtenjajcknmfhfaaFoM
import Derived.Test.YtenjajcknmfhfaaCells
import Derived.Test.YtenjajcknmfhfaaInts
import Derived.Lib.QuietBelow
import Derived.BigQuiet
import Derived.Test.YtenjajcknmfhfaaTyHo
import Derived.Test.YtenjajcknmfhfaaDayI
import Derived.Test.YtenjajcknmfhfaaTyRec
import Derived.Test.YtenjajcknmfhfaaIdxM
import Derived.Test.YtenjajcknmfhfaaHzC
import Derived.Laws.EntriesVeiled
import Derived.Test.YtenjajcknmfhfaaIsRecI
import Derived.Test.YtenjajcknmfhfaaIntsK
namespace Go.Proofs.Ytenjajcknmfhfaa
set_option linter.unusedVariables false
open Go.RowKit

theorem implIsSeriesH_any (n : Int) (w : World) : Calls Try.prog 90 #[.int .i64 n] w fun e w' => e = .returned (.bool (decide (1 ≤ n ∧ n ≤ 99))) ∧ w' = w := by
  by_cases h1 : 1 ≤ n
  · go_enter Try.func90, Try.ntmps90
    go_wp2
    go_ret
    exact ⟨ret_bool (by first | (simp; done) | (simp; omega) | (rw [Bool.eq_iff_iff]; simp; omega)), rfl⟩
  · go_enter Try.func90, Try.ntmps90
    go_wp2
    go_ret
    exact ⟨ret_bool (by first | (simp; done) | (simp; omega) | (rw [Bool.eq_iff_iff]; simp; omega)), rfl⟩
end Go.Proofs.Ytenjajcknmfhfaa

namespace Go.Proofs.Ytenjajcknmfhfaa
set_option linter.unusedVariables false
open Go.RowKit Go.Sort

theorem ris99T_iff {xs : List Int} {k : Nat} {y p : Int} (hy : xs.getD k 0 = y) (hp : (if k = 0 then 0 else xs.getD (k - 1) 0) = p) : risAt 1 99 xs k = true ↔ p < y ∧ (1 ≤ y ∧ y ≤ 99) := by
  unfold risAt
  rw [hy]
  by_cases h0 : k = 0
  · subst h0
    simp only [if_true] at hp
    simp
    omega
  · rw [if_neg h0] at hp
    rw [hp]
    simp [h0]
    omega
def serN (n : Int) (xs : List Int) : Bool := decide ((xs.length : Int) ≤ n) && risB 1 99 xs
theorem serN_no {n : Int} {xs : List Int} {k : Nat} (hk : k < xs.length) (h : risAt 1 99 xs k = false) : serN n xs = false := by
  unfold serN risB
  rw [upto_false hk h]; simp
theorem serN_yes {n : Int} {xs : List Int} (hl : (xs.length : Int) ≤ n) (h : upto (risAt 1 99 xs) xs.length = true) : serN n xs = true := by
  unfold serN risB
  rw [h, decide_eq_true hl]; rfl
theorem serN_long {n : Int} {xs : List Int} (h : ¬ (xs.length : Int) ≤ n) : serN n xs = false := by
  unfold serN
  rw [decide_eq_false h]; rfl
set_option maxRecDepth 20000 in
set_option maxHeartbeats 2000000 in
theorem areSeries_any (v : Value) (xs : List Int) (n : Int) (w : World) (h : RowOf vI w v xs) :
    Calls Try.prog 84 #[v, .int .i64 n] w fun e w' => e = .returned (.bool (serN n xs)) ∧ Below w.heap.size w w' := by
  have hcap := h.cap
  obtain ⟨a1, c1, rfl, hl1, hm1, r1⟩ := h
  have R1 := Lib.hid r1
  clear r1
  unfold maxLen at hm1
  by_cases hL : n < (xs.length : Int)
  · have gL : n < (xs.length : Int) := by omega
    have HN : Hid (serN n xs = false) := Lib.hid (serN_long (by omega))
    clear hL
    go_enter Try.func84, Try.ntmps84
    go_wp2_with fail
    go_ret
    exact ⟨ret_bool HN.out.symm, Below.refl _ _⟩
  · have gL : (xs.length : Int) ≤ n := by omega
    have HL : Hid ((xs.length : Int) ≤ n) := Lib.hid (by omega)
    clear hL
    go_enter Try.func84, Try.ntmps84
    go_wp2_with fail
    go_loopw [5, 14] (fun b i wr => ∃ (k : Nat) (pk : Int), k ≤ xs.length ∧ i = .int .i64 k ∧ b = .int .i64 pk ∧ Hid ((if k = 0 then 0 else xs.getD (k - 1) 0) = pk) ∧ Hid (upto (risAt 1 99 xs) k = true) ∧ Below w.heap.size w wr) (fun _ i _ => xs.length - (intOf i).toNat)
    case atStart => exact ⟨0, 0, Nat.zero_le _, rfl, rfl, Lib.hid rfl, Lib.hid (by simp [upto]), Below.refl _ _⟩
    case round =>
      obtain ⟨k, pk, hk, rfl, rfl, HP, HU, hb⟩ := hrel
      have hw := hb.size
      by_cases hlt : k < xs.length
      · obtain ⟨b1, o1, hb1, rfl, e1⟩ := R1.out.resolve_left (fun e => by rw [e] at hlt; simp at hlt)
        obtain ⟨y, hy⟩ : ∃ s, xs.getD k 0 = s := ⟨_, rfl⟩
        have f1 := (hb.cell (p := ⟨b1, o1 + k, none⟩) hb1).trans (e1 k hlt)
        rw [← getI_lt hlt, hy] at f1
        simp only [vI] at f1
        have HY := Lib.hid hy
        have HAT := Lib.hid (ris99T_iff hy HP.out)
        have g0 : (0 : Int) ≤ (k : Int) := by omega
        have g1 : (k : Int) < (xs.length : Int) := by omega
        clear e1 hy
        by_cases hP : y ≤ pk
        · have HNT : Hid (serN n xs = false) := Lib.hid (serN_no hlt (by rw [Bool.eq_false_iff]; intro hc; have := (HAT.out.1 hc).1; omega))
          go_wp2_with fail
          go_ret
          exact ⟨ret_bool HNT.out.symm, hb⟩
        · have dP : decide (y ≤ pk) = false := decide_eq_false hP
          obtain ⟨bs, hbs⟩ : ∃ b, decide (1 ≤ y ∧ y ≤ 99) = b := ⟨_, rfl⟩
          have HBS := Lib.hid hbs
          clear hbs
          cases bs
          · have HNT : Hid (serN n xs = false) := Lib.hid (serN_no hlt (by rw [Bool.eq_false_iff]; intro hc; exact of_decide_eq_false HBS.out (HAT.out.1 hc).2))
            go_wp2_with (first | (go_at_call 90; refine (implIsSeriesH_any y _).mono ?_; rw [HBS.out]; rintro e w' ⟨rfl, h'⟩; subst h'))
            go_ret
            exact ⟨ret_bool HNT.out.symm, hb⟩
          · have HU2 : Hid (upto (risAt 1 99 xs) (k + 1) = true) := Lib.hid (upto_succ HU.out (HAT.out.2 ⟨by omega, of_decide_eq_true HBS.out⟩))
            go_wp2_with (first | (go_at_call 90; refine (implIsSeriesH_any y _).mono ?_; rw [HBS.out]; rintro e w' ⟨rfl, h'⟩; subst h'))
            go_roundw
            case rel => exact ⟨k + 1, y, by omega, by go_num, rfl, Lib.hid (by rw [if_neg (by omega)]; exact HY.out), HU2, hb⟩
            case measure => simp [intOf]; omega
      · have hkt : k = xs.length := by omega
        have HE : Hid (serN n xs = true) := Lib.hid (serN_yes HL.out (by have := HU.out; rwa [hkt] at this))
        clear hkt
        go_wp2_with fail
        go_ret
        exact ⟨ret_bool HE.out.symm, hb⟩
end Go.Proofs.Ytenjajcknmfhfaa

namespace Go.Proofs.Ytenjajcknmfhfaa
set_option linter.unusedVariables false
open Go.RowKit

def idxI (xs : List Int) (x : Int) : Int := if x ∈ xs then (xs.findIdx (fun y => decide (y = x)) : Nat) else -1
theorem idxI_ge {xs : List Int} {x : Int} : (0 ≤ idxI xs x) ↔ x ∈ xs := by
  unfold idxI
  by_cases h : x ∈ xs
  · rw [if_pos h]; simp [h]
  · rw [if_neg h]; simp [h]
set_option maxHeartbeats 1000000 in
theorem index_any (v : Value) (xs : List Int) (x : Int) (w : World) (h : RowOf vI w v xs) :
    Calls Try.prog 140 #[v, .int .i64 x] w fun e w' => (∃ n : Int, e = .returned (.int .i64 n) ∧ (0 ≤ n ↔ x ∈ xs)) ∧ Below w.heap.size w w' := by
  have hcap := h.cap
  obtain ⟨a1, c1, rfl, hl1, hm1, r1⟩ := h
  have R1 := Lib.hid r1
  clear r1
  unfold maxLen at hm1
  go_enter Try.func140, Try.ntmps140
  go_wp2
  go_loopw [8] (fun i wr => ∃ k : Nat, k ≤ xs.length ∧ i = .int .i64 k ∧ Hid (¬ x ∈ xs.take k) ∧ Below w.heap.size w wr) (fun i _ => xs.length - (intOf i).toNat)
  case atStart => exact ⟨0, Nat.zero_le _, rfl, Lib.hid (by simp), Below.refl _ _⟩
  case round =>
    obtain ⟨k, hk, rfl, HN, hb⟩ := hrel
    by_cases hlt : k < xs.length
    · obtain ⟨b1, o1, hb1, rfl, e1⟩ := R1.out.resolve_left (fun e => by rw [e] at hlt; simp at hlt)
      obtain ⟨y, hy⟩ : ∃ s, xs[k] = s := ⟨_, rfl⟩
      have f1 := (hb.cell (p := ⟨b1, o1 + k, none⟩) hb1).trans (e1 k hlt)
      rw [hy] at f1
      simp only [vI] at f1
      have HY := Lib.hid hy
      have g0 : (0 : Int) ≤ (k : Int) := by omega
      have g1 : (k : Int) < (xs.length : Int) := by omega
      clear e1 hy
      by_cases he : x = y
      · have hq : (x == y) = true := by simp [he]
        have HE : Hid (x ∈ xs) := by rw [he, ← HY.out]; exact List.getElem_mem hlt
        clear he
        go_wp2
        go_ret
        exact ⟨⟨_, rfl, by simp [HE.out]⟩, hb⟩
      · have hq : (x == y) = false := by simp [he]
        have HE : Hid (¬ x ∈ xs.take (k + 1)) := fun h => by
          rw [List.take_succ_eq_append_getElem hlt, List.mem_append, List.mem_singleton, HY.out] at h
          exact h.elim HN.out he
        clear he
        go_wp2
        go_roundw
        case rel => exact ⟨k + 1, by omega, by go_num, HE, hb⟩
        case measure => simp [intOf]; omega
    · have hkl : k = xs.length := by omega
      have HE : Hid (¬ x ∈ xs) := by have := HN.out; rwa [hkl, List.take_length] at this
      clear hkl
      go_wp2
      go_ret
      exact ⟨⟨-1, rfl, by simp [HE.out]⟩, hb⟩
theorem contains_any (v : Value) (xs : List Int) (x : Int) (w : World) (h : RowOf vI w v xs) :
    Calls Try.prog 85 #[v, .int .i64 x] w fun e w' => e = .returned (.bool (decide (x ∈ xs))) ∧ Below w.heap.size w w' := by
  have H := Lib.hid h
  clear h
  go_enter Try.func85, Try.ntmps85
  go_wp2_with fail
  refine (index_any _ xs x _ H.out).mono ?_
  rintro e w' ⟨⟨n, rfl, hn⟩, hb⟩
  have HN := Lib.hid hn
  clear hn
  go_wp2_with fail
  go_ret
  exact ⟨ret_bool (by rw [Bool.eq_iff_iff]; simp [HN.out]), hb⟩
end Go.Proofs.Ytenjajcknmfhfaa

namespace Go.Proofs.Ytenjajcknmfhfaa
set_option linter.unusedVariables false
open Go.RowKit Go.Sort

theorem endOf_any (v : Value) (h : Ho) (w : World) (hv : HoV w v h) :
    Calls Try.prog 133 #[v] w fun e w' => e = .returned (.int .i64 (endH h)) ∧ Below w.heap.size w w' := by
  obtain ⟨s, rfl, hr, hok⟩ := hv
  obtain ⟨x0, x1, x2, x3, x4, x5⟩ := h
  simp only at hr ⊢
  obtain ⟨sa, sc, rfl, _⟩ := hr
  unfold endH
  simp only
  by_cases hu : x2 = -1
  · have hq : (x2 == -1) = true := by simp [hu]
    rw [if_pos hu]
    clear hu
    go_enter Try.func133, Try.ntmps133
    go_wp2
    go_ret
    exact ⟨rfl, below_al (Below.refl _ _) _⟩
  · have hq : (x2 == -1) = false := by simp [hu]
    rw [if_neg hu]
    clear hu
    go_enter Try.func133, Try.ntmps133
    go_wp2
    go_ret
    exact ⟨rfl, below_al (Below.refl _ _) _⟩

theorem untilFits_any (v : Value) (h : Ho) (w : World) (hv : HoV w v h) :
    Calls Try.prog 126 #[v] w fun e w' => e = .returned (.bool (tilB h)) ∧ Below w.heap.size w w' := by
  obtain ⟨s, rfl, hr, hok⟩ := hv
  obtain ⟨x0, x1, x2, x3, x4, x5⟩ := h
  simp only at hr ⊢
  obtain ⟨sa, sc, rfl, _⟩ := hr
  obtain ⟨b1, h1⟩ : ∃ b, decide (0 ≤ x1 ∧ x1 ≤ 20000) = b := ⟨_, rfl⟩
  obtain ⟨b2, h2⟩ : ∃ b, decide (0 ≤ x2 ∧ x2 ≤ 20000) = b := ⟨_, rfl⟩
  have hres : tilB ⟨x0, x1, x2, x3, x4, x5⟩ = (b1 && (decide (x2 = -1) || (b2 && decide (x1 < x2)))) := by
    rw [← h1, ← h2, Bool.eq_iff_iff]
    simp only [tilB, Bool.and_eq_true, Bool.or_eq_true, decide_eq_true_eq]
    constructor
    · rintro ⟨a, b⟩; exact ⟨a, b.imp id fun h => ⟨by omega, by omega⟩⟩
    · rintro ⟨a, b⟩; exact ⟨a, b.imp id fun h => ⟨by omega, by omega⟩⟩
  rw [hres]
  have H1 := Lib.hid h1
  have H2 := Lib.hid h2
  clear h1 h2 hres hok
  cases b1
  · skip
    go_enter Try.func126, Try.ntmps126
    go_wp2_with (first | (go_at_call 111; refine (isDay_any _ _).mono ?_; (first | rw [H1.out] | rw [H2.out]); rintro e w' ⟨rfl, h'⟩; subst h'))
    go_ret
    exact ⟨ret_bool (by rfl), below_al (Below.refl _ _) _⟩
  · by_cases hu : x2 = -1
    · have hq : (x2 == -1) = true := by simp [hu]
      have HU := Lib.hid hu
      clear hu
      go_enter Try.func126, Try.ntmps126
      go_wp2_with (first | (go_at_call 111; refine (isDay_any _ _).mono ?_; (first | rw [H1.out] | rw [H2.out]); rintro e w' ⟨rfl, h'⟩; subst h'))
      go_ret
      exact ⟨ret_bool (by simp [HU.out]), below_al (Below.refl _ _) _⟩
    · have hq : (x2 == -1) = false := by simp [hu]
      have HU := Lib.hid hu
      clear hu
      cases b2
      · skip
        go_enter Try.func126, Try.ntmps126
        go_wp2_with (first | (go_at_call 111; refine (isDay_any _ _).mono ?_; (first | rw [H1.out] | rw [H2.out]); rintro e w' ⟨rfl, h'⟩; subst h'))
        go_ret
        exact ⟨ret_bool (by simp [HU.out]), below_al (Below.refl _ _) _⟩
      · by_cases hg : x1 < x2
        · have HG := Lib.hid (decide_eq_true hg)
          go_enter Try.func126, Try.ntmps126
          go_wp2_with (first | (go_at_call 111; refine (isDay_any _ _).mono ?_; (first | rw [H1.out] | rw [H2.out]); rintro e w' ⟨rfl, h'⟩; subst h'))
          go_ret
          exact ⟨ret_bool (by rw [HG.out]; simp), below_al (Below.refl _ _) _⟩
        · have HG := Lib.hid (decide_eq_false hg)
          go_enter Try.func126, Try.ntmps126
          go_wp2_with (first | (go_at_call 111; refine (isDay_any _ _).mono ?_; (first | rw [H1.out] | rw [H2.out]); rintro e w' ⟨rfl, h'⟩; subst h'))
          go_ret
          exact ⟨ret_bool (by rw [HG.out, decide_eq_false HU.out]; rfl), below_al (Below.refl _ _) _⟩

theorem areSer_any (v : Value) (xs : List Int) (w : World) (h : RowOf vI w v xs) :
    Calls Try.prog 84 #[v, .int .i64 5] w fun e w' => e = .returned (.bool (serB xs)) ∧ Below w.heap.size w w' := by
  have e1 : serB xs = serN 5 xs := by
    unfold serB serN
    congr 1
    rw [Bool.eq_iff_iff]
    simp
    omega
  rw [e1]
  exact areSeries_any v xs 5 w h

def RecB (w : World) (B : Nat) (r : Rec) : Prop := w.cell? ⟨B, 1, none⟩ = some (.int .i64 r.series) ∧ w.cell? ⟨B, 2, none⟩ = some (.int .i64 r.made)
def CONF (B : Nat) : Value := .func (.func 181) #[] #[.pointer (some ⟨B, 0, none⟩)]
def CovB (w : World) (B1 B2 : Nat) (r : Rec) (d : Int) : Prop := w.cell? ⟨B1, 0, none⟩ = some (.int .i64 d) ∧ ∃ B, w.cell? ⟨B2, 0, none⟩ = some (.func (.func 181) #[] #[.pointer (some ⟨B, 0, none⟩)]) ∧ RecB w B r
theorem RecB.below {w w' : World} {B : Nat} {r : Rec} (h : RecB w B r) (hb : Below w.heap.size w w') : RecB w' B r := ⟨cell_kept h.1 hb, cell_kept h.2 hb⟩
theorem CovB.below {w w' : World} {B1 B2 : Nat} {r : Rec} {d : Int} (h : CovB w B1 B2 r d) (hb : Below w.heap.size w w') : CovB w' B1 B2 r d := by
  obtain ⟨h1, B, h2, h3⟩ := h
  exact ⟨cell_kept h1 hb, B, cell_kept h2 hb, h3.below hb⟩

theorem concerns_any (v : Value) (r : Rec) (w : World) (h : RecV w v r) :
    Calls Try.prog 156 #[v] w fun e w' => ∃ B, e = .returned (.func (.func 181) #[] #[.pointer (some ⟨B, 0, none⟩)]) ∧ RecB w' B r ∧ Below w.heap.size w w' := by
  obtain ⟨s, rfl, hr, hok⟩ := h
  obtain ⟨y0, y1, y2, y3⟩ := r
  simp only at hr ⊢
  obtain ⟨sa, sc, rfl, _⟩ := hr
  go_enter Try.func156, Try.ntmps156
  go_wp2_with fail
  go_ret
  exact ⟨w.heap.size, rfl, ⟨cell_new w _ _ 1 rfl, cell_new w _ _ 2 rfl⟩, below_al (Below.refl _ _) _⟩

set_option maxRecDepth 20000 in
set_option maxHeartbeats 2000000 in
theorem concerns1_any (v : Value) (h : Ho) (r : Rec) (B : Nat) (w : World) (hv : HoV w v h) (hB : RecB w B r) :
    Calls Try.prog 181 #[v, .pointer (some ⟨B, 0, none⟩)] w fun e w' => e = .returned (.bool (conB h r)) ∧ Below w.heap.size w w' := by
  obtain ⟨s, rfl, hr, hok⟩ := hv
  obtain ⟨x0, x1, x2, x3, x4, x5⟩ := h
  simp only at hr ⊢
  have hcap := hr.cap
  have HS := Lib.hid (show ∀ W, Below w.heap.size w W → RowOf vI W s x3 from fun W hW => hr.below hW)
  obtain ⟨sa, sc, rfl, _⟩ := hr
  obtain ⟨e1, e2⟩ := hB
  obtain ⟨y1, hy1⟩ : ∃ y, r.series = y := ⟨_, rfl⟩
  obtain ⟨y2, hy2⟩ : ∃ y, r.made = y := ⟨_, rfl⟩
  rw [hy1] at e1
  rw [hy2] at e2
  obtain ⟨b3, h3⟩ : ∃ b, decide (y1 ∈ x3) = b := ⟨_, rfl⟩
  obtain ⟨bl, hbl⟩ : ∃ b, decide (x3.length = 0) = b := ⟨_, rfl⟩
  have hres : conB ⟨x0, x1, x2, x3, x4, x5⟩ r = ((bl || b3) && (decide (x4 ≤ y2) && decide (y2 ≤ x5))) := by
    unfold conB
    simp only
    rw [hy1, hy2, h3, hbl, Bool.decide_and]
  rw [hres]
  generalize hW0 : w.alloc (.cells #[.int .i64 x0, .int .i64 x1, .int .i64 x2, .slice sa x3.length sc, .int .i64 x4, .int .i64 x5] 140 (0, 0)) = W0
  have bW : Below w.heap.size w W0 := by rw [← hW0]; exact below_al (Below.refl _ _) _
  have HC := Lib.hid (show ∀ W, Below W0.heap.size W0 W → W.cell? ⟨w.heap.size, 4, none⟩ = some (.int .i64 x4) ∧ W.cell? ⟨w.heap.size, 5, none⟩ = some (.int .i64 x5) ∧ W.cell? ⟨B, 2, none⟩ = some (.int .i64 y2) from
    fun W hW => by
      subst hW0
      exact ⟨cell_kept (cell_new w _ _ 4 rfl) hW, cell_kept (cell_new w _ _ 5 rfl) hW, cell_kept (below_al_cell e2 _) hW⟩)
  have z1 := below_al_cell e1 (.cells #[.int .i64 x0, .int .i64 x1, .int .i64 x2, .slice sa x3.length sc, .int .i64 x4, .int .i64 x5] 140 (0, 0))
  have z2 := below_al_cell e2 (.cells #[.int .i64 x0, .int .i64 x1, .int .i64 x2, .slice sa x3.length sc, .int .i64 x4, .int .i64 x5] 140 (0, 0))
  have BW := Lib.hid bW
  have HEQ := Lib.hid hW0
  have H3 := Lib.hid h3
  have HBL := Lib.hid hbl
  clear hy1 hy2 hres h3 hok hW0 bW hbl
  by_cases hl : x3.length = 0
  · have hl2 : (x3.length : Int) = 0 := by omega
    have hq2 : ((x3.length : Int) == 0) = true := by simp [hl2]
    obtain rfl : bl = true := HBL.out.symm.trans (decide_eq_true hl)
    clear hl hl2
    by_cases d1 : x4 ≤ y2
    · have D1 := Lib.hid (decide_eq_true d1)
      by_cases d2 : y2 ≤ x5
      · have D2 := Lib.hid (decide_eq_true d2)
        go_enter Try.func181, Try.ntmps181
        go_wp2_with (first | (go_at_call 85; refine (contains_any _ x3 y1 _ (HS.out _ (below_al (Below.refl _ _) _))).mono ?_; rw [H3.out, HEQ.out]; rintro e w3 ⟨rfl, b3⟩; obtain ⟨c4, c5, c6⟩ := HC.out _ b3))
        go_ret
        exact ⟨ret_bool (by (first | exact D1.out.symm | exact D2.out.symm | (rw [D1.out]; rfl) | (rw [D2.out]; rfl) | (rw [D1.out, D2.out]; rfl) | (simp; done))), below_al (Below.refl _ _) _⟩
      · have D2 := Lib.hid (decide_eq_false d2)
        go_enter Try.func181, Try.ntmps181
        go_wp2_with (first | (go_at_call 85; refine (contains_any _ x3 y1 _ (HS.out _ (below_al (Below.refl _ _) _))).mono ?_; rw [H3.out, HEQ.out]; rintro e w3 ⟨rfl, b3⟩; obtain ⟨c4, c5, c6⟩ := HC.out _ b3))
        go_ret
        exact ⟨ret_bool (by (first | exact D1.out.symm | exact D2.out.symm | (rw [D1.out]; rfl) | (rw [D2.out]; rfl) | (rw [D1.out, D2.out]; rfl) | (simp; done))), below_al (Below.refl _ _) _⟩
    · have D1 := Lib.hid (decide_eq_false d1)
      go_enter Try.func181, Try.ntmps181
      go_wp2_with (first | (go_at_call 85; refine (contains_any _ x3 y1 _ (HS.out _ (below_al (Below.refl _ _) _))).mono ?_; rw [H3.out, HEQ.out]; rintro e w3 ⟨rfl, b3⟩; obtain ⟨c4, c5, c6⟩ := HC.out _ b3))
      go_ret
      exact ⟨ret_bool (by (first | exact D1.out.symm | (rw [D1.out]; rfl) | (rw [D1.out]; rfl) | (simp; done))), below_al (Below.refl _ _) _⟩
  · have hq2 : ((x3.length : Int) == 0) = false := beq_false_of_ne (by omega)
    obtain rfl : bl = false := HBL.out.symm.trans (decide_eq_false hl)
    clear hl
    cases b3
    · skip
      go_enter Try.func181, Try.ntmps181
      go_wp2_with (first | (go_at_call 85; refine (contains_any _ x3 y1 _ (HS.out _ (below_al (Below.refl _ _) _))).mono ?_; rw [H3.out, HEQ.out]; rintro e w3 ⟨rfl, b3⟩; obtain ⟨c4, c5, c6⟩ := HC.out _ b3))
      go_ret
      exact ⟨ret_bool (by rfl), BW.out.trans (b3.mono BW.out.size)⟩
    · skip
      by_cases d1 : x4 ≤ y2
      · have D1 := Lib.hid (decide_eq_true d1)
        by_cases d2 : y2 ≤ x5
        · have D2 := Lib.hid (decide_eq_true d2)
          go_enter Try.func181, Try.ntmps181
          go_wp2_with (first | (go_at_call 85; refine (contains_any _ x3 y1 _ (HS.out _ (below_al (Below.refl _ _) _))).mono ?_; rw [H3.out, HEQ.out]; rintro e w3 ⟨rfl, b3⟩; obtain ⟨c4, c5, c6⟩ := HC.out _ b3))
          go_ret
          exact ⟨ret_bool (by (first | exact D1.out.symm | exact D2.out.symm | (rw [D1.out]; rfl) | (rw [D2.out]; rfl) | (rw [D1.out, D2.out]; rfl) | (simp; done))), BW.out.trans (b3.mono BW.out.size)⟩
        · have D2 := Lib.hid (decide_eq_false d2)
          go_enter Try.func181, Try.ntmps181
          go_wp2_with (first | (go_at_call 85; refine (contains_any _ x3 y1 _ (HS.out _ (below_al (Below.refl _ _) _))).mono ?_; rw [H3.out, HEQ.out]; rintro e w3 ⟨rfl, b3⟩; obtain ⟨c4, c5, c6⟩ := HC.out _ b3))
          go_ret
          exact ⟨ret_bool (by (first | exact D1.out.symm | exact D2.out.symm | (rw [D1.out]; rfl) | (rw [D2.out]; rfl) | (rw [D1.out, D2.out]; rfl) | (simp; done))), BW.out.trans (b3.mono BW.out.size)⟩
      · have D1 := Lib.hid (decide_eq_false d1)
        go_enter Try.func181, Try.ntmps181
        go_wp2_with (first | (go_at_call 85; refine (contains_any _ x3 y1 _ (HS.out _ (below_al (Below.refl _ _) _))).mono ?_; rw [H3.out, HEQ.out]; rintro e w3 ⟨rfl, b3⟩; obtain ⟨c4, c5, c6⟩ := HC.out _ b3))
        go_ret
        exact ⟨ret_bool (by (first | exact D1.out.symm | (rw [D1.out]; rfl) | (rw [D1.out]; rfl) | (simp; done))), BW.out.trans (b3.mono BW.out.size)⟩
end Go.Proofs.Ytenjajcknmfhfaa

namespace Go.Proofs.Ytenjajcknmfhfaa
set_option linter.unusedVariables false
open Go.RowKit Go.Sort

set_option maxRecDepth 20000 in
set_option maxHeartbeats 8000000 in
theorem implAreHo_any (v : Value) (t : List Ho) (w : World) (h : RowR 6 rHo w v t) :
    Calls Try.prog 57 #[v] w fun e w' => e = .returned (.bool (areHo t)) ∧ Below w.heap.size w w' := by
  have hcap := h.cap
  obtain ⟨a1, c1, hv, hl1, hm1, r1⟩ := h.hos
  subst hv
  have R1 := Lib.hid r1
  clear h r1
  unfold maxLen at hm1
  by_cases hL : 8 < t.length
  · have gL : (8 : Int) < t.length := by omega
    have HN : Hid (areHo t = false) := Lib.hid (ho_long (by omega))
    clear hL
    go_enter Try.func57, Try.ntmps57
    go_wp2_with fail
    go_ret
    exact ⟨ret_bool HN.out.symm, Below.refl _ _⟩
  · have gL : (t.length : Int) ≤ 8 := by omega
    have HL : Hid (t.length ≤ 8) := Lib.hid (by omega)
    clear hL
    go_enter Try.func57, Try.ntmps57
    go_wp2_with fail
    go_loopw [3, 11] (fun b i wr => ∃ (k : Nat) (pk : Int), k ≤ t.length ∧ i = .int .i64 k ∧ b = .int .i64 pk ∧ Hid (prevHo t k = pk) ∧ Hid (upto (hoAtB t) k = true) ∧ Below w.heap.size w wr) (fun _ i _ => t.length - (intOf i).toNat)
    case atStart => exact ⟨0, 0, Nat.zero_le _, rfl, rfl, Lib.hid rfl, Lib.hid (by simp [upto]), Below.refl _ _⟩
    case round =>
      obtain ⟨k, pk, hk, rfl, rfl, HP, HU, hb⟩ := hrel
      by_cases hlt : k < t.length
      · obtain ⟨b1, o1, hb1, rfl, e1⟩ := R1.out.resolve_left (fun e => by rw [e] at hlt; simp at hlt)
        obtain ⟨⟨x0, x1, x2, x3, x4, x5⟩, hx⟩ : ∃ s, t.getD k hoD = s := ⟨_, rfl⟩
        obtain ⟨s, q0, q1, q2, q3, q4, q5, hr, hok⟩ := e1 k hlt
        rw [hx] at q0 q1 q2 q4 q5 hr hok
        simp only at q0 q1 q2 q4 q5 hr
        have f0 := cell_kept q0 hb
        have f1 := cell_kept q1 hb
        have f2 := cell_kept q2 hb
        have f3 := cell_kept q3 hb
        have f4 := cell_kept q4 hb
        have f5 := cell_kept q5 hb
        have HV : Hid (∀ W, Below wr.heap.size wr W → HoV W (.agg #[.int .i64 x0, .int .i64 x1, .int .i64 x2, s, .int .i64 x4, .int .i64 x5]) ⟨x0, x1, x2, x3, x4, x5⟩) := Lib.hid (fun W hW => ⟨s, rfl, (hr.below hb).below hW, hok⟩)
        have HS : Hid (∀ W, Below wr.heap.size wr W → RowOf vI W s x3) := Lib.hid (fun W hW => (hr.below hb).below hW)
        obtain ⟨sa, sc, rfl, hsl, hsm, _⟩ := hr
        have HX := Lib.hid hx
        have hp0 : 0 ≤ pk := by rw [← HP.out]; exact prevHo_pos hk HU.out
        have HAT := Lib.hid (hoAt_iff hx)
        have g0 : (0 : Int) ≤ (k : Int) := by omega
        have g1 : (k : Int) < (t.length : Int) := by omega
        have hw := hb.size
        obtain ⟨bT, hbT⟩ : ∃ b, tilB ⟨x0, x1, x2, x3, x4, x5⟩ = b := ⟨_, rfl⟩
        obtain ⟨bS, hbS⟩ : ∃ b, serB x3 = b := ⟨_, rfl⟩
        obtain ⟨bF, hbF⟩ : ∃ b, decide ((0 : Int) ≤ x4 ∧ x4 ≤ 20000) = b := ⟨_, rfl⟩
        obtain ⟨bL, hbL⟩ : ∃ b, decide ((0 : Int) ≤ x5 ∧ x5 ≤ 20000) = b := ⟨_, rfl⟩
        have HOne : Hid (hoOne ⟨x0, x1, x2, x3, x4, x5⟩ = (decide (1 ≤ x0 ∧ x0 ≤ 99) && (bT && (bS && (bF && decide (x4 ≤ x5 ∧ x5 ≤ 20000)))))) := Lib.hid (by
          rw [← hbT, ← hbS, ← hbF, Bool.eq_iff_iff]
          simp only [hoOne, Bool.and_eq_true, decide_eq_true_eq])
        have HT := Lib.hid hbT
        have HSB := Lib.hid hbS
        have HF := Lib.hid hbF
        have HLL := Lib.hid hbL
        clear q0 q1 q2 q3 q4 q5 hok e1 hx hbT hbS hbF hbL
        obtain ⟨wE, hWE⟩ : ∃ W, wr.alloc (.cells #[.int .i64 x0, .int .i64 x1, .int .i64 x2, .slice sa x3.length sc, .int .i64 x4, .int .i64 x5] 140 (0, 0)) = W := ⟨_, rfl⟩
        have bE : Below wr.heap.size wr wE := by rw [← hWE]; exact below_al (Below.refl _ _) _
        have HBX := Lib.hid (show ∀ W, Below wr.heap.size wE W → wE.heap.size ≤ W.heap.size → (∀ j, j < 6 → W.cell? ⟨wr.heap.size, j, none⟩ = wE.cell? ⟨wr.heap.size, j, none⟩) → W.cell? ⟨wr.heap.size, 0, none⟩ = some (.int .i64 x0) ∧ W.cell? ⟨wr.heap.size, 1, none⟩ = some (.int .i64 x1) ∧ W.cell? ⟨wr.heap.size, 2, none⟩ = some (.int .i64 x2) ∧ W.cell? ⟨wr.heap.size, 3, none⟩ = some (.slice sa x3.length sc) ∧ W.cell? ⟨wr.heap.size, 4, none⟩ = some (.int .i64 x4) ∧ W.cell? ⟨wr.heap.size, 5, none⟩ = some (.int .i64 x5) from
          fun W _ _ hj => by
            subst hWE
            exact ⟨(hj 0 (by omega)).trans (cell_new wr _ _ 0 rfl), (hj 1 (by omega)).trans (cell_new wr _ _ 1 rfl), (hj 2 (by omega)).trans (cell_new wr _ _ 2 rfl), (hj 3 (by omega)).trans (cell_new wr _ _ 3 rfl), (hj 4 (by omega)).trans (cell_new wr _ _ 4 rfl), (hj 5 (by omega)).trans (cell_new wr _ _ 5 rfl)⟩)
        have BE := Lib.hid bE
        have HEQ := Lib.hid hWE
        have hlE : wr.heap.size < wE.heap.size := by rw [← hWE]; simp
        have HKP := Lib.hid (show ∀ W, Below wE.heap.size wE W → W.cell? ⟨wr.heap.size, 0, none⟩ = some (.int .i64 x0) ∧ W.cell? ⟨wr.heap.size, 1, none⟩ = some (.int .i64 x1) ∧ W.cell? ⟨wr.heap.size, 2, none⟩ = some (.int .i64 x2) ∧ W.cell? ⟨wr.heap.size, 3, none⟩ = some (.slice sa x3.length sc) ∧ W.cell? ⟨wr.heap.size, 4, none⟩ = some (.int .i64 x4) ∧ W.cell? ⟨wr.heap.size, 5, none⟩ = some (.int .i64 x5) from fun W hW => HBX.out W (hW.mono (Nat.le_of_lt hlE)) hW.size (fun j _ => hW.cell (p := ⟨wr.heap.size, j, none⟩) hlE))
        clear hWE bE hlE HBX
        by_cases hP : x0 ≤ pk
        · skip
          have HNT : Hid (areHo t = false) := Lib.hid (notHo hlt (by rw [Bool.eq_false_iff]; intro hc; have hh := HAT.out.1 hc; have h2 := hh.2; rw [HP.out] at h2; simp only at h2; omega))
          go_wp2_with fail
          go_ret
          exact ⟨ret_bool HNT.out.symm, hb.trans ((below_al (Below.refl _ _) _).mono hw)⟩
        · have dP : decide (x0 ≤ pk) = false := decide_eq_false hP
          by_cases h5 : 99 < x0
          · skip
            have HNT : Hid (areHo t = false) := Lib.hid (notHo hlt (by rw [Bool.eq_false_iff]; intro hc; have hh := HAT.out.1 hc; have h2 := (hoOne_iff.1 hh.1).1.2; simp only at h2; omega))
            go_wp2_with fail
            go_ret
            exact ⟨ret_bool HNT.out.symm, hb.trans ((below_al (Below.refl _ _) _).mono hw)⟩
          · have d99 : decide ((99 : Int) < x0) = false := decide_eq_false h5
            cases bT
            · skip
              have HNT : Hid (areHo t = false) := Lib.hid (notHo hlt (by rw [Bool.eq_false_iff]; intro hc; have hh := HAT.out.1 hc; have h2 := hh.1; rw [HOne.out] at h2; simp at h2))
              go_wp2_with (first | (go_at_call 126; refine (untilFits_any _ _ _ (HV.out _ (below_al (Below.refl _ _) _))).mono ?_; rw [HT.out, HEQ.out]; rintro e wT ⟨rfl, bT⟩; obtain ⟨c0, c1, c2, c3, c4, c5⟩ := HKP.out _ bT))
              go_ret
              exact ⟨ret_bool HNT.out.symm, (hb.trans (BE.out.mono hw)).trans (bT.mono (Nat.le_trans hw BE.out.size))⟩
            · cases bS
              · skip
                have HNT : Hid (areHo t = false) := Lib.hid (notHo hlt (by rw [Bool.eq_false_iff]; intro hc; have hh := HAT.out.1 hc; have h2 := hh.1; rw [HOne.out] at h2; simp at h2))
                go_wp2_with (first | (go_at_call 126; refine (untilFits_any _ _ _ (HV.out _ (below_al (Below.refl _ _) _))).mono ?_; rw [HT.out, HEQ.out]; rintro e wT ⟨rfl, bT⟩; obtain ⟨c0, c1, c2, c3, c4, c5⟩ := HKP.out _ bT) | (go_at_call 84; refine (areSer_any _ _ _ (HS.out _ (BE.out.trans (bT.mono BE.out.size)))).mono ?_; rw [HSB.out]; rintro e wS ⟨rfl, bS⟩; replace bT := bT.trans (bS.mono bT.size); clear bS; obtain ⟨c0, c1, c2, c3, c4, c5⟩ := HKP.out _ bT))
                go_ret
                exact ⟨ret_bool HNT.out.symm, (hb.trans (BE.out.mono hw)).trans (bT.mono (Nat.le_trans hw BE.out.size))⟩
              · cases bF
                · skip
                  have HNT : Hid (areHo t = false) := Lib.hid (notHo hlt (by rw [Bool.eq_false_iff]; intro hc; have hh := HAT.out.1 hc; have h2 := hh.1; rw [HOne.out] at h2; simp at h2))
                  go_wp2_with (first | (go_at_call 126; refine (untilFits_any _ _ _ (HV.out _ (below_al (Below.refl _ _) _))).mono ?_; rw [HT.out, HEQ.out]; rintro e wT ⟨rfl, bT⟩; obtain ⟨c0, c1, c2, c3, c4, c5⟩ := HKP.out _ bT) | (go_at_call 84; refine (areSer_any _ _ _ (HS.out _ (BE.out.trans (bT.mono BE.out.size)))).mono ?_; rw [HSB.out]; rintro e wS ⟨rfl, bS⟩; replace bT := bT.trans (bS.mono bT.size); clear bS; obtain ⟨c0, c1, c2, c3, c4, c5⟩ := HKP.out _ bT) | (go_at_call 111; refine (isDay_any _ _).mono ?_; (first | rw [HF.out] | rw [HLL.out]); rintro e w' ⟨rfl, h'⟩; subst h'))
                  go_ret
                  exact ⟨ret_bool HNT.out.symm, (hb.trans (BE.out.mono hw)).trans (bT.mono (Nat.le_trans hw BE.out.size))⟩
                · cases bL
                  · skip
                    have HNT : Hid (areHo t = false) := Lib.hid (notHo hlt (by rw [Bool.eq_false_iff]; intro hc; have hh := HAT.out.1 hc; have h2 := (hoOne_iff.1 hh.1).2.2.2; simp only at h2; have := of_decide_eq_false HLL.out; omega))
                    go_wp2_with (first | (go_at_call 126; refine (untilFits_any _ _ _ (HV.out _ (below_al (Below.refl _ _) _))).mono ?_; rw [HT.out, HEQ.out]; rintro e wT ⟨rfl, bT⟩; obtain ⟨c0, c1, c2, c3, c4, c5⟩ := HKP.out _ bT) | (go_at_call 84; refine (areSer_any _ _ _ (HS.out _ (BE.out.trans (bT.mono BE.out.size)))).mono ?_; rw [HSB.out]; rintro e wS ⟨rfl, bS⟩; replace bT := bT.trans (bS.mono bT.size); clear bS; obtain ⟨c0, c1, c2, c3, c4, c5⟩ := HKP.out _ bT) | (go_at_call 111; refine (isDay_any _ _).mono ?_; (first | rw [HF.out] | rw [HLL.out]); rintro e w' ⟨rfl, h'⟩; subst h'))
                    go_ret
                    exact ⟨ret_bool HNT.out.symm, (hb.trans (BE.out.mono hw)).trans (bT.mono (Nat.le_trans hw BE.out.size))⟩
                  · by_cases hg : x5 < x4
                    · skip
                      have HNT : Hid (areHo t = false) := Lib.hid (notHo hlt (by rw [Bool.eq_false_iff]; intro hc; have hh := HAT.out.1 hc; have h2 := (hoOne_iff.1 hh.1).2.2.2; simp only at h2; omega))
                      go_wp2_with (first | (go_at_call 126; refine (untilFits_any _ _ _ (HV.out _ (below_al (Below.refl _ _) _))).mono ?_; rw [HT.out, HEQ.out]; rintro e wT ⟨rfl, bT⟩; obtain ⟨c0, c1, c2, c3, c4, c5⟩ := HKP.out _ bT) | (go_at_call 84; refine (areSer_any _ _ _ (HS.out _ (BE.out.trans (bT.mono BE.out.size)))).mono ?_; rw [HSB.out]; rintro e wS ⟨rfl, bS⟩; replace bT := bT.trans (bS.mono bT.size); clear bS; obtain ⟨c0, c1, c2, c3, c4, c5⟩ := HKP.out _ bT) | (go_at_call 111; refine (isDay_any _ _).mono ?_; (first | rw [HF.out] | rw [HLL.out]); rintro e w' ⟨rfl, h'⟩; subst h'))
                      go_ret
                      exact ⟨ret_bool HNT.out.symm, (hb.trans (BE.out.mono hw)).trans (bT.mono (Nat.le_trans hw BE.out.size))⟩
                    · have dg : decide (x5 < x4) = false := decide_eq_false hg
                      have HYES : Hid (hoAtB t k = true) := Lib.hid (HAT.out.2 ⟨by have := of_decide_eq_true HLL.out; rw [HOne.out]; simp; omega, by rw [HP.out]; simp only; omega⟩)
                      go_wp2_with (first | (go_at_call 126; refine (untilFits_any _ _ _ (HV.out _ (below_al (Below.refl _ _) _))).mono ?_; rw [HT.out, HEQ.out]; rintro e wT ⟨rfl, bT⟩; obtain ⟨c0, c1, c2, c3, c4, c5⟩ := HKP.out _ bT) | (go_at_call 84; refine (areSer_any _ _ _ (HS.out _ (BE.out.trans (bT.mono BE.out.size)))).mono ?_; rw [HSB.out]; rintro e wS ⟨rfl, bS⟩; replace bT := bT.trans (bS.mono bT.size); clear bS; obtain ⟨c0, c1, c2, c3, c4, c5⟩ := HKP.out _ bT) | (go_at_call 111; refine (isDay_any _ _).mono ?_; (first | rw [HF.out] | rw [HLL.out]); rintro e w' ⟨rfl, h'⟩; subst h'))
                      go_roundw
                      case rel => exact ⟨k + 1, x0, by omega, by go_num, rfl, Lib.hid (by simp only [prevHo]; rw [HX.out]), Lib.hid (upto_succ HU.out HYES.out), (hb.trans (BE.out.mono hw)).trans (bT.mono (Nat.le_trans hw BE.out.size))⟩
                      case measure => simp [intOf]; omega
      · have hkt : k = t.length := by omega
        have HE : Hid (areHo t = true) := Lib.hid (ho_all HL.out (by have := HU.out; rwa [hkt] at this))
        clear hkt
        go_wp2_with fail
        go_ret
        exact ⟨ret_bool HE.out.symm, hb⟩

set_option maxRecDepth 20000 in
set_option maxHeartbeats 2000000 in
theorem covers_any (v : Value) (r : Rec) (d : Int) (w : World) (h : RecV w v r) :
    Calls Try.prog 121 #[v, .int .i64 d] w fun e w' => ∃ B1 B2, e = .returned (.func (.func 157) #[] #[.pointer (some ⟨B1, 0, none⟩), .pointer (some ⟨B2, 0, none⟩)]) ∧ CovB w' B1 B2 r d ∧ Below w.heap.size w w' := by
  obtain ⟨s, rfl, hr, hok⟩ := h
  obtain ⟨y0, y1, y2, y3⟩ := r
  simp only at hr ⊢
  have HV := Lib.hid (show ∀ W, Below w.heap.size w W → RecV W (.agg #[.int .i64 y0, .int .i64 y1, .int .i64 y2, s]) ⟨y0, y1, y2, y3⟩ from fun W hW => ⟨s, rfl, hr.below rEv_stable hW, hok⟩)
  obtain ⟨sa, sc, rfl, _⟩ := hr
  clear hok
  go_enter Try.func121, Try.ntmps121
  go_wp2_with fail
  have bA := below_al (below_al (Below.refl w.heap.size w) (.cells #[.int .i64 y0, .int .i64 y1, .int .i64 y2, .slice sa y3.length sc] 63 (0, 0))) (.cells #[.int .i64 d] 3 (0, 0))
  have cd : ((w.alloc (.cells #[.int .i64 y0, .int .i64 y1, .int .i64 y2, .slice sa y3.length sc] 63 (0, 0))).alloc (.cells #[.int .i64 d] 3 (0, 0))).cell? ⟨w.heap.size + 1, 0, none⟩ = some (.int .i64 d) := by simp
  refine (concerns_any _ _ _ (HV.out _ bA)).mono ?_
  rintro e w1 ⟨B, rfl, hB, b1⟩
  go_wp2_with fail
  go_ret
  refine ⟨w.heap.size + 1, w1.heap.size, rfl, ⟨?_, B, ?_, ?_⟩, ?_⟩
  · exact below_al_cell (cell_kept cd b1) _
  · exact cell_new w1 _ _ 0 rfl
  · exact hB.below (below_al (Below.refl _ _) _)
  · exact below_al (below_chain bA b1) _

set_option maxRecDepth 20000 in
set_option maxHeartbeats 4000000 in
theorem covers1_any (v : Value) (h : Ho) (r : Rec) (d : Int) (B1 B2 : Nat) (w : World) (hv : HoV w v h) (hB : CovB w B1 B2 r d) :
    Calls Try.prog 157 #[v, .pointer (some ⟨B1, 0, none⟩), .pointer (some ⟨B2, 0, none⟩)] w fun e w' => e = .returned (.bool (covB h r d)) ∧ Below w.heap.size w w' := by
  obtain ⟨s, rfl, hr, hok⟩ := hv
  obtain ⟨e1, B, e2, e3⟩ := hB
  obtain ⟨x0, x1, x2, x3, x4, x5⟩ := h
  obtain ⟨E, hE⟩ : ∃ E, endH ⟨x0, x1, x2, x3, x4, x5⟩ = E := ⟨_, rfl⟩
  obtain ⟨bc, hbc⟩ : ∃ b, conB ⟨x0, x1, x2, x3, x4, x5⟩ r = b := ⟨_, rfl⟩
  have hres : covB ⟨x0, x1, x2, x3, x4, x5⟩ r d = ((decide (x1 ≤ d) && decide (d < E)) && bc) := by
    unfold covB
    rw [hE, hbc, Bool.decide_and]
  simp only at hr ⊢
  have HV := Lib.hid (show ∀ W, Below w.heap.size w W → HoV W (.agg #[.int .i64 x0, .int .i64 x1, .int .i64 x2, s, .int .i64 x4, .int .i64 x5]) ⟨x0, x1, x2, x3, x4, x5⟩ from fun W hW => ⟨s, rfl, hr.below hW, hok⟩)
  obtain ⟨sa, sc, rfl, _⟩ := hr
  rw [hres]
  have HE := Lib.hid hE
  have HBC := Lib.hid hbc
  have HR := Lib.hid (show ∀ W, Below w.heap.size w W → RecB W B r from fun W hW => e3.below hW)
  generalize hWE : w.alloc (.cells #[.int .i64 x0, .int .i64 x1, .int .i64 x2, .slice sa x3.length sc, .int .i64 x4, .int .i64 x5] 140 (0, 0)) = wE
  have bE : Below w.heap.size w wE := by rw [← hWE]; exact below_al (Below.refl _ _) _
  have z0 : wE.cell? ⟨w.heap.size, 0, none⟩ = some (.int .i64 x0) := by rw [← hWE]; exact cell_new w _ _ 0 rfl
  have z1 : wE.cell? ⟨w.heap.size, 1, none⟩ = some (.int .i64 x1) := by rw [← hWE]; exact cell_new w _ _ 1 rfl
  have z2 : wE.cell? ⟨w.heap.size, 2, none⟩ = some (.int .i64 x2) := by rw [← hWE]; exact cell_new w _ _ 2 rfl
  have z3 : wE.cell? ⟨w.heap.size, 3, none⟩ = some (.slice sa x3.length sc) := by rw [← hWE]; exact cell_new w _ _ 3 rfl
  have z4 : wE.cell? ⟨w.heap.size, 4, none⟩ = some (.int .i64 x4) := by rw [← hWE]; exact cell_new w _ _ 4 rfl
  have z5 : wE.cell? ⟨w.heap.size, 5, none⟩ = some (.int .i64 x5) := by rw [← hWE]; exact cell_new w _ _ 5 rfl
  have z6 := cell_kept e1 bE
  have z7 := cell_kept e2 bE
  have m0 := cell_regrown z0
  have m1 := cell_regrown z1
  have m2 := cell_regrown z2
  have m3 := cell_regrown z3
  have m4 := cell_regrown z4
  have m5 := cell_regrown z5
  have m6 := cell_regrown z6
  have m7 := cell_regrown z7
  have HWE := Lib.hid hWE
  have HCE : Hid _ := Lib.hid (show ∀ d os, Calls Try.prog 133 #[.agg #[.int .i64 x0, .int .i64 x1, .int .i64 x2, .slice sa x3.length sc, .int .i64 x4, .int .i64 x5]] (grow (redrawn wE d) os) fun e w'' => e = .returned (.int .i64 E) ∧ ∃ p : Regrown, w'' = grow (redrawn wE p.d) p.os from fun d os => Calls.regrown_of (by have := endOf_any _ _ (grow (redrawn wE d) os) (HV.out _ (bE.trans ((below_regrown wE d os).mono bE.size))); rwa [HE.out] at this))
  have HCC : Hid _ := Lib.hid (show ∀ d os, Calls Try.prog 181 #[.agg #[.int .i64 x0, .int .i64 x1, .int .i64 x2, .slice sa x3.length sc, .int .i64 x4, .int .i64 x5], .pointer (some ⟨B, 0, none⟩)] (grow (redrawn wE d) os) fun e w'' => e = .returned (.bool bc) ∧ ∃ p : Regrown, w'' = grow (redrawn wE p.d) p.os from fun d os => Calls.regrown_of (by have := concerns1_any _ _ r B (grow (redrawn wE d) os) (HV.out _ (bE.trans ((below_regrown wE d os).mono bE.size))) (HR.out _ (bE.trans ((below_regrown wE d os).mono bE.size))); rwa [HBC.out] at this))
  clear hE hbc hres hok hWE e1 e2 e3
  by_cases f1 : x1 ≤ d
  · by_cases f2 : d < E
    · skip
      go_enter Try.func157, Try.ntmps157
      go_wp2_with fail
      rw [HWE.out]
      have hcE := HCE.out
      have hcC := HCC.out
      refine wp_region_quiet_below (by kernel_rfl) (by kernel_rfl) ?_
      repeat (go_big_quiet_step (first | exact hcE _ _ | exact hcC _ _))
      refine wpQuiet_nil ?_
      intro _ hw'
      obtain ⟨⟨dq, osq⟩, hw''⟩ := hw'
      subst hw''
      have bq := below_regrown wE dq osq
      generalize grow (redrawn wE dq) osq = w2 at bq  ⊢
      go_wp2
      go_ret
      exact ⟨ret_bool (by simp [f1, f2]), bE.trans (bq.mono bE.size)⟩
    · have dE : decide (d < E) = false := decide_eq_false f2
      go_enter Try.func157, Try.ntmps157
      go_wp2_with fail
      rw [HWE.out]
      have hcE := HCE.out
      have hcC := HCC.out
      refine wp_region_quiet_below (by kernel_rfl) (by kernel_rfl) ?_
      repeat (go_big_quiet_step (first | exact hcE _ _ | exact hcC _ _))
      refine wpQuiet_nil ?_
      intro _ hw'
      obtain ⟨⟨dq, osq⟩, hw''⟩ := hw'
      subst hw''
      have bq := below_regrown wE dq osq
      generalize grow (redrawn wE dq) osq = w2 at bq  ⊢
      go_wp2
      go_ret
      exact ⟨ret_bool (by simp [dE]), bE.trans (bq.mono bE.size)⟩
  · have dX : decide (x1 ≤ d) = false := decide_eq_false f1
    go_enter Try.func157, Try.ntmps157
    go_wp2_with fail
    rw [HWE.out]
    have hcE := HCE.out
    have hcC := HCC.out
    refine wp_region_quiet_below (by kernel_rfl) (by kernel_rfl) ?_
    repeat (go_big_quiet_step (first | exact hcE _ _ | exact hcC _ _))
    refine wpQuiet_nil ?_
    intro _ hw'
    obtain ⟨⟨dq, osq⟩, hw''⟩ := hw'
    subst hw''
    have bq := below_regrown wE dq osq
    generalize grow (redrawn wE dq) osq = w2 at bq  ⊢
    go_wp2
    go_ret
    exact ⟨ret_bool (by simp [dX]), bE.trans (bq.mono bE.size)⟩

set_option maxHeartbeats 2000000 in
theorem covIdx_any (v : Value) (t : List Ho) (r : Rec) (d : Int) (B1 B2 : Nat) (w : World) (h : RowR 6 rHo w v t) (hB : CovB w B1 B2 r d) :
    Calls Try.prog 132 #[v, .func (.func 157) #[] #[.pointer (some ⟨B1, 0, none⟩), .pointer (some ⟨B2, 0, none⟩)]] w fun e w' => e = .returned (.int .i64 (gIdx (fun g : Ho => covB g r d) t)) ∧ Below w.heap.size w w' := by
  have hcap := h.cap
  obtain ⟨a1, c1, rfl, hl1, hm1, r1⟩ := h.hos
  have R1 := Lib.hid r1
  clear h r1
  unfold maxLen at hm1
  obtain ⟨p, hp⟩ : ∃ p : Ho → Bool, (fun g : Ho => covB g r d) = p := ⟨_, rfl⟩
  rw [hp]
  have HP := Lib.hid hp
  have HB := Lib.hid hB
  clear hp hB
  go_enter Try.func132, Try.ntmps132
  go_wp2
  go_loopw [8] (fun i wr => ∃ k : Nat, k ≤ t.length ∧ i = .int .i64 k ∧ Hid (∀ j, j < k → p (t.getD j hoD) = false) ∧ Below w.heap.size w wr) (fun i _ => t.length - (intOf i).toNat)
  case atStart => exact ⟨0, Nat.zero_le _, rfl, Lib.hid (fun j h => absurd h (Nat.not_lt_zero _)), Below.refl _ _⟩
  case round =>
    obtain ⟨k, hk, rfl, HN, hb⟩ := hrel
    by_cases hlt : k < t.length
    · obtain ⟨b1, o1, hb1, rfl, e1⟩ := R1.out.resolve_left (fun e => by rw [e] at hlt; simp at hlt)
      obtain ⟨⟨x0, x1, x2, x3, x4, x5⟩, hx⟩ : ∃ s, t.getD k hoD = s := ⟨_, rfl⟩
      obtain ⟨s, q0, q1, q2, q3, q4, q5, hr, hok⟩ := e1 k hlt
      rw [hx] at q0 q1 q2 q4 q5 hr hok
      simp only at q0 q1 q2 q4 q5 hr
      have f0 := cell_kept q0 hb
      have f1 := cell_kept q1 hb
      have f2 := cell_kept q2 hb
      have f3 := cell_kept q3 hb
      have f4 := cell_kept q4 hb
      have f5 := cell_kept q5 hb
      have HX := Lib.hid hx
      have g0 : (0 : Int) ≤ (k : Int) := by omega
      have g1 : (k : Int) < (t.length : Int) := by omega
      have hsz := hb.size
      have hcall := covers1_any _ ⟨x0, x1, x2, x3, x4, x5⟩ r d B1 B2 wr ⟨s, rfl, hr.below hb, hok⟩ (HB.out.below hb)
      clear q0 q1 q2 q3 q4 q5 e1 hx hr hok
      simp only at hcall
      obtain ⟨bq, hbq⟩ : ∃ b, p ⟨x0, x1, x2, x3, x4, x5⟩ = b := ⟨_, rfl⟩
      have hbq2 : covB ⟨x0, x1, x2, x3, x4, x5⟩ r d = bq := by rw [← hbq, ← HP.out]
      rw [hbq2] at hcall
      have HBQ := Lib.hid hbq
      have HCALL := Lib.hid hcall
      clear hbq hbq2 hcall
      cases bq
      · go_wp2_with (first | (go_at_call 157; refine HCALL.out.mono ?_; rintro e w2 ⟨rfl, b2⟩))
        go_roundw
        case rel =>
          refine ⟨k + 1, by omega, by go_num, Lib.hid (fun j hj => ?_), hb.trans (b2.mono hsz)⟩
          rcases Nat.lt_or_ge j k with h' | h'
          · exact HN.out j h'
          · obtain rfl : j = k := by omega
            rw [HX.out]
            exact HBQ.out
        case measure => simp [intOf]; omega
      · go_wp2_with (first | (go_at_call 157; refine HCALL.out.mono ?_; rintro e w2 ⟨rfl, b2⟩))
        go_ret
        exact ⟨ret_int (gIdx_is (d := hoD) hlt HN.out (by rw [HX.out]; exact HBQ.out)).symm, hb.trans (b2.mono hsz)⟩
    · have hkt : k = t.length := by omega
      have HF : Hid (gIdx p t = -1) := Lib.hid (gIdx_none (d := hoD) (fun j hj => HN.out j (by omega)))
      clear hkt
      go_wp2
      go_ret
      exact ⟨ret_int HF.out.symm, hb⟩

theorem covHas_any (v : Value) (t : List Ho) (r : Rec) (d : Int) (B1 B2 : Nat) (w : World) (h : RowR 6 rHo w v t) (hB : CovB w B1 B2 r d) :
    Calls Try.prog 120 #[v, .func (.func 157) #[] #[.pointer (some ⟨B1, 0, none⟩), .pointer (some ⟨B2, 0, none⟩)]] w fun e w' => e = .returned (.bool (heldB t r d)) ∧ Below w.heap.size w w' := by
  obtain ⟨c, hc⟩ : ∃ c, gIdx (fun g : Ho => covB g r d) t = c := ⟨_, rfl⟩
  have ht : heldB t r d = decide (0 ≤ c) := by rw [← hc, gIdx_any]; rfl
  have hcall := covIdx_any v t r d B1 B2 w h hB
  rw [hc] at hcall
  rw [ht]
  have HC := Lib.hid hcall
  clear hcall hc ht h hB
  go_enter Try.func120, Try.ntmps120
  go_wp2_with fail
  refine HC.out.mono ?_
  rintro e w2 ⟨rfl, b2⟩
  go_wp2_with fail
  go_ret
  exact ⟨rfl, b2⟩
end Go.Proofs.Ytenjajcknmfhfaa

namespace Go.Proofs.Ytenjajcknmfhfaa
set_option linter.unusedVariables false
open Go.RowKit Go.Sort

set_option maxRecDepth 20000 in
set_option maxHeartbeats 4000000 in
theorem idsOf_any (v : Value) (t : List Ho) (r : Rec) (d : Int) (B1 B2 : Nat) (w : World) (h : RowR 6 rHo w v t) (hB : CovB w B1 B2 r d) (hn : t.length ≤ 1048576) :
    Calls Try.prog 129 #[v, .func (.func 157) #[] #[.pointer (some ⟨B1, 0, none⟩), .pointer (some ⟨B2, 0, none⟩)]] w fun e w' => ∃ v', e = .returned v' ∧ IntsO w.heap.size w'.heap.size w' v' (onHo t r d) ∧ Below w.heap.size w w' := by
  obtain ⟨i0, hi, hz0, hz1, hz2⟩ := info_parts Try.info_intI
  obtain ⟨a1, c1, rfl, hl1, hm1, r1⟩ := h.hos
  have R1 := Lib.hid r1
  have HB := Lib.hid hB
  clear h r1 hB
  unfold maxLen at hm1
  go_enter Try.func129, Try.ntmps129
  go_wp2_with fail
  go_loopw [5, 10] (fun o i wr => ∃ k : Nat, k ≤ t.length ∧ i = .int .i64 k ∧ wr.ownsRow w.heap.size 3 1 o (onHo (t.take k) r d).length ((onHo (t.take k) r d).map vI) ∧ Below w.heap.size w wr) (fun _ i _ => t.length - (intOf i).toNat)
  case atStart => exact ⟨0, Nat.zero_le _, rfl, by simpa [onHo] using World.ownsRow_nil _ _ _ _, Below.refl _ _⟩
  case round =>
    obtain ⟨k, hk, rfl, hO, hb⟩ := hrel
    have hsz := hb.size
    by_cases hlt : k < t.length
    · obtain ⟨bR, oR, hbR, rfl, e1⟩ := R1.out.resolve_left (fun e => by rw [e] at hlt; simp at hlt)
      obtain ⟨⟨x0, x1, x2, x3, x4, x5⟩, hx⟩ : ∃ s, t.getD k hoD = s := ⟨_, rfl⟩
      obtain ⟨s, q0, q1, q2, q3, q4, q5, hr, hok⟩ := e1 k hlt
      rw [hx] at q0 q1 q2 q4 q5 hr hok
      simp only at q0 q1 q2 q4 q5 hr
      have f0 := cell_kept q0 hb
      have f1 := cell_kept q1 hb
      have f2 := cell_kept q2 hb
      have f3 := cell_kept q3 hb
      have f4 := cell_kept q4 hb
      have f5 := cell_kept q5 hb
      have hV : HoV wr (.agg #[.int .i64 x0, .int .i64 x1, .int .i64 x2, s, .int .i64 x4, .int .i64 x5]) ⟨x0, x1, x2, x3, x4, x5⟩ := ⟨s, rfl, hr.below hb, hok⟩
      obtain ⟨sa, sc, rfl, _⟩ := hr
      have hsucc := onHo_succ (r := r) (d := d) hlt
      have hlen := onHo_len (t.take k) r d
      rw [List.length_take] at hlen
      rw [hx] at hsucc
      obtain ⟨bC, hbC⟩ : ∃ b, covB ⟨x0, x1, x2, x3, x4, x5⟩ r d = b := ⟨_, rfl⟩
      rw [hbC] at hsucc
      obtain ⟨Pp, hP⟩ : ∃ P, onHo (t.take k) r d = P := ⟨_, rfl⟩
      rw [hP] at hO hlen hsucc
      have HSU := Lib.hid hsucc
      have HO := Lib.hid hO
      have g0 : (0 : Int) ≤ (k : Int) := by omega
      have g1 : (k : Int) < (t.length : Int) := by omega
      have b0 := below_al (Below.refl wr.heap.size wr) (.cells #[.int .i64 x0, .int .i64 x1, .int .i64 x2, .slice sa x3.length sc, .int .i64 x4, .int .i64 x5] 140 (0, 0))
      have hcall := covers1_any _ ⟨x0, x1, x2, x3, x4, x5⟩ r d B1 B2 (wr.alloc (.cells #[.int .i64 x0, .int .i64 x1, .int .i64 x2, .slice sa x3.length sc, .int .i64 x4, .int .i64 x5] 140 (0, 0))) (hV.below b0) ((HB.out.below hb).below b0)
      rw [hbC] at hcall
      have HCALL := Lib.hid hcall
      have HBXX := Lib.hid (fun W (hW : Below (wr.alloc (.cells #[.int .i64 x0, .int .i64 x1, .int .i64 x2, .slice sa x3.length sc, .int .i64 x4, .int .i64 x5] 140 (0, 0))).heap.size (wr.alloc (.cells #[.int .i64 x0, .int .i64 x1, .int .i64 x2, .slice sa x3.length sc, .int .i64 x4, .int .i64 x5] 140 (0, 0))) W) => cell_kept (cell_new wr #[.int .i64 x0, .int .i64 x1, .int .i64 x2, .slice sa x3.length sc, .int .i64 x4, .int .i64 x5] 140 0 rfl) hW)
      clear q0 q1 q2 q3 q4 q5 hok hx e1 hsucc hP hbC hV hO hcall b0
      cases bC
      · have HSU2 := Lib.hid (HSU.out.trans (if_neg (by simp)))
        go_wp2_with (first | (go_at_call 157; refine HCALL.out.mono ?_; rintro e w6 ⟨rfl, b6⟩; have c0 := HBXX.out _ b6; have c0' : ∀ o, (w6.alloc o).cell? ⟨wr.heap.size, 0, none⟩ = some (.int .i64 x0) := (fun o => below_al_cell c0 o); have HO6 := Lib.hid (ownsRow_below (HO.out.alloc _) b6); replace b6 := below_chain (below_al (Below.refl wr.heap.size wr) _) b6; have hb6 := hb.trans (b6.mono hsz); have hs6 := hb6.size))
        go_roundw
        case rel => exact ⟨k + 1, by omega, by go_num, (by rw [HSU2.out]; exact HO6.out), hb6⟩
        case measure => simp [intOf]; omega
      · have HSU2 := Lib.hid (HSU.out.trans (if_pos rfl))
        go_wp2_with (first | (go_at_call 157; refine HCALL.out.mono ?_; rintro e w6 ⟨rfl, b6⟩; have c0 := HBXX.out _ b6; have c0' : ∀ o, (w6.alloc o).cell? ⟨wr.heap.size, 0, none⟩ = some (.int .i64 x0) := (fun o => below_al_cell c0 o); have HO6 := Lib.hid (ownsRow_below (HO.out.alloc _) b6); replace b6 := below_chain (below_al (Below.refl wr.heap.size wr) _) b6; have hb6 := hb.trans (b6.mono hsz); have hs6 := hb6.size) | (at_builtin; refine wpList_append_own _ rfl _ _ 26 rfl w.heap.size 3 i0 (.int .i64 0) 1 8 Try.underlying26 hi hz0 hz1 hz2 rfl (by decide) _ _ _ rfl (HO6.out.alloc _) ⟨w6.heap.size, 0, none⟩ 1 1 [.int .i64 x0] rfl rfl (cell_oneI _ _ _ (by simp)) (by simp [Value.oneCell']) (by unfold maxLen; omega) (by omega) (by simp; omega) ?_; intro v' w7 hown' hgrow _))
        have HOWN := Lib.hid hown'
        have HB7 := Lib.hid (below_app hb6 (Nat.le_refl _) HO6.out hgrow)
        clear hown' hgrow
        go_wp2_with fail
        go_roundw
        case rel => exact ⟨k + 1, by omega, by go_num, (by rw [HSU2.out]; simpa [vI] using HOWN.out), HB7.out⟩
        case measure => simp [intOf]; omega
    · obtain rfl : k = t.length := by omega
      rw [List.take_length] at hO
      have HO := Lib.hid hO
      clear hO
      go_wp2_with fail
      go_ret
      exact ⟨_, rfl, ints_rowK HO.out rfl, hb⟩

set_option maxRecDepth 20000 in
set_option maxHeartbeats 4000000 in
theorem implHoldsOn_any (v v1 : Value) (t : List Ho) (r : Rec) (d : Int) (w : World) (h : RowR 6 rHo w v t) (h1 : RecV w v1 r) (xs : List Int) (b : Bool) (hres : hoRes t r d = (xs, b)) :
    Calls Try.prog 59 #[v, v1, .int .i64 d] w fun e w' => ∃ v', e = .returned (.tuple #[v', .bool b]) ∧ IntsO w.heap.size w'.heap.size w' v' xs ∧ Below w.heap.size w w' := by
  obtain ⟨s, rfl, hr, hok⟩ := h1
  obtain ⟨y0, y1, y2, y3⟩ := r
  simp only at hr ⊢
  have HV := Lib.hid (show ∀ W, Below w.heap.size w W → RecV W (.agg #[.int .i64 y0, .int .i64 y1, .int .i64 y2, s]) ⟨y0, y1, y2, y3⟩ from fun W hW => ⟨s, rfl, hr.below rEv_stable hW, hok⟩)
  obtain ⟨sb, sd, rfl, _⟩ := hr
  have HBX := Lib.hid (show ∀ W, Below (w.alloc (.cells #[.int .i64 y0, .int .i64 y1, .int .i64 y2, .slice sb y3.length sd] 63 (0, 0))).heap.size (w.alloc (.cells #[.int .i64 y0, .int .i64 y1, .int .i64 y2, .slice sb y3.length sd] 63 (0, 0))) W → W.cell? ⟨w.heap.size, 0, none⟩ = some (.int .i64 y0) ∧ W.cell? ⟨w.heap.size, 1, none⟩ = some (.int .i64 y1) ∧ W.cell? ⟨w.heap.size, 2, none⟩ = some (.int .i64 y2) ∧ W.cell? ⟨w.heap.size, 3, none⟩ = some (.slice sb y3.length sd) from
    fun W hW => ⟨cell_kept (cell_new w _ _ 0 rfl) hW, cell_kept (cell_new w _ _ 1 rfl) hW, cell_kept (cell_new w _ _ 2 rfl) hW, cell_kept (cell_new w _ _ 3 rfl) hW⟩)
  have H := Lib.hid h
  obtain ⟨bg, hg⟩ : ∃ b, areHo t = b := ⟨_, rfl⟩
  obtain ⟨br, hrr⟩ : ∃ b, isRec ⟨y0, y1, y2, y3⟩ = b := ⟨_, rfl⟩
  obtain ⟨bd, hd⟩ : ∃ b, decide (0 ≤ d ∧ d ≤ 20000) = b := ⟨_, rfl⟩
  have HG := Lib.hid hg
  have HR := Lib.hid hrr
  have HD := Lib.hid hd
  have NO := Lib.hid (fun hn => hoRes_no hres hn)
  have YES := Lib.hid (fun hn => hoRes_yes hres hn)
  clear h hg hrr hd hres hok
  cases bg
  · skip
    obtain ⟨rfl, rfl⟩ := NO.out (fun hc => by have := askH_iff.1 hc; rw [HG.out] at this; exact absurd this.1 (by simp))
    go_enter Try.func59, Try.ntmps59
    go_wp2_with (first | (go_at_call 57; refine (implAreHo_any _ t _ (H.out.below rHo_stable (below_al (Below.refl _ _) _))).mono ?_; rw [HG.out]; rintro e w1 ⟨rfl, b1⟩; obtain ⟨c0, c1, c2, c3⟩ := HBX.out _ b1; have b1w := below_chain (below_al (Below.refl w.heap.size w) _) b1))
    go_ret2
    exact ⟨_, rfl, ints_nilK _ _ _, b1w⟩
  · cases br
    · skip
      obtain ⟨rfl, rfl⟩ := NO.out (fun hc => by have := askH_iff.1 hc; rw [HR.out] at this; exact absurd this.2.1 (by simp))
      go_enter Try.func59, Try.ntmps59
      go_wp2_with (first | (go_at_call 57; refine (implAreHo_any _ t _ (H.out.below rHo_stable (below_al (Below.refl _ _) _))).mono ?_; rw [HG.out]; rintro e w1 ⟨rfl, b1⟩; obtain ⟨c0, c1, c2, c3⟩ := HBX.out _ b1; have b1w := below_chain (below_al (Below.refl w.heap.size w) _) b1) | (go_at_call 128; refine (implIsRecord_any _ ⟨y0, y1, y2, y3⟩ _ (HV.out _ b1w)).mono ?_; rw [HR.out]; rintro e w2 ⟨rfl, b2⟩; replace b1 := b1.trans (b2.mono b1.size); obtain ⟨c0, c1, c2, c3⟩ := HBX.out _ b1; replace b1w := b1w.trans (b2.mono b1w.size)))
      go_ret2
      exact ⟨_, rfl, ints_nilK _ _ _, b1w⟩
    · cases bd
      · skip
        obtain ⟨rfl, rfl⟩ := NO.out (fun hc => by have := askH_iff.1 hc; exact of_decide_eq_false HD.out this.2.2)
        go_enter Try.func59, Try.ntmps59
        go_wp2_with (first | (go_at_call 57; refine (implAreHo_any _ t _ (H.out.below rHo_stable (below_al (Below.refl _ _) _))).mono ?_; rw [HG.out]; rintro e w1 ⟨rfl, b1⟩; obtain ⟨c0, c1, c2, c3⟩ := HBX.out _ b1; have b1w := below_chain (below_al (Below.refl w.heap.size w) _) b1) | (go_at_call 128; refine (implIsRecord_any _ ⟨y0, y1, y2, y3⟩ _ (HV.out _ b1w)).mono ?_; rw [HR.out]; rintro e w2 ⟨rfl, b2⟩; replace b1 := b1.trans (b2.mono b1.size); obtain ⟨c0, c1, c2, c3⟩ := HBX.out _ b1; replace b1w := b1w.trans (b2.mono b1w.size)) | (go_at_call 111; refine (isDay_any _ _).mono ?_; rw [HD.out]; rintro e w3 ⟨rfl, h3⟩; subst w3))
        go_ret2
        exact ⟨_, rfl, ints_nilK _ _ _, b1w⟩
      · obtain ⟨rfl, rfl⟩ := YES.out (askH_iff.2 ⟨HG.out, HR.out, of_decide_eq_true HD.out⟩)
        go_enter Try.func59, Try.ntmps59
        go_wp2_with (first | (go_at_call 57; refine (implAreHo_any _ t _ (H.out.below rHo_stable (below_al (Below.refl _ _) _))).mono ?_; rw [HG.out]; rintro e w1 ⟨rfl, b1⟩; obtain ⟨c0, c1, c2, c3⟩ := HBX.out _ b1; have b1w := below_chain (below_al (Below.refl w.heap.size w) _) b1) | (go_at_call 128; refine (implIsRecord_any _ ⟨y0, y1, y2, y3⟩ _ (HV.out _ b1w)).mono ?_; rw [HR.out]; rintro e w2 ⟨rfl, b2⟩; replace b1 := b1.trans (b2.mono b1.size); obtain ⟨c0, c1, c2, c3⟩ := HBX.out _ b1; replace b1w := b1w.trans (b2.mono b1w.size)) | (go_at_call 111; refine (isDay_any _ _).mono ?_; rw [HD.out]; rintro e w3 ⟨rfl, h3⟩; subst w3) | (go_at_call 121; refine (covers_any _ ⟨y0, y1, y2, y3⟩ d _ (HV.out _ b1w)).mono ?_; rintro e w4 ⟨B1, B2, rfl, hcov, b4⟩; replace b1w := b1w.trans (b4.mono b1w.size)) | (go_at_call 129; refine (idsOf_any _ t ⟨y0, y1, y2, y3⟩ d B1 B2 _ (H.out.below rHo_stable b1w) hcov (by have := ho_len HG.out; omega)).mono ?_; rintro e w5 ⟨v', rfl, hi, b5⟩))
        go_ret2
        exact ⟨_, rfl, hi.wide b1w.size (Nat.le_refl _), below_chain b1w b5⟩
end Go.Proofs.Ytenjajcknmfhfaa

namespace Go.Proofs.Ytenjajcknmfhfaa
set_option linter.unusedVariables false
open Go.RowKit Go.Sort

set_option maxRecDepth 20000 in
set_option maxHeartbeats 4000000 in
theorem implFreeDay_any (v v1 : Value) (t : List Ho) (r : Rec) (d : Int) (w : World) (h : RowR 6 rHo w v t) (h1 : RecV w v1 r) (n : Int) (b : Bool) (hres : freRes t r d = (n, b)) :
    Calls Try.prog 65 #[v, v1, .int .i64 d] w fun e w' => e = .returned (.tuple #[.int .i64 n, .bool b]) ∧ Below w.heap.size w w' := by
  obtain ⟨s, rfl, hr, hok⟩ := h1
  obtain ⟨y0, y1, y2, y3⟩ := r
  simp only at hr ⊢
  have HV := Lib.hid (show ∀ W, Below w.heap.size w W → RecV W (.agg #[.int .i64 y0, .int .i64 y1, .int .i64 y2, s]) ⟨y0, y1, y2, y3⟩ from fun W hW => ⟨s, rfl, hr.below rEv_stable hW, hok⟩)
  obtain ⟨sb, sd, rfl, _⟩ := hr
  have HBX := Lib.hid (show ∀ W, Below (w.alloc (.cells #[.int .i64 y0, .int .i64 y1, .int .i64 y2, .slice sb y3.length sd] 63 (0, 0))).heap.size (w.alloc (.cells #[.int .i64 y0, .int .i64 y1, .int .i64 y2, .slice sb y3.length sd] 63 (0, 0))) W → W.cell? ⟨w.heap.size, 0, none⟩ = some (.int .i64 y0) ∧ W.cell? ⟨w.heap.size, 1, none⟩ = some (.int .i64 y1) ∧ W.cell? ⟨w.heap.size, 2, none⟩ = some (.int .i64 y2) ∧ W.cell? ⟨w.heap.size, 3, none⟩ = some (.slice sb y3.length sd) from
    fun W hW => ⟨cell_kept (cell_new w _ _ 0 rfl) hW, cell_kept (cell_new w _ _ 1 rfl) hW, cell_kept (cell_new w _ _ 2 rfl) hW, cell_kept (cell_new w _ _ 3 rfl) hW⟩)
  have H := Lib.hid h
  obtain ⟨a1, c1, rfl, hl1, hm1, r1⟩ := h.hos
  have R1 := Lib.hid r1
  unfold maxLen at hm1
  obtain ⟨bg, hg⟩ : ∃ b, areHo t = b := ⟨_, rfl⟩
  obtain ⟨br, hrr⟩ : ∃ b, isRec ⟨y0, y1, y2, y3⟩ = b := ⟨_, rfl⟩
  obtain ⟨bd, hd⟩ : ∃ b, decide (0 ≤ d ∧ d ≤ 20000) = b := ⟨_, rfl⟩
  have HG := Lib.hid hg
  have HR := Lib.hid hrr
  have HD := Lib.hid hd
  have NO := Lib.hid (fun hn => freRes_no hres hn)
  have YES := Lib.hid (fun hn => freRes_yes hres hn)
  clear h hg hrr hd hres hok r1
  cases bg
  · skip
    obtain ⟨rfl, rfl⟩ := NO.out (fun hc => by have := askH_iff.1 hc.1; rw [HG.out] at this; exact absurd this.1 (by simp))
    go_enter Try.func65, Try.ntmps65
    go_wp2_with (first | (go_at_call 57; refine (implAreHo_any _ t _ (H.out.below rHo_stable (below_al (Below.refl _ _) _))).mono ?_; rw [HG.out]; rintro e w1 ⟨rfl, b1⟩; obtain ⟨c0, c1, c2, c3⟩ := HBX.out _ b1; have b1w := below_chain (below_al (Below.refl w.heap.size w) _) b1))
    go_ret2
    exact ⟨rfl, b1w⟩
  · cases br
    · skip
      obtain ⟨rfl, rfl⟩ := NO.out (fun hc => by have := askH_iff.1 hc.1; rw [HR.out] at this; exact absurd this.2.1 (by simp))
      go_enter Try.func65, Try.ntmps65
      go_wp2_with (first | (go_at_call 57; refine (implAreHo_any _ t _ (H.out.below rHo_stable (below_al (Below.refl _ _) _))).mono ?_; rw [HG.out]; rintro e w1 ⟨rfl, b1⟩; obtain ⟨c0, c1, c2, c3⟩ := HBX.out _ b1; have b1w := below_chain (below_al (Below.refl w.heap.size w) _) b1) | (go_at_call 128; refine (implIsRecord_any _ ⟨y0, y1, y2, y3⟩ _ (HV.out _ b1w)).mono ?_; rw [HR.out]; rintro e w2 ⟨rfl, b2⟩; replace b1 := b1.trans (b2.mono b1.size); obtain ⟨c0, c1, c2, c3⟩ := HBX.out _ b1; replace b1w := b1w.trans (b2.mono b1w.size); clear b2))
      go_ret2
      exact ⟨rfl, b1w⟩
    · cases bd
      · skip
        obtain ⟨rfl, rfl⟩ := NO.out (fun hc => by have := askH_iff.1 hc.1; exact of_decide_eq_false HD.out this.2.2)
        go_enter Try.func65, Try.ntmps65
        go_wp2_with (first | (go_at_call 57; refine (implAreHo_any _ t _ (H.out.below rHo_stable (below_al (Below.refl _ _) _))).mono ?_; rw [HG.out]; rintro e w1 ⟨rfl, b1⟩; obtain ⟨c0, c1, c2, c3⟩ := HBX.out _ b1; have b1w := below_chain (below_al (Below.refl w.heap.size w) _) b1) | (go_at_call 128; refine (implIsRecord_any _ ⟨y0, y1, y2, y3⟩ _ (HV.out _ b1w)).mono ?_; rw [HR.out]; rintro e w2 ⟨rfl, b2⟩; replace b1 := b1.trans (b2.mono b1.size); obtain ⟨c0, c1, c2, c3⟩ := HBX.out _ b1; replace b1w := b1w.trans (b2.mono b1w.size); clear b2) | (go_at_call 111; refine (isDay_any _ _).mono ?_; rw [HD.out]; rintro e w3 ⟨rfl, h3⟩; subst w3))
        go_ret2
        exact ⟨rfl, b1w⟩
      · have HDD := Lib.hid (of_decide_eq_true HD.out)
        have HASK := Lib.hid (askH_iff.2 ⟨HG.out, HR.out, HDD.out⟩)
        go_enter Try.func65, Try.ntmps65
        go_wp2_with (first | (go_at_call 57; refine (implAreHo_any _ t _ (H.out.below rHo_stable (below_al (Below.refl _ _) _))).mono ?_; rw [HG.out]; rintro e w1 ⟨rfl, b1⟩; obtain ⟨c0, c1, c2, c3⟩ := HBX.out _ b1; have b1w := below_chain (below_al (Below.refl w.heap.size w) _) b1) | (go_at_call 128; refine (implIsRecord_any _ ⟨y0, y1, y2, y3⟩ _ (HV.out _ b1w)).mono ?_; rw [HR.out]; rintro e w2 ⟨rfl, b2⟩; replace b1 := b1.trans (b2.mono b1.size); obtain ⟨c0, c1, c2, c3⟩ := HBX.out _ b1; replace b1w := b1w.trans (b2.mono b1w.size); clear b2) | (go_at_call 111; refine (isDay_any _ _).mono ?_; rw [HD.out]; rintro e w3 ⟨rfl, h3⟩; subst w3))
        have s1 := b1w.size
        obtain ⟨ws, hws⟩ : ∃ ws, ws = w2 := ⟨_, rfl⟩
        subst hws
        go_loopw [2] (fun dy wr => ∃ D : Int, dy = .int .i64 D ∧ Hid (d ≤ D ∧ D ≤ 20001 ∧ ∀ x, d ≤ x → x < D → heldB t ⟨y0, y1, y2, y3⟩ x = true) ∧ Below ws.heap.size ws wr) (fun dy _ => (20001 - intOf dy).toNat)
        case atStart => exact ⟨d, rfl, Lib.hid ⟨Int.le_refl _, by have := HDD.out; omega, fun x a b => absurd a (by omega)⟩, Below.refl _ _⟩
        case round =>
          obtain ⟨D, rfl, HQ, hb⟩ := hrel
          have hbw := b1w.trans (hb.mono s1)
          have hsz := hb.size
          by_cases hle : D ≤ 20000
          · obtain ⟨c0, c1, c2, c3⟩ := HBX.out _ (b1.trans (hb.mono b1.size))
            obtain ⟨c, hc⟩ : ∃ c, gIdx (fun g : Ho => covB g ⟨y0, y1, y2, y3⟩ D) t = c := ⟨_, rfl⟩
            have HC := Lib.hid hc
            rcases gIdx_cases hoD (fun g : Ho => covB g ⟨y0, y1, y2, y3⟩ D) t with ⟨h1, h2⟩ | ⟨k, h1, hlt, h3, _⟩
            · have hcn : c = -1 := by rw [← hc]; exact h1
              subst hcn
              have hF : freeF t ⟨y0, y1, y2, y3⟩ d = D := free_is HDD.out.1 HQ.out.1 hle (held_no h2) HQ.out.2.2
              obtain ⟨e0, rfl⟩ := YES.out ⟨HASK.out, by rw [hF]; exact hle⟩
              have E0 := Lib.hid (e0.trans hF)
              clear hc h1 h2 hF e0
              go_wp2_with (first | (go_at_call 121; refine (covers_any _ ⟨y0, y1, y2, y3⟩ D _ (HV.out _ hbw)).mono ?_; rintro e w4 ⟨B1, B2, rfl, hcov, b4⟩; have b4w := hbw.trans (b4.mono hbw.size); replace b4 := hb.trans (b4.mono hb.size)) | (go_at_call 132; refine (covIdx_any _ t ⟨y0, y1, y2, y3⟩ D B1 B2 _ (H.out.below rHo_stable b4w) hcov).mono ?_; rw [HC.out]; rintro e w5 ⟨rfl, b5⟩; have hk5 := hcov; have b5w := b4w.trans (b5.mono b4w.size); replace b5 := b4.trans (b5.mono b4.size); clear hk5))
              go_ret2
              rw [E0.out]
              exact ⟨rfl, b5w⟩
            · have hcn : c = (k : Int) := by rw [← hc]; exact h1
              subst hcn
              have hone := ho_at HG.out hlt
              have hcE := (covB_iff.1 h3).1.2
              have hend := endH_bd hone
              have hspan : ∀ x, d ≤ x → x < endH (t.getD k hoD) → heldB t ⟨y0, y1, y2, y3⟩ x = true := fun x a b => by
                rcases Int.lt_or_le x D with h | h
                · exact HQ.out.2.2 x a h
                · exact held_at hlt (cov_span h3 h b)
              obtain ⟨E, hE⟩ : ∃ E, endH (t.getD k hoD) = E := ⟨_, rfl⟩
              rw [hE] at hcE hend hspan
              have HSP := Lib.hid hspan
              obtain ⟨bR, oR, hbR, rfl, e1⟩ := R1.out.resolve_left (fun e => by rw [e] at hlt; simp at hlt)
              obtain ⟨⟨x0, x1, x2, x3, x4, x5⟩, hx⟩ : ∃ s, t.getD k hoD = s := ⟨_, rfl⟩
              obtain ⟨s, q0, q1, q2, q3, q4, q5, hr, hok⟩ := e1 k hlt
              rw [hx] at q0 q1 q2 q4 q5 hr hok hE
              simp only at q0 q1 q2 q4 q5 hr
              have HL5 := Lib.hid (show ∀ W, Below w.heap.size w W → W.cell? ⟨bR, oR + k * 6, none⟩ = some (.int .i64 x0) ∧ W.cell? ⟨bR, oR + k * 6 + 1, none⟩ = some (.int .i64 x1) ∧ W.cell? ⟨bR, oR + k * 6 + 2, none⟩ = some (.int .i64 x2) ∧ W.cell? ⟨bR, oR + k * 6 + 3, none⟩ = some s ∧ W.cell? ⟨bR, oR + k * 6 + 4, none⟩ = some (.int .i64 x4) ∧ W.cell? ⟨bR, oR + k * 6 + 5, none⟩ = some (.int .i64 x5) from
                fun W hW => ⟨cell_kept q0 hW, cell_kept q1 hW, cell_kept q2 hW, cell_kept q3 hW, cell_kept q4 hW, cell_kept q5 hW⟩)
              have HL6 := Lib.hid (show ∀ W, Below w.heap.size w W → HoV W (.agg #[.int .i64 x0, .int .i64 x1, .int .i64 x2, s, .int .i64 x4, .int .i64 x5]) ⟨x0, x1, x2, x3, x4, x5⟩ from fun W hW => ⟨s, rfl, hr.below hW, hok⟩)
              obtain ⟨sa, sc, rfl, _⟩ := hr
              have HE := Lib.hid hE
              have g0 : (0 : Int) ≤ (k : Int) := by omega
              have g1 : (k : Int) < (t.length : Int) := by omega
              have hD0 : d ≤ D := HQ.out.1
              clear hc h1 h3 hone hspan q0 q1 q2 q3 q4 q5 hok hx e1 hE
              go_wp2_with (first | (go_at_call 121; refine (covers_any _ ⟨y0, y1, y2, y3⟩ D _ (HV.out _ hbw)).mono ?_; rintro e w4 ⟨B1, B2, rfl, hcov, b4⟩; have b4w := hbw.trans (b4.mono hbw.size); replace b4 := hb.trans (b4.mono hb.size)) | (go_at_call 132; refine (covIdx_any _ t ⟨y0, y1, y2, y3⟩ D B1 B2 _ (H.out.below rHo_stable b4w) hcov).mono ?_; rw [HC.out]; rintro e w5 ⟨rfl, b5⟩; have hk5 := hcov; have b5w := b4w.trans (b5.mono b4w.size); replace b5 := b4.trans (b5.mono b4.size); obtain ⟨u0, u1, u2, u3, u4, u5⟩ := HL5.out _ b5w; clear hk5) | (go_at_call 133; refine (endOf_any _ _ _ (HL6.out _ b5w)).mono ?_; rw [HE.out]; rintro e w6 ⟨rfl, b6⟩; replace b6 := b5.trans (b6.mono b5.size)))
              go_roundw
              case rel => exact ⟨E, rfl, Lib.hid ⟨by omega, hend.2.1, HSP.out⟩, b6⟩
              case measure => simp [intOf]; omega
          · have hDt : D = 20001 := by have := HQ.out.2.1; omega
            have hF : freeF t ⟨y0, y1, y2, y3⟩ d = 20001 := free_top (fun x a b => HQ.out.2.2 x a (by omega))
            obtain ⟨rfl, rfl⟩ := NO.out (fun hc => by have := hc.2; rw [hF] at this; omega)
            clear hDt hF
            go_wp2_with fail
            go_ret2
            exact ⟨rfl, hbw⟩

end Go.Proofs.Ytenjajcknmfhfaa
