/- IsSer, AreSer, Contains, HoI, Ho2I, Ho3I, Ho4I, RuI, RuForI, PerD, PerP, SerIn, PerI, Ho6I, ToHo, BytesNe, EqHo, Mark, MarkInt, MarkHo, EqRu, MarkRec, MarkRu, CellOnly, in one text. -/
import Derived.Test.YtkjpehpodlpdhaaL1In
import Derived.Test.YtkjpehpodlpdhaaProg
import Derived.WalkSmall
import Derived.Test.YtkjpehpodlpdhaaFoM
import Derived.Test.YtkjpehpodlpdhaaCells
import Derived.Test.YtkjpehpodlpdhaaInts
import Derived.Lib.QuietBelow
import Derived.BigQuiet
import Derived.Test.YtkjpehpodlpdhaaTyHo
import Derived.Test.YtkjpehpodlpdhaaDayI
import Derived.Test.YtkjpehpodlpdhaaTyRec
import Derived.Test.YtkjpehpodlpdhaaIdxM
import Derived.Test.YtkjpehpodlpdhaaHas
import Derived.Laws.EntriesVeiled
import Derived.Test.YtkjpehpodlpdhaaIsRecI
import Derived.Test.YtkjpehpodlpdhaaIntsK
import Derived.Test.YtkjpehpodlpdhaaSlRu
import Derived.Test.YtkjpehpodlpdhaaRuFor
import Derived.Test.YtkjpehpodlpdhaaPerM
import Derived.Test.YtkjpehpodlpdhaaInSer1
import Derived.Test.YtkjpehpodlpdhaaBox4
import Derived.Maps.Own
import Derived.Maps.OwnSet
import Derived.Test.YtkjpehpodlpdhaaPerS
import Derived.ScopeJumps
import Derived.BigRegion
import Derived.Test.YtkjpehpodlpdhaaRuS
import Derived.Test.YtkjpehpodlpdhaaShelf
import Derived.Lib.OwnBridge
import Derived.Test.YtkjpehpodlpdhaaAreRec
import Derived.Test.YtkjpehpodlpdhaaRecs
import Derived.Test.YtkjpehpodlpdhaaAdd
import Derived.Test.YtkjpehpodlpdhaaHo6M
import Derived.Test.YtkjpehpodlpdhaaUpto
import Derived.Test.YtkjpehpodlpdhaaRowOf
import Derived.Deep.RegionHeld3
import Derived.Test.YtkjpehpodlpdhaaFrame
import Derived.WalkSpells
import Derived.Lib.Hide
import Derived.Laws.BytesArg
import Derived.Laws.IdiomStrings
import Derived.Outline
import Derived.WalkLawsBesides
import Derived.Test.YtkjpehpodlpdhaaToRu
import Derived.Test.YtkjpehpodlpdhaaToRec
import Derived.Test.YtkjpehpodlpdhaaOwn
namespace Go.Proofs.Ytkjpehpodlpdhaa
set_option linter.unusedVariables false
open Go.RowKit

theorem implIsSeriesH_any (n : Int) (w : World) : Calls Try.prog 133 #[.int .i64 n] w fun e w' => e = .returned (.bool (decide (1 ≤ n ∧ n ≤ 99))) ∧ w' = w := by
  by_cases h1 : 1 ≤ n
  · go_enter Try.func133, Try.ntmps133
    go_wp2
    go_ret
    exact ⟨ret_bool (by first | (simp; done) | (simp; omega) | (rw [Bool.eq_iff_iff]; simp; omega)), rfl⟩
  · go_enter Try.func133, Try.ntmps133
    go_wp2
    go_ret
    exact ⟨ret_bool (by first | (simp; done) | (simp; omega) | (rw [Bool.eq_iff_iff]; simp; omega)), rfl⟩
end Go.Proofs.Ytkjpehpodlpdhaa

namespace Go.Proofs.Ytkjpehpodlpdhaa
set_option linter.unusedVariables false
open Go.RowKit Go.Sort

theorem ris99T_iff {xs : List Int} {k : Nat} {y p : Int} (hy : xs.getD k 0 = y) (hp : (if k = 0 then 0 else xs.getD (k - 1) 0) = p) : risAt 1 99 xs k = true ↔ p < y ∧ (1 ≤ y ∧ y ≤ 99) := by
  unfold risAt
  rw [hy]
  by_cases h0 : k = 0
  · subst h0
    simp only [if_true] at hp
    simp
    omega
  · rw [if_neg h0] at hp
    rw [hp]
    simp [h0]
    omega
def serN (n : Int) (xs : List Int) : Bool := decide ((xs.length : Int) ≤ n) && risB 1 99 xs
theorem serN_no {n : Int} {xs : List Int} {k : Nat} (hk : k < xs.length) (h : risAt 1 99 xs k = false) : serN n xs = false := by
  unfold serN risB
  rw [upto_false hk h]; simp
theorem serN_yes {n : Int} {xs : List Int} (hl : (xs.length : Int) ≤ n) (h : upto (risAt 1 99 xs) xs.length = true) : serN n xs = true := by
  unfold serN risB
  rw [h, decide_eq_true hl]; rfl
theorem serN_long {n : Int} {xs : List Int} (h : ¬ (xs.length : Int) ≤ n) : serN n xs = false := by
  unfold serN
  rw [decide_eq_false h]; rfl
set_option maxRecDepth 20000 in
set_option maxHeartbeats 2000000 in
theorem areSeries_any (v : Value) (xs : List Int) (n : Int) (w : World) (h : RowOf vI w v xs) :
    Calls Try.prog 78 #[v, .int .i64 n] w fun e w' => e = .returned (.bool (serN n xs)) ∧ Below w.heap.size w w' := by
  have hcap := h.cap
  obtain ⟨a1, c1, rfl, hl1, hm1, r1⟩ := h
  have R1 := Lib.hid r1
  clear r1
  unfold maxLen at hm1
  by_cases hL : n < (xs.length : Int)
  · have gL : n < (xs.length : Int) := by omega
    have HN : Hid (serN n xs = false) := Lib.hid (serN_long (by omega))
    clear hL
    go_enter Try.func78, Try.ntmps78
    go_wp2_with fail
    go_ret
    exact ⟨ret_bool HN.out.symm, Below.refl _ _⟩
  · have gL : (xs.length : Int) ≤ n := by omega
    have HL : Hid ((xs.length : Int) ≤ n) := Lib.hid (by omega)
    clear hL
    go_enter Try.func78, Try.ntmps78
    go_wp2_with fail
    go_loopw [5, 14] (fun b i wr => ∃ (k : Nat) (pk : Int), k ≤ xs.length ∧ i = .int .i64 k ∧ b = .int .i64 pk ∧ Hid ((if k = 0 then 0 else xs.getD (k - 1) 0) = pk) ∧ Hid (upto (risAt 1 99 xs) k = true) ∧ Below w.heap.size w wr) (fun _ i _ => xs.length - (intOf i).toNat)
    case atStart => exact ⟨0, 0, Nat.zero_le _, rfl, rfl, Lib.hid rfl, Lib.hid (by simp [upto]), Below.refl _ _⟩
    case round =>
      obtain ⟨k, pk, hk, rfl, rfl, HP, HU, hb⟩ := hrel
      have hw := hb.size
      by_cases hlt : k < xs.length
      · obtain ⟨b1, o1, hb1, rfl, e1⟩ := R1.out.resolve_left (fun e => by rw [e] at hlt; simp at hlt)
        obtain ⟨y, hy⟩ : ∃ s, xs.getD k 0 = s := ⟨_, rfl⟩
        have f1 := (hb.cell (p := ⟨b1, o1 + k, none⟩) hb1).trans (e1 k hlt)
        rw [← getI_lt hlt, hy] at f1
        simp only [vI] at f1
        have HY := Lib.hid hy
        have HAT := Lib.hid (ris99T_iff hy HP.out)
        have g0 : (0 : Int) ≤ (k : Int) := by omega
        have g1 : (k : Int) < (xs.length : Int) := by omega
        clear e1 hy
        by_cases hP : y ≤ pk
        · have HNT : Hid (serN n xs = false) := Lib.hid (serN_no hlt (by rw [Bool.eq_false_iff]; intro hc; have := (HAT.out.1 hc).1; omega))
          go_wp2_with fail
          go_ret
          exact ⟨ret_bool HNT.out.symm, hb⟩
        · have dP : decide (y ≤ pk) = false := decide_eq_false hP
          obtain ⟨bs, hbs⟩ : ∃ b, decide (1 ≤ y ∧ y ≤ 99) = b := ⟨_, rfl⟩
          have HBS := Lib.hid hbs
          clear hbs
          cases bs
          · have HNT : Hid (serN n xs = false) := Lib.hid (serN_no hlt (by rw [Bool.eq_false_iff]; intro hc; exact of_decide_eq_false HBS.out (HAT.out.1 hc).2))
            go_wp2_with (first | (go_at_call 133; refine (implIsSeriesH_any y _).mono ?_; rw [HBS.out]; rintro e w' ⟨rfl, h'⟩; subst h'))
            go_ret
            exact ⟨ret_bool HNT.out.symm, hb⟩
          · have HU2 : Hid (upto (risAt 1 99 xs) (k + 1) = true) := Lib.hid (upto_succ HU.out (HAT.out.2 ⟨by omega, of_decide_eq_true HBS.out⟩))
            go_wp2_with (first | (go_at_call 133; refine (implIsSeriesH_any y _).mono ?_; rw [HBS.out]; rintro e w' ⟨rfl, h'⟩; subst h'))
            go_roundw
            case rel => exact ⟨k + 1, y, by omega, by go_num, rfl, Lib.hid (by rw [if_neg (by omega)]; exact HY.out), HU2, hb⟩
            case measure => simp [intOf]; omega
      · have hkt : k = xs.length := by omega
        have HE : Hid (serN n xs = true) := Lib.hid (serN_yes HL.out (by have := HU.out; rwa [hkt] at this))
        clear hkt
        go_wp2_with fail
        go_ret
        exact ⟨ret_bool HE.out.symm, hb⟩
end Go.Proofs.Ytkjpehpodlpdhaa

namespace Go.Proofs.Ytkjpehpodlpdhaa
set_option linter.unusedVariables false
open Go.RowKit

def idxI (xs : List Int) (x : Int) : Int := if x ∈ xs then (xs.findIdx (fun y => decide (y = x)) : Nat) else -1
theorem idxI_ge {xs : List Int} {x : Int} : (0 ≤ idxI xs x) ↔ x ∈ xs := by
  unfold idxI
  by_cases h : x ∈ xs
  · rw [if_pos h]; simp [h]
  · rw [if_neg h]; simp [h]
set_option maxHeartbeats 1000000 in
theorem index_any (v : Value) (xs : List Int) (x : Int) (w : World) (h : RowOf vI w v xs) :
    Calls Try.prog 177 #[v, .int .i64 x] w fun e w' => (∃ n : Int, e = .returned (.int .i64 n) ∧ (0 ≤ n ↔ x ∈ xs)) ∧ Below w.heap.size w w' := by
  have hcap := h.cap
  obtain ⟨a1, c1, rfl, hl1, hm1, r1⟩ := h
  have R1 := Lib.hid r1
  clear r1
  unfold maxLen at hm1
  go_enter Try.func177, Try.ntmps177
  go_wp2
  go_loopw [8] (fun i wr => ∃ k : Nat, k ≤ xs.length ∧ i = .int .i64 k ∧ Hid (¬ x ∈ xs.take k) ∧ Below w.heap.size w wr) (fun i _ => xs.length - (intOf i).toNat)
  case atStart => exact ⟨0, Nat.zero_le _, rfl, Lib.hid (by simp), Below.refl _ _⟩
  case round =>
    obtain ⟨k, hk, rfl, HN, hb⟩ := hrel
    by_cases hlt : k < xs.length
    · obtain ⟨b1, o1, hb1, rfl, e1⟩ := R1.out.resolve_left (fun e => by rw [e] at hlt; simp at hlt)
      obtain ⟨y, hy⟩ : ∃ s, xs[k] = s := ⟨_, rfl⟩
      have f1 := (hb.cell (p := ⟨b1, o1 + k, none⟩) hb1).trans (e1 k hlt)
      rw [hy] at f1
      simp only [vI] at f1
      have HY := Lib.hid hy
      have g0 : (0 : Int) ≤ (k : Int) := by omega
      have g1 : (k : Int) < (xs.length : Int) := by omega
      clear e1 hy
      by_cases he : x = y
      · have hq : (x == y) = true := by simp [he]
        have HE : Hid (x ∈ xs) := by rw [he, ← HY.out]; exact List.getElem_mem hlt
        clear he
        go_wp2
        go_ret
        exact ⟨⟨_, rfl, by simp [HE.out]⟩, hb⟩
      · have hq : (x == y) = false := by simp [he]
        have HE : Hid (¬ x ∈ xs.take (k + 1)) := fun h => by
          rw [List.take_succ_eq_append_getElem hlt, List.mem_append, List.mem_singleton, HY.out] at h
          exact h.elim HN.out he
        clear he
        go_wp2
        go_roundw
        case rel => exact ⟨k + 1, by omega, by go_num, HE, hb⟩
        case measure => simp [intOf]; omega
    · have hkl : k = xs.length := by omega
      have HE : Hid (¬ x ∈ xs) := by have := HN.out; rwa [hkl, List.take_length] at this
      clear hkl
      go_wp2
      go_ret
      exact ⟨⟨-1, rfl, by simp [HE.out]⟩, hb⟩
theorem contains_any (v : Value) (xs : List Int) (x : Int) (w : World) (h : RowOf vI w v xs) :
    Calls Try.prog 154 #[v, .int .i64 x] w fun e w' => e = .returned (.bool (decide (x ∈ xs))) ∧ Below w.heap.size w w' := by
  have H := Lib.hid h
  clear h
  go_enter Try.func154, Try.ntmps154
  go_wp2_with fail
  refine (index_any _ xs x _ H.out).mono ?_
  rintro e w' ⟨⟨n, rfl, hn⟩, hb⟩
  have HN := Lib.hid hn
  clear hn
  go_wp2_with fail
  go_ret
  exact ⟨ret_bool (by rw [Bool.eq_iff_iff]; simp [HN.out]), hb⟩
end Go.Proofs.Ytkjpehpodlpdhaa

namespace Go.Proofs.Ytkjpehpodlpdhaa
set_option linter.unusedVariables false
open Go.RowKit Go.Sort

theorem endOf_any (v : Value) (h : Ho) (w : World) (hv : HoV w v h) :
    Calls Try.prog 92 #[v] w fun e w' => e = .returned (.int .i64 (endH h)) ∧ Below w.heap.size w w' := by
  obtain ⟨s, rfl, hr, hok⟩ := hv
  obtain ⟨x0, x1, x2, x3, x4, x5⟩ := h
  simp only at hr ⊢
  obtain ⟨sa, sc, rfl, _⟩ := hr
  unfold endH
  simp only
  by_cases hu : x2 = -1
  · have hq : (x2 == -1) = true := by simp [hu]
    rw [if_pos hu]
    clear hu
    go_enter Try.func92, Try.ntmps92
    go_wp2
    go_ret
    exact ⟨rfl, below_al (Below.refl _ _) _⟩
  · have hq : (x2 == -1) = false := by simp [hu]
    rw [if_neg hu]
    clear hu
    go_enter Try.func92, Try.ntmps92
    go_wp2
    go_ret
    exact ⟨rfl, below_al (Below.refl _ _) _⟩

theorem untilFits_any (v : Value) (h : Ho) (w : World) (hv : HoV w v h) :
    Calls Try.prog 77 #[v] w fun e w' => e = .returned (.bool (tilB h)) ∧ Below w.heap.size w w' := by
  obtain ⟨s, rfl, hr, hok⟩ := hv
  obtain ⟨x0, x1, x2, x3, x4, x5⟩ := h
  simp only at hr ⊢
  obtain ⟨sa, sc, rfl, _⟩ := hr
  obtain ⟨b1, h1⟩ : ∃ b, decide (0 ≤ x1 ∧ x1 ≤ 20000) = b := ⟨_, rfl⟩
  obtain ⟨b2, h2⟩ : ∃ b, decide (0 ≤ x2 ∧ x2 ≤ 20000) = b := ⟨_, rfl⟩
  have hres : tilB ⟨x0, x1, x2, x3, x4, x5⟩ = (b1 && (decide (x2 = -1) || (b2 && decide (x1 < x2)))) := by
    rw [← h1, ← h2, Bool.eq_iff_iff]
    simp only [tilB, Bool.and_eq_true, Bool.or_eq_true, decide_eq_true_eq]
    constructor
    · rintro ⟨a, b⟩; exact ⟨a, b.imp id fun h => ⟨by omega, by omega⟩⟩
    · rintro ⟨a, b⟩; exact ⟨a, b.imp id fun h => ⟨by omega, by omega⟩⟩
  rw [hres]
  have H1 := Lib.hid h1
  have H2 := Lib.hid h2
  clear h1 h2 hres hok
  cases b1
  · skip
    go_enter Try.func77, Try.ntmps77
    go_wp2_with (first | (go_at_call 79; refine (isDay_any _ _).mono ?_; (first | rw [H1.out] | rw [H2.out]); rintro e w' ⟨rfl, h'⟩; subst h'))
    go_ret
    exact ⟨ret_bool (by rfl), below_al (Below.refl _ _) _⟩
  · by_cases hu : x2 = -1
    · have hq : (x2 == -1) = true := by simp [hu]
      have HU := Lib.hid hu
      clear hu
      go_enter Try.func77, Try.ntmps77
      go_wp2_with (first | (go_at_call 79; refine (isDay_any _ _).mono ?_; (first | rw [H1.out] | rw [H2.out]); rintro e w' ⟨rfl, h'⟩; subst h'))
      go_ret
      exact ⟨ret_bool (by simp [HU.out]), below_al (Below.refl _ _) _⟩
    · have hq : (x2 == -1) = false := by simp [hu]
      have HU := Lib.hid hu
      clear hu
      cases b2
      · skip
        go_enter Try.func77, Try.ntmps77
        go_wp2_with (first | (go_at_call 79; refine (isDay_any _ _).mono ?_; (first | rw [H1.out] | rw [H2.out]); rintro e w' ⟨rfl, h'⟩; subst h'))
        go_ret
        exact ⟨ret_bool (by simp [HU.out]), below_al (Below.refl _ _) _⟩
      · by_cases hg : x1 < x2
        · have HG := Lib.hid (decide_eq_true hg)
          go_enter Try.func77, Try.ntmps77
          go_wp2_with (first | (go_at_call 79; refine (isDay_any _ _).mono ?_; (first | rw [H1.out] | rw [H2.out]); rintro e w' ⟨rfl, h'⟩; subst h'))
          go_ret
          exact ⟨ret_bool (by rw [HG.out]; simp), below_al (Below.refl _ _) _⟩
        · have HG := Lib.hid (decide_eq_false hg)
          go_enter Try.func77, Try.ntmps77
          go_wp2_with (first | (go_at_call 79; refine (isDay_any _ _).mono ?_; (first | rw [H1.out] | rw [H2.out]); rintro e w' ⟨rfl, h'⟩; subst h'))
          go_ret
          exact ⟨ret_bool (by rw [HG.out, decide_eq_false HU.out]; rfl), below_al (Below.refl _ _) _⟩

theorem areSer_any (v : Value) (xs : List Int) (w : World) (h : RowOf vI w v xs) :
    Calls Try.prog 78 #[v, .int .i64 5] w fun e w' => e = .returned (.bool (serB xs)) ∧ Below w.heap.size w w' := by
  have e1 : serB xs = serN 5 xs := by
    unfold serB serN
    congr 1
    rw [Bool.eq_iff_iff]
    simp
    omega
  rw [e1]
  exact areSeries_any v xs 5 w h

def RecB (w : World) (B : Nat) (r : Rec) : Prop := w.cell? ⟨B, 1, none⟩ = some (.int .i64 r.series) ∧ w.cell? ⟨B, 2, none⟩ = some (.int .i64 r.made)
def CONF (B : Nat) : Value := .func (.func 159) #[] #[.pointer (some ⟨B, 0, none⟩)]
def CovB (w : World) (B1 B2 : Nat) (r : Rec) (d : Int) : Prop := w.cell? ⟨B1, 0, none⟩ = some (.int .i64 d) ∧ ∃ B, w.cell? ⟨B2, 0, none⟩ = some (.func (.func 159) #[] #[.pointer (some ⟨B, 0, none⟩)]) ∧ RecB w B r
theorem RecB.below {w w' : World} {B : Nat} {r : Rec} (h : RecB w B r) (hb : Below w.heap.size w w') : RecB w' B r := ⟨cell_kept h.1 hb, cell_kept h.2 hb⟩
theorem CovB.below {w w' : World} {B1 B2 : Nat} {r : Rec} {d : Int} (h : CovB w B1 B2 r d) (hb : Below w.heap.size w w') : CovB w' B1 B2 r d := by
  obtain ⟨h1, B, h2, h3⟩ := h
  exact ⟨cell_kept h1 hb, B, cell_kept h2 hb, h3.below hb⟩

theorem concerns_any (v : Value) (r : Rec) (w : World) (h : RecV w v r) :
    Calls Try.prog 118 #[v] w fun e w' => ∃ B, e = .returned (.func (.func 159) #[] #[.pointer (some ⟨B, 0, none⟩)]) ∧ RecB w' B r ∧ Below w.heap.size w w' := by
  obtain ⟨s, rfl, hr, hok⟩ := h
  obtain ⟨y0, y1, y2, y3⟩ := r
  simp only at hr ⊢
  obtain ⟨sa, sc, rfl, _⟩ := hr
  go_enter Try.func118, Try.ntmps118
  go_wp2_with fail
  go_ret
  exact ⟨w.heap.size, rfl, ⟨cell_new w _ _ 1 rfl, cell_new w _ _ 2 rfl⟩, below_al (Below.refl _ _) _⟩

set_option maxRecDepth 20000 in
set_option maxHeartbeats 2000000 in
theorem concerns1_any (v : Value) (h : Ho) (r : Rec) (B : Nat) (w : World) (hv : HoV w v h) (hB : RecB w B r) :
    Calls Try.prog 159 #[v, .pointer (some ⟨B, 0, none⟩)] w fun e w' => e = .returned (.bool (conB h r)) ∧ Below w.heap.size w w' := by
  obtain ⟨s, rfl, hr, hok⟩ := hv
  obtain ⟨x0, x1, x2, x3, x4, x5⟩ := h
  simp only at hr ⊢
  have hcap := hr.cap
  have HS := Lib.hid (show ∀ W, Below w.heap.size w W → RowOf vI W s x3 from fun W hW => hr.below hW)
  obtain ⟨sa, sc, rfl, _⟩ := hr
  obtain ⟨e1, e2⟩ := hB
  obtain ⟨y1, hy1⟩ : ∃ y, r.series = y := ⟨_, rfl⟩
  obtain ⟨y2, hy2⟩ : ∃ y, r.made = y := ⟨_, rfl⟩
  rw [hy1] at e1
  rw [hy2] at e2
  obtain ⟨b3, h3⟩ : ∃ b, decide (y1 ∈ x3) = b := ⟨_, rfl⟩
  obtain ⟨bl, hbl⟩ : ∃ b, decide (x3.length = 0) = b := ⟨_, rfl⟩
  have hres : conB ⟨x0, x1, x2, x3, x4, x5⟩ r = ((bl || b3) && (decide (x4 ≤ y2) && decide (y2 ≤ x5))) := by
    unfold conB
    simp only
    rw [hy1, hy2, h3, hbl, Bool.decide_and]
  rw [hres]
  generalize hW0 : w.alloc (.cells #[.int .i64 x0, .int .i64 x1, .int .i64 x2, .slice sa x3.length sc, .int .i64 x4, .int .i64 x5] 100 (0, 0)) = W0
  have bW : Below w.heap.size w W0 := by rw [← hW0]; exact below_al (Below.refl _ _) _
  have HC := Lib.hid (show ∀ W, Below W0.heap.size W0 W → W.cell? ⟨w.heap.size, 4, none⟩ = some (.int .i64 x4) ∧ W.cell? ⟨w.heap.size, 5, none⟩ = some (.int .i64 x5) ∧ W.cell? ⟨B, 2, none⟩ = some (.int .i64 y2) from
    fun W hW => by
      subst hW0
      exact ⟨cell_kept (cell_new w _ _ 4 rfl) hW, cell_kept (cell_new w _ _ 5 rfl) hW, cell_kept (below_al_cell e2 _) hW⟩)
  have z1 := below_al_cell e1 (.cells #[.int .i64 x0, .int .i64 x1, .int .i64 x2, .slice sa x3.length sc, .int .i64 x4, .int .i64 x5] 100 (0, 0))
  have z2 := below_al_cell e2 (.cells #[.int .i64 x0, .int .i64 x1, .int .i64 x2, .slice sa x3.length sc, .int .i64 x4, .int .i64 x5] 100 (0, 0))
  have BW := Lib.hid bW
  have HEQ := Lib.hid hW0
  have H3 := Lib.hid h3
  have HBL := Lib.hid hbl
  clear hy1 hy2 hres h3 hok hW0 bW hbl
  by_cases hl : x3.length = 0
  · have hl2 : (x3.length : Int) = 0 := by omega
    have hq2 : ((x3.length : Int) == 0) = true := by simp [hl2]
    obtain rfl : bl = true := HBL.out.symm.trans (decide_eq_true hl)
    clear hl hl2
    by_cases d1 : x4 ≤ y2
    · have D1 := Lib.hid (decide_eq_true d1)
      by_cases d2 : y2 ≤ x5
      · have D2 := Lib.hid (decide_eq_true d2)
        go_enter Try.func159, Try.ntmps159
        go_wp2_with (first | (go_at_call 154; refine (contains_any _ x3 y1 _ (HS.out _ (below_al (Below.refl _ _) _))).mono ?_; rw [H3.out, HEQ.out]; rintro e w3 ⟨rfl, b3⟩; obtain ⟨c4, c5, c6⟩ := HC.out _ b3))
        go_ret
        exact ⟨ret_bool (by (first | exact D1.out.symm | exact D2.out.symm | (rw [D1.out]; rfl) | (rw [D2.out]; rfl) | (rw [D1.out, D2.out]; rfl) | (simp; done))), below_al (Below.refl _ _) _⟩
      · have D2 := Lib.hid (decide_eq_false d2)
        go_enter Try.func159, Try.ntmps159
        go_wp2_with (first | (go_at_call 154; refine (contains_any _ x3 y1 _ (HS.out _ (below_al (Below.refl _ _) _))).mono ?_; rw [H3.out, HEQ.out]; rintro e w3 ⟨rfl, b3⟩; obtain ⟨c4, c5, c6⟩ := HC.out _ b3))
        go_ret
        exact ⟨ret_bool (by (first | exact D1.out.symm | exact D2.out.symm | (rw [D1.out]; rfl) | (rw [D2.out]; rfl) | (rw [D1.out, D2.out]; rfl) | (simp; done))), below_al (Below.refl _ _) _⟩
    · have D1 := Lib.hid (decide_eq_false d1)
      go_enter Try.func159, Try.ntmps159
      go_wp2_with (first | (go_at_call 154; refine (contains_any _ x3 y1 _ (HS.out _ (below_al (Below.refl _ _) _))).mono ?_; rw [H3.out, HEQ.out]; rintro e w3 ⟨rfl, b3⟩; obtain ⟨c4, c5, c6⟩ := HC.out _ b3))
      go_ret
      exact ⟨ret_bool (by (first | exact D1.out.symm | (rw [D1.out]; rfl) | (rw [D1.out]; rfl) | (simp; done))), below_al (Below.refl _ _) _⟩
  · have hq2 : ((x3.length : Int) == 0) = false := beq_false_of_ne (by omega)
    obtain rfl : bl = false := HBL.out.symm.trans (decide_eq_false hl)
    clear hl
    cases b3
    · skip
      go_enter Try.func159, Try.ntmps159
      go_wp2_with (first | (go_at_call 154; refine (contains_any _ x3 y1 _ (HS.out _ (below_al (Below.refl _ _) _))).mono ?_; rw [H3.out, HEQ.out]; rintro e w3 ⟨rfl, b3⟩; obtain ⟨c4, c5, c6⟩ := HC.out _ b3))
      go_ret
      exact ⟨ret_bool (by rfl), BW.out.trans (b3.mono BW.out.size)⟩
    · skip
      by_cases d1 : x4 ≤ y2
      · have D1 := Lib.hid (decide_eq_true d1)
        by_cases d2 : y2 ≤ x5
        · have D2 := Lib.hid (decide_eq_true d2)
          go_enter Try.func159, Try.ntmps159
          go_wp2_with (first | (go_at_call 154; refine (contains_any _ x3 y1 _ (HS.out _ (below_al (Below.refl _ _) _))).mono ?_; rw [H3.out, HEQ.out]; rintro e w3 ⟨rfl, b3⟩; obtain ⟨c4, c5, c6⟩ := HC.out _ b3))
          go_ret
          exact ⟨ret_bool (by (first | exact D1.out.symm | exact D2.out.symm | (rw [D1.out]; rfl) | (rw [D2.out]; rfl) | (rw [D1.out, D2.out]; rfl) | (simp; done))), BW.out.trans (b3.mono BW.out.size)⟩
        · have D2 := Lib.hid (decide_eq_false d2)
          go_enter Try.func159, Try.ntmps159
          go_wp2_with (first | (go_at_call 154; refine (contains_any _ x3 y1 _ (HS.out _ (below_al (Below.refl _ _) _))).mono ?_; rw [H3.out, HEQ.out]; rintro e w3 ⟨rfl, b3⟩; obtain ⟨c4, c5, c6⟩ := HC.out _ b3))
          go_ret
          exact ⟨ret_bool (by (first | exact D1.out.symm | exact D2.out.symm | (rw [D1.out]; rfl) | (rw [D2.out]; rfl) | (rw [D1.out, D2.out]; rfl) | (simp; done))), BW.out.trans (b3.mono BW.out.size)⟩
      · have D1 := Lib.hid (decide_eq_false d1)
        go_enter Try.func159, Try.ntmps159
        go_wp2_with (first | (go_at_call 154; refine (contains_any _ x3 y1 _ (HS.out _ (below_al (Below.refl _ _) _))).mono ?_; rw [H3.out, HEQ.out]; rintro e w3 ⟨rfl, b3⟩; obtain ⟨c4, c5, c6⟩ := HC.out _ b3))
        go_ret
        exact ⟨ret_bool (by (first | exact D1.out.symm | (rw [D1.out]; rfl) | (rw [D1.out]; rfl) | (simp; done))), BW.out.trans (b3.mono BW.out.size)⟩
end Go.Proofs.Ytkjpehpodlpdhaa

namespace Go.Proofs.Ytkjpehpodlpdhaa
set_option linter.unusedVariables false
open Go.RowKit Go.Sort

set_option maxRecDepth 20000 in
set_option maxHeartbeats 8000000 in
theorem implAreHo_any (v : Value) (t : List Ho) (w : World) (h : RowR 6 rHo w v t) :
    Calls Try.prog 18 #[v] w fun e w' => e = .returned (.bool (areHo t)) ∧ Below w.heap.size w w' := by
  have hcap := h.cap
  obtain ⟨a1, c1, hv, hl1, hm1, r1⟩ := h.hos
  subst hv
  have R1 := Lib.hid r1
  clear h r1
  unfold maxLen at hm1
  by_cases hL : 8 < t.length
  · have gL : (8 : Int) < t.length := by omega
    have HN : Hid (areHo t = false) := Lib.hid (ho_long (by omega))
    clear hL
    go_enter Try.func18, Try.ntmps18
    go_wp2_with fail
    go_ret
    exact ⟨ret_bool HN.out.symm, Below.refl _ _⟩
  · have gL : (t.length : Int) ≤ 8 := by omega
    have HL : Hid (t.length ≤ 8) := Lib.hid (by omega)
    clear hL
    go_enter Try.func18, Try.ntmps18
    go_wp2_with fail
    go_loopw [3, 11] (fun b i wr => ∃ (k : Nat) (pk : Int), k ≤ t.length ∧ i = .int .i64 k ∧ b = .int .i64 pk ∧ Hid (prevHo t k = pk) ∧ Hid (upto (hoAtB t) k = true) ∧ Below w.heap.size w wr) (fun _ i _ => t.length - (intOf i).toNat)
    case atStart => exact ⟨0, 0, Nat.zero_le _, rfl, rfl, Lib.hid rfl, Lib.hid (by simp [upto]), Below.refl _ _⟩
    case round =>
      obtain ⟨k, pk, hk, rfl, rfl, HP, HU, hb⟩ := hrel
      by_cases hlt : k < t.length
      · obtain ⟨b1, o1, hb1, rfl, e1⟩ := R1.out.resolve_left (fun e => by rw [e] at hlt; simp at hlt)
        obtain ⟨⟨x0, x1, x2, x3, x4, x5⟩, hx⟩ : ∃ s, t.getD k hoD = s := ⟨_, rfl⟩
        obtain ⟨s, q0, q1, q2, q3, q4, q5, hr, hok⟩ := e1 k hlt
        rw [hx] at q0 q1 q2 q4 q5 hr hok
        simp only at q0 q1 q2 q4 q5 hr
        have f0 := cell_kept q0 hb
        have f1 := cell_kept q1 hb
        have f2 := cell_kept q2 hb
        have f3 := cell_kept q3 hb
        have f4 := cell_kept q4 hb
        have f5 := cell_kept q5 hb
        have HV : Hid (∀ W, Below wr.heap.size wr W → HoV W (.agg #[.int .i64 x0, .int .i64 x1, .int .i64 x2, s, .int .i64 x4, .int .i64 x5]) ⟨x0, x1, x2, x3, x4, x5⟩) := Lib.hid (fun W hW => ⟨s, rfl, (hr.below hb).below hW, hok⟩)
        have HS : Hid (∀ W, Below wr.heap.size wr W → RowOf vI W s x3) := Lib.hid (fun W hW => (hr.below hb).below hW)
        obtain ⟨sa, sc, rfl, hsl, hsm, _⟩ := hr
        have HX := Lib.hid hx
        have hp0 : 0 ≤ pk := by rw [← HP.out]; exact prevHo_pos hk HU.out
        have HAT := Lib.hid (hoAt_iff hx)
        have g0 : (0 : Int) ≤ (k : Int) := by omega
        have g1 : (k : Int) < (t.length : Int) := by omega
        have hw := hb.size
        obtain ⟨bT, hbT⟩ : ∃ b, tilB ⟨x0, x1, x2, x3, x4, x5⟩ = b := ⟨_, rfl⟩
        obtain ⟨bS, hbS⟩ : ∃ b, serB x3 = b := ⟨_, rfl⟩
        obtain ⟨bF, hbF⟩ : ∃ b, decide ((0 : Int) ≤ x4 ∧ x4 ≤ 20000) = b := ⟨_, rfl⟩
        obtain ⟨bL, hbL⟩ : ∃ b, decide ((0 : Int) ≤ x5 ∧ x5 ≤ 20000) = b := ⟨_, rfl⟩
        have HOne : Hid (hoOne ⟨x0, x1, x2, x3, x4, x5⟩ = (decide (1 ≤ x0 ∧ x0 ≤ 99) && (bT && (bS && (bF && decide (x4 ≤ x5 ∧ x5 ≤ 20000)))))) := Lib.hid (by
          rw [← hbT, ← hbS, ← hbF, Bool.eq_iff_iff]
          simp only [hoOne, Bool.and_eq_true, decide_eq_true_eq])
        have HT := Lib.hid hbT
        have HSB := Lib.hid hbS
        have HF := Lib.hid hbF
        have HLL := Lib.hid hbL
        clear q0 q1 q2 q3 q4 q5 hok e1 hx hbT hbS hbF hbL
        obtain ⟨wE, hWE⟩ : ∃ W, wr.alloc (.cells #[.int .i64 x0, .int .i64 x1, .int .i64 x2, .slice sa x3.length sc, .int .i64 x4, .int .i64 x5] 100 (0, 0)) = W := ⟨_, rfl⟩
        have bE : Below wr.heap.size wr wE := by rw [← hWE]; exact below_al (Below.refl _ _) _
        have HBX := Lib.hid (show ∀ W, Below wr.heap.size wE W → wE.heap.size ≤ W.heap.size → (∀ j, j < 6 → W.cell? ⟨wr.heap.size, j, none⟩ = wE.cell? ⟨wr.heap.size, j, none⟩) → W.cell? ⟨wr.heap.size, 0, none⟩ = some (.int .i64 x0) ∧ W.cell? ⟨wr.heap.size, 1, none⟩ = some (.int .i64 x1) ∧ W.cell? ⟨wr.heap.size, 2, none⟩ = some (.int .i64 x2) ∧ W.cell? ⟨wr.heap.size, 3, none⟩ = some (.slice sa x3.length sc) ∧ W.cell? ⟨wr.heap.size, 4, none⟩ = some (.int .i64 x4) ∧ W.cell? ⟨wr.heap.size, 5, none⟩ = some (.int .i64 x5) from
          fun W _ _ hj => by
            subst hWE
            exact ⟨(hj 0 (by omega)).trans (cell_new wr _ _ 0 rfl), (hj 1 (by omega)).trans (cell_new wr _ _ 1 rfl), (hj 2 (by omega)).trans (cell_new wr _ _ 2 rfl), (hj 3 (by omega)).trans (cell_new wr _ _ 3 rfl), (hj 4 (by omega)).trans (cell_new wr _ _ 4 rfl), (hj 5 (by omega)).trans (cell_new wr _ _ 5 rfl)⟩)
        have BE := Lib.hid bE
        have HEQ := Lib.hid hWE
        have hlE : wr.heap.size < wE.heap.size := by rw [← hWE]; simp
        have HKP := Lib.hid (show ∀ W, Below wE.heap.size wE W → W.cell? ⟨wr.heap.size, 0, none⟩ = some (.int .i64 x0) ∧ W.cell? ⟨wr.heap.size, 1, none⟩ = some (.int .i64 x1) ∧ W.cell? ⟨wr.heap.size, 2, none⟩ = some (.int .i64 x2) ∧ W.cell? ⟨wr.heap.size, 3, none⟩ = some (.slice sa x3.length sc) ∧ W.cell? ⟨wr.heap.size, 4, none⟩ = some (.int .i64 x4) ∧ W.cell? ⟨wr.heap.size, 5, none⟩ = some (.int .i64 x5) from fun W hW => HBX.out W (hW.mono (Nat.le_of_lt hlE)) hW.size (fun j _ => hW.cell (p := ⟨wr.heap.size, j, none⟩) hlE))
        clear hWE bE hlE HBX
        by_cases hP : x0 ≤ pk
        · skip
          have HNT : Hid (areHo t = false) := Lib.hid (notHo hlt (by rw [Bool.eq_false_iff]; intro hc; have hh := HAT.out.1 hc; have h2 := hh.2; rw [HP.out] at h2; simp only at h2; omega))
          go_wp2_with fail
          go_ret
          exact ⟨ret_bool HNT.out.symm, hb.trans ((below_al (Below.refl _ _) _).mono hw)⟩
        · have dP : decide (x0 ≤ pk) = false := decide_eq_false hP
          by_cases h5 : 99 < x0
          · skip
            have HNT : Hid (areHo t = false) := Lib.hid (notHo hlt (by rw [Bool.eq_false_iff]; intro hc; have hh := HAT.out.1 hc; have h2 := (hoOne_iff.1 hh.1).1.2; simp only at h2; omega))
            go_wp2_with fail
            go_ret
            exact ⟨ret_bool HNT.out.symm, hb.trans ((below_al (Below.refl _ _) _).mono hw)⟩
          · have d99 : decide ((99 : Int) < x0) = false := decide_eq_false h5
            cases bT
            · skip
              have HNT : Hid (areHo t = false) := Lib.hid (notHo hlt (by rw [Bool.eq_false_iff]; intro hc; have hh := HAT.out.1 hc; have h2 := hh.1; rw [HOne.out] at h2; simp at h2))
              go_wp2_with (first | (go_at_call 77; refine (untilFits_any _ _ _ (HV.out _ (below_al (Below.refl _ _) _))).mono ?_; rw [HT.out, HEQ.out]; rintro e wT ⟨rfl, bT⟩; obtain ⟨c0, c1, c2, c3, c4, c5⟩ := HKP.out _ bT))
              go_ret
              exact ⟨ret_bool HNT.out.symm, (hb.trans (BE.out.mono hw)).trans (bT.mono (Nat.le_trans hw BE.out.size))⟩
            · cases bS
              · skip
                have HNT : Hid (areHo t = false) := Lib.hid (notHo hlt (by rw [Bool.eq_false_iff]; intro hc; have hh := HAT.out.1 hc; have h2 := hh.1; rw [HOne.out] at h2; simp at h2))
                go_wp2_with (first | (go_at_call 77; refine (untilFits_any _ _ _ (HV.out _ (below_al (Below.refl _ _) _))).mono ?_; rw [HT.out, HEQ.out]; rintro e wT ⟨rfl, bT⟩; obtain ⟨c0, c1, c2, c3, c4, c5⟩ := HKP.out _ bT) | (go_at_call 78; refine (areSer_any _ _ _ (HS.out _ (BE.out.trans (bT.mono BE.out.size)))).mono ?_; rw [HSB.out]; rintro e wS ⟨rfl, bS⟩; replace bT := bT.trans (bS.mono bT.size); clear bS; obtain ⟨c0, c1, c2, c3, c4, c5⟩ := HKP.out _ bT))
                go_ret
                exact ⟨ret_bool HNT.out.symm, (hb.trans (BE.out.mono hw)).trans (bT.mono (Nat.le_trans hw BE.out.size))⟩
              · cases bF
                · skip
                  have HNT : Hid (areHo t = false) := Lib.hid (notHo hlt (by rw [Bool.eq_false_iff]; intro hc; have hh := HAT.out.1 hc; have h2 := hh.1; rw [HOne.out] at h2; simp at h2))
                  go_wp2_with (first | (go_at_call 77; refine (untilFits_any _ _ _ (HV.out _ (below_al (Below.refl _ _) _))).mono ?_; rw [HT.out, HEQ.out]; rintro e wT ⟨rfl, bT⟩; obtain ⟨c0, c1, c2, c3, c4, c5⟩ := HKP.out _ bT) | (go_at_call 78; refine (areSer_any _ _ _ (HS.out _ (BE.out.trans (bT.mono BE.out.size)))).mono ?_; rw [HSB.out]; rintro e wS ⟨rfl, bS⟩; replace bT := bT.trans (bS.mono bT.size); clear bS; obtain ⟨c0, c1, c2, c3, c4, c5⟩ := HKP.out _ bT) | (go_at_call 79; refine (isDay_any _ _).mono ?_; (first | rw [HF.out] | rw [HLL.out]); rintro e w' ⟨rfl, h'⟩; subst h'))
                  go_ret
                  exact ⟨ret_bool HNT.out.symm, (hb.trans (BE.out.mono hw)).trans (bT.mono (Nat.le_trans hw BE.out.size))⟩
                · cases bL
                  · skip
                    have HNT : Hid (areHo t = false) := Lib.hid (notHo hlt (by rw [Bool.eq_false_iff]; intro hc; have hh := HAT.out.1 hc; have h2 := (hoOne_iff.1 hh.1).2.2.2; simp only at h2; have := of_decide_eq_false HLL.out; omega))
                    go_wp2_with (first | (go_at_call 77; refine (untilFits_any _ _ _ (HV.out _ (below_al (Below.refl _ _) _))).mono ?_; rw [HT.out, HEQ.out]; rintro e wT ⟨rfl, bT⟩; obtain ⟨c0, c1, c2, c3, c4, c5⟩ := HKP.out _ bT) | (go_at_call 78; refine (areSer_any _ _ _ (HS.out _ (BE.out.trans (bT.mono BE.out.size)))).mono ?_; rw [HSB.out]; rintro e wS ⟨rfl, bS⟩; replace bT := bT.trans (bS.mono bT.size); clear bS; obtain ⟨c0, c1, c2, c3, c4, c5⟩ := HKP.out _ bT) | (go_at_call 79; refine (isDay_any _ _).mono ?_; (first | rw [HF.out] | rw [HLL.out]); rintro e w' ⟨rfl, h'⟩; subst h'))
                    go_ret
                    exact ⟨ret_bool HNT.out.symm, (hb.trans (BE.out.mono hw)).trans (bT.mono (Nat.le_trans hw BE.out.size))⟩
                  · by_cases hg : x5 < x4
                    · skip
                      have HNT : Hid (areHo t = false) := Lib.hid (notHo hlt (by rw [Bool.eq_false_iff]; intro hc; have hh := HAT.out.1 hc; have h2 := (hoOne_iff.1 hh.1).2.2.2; simp only at h2; omega))
                      go_wp2_with (first | (go_at_call 77; refine (untilFits_any _ _ _ (HV.out _ (below_al (Below.refl _ _) _))).mono ?_; rw [HT.out, HEQ.out]; rintro e wT ⟨rfl, bT⟩; obtain ⟨c0, c1, c2, c3, c4, c5⟩ := HKP.out _ bT) | (go_at_call 78; refine (areSer_any _ _ _ (HS.out _ (BE.out.trans (bT.mono BE.out.size)))).mono ?_; rw [HSB.out]; rintro e wS ⟨rfl, bS⟩; replace bT := bT.trans (bS.mono bT.size); clear bS; obtain ⟨c0, c1, c2, c3, c4, c5⟩ := HKP.out _ bT) | (go_at_call 79; refine (isDay_any _ _).mono ?_; (first | rw [HF.out] | rw [HLL.out]); rintro e w' ⟨rfl, h'⟩; subst h'))
                      go_ret
                      exact ⟨ret_bool HNT.out.symm, (hb.trans (BE.out.mono hw)).trans (bT.mono (Nat.le_trans hw BE.out.size))⟩
                    · have dg : decide (x5 < x4) = false := decide_eq_false hg
                      have HYES : Hid (hoAtB t k = true) := Lib.hid (HAT.out.2 ⟨by have := of_decide_eq_true HLL.out; rw [HOne.out]; simp; omega, by rw [HP.out]; simp only; omega⟩)
                      go_wp2_with (first | (go_at_call 77; refine (untilFits_any _ _ _ (HV.out _ (below_al (Below.refl _ _) _))).mono ?_; rw [HT.out, HEQ.out]; rintro e wT ⟨rfl, bT⟩; obtain ⟨c0, c1, c2, c3, c4, c5⟩ := HKP.out _ bT) | (go_at_call 78; refine (areSer_any _ _ _ (HS.out _ (BE.out.trans (bT.mono BE.out.size)))).mono ?_; rw [HSB.out]; rintro e wS ⟨rfl, bS⟩; replace bT := bT.trans (bS.mono bT.size); clear bS; obtain ⟨c0, c1, c2, c3, c4, c5⟩ := HKP.out _ bT) | (go_at_call 79; refine (isDay_any _ _).mono ?_; (first | rw [HF.out] | rw [HLL.out]); rintro e w' ⟨rfl, h'⟩; subst h'))
                      go_roundw
                      case rel => exact ⟨k + 1, x0, by omega, by go_num, rfl, Lib.hid (by simp only [prevHo]; rw [HX.out]), Lib.hid (upto_succ HU.out HYES.out), (hb.trans (BE.out.mono hw)).trans (bT.mono (Nat.le_trans hw BE.out.size))⟩
                      case measure => simp [intOf]; omega
      · have hkt : k = t.length := by omega
        have HE : Hid (areHo t = true) := Lib.hid (ho_all HL.out (by have := HU.out; rwa [hkt] at this))
        clear hkt
        go_wp2_with fail
        go_ret
        exact ⟨ret_bool HE.out.symm, hb⟩

set_option maxRecDepth 20000 in
set_option maxHeartbeats 2000000 in
theorem covers_any (v : Value) (r : Rec) (d : Int) (w : World) (h : RecV w v r) :
    Calls Try.prog 87 #[v, .int .i64 d] w fun e w' => ∃ B1 B2, e = .returned (.func (.func 147) #[] #[.pointer (some ⟨B1, 0, none⟩), .pointer (some ⟨B2, 0, none⟩)]) ∧ CovB w' B1 B2 r d ∧ Below w.heap.size w w' := by
  obtain ⟨s, rfl, hr, hok⟩ := h
  obtain ⟨y0, y1, y2, y3⟩ := r
  simp only at hr ⊢
  have HV := Lib.hid (show ∀ W, Below w.heap.size w W → RecV W (.agg #[.int .i64 y0, .int .i64 y1, .int .i64 y2, s]) ⟨y0, y1, y2, y3⟩ from fun W hW => ⟨s, rfl, hr.below rEv_stable hW, hok⟩)
  obtain ⟨sa, sc, rfl, _⟩ := hr
  clear hok
  go_enter Try.func87, Try.ntmps87
  go_wp2_with fail
  have bA := below_al (below_al (Below.refl w.heap.size w) (.cells #[.int .i64 y0, .int .i64 y1, .int .i64 y2, .slice sa y3.length sc] 38 (0, 0))) (.cells #[.int .i64 d] 3 (0, 0))
  have cd : ((w.alloc (.cells #[.int .i64 y0, .int .i64 y1, .int .i64 y2, .slice sa y3.length sc] 38 (0, 0))).alloc (.cells #[.int .i64 d] 3 (0, 0))).cell? ⟨w.heap.size + 1, 0, none⟩ = some (.int .i64 d) := by simp
  refine (concerns_any _ _ _ (HV.out _ bA)).mono ?_
  rintro e w1 ⟨B, rfl, hB, b1⟩
  go_wp2_with fail
  go_ret
  refine ⟨w.heap.size + 1, w1.heap.size, rfl, ⟨?_, B, ?_, ?_⟩, ?_⟩
  · exact below_al_cell (cell_kept cd b1) _
  · exact cell_new w1 _ _ 0 rfl
  · exact hB.below (below_al (Below.refl _ _) _)
  · exact below_al (below_chain bA b1) _

set_option maxRecDepth 20000 in
set_option maxHeartbeats 4000000 in
theorem covers1_any (v : Value) (h : Ho) (r : Rec) (d : Int) (B1 B2 : Nat) (w : World) (hv : HoV w v h) (hB : CovB w B1 B2 r d) :
    Calls Try.prog 147 #[v, .pointer (some ⟨B1, 0, none⟩), .pointer (some ⟨B2, 0, none⟩)] w fun e w' => e = .returned (.bool (covB h r d)) ∧ Below w.heap.size w w' := by
  obtain ⟨s, rfl, hr, hok⟩ := hv
  obtain ⟨e1, B, e2, e3⟩ := hB
  obtain ⟨x0, x1, x2, x3, x4, x5⟩ := h
  obtain ⟨E, hE⟩ : ∃ E, endH ⟨x0, x1, x2, x3, x4, x5⟩ = E := ⟨_, rfl⟩
  obtain ⟨bc, hbc⟩ : ∃ b, conB ⟨x0, x1, x2, x3, x4, x5⟩ r = b := ⟨_, rfl⟩
  have hres : covB ⟨x0, x1, x2, x3, x4, x5⟩ r d = ((decide (x1 ≤ d) && decide (d < E)) && bc) := by
    unfold covB
    rw [hE, hbc, Bool.decide_and]
  simp only at hr ⊢
  have HV := Lib.hid (show ∀ W, Below w.heap.size w W → HoV W (.agg #[.int .i64 x0, .int .i64 x1, .int .i64 x2, s, .int .i64 x4, .int .i64 x5]) ⟨x0, x1, x2, x3, x4, x5⟩ from fun W hW => ⟨s, rfl, hr.below hW, hok⟩)
  obtain ⟨sa, sc, rfl, _⟩ := hr
  rw [hres]
  have HE := Lib.hid hE
  have HBC := Lib.hid hbc
  have HR := Lib.hid (show ∀ W, Below w.heap.size w W → RecB W B r from fun W hW => e3.below hW)
  generalize hWE : w.alloc (.cells #[.int .i64 x0, .int .i64 x1, .int .i64 x2, .slice sa x3.length sc, .int .i64 x4, .int .i64 x5] 100 (0, 0)) = wE
  have bE : Below w.heap.size w wE := by rw [← hWE]; exact below_al (Below.refl _ _) _
  have z0 : wE.cell? ⟨w.heap.size, 0, none⟩ = some (.int .i64 x0) := by rw [← hWE]; exact cell_new w _ _ 0 rfl
  have z1 : wE.cell? ⟨w.heap.size, 1, none⟩ = some (.int .i64 x1) := by rw [← hWE]; exact cell_new w _ _ 1 rfl
  have z2 : wE.cell? ⟨w.heap.size, 2, none⟩ = some (.int .i64 x2) := by rw [← hWE]; exact cell_new w _ _ 2 rfl
  have z3 : wE.cell? ⟨w.heap.size, 3, none⟩ = some (.slice sa x3.length sc) := by rw [← hWE]; exact cell_new w _ _ 3 rfl
  have z4 : wE.cell? ⟨w.heap.size, 4, none⟩ = some (.int .i64 x4) := by rw [← hWE]; exact cell_new w _ _ 4 rfl
  have z5 : wE.cell? ⟨w.heap.size, 5, none⟩ = some (.int .i64 x5) := by rw [← hWE]; exact cell_new w _ _ 5 rfl
  have z6 := cell_kept e1 bE
  have z7 := cell_kept e2 bE
  have m0 := cell_regrown z0
  have m1 := cell_regrown z1
  have m2 := cell_regrown z2
  have m3 := cell_regrown z3
  have m4 := cell_regrown z4
  have m5 := cell_regrown z5
  have m6 := cell_regrown z6
  have m7 := cell_regrown z7
  have HWE := Lib.hid hWE
  have HCE : Hid _ := Lib.hid (show ∀ d os, Calls Try.prog 92 #[.agg #[.int .i64 x0, .int .i64 x1, .int .i64 x2, .slice sa x3.length sc, .int .i64 x4, .int .i64 x5]] (grow (redrawn wE d) os) fun e w'' => e = .returned (.int .i64 E) ∧ ∃ p : Regrown, w'' = grow (redrawn wE p.d) p.os from fun d os => Calls.regrown_of (by have := endOf_any _ _ (grow (redrawn wE d) os) (HV.out _ (bE.trans ((below_regrown wE d os).mono bE.size))); rwa [HE.out] at this))
  have HCC : Hid _ := Lib.hid (show ∀ d os, Calls Try.prog 159 #[.agg #[.int .i64 x0, .int .i64 x1, .int .i64 x2, .slice sa x3.length sc, .int .i64 x4, .int .i64 x5], .pointer (some ⟨B, 0, none⟩)] (grow (redrawn wE d) os) fun e w'' => e = .returned (.bool bc) ∧ ∃ p : Regrown, w'' = grow (redrawn wE p.d) p.os from fun d os => Calls.regrown_of (by have := concerns1_any _ _ r B (grow (redrawn wE d) os) (HV.out _ (bE.trans ((below_regrown wE d os).mono bE.size))) (HR.out _ (bE.trans ((below_regrown wE d os).mono bE.size))); rwa [HBC.out] at this))
  clear hE hbc hres hok hWE e1 e2 e3
  by_cases f1 : x1 ≤ d
  · by_cases f2 : d < E
    · skip
      go_enter Try.func147, Try.ntmps147
      go_wp2_with fail
      rw [HWE.out]
      have hcE := HCE.out
      have hcC := HCC.out
      refine wp_region_quiet_below (by kernel_rfl) (by kernel_rfl) ?_
      repeat (go_big_quiet_step (first | exact hcE _ _ | exact hcC _ _))
      refine wpQuiet_nil ?_
      intro _ hw'
      obtain ⟨⟨dq, osq⟩, hw''⟩ := hw'
      subst hw''
      have bq := below_regrown wE dq osq
      generalize grow (redrawn wE dq) osq = w2 at bq  ⊢
      go_wp2
      go_ret
      exact ⟨ret_bool (by simp [f1, f2]), bE.trans (bq.mono bE.size)⟩
    · have dE : decide (d < E) = false := decide_eq_false f2
      go_enter Try.func147, Try.ntmps147
      go_wp2_with fail
      rw [HWE.out]
      have hcE := HCE.out
      have hcC := HCC.out
      refine wp_region_quiet_below (by kernel_rfl) (by kernel_rfl) ?_
      repeat (go_big_quiet_step (first | exact hcE _ _ | exact hcC _ _))
      refine wpQuiet_nil ?_
      intro _ hw'
      obtain ⟨⟨dq, osq⟩, hw''⟩ := hw'
      subst hw''
      have bq := below_regrown wE dq osq
      generalize grow (redrawn wE dq) osq = w2 at bq  ⊢
      go_wp2
      go_ret
      exact ⟨ret_bool (by simp [dE]), bE.trans (bq.mono bE.size)⟩
  · have dX : decide (x1 ≤ d) = false := decide_eq_false f1
    go_enter Try.func147, Try.ntmps147
    go_wp2_with fail
    rw [HWE.out]
    have hcE := HCE.out
    have hcC := HCC.out
    refine wp_region_quiet_below (by kernel_rfl) (by kernel_rfl) ?_
    repeat (go_big_quiet_step (first | exact hcE _ _ | exact hcC _ _))
    refine wpQuiet_nil ?_
    intro _ hw'
    obtain ⟨⟨dq, osq⟩, hw''⟩ := hw'
    subst hw''
    have bq := below_regrown wE dq osq
    generalize grow (redrawn wE dq) osq = w2 at bq  ⊢
    go_wp2
    go_ret
    exact ⟨ret_bool (by simp [dX]), bE.trans (bq.mono bE.size)⟩

set_option maxHeartbeats 2000000 in
theorem covIdx_any (v : Value) (t : List Ho) (r : Rec) (d : Int) (B1 B2 : Nat) (w : World) (h : RowR 6 rHo w v t) (hB : CovB w B1 B2 r d) :
    Calls Try.prog 91 #[v, .func (.func 147) #[] #[.pointer (some ⟨B1, 0, none⟩), .pointer (some ⟨B2, 0, none⟩)]] w fun e w' => e = .returned (.int .i64 (gIdx (fun g : Ho => covB g r d) t)) ∧ Below w.heap.size w w' := by
  have hcap := h.cap
  obtain ⟨a1, c1, rfl, hl1, hm1, r1⟩ := h.hos
  have R1 := Lib.hid r1
  clear h r1
  unfold maxLen at hm1
  obtain ⟨p, hp⟩ : ∃ p : Ho → Bool, (fun g : Ho => covB g r d) = p := ⟨_, rfl⟩
  rw [hp]
  have HP := Lib.hid hp
  have HB := Lib.hid hB
  clear hp hB
  go_enter Try.func91, Try.ntmps91
  go_wp2
  go_loopw [8] (fun i wr => ∃ k : Nat, k ≤ t.length ∧ i = .int .i64 k ∧ Hid (∀ j, j < k → p (t.getD j hoD) = false) ∧ Below w.heap.size w wr) (fun i _ => t.length - (intOf i).toNat)
  case atStart => exact ⟨0, Nat.zero_le _, rfl, Lib.hid (fun j h => absurd h (Nat.not_lt_zero _)), Below.refl _ _⟩
  case round =>
    obtain ⟨k, hk, rfl, HN, hb⟩ := hrel
    by_cases hlt : k < t.length
    · obtain ⟨b1, o1, hb1, rfl, e1⟩ := R1.out.resolve_left (fun e => by rw [e] at hlt; simp at hlt)
      obtain ⟨⟨x0, x1, x2, x3, x4, x5⟩, hx⟩ : ∃ s, t.getD k hoD = s := ⟨_, rfl⟩
      obtain ⟨s, q0, q1, q2, q3, q4, q5, hr, hok⟩ := e1 k hlt
      rw [hx] at q0 q1 q2 q4 q5 hr hok
      simp only at q0 q1 q2 q4 q5 hr
      have f0 := cell_kept q0 hb
      have f1 := cell_kept q1 hb
      have f2 := cell_kept q2 hb
      have f3 := cell_kept q3 hb
      have f4 := cell_kept q4 hb
      have f5 := cell_kept q5 hb
      have HX := Lib.hid hx
      have g0 : (0 : Int) ≤ (k : Int) := by omega
      have g1 : (k : Int) < (t.length : Int) := by omega
      have hsz := hb.size
      have hcall := covers1_any _ ⟨x0, x1, x2, x3, x4, x5⟩ r d B1 B2 wr ⟨s, rfl, hr.below hb, hok⟩ (HB.out.below hb)
      clear q0 q1 q2 q3 q4 q5 e1 hx hr hok
      simp only at hcall
      obtain ⟨bq, hbq⟩ : ∃ b, p ⟨x0, x1, x2, x3, x4, x5⟩ = b := ⟨_, rfl⟩
      have hbq2 : covB ⟨x0, x1, x2, x3, x4, x5⟩ r d = bq := by rw [← hbq, ← HP.out]
      rw [hbq2] at hcall
      have HBQ := Lib.hid hbq
      have HCALL := Lib.hid hcall
      clear hbq hbq2 hcall
      cases bq
      · go_wp2_with (first | (go_at_call 147; refine HCALL.out.mono ?_; rintro e w2 ⟨rfl, b2⟩))
        go_roundw
        case rel =>
          refine ⟨k + 1, by omega, by go_num, Lib.hid (fun j hj => ?_), hb.trans (b2.mono hsz)⟩
          rcases Nat.lt_or_ge j k with h' | h'
          · exact HN.out j h'
          · obtain rfl : j = k := by omega
            rw [HX.out]
            exact HBQ.out
        case measure => simp [intOf]; omega
      · go_wp2_with (first | (go_at_call 147; refine HCALL.out.mono ?_; rintro e w2 ⟨rfl, b2⟩))
        go_ret
        exact ⟨ret_int (gIdx_is (d := hoD) hlt HN.out (by rw [HX.out]; exact HBQ.out)).symm, hb.trans (b2.mono hsz)⟩
    · have hkt : k = t.length := by omega
      have HF : Hid (gIdx p t = -1) := Lib.hid (gIdx_none (d := hoD) (fun j hj => HN.out j (by omega)))
      clear hkt
      go_wp2
      go_ret
      exact ⟨ret_int HF.out.symm, hb⟩

theorem covHas_any (v : Value) (t : List Ho) (r : Rec) (d : Int) (B1 B2 : Nat) (w : World) (h : RowR 6 rHo w v t) (hB : CovB w B1 B2 r d) :
    Calls Try.prog 101 #[v, .func (.func 147) #[] #[.pointer (some ⟨B1, 0, none⟩), .pointer (some ⟨B2, 0, none⟩)]] w fun e w' => e = .returned (.bool (heldB t r d)) ∧ Below w.heap.size w w' := by
  obtain ⟨c, hc⟩ : ∃ c, gIdx (fun g : Ho => covB g r d) t = c := ⟨_, rfl⟩
  have ht : heldB t r d = decide (0 ≤ c) := by rw [← hc, gIdx_any]; rfl
  have hcall := covIdx_any v t r d B1 B2 w h hB
  rw [hc] at hcall
  rw [ht]
  have HC := Lib.hid hcall
  clear hcall hc ht h hB
  go_enter Try.func101, Try.ntmps101
  go_wp2_with fail
  refine HC.out.mono ?_
  rintro e w2 ⟨rfl, b2⟩
  go_wp2_with fail
  go_ret
  exact ⟨rfl, b2⟩
end Go.Proofs.Ytkjpehpodlpdhaa

namespace Go.Proofs.Ytkjpehpodlpdhaa
set_option linter.unusedVariables false
open Go.RowKit Go.Sort

set_option maxRecDepth 20000 in
set_option maxHeartbeats 4000000 in
theorem idsOf_any (v : Value) (t : List Ho) (r : Rec) (d : Int) (B1 B2 : Nat) (w : World) (h : RowR 6 rHo w v t) (hB : CovB w B1 B2 r d) (hn : t.length ≤ 1048576) :
    Calls Try.prog 86 #[v, .func (.func 147) #[] #[.pointer (some ⟨B1, 0, none⟩), .pointer (some ⟨B2, 0, none⟩)]] w fun e w' => ∃ v', e = .returned v' ∧ IntsO w.heap.size w'.heap.size w' v' (onHo t r d) ∧ Below w.heap.size w w' := by
  obtain ⟨i0, hi, hz0, hz1, hz2⟩ := info_parts Try.info_intI
  obtain ⟨a1, c1, rfl, hl1, hm1, r1⟩ := h.hos
  have R1 := Lib.hid r1
  have HB := Lib.hid hB
  clear h r1 hB
  unfold maxLen at hm1
  go_enter Try.func86, Try.ntmps86
  go_wp2_with fail
  go_loopw [5, 10] (fun o i wr => ∃ k : Nat, k ≤ t.length ∧ i = .int .i64 k ∧ wr.ownsRow w.heap.size 3 1 o (onHo (t.take k) r d).length ((onHo (t.take k) r d).map vI) ∧ Below w.heap.size w wr) (fun _ i _ => t.length - (intOf i).toNat)
  case atStart => exact ⟨0, Nat.zero_le _, rfl, by simpa [onHo] using World.ownsRow_nil _ _ _ _, Below.refl _ _⟩
  case round =>
    obtain ⟨k, hk, rfl, hO, hb⟩ := hrel
    have hsz := hb.size
    by_cases hlt : k < t.length
    · obtain ⟨bR, oR, hbR, rfl, e1⟩ := R1.out.resolve_left (fun e => by rw [e] at hlt; simp at hlt)
      obtain ⟨⟨x0, x1, x2, x3, x4, x5⟩, hx⟩ : ∃ s, t.getD k hoD = s := ⟨_, rfl⟩
      obtain ⟨s, q0, q1, q2, q3, q4, q5, hr, hok⟩ := e1 k hlt
      rw [hx] at q0 q1 q2 q4 q5 hr hok
      simp only at q0 q1 q2 q4 q5 hr
      have f0 := cell_kept q0 hb
      have f1 := cell_kept q1 hb
      have f2 := cell_kept q2 hb
      have f3 := cell_kept q3 hb
      have f4 := cell_kept q4 hb
      have f5 := cell_kept q5 hb
      have hV : HoV wr (.agg #[.int .i64 x0, .int .i64 x1, .int .i64 x2, s, .int .i64 x4, .int .i64 x5]) ⟨x0, x1, x2, x3, x4, x5⟩ := ⟨s, rfl, hr.below hb, hok⟩
      obtain ⟨sa, sc, rfl, _⟩ := hr
      have hsucc := onHo_succ (r := r) (d := d) hlt
      have hlen := onHo_len (t.take k) r d
      rw [List.length_take] at hlen
      rw [hx] at hsucc
      obtain ⟨bC, hbC⟩ : ∃ b, covB ⟨x0, x1, x2, x3, x4, x5⟩ r d = b := ⟨_, rfl⟩
      rw [hbC] at hsucc
      obtain ⟨Pp, hP⟩ : ∃ P, onHo (t.take k) r d = P := ⟨_, rfl⟩
      rw [hP] at hO hlen hsucc
      have HSU := Lib.hid hsucc
      have HO := Lib.hid hO
      have g0 : (0 : Int) ≤ (k : Int) := by omega
      have g1 : (k : Int) < (t.length : Int) := by omega
      have b0 := below_al (Below.refl wr.heap.size wr) (.cells #[.int .i64 x0, .int .i64 x1, .int .i64 x2, .slice sa x3.length sc, .int .i64 x4, .int .i64 x5] 100 (0, 0))
      have hcall := covers1_any _ ⟨x0, x1, x2, x3, x4, x5⟩ r d B1 B2 (wr.alloc (.cells #[.int .i64 x0, .int .i64 x1, .int .i64 x2, .slice sa x3.length sc, .int .i64 x4, .int .i64 x5] 100 (0, 0))) (hV.below b0) ((HB.out.below hb).below b0)
      rw [hbC] at hcall
      have HCALL := Lib.hid hcall
      have HBXX := Lib.hid (fun W (hW : Below (wr.alloc (.cells #[.int .i64 x0, .int .i64 x1, .int .i64 x2, .slice sa x3.length sc, .int .i64 x4, .int .i64 x5] 100 (0, 0))).heap.size (wr.alloc (.cells #[.int .i64 x0, .int .i64 x1, .int .i64 x2, .slice sa x3.length sc, .int .i64 x4, .int .i64 x5] 100 (0, 0))) W) => cell_kept (cell_new wr #[.int .i64 x0, .int .i64 x1, .int .i64 x2, .slice sa x3.length sc, .int .i64 x4, .int .i64 x5] 100 0 rfl) hW)
      clear q0 q1 q2 q3 q4 q5 hok hx e1 hsucc hP hbC hV hO hcall b0
      cases bC
      · have HSU2 := Lib.hid (HSU.out.trans (if_neg (by simp)))
        go_wp2_with (first | (go_at_call 147; refine HCALL.out.mono ?_; rintro e w6 ⟨rfl, b6⟩; have c0 := HBXX.out _ b6; have c0' : ∀ o, (w6.alloc o).cell? ⟨wr.heap.size, 0, none⟩ = some (.int .i64 x0) := (fun o => below_al_cell c0 o); have HO6 := Lib.hid (ownsRow_below (HO.out.alloc _) b6); replace b6 := below_chain (below_al (Below.refl wr.heap.size wr) _) b6; have hb6 := hb.trans (b6.mono hsz); have hs6 := hb6.size))
        go_roundw
        case rel => exact ⟨k + 1, by omega, by go_num, (by rw [HSU2.out]; exact HO6.out), hb6⟩
        case measure => simp [intOf]; omega
      · have HSU2 := Lib.hid (HSU.out.trans (if_pos rfl))
        go_wp2_with (first | (go_at_call 147; refine HCALL.out.mono ?_; rintro e w6 ⟨rfl, b6⟩; have c0 := HBXX.out _ b6; have c0' : ∀ o, (w6.alloc o).cell? ⟨wr.heap.size, 0, none⟩ = some (.int .i64 x0) := (fun o => below_al_cell c0 o); have HO6 := Lib.hid (ownsRow_below (HO.out.alloc _) b6); replace b6 := below_chain (below_al (Below.refl wr.heap.size wr) _) b6; have hb6 := hb.trans (b6.mono hsz); have hs6 := hb6.size) | (at_builtin; refine wpList_append_own _ rfl _ _ 33 rfl w.heap.size 3 i0 (.int .i64 0) 1 8 Try.underlying33 hi hz0 hz1 hz2 rfl (by decide) _ _ _ rfl (HO6.out.alloc _) ⟨w6.heap.size, 0, none⟩ 1 1 [.int .i64 x0] rfl rfl (cell_oneI _ _ _ (by simp)) (by simp [Value.oneCell']) (by unfold maxLen; omega) (by omega) (by simp; omega) ?_; intro v' w7 hown' hgrow _))
        have HOWN := Lib.hid hown'
        have HB7 := Lib.hid (below_app hb6 (Nat.le_refl _) HO6.out hgrow)
        clear hown' hgrow
        go_wp2_with fail
        go_roundw
        case rel => exact ⟨k + 1, by omega, by go_num, (by rw [HSU2.out]; simpa [vI] using HOWN.out), HB7.out⟩
        case measure => simp [intOf]; omega
    · obtain rfl : k = t.length := by omega
      rw [List.take_length] at hO
      have HO := Lib.hid hO
      clear hO
      go_wp2_with fail
      go_ret
      exact ⟨_, rfl, ints_rowK HO.out rfl, hb⟩

set_option maxRecDepth 20000 in
set_option maxHeartbeats 4000000 in
theorem implHoldsOn_any (v v1 : Value) (t : List Ho) (r : Rec) (d : Int) (w : World) (h : RowR 6 rHo w v t) (h1 : RecV w v1 r) (xs : List Int) (b : Bool) (hres : hoRes t r d = (xs, b)) :
    Calls Try.prog 23 #[v, v1, .int .i64 d] w fun e w' => ∃ v', e = .returned (.tuple #[v', .bool b]) ∧ IntsO w.heap.size w'.heap.size w' v' xs ∧ Below w.heap.size w w' := by
  obtain ⟨s, rfl, hr, hok⟩ := h1
  obtain ⟨y0, y1, y2, y3⟩ := r
  simp only at hr ⊢
  have HV := Lib.hid (show ∀ W, Below w.heap.size w W → RecV W (.agg #[.int .i64 y0, .int .i64 y1, .int .i64 y2, s]) ⟨y0, y1, y2, y3⟩ from fun W hW => ⟨s, rfl, hr.below rEv_stable hW, hok⟩)
  obtain ⟨sb, sd, rfl, _⟩ := hr
  have HBX := Lib.hid (show ∀ W, Below (w.alloc (.cells #[.int .i64 y0, .int .i64 y1, .int .i64 y2, .slice sb y3.length sd] 38 (0, 0))).heap.size (w.alloc (.cells #[.int .i64 y0, .int .i64 y1, .int .i64 y2, .slice sb y3.length sd] 38 (0, 0))) W → W.cell? ⟨w.heap.size, 0, none⟩ = some (.int .i64 y0) ∧ W.cell? ⟨w.heap.size, 1, none⟩ = some (.int .i64 y1) ∧ W.cell? ⟨w.heap.size, 2, none⟩ = some (.int .i64 y2) ∧ W.cell? ⟨w.heap.size, 3, none⟩ = some (.slice sb y3.length sd) from
    fun W hW => ⟨cell_kept (cell_new w _ _ 0 rfl) hW, cell_kept (cell_new w _ _ 1 rfl) hW, cell_kept (cell_new w _ _ 2 rfl) hW, cell_kept (cell_new w _ _ 3 rfl) hW⟩)
  have H := Lib.hid h
  obtain ⟨bg, hg⟩ : ∃ b, areHo t = b := ⟨_, rfl⟩
  obtain ⟨br, hrr⟩ : ∃ b, isRec ⟨y0, y1, y2, y3⟩ = b := ⟨_, rfl⟩
  obtain ⟨bd, hd⟩ : ∃ b, decide (0 ≤ d ∧ d ≤ 20000) = b := ⟨_, rfl⟩
  have HG := Lib.hid hg
  have HR := Lib.hid hrr
  have HD := Lib.hid hd
  have NO := Lib.hid (fun hn => hoRes_no hres hn)
  have YES := Lib.hid (fun hn => hoRes_yes hres hn)
  clear h hg hrr hd hres hok
  cases bg
  · skip
    obtain ⟨rfl, rfl⟩ := NO.out (fun hc => by have := askH_iff.1 hc; rw [HG.out] at this; exact absurd this.1 (by simp))
    go_enter Try.func23, Try.ntmps23
    go_wp2_with (first | (go_at_call 18; refine (implAreHo_any _ t _ (H.out.below rHo_stable (below_al (Below.refl _ _) _))).mono ?_; rw [HG.out]; rintro e w1 ⟨rfl, b1⟩; obtain ⟨c0, c1, c2, c3⟩ := HBX.out _ b1; have b1w := below_chain (below_al (Below.refl w.heap.size w) _) b1))
    go_ret2
    exact ⟨_, rfl, ints_nilK _ _ _, b1w⟩
  · cases br
    · skip
      obtain ⟨rfl, rfl⟩ := NO.out (fun hc => by have := askH_iff.1 hc; rw [HR.out] at this; exact absurd this.2.1 (by simp))
      go_enter Try.func23, Try.ntmps23
      go_wp2_with (first | (go_at_call 18; refine (implAreHo_any _ t _ (H.out.below rHo_stable (below_al (Below.refl _ _) _))).mono ?_; rw [HG.out]; rintro e w1 ⟨rfl, b1⟩; obtain ⟨c0, c1, c2, c3⟩ := HBX.out _ b1; have b1w := below_chain (below_al (Below.refl w.heap.size w) _) b1) | (go_at_call 85; refine (implIsRecord_any _ ⟨y0, y1, y2, y3⟩ _ (HV.out _ b1w)).mono ?_; rw [HR.out]; rintro e w2 ⟨rfl, b2⟩; replace b1 := b1.trans (b2.mono b1.size); obtain ⟨c0, c1, c2, c3⟩ := HBX.out _ b1; replace b1w := b1w.trans (b2.mono b1w.size)))
      go_ret2
      exact ⟨_, rfl, ints_nilK _ _ _, b1w⟩
    · cases bd
      · skip
        obtain ⟨rfl, rfl⟩ := NO.out (fun hc => by have := askH_iff.1 hc; exact of_decide_eq_false HD.out this.2.2)
        go_enter Try.func23, Try.ntmps23
        go_wp2_with (first | (go_at_call 18; refine (implAreHo_any _ t _ (H.out.below rHo_stable (below_al (Below.refl _ _) _))).mono ?_; rw [HG.out]; rintro e w1 ⟨rfl, b1⟩; obtain ⟨c0, c1, c2, c3⟩ := HBX.out _ b1; have b1w := below_chain (below_al (Below.refl w.heap.size w) _) b1) | (go_at_call 85; refine (implIsRecord_any _ ⟨y0, y1, y2, y3⟩ _ (HV.out _ b1w)).mono ?_; rw [HR.out]; rintro e w2 ⟨rfl, b2⟩; replace b1 := b1.trans (b2.mono b1.size); obtain ⟨c0, c1, c2, c3⟩ := HBX.out _ b1; replace b1w := b1w.trans (b2.mono b1w.size)) | (go_at_call 79; refine (isDay_any _ _).mono ?_; rw [HD.out]; rintro e w3 ⟨rfl, h3⟩; subst w3))
        go_ret2
        exact ⟨_, rfl, ints_nilK _ _ _, b1w⟩
      · obtain ⟨rfl, rfl⟩ := YES.out (askH_iff.2 ⟨HG.out, HR.out, of_decide_eq_true HD.out⟩)
        go_enter Try.func23, Try.ntmps23
        go_wp2_with (first | (go_at_call 18; refine (implAreHo_any _ t _ (H.out.below rHo_stable (below_al (Below.refl _ _) _))).mono ?_; rw [HG.out]; rintro e w1 ⟨rfl, b1⟩; obtain ⟨c0, c1, c2, c3⟩ := HBX.out _ b1; have b1w := below_chain (below_al (Below.refl w.heap.size w) _) b1) | (go_at_call 85; refine (implIsRecord_any _ ⟨y0, y1, y2, y3⟩ _ (HV.out _ b1w)).mono ?_; rw [HR.out]; rintro e w2 ⟨rfl, b2⟩; replace b1 := b1.trans (b2.mono b1.size); obtain ⟨c0, c1, c2, c3⟩ := HBX.out _ b1; replace b1w := b1w.trans (b2.mono b1w.size)) | (go_at_call 79; refine (isDay_any _ _).mono ?_; rw [HD.out]; rintro e w3 ⟨rfl, h3⟩; subst w3) | (go_at_call 87; refine (covers_any _ ⟨y0, y1, y2, y3⟩ d _ (HV.out _ b1w)).mono ?_; rintro e w4 ⟨B1, B2, rfl, hcov, b4⟩; replace b1w := b1w.trans (b4.mono b1w.size)) | (go_at_call 86; refine (idsOf_any _ t ⟨y0, y1, y2, y3⟩ d B1 B2 _ (H.out.below rHo_stable b1w) hcov (by have := ho_len HG.out; omega)).mono ?_; rintro e w5 ⟨v', rfl, hi, b5⟩))
        go_ret2
        exact ⟨_, rfl, hi.wide b1w.size (Nat.le_refl _), below_chain b1w b5⟩
end Go.Proofs.Ytkjpehpodlpdhaa

namespace Go.Proofs.Ytkjpehpodlpdhaa
set_option linter.unusedVariables false
open Go.RowKit Go.Sort

set_option maxRecDepth 20000 in
set_option maxHeartbeats 4000000 in
theorem implFreeDay_any (v v1 : Value) (t : List Ho) (r : Rec) (d : Int) (w : World) (h : RowR 6 rHo w v t) (h1 : RecV w v1 r) (n : Int) (b : Bool) (hres : freRes t r d = (n, b)) :
    Calls Try.prog 31 #[v, v1, .int .i64 d] w fun e w' => e = .returned (.tuple #[.int .i64 n, .bool b]) ∧ Below w.heap.size w w' := by
  obtain ⟨s, rfl, hr, hok⟩ := h1
  obtain ⟨y0, y1, y2, y3⟩ := r
  simp only at hr ⊢
  have HV := Lib.hid (show ∀ W, Below w.heap.size w W → RecV W (.agg #[.int .i64 y0, .int .i64 y1, .int .i64 y2, s]) ⟨y0, y1, y2, y3⟩ from fun W hW => ⟨s, rfl, hr.below rEv_stable hW, hok⟩)
  obtain ⟨sb, sd, rfl, _⟩ := hr
  have HBX := Lib.hid (show ∀ W, Below (w.alloc (.cells #[.int .i64 y0, .int .i64 y1, .int .i64 y2, .slice sb y3.length sd] 38 (0, 0))).heap.size (w.alloc (.cells #[.int .i64 y0, .int .i64 y1, .int .i64 y2, .slice sb y3.length sd] 38 (0, 0))) W → W.cell? ⟨w.heap.size, 0, none⟩ = some (.int .i64 y0) ∧ W.cell? ⟨w.heap.size, 1, none⟩ = some (.int .i64 y1) ∧ W.cell? ⟨w.heap.size, 2, none⟩ = some (.int .i64 y2) ∧ W.cell? ⟨w.heap.size, 3, none⟩ = some (.slice sb y3.length sd) from
    fun W hW => ⟨cell_kept (cell_new w _ _ 0 rfl) hW, cell_kept (cell_new w _ _ 1 rfl) hW, cell_kept (cell_new w _ _ 2 rfl) hW, cell_kept (cell_new w _ _ 3 rfl) hW⟩)
  have H := Lib.hid h
  obtain ⟨a1, c1, rfl, hl1, hm1, r1⟩ := h.hos
  have R1 := Lib.hid r1
  unfold maxLen at hm1
  obtain ⟨bg, hg⟩ : ∃ b, areHo t = b := ⟨_, rfl⟩
  obtain ⟨br, hrr⟩ : ∃ b, isRec ⟨y0, y1, y2, y3⟩ = b := ⟨_, rfl⟩
  obtain ⟨bd, hd⟩ : ∃ b, decide (0 ≤ d ∧ d ≤ 20000) = b := ⟨_, rfl⟩
  have HG := Lib.hid hg
  have HR := Lib.hid hrr
  have HD := Lib.hid hd
  have NO := Lib.hid (fun hn => freRes_no hres hn)
  have YES := Lib.hid (fun hn => freRes_yes hres hn)
  clear h hg hrr hd hres hok r1
  cases bg
  · skip
    obtain ⟨rfl, rfl⟩ := NO.out (fun hc => by have := askH_iff.1 hc.1; rw [HG.out] at this; exact absurd this.1 (by simp))
    go_enter Try.func31, Try.ntmps31
    go_wp2_with (first | (go_at_call 18; refine (implAreHo_any _ t _ (H.out.below rHo_stable (below_al (Below.refl _ _) _))).mono ?_; rw [HG.out]; rintro e w1 ⟨rfl, b1⟩; obtain ⟨c0, c1, c2, c3⟩ := HBX.out _ b1; have b1w := below_chain (below_al (Below.refl w.heap.size w) _) b1))
    go_ret2
    exact ⟨rfl, b1w⟩
  · cases br
    · skip
      obtain ⟨rfl, rfl⟩ := NO.out (fun hc => by have := askH_iff.1 hc.1; rw [HR.out] at this; exact absurd this.2.1 (by simp))
      go_enter Try.func31, Try.ntmps31
      go_wp2_with (first | (go_at_call 18; refine (implAreHo_any _ t _ (H.out.below rHo_stable (below_al (Below.refl _ _) _))).mono ?_; rw [HG.out]; rintro e w1 ⟨rfl, b1⟩; obtain ⟨c0, c1, c2, c3⟩ := HBX.out _ b1; have b1w := below_chain (below_al (Below.refl w.heap.size w) _) b1) | (go_at_call 85; refine (implIsRecord_any _ ⟨y0, y1, y2, y3⟩ _ (HV.out _ b1w)).mono ?_; rw [HR.out]; rintro e w2 ⟨rfl, b2⟩; replace b1 := b1.trans (b2.mono b1.size); obtain ⟨c0, c1, c2, c3⟩ := HBX.out _ b1; replace b1w := b1w.trans (b2.mono b1w.size); clear b2))
      go_ret2
      exact ⟨rfl, b1w⟩
    · cases bd
      · skip
        obtain ⟨rfl, rfl⟩ := NO.out (fun hc => by have := askH_iff.1 hc.1; exact of_decide_eq_false HD.out this.2.2)
        go_enter Try.func31, Try.ntmps31
        go_wp2_with (first | (go_at_call 18; refine (implAreHo_any _ t _ (H.out.below rHo_stable (below_al (Below.refl _ _) _))).mono ?_; rw [HG.out]; rintro e w1 ⟨rfl, b1⟩; obtain ⟨c0, c1, c2, c3⟩ := HBX.out _ b1; have b1w := below_chain (below_al (Below.refl w.heap.size w) _) b1) | (go_at_call 85; refine (implIsRecord_any _ ⟨y0, y1, y2, y3⟩ _ (HV.out _ b1w)).mono ?_; rw [HR.out]; rintro e w2 ⟨rfl, b2⟩; replace b1 := b1.trans (b2.mono b1.size); obtain ⟨c0, c1, c2, c3⟩ := HBX.out _ b1; replace b1w := b1w.trans (b2.mono b1w.size); clear b2) | (go_at_call 79; refine (isDay_any _ _).mono ?_; rw [HD.out]; rintro e w3 ⟨rfl, h3⟩; subst w3))
        go_ret2
        exact ⟨rfl, b1w⟩
      · have HDD := Lib.hid (of_decide_eq_true HD.out)
        have HASK := Lib.hid (askH_iff.2 ⟨HG.out, HR.out, HDD.out⟩)
        go_enter Try.func31, Try.ntmps31
        go_wp2_with (first | (go_at_call 18; refine (implAreHo_any _ t _ (H.out.below rHo_stable (below_al (Below.refl _ _) _))).mono ?_; rw [HG.out]; rintro e w1 ⟨rfl, b1⟩; obtain ⟨c0, c1, c2, c3⟩ := HBX.out _ b1; have b1w := below_chain (below_al (Below.refl w.heap.size w) _) b1) | (go_at_call 85; refine (implIsRecord_any _ ⟨y0, y1, y2, y3⟩ _ (HV.out _ b1w)).mono ?_; rw [HR.out]; rintro e w2 ⟨rfl, b2⟩; replace b1 := b1.trans (b2.mono b1.size); obtain ⟨c0, c1, c2, c3⟩ := HBX.out _ b1; replace b1w := b1w.trans (b2.mono b1w.size); clear b2) | (go_at_call 79; refine (isDay_any _ _).mono ?_; rw [HD.out]; rintro e w3 ⟨rfl, h3⟩; subst w3))
        have s1 := b1w.size
        obtain ⟨ws, hws⟩ : ∃ ws, ws = w2 := ⟨_, rfl⟩
        subst hws
        go_loopw [2] (fun dy wr => ∃ D : Int, dy = .int .i64 D ∧ Hid (d ≤ D ∧ D ≤ 20001 ∧ ∀ x, d ≤ x → x < D → heldB t ⟨y0, y1, y2, y3⟩ x = true) ∧ Below ws.heap.size ws wr) (fun dy _ => (20001 - intOf dy).toNat)
        case atStart => exact ⟨d, rfl, Lib.hid ⟨Int.le_refl _, by have := HDD.out; omega, fun x a b => absurd a (by omega)⟩, Below.refl _ _⟩
        case round =>
          obtain ⟨D, rfl, HQ, hb⟩ := hrel
          have hbw := b1w.trans (hb.mono s1)
          have hsz := hb.size
          by_cases hle : D ≤ 20000
          · obtain ⟨c0, c1, c2, c3⟩ := HBX.out _ (b1.trans (hb.mono b1.size))
            obtain ⟨c, hc⟩ : ∃ c, gIdx (fun g : Ho => covB g ⟨y0, y1, y2, y3⟩ D) t = c := ⟨_, rfl⟩
            have HC := Lib.hid hc
            rcases gIdx_cases hoD (fun g : Ho => covB g ⟨y0, y1, y2, y3⟩ D) t with ⟨h1, h2⟩ | ⟨k, h1, hlt, h3, _⟩
            · have hcn : c = -1 := by rw [← hc]; exact h1
              subst hcn
              have hF : freeF t ⟨y0, y1, y2, y3⟩ d = D := free_is HDD.out.1 HQ.out.1 hle (held_no h2) HQ.out.2.2
              obtain ⟨e0, rfl⟩ := YES.out ⟨HASK.out, by rw [hF]; exact hle⟩
              have E0 := Lib.hid (e0.trans hF)
              clear hc h1 h2 hF e0
              go_wp2_with (first | (go_at_call 87; refine (covers_any _ ⟨y0, y1, y2, y3⟩ D _ (HV.out _ hbw)).mono ?_; rintro e w4 ⟨B1, B2, rfl, hcov, b4⟩; have b4w := hbw.trans (b4.mono hbw.size); replace b4 := hb.trans (b4.mono hb.size)) | (go_at_call 91; refine (covIdx_any _ t ⟨y0, y1, y2, y3⟩ D B1 B2 _ (H.out.below rHo_stable b4w) hcov).mono ?_; rw [HC.out]; rintro e w5 ⟨rfl, b5⟩; have hk5 := hcov; have b5w := b4w.trans (b5.mono b4w.size); replace b5 := b4.trans (b5.mono b4.size); clear hk5))
              go_ret2
              rw [E0.out]
              exact ⟨rfl, b5w⟩
            · have hcn : c = (k : Int) := by rw [← hc]; exact h1
              subst hcn
              have hone := ho_at HG.out hlt
              have hcE := (covB_iff.1 h3).1.2
              have hend := endH_bd hone
              have hspan : ∀ x, d ≤ x → x < endH (t.getD k hoD) → heldB t ⟨y0, y1, y2, y3⟩ x = true := fun x a b => by
                rcases Int.lt_or_le x D with h | h
                · exact HQ.out.2.2 x a h
                · exact held_at hlt (cov_span h3 h b)
              obtain ⟨E, hE⟩ : ∃ E, endH (t.getD k hoD) = E := ⟨_, rfl⟩
              rw [hE] at hcE hend hspan
              have HSP := Lib.hid hspan
              obtain ⟨bR, oR, hbR, rfl, e1⟩ := R1.out.resolve_left (fun e => by rw [e] at hlt; simp at hlt)
              obtain ⟨⟨x0, x1, x2, x3, x4, x5⟩, hx⟩ : ∃ s, t.getD k hoD = s := ⟨_, rfl⟩
              obtain ⟨s, q0, q1, q2, q3, q4, q5, hr, hok⟩ := e1 k hlt
              rw [hx] at q0 q1 q2 q4 q5 hr hok hE
              simp only at q0 q1 q2 q4 q5 hr
              have HL5 := Lib.hid (show ∀ W, Below w.heap.size w W → W.cell? ⟨bR, oR + k * 6, none⟩ = some (.int .i64 x0) ∧ W.cell? ⟨bR, oR + k * 6 + 1, none⟩ = some (.int .i64 x1) ∧ W.cell? ⟨bR, oR + k * 6 + 2, none⟩ = some (.int .i64 x2) ∧ W.cell? ⟨bR, oR + k * 6 + 3, none⟩ = some s ∧ W.cell? ⟨bR, oR + k * 6 + 4, none⟩ = some (.int .i64 x4) ∧ W.cell? ⟨bR, oR + k * 6 + 5, none⟩ = some (.int .i64 x5) from
                fun W hW => ⟨cell_kept q0 hW, cell_kept q1 hW, cell_kept q2 hW, cell_kept q3 hW, cell_kept q4 hW, cell_kept q5 hW⟩)
              have HL6 := Lib.hid (show ∀ W, Below w.heap.size w W → HoV W (.agg #[.int .i64 x0, .int .i64 x1, .int .i64 x2, s, .int .i64 x4, .int .i64 x5]) ⟨x0, x1, x2, x3, x4, x5⟩ from fun W hW => ⟨s, rfl, hr.below hW, hok⟩)
              obtain ⟨sa, sc, rfl, _⟩ := hr
              have HE := Lib.hid hE
              have g0 : (0 : Int) ≤ (k : Int) := by omega
              have g1 : (k : Int) < (t.length : Int) := by omega
              have hD0 : d ≤ D := HQ.out.1
              clear hc h1 h3 hone hspan q0 q1 q2 q3 q4 q5 hok hx e1 hE
              go_wp2_with (first | (go_at_call 87; refine (covers_any _ ⟨y0, y1, y2, y3⟩ D _ (HV.out _ hbw)).mono ?_; rintro e w4 ⟨B1, B2, rfl, hcov, b4⟩; have b4w := hbw.trans (b4.mono hbw.size); replace b4 := hb.trans (b4.mono hb.size)) | (go_at_call 91; refine (covIdx_any _ t ⟨y0, y1, y2, y3⟩ D B1 B2 _ (H.out.below rHo_stable b4w) hcov).mono ?_; rw [HC.out]; rintro e w5 ⟨rfl, b5⟩; have hk5 := hcov; have b5w := b4w.trans (b5.mono b4w.size); replace b5 := b4.trans (b5.mono b4.size); obtain ⟨u0, u1, u2, u3, u4, u5⟩ := HL5.out _ b5w; clear hk5) | (go_at_call 92; refine (endOf_any _ _ _ (HL6.out _ b5w)).mono ?_; rw [HE.out]; rintro e w6 ⟨rfl, b6⟩; replace b6 := b5.trans (b6.mono b5.size)))
              go_roundw
              case rel => exact ⟨E, rfl, Lib.hid ⟨by omega, hend.2.1, HSP.out⟩, b6⟩
              case measure => simp [intOf]; omega
          · have hDt : D = 20001 := by have := HQ.out.2.1; omega
            have hF : freeF t ⟨y0, y1, y2, y3⟩ d = 20001 := free_top (fun x a b => HQ.out.2.2 x a (by omega))
            obtain ⟨rfl, rfl⟩ := NO.out (fun hc => by have := hc.2; rw [hF] at this; omega)
            clear hDt hF
            go_wp2_with fail
            go_ret2
            exact ⟨rfl, hbw⟩

set_option maxRecDepth 20000 in
set_option maxHeartbeats 4000000 in
theorem implMostHolds_any (v v1 : Value) (t : List Ho) (r : Rec) (w : World) (h : RowR 6 rHo w v t) (h1 : RecV w v1 r) (x y : Int) (b : Bool) (hres : moRes t r = (x, y, b)) :
    Calls Try.prog 49 #[v, v1] w fun e w' => e = .returned (.tuple #[.int .i64 x, .int .i64 y, .bool b]) ∧ Below w.heap.size w w' := by
  obtain ⟨s, rfl, hr, hok⟩ := h1
  obtain ⟨y0, y1, y2, y3⟩ := r
  simp only at hr ⊢
  have HV := Lib.hid (show ∀ W, Below w.heap.size w W → RecV W (.agg #[.int .i64 y0, .int .i64 y1, .int .i64 y2, s]) ⟨y0, y1, y2, y3⟩ from fun W hW => ⟨s, rfl, hr.below rEv_stable hW, hok⟩)
  obtain ⟨sb, sd, rfl, _⟩ := hr
  have HBX := Lib.hid (show ∀ W, Below (w.alloc (.cells #[.int .i64 y0, .int .i64 y1, .int .i64 y2, .slice sb y3.length sd] 38 (0, 0))).heap.size (w.alloc (.cells #[.int .i64 y0, .int .i64 y1, .int .i64 y2, .slice sb y3.length sd] 38 (0, 0))) W → W.cell? ⟨w.heap.size, 0, none⟩ = some (.int .i64 y0) ∧ W.cell? ⟨w.heap.size, 1, none⟩ = some (.int .i64 y1) ∧ W.cell? ⟨w.heap.size, 2, none⟩ = some (.int .i64 y2) ∧ W.cell? ⟨w.heap.size, 3, none⟩ = some (.slice sb y3.length sd) from
    fun W hW => ⟨cell_kept (cell_new w _ _ 0 rfl) hW, cell_kept (cell_new w _ _ 1 rfl) hW, cell_kept (cell_new w _ _ 2 rfl) hW, cell_kept (cell_new w _ _ 3 rfl) hW⟩)
  have H := Lib.hid h
  obtain ⟨a1, c1, rfl, hl1, hm1, r1⟩ := h.hos
  have R1 := Lib.hid r1
  unfold maxLen at hm1
  obtain ⟨bg, hg⟩ : ∃ b, areHo t = b := ⟨_, rfl⟩
  obtain ⟨br, hrr⟩ : ∃ b, isRec ⟨y0, y1, y2, y3⟩ = b := ⟨_, rfl⟩
  have HG := Lib.hid hg
  have HR := Lib.hid hrr
  have NO := Lib.hid (fun hn => moRes_no hres hn)
  have YES := Lib.hid (fun hn => moRes_yes hres hn)
  clear h hg hrr hres hok r1
  cases bg
  · skip
    obtain ⟨rfl, rfl, rfl⟩ := NO.out (fun hc => by rw [HG.out] at hc; exact absurd hc.1 (by simp))
    go_enter Try.func49, Try.ntmps49
    go_wp2_with (first | (go_at_call 18; refine (implAreHo_any _ t _ (H.out.below rHo_stable (below_al (Below.refl _ _) _))).mono ?_; rw [HG.out]; rintro e w1 ⟨rfl, b1⟩; obtain ⟨c0, c1, c2, c3⟩ := HBX.out _ b1; have b1w := below_chain (below_al (Below.refl w.heap.size w) _) b1))
    go_ret3
    exact ⟨rfl, b1w⟩
  · cases br
    · skip
      obtain ⟨rfl, rfl, rfl⟩ := NO.out (fun hc => by rw [HR.out] at hc; exact absurd hc.2 (by simp))
      go_enter Try.func49, Try.ntmps49
      go_wp2_with (first | (go_at_call 18; refine (implAreHo_any _ t _ (H.out.below rHo_stable (below_al (Below.refl _ _) _))).mono ?_; rw [HG.out]; rintro e w1 ⟨rfl, b1⟩; obtain ⟨c0, c1, c2, c3⟩ := HBX.out _ b1; have b1w := below_chain (below_al (Below.refl w.heap.size w) _) b1) | (go_at_call 85; refine (implIsRecord_any _ ⟨y0, y1, y2, y3⟩ _ (HV.out _ b1w)).mono ?_; rw [HR.out]; rintro e w2 ⟨rfl, b2⟩; replace b1 := b1.trans (b2.mono b1.size); obtain ⟨c0, c1, c2, c3⟩ := HBX.out _ b1; replace b1w := b1w.trans (b2.mono b1w.size); clear b2))
      go_ret3
      exact ⟨rfl, b1w⟩
    · obtain ⟨e1, e2, e3⟩ := YES.out ⟨HG.out, HR.out⟩
      have hn8 := ho_len HG.out
      have E1 := Lib.hid e1
      have E2 := Lib.hid e2
      have E3 := Lib.hid e3
      clear e1 e2 e3 NO YES
      go_enter Try.func49, Try.ntmps49
      go_wp2_with (first | (go_at_call 18; refine (implAreHo_any _ t _ (H.out.below rHo_stable (below_al (Below.refl _ _) _))).mono ?_; rw [HG.out]; rintro e w1 ⟨rfl, b1⟩; obtain ⟨c0, c1, c2, c3⟩ := HBX.out _ b1; have b1w := below_chain (below_al (Below.refl w.heap.size w) _) b1) | (go_at_call 85; refine (implIsRecord_any _ ⟨y0, y1, y2, y3⟩ _ (HV.out _ b1w)).mono ?_; rw [HR.out]; rintro e w2 ⟨rfl, b2⟩; replace b1 := b1.trans (b2.mono b1.size); obtain ⟨c0, c1, c2, c3⟩ := HBX.out _ b1; replace b1w := b1w.trans (b2.mono b1w.size); clear b2))
      have s1 := b1w.size
      obtain ⟨ws, hws⟩ : ∃ ws, ws = w2 := ⟨_, rfl⟩
      subst hws
      go_loopw [7, 8, 22] (fun m f i wr => ∃ (k : Nat) (M F : Int), k ≤ t.length ∧ i = .int .i64 k ∧ m = .int .i64 M ∧ f = .int .i64 F ∧ Hid (mostN t ⟨y0, y1, y2, y3⟩ k = (M, F)) ∧ Below ws.heap.size ws wr) (fun _ _ i _ => t.length - (intOf i).toNat)
      case atStart => exact ⟨0, 0, 0, Nat.zero_le _, rfl, rfl, rfl, Lib.hid rfl, Below.refl _ _⟩
      case round =>
        obtain ⟨k, M, F, hk, rfl, rfl, rfl, HM, hb⟩ := hrel
        have hbw := b1w.trans (hb.mono s1)
        have hsz := hb.size
        by_cases hlt : k < t.length
        · obtain ⟨bR, oR, hbR, rfl, e1⟩ := R1.out.resolve_left (fun e => by rw [e] at hlt; simp at hlt)
          have hmp := most_p (r := ⟨y0, y1, y2, y3⟩) HG.out hlt
          obtain ⟨⟨x0, x1, x2, x3, x4, x5⟩, hx⟩ : ∃ s, t.getD k hoD = s := ⟨_, rfl⟩
          obtain ⟨s, q0, q1, q2, q3, q4, q5, hr, hok⟩ := e1 k hlt
          rw [hx] at q0 q1 q2 q4 q5 hr hok hmp
          simp only at q0 q1 q2 q4 q5 hr hmp
          have f0 := cell_kept q0 hbw
          have f1 := cell_kept q1 hbw
          have f2 := cell_kept q2 hbw
          have f3 := cell_kept q3 hbw
          have f4 := cell_kept q4 hbw
          have f5 := cell_kept q5 hbw
          obtain ⟨N, hN⟩ : ∃ N : Nat, (onHo t ⟨y0, y1, y2, y3⟩ x1).length = N := ⟨_, rfl⟩
          have HST : Hid (mostN t ⟨y0, y1, y2, y3⟩ (k + 1) = if M < (N : Int) ∨ ((N : Int) = M ∧ x1 < F) then ((N : Int), x1) else (M, F)) := Lib.hid (by
            rw [hmp, hN, HM.out])
          have HON := Lib.hid hN
          obtain ⟨sa, sc, rfl, _⟩ := hr
          have g0 : (0 : Int) ≤ (k : Int) := by omega
          have g1 : (k : Int) < (t.length : Int) := by omega
          have hbx := below_al hbw (.cells #[.int .i64 x0, .int .i64 x1, .int .i64 x2, .slice sa x3.length sc, .int .i64 x4, .int .i64 x5] 100 (0, 0))
          have HKX := Lib.hid (show ∀ W, Below (wr.alloc (.cells #[.int .i64 x0, .int .i64 x1, .int .i64 x2, .slice sa x3.length sc, .int .i64 x4, .int .i64 x5] 100 (0, 0))).heap.size (wr.alloc (.cells #[.int .i64 x0, .int .i64 x1, .int .i64 x2, .slice sa x3.length sc, .int .i64 x4, .int .i64 x5] 100 (0, 0))) W → W.cell? ⟨wr.heap.size, 0, none⟩ = some (.int .i64 x0) ∧ W.cell? ⟨wr.heap.size, 1, none⟩ = some (.int .i64 x1) ∧ W.cell? ⟨wr.heap.size, 2, none⟩ = some (.int .i64 x2) ∧ W.cell? ⟨wr.heap.size, 3, none⟩ = some (.slice sa x3.length sc) ∧ W.cell? ⟨wr.heap.size, 4, none⟩ = some (.int .i64 x4) ∧ W.cell? ⟨wr.heap.size, 5, none⟩ = some (.int .i64 x5) from
            fun W hW => ⟨cell_kept (cell_new wr _ _ 0 rfl) hW, cell_kept (cell_new wr _ _ 1 rfl) hW, cell_kept (cell_new wr _ _ 2 rfl) hW, cell_kept (cell_new wr _ _ 3 rfl) hW, cell_kept (cell_new wr _ _ 4 rfl) hW, cell_kept (cell_new wr _ _ 5 rfl) hW⟩)
          obtain ⟨c0, c1, c2, c3⟩ := HBX.out _ (b1.trans (hb.mono b1.size))
          have c0a := below_al_cell c0 (.cells #[.int .i64 x0, .int .i64 x1, .int .i64 x2, .slice sa x3.length sc, .int .i64 x4, .int .i64 x5] 100 (0, 0))
          have c1a := below_al_cell c1 (.cells #[.int .i64 x0, .int .i64 x1, .int .i64 x2, .slice sa x3.length sc, .int .i64 x4, .int .i64 x5] 100 (0, 0))
          have c2a := below_al_cell c2 (.cells #[.int .i64 x0, .int .i64 x1, .int .i64 x2, .slice sa x3.length sc, .int .i64 x4, .int .i64 x5] 100 (0, 0))
          have c3a := below_al_cell c3 (.cells #[.int .i64 x0, .int .i64 x1, .int .i64 x2, .slice sa x3.length sc, .int .i64 x4, .int .i64 x5] 100 (0, 0))
          clear q0 q1 q2 q3 q4 q5 hok hx e1 hN hmp
          by_cases hA : M < (N : Int)
          · have HS2 := Lib.hid (HST.out.trans (if_pos (.inl hA)))
            go_wp2_with (first | (go_at_call 87; refine (covers_any _ ⟨y0, y1, y2, y3⟩ x1 _ (HV.out _ hbx)).mono ?_; rintro e w4 ⟨B1, B2, rfl, hcov, b4⟩; have b4w := hbx.trans (b4.mono hbx.size); obtain ⟨u0, u1, u2, u3, u4, u5⟩ := HKX.out _ b4; have b4h := b4) | (go_at_call 86; refine (idsOf_any _ t ⟨y0, y1, y2, y3⟩ x1 B1 B2 _ (H.out.below rHo_stable b4w) hcov (by omega)).mono ?_; rintro e w5 ⟨v', rfl, hi, b5⟩; obtain ⟨u0, u1, u2, u3, u4, u5⟩ := HKX.out _ (b4h.trans (b5.mono b4h.size)); obtain ⟨ao, co, rfl, _⟩ := hi.row; rw [HON.out]; replace b5 := b4h.trans (b5.mono b4h.size); clear hi))
            have m1 := cell_regrown u1
            refine wp_region_quiet_below (by kernel_rfl) (by kernel_rfl) ?_
            repeat (go_big_quiet_step (fail))
            refine wpQuiet_nil ?_
            intro _ hw'
            obtain ⟨⟨dq, osq⟩, hw''⟩ := hw'
            subst hw''
            have bq := below_regrown w5 dq osq
            have b6 := b5.trans (bq.mono b5.size)
            generalize grow (redrawn w5 dq) osq = w2 at *
            go_wp2
            go_roundw
            case rel => exact ⟨k + 1, N, x1, by omega, by go_num, rfl, rfl, HS2, hb.trans ((below_chain (below_al (Below.refl _ _) _) b6).mono hsz)⟩
            case measure => simp [intOf]; omega
          · have dA : decide (M < (N : Int)) = false := decide_eq_false hA
            by_cases hB : (N : Int) = M
            · have dB : ((N : Int) == M) = true := by simp [hB]
              by_cases hD : x1 < F
              · have HS2 := Lib.hid (HST.out.trans (if_pos (.inr ⟨hB, hD⟩)))
                have HBB := Lib.hid hB
                clear hB
                go_wp2_with (first | (go_at_call 87; refine (covers_any _ ⟨y0, y1, y2, y3⟩ x1 _ (HV.out _ hbx)).mono ?_; rintro e w4 ⟨B1, B2, rfl, hcov, b4⟩; have b4w := hbx.trans (b4.mono hbx.size); obtain ⟨u0, u1, u2, u3, u4, u5⟩ := HKX.out _ b4; have b4h := b4) | (go_at_call 86; refine (idsOf_any _ t ⟨y0, y1, y2, y3⟩ x1 B1 B2 _ (H.out.below rHo_stable b4w) hcov (by omega)).mono ?_; rintro e w5 ⟨v', rfl, hi, b5⟩; obtain ⟨u0, u1, u2, u3, u4, u5⟩ := HKX.out _ (b4h.trans (b5.mono b4h.size)); obtain ⟨ao, co, rfl, _⟩ := hi.row; rw [HON.out]; replace b5 := b4h.trans (b5.mono b4h.size); clear hi))
                have m1 := cell_regrown u1
                refine wp_region_quiet_below (by kernel_rfl) (by kernel_rfl) ?_
                repeat (go_big_quiet_step (fail))
                refine wpQuiet_nil ?_
                intro _ hw'
                obtain ⟨⟨dq, osq⟩, hw''⟩ := hw'
                subst hw''
                have bq := below_regrown w5 dq osq
                have b6 := b5.trans (bq.mono b5.size)
                generalize grow (redrawn w5 dq) osq = w2 at *
                go_wp2
                go_roundw
                case rel => exact ⟨k + 1, N, x1, by omega, by go_num, rfl, rfl, HS2, hb.trans ((below_chain (below_al (Below.refl _ _) _) b6).mono hsz)⟩
                case measure => simp [intOf]; omega
              · have dD : decide (x1 < F) = false := decide_eq_false hD
                have HS2 := Lib.hid (HST.out.trans (if_neg (fun h => by rcases h with h | ⟨_, h⟩ <;> contradiction)))
                have HBB := Lib.hid hB
                clear hB
                go_wp2_with (first | (go_at_call 87; refine (covers_any _ ⟨y0, y1, y2, y3⟩ x1 _ (HV.out _ hbx)).mono ?_; rintro e w4 ⟨B1, B2, rfl, hcov, b4⟩; have b4w := hbx.trans (b4.mono hbx.size); obtain ⟨u0, u1, u2, u3, u4, u5⟩ := HKX.out _ b4; have b4h := b4) | (go_at_call 86; refine (idsOf_any _ t ⟨y0, y1, y2, y3⟩ x1 B1 B2 _ (H.out.below rHo_stable b4w) hcov (by omega)).mono ?_; rintro e w5 ⟨v', rfl, hi, b5⟩; obtain ⟨u0, u1, u2, u3, u4, u5⟩ := HKX.out _ (b4h.trans (b5.mono b4h.size)); obtain ⟨ao, co, rfl, _⟩ := hi.row; rw [HON.out]; replace b5 := b4h.trans (b5.mono b4h.size); clear hi))
                go_roundw
                case rel => exact ⟨k + 1, M, F, by omega, by go_num, rfl, rfl, HS2, hb.trans ((below_chain (below_al (Below.refl _ _) _) b5).mono hsz)⟩
                case measure => simp [intOf]; omega
            · have dB : ((N : Int) == M) = false := beq_false_of_ne hB
              have HS2 := Lib.hid (HST.out.trans (if_neg (fun h => by rcases h with h | ⟨h, _⟩ <;> contradiction)))
              have HBB := Lib.hid hB
              clear hB
              go_wp2_with (first | (go_at_call 87; refine (covers_any _ ⟨y0, y1, y2, y3⟩ x1 _ (HV.out _ hbx)).mono ?_; rintro e w4 ⟨B1, B2, rfl, hcov, b4⟩; have b4w := hbx.trans (b4.mono hbx.size); obtain ⟨u0, u1, u2, u3, u4, u5⟩ := HKX.out _ b4; have b4h := b4) | (go_at_call 86; refine (idsOf_any _ t ⟨y0, y1, y2, y3⟩ x1 B1 B2 _ (H.out.below rHo_stable b4w) hcov (by omega)).mono ?_; rintro e w5 ⟨v', rfl, hi, b5⟩; obtain ⟨u0, u1, u2, u3, u4, u5⟩ := HKX.out _ (b4h.trans (b5.mono b4h.size)); obtain ⟨ao, co, rfl, _⟩ := hi.row; rw [HON.out]; replace b5 := b4h.trans (b5.mono b4h.size); clear hi))
              go_roundw
              case rel => exact ⟨k + 1, M, F, by omega, by go_num, rfl, rfl, HS2, hb.trans ((below_chain (below_al (Below.refl _ _) _) b5).mono hsz)⟩
              case measure => simp [intOf]; omega
        · have hkl : k = t.length := by omega
          have hM := HM.out
          rw [hkl] at hM
          have EE1 : Hid (x = M) := Lib.hid (by rw [E1.out, hM])
          have EE2 : Hid (y = F) := Lib.hid (by rw [E2.out, hM])
          have EE3 : Hid (b = decide (0 < M)) := Lib.hid (by rw [E3.out, hM])
          clear hkl hM
          go_wp2_with fail
          go_ret3
          rw [EE1.out, EE2.out, EE3.out]
          exact ⟨rfl, hbw⟩
end Go.Proofs.Ytkjpehpodlpdhaa

namespace Go.Proofs.Ytkjpehpodlpdhaa
set_option linter.unusedVariables false
open Go.RowKit Go.Sort

theorem implIsSeries_any (n : Int) (w : World) : Calls Try.prog 133 #[.int .i64 n] w fun e w' => e = .returned (.bool (decide (1 ≤ n ∧ n ≤ 99))) ∧ w' = w := by
  by_cases h1 : 1 ≤ n
  · go_enter Try.func133, Try.ntmps133
    go_wp2
    go_ret
    exact ⟨ret_bool (by first | (simp; done) | (simp; omega) | (rw [Bool.eq_iff_iff]; simp; omega)), rfl⟩
  · go_enter Try.func133, Try.ntmps133
    go_wp2
    go_ret
    exact ⟨ret_bool (by first | (simp; done) | (simp; omega) | (rw [Bool.eq_iff_iff]; simp; omega)), rfl⟩

theorem keyOf_any (x : Ru) (w : World) : Calls Try.prog 171 #[.agg #[.int .i64 x.series, .int .i64 x.event, .int .i64 x.days, .int .i64 x.act]] w fun e w' => e = .returned (.agg #[.int .i64 x.series, .int .i64 x.event]) ∧ Below w.heap.size w w' := by
  obtain ⟨x0, x1, x2, x3⟩ := x
  simp only
  go_enter Try.func171, Try.ntmps171
  go_wp2_with fail
  refine bodyPost_ret (v := .agg #[.int .i64 x0, .int .i64 x1]) (by simp [results, Try.results171, go_sem]) rfl ⟨rfl, ?_⟩
  exact below_al (below_al (Below.refl _ _) _) _

theorem isBefore_any (a b : Ru) (w : World) : Calls Try.prog 170 #[.agg #[.int .i64 a.series, .int .i64 a.event], .agg #[.int .i64 b.series, .int .i64 b.event]] w fun e w' => e = .returned (.bool (bef a b)) ∧ Below w.heap.size w w' := by
  obtain ⟨x0, x1, x2, x3⟩ := a
  obtain ⟨y0, y1, y2, y3⟩ := b
  simp only [bef]
  by_cases h2 : x0 = y0
  · have e2 : (x0 != y0) = false := by simp [h2]
    have H2 := Lib.hid h2
    clear h2
    go_enter Try.func170, Try.ntmps170
    go_wp2_with fail
    go_ret
    exact ⟨ret_bool (by have := H2.out; apply decide_eq_decide.2; omega), below_al (below_al (Below.refl _ _) _) _⟩
  · have e2 : (x0 != y0) = true := by simp [h2]
    have H2 := Lib.hid h2
    clear h2
    go_enter Try.func170, Try.ntmps170
    go_wp2_with fail
    go_ret
    exact ⟨ret_bool (by have := H2.out; apply decide_eq_decide.2; omega), below_al (below_al (Below.refl _ _) _) _⟩

theorem implIsAct_any (n : Int) (w : World) : Calls Try.prog 184 #[.int .i64 n] w fun e w' => e = .returned (.bool (decide (1 ≤ n ∧ n ≤ 3))) ∧ w' = w := by
  by_cases h1 : 1 ≤ n
  · by_cases h2 : n ≤ 3
    · go_enter Try.func184, Try.ntmps184
      go_wp2
      go_ret
      exact ⟨ret_bool (by simp; omega), rfl⟩
    · go_enter Try.func184, Try.ntmps184
      go_wp2
      go_ret
      exact ⟨ret_bool (by simp; omega), rfl⟩
  · go_enter Try.func184, Try.ntmps184
    go_wp2
    go_ret
    exact ⟨ret_bool (by simp; omega), rfl⟩

set_option maxHeartbeats 2000000 in
theorem implIsRule_any (x : Ru) (w : World) : Calls Try.prog 169 #[.agg #[.int .i64 x.series, .int .i64 x.event, .int .i64 x.days, .int .i64 x.act]] w fun e w' => e = .returned (.bool (isRu x)) ∧ Below w.heap.size w w' := by
  obtain ⟨x0, x1, x2, x3⟩ := x
  simp only
  obtain ⟨b0, h0⟩ : ∃ b, decide (1 ≤ x0 ∧ x0 ≤ 99) = b := ⟨_, rfl⟩
  obtain ⟨b5, h5⟩ : ∃ b, decide (1 ≤ x3 ∧ x3 ≤ 3) = b := ⟨_, rfl⟩
  have hr : isRu ⟨x0, x1, x2, x3⟩ = (b0 && (decide ((0 ≤ x1 ∧ x1 ≤ 9) ∧ (0 ≤ x2 ∧ x2 ≤ 20000)) && b5)) := by simp only [isRu]; rw [h0, h5]; cases b0 <;> cases b5 <;> simp
  rw [hr]
  have H0 := Lib.hid h0
  have H5 := Lib.hid h5
  clear h0 h5 hr
  cases b0
  · go_enter Try.func169, Try.ntmps169
    go_wp2_with (first | (go_at_call 133; refine (implIsSeries_any _ _).mono ?_; rw [H0.out]; rintro e w' ⟨rfl, rfl⟩) | (go_at_call 184; refine (implIsAct_any _ _).mono ?_; rw [H5.out]; rintro e w' ⟨rfl, rfl⟩))
    go_ret
    exact ⟨ret_bool (by first | (simp; done) | (simp; omega) | (rw [Bool.eq_iff_iff]; simp; omega)), below_al (Below.refl _ _) _⟩
  · by_cases h1 : 0 ≤ x1
    · by_cases h2 : x1 ≤ 9
      · by_cases h3 : 0 ≤ x2
        · by_cases h4 : x2 ≤ 20000
          · go_enter Try.func169, Try.ntmps169
            go_wp2_with (first | (go_at_call 133; refine (implIsSeries_any _ _).mono ?_; rw [H0.out]; rintro e w' ⟨rfl, rfl⟩) | (go_at_call 184; refine (implIsAct_any _ _).mono ?_; rw [H5.out]; rintro e w' ⟨rfl, rfl⟩))
            go_ret
            exact ⟨ret_bool (by first | (simp; done) | (simp; omega) | (rw [Bool.eq_iff_iff]; simp; omega)), below_al (Below.refl _ _) _⟩
          · go_enter Try.func169, Try.ntmps169
            go_wp2_with (first | (go_at_call 133; refine (implIsSeries_any _ _).mono ?_; rw [H0.out]; rintro e w' ⟨rfl, rfl⟩) | (go_at_call 184; refine (implIsAct_any _ _).mono ?_; rw [H5.out]; rintro e w' ⟨rfl, rfl⟩))
            go_ret
            exact ⟨ret_bool (by first | (simp; done) | (simp; omega) | (rw [Bool.eq_iff_iff]; simp; omega)), below_al (Below.refl _ _) _⟩
        · go_enter Try.func169, Try.ntmps169
          go_wp2_with (first | (go_at_call 133; refine (implIsSeries_any _ _).mono ?_; rw [H0.out]; rintro e w' ⟨rfl, rfl⟩) | (go_at_call 184; refine (implIsAct_any _ _).mono ?_; rw [H5.out]; rintro e w' ⟨rfl, rfl⟩))
          go_ret
          exact ⟨ret_bool (by first | (simp; done) | (simp; omega) | (rw [Bool.eq_iff_iff]; simp; omega)), below_al (Below.refl _ _) _⟩
      · go_enter Try.func169, Try.ntmps169
        go_wp2_with (first | (go_at_call 133; refine (implIsSeries_any _ _).mono ?_; rw [H0.out]; rintro e w' ⟨rfl, rfl⟩) | (go_at_call 184; refine (implIsAct_any _ _).mono ?_; rw [H5.out]; rintro e w' ⟨rfl, rfl⟩))
        go_ret
        exact ⟨ret_bool (by first | (simp; done) | (simp; omega) | (rw [Bool.eq_iff_iff]; simp; omega)), below_al (Below.refl _ _) _⟩
    · go_enter Try.func169, Try.ntmps169
      go_wp2_with (first | (go_at_call 133; refine (implIsSeries_any _ _).mono ?_; rw [H0.out]; rintro e w' ⟨rfl, rfl⟩) | (go_at_call 184; refine (implIsAct_any _ _).mono ?_; rw [H5.out]; rintro e w' ⟨rfl, rfl⟩))
      go_ret
      exact ⟨ret_bool (by first | (simp; done) | (simp; omega) | (rw [Bool.eq_iff_iff]; simp; omega)), below_al (Below.refl _ _) _⟩

set_option maxRecDepth 20000 in
set_option maxHeartbeats 4000000 in
theorem implIsSchedule_any (v : Value) (t : List Ru) (w : World) (h : RowR 4 rRu w v t) :
    Calls Try.prog 131 #[v] w fun e w' => e = .returned (.bool (isSch t)) ∧ Below w.heap.size w w' := by
  have hcap := h.cap
  obtain ⟨a1, c1, hv, hl1, hm1, r1⟩ := h.rus
  subst hv
  have R1 := Lib.hid r1
  clear h r1
  unfold maxLen at hm1
  by_cases h8 : t.length ≤ 8
  · go_enter Try.func131, Try.ntmps131
    go_wp2_with fail
    go_loopw [12] (fun i wr => ∃ k : Nat, k ≤ t.length ∧ i = .int .i64 k ∧ Hid (upto (ruAtB t) k = true) ∧ wr.cell? ⟨w.heap.size, 0, none⟩ = some (.int .i64 (prevRu t k).series) ∧ wr.cell? ⟨w.heap.size, 1, none⟩ = some (.int .i64 (prevRu t k).event) ∧ wr.frozen? ⟨w.heap.size, 0, none⟩ = false ∧ wr.frozen? ⟨w.heap.size, 1, none⟩ = false ∧ w.heap.size < wr.heap.size ∧ Below w.heap.size w wr) (fun i _ => t.length - (intOf i).toNat)
    case atStart =>
      refine ⟨0, Nat.zero_le _, rfl, Lib.hid (by simp [upto]), ?_, ?_, ?_, ?_, ?_, ?_⟩
      · exact cell_new w _ _ 0 rfl
      · exact cell_new w _ _ 1 rfl
      · simp
      · simp
      · simp
      · exact below_al (Below.refl _ _) _
    case round =>
      obtain ⟨k, hk, rfl, HU, z0, z1, y0, y1, hwl, hb⟩ := hrel
      by_cases hlt : k < t.length
      · obtain ⟨b1, o1, hb1, rfl, e1⟩ := R1.out.resolve_left (fun e => by rw [e] at hlt; simp at hlt)
        obtain ⟨f, hx⟩ : ∃ s, t.getD k ruD = s := ⟨_, rfl⟩
        obtain ⟨q0, q1, q2, q3, hok⟩ := e1 k hlt
        rw [hx] at q0 q1 q2 q3 hok
        obtain ⟨x0, x1, x2, x3⟩ := f
        simp only at q0 q1 q2 q3
        have f0 := cell_kept q0 hb
        have f1 := cell_kept q1 hb
        have f2 := cell_kept q2 hb
        have f3 := cell_kept q3 hb
        have HX := Lib.hid hx
        have g0 : (0 : Int) ≤ (k : Int) := by omega
        have g1 : (k : Int) < (t.length : Int) := by omega
        obtain ⟨⟨p0, p1, p2, p3⟩, hp⟩ : ∃ s, prevRu t k = s := ⟨_, rfl⟩
        rw [hp] at z0 z1
        simp only at z0 z1
        obtain ⟨bF, hbF⟩ : ∃ b, isRu ⟨x0, x1, x2, x3⟩ = b := ⟨_, rfl⟩
        obtain ⟨bB, hbB⟩ : ∃ b, bef ⟨p0, p1, p2, p3⟩ ⟨x0, x1, x2, x3⟩ = b := ⟨_, rfl⟩
        have HF := Lib.hid hbF
        have HBB := Lib.hid hbB
        have HP := Lib.hid hp
        clear q0 q1 q2 q3 hok hx hp e1
        go_wp2_with fail
        generalize hWE : wr.alloc (.cells #[.int .i64 x0, .int .i64 x1, .int .i64 x2, .int .i64 x3] 125 (0, 0)) = wE
        have bE : Below wr.heap.size wr wE := by rw [← hWE]; exact below_al (Below.refl _ _) _
        have u0 : wE.cell? ⟨wr.heap.size, 0, none⟩ = some (.int .i64 x0) := by rw [← hWE]; exact cell_new wr _ _ 0 rfl
        have u1 : wE.cell? ⟨wr.heap.size, 1, none⟩ = some (.int .i64 x1) := by rw [← hWE]; exact cell_new wr _ _ 1 rfl
        have u2 : wE.cell? ⟨wr.heap.size, 2, none⟩ = some (.int .i64 x2) := by rw [← hWE]; exact cell_new wr _ _ 2 rfl
        have u3 : wE.cell? ⟨wr.heap.size, 3, none⟩ = some (.int .i64 x3) := by rw [← hWE]; exact cell_new wr _ _ 3 rfl
        have s0 : wE.cell? ⟨w.heap.size, 0, none⟩ = some (.int .i64 p0) := by rw [← hWE]; exact below_al_cell z0 _
        have s1 : wE.cell? ⟨w.heap.size, 1, none⟩ = some (.int .i64 p1) := by rw [← hWE]; exact below_al_cell z1 _
        have m0 := cell_regrown u0
        have m1 := cell_regrown u1
        have m2 := cell_regrown u2
        have m3 := cell_regrown u3
        have n0 := cell_regrown s0
        have n1 := cell_regrown s1
        have t0 : wE.frozen? ⟨w.heap.size, 0, none⟩ = false := by rw [← hWE]; exact frozen_kept y0 hwl (below_al (Below.refl _ _) _)
        have t1 : wE.frozen? ⟨w.heap.size, 1, none⟩ = false := by rw [← hWE]; exact frozen_kept y1 hwl (below_al (Below.refl _ _) _)
        have bwE : Below w.heap.size w wE := hb.trans (bE.mono hb.size)
        have hlE : wr.heap.size < wE.heap.size := by rw [← hWE]; simp
        have hc : ∀ d os, Calls Try.prog 169 #[.agg #[.int .i64 x0, .int .i64 x1, .int .i64 x2, .int .i64 x3]] (grow (redrawn wE d) os) fun e w'' => e = .returned (.bool bF) ∧ ∃ p : Regrown, w'' = grow (redrawn wE p.d) p.os := fun d os => Calls.regrown_of (by have := implIsRule_any ⟨x0, x1, x2, x3⟩ (grow (redrawn wE d) os); rwa [HF.out] at this)
        have hd : ∀ d os, Calls Try.prog 171 #[.agg #[.int .i64 x0, .int .i64 x1, .int .i64 x2, .int .i64 x3]] (grow (redrawn wE d) os) fun e w'' => e = .returned (.agg #[.int .i64 x0, .int .i64 x1]) ∧ ∃ p : Regrown, w'' = grow (redrawn wE p.d) p.os := fun d os => Calls.regrown_of (keyOf_any ⟨x0, x1, x2, x3⟩ (grow (redrawn wE d) os))
        have he : ∀ d os, Calls Try.prog 170 #[.agg #[.int .i64 p0, .int .i64 p1], .agg #[.int .i64 x0, .int .i64 x1]] (grow (redrawn wE d) os) fun e w'' => e = .returned (.bool bB) ∧ ∃ p : Regrown, w'' = grow (redrawn wE p.d) p.os := fun d os => Calls.regrown_of (by have := isBefore_any ⟨p0, p1, p2, p3⟩ ⟨x0, x1, x2, x3⟩ (grow (redrawn wE d) os); rwa [HBB.out] at this)
        clear hbF hbB
        cases bF
        · have hnt := notSch hlt (ruAt_no1 HX.out HF.out)
          have HNT := Lib.hid hnt
          clear hnt
          refine wp_region_quiet_below (by kernel_rfl) (by kernel_rfl) ?_
          repeat (go_big_quiet_step (first | exact hc _ _ | exact hd _ _ | exact he _ _))
          refine wpQuiet_nil ?_
          intro _ hw'
          obtain ⟨⟨dq, osq⟩, hw''⟩ := hw'
          subst hw''
          have bq := below_regrown wE dq osq
          generalize grow (redrawn wE dq) osq = w2 at bq ⊢
          go_wp2
          go_ret
          exact ⟨ret_bool HNT.out.symm, bwE.trans (bq.mono bwE.size)⟩
        · cases bB
          · have hnt := notSch hlt (ruAt_no2 HX.out (by rw [HP.out]; exact HBB.out))
            have HNT := Lib.hid hnt
            clear hnt
            refine wp_region_quiet_below (by kernel_rfl) (by kernel_rfl) ?_
            repeat (go_big_quiet_step (first | exact hc _ _ | exact hd _ _ | exact he _ _))
            refine wpQuiet_nil ?_
            intro _ hw'
            obtain ⟨⟨dq, osq⟩, hw''⟩ := hw'
            subst hw''
            have bq := below_regrown wE dq osq
            generalize grow (redrawn wE dq) osq = w2 at bq ⊢
            go_wp2
            go_ret
            exact ⟨ret_bool HNT.out.symm, bwE.trans (bq.mono bwE.size)⟩
          · have HU2 := Lib.hid (upto_succ HU.out (ruAt_yes HX.out HF.out (by rw [HP.out]; exact HBB.out)))
            refine wp_region_quiet_below (by kernel_rfl) (by kernel_rfl) ?_
            repeat (go_big_quiet_step (first | exact hc _ _ | exact hd _ _ | exact he _ _))
            refine wpQuiet_nil ?_
            intro _ hw'
            obtain ⟨⟨dq, osq⟩, hw''⟩ := hw'
            subst hw''
            have bq := below_regrown wE dq osq
            have b2 := bwE.trans (bq.mono bwE.size)
            have l2 : w.heap.size < (grow (redrawn wE dq) osq).heap.size := Nat.lt_of_lt_of_le (Nat.lt_of_le_of_lt hb.size hlE) bq.size
            have i0 := cell_kept u0 bq
            have i1 := cell_kept u1 bq
            have i2 := cell_kept u2 bq
            have i3 := cell_kept u3 bq
            have j0 := cell_kept s0 bq
            have j1 := cell_kept s1 bq
            have k0 := frozen_kept t0 (Nat.lt_of_le_of_lt hb.size hlE) bq
            have k1 := frozen_kept t1 (Nat.lt_of_le_of_lt hb.size hlE) bq
            generalize grow (redrawn wE dq) osq = w2 at *
            clear m0 m1 m2 m3 n0 n1 hc hd he u0 u1 u2 u3 s0 s1 t0 t1 bq bE bwE f0 f1 f2 f3 z0 z1 y0 y1 hWE
            go_wp2_with (first | (go_at_call 171; refine (keyOf_any ⟨x0, x1, x2, x3⟩ _).mono ?_; rintro e w3 ⟨rfl, b3⟩; have r0 := cell_kept j0 b3; have r1 := cell_kept j1 b3; have t0 := frozen_kept k0 l2 b3; have t1 := frozen_kept k1 l2 b3; have b23 := below_chain b2 b3; have l3 := Nat.lt_of_lt_of_le l2 b3.size))
            go_roundw
            case rel =>
              have e0 : prevRu t (k + 1) = ⟨x0, x1, x2, x3⟩ := HX.out
              refine ⟨k + 1, by omega, by go_num, HU2, ?_, ?_, ?_, ?_, ?_, ?_⟩
              · rw [e0, cellset_other _ (by simp), cellset_same _ r0]
              · rw [e0, cellset_same (u := .int .i64 p1) _ (by rw [cellset_other _ (by simp)]; exact r1)]
              · rw [World.frozen?_setCell, World.frozen?_setCell]; exact t0
              · rw [World.frozen?_setCell, World.frozen?_setCell]; exact t1
              · simpa [World.setCell] using l3
              · exact (b23.setCell (Nat.le_refl _) _).setCell (Nat.le_refl _) _
            case measure => simp [intOf]; omega
      · obtain rfl : k = t.length := by omega
        have HS := Lib.hid (sch_all h8 HU.out)
        go_wp2
        go_ret
        exact ⟨ret_bool HS.out.symm, hb⟩
  · have HN := Lib.hid (sch_long h8)
    go_enter Try.func131, Try.ntmps131
    go_wp2
    go_ret
    exact ⟨ret_bool HN.out.symm, Below.refl _ _⟩
end Go.Proofs.Ytkjpehpodlpdhaa

namespace Go.Proofs.Ytkjpehpodlpdhaa
set_option linter.unusedVariables false
open Go.RowKit Go.Sort

set_option maxRecDepth 20000 in
set_option maxHeartbeats 2000000 in
theorem implRulesFor_any (v : Value) (t : List Ru) (x : Int) (w : World) (h : RowR 4 rRu w v t) (hn : t.length ≤ 1048576) (xs : List Ru) (b : Bool) (hres : rufRes t x = (xs, b)) :
    Calls Try.prog 63 #[v, .int .i64 x] w fun e w' => ∃ v', e = .returned (.tuple #[v', .bool b]) ∧ RusO w.heap.size w'.heap.size w' v' xs ∧ Below w.heap.size w w' := by
  obtain ⟨i0, hi, hz0, hz1, hz2⟩ := info_parts Try.info_ru
  have H := Lib.hid h
  have hok := h.rus_ok
  have HOK := Lib.hid hok
  obtain ⟨a1, c1, hv, hl1, hm1, r1⟩ := h.rus
  subst hv
  have R1 := Lib.hid r1
  unfold maxLen at hm1
  obtain ⟨bs, hs⟩ : ∃ b, isSch t = b := ⟨_, rfl⟩
  obtain ⟨bx, hx⟩ : ∃ b, decide (1 ≤ x ∧ x ≤ 99) = b := ⟨_, rfl⟩
  unfold rufRes at hres
  rw [hs, hx] at hres
  have HS := Lib.hid hs
  have HX := Lib.hid hx
  clear h hs hx r1 hok
  cases bs
  · rw [if_neg (by simp)] at hres
    obtain ⟨rfl, rfl⟩ := Prod.mk.inj hres
    clear hres
    go_enter Try.func63, Try.ntmps63
    go_wp2_with (first | (go_at_call 131; refine (implIsSchedule_any _ t _ H.out).mono ?_; rw [HS.out]; rintro e w1 ⟨rfl, b1⟩))
    go_ret2
    exact ⟨_, rfl, RusO.nil _ _ _, b1⟩
  · cases bx
    · rw [if_neg (by simp)] at hres
      obtain ⟨rfl, rfl⟩ := Prod.mk.inj hres
      clear hres
      go_enter Try.func63, Try.ntmps63
      go_wp2_with (first | (go_at_call 131; refine (implIsSchedule_any _ t _ H.out).mono ?_; rw [HS.out]; rintro e w1 ⟨rfl, b1⟩) | (go_at_call 133; refine (implIsSeries_any _ _).mono ?_; rw [HX.out]; rintro e w' ⟨rfl, rfl⟩))
      go_ret2
      exact ⟨_, rfl, RusO.nil _ _ _, b1⟩
    · rw [if_pos (by simp)] at hres
      obtain ⟨rfl, rfl⟩ := Prod.mk.inj hres
      clear hres
      go_enter Try.func63, Try.ntmps63
      go_wp2_with (first | (go_at_call 131; refine (implIsSchedule_any _ t _ H.out).mono ?_; rw [HS.out]; rintro e w1 ⟨rfl, b1⟩) | (go_at_call 133; refine (implIsSeries_any _ _).mono ?_; rw [HX.out]; rintro e w' ⟨rfl, rfl⟩))
      go_loopw [6, 19] (fun o i wr => ∃ k : Nat, k ≤ t.length ∧ i = .int .i64 k ∧ wr.ownsRow w.heap.size 125 4 o (forRu (t.take k) x).length (((forRu (t.take k) x).map ruC).flatten) ∧ Below w.heap.size w wr) (fun _ i _ => t.length - (intOf i).toNat)
      case atStart => exact ⟨0, Nat.zero_le _, rfl, by simpa [forRu] using (RusO.nil w.heap.size w.heap.size _).1.1, b1⟩
      case round =>
        clear b1
        obtain ⟨k, hk, rfl, hO, hb⟩ := hrel
        by_cases hlt : k < t.length
        · obtain ⟨b1, o1, hb1, rfl, e1⟩ := R1.out.resolve_left (fun e => by rw [e] at hlt; simp at hlt)
          obtain ⟨q0, q1, q2, q3, hok⟩ := e1 k hlt
          have hsucc := forRu_succ (s := x) hlt
          obtain ⟨P, hP⟩ : ∃ P, forRu (t.take k) x = P := ⟨_, rfl⟩
          have hPl : P.length ≤ k := by
            rw [← hP]
            have := forRu_len (t.take k) x
            rw [List.length_take] at this
            omega
          rw [hP] at hO hsucc
          obtain ⟨⟨x0, x1, x2, x3⟩, hx⟩ : ∃ s, t.getD k ruD = s := ⟨_, rfl⟩
          rw [hx] at q0 q1 q2 q3 hsucc
          simp only at q0 q1 q2 q3 hsucc
          have f0 := cell_kept q0 hb
          have f1 := cell_kept q1 hb
          have f2 := cell_kept q2 hb
          have f3 := cell_kept q3 hb
          have HSU := Lib.hid hsucc
          have g0 : (0 : Int) ≤ (k : Int) := by omega
          have g1 : (k : Int) < (t.length : Int) := by omega
          have hsz := hb.size
          clear q0 q1 q2 q3 hok e1 hx hsucc hP
          by_cases he : x0 = x
          · have hq : (x0 == x) = true := by simp [he]
            have HSU2 := Lib.hid (HSU.out.trans (if_pos he))
            have hb2 := below_al hb (.cells #[.int .i64 x0, .int .i64 x1, .int .i64 x2, .int .i64 x3] 125 (0, 0))
            have hO2 := hO.alloc (.cells #[.int .i64 x0, .int .i64 x1, .int .i64 x2, .int .i64 x3] 125 (0, 0))
            clear he hO
            go_wp2_with (first | (at_builtin; refine wpList_append_own _ rfl _ _ 63 rfl w.heap.size 125 i0 (.agg #[.int .i64 0, .int .i64 0, .int .i64 0, .int .i64 0]) 4 32 Try.underlying63 hi hz0 hz1 hz2 rfl (by decide) _ _ _ rfl (hO2.alloc _) ⟨wr.heap.size + 1, 0, none⟩ 1 1 [.int .i64 x0, .int .i64 x1, .int .i64 x2, .int .i64 x3] rfl rfl (cells4_new' _ _ _ _ _ _ (by simp)) (by simp [Value.oneCell']) (by unfold maxLen; omega) (by omega) (by simp; omega) ?_; intro v' w4 hown' hgrow _))
            have HOWN := Lib.hid hown'
            have HB := Lib.hid (below_app hb2 (Nat.le_refl _) hO2 hgrow)
            clear hown' hgrow hO2
            go_wp2_with fail
            go_roundw
            case rel => exact ⟨k + 1, by omega, by go_num, (by rw [HSU2.out]; simpa [ruC] using HOWN.out), HB.out⟩
            case measure => simp [intOf]; omega
          · have hq : (x0 == x) = false := by simp [he]
            have HSU2 := Lib.hid (HSU.out.trans (if_neg he))
            have HO := Lib.hid (hO.alloc (.cells #[.int .i64 x0, .int .i64 x1, .int .i64 x2, .int .i64 x3] 125 (0, 0)))
            clear he hO
            go_wp2_with fail
            go_roundw
            case rel => exact ⟨k + 1, by omega, by go_num, (by rw [HSU2.out]; exact HO.out), below_al hb _⟩
            case measure => simp [intOf]; omega
        · obtain rfl : k = t.length := by omega
          rw [List.take_length] at hO
          have HF := Lib.hid (RusO.of_row hO rfl (fun f hf => HOK.out f (forRu_mem hf).1))
          clear hO
          go_wp2_with fail
          go_ret2
          exact ⟨_, rfl, HF.out, hb⟩
end Go.Proofs.Ytkjpehpodlpdhaa

namespace Go.Proofs.Ytkjpehpodlpdhaa
set_option linter.unusedVariables false
open Go.RowKit Go.Sort Go.Maps

structure LOK (D : DataW Unit) (made : Int) (es : List Ev) : Prop where
  tidy : Tidy D
  has_ : ∀ s : Int, has D (.int .i64 s) = (lookE made es s).isSome
  at_ : ∀ (s d : Int), lookE made es s = some d → D.atKey (.int .i64 s) (.lit (.int .i64 0)) = .lit (.int .i64 d)
theorem LOK.start (made : Int) : LOK (DataW.put (.map []) (.int .i64 0) (.lit (.int .i64 made))) made [] := by
  have hk : WideAt.IsKeyLit (.int .i64 0) := trivial
  have ht : Tidy (.map [] : DataW Unit) := tidy_empty
  refine ⟨ht.put hk _, fun s => ?_, fun s d h => ?_⟩
  · by_cases e : s = 0
    · subst e; rw [has_put_same ht.isMap hk]; rfl
    · rw [has_put_other (by simp; exact fun q => e q), has_eq]; simp [lookE, e]
  · by_cases e : s = 0
    · subst e
      simp [lookE] at h
      subst h
      exact atKey_put_same ht.isMap hk _ _
    · simp [lookE, e] at h
theorem LOK.put {D : DataW Unit} {made : Int} {es : List Ev} (h : LOK D made es) (e : Ev) : LOK (D.put (.int .i64 e.kind) (.lit (.int .i64 e.day))) made (es ++ [e]) := by
  have hk : WideAt.IsKeyLit (.int .i64 e.kind) := trivial
  refine ⟨h.tidy.put hk _, fun s => ?_, fun s d hd => ?_⟩
  · rw [lookE_snoc]
    by_cases q : e.kind = s
    · subst q; rw [has_put_same h.tidy.isMap hk, if_pos rfl]; rfl
    · rw [has_put_other (by simp; exact fun z => q z.symm), h.has_, if_neg q]
  · rw [lookE_snoc] at hd
    by_cases q : e.kind = s
    · subst q
      rw [if_pos rfl] at hd
      cases hd
      exact atKey_put_same h.tidy.isMap hk _ _
    · rw [if_neg q] at hd
      rw [atKey_put_other (by simp; exact fun z => q z.symm)]
      exact h.at_ s d hd
theorem LOK.day {D : DataW Unit} {r : Rec} (h : LOK D r.made r.evs) (hr : isRec r = true) (k : Int) : has D (.int .i64 k) = decide (0 ≤ dayOf r k) ∧ (0 ≤ dayOf r k → D.atKey (.int .i64 k) (.lit (.int .i64 0)) = .lit (.int .i64 (dayOf r k))) := by
  have h1 := lookE_dayOf hr k
  refine ⟨?_, fun h0 => ?_⟩
  · rw [h.has_, h1]
    by_cases q : dayOf r k < 0
    · rw [if_pos q, decide_eq_false (by omega)]; rfl
    · rw [if_neg q, decide_eq_true (by omega)]; rfl
  · exact h.at_ k _ (by rw [h1, if_neg (by omega)])

theorem wf_of_inI {n : Int} (h : inI n) : (Lit.int .i64 n).wf = true := by unfold inI at h; simp [Lit.wf, IntKind.min, IntKind.max, IntKind.signed, IntKind.bits]; omega
theorem key_day (s : Int) (h : inI s) : keyOf Try.prog 3 (.int .i64 s) = some (.int .i64 s) := keyOf_int_mk Try.underlying3 (wf_of_inI h)
abbrev DayS (w : World) (b n : Nat) (D : DataW Unit) : Prop := w.ownsMap Try.prog 3 (plainElem Try.prog 3) b n D
theorem zero_int (w : World) : (zeroValue 3).run Try.prog w = .ok (.int .i64 0) w := by kernel_rfl
theorem wpList_insert_own {H : Type} {P : Program} (w : World) {ops : Array Oper} {rest : List Oper} {o : Oper} {a : Act} {Q : Exit → Act → World → Prop}
    (hg : o.guard = none) (m x v : Operand) (t : TypeId) (hop : o.op = Op.insert t m x v)
    (k e : TypeId) (K : Keyed P k) (ht : P.underlying t = some (.map k e)) (R : Value → Option (DataW H × List MemPlace)) (b n : Nat) (D : DataW H)
    (hm : a.eval m = .map (some b)) (hown : w.ownsMap P k R b n D) (hn : n < maxLen) (key val : Value) (kl : Go.Lit) (hx : a.eval x = key) (hv : a.eval v = val) (hkey : keyOf P k key = some kl)
    (d : DataW H) (ps : List MemPlace) (hval : R val = some (d, ps))
    (hK : ∀ w', w'.ownsMap P k R b (n + 1) (D.put kl d) → w.grownBy w' (some b) → wpList P ops Q rest (a.put o.dst undef) w') :
    wpList P ops Q (o :: rest) a w := by
  refine wpList_plain hg fun K' hK' => ?_
  obtain ⟨w', hrun, r1, r2⟩ := hown.update K ht hn hkey hval
  unfold Oper.wp
  simp [execOp, hop, hm, hx, hv, hrun, Result.andThen]
  exact hK' _ _ (hK w' r1 r2)

def StartD (w : World) (r : Rec) (e : Ending) (w' : World) : Prop := ∃ b D, e = .returned (.map (some b)) ∧ w.heap.size ≤ b ∧ b < w'.heap.size ∧ DayS w' b (r.evs.length + 1) D ∧ LOK D r.made r.evs ∧ Below w.heap.size w w'
set_option maxRecDepth 20000 in
set_option maxHeartbeats 4000000 in
theorem startDays_any (v : Value) (r : Rec) (w : World) (h : RecV w v r) (hn : r.evs.length ≤ 1048576) :
    Calls Try.prog 176 #[v] w (StartD w r) := by
  obtain ⟨s, rfl, h1, hok⟩ := h
  obtain ⟨a1, c1, rfl, hl1, hm1, r1⟩ := h1.evs
  have R1 := Lib.hid r1
  clear h1 r1
  unfold maxLen at hm1
  have hmm := @run_makeMap Try.prog
  have him : inI r.made := hok.2.2
  have HK0 := Lib.hid (key_day 0 (by simp [inI]))
  have HVM := Lib.hid (plainElem_int (H := Unit) Try.underlying3 (wf_of_inI him))
  have M0 : Hid (DayS ((w.alloc (.cells #[.int .i64 r.id, .int .i64 r.series, .int .i64 r.made, .slice a1 r.evs.length c1] 38 (0, 0))).alloc (.map #[] 0)) (w.heap.size + 1) 0 (.map [])) :=
    Lib.hid (by simpa using World.ownsMap_made (w.alloc (.cells #[.int .i64 r.id, .int .i64 r.series, .int .i64 r.made, .slice a1 r.evs.length c1] 38 (0, 0))) Try.prog 3 (plainElem (H := Unit) Try.prog 3))
  have c3 := cell_new w #[.int .i64 r.id, .int .i64 r.series, .int .i64 r.made, .slice a1 r.evs.length c1] 38 3 (v := .slice a1 r.evs.length c1) rfl
  have c2 := cell_new w #[.int .i64 r.id, .int .i64 r.series, .int .i64 r.made, .slice a1 r.evs.length c1] 38 2 (v := .int .i64 r.made) rfl
  clear him hok
  go_enter Try.func176, Try.ntmps176
  go_wp2_with (first | (refine wpList_insert_own _ rfl _ _ _ 191 rfl 3 3 (int_keyed Try.underlying3) Try.underlying191 (plainElem (H := Unit) Try.prog 3) (w.heap.size + 1) 0 (.map []) rfl M0.out (by unfold maxLen; omega) (.int .i64 0) (.int .i64 r.made) (.int .i64 0) rfl rfl HK0.out (.lit (.int .i64 r.made)) [] HVM.out ?_; intro w2 hown2 hg2; have HM2 := Lib.hid hown2; have HG2 := Lib.hid hg2; have s2 := hg2.size; have p3 := hg2.cell (below_al_cell c3 (.map #[] 0)) (by simp); have bw2 := (below_al (below_al (Below.refl w.heap.size w) (.cells #[.int .i64 r.id, .int .i64 r.series, .int .i64 r.made, .slice a1 r.evs.length c1] 38 (0, 0))) (.map #[] 0)).grown hg2 (by simp; omega) (fun g e => by cases e; omega); simp at s2; clear hown2 hg2 M0 c3 c2))
  go_loopw [13] (fun i wr => ∃ (k : Nat) (D : DataW Unit), k ≤ r.evs.length ∧ i = .int .i64 k ∧ Hid (LOK D r.made (r.evs.take k)) ∧ Hid (DayS wr (w.heap.size + 1) (k + 1) D) ∧ Below w.heap.size w wr ∧ w.heap.size + 1 < wr.heap.size) (fun i _ => r.evs.length - (intOf i).toNat)
  case atStart => exact ⟨0, _, Nat.zero_le _, rfl, Lib.hid (by simpa using LOK.start r.made), HM2, bw2, by omega⟩
  case round =>
    clear HM2 HG2 bw2 s2
    obtain ⟨k, D, hk, rfl, HD, HM, hb, hmb⟩ := hrel
    by_cases hlt : k < r.evs.length
    · obtain ⟨b1, o1, hb1, rfl, e1⟩ := R1.out.resolve_left (fun e => by rw [e] at hlt; simp at hlt)
      obtain ⟨⟨x, y⟩, hx⟩ : ∃ s, r.evs.getD k evD = s := ⟨_, rfl⟩
      obtain ⟨q1, q2, hok⟩ := e1 k hlt
      rw [hx] at q1 q2 hok
      have f1 := cell_kept q1 hb
      have f2 := cell_kept q2 hb
      simp only at f1 f2
      have hix : inI x := hok.1
      have hiy : inI y := hok.2
      have htk : r.evs.take (k + 1) = r.evs.take k ++ [⟨x, y⟩] := by rw [List.take_succ_eq_append_getElem hlt, ← getD_lt hlt, hx]
      have HPUT := Lib.hid (HD.out.put ⟨x, y⟩)
      rw [← htk] at HPUT
      have HIN := Lib.hid (key_day x hix)
      have HVY := Lib.hid (plainElem_int (H := Unit) Try.underlying3 (wf_of_inI hiy))
      have g0 : (0 : Int) ≤ (k : Int) := by omega
      have g1 : (k : Int) < (r.evs.length : Int) := by omega
      clear q1 q2 hok e1 hx htk hix hiy
      go_wp2_with (first | (at_mapUpdate; refine wpList_mapUpdate_own _ rfl _ _ _ 191 rfl 3 3 (int_keyed Try.underlying3) Try.underlying191 (plainElem (H := Unit) Try.prog 3) (w.heap.size + 1) (k + 1) D rfl (HM.out.alloc _) (by unfold maxLen; omega) (.int .i64 x) (.int .i64 y) (.int .i64 x) rfl rfl HIN.out (.lit (.int .i64 y)) [] HVY.out ?_; intro w3 hown3 hg3; have HM3 := Lib.hid hown3; have HG3 := Lib.hid hg3; clear hown3 hg3))
      go_roundw
      case rel =>
        have s3 := HG3.out.size
        simp at s3
        exact ⟨k + 1, _, by omega, by go_num, HPUT, HM3, (hb.alloc hb.size _).grown HG3.out (by have := hb.size; simp; omega) (fun g e => by cases e; omega), by omega⟩
      case measure => simp [intOf]; omega
    · obtain rfl : k = r.evs.length := by omega
      have HD2 := Lib.hid (by have := HD.out; rw [List.take_length] at this; exact this : LOK D r.made r.evs)
      clear HD
      go_wp2_with fail
      go_ret
      exact ⟨_, D, rfl, by omega, hmb, HM.out, HD2.out, hb⟩

def perRules (r : Rec) (t : List Ru) : List Ru := if askB r t = true then forRu t r.series else []
def perEnds (r : Rec) (t : List Ru) : List Int := if askB r t = true then endsF r t else []
theorem ruf_ask {r : Rec} {t : List Ru} (hr : isRec r = true) : rufRes t r.series = if isSch t = true then (forRu t r.series, true) else ([], false) := by
  have := (isRec_iff.1 hr).2.1
  unfold rufRes
  simp [this.1, this.2]
def PeriodsD (w : World) (r : Rec) (t : List Ru) (e : Ending) (w' : World) : Prop :=
  ∃ u1 u2, e = .returned (.tuple #[u1, u2, .bool (askB r t)]) ∧ RusO w.heap.size w'.heap.size w' u1 (perRules r t) ∧ IntsO w.heap.size w'.heap.size w' u2 (perEnds r t) ∧ Below w.heap.size w w'
theorem ints_nil (lo hi : Nat) (w : World) : IntsO lo hi w (.slice none 0 0) [] := ⟨World.ownsRow_nil _ _ _ _, Under.nil _ _ _⟩
theorem ints_ofRow {lo n : Nat} {w : World} {v : Value} {xs : List Int} (h : w.ownsRow lo 3 1 v n (xs.map vI)) (hn : n = xs.length) : IntsO lo w.heap.size w v xs := ⟨by rw [← hn]; exact h, fun g hg => (h.lt g hg).2⟩
set_option maxRecDepth 20000 in
set_option maxHeartbeats 8000000 in
theorem periodsOf_any (v v1 : Value) (r : Rec) (t : List Ru) (w : World) (h : RecV w v r) (h1 : RowR 4 rRu w v1 t) (hn : t.length ≤ 1048576) :
    Calls Try.prog 153 #[v, v1] w (PeriodsD w r t) := by
  obtain ⟨i0, hi, hz0, hz1, hz2⟩ := info_parts Try.info_intI
  obtain ⟨s, rfl, h0, hok⟩ := h
  have HV := Lib.hid (show ∀ W, Below w.heap.size w W → RecV W (.agg #[.int .i64 r.id, .int .i64 r.series, .int .i64 r.made, s]) r from fun W hb => ⟨s, rfl, h0.below rEv_stable hb, hok⟩)
  have H1 := Lib.hid h1
  obtain ⟨br, hr⟩ : ∃ b, isRec r = b := ⟨_, rfl⟩
  obtain ⟨R, bR, hR⟩ : ∃ R b, rufRes t r.series = (R, b) := ⟨_, _, rfl⟩
  have HR := Lib.hid hr
  have HRR := Lib.hid hR
  clear h0 hok h1 hr hR
  have b0 := below_al (Below.refl w.heap.size w) (.cells #[.int .i64 r.id, .int .i64 r.series, .int .i64 r.made, s] 38 (0, 0))
  have HC0 := Lib.hid (Box4.new w r s 38)
  cases bR
  · have HA : Hid (askB r t = false) := Lib.hid (by
      rcases ha : askB r t with _ | _
      · rfl
      · have := ask_iff.1 ha
        have hq := HRR.out
        rw [ruf_ask this.1, if_pos this.2] at hq
        cases hq)
    go_enter Try.func153, Try.ntmps153
    go_wp2_with (first | (go_at_call 63; refine (implRulesFor_any _ t r.series _ (H1.out.below rRu_stable b0) hn R false HRR.out).mono ?_; rintro e w1 ⟨u1, rfl, ho1, b1⟩; replace b1 := below_chain b0 b1; clear ho1))
    go_ret3
    exact ⟨_, _, by rw [HA.out]; rfl, by unfold perRules; rw [HA.out]; exact RusO.nil _ _ _, by unfold perEnds; rw [HA.out]; exact ints_nil _ _ _, b1⟩
  · cases br
    · have HA : Hid (askB r t = false) := Lib.hid (by unfold askB; rw [HR.out]; rfl)
      go_enter Try.func153, Try.ntmps153
      go_wp2_with (first | (go_at_call 63; refine (implRulesFor_any _ t r.series _ (H1.out.below rRu_stable b0) hn R true HRR.out).mono ?_; rintro e w1 ⟨u1, rfl, ho1, b1⟩; obtain ⟨c0, c1, c2, c3⟩ := HC0.out.kept b1; obtain ⟨ga, gn, gc, rfl⟩ := ho1.1.slice; replace b1 := below_chain b0 b1; clear ho1) | (go_at_call 85; refine (implIsRecord_any _ r _ (HV.out _ b1)).mono ?_; rw [HR.out]; rintro e w2 ⟨rfl, b2⟩))
      go_ret3
      exact ⟨_, _, by rw [HA.out]; rfl, by unfold perRules; rw [HA.out]; exact RusO.nil _ _ _, by unfold perEnds; rw [HA.out]; exact ints_nil _ _ _, below_chain b1 b2⟩
    · have hq := HRR.out
      rw [ruf_ask HR.out] at hq
      have hs : isSch t = true := by
        rcases hs : isSch t with _ | _
        · rw [hs] at hq; simp at hq
        · rfl
      rw [if_pos hs] at hq
      obtain ⟨hRf, _⟩ := Prod.mk.inj hq
      have ha : askB r t = true := ask_iff.2 ⟨HR.out, hs⟩
      have HA := Lib.hid ha
      have HPR := Lib.hid (show perRules r t = R by unfold perRules; rw [if_pos ha, hRf])
      have HPE := Lib.hid (show perEnds r t = R.map (endR r) by unfold perEnds; rw [if_pos ha]; unfold endsF; rw [hRf])
      have HRU := Lib.hid (show ∀ u ∈ R, isRu u = true by rw [← hRf]; exact forRu_ok hs r.series)
      have hRl : R.length ≤ 8 := by rw [← hRf]; exact Nat.le_trans (forRu_len t r.series) (sch_len hs)
      have hev : r.evs.length ≤ 6 := (isRec_iff.1 HR.out).2.2.2.1
      clear hq hs hRf ha
      go_enter Try.func153, Try.ntmps153
      go_wp2_with (first | (go_at_call 63; refine (implRulesFor_any _ t r.series _ (H1.out.below rRu_stable b0) hn R true HRR.out).mono ?_; rintro e w1 ⟨u1, rfl, ho1, b1⟩; have HC1 := Lib.hid (HC0.out.kept b1); obtain ⟨c0, c1, c2, c3⟩ := HC1.out; obtain ⟨ga, gc, hgv, gl, gm, gr⟩ := ho1.row.rus; subst hgv; have HO1 := Lib.hid ho1; replace b1 := below_chain b0 b1; unfold maxLen at gm; clear ho1 gr b0 HC0) | (go_at_call 85; refine (implIsRecord_any _ r _ (HV.out _ b1)).mono ?_; rw [HR.out]; rintro e w2 ⟨rfl, b2⟩; have HO2 := Lib.hid ((HO1.out.below b2).wide (Nat.le_refl _) b2.size); replace c0 := cell_kept c0 b2; replace c1 := cell_kept c1 b2; replace c2 := cell_kept c2 b2; replace c3 := cell_kept c3 b2; replace b2 := below_chain b1 b2; clear HO1 HC1 b1) | (go_at_call 176; refine (startDays_any _ r _ (HV.out _ b2) (by omega)).mono ?_; rintro e w3 ⟨mb, D, rfl, hm1, hm2, hown3, hlok, b3⟩; have HO3 := Lib.hid ((HO2.out.below b3).wide (Nat.le_refl _) b3.size); have HM3 := Lib.hid hown3; have HL := Lib.hid hlok; replace b3 := below_chain b2 b3; clear hown3 hlok c0 c1 c2 c3 b2 HO2))
      have R3 := Lib.hid (by obtain ⟨a, c, e, _, _, r⟩ := HO3.out.row.rus; cases e; exact r : R = [] ∨ ∃ b off, b < w3.heap.size ∧ ga = some ⟨b, off, none⟩ ∧ ∀ i, i < R.length → w3.cell? ⟨b, off + i * 4, none⟩ = some (.int .i64 (R.getD i ruD).series) ∧ w3.cell? ⟨b, off + i * 4 + 1, none⟩ = some (.int .i64 (R.getD i ruD).event) ∧ w3.cell? ⟨b, off + i * 4 + 2, none⟩ = some (.int .i64 (R.getD i ruD).days) ∧ w3.cell? ⟨b, off + i * 4 + 3, none⟩ = some (.int .i64 (R.getD i ruD).act) ∧ (R.getD i ruD).ok)
      go_loopw [10, 34] (fun o i wr => ∃ k : Nat, k ≤ R.length ∧ i = .int .i64 k ∧ wr.ownsRow w3.heap.size 3 1 o ((R.take k).map (endR r)).length (((R.take k).map (endR r)).map vI) ∧ Below w3.heap.size w3 wr) (fun _ i _ => R.length - (intOf i).toNat)
      case atStart => exact ⟨0, Nat.zero_le _, rfl, by simpa using World.ownsRow_nil _ _ _ _, Below.refl _ _⟩
      case round =>
        obtain ⟨k, hk, rfl, hO, hb⟩ := hrel
        have hsz := hb.size
        by_cases hlt : k < R.length
        · obtain ⟨bb, o1, hb1, rfl, e1⟩ := R3.out.resolve_left (fun e => by rw [e] at hlt; simp at hlt)
          obtain ⟨q0, q1, q2, q3, hok⟩ := e1 k hlt
          obtain ⟨⟨x0, x1, x2, x3⟩, hx⟩ : ∃ s, R.getD k ruD = s := ⟨_, rfl⟩
          rw [hx] at q0 q1 q2 q3
          simp only at q0 q1 q2 q3
          have f0 := cell_kept q0 hb
          have f1 := cell_kept q1 hb
          have f2 := cell_kept q2 hb
          have f3 := cell_kept q3 hb
          have hxu : isRu ⟨x0, x1, x2, x3⟩ = true := by rw [← hx, getRu_lt hlt]; exact HRU.out _ (List.getElem_mem hlt)
          have hxb := isRu_iff.1 hxu
          simp only at hxb
          have htake := ends_take (r := r) hlt
          rw [hx] at htake
          obtain ⟨P, hP⟩ : ∃ P, (R.take k).map (endR r) = P := ⟨_, rfl⟩
          have hPl : P.length ≤ 8 := by rw [← hP, List.length_map, List.length_take]; omega
          rw [hP] at hO htake
          have HT := Lib.hid htake
          have HMr := Lib.hid (HM3.out.kept (grownBy_of_below hb none) (by simp))
          have hin : inI x1 := by unfold inI; omega
          have HKY := Lib.hid (key_day x1 hin)
          obtain ⟨hh, hat0⟩ := HL.out.day HR.out x1
          have hd1 := dayOf_top HR.out x1
          obtain ⟨d, hd⟩ : ∃ d, dayOf r x1 = d := ⟨_, rfl⟩
          rw [hd] at hh hat0 hd1
          have he : endR r ⟨x0, x1, x2, x3⟩ = if d < 0 then -1 else d + x2 := by unfold endR; simp only; rw [hd]
          have HE := Lib.hid he
          have HAT := Lib.hid hat0
          have g0 : (0 : Int) ≤ (k : Int) := by omega
          have g1 : (k : Int) < (R.length : Int) := by omega
          have hx2 := hxb.2.2.1
          clear q0 q1 q2 q3 hok e1 hx htake hP hxu hin hd he hat0 hxb
          by_cases hn : 0 ≤ d
          · have hh2 : Maps.has D (.int .i64 x1) = true := by rw [hh]; exact decide_eq_true hn
            have hw : IntKind.i64.wrap (d + x2) = d + x2 := Go.IntWalk.i64_in _ (by omega)
            have HV2 := Lib.hid (HAT.out hn)
            have HT2 : Hid ((R.take (k + 1)).map (endR r) = P ++ [d + x2]) := Lib.hid (by rw [HT.out, HE.out, if_neg (by omega)])
            clear hh
            go_wp2_with (first | (at_lookup; refine wpList_lookup_own_ok_int _ rfl _ _ 191 rfl 3 3 .i64 (int_keyed Try.underlying3) Try.underlying191 Try.underlying3 (zero_int _) mb (r.evs.length + 1) D rfl (HMr.out.alloc _) _ _ rfl HKY.out ?_; intro c hat hwc; rw [HV2.out] at hat; obtain rfl : d = c := (by simpa using hat); clear hat hwc; rw [hh2]) | (at_builtin; refine wpList_append_own _ rfl _ _ 33 rfl w3.heap.size 3 i0 (.int .i64 0) 1 8 Try.underlying33 hi hz0 hz1 hz2 rfl (by decide) _ _ _ rfl ((hO.alloc _).alloc _) ⟨wr.heap.size + 1, 0, none⟩ 1 1 [.int .i64 (d + x2)] rfl rfl (cell_oneI _ _ _ (by simp)) (by simp [Value.oneCell']) (by unfold maxLen; omega) (by omega) (by simp; omega) ?_; intro v' w4 hown' hgrow _))
            have HOWN := Lib.hid hown'
            have HB := Lib.hid (below_app (below_al hb _) (Nat.le_refl _) (hO.alloc _) hgrow)
            clear hown' hgrow hO
            go_wp2_with fail
            go_roundw
            case rel => exact ⟨k + 1, by omega, by go_num, (by rw [HT2.out]; simpa [vI] using HOWN.out), HB.out⟩
            case measure => simp [intOf]; omega
          · have hh2 : Maps.has D (.int .i64 x1) = false := by rw [hh]; exact decide_eq_false hn
            have HT2 : Hid ((R.take (k + 1)).map (endR r) = P ++ [-1]) := Lib.hid (by rw [HT.out, HE.out, if_pos (by omega)])
            clear hh
            go_wp2_with (first | (at_lookup; refine wpList_lookup_own_ok_int _ rfl _ _ 191 rfl 3 3 .i64 (int_keyed Try.underlying3) Try.underlying191 Try.underlying3 (zero_int _) mb (r.evs.length + 1) D rfl (HMr.out.alloc _) _ _ rfl HKY.out ?_; intro c hat hwc; clear hat hwc; rw [hh2]) | (at_builtin; refine wpList_append_own _ rfl _ _ 33 rfl w3.heap.size 3 i0 (.int .i64 0) 1 8 Try.underlying33 hi hz0 hz1 hz2 rfl (by decide) _ _ _ rfl ((hO.alloc _).alloc _) ⟨wr.heap.size + 1, 0, none⟩ 1 1 [.int .i64 (-1)] rfl rfl (cell_oneI _ _ _ (by simp)) (by simp [Value.oneCell']) (by unfold maxLen; omega) (by omega) (by simp; omega) ?_; intro v' w4 hown' hgrow _))
            have HOWN := Lib.hid hown'
            have HB := Lib.hid (below_app (below_al hb _) (Nat.le_refl _) (hO.alloc _) hgrow)
            clear hown' hgrow hO
            go_wp2_with fail
            go_roundw
            case rel => exact ⟨k + 1, by omega, by go_num, (by rw [HT2.out]; simpa [vI] using HOWN.out), HB.out⟩
            case measure => simp [intOf]; omega
        · obtain rfl : k = R.length := by omega
          rw [List.take_length] at hO
          have HO := Lib.hid hO
          clear hO
          have s3 := b3.size
          go_wp2_with fail
          go_ret3
          refine ⟨_, _, by rw [HA.out]; rfl, ?_, ?_, b3.trans (hb.mono s3)⟩
          · rw [HPR.out]; exact (HO3.out.below hb).wide (by simp) hsz
          · rw [HPE.out]; exact (ints_ofRow HO.out rfl).wide s3 (Nat.le_refl _)
end Go.Proofs.Ytkjpehpodlpdhaa

namespace Go.Proofs.Ytkjpehpodlpdhaa
set_option linter.unusedVariables false
open Go.RowKit Go.Sort

theorem wp_scope_forward {P : Program} {Q : Exit → Act → World → Prop} {a : Act} {w : World} {c : Code} (l : Nat) (rest : Code) (hf : findLabel c l = some rest)
    (first : c.wp P (Exit.jump l (fun a w => rest.wp P (Exit.noGoto Q) a w) Q) a w) : (Code.scope c).wp P Q a w :=
  wp_scope_jumps l (fun a w => rest.wp P (Exit.noGoto Q) a w) (fun _ _ => 0) hf first (fun a w hJ => wp_mono hJ (by
    intro e a w h
    cases e <;> first | exact h | exact h.elim))
theorem per_nil {r : Rec} {t : List Ru} (h : (perRules r t).length = 0) : setF r t = (ruD, 0, false) := by
  rcases ha : askB r t with _ | _
  · exact setF_no (.inl ha)
  · refine setF_no (.inr ?_)
    unfold perRules at h
    rw [if_pos ha] at h
    have hq := ask_iff.1 ha
    rcases Int.lt_or_le (dueF r t) 0 with h1 | h1
    · exact h1
    · exact absurd (List.length_eq_zero_iff.1 h) ((set_told hq.1 hq.2).1 h1).1
theorem per_open {r : Rec} {t : List Ru} (h : (-1 : Int) ∈ perEnds r t) : setF r t = (ruD, 0, false) := by
  rcases ha : askB r t with _ | _
  · exact setF_no (.inl ha)
  · refine setF_no (.inr ?_)
    unfold perEnds at h
    rw [if_pos ha] at h
    have hq := ask_iff.1 ha
    rcases Int.lt_or_le (dueF r t) 0 with h1 | h1
    · exact h1
    · exact absurd h ((set_told hq.1 hq.2).1 h1).2
theorem per_told {r : Rec} {t : List Ru} (h : (perRules r t).length ≠ 0) (h2 : ¬ (-1 : Int) ∈ perEnds r t) : askB r t = true ∧ perRules r t = forRu t r.series ∧ perEnds r t = endsF r t ∧ setF r t = (ruleF r t, dueF r t, true) := by
  rcases ha : askB r t with _ | _
  · unfold perRules at h; rw [if_neg (by rw [ha]; simp)] at h; simp at h
  · have hq := ask_iff.1 ha
    have e1 : perRules r t = forRu t r.series := by unfold perRules; rw [if_pos ha]
    have e2 : perEnds r t = endsF r t := by unfold perEnds; rw [if_pos ha]
    refine ⟨rfl, e1, e2, setF_yes ha ((set_told hq.1 hq.2).2 ⟨fun e => h (by rw [e1, e]; rfl), by rw [← e2]; exact h2⟩)⟩
theorem per_len (r : Rec) (t : List Ru) : (perEnds r t).length = (perRules r t).length := by
  unfold perEnds perRules
  split
  · unfold endsF; rw [List.length_map]
  · rfl
theorem per_le (r : Rec) (t : List Ru) : (perRules r t).length ≤ t.length := by
  unfold perRules
  split
  · exact forRu_len _ _
  · exact Nat.zero_le _
set_option maxRecDepth 20000 in
set_option maxHeartbeats 8000000 in
theorem settle_any (v v1 : Value) (r : Rec) (t : List Ru) (w : World) (h : RecV w v r) (h1 : RowR 4 rRu w v1 t) (hn : t.length ≤ 1048576) (q : Ru) (d : Int) (b : Bool) (hres : setF r t = (q, d, b)) :
    Calls Try.prog 108 #[v, v1] w fun e w' => e = .returned (.tuple #[.agg #[.int .i64 q.series, .int .i64 q.event, .int .i64 q.days, .int .i64 q.act], .int .i64 d, .bool b]) ∧ Below w.heap.size w w' := by
  obtain ⟨s, rfl, h0, hok⟩ := h
  have HV := Lib.hid (show ∀ W, Below w.heap.size w W → RecV W (.agg #[.int .i64 r.id, .int .i64 r.series, .int .i64 r.made, s]) r from fun W hb => ⟨s, rfl, h0.below rEv_stable hb, hok⟩)
  have H1 := Lib.hid h1
  have HRES := Lib.hid hres
  have hpl := per_len r t
  have hpe := per_le r t
  obtain ⟨R, hR⟩ : ∃ R, perRules r t = R := ⟨_, rfl⟩
  obtain ⟨E, hE⟩ : ∃ E, perEnds r t = E := ⟨_, rfl⟩
  rw [hR] at hpl hpe
  rw [hE] at hpl
  have HPL := Lib.hid hpl
  have HR := Lib.hid hR
  have HE := Lib.hid hE
  clear h0 hok h1 hres hR hE hpl
  have b0 := below_al (below_al (Below.refl w.heap.size w) (RBOX r s 38)) (.cells #[.int .i64 0, .int .i64 0, .int .i64 0, .int .i64 0] 125 (0, 0))
  have HX0 : Hid (UBox ((w.alloc (RBOX r s 38)).alloc (.cells #[.int .i64 0, .int .i64 0, .int .i64 0, .int .i64 0] 125 (0, 0))) (w.heap.size + 1) ruD) := Lib.hid (by rw [← (show (w.alloc (RBOX r s 38)).heap.size = w.heap.size + 1 by simp)]; exact UBox.new (w.alloc (RBOX r s 38)) ruD 125)
  by_cases hz : R.length = 0
  · have hz1 : ((R.length : Int) == 0) = true := by simp [hz]
    have hz2 : decide ((R.length : Int) = 0) = true := decide_eq_true (by omega)
    have hz3 : decide (R.length = 0) = true := decide_eq_true hz
    have hq := HRES.out
    rw [per_nil (by rw [HR.out]; exact hz)] at hq
    cases hq
    have HZ := Lib.hid hz
    clear hz
    go_enter Try.func108, Try.ntmps108
    go_wp2_with (first | (go_at_call 153; refine (periodsOf_any _ _ r t _ (HV.out _ b0) (H1.out.below rRu_stable b0) hn).mono ?_; rintro e w1 ⟨u1, u2, rfl, ho1, ho2, b1⟩; rw [HR.out] at ho1; rw [HE.out] at ho2; have HX1 := Lib.hid (HX0.out.kept b1); obtain ⟨z0, z1, z2, z3, y0, y1, y2, y3⟩ := HX1.out; simp only [ruD] at z0 z1 z2 z3; replace b1 := below_chain b0 b1; obtain ⟨a1, n1, c1, hu1⟩ := ho1.1.slice; obtain ⟨a1', c1', hv, hl1, hm1, r1⟩ := ho1.row.rus; subst hv; unfold maxLen at hm1; clear hu1 r1 ho1 ho2))
    refine bodyPost_ret (v := .tuple #[.agg #[.int .i64 0, .int .i64 0, .int .i64 0, .int .i64 0], .int .i64 0, .bool false]) (by simp [results, Try.results108, go_sem, z0, z1, z2, z3]) rfl ⟨rfl, ?_⟩
    exact below_putU b1 (by omega) ruD
  · have hz1 : ((R.length : Int) == 0) = false := by simp [hz]
    have hz2 : decide ((R.length : Int) = 0) = false := decide_eq_false (by omega)
    have hz3 : decide (R.length = 0) = false := decide_eq_false hz
    have HZ := Lib.hid hz
    have hpos : (0 : Int) < (R.length : Int) := by omega
    clear hz
    by_cases ho : (-1 : Int) ∈ E
    · have hq := HRES.out
      rw [per_open (by rw [HE.out]; exact ho)] at hq
      cases hq
      have HO := Lib.hid (decide_eq_true ho)
      clear ho
      go_enter Try.func108, Try.ntmps108
      go_wp2_with (first | (go_at_call 153; refine (periodsOf_any _ _ r t _ (HV.out _ b0) (H1.out.below rRu_stable b0) hn).mono ?_; rintro e w1 ⟨u1, u2, rfl, ho1, ho2, b1⟩; rw [HR.out] at ho1; rw [HE.out] at ho2; have HX1 := Lib.hid (HX0.out.kept b1); replace b1 := below_chain b0 b1; obtain ⟨a1', c1', hv, hl1, hm1, r1⟩ := ho1.row.rus; subst hv; unfold maxLen at hm1; have HO2 := Lib.hid ho2; clear r1 ho1 ho2) | (go_at_call 154; refine (contains_any _ E _ _ HO2.out.row).mono ?_; rw [HO.out]; rintro e w2 ⟨rfl, b2⟩; have HX2 := Lib.hid (HX1.out.kept b2); obtain ⟨z0, z1, z2, z3, y0, y1, y2, y3⟩ := HX2.out; simp only [ruD] at z0 z1 z2 z3; replace b2 := below_chain b1 b2))
      refine bodyPost_ret (v := .tuple #[.agg #[.int .i64 0, .int .i64 0, .int .i64 0, .int .i64 0], .int .i64 0, .bool false]) (by simp [results, Try.results108, go_sem, z0, z1, z2, z3]) rfl ⟨rfl, ?_⟩
      exact below_putU b2 (by omega) ruD
    · obtain ⟨ha, hRf, hEf, hset⟩ := per_told (by rw [HR.out]; exact HZ.out) (by rw [HE.out]; exact ho)
      rw [HR.out] at hRf
      rw [HE.out] at hEf
      have hq := HRES.out
      rw [hset] at hq
      cases hq
      have HO := Lib.hid (decide_eq_false ho)
      have hask := ask_iff.1 ha
      have hshut : ∀ u ∈ R, 0 ≤ endR r u := fun u hu => by
        rcases Int.lt_or_le (endR r u) 0 with hlt | hlt
        · exact absurd (by rw [hEf]; exact (open_mem hask.1 hask.2).2 ⟨u, by rw [← hRf]; exact hu, hlt⟩) ho
        · exact hlt
      have HSH := Lib.hid hshut
      have HEM := Lib.hid (show E = R.map (endR r) by rw [hEf, hRf]; rfl)
      have hdec : decR r R = (ruleF r t, dueF r t) := by rw [hRf]; rfl
      have HRU := Lib.hid (show ∀ u ∈ R, isRu u = true by rw [hRf]; exact forRu_ok hask.2 r.series)
      have HDEC := Lib.hid hdec
      obtain ⟨Q1, hQ1⟩ : ∃ x, ruleF r t = x := ⟨_, rfl⟩
      obtain ⟨D1, hD1⟩ : ∃ x, dueF r t = x := ⟨_, rfl⟩
      rw [hQ1, hD1] at HDEC ⊢
      clear ho hRf hEf hset ha hask hshut hdec hQ1 hD1
      go_enter Try.func108, Try.ntmps108
      go_wp2_with (first | (go_at_call 153; refine (periodsOf_any _ _ r t _ (HV.out _ b0) (H1.out.below rRu_stable b0) hn).mono ?_; rintro e w1 ⟨u1, u2, rfl, ho1, ho2, b1⟩; rw [HR.out] at ho1; rw [HE.out] at ho2; have HX1 := Lib.hid (HX0.out.kept b1); replace b1 := below_chain b0 b1; obtain ⟨a1', c1', hv, hl1, hm1, r1⟩ := ho1.row.rus; subst hv; unfold maxLen at hm1; have HO1 := Lib.hid ho1; have HO2 := Lib.hid ho2; obtain ⟨a2, c2, hv2, hl2, hm2, r2⟩ := ho2.row; subst hv2; rw [HPL.out] at hl2; unfold maxLen at hm2; clear r1 r2 ho1 ho2) | (go_at_call 154; refine (contains_any _ E _ _ HO2.out.row).mono ?_; rw [HO.out]; rintro e w2 ⟨rfl, b2⟩; have HX2 := Lib.hid (HX1.out.kept b2); have hx2 := HO1.out.row.below rRu_stable b2; have hy2 := (HO2.out.below b2).row; replace b2 := below_chain b1 b2))
      have hEl : E.length = R.length := HPL.out
      have hR0 : 0 < R.length := by omega
      have hE0 : 0 < E.length := by omega
      obtain ⟨_, _, hva, _, _, rA⟩ := hx2.rus
      cases hva
      obtain ⟨bR, oR, hbR, rfl, eR⟩ := rA.resolve_left (fun e => by rw [e] at hR0; simp at hR0)
      obtain ⟨_, _, hvb, _, _, rB⟩ := hy2
      cases hvb
      obtain ⟨bE, oE, hbE, rfl, eE⟩ := rB.resolve_left (fun e => by rw [e] at hE0; simp at hE0)
      have ER := Lib.hid eR
      have EE := Lib.hid eE
      obtain ⟨q0, q1, q2, q3, hok0⟩ := eR 0 hR0
      obtain ⟨⟨x0, x1, x2, x3⟩, hx⟩ : ∃ s, R.getD 0 ruD = s := ⟨_, rfl⟩
      rw [hx] at q0 q1 q2 q3
      have p0 := eE 0 hE0
      obtain ⟨d0, hd0⟩ : ∃ x, E[0] = x := ⟨_, rfl⟩
      rw [hd0] at p0
      simp only [vI, Nat.zero_mul, Nat.add_zero] at q0 q1 q2 q3 p0
      have HXX := Lib.hid hx
      have HD0 := Lib.hid hd0
      have ge : (0 : Int) < (E.length : Int) := by omega
      clear hEl eR eE rA rB hx2 hok0 hx hd0 HO1 HO2 HX1 b1 b0 HX0
      have hd00 : d0 = endR r ⟨x0, x1, x2, x3⟩ := by
        have e1 : E[0]? = some d0 := by rw [List.getElem?_eq_getElem hE0, HD0.out]
        rw [HEM.out, List.getElem?_map, List.getElem?_eq_getElem hR0, ← getRu_lt hR0, HXX.out] at e1
        simpa using e1.symm
      have HF0 : Hid (decF r (R.drop 0) ⟨x0, x1, x2, x3⟩ d0 = (Q1, D1)) := Lib.hid (by
        have e2 := drop_ru hR0
        rw [HXX.out] at e2
        have e3 : R = ⟨x0, x1, x2, x3⟩ :: R.drop 1 := by simpa using e2
        rw [hd00, ← HDEC.out]
        conv => rhs; rw [e3]
        rw [dec_head (by rw [← e3]; intro u hu; have := HSH.out u hu; omega), ← e3, List.drop_zero])
      clear hd00
      go_region
      go_wp2_with fail
      go_loopw [11, 37] (fun due i wr => ∃ (k : Nat) (b : Ru) (dd : Int), k ≤ R.length ∧ i = .int .i64 k ∧ due = .int .i64 dd ∧ Hid (decF r (R.drop k) b dd = (Q1, D1)) ∧ Hid (UBox wr w2.heap.size b) ∧ Below w2.heap.size w2 wr) (fun _ i _ => R.length - (intOf i).toNat)
      case atStart => exact ⟨0, ⟨x0, x1, x2, x3⟩, d0, Nat.zero_le _, rfl, rfl, HF0, Lib.hid ((UBox.new w2 ⟨x0, x1, x2, x3⟩ _).drew), (below_al (Below.refl _ _) _).drew⟩
      case round =>
        clear HF0 q0 q1 q2 q3 p0
        obtain ⟨k, b, dd, hk, rfl, rfl, HF, HB, hb⟩ := hrel
        have bw := b2.trans (hb.mono b2.size)
        have HX := Lib.hid (HX2.out.kept hb)
        have hgl := HB.out.lt
        by_cases hlt : k < R.length
        · have hlE : k < E.length := by have := HPL.out; omega
          obtain ⟨q0, q1, q2, q3, hok⟩ := ER.out k hlt
          obtain ⟨⟨z0, z1, z2, z3⟩, hx⟩ : ∃ s, R.getD k ruD = s := ⟨_, rfl⟩
          rw [hx] at q0 q1 q2 q3
          have p0 := EE.out k hlE
          obtain ⟨e, he⟩ : ∃ x, E[k] = x := ⟨_, rfl⟩
          rw [he] at p0
          simp only [vI] at q0 q1 q2 q3 p0
          have hee : e = endR r ⟨z0, z1, z2, z3⟩ := by
            have e1 : E[k]? = some e := by rw [List.getElem?_eq_getElem hlE, he]
            rw [HEM.out, List.getElem?_map, List.getElem?_eq_getElem hlt, ← getRu_lt hlt, hx] at e1
            simpa using e1.symm
          have hns : ¬ endR r ⟨z0, z1, z2, z3⟩ < 0 := by rw [← hx, getRu_lt hlt]; have := HSH.out _ (List.getElem_mem hlt); omega
          have hdrop := drop_ru hlt
          rw [hx] at hdrop
          have hcons : (if dd < e ∨ (e = dd ∧ z3 < b.act) then decF r (R.drop (k + 1)) ⟨z0, z1, z2, z3⟩ e else decF r (R.drop (k + 1)) b dd) = (Q1, D1) := by
            rw [hee, ← decF_cons hns, ← hdrop]; exact HF.out
          have HCO := Lib.hid hcons
          have f0 := cell_kept q0 hb
          have f1 := cell_kept q1 hb
          have f2 := cell_kept q2 hb
          have f3 := cell_kept q3 hb
          have e0 := cell_kept p0 hb
          have g0 : (0 : Int) ≤ (k : Int) := by omega
          have g1 : (k : Int) < (R.length : Int) := by omega
          have g2 : (k : Int) < (E.length : Int) := by omega
          obtain ⟨b0, b1', b2', b3⟩ := b
          clear q0 q1 q2 q3 p0 hok hx he hee hns hdrop hcons HF
          go_wp2_with fail
          generalize hWE : wr.alloc (.cells #[.int .i64 z0, .int .i64 z1, .int .i64 z2, .int .i64 z3] 125 (0, 0)) = wE
          have bE : Below wr.heap.size wr wE := by rw [← hWE]; exact below_al (Below.refl _ _) _
          have HU : Hid (UBox wE wr.heap.size ⟨z0, z1, z2, z3⟩) := Lib.hid (by rw [← hWE]; exact UBox.new wr ⟨z0, z1, z2, z3⟩ _)
          have e0' := cell_kept e0 bE
          have HB' := Lib.hid (HB.out.kept bE)
          have bg := hb.trans (bE.mono hb.size)
          have hne : wr.heap.size ≠ w2.heap.size := by omega
          clear hWE e0 f0 f1 f2 f3 HX HB
          obtain ⟨c0, c1, c2', c3, y0, y1, y2, y3⟩ := HB'.out
          obtain ⟨u0, u1, u2, u3, t0, t1, t2, t3⟩ := HU.out
          simp only at c0 c1 c2' c3 u0 u1 u2 u3
          clear t0 t1 t2 t3
          by_cases h1 : dd < e
          · have HZ := Lib.hid HCO.out
            rw [if_pos (.inl h1)] at HZ
            refine wp_scope_forward 0 _ rfl ?_
            go_wp2_with fail
            apply wp_goto
            refine And.intro (a := 0 = 0) rfl ?_
            show Code.wp _ _ _ _ _
            go_wp2_with fail
            go_region
            rw [Exit.noGoto_normal]
            go_wp2_with fail
            go_roundw
            case rel => exact ⟨k + 1, ⟨z0, z1, z2, z3⟩, e, by omega, by go_num, rfl, HZ, Lib.hid ((HB'.out.put ⟨z0, z1, z2, z3⟩).drew), (below_putU bg (Nat.le_refl _) ⟨z0, z1, z2, z3⟩).drew⟩
            case measure => simp [intOf]; omega
          · by_cases h2 : e < dd
            · have h2d : decide (e < dd) = true := decide_eq_true h2
              have HZ := Lib.hid HCO.out
              rw [if_neg (by rintro (q | ⟨q, _⟩) <;> omega)] at HZ
              go_step3
              go_wp2_with fail
              try rw [Exit.noGoto_exit]
              go_wp2_with fail
              go_roundw
              case rel => exact ⟨k + 1, ⟨b0, b1', b2', b3⟩, dd, by omega, by go_num, rfl, HZ, HB', bg⟩
              case measure => simp [intOf]; omega
            · have h2d : decide (e < dd) = false := decide_eq_false h2
              by_cases h3 : z3 < b3
              · have h3d : decide (b3 ≤ z3) = false := decide_eq_false (by omega)
                have HZ := Lib.hid HCO.out
                rw [if_pos (.inr ⟨by omega, h3⟩)] at HZ
                go_step3
                go_wp2_with fail
                go_step3
                go_wp2_with fail
                go_region
                rw [Exit.noGoto_normal]
                go_wp2_with fail
                go_roundw
                case rel => exact ⟨k + 1, ⟨z0, z1, z2, z3⟩, e, by omega, by go_num, rfl, HZ, Lib.hid ((HB'.out.put ⟨z0, z1, z2, z3⟩).drew), (below_putU bg (Nat.le_refl _) ⟨z0, z1, z2, z3⟩).drew⟩
                case measure => simp [intOf]; omega
              · have h3d : decide (b3 ≤ z3) = true := decide_eq_true (by omega)
                have HZ := Lib.hid HCO.out
                rw [if_neg (by rintro (q | ⟨_, q⟩); · omega
                               · exact h3 q)] at HZ
                go_step3
                go_wp2_with fail
                try rw [Exit.noGoto_exit]
                go_wp2_with fail
                go_roundw
                case rel => exact ⟨k + 1, ⟨b0, b1', b2', b3⟩, dd, by omega, by go_num, rfl, HZ, HB', bg⟩
                case measure => simp [intOf]; omega
        · obtain rfl : k = R.length := by omega
          have hfin := HF.out
          rw [List.drop_length] at hfin
          obtain ⟨rfl, rfl⟩ := Prod.mk.inj (show (b, dd) = (Q1, D1) from hfin)
          obtain ⟨b0, b1', b2', b3⟩ := b
          obtain ⟨p0, p1, p2, p3, y0, y1, y2, y3⟩ := HB.out
          obtain ⟨z0, z1, z2, z3, u0, u1, u2, u3⟩ := HX.out
          simp only [ruD] at z0 z1 z2 z3 p0 p1 p2 p3 ⊢
          have hXl := HX2.out.lt
          have hne : w2.heap.size ≠ w.heap.size + 1 := by omega
          clear hfin
          go_wp2_with fail
          refine bodyPost_ret (v := .tuple #[.agg #[.int .i64 b0, .int .i64 b1', .int .i64 b2', .int .i64 b3], .int .i64 dd, .bool true]) (by simp [results, Try.results108, go_sem, z0, z1, z2, z3]) rfl ⟨rfl, ?_⟩
          exact below_putU bw (by omega) ⟨b0, b1', b2', b3⟩
end Go.Proofs.Ytkjpehpodlpdhaa

namespace Go.Proofs.Ytkjpehpodlpdhaa
set_option linter.unusedVariables false
open Go.RowKit Go.Sort

theorem cell1_new (w : World) (v : Value) (t : TypeId) {k : Nat} (hk : k = w.heap.size) : ∀ j u, [v][j]? = some u → (w.alloc (.cells #[v] t (0, 0))).cell? ((⟨k, 0, none⟩ : Addr).add j) = some u := by
  subst hk
  intro j u hj
  rw [Addr.add_lit]
  match j, hj with
  | 0, h => cases h; exact cell_new w _ _ 0 rfl
theorem serF_iff {t : List Ru} {x : Int} : x ∈ serF t ↔ ∃ r ∈ t, r.series = x := by
  refine ⟨serF_mem, ?_⟩
  have key : ∀ (t : List Ru) (o : List Int), (x ∈ o ∨ ∃ r ∈ t, r.series = x) → x ∈ (t.foldl (fun o r => if r.series ∈ o then o else o ++ [r.series]) o) := by
    intro t
    induction t with
    | nil => intro o h; simpa using h
    | cons r l ih =>
      intro o h
      rw [List.foldl_cons]
      refine ih _ ?_
      rcases h with h | ⟨q, hq, e⟩
      · left; split
        · exact h
        · exact List.mem_append_left _ h
      · rcases List.mem_cons.1 hq with h1 | h1
        · subst h1; left; split
          · rename_i hm; rw [← e]; exact hm
          · rw [← e]; simp
        · exact .inr ⟨q, h1, e⟩
  intro h
  exact key t [] (.inr h)
theorem ser_le {t : List Ru} (h : isSch t = true) {i j : Nat} (hij : i ≤ j) (hj : j < t.length) : (t.getD i ruD).series ≤ (t.getD j ruD).series := by
  rcases Nat.lt_or_eq_of_le hij with h' | h'
  · have := sch_bef h h' hj
    rw [bef_iff] at this
    omega
  · subst h'; exact Int.le_refl _
theorem ser_compact {t : List Ru} (h : isSch t = true) : Lib.compact (t.map (·.series)) = serF t := by
  have hk : ∀ k, k ≤ t.length → Lib.compactUpTo (t.map (·.series)).toArray k = serF (t.take k) := by
    intro k
    induction k with
    | zero => intro _; simp [Lib.compactUpTo, serF]
    | succ k ih =>
      intro hk
      have hlt : k < t.length := by omega
      have g : ∀ j, j < t.length → (t.map (·.series)).toArray[j]! = (t.getD j ruD).series := fun j hj => by
        rw [getElem!_pos _ j (by simpa using hj), getRu_lt hj]; simp
      rw [Lib.compactUpTo_succ, ih (by omega), serF_succ hlt, g k hlt]
      by_cases hm : (t.getD k ruD).series ∈ serF (t.take k)
      · rw [if_pos hm]
        obtain ⟨r, hr, e⟩ := serF_iff.1 hm
        rw [List.mem_take_iff_getElem] at hr
        obtain ⟨i, hi, rfl⟩ := hr
        have h1 := ser_le h (i := i) (j := k - 1) (by omega) (by omega)
        have h2 := ser_le h (i := k - 1) (j := k) (by omega) hlt
        rw [getRu_lt (show i < t.length by omega)] at h1
        have hkn : Lib.keeps (t.map (·.series)).toArray k = false := Lib.keeps_neg (by omega) (by rw [g k hlt, g (k - 1) (by omega)]; omega)
        rw [hkn]; simp
      · rw [if_neg hm]
        have hkn : Lib.keeps (t.map (·.series)).toArray k = true := by
          rcases Nat.eq_zero_or_pos k with h0 | h0
          · subst h0; exact Lib.keeps_lt_one _ 0 (by omega)
          · refine Lib.keeps_pos ?_
            rw [g k hlt, g (k - 1) (by omega)]
            intro e
            refine hm (serF_iff.2 ⟨t.getD (k - 1) ruD, ?_, e.symm⟩)
            rw [getRu_lt (by omega), List.mem_take_iff_getElem]
            exact ⟨k - 1, by omega, rfl⟩
        rw [hkn]; simp
  have := hk t.length (Nat.le_refl _)
  rw [List.take_length] at this
  unfold Lib.compact
  rw [← this]; simp
theorem sinRes_no {t : List Ru} {xs : List Int} {b : Bool} (h : sinRes t = (xs, b)) (hn : isSch t = false) : xs = [] ∧ b = false := by
  unfold sinRes at h
  rw [if_neg (by rw [hn]; simp)] at h
  obtain ⟨h1, h2⟩ := Prod.mk.inj h
  exact ⟨h1.symm, h2.symm⟩
theorem sinRes_yes {t : List Ru} {xs : List Int} {b : Bool} (h : sinRes t = (xs, b)) (hn : isSch t = true) : xs = serF t ∧ b = true := by
  unfold sinRes at h
  rw [if_pos hn] at h
  obtain ⟨h1, h2⟩ := Prod.mk.inj h
  exact ⟨h1.symm, h2.symm⟩
theorem IntsO.of_row {lo n : Nat} {w : World} {v : Value} {xs : List Int} (h : w.ownsRow lo 3 1 v n (xs.map vI)) (hn : n = xs.length) : IntsO lo w.heap.size w v xs := ⟨by rw [← hn]; exact h, fun g hg => (h.lt g hg).2⟩


end Go.Proofs.Ytkjpehpodlpdhaa

namespace Go.Proofs.Ytkjpehpodlpdhaa
set_option linter.unusedVariables false
open Go.RowKit Go.Sort


theorem implDueDay_any (v v1 : Value) (r : Rec) (t : List Ru) (w : World) (h : RecV w v r) (h1 : RowR 4 rRu w v1 t) (hn : t.length ≤ 1048576) (d : Int) (b : Bool) (hres : dueRes r t = (d, b)) :
    Calls Try.prog 140 #[v, v1] w fun e w' => e = .returned (.tuple #[.int .i64 d, .bool b]) ∧ Below w.heap.size w w' := by
  obtain ⟨s, rfl, h0, hok⟩ := h
  have HV := Lib.hid (show ∀ W, Below w.heap.size w W → RecV W (.agg #[.int .i64 r.id, .int .i64 r.series, .int .i64 r.made, s]) r from fun W hb => ⟨s, rfl, h0.below rEv_stable hb, hok⟩)
  have H1 := Lib.hid h1
  have b0 := below_al (Below.refl w.heap.size w) (RBOX r s 38)
  obtain ⟨q, d', b', hs⟩ : ∃ q d' b', setF r t = (q, d', b') := ⟨_, _, _, rfl⟩
  unfold dueRes at hres
  rw [hs] at hres
  obtain ⟨rfl, rfl⟩ := Prod.mk.inj hres
  have HS := Lib.hid hs
  clear h0 hok h1 hres hs
  go_enter Try.func140, Try.ntmps140
  go_wp2_with (first | (go_at_call 108; refine (settle_any _ _ r t _ (HV.out _ b0) (H1.out.below rRu_stable b0) hn q d' b' HS.out).mono ?_; rintro e w1 ⟨rfl, b1⟩; replace b1 := below_chain b0 b1))
  go_ret2
  exact ⟨rfl, below_al b1 _⟩

theorem implDecidingRule_any (v v1 : Value) (r : Rec) (t : List Ru) (w : World) (h : RecV w v r) (h1 : RowR 4 rRu w v1 t) (hn : t.length ≤ 1048576) (q : Ru) (b : Bool) (hres : decRes r t = (q, b)) :
    Calls Try.prog 106 #[v, v1] w fun e w' => e = .returned (.tuple #[.agg #[.int .i64 q.series, .int .i64 q.event, .int .i64 q.days, .int .i64 q.act], .bool b]) ∧ Below w.heap.size w w' := by
  obtain ⟨s, rfl, h0, hok⟩ := h
  have HV := Lib.hid (show ∀ W, Below w.heap.size w W → RecV W (.agg #[.int .i64 r.id, .int .i64 r.series, .int .i64 r.made, s]) r from fun W hb => ⟨s, rfl, h0.below rEv_stable hb, hok⟩)
  have H1 := Lib.hid h1
  have b0 := below_al (Below.refl w.heap.size w) (RBOX r s 38)
  obtain ⟨q', d', b', hs⟩ : ∃ q d' b', setF r t = (q, d', b') := ⟨_, _, _, rfl⟩
  unfold decRes at hres
  rw [hs] at hres
  obtain ⟨rfl, rfl⟩ := Prod.mk.inj hres
  have HS := Lib.hid hs
  replace b0 := below_al b0 (.cells #[.int .i64 0, .int .i64 0, .int .i64 0, .int .i64 0] 125 (0, 0))
  have HX0 : Hid (UBox ((w.alloc (RBOX r s 38)).alloc (.cells #[.int .i64 0, .int .i64 0, .int .i64 0, .int .i64 0] 125 (0, 0))) (w.heap.size + 1) ruD) := Lib.hid (by rw [← (show (w.alloc (RBOX r s 38)).heap.size = w.heap.size + 1 by simp)]; exact UBox.new (w.alloc (RBOX r s 38)) ruD 125)
  clear h0 hok h1 hres hs
  obtain ⟨x0, x1, x2, x3⟩ := q'
  go_enter Try.func106, Try.ntmps106
  go_wp2_with (first | (go_at_call 108; refine (settle_any _ _ r t _ (HV.out _ b0) (H1.out.below rRu_stable b0) hn _ d' b' HS.out).mono ?_; rintro e w1 ⟨rfl, b1⟩; have HX1 := Lib.hid ((HX0.out.kept b1).al (.cells #[.int .i64 x0, .int .i64 x1, .int .i64 x2, .int .i64 x3] 125 (0, 0))); obtain ⟨z0, z1, z2, z3, y0, y1, y2, y3⟩ := HX1.out; simp only [ruD] at z0 z1 z2 z3; replace b1 := below_chain b0 b1; simp only))
  refine bodyPost_ret (v := .tuple #[.agg #[.int .i64 x0, .int .i64 x1, .int .i64 x2, .int .i64 x3], .bool b']) (by simp [results, Try.results106 , go_sem, z0, z1, z2, z3]) rfl ⟨rfl, ?_⟩
  exact below_putU (below_al b1 _) (by omega) ⟨x0, x1, x2, x3⟩

set_option maxRecDepth 20000 in
set_option maxHeartbeats 2000000 in
theorem implIsDue_any (v v1 : Value) (r : Rec) (t : List Ru) (dy : Int) (w : World) (h : RecV w v r) (h1 : RowR 4 rRu w v1 t) (hn : t.length ≤ 1048576) (a b : Bool) (hres : isdRes r t dy = (a, b)) :
    Calls Try.prog 70 #[v, v1, .int .i64 dy] w fun e w' => e = .returned (.tuple #[.bool a, .bool b]) ∧ Below w.heap.size w w' := by
  obtain ⟨s, rfl, h0, hok⟩ := h
  have HV := Lib.hid (show ∀ W, Below w.heap.size w W → RecV W (.agg #[.int .i64 r.id, .int .i64 r.series, .int .i64 r.made, s]) r from fun W hb => ⟨s, rfl, h0.below rEv_stable hb, hok⟩)
  have H1 := Lib.hid h1
  have b0 := below_al (Below.refl w.heap.size w) (RBOX r s 38)
  have HC0 := Lib.hid (Box4.new w r s 38)
  obtain ⟨br, hr⟩ : ∃ b, isRec r = b := ⟨_, rfl⟩
  obtain ⟨bs, hs⟩ : ∃ b, isSch t = b := ⟨_, rfl⟩
  obtain ⟨bd, hd⟩ : ∃ b, decide (0 ≤ dy ∧ dy ≤ 20000) = b := ⟨_, rfl⟩
  have HR := Lib.hid hr
  have HS := Lib.hid hs
  have HD := Lib.hid hd
  have HRES := Lib.hid hres
  clear h0 hok h1 hres hr hs hd
  have NO : ¬ (askB r t = true ∧ (0 ≤ dy ∧ dy ≤ 20000)) → a = false ∧ b = false := fun hn => by
    have := HRES.out
    unfold isdRes at this
    rw [if_neg hn] at this
    obtain ⟨h1, h2⟩ := Prod.mk.inj this
    exact ⟨h1.symm, h2.symm⟩
  have NO := Lib.hid NO
  cases br
  · obtain ⟨rfl, rfl⟩ := NO.out (fun h => by have := ask_iff.1 h.1; rw [HR.out] at this; exact absurd this.1 (by simp))
    go_enter Try.func70, Try.ntmps70
    go_wp2_with (first | (go_at_call 85; refine (implIsRecord_any _ r _ (HV.out _ b0)).mono ?_; rw [HR.out]; rintro e w1 ⟨rfl, b1⟩; replace b1 := below_chain b0 b1))
    go_ret2
    exact ⟨rfl, b1⟩
  · cases bs
    · obtain ⟨rfl, rfl⟩ := NO.out (fun h => by have := ask_iff.1 h.1; rw [HS.out] at this; exact absurd this.2 (by simp))
      go_enter Try.func70, Try.ntmps70
      go_wp2_with (first | (go_at_call 85; refine (implIsRecord_any _ r _ (HV.out _ b0)).mono ?_; rw [HR.out]; rintro e w1 ⟨rfl, b1⟩; replace b1 := below_chain b0 b1) | (go_at_call 131; refine (implIsSchedule_any _ t _ (H1.out.below rRu_stable b1)).mono ?_; rw [HS.out]; rintro e w2 ⟨rfl, b2⟩; replace b2 := below_chain b1 b2))
      go_ret2
      exact ⟨rfl, b2⟩
    · cases bd
      · obtain ⟨rfl, rfl⟩ := NO.out (fun h => of_decide_eq_false HD.out h.2)
        go_enter Try.func70, Try.ntmps70
        go_wp2_with (first | (go_at_call 85; refine (implIsRecord_any _ r _ (HV.out _ b0)).mono ?_; rw [HR.out]; rintro e w1 ⟨rfl, b1⟩; replace b1 := below_chain b0 b1) | (go_at_call 131; refine (implIsSchedule_any _ t _ (H1.out.below rRu_stable b1)).mono ?_; rw [HS.out]; rintro e w2 ⟨rfl, b2⟩; replace b2 := below_chain b1 b2) | (go_at_call 79; refine (isDay_any _ _).mono ?_; rw [HD.out]; rintro e w3 ⟨rfl, rfl⟩))
        go_ret2
        exact ⟨rfl, b2⟩
      · have hask : askB r t = true := ask_iff.2 ⟨HR.out, HS.out⟩
        have hq := HRES.out
        unfold isdRes at hq
        rw [if_pos ⟨hask, of_decide_eq_true HD.out⟩] at hq
        obtain ⟨hqa, rfl⟩ := Prod.mk.inj hq
        obtain ⟨n, k, hdr⟩ : ∃ n k, dueRes r t = (n, k) := ⟨_, _, rfl⟩
        have hA : a = (k && decide (n ≤ dy)) := by
          rw [← hqa]
          unfold dueRes at hdr
          rcases Int.lt_or_le (dueF r t) 0 with hl | hl
          · rw [setF_no (.inr hl)] at hdr
            obtain ⟨rfl, rfl⟩ := Prod.mk.inj hdr
            simp; omega
          · rw [setF_yes hask hl] at hdr
            obtain ⟨rfl, rfl⟩ := Prod.mk.inj hdr
            simp [hl]
        subst hA
        have HDR := Lib.hid hdr
        clear hq hqa hask hdr NO HRES
        have hc := HC0.out
        cases k
        · go_enter Try.func70, Try.ntmps70
          go_wp2_with (first | (go_at_call 85; refine (implIsRecord_any _ r _ (HV.out _ b0)).mono ?_; rw [HR.out]; rintro e w1 ⟨rfl, b1⟩; have HC1 := Lib.hid (HC0.out.kept b1); replace b1 := below_chain b0 b1) | (go_at_call 131; refine (implIsSchedule_any _ t _ (H1.out.below rRu_stable b1)).mono ?_; rw [HS.out]; rintro e w2 ⟨rfl, b2⟩; obtain ⟨c0, c1, c2, c3⟩ := HC1.out.kept b2; replace b2 := below_chain b1 b2) | (go_at_call 79; refine (isDay_any _ _).mono ?_; rw [HD.out]; rintro e w3 ⟨rfl, rfl⟩) | (go_at_call 140; refine (implDueDay_any _ _ r t _ (HV.out _ b2) (H1.out.below rRu_stable b2) hn n false HDR.out).mono ?_; rintro e w4 ⟨rfl, b4⟩; replace b4 := below_chain b2 b4))
          go_ret2
          exact ⟨rfl, b4⟩
        · go_enter Try.func70, Try.ntmps70
          go_wp2_with (first | (go_at_call 85; refine (implIsRecord_any _ r _ (HV.out _ b0)).mono ?_; rw [HR.out]; rintro e w1 ⟨rfl, b1⟩; have HC1 := Lib.hid (HC0.out.kept b1); replace b1 := below_chain b0 b1) | (go_at_call 131; refine (implIsSchedule_any _ t _ (H1.out.below rRu_stable b1)).mono ?_; rw [HS.out]; rintro e w2 ⟨rfl, b2⟩; obtain ⟨c0, c1, c2, c3⟩ := HC1.out.kept b2; replace b2 := below_chain b1 b2) | (go_at_call 79; refine (isDay_any _ _).mono ?_; rw [HD.out]; rintro e w3 ⟨rfl, rfl⟩) | (go_at_call 140; refine (implDueDay_any _ _ r t _ (HV.out _ b2) (H1.out.below rRu_stable b2) hn n true HDR.out).mono ?_; rintro e w4 ⟨rfl, b4⟩; replace b4 := below_chain b2 b4))
          go_ret2
          exact ⟨by simp, b4⟩


theorem perEnds_map (r : Rec) (t : List Ru) : perEnds r t = (perRules r t).map (endR r) := by
  unfold perEnds perRules
  split
  · rfl
  · rfl
theorem per_sign {r : Rec} {t : List Ru} : ∀ u ∈ perRules r t, (endR r u = -1 ↔ endR r u < 0) := by
  intro u hu
  rcases ha : askB r t with _ | _
  · unfold perRules at hu; rw [if_neg (by rw [ha]; simp)] at hu; cases hu
  · have hq := ask_iff.1 ha
    unfold perRules at hu
    rw [if_pos ha] at hu
    exact endR_eq hq.1 (forRu_ok hq.2 _ u hu)

theorem hit_set {r : Rec} {t : List Ru} {d a : Int} {q : Ru} {n : Int} {b : Bool} (ha : askB r t = true) (h : setF r t = (q, n, b)) : hitB t d a r = (b && (decide (n ≤ d) && decide (q.act = a))) := by
  unfold hitB
  rcases Int.lt_or_le (dueF r t) 0 with h1 | h1
  · rw [setF_no (.inr h1)] at h
    cases h
    simp; omega
  · rw [setF_yes ha h1] at h
    cases h
    rw [Bool.eq_iff_iff]
    simp [h1]
    constructor
    · rintro ⟨x, y⟩; exact ⟨y, x⟩
    · rintro ⟨x, y⟩; exact ⟨y, x⟩

theorem none_iff {t : List Ru} {r : Rec} : noneB t r = decide (¬ r.series ∈ serF t) := by
  unfold noneB
  apply decide_eq_decide.2
  rw [serF_iff, List.length_eq_zero_iff]
  unfold forRu
  rw [List.filter_eq_nil_iff]
  constructor
  · rintro h ⟨u, hu, e⟩; exact h u hu (by simp [e])
  · intro h u hu e; exact h ⟨u, hu, by simpa using e⟩

end Go.Proofs.Ytkjpehpodlpdhaa

namespace Go.Proofs.Ytkjpehpodlpdhaa
set_option linter.unusedVariables false
open Go.RowKit Go.Sort

set_option maxRecDepth 20000 in
set_option maxHeartbeats 4000000 in
theorem implMayDestroy_any (v v1 v2 : Value) (t : List Ho) (r : Rec) (u : List Ru) (d : Int) (w : World) (h : RowR 6 rHo w v t) (h1 : RecV w v1 r) (h2 : RowR 4 rRu w v2 u) (hn : u.length ≤ 1048576) (a b : Bool) (hres : mayRes t r u d = (a, b)) :
    Calls Try.prog 44 #[v, v1, v2, .int .i64 d] w fun e w' => e = .returned (.tuple #[.bool a, .bool b]) ∧ Below w.heap.size w w' := by
  obtain ⟨s, rfl, hr, hok⟩ := h1
  obtain ⟨y0, y1, y2, y3⟩ := r
  simp only at hr ⊢
  have HV := Lib.hid (show ∀ W, Below w.heap.size w W → RecV W (.agg #[.int .i64 y0, .int .i64 y1, .int .i64 y2, s]) ⟨y0, y1, y2, y3⟩ from fun W hW => ⟨s, rfl, hr.below rEv_stable hW, hok⟩)
  obtain ⟨sb, sd, rfl, _⟩ := hr
  have HBX := Lib.hid (show ∀ W, Below (w.alloc (.cells #[.int .i64 y0, .int .i64 y1, .int .i64 y2, .slice sb y3.length sd] 38 (0, 0))).heap.size (w.alloc (.cells #[.int .i64 y0, .int .i64 y1, .int .i64 y2, .slice sb y3.length sd] 38 (0, 0))) W → W.cell? ⟨w.heap.size, 0, none⟩ = some (.int .i64 y0) ∧ W.cell? ⟨w.heap.size, 1, none⟩ = some (.int .i64 y1) ∧ W.cell? ⟨w.heap.size, 2, none⟩ = some (.int .i64 y2) ∧ W.cell? ⟨w.heap.size, 3, none⟩ = some (.slice sb y3.length sd) from
    fun W hW => ⟨cell_kept (cell_new w _ _ 0 rfl) hW, cell_kept (cell_new w _ _ 1 rfl) hW, cell_kept (cell_new w _ _ 2 rfl) hW, cell_kept (cell_new w _ _ 3 rfl) hW⟩)
  have H := Lib.hid h
  have HU := Lib.hid h2
  have NO := Lib.hid (fun hn => mayRes_no hres hn)
  have YES := Lib.hid (fun hn => mayRes_yes hres hn)
  obtain ⟨bg, hg⟩ : ∃ b, areHo t = b := ⟨_, rfl⟩
  have HG := Lib.hid hg
  obtain ⟨ad, bd, hisd⟩ : ∃ a b, isdRes ⟨y0, y1, y2, y3⟩ u d = (a, b) := ⟨_, _, rfl⟩
  have HISD := Lib.hid hisd
  clear h h2 hres hok hg
  by_cases hask : askB ⟨y0, y1, y2, y3⟩ u = true ∧ (0 ≤ d ∧ d ≤ 20000)
  · have hi := hisd
    unfold isdRes at hi
    rw [if_pos hask] at hi
    obtain ⟨ha1, ha2⟩ := Prod.mk.inj hi
    subst ha2
    have HB := Lib.hid ha1
    have HASK := Lib.hid hask
    clear hi ha1 hask hisd
    cases bg
    · obtain ⟨rfl, rfl⟩ := NO.out (fun hc => by have := (askH_iff.1 hc.1).1; rw [HG.out] at this; cases this)
      go_enter Try.func44, Try.ntmps44
      go_wp2_with (first | (go_at_call 70; refine (implIsDue_any _ _ ⟨y0, y1, y2, y3⟩ u d _ (HV.out _ (below_al (Below.refl _ _) _)) (HU.out.below rRu_stable (below_al (Below.refl _ _) _)) hn _ _ HISD.out).mono ?_; rintro e w1 ⟨rfl, b1⟩; obtain ⟨c0, c1, c2, c3⟩ := HBX.out _ b1; have b1w := below_chain (below_al (Below.refl w.heap.size w) _) b1) | (go_at_call 18; refine (implAreHo_any _ t _ (H.out.below rHo_stable b1w)).mono ?_; rw [HG.out]; rintro e w2 ⟨rfl, b2⟩; replace b1 := b1.trans (b2.mono b1.size); obtain ⟨c0, c1, c2, c3⟩ := HBX.out _ b1; replace b1w := b1w.trans (b2.mono b1w.size); clear b2))
      go_ret2
      exact ⟨rfl, b1w⟩
    · obtain ⟨ea, rfl⟩ := YES.out ⟨askH_iff.2 ⟨HG.out, (ask_iff.1 HASK.out.1).1, HASK.out.2⟩, (ask_iff.1 HASK.out.1).2⟩
      obtain ⟨⟨q0, q1, q2, q3⟩, bdr, hdr⟩ : ∃ q b, decRes ⟨y0, y1, y2, y3⟩ u = (q, b) := ⟨_, _, rfl⟩
      have HDR := Lib.hid hdr
      obtain ⟨bh, hbh⟩ : ∃ b, heldB t ⟨y0, y1, y2, y3⟩ d = b := ⟨_, rfl⟩
      have HHD := Lib.hid hbh
      cases ad
      · obtain rfl : a = false := by rw [ea]; rw [may_eq (d := d) HB.out rfl hbh]; rfl
        clear ea hdr hbh NO YES
        go_enter Try.func44, Try.ntmps44
        go_wp2_with (first | (go_at_call 70; refine (implIsDue_any _ _ ⟨y0, y1, y2, y3⟩ u d _ (HV.out _ (below_al (Below.refl _ _) _)) (HU.out.below rRu_stable (below_al (Below.refl _ _) _)) hn _ _ HISD.out).mono ?_; rintro e w1 ⟨rfl, b1⟩; obtain ⟨c0, c1, c2, c3⟩ := HBX.out _ b1; have b1w := below_chain (below_al (Below.refl w.heap.size w) _) b1) | (go_at_call 18; refine (implAreHo_any _ t _ (H.out.below rHo_stable b1w)).mono ?_; rw [HG.out]; rintro e w2 ⟨rfl, b2⟩; replace b1 := b1.trans (b2.mono b1.size); obtain ⟨c0, c1, c2, c3⟩ := HBX.out _ b1; replace b1w := b1w.trans (b2.mono b1w.size); clear b2) | (go_at_call 106; refine (implDecidingRule_any _ _ ⟨y0, y1, y2, y3⟩ u _ (HV.out _ b1w) (HU.out.below rRu_stable b1w) hn _ _ HDR.out).mono ?_; rintro e w3 ⟨rfl, b3⟩; replace b1 := below_al (b1.trans (b3.mono b1.size)) (.cells #[.int .i64 q0, .int .i64 q1, .int .i64 q2, .int .i64 q3] 125 (0, 0)); obtain ⟨c0, c1, c2, c3⟩ := HBX.out _ b1; replace b1w := below_al (b1w.trans (b3.mono b1w.size)) (.cells #[.int .i64 q0, .int .i64 q1, .int .i64 q2, .int .i64 q3] 125 (0, 0)); clear b3; simp only))
        go_ret2
        exact ⟨rfl, b1w⟩
      · have hd0 := of_decide_eq_true HB.out
        have hrul : ruleF ⟨y0, y1, y2, y3⟩ u = ⟨q0, q1, q2, q3⟩ := by
          have := setF_yes HASK.out.1 hd0.1
          unfold decRes at hdr
          rw [this] at hdr
          exact (Prod.mk.inj hdr).1
        obtain ⟨bt, hbt⟩ : ∃ b, decide (q3 = 3) = b := ⟨_, rfl⟩
        have EA := Lib.hid (ea.trans (may_eq (d := d) HB.out (show decide ((ruleF ⟨y0, y1, y2, y3⟩ u).act = 3) = bt by rw [hrul]; exact hbt) hbh))
        have HBT := Lib.hid hbt
        clear ea hdr hbh hd0 hrul hbt NO YES
        by_cases h3 : q3 = 3
        · have hq : (q3 == 3) = true := by simp [h3]
          obtain rfl : bt = true := HBT.out.symm.trans (decide_eq_true h3)
          have H3 := Lib.hid h3
          clear h3
          cases bh
          · obtain rfl : a = true := by rw [EA.out]; rfl
            go_enter Try.func44, Try.ntmps44
            go_wp2_with (first | (go_at_call 70; refine (implIsDue_any _ _ ⟨y0, y1, y2, y3⟩ u d _ (HV.out _ (below_al (Below.refl _ _) _)) (HU.out.below rRu_stable (below_al (Below.refl _ _) _)) hn _ _ HISD.out).mono ?_; rintro e w1 ⟨rfl, b1⟩; obtain ⟨c0, c1, c2, c3⟩ := HBX.out _ b1; have b1w := below_chain (below_al (Below.refl w.heap.size w) _) b1) | (go_at_call 18; refine (implAreHo_any _ t _ (H.out.below rHo_stable b1w)).mono ?_; rw [HG.out]; rintro e w2 ⟨rfl, b2⟩; replace b1 := b1.trans (b2.mono b1.size); obtain ⟨c0, c1, c2, c3⟩ := HBX.out _ b1; replace b1w := b1w.trans (b2.mono b1w.size); clear b2) | (go_at_call 106; refine (implDecidingRule_any _ _ ⟨y0, y1, y2, y3⟩ u _ (HV.out _ b1w) (HU.out.below rRu_stable b1w) hn _ _ HDR.out).mono ?_; rintro e w3 ⟨rfl, b3⟩; replace b1 := below_al (b1.trans (b3.mono b1.size)) (.cells #[.int .i64 q0, .int .i64 q1, .int .i64 q2, .int .i64 q3] 125 (0, 0)); obtain ⟨c0, c1, c2, c3⟩ := HBX.out _ b1; replace b1w := below_al (b1w.trans (b3.mono b1w.size)) (.cells #[.int .i64 q0, .int .i64 q1, .int .i64 q2, .int .i64 q3] 125 (0, 0)); clear b3; simp only) | (go_at_call 87; refine (covers_any _ ⟨y0, y1, y2, y3⟩ d _ (HV.out _ b1w)).mono ?_; rintro e w4 ⟨B1, B2, rfl, hcov, b4⟩; replace b1w := b1w.trans (b4.mono b1w.size); clear b4) | (go_at_call 101; refine (covHas_any _ t ⟨y0, y1, y2, y3⟩ d B1 B2 _ (H.out.below rHo_stable b1w) hcov).mono ?_; rw [HHD.out]; rintro e w5 ⟨rfl, b5⟩; replace b1w := b1w.trans (b5.mono b1w.size); clear b5))
            go_ret2
            exact ⟨rfl, b1w⟩
          · obtain rfl : a = false := by rw [EA.out]; rfl
            go_enter Try.func44, Try.ntmps44
            go_wp2_with (first | (go_at_call 70; refine (implIsDue_any _ _ ⟨y0, y1, y2, y3⟩ u d _ (HV.out _ (below_al (Below.refl _ _) _)) (HU.out.below rRu_stable (below_al (Below.refl _ _) _)) hn _ _ HISD.out).mono ?_; rintro e w1 ⟨rfl, b1⟩; obtain ⟨c0, c1, c2, c3⟩ := HBX.out _ b1; have b1w := below_chain (below_al (Below.refl w.heap.size w) _) b1) | (go_at_call 18; refine (implAreHo_any _ t _ (H.out.below rHo_stable b1w)).mono ?_; rw [HG.out]; rintro e w2 ⟨rfl, b2⟩; replace b1 := b1.trans (b2.mono b1.size); obtain ⟨c0, c1, c2, c3⟩ := HBX.out _ b1; replace b1w := b1w.trans (b2.mono b1w.size); clear b2) | (go_at_call 106; refine (implDecidingRule_any _ _ ⟨y0, y1, y2, y3⟩ u _ (HV.out _ b1w) (HU.out.below rRu_stable b1w) hn _ _ HDR.out).mono ?_; rintro e w3 ⟨rfl, b3⟩; replace b1 := below_al (b1.trans (b3.mono b1.size)) (.cells #[.int .i64 q0, .int .i64 q1, .int .i64 q2, .int .i64 q3] 125 (0, 0)); obtain ⟨c0, c1, c2, c3⟩ := HBX.out _ b1; replace b1w := below_al (b1w.trans (b3.mono b1w.size)) (.cells #[.int .i64 q0, .int .i64 q1, .int .i64 q2, .int .i64 q3] 125 (0, 0)); clear b3; simp only) | (go_at_call 87; refine (covers_any _ ⟨y0, y1, y2, y3⟩ d _ (HV.out _ b1w)).mono ?_; rintro e w4 ⟨B1, B2, rfl, hcov, b4⟩; replace b1w := b1w.trans (b4.mono b1w.size); clear b4) | (go_at_call 101; refine (covHas_any _ t ⟨y0, y1, y2, y3⟩ d B1 B2 _ (H.out.below rHo_stable b1w) hcov).mono ?_; rw [HHD.out]; rintro e w5 ⟨rfl, b5⟩; replace b1w := b1w.trans (b5.mono b1w.size); clear b5))
            go_ret2
            exact ⟨rfl, b1w⟩
        · have hq : (q3 == 3) = false := by simp [h3]
          obtain rfl : bt = false := HBT.out.symm.trans (decide_eq_false h3)
          obtain rfl : a = false := by rw [EA.out]; rfl
          clear h3
          go_enter Try.func44, Try.ntmps44
          go_wp2_with (first | (go_at_call 70; refine (implIsDue_any _ _ ⟨y0, y1, y2, y3⟩ u d _ (HV.out _ (below_al (Below.refl _ _) _)) (HU.out.below rRu_stable (below_al (Below.refl _ _) _)) hn _ _ HISD.out).mono ?_; rintro e w1 ⟨rfl, b1⟩; obtain ⟨c0, c1, c2, c3⟩ := HBX.out _ b1; have b1w := below_chain (below_al (Below.refl w.heap.size w) _) b1) | (go_at_call 18; refine (implAreHo_any _ t _ (H.out.below rHo_stable b1w)).mono ?_; rw [HG.out]; rintro e w2 ⟨rfl, b2⟩; replace b1 := b1.trans (b2.mono b1.size); obtain ⟨c0, c1, c2, c3⟩ := HBX.out _ b1; replace b1w := b1w.trans (b2.mono b1w.size); clear b2) | (go_at_call 106; refine (implDecidingRule_any _ _ ⟨y0, y1, y2, y3⟩ u _ (HV.out _ b1w) (HU.out.below rRu_stable b1w) hn _ _ HDR.out).mono ?_; rintro e w3 ⟨rfl, b3⟩; replace b1 := below_al (b1.trans (b3.mono b1.size)) (.cells #[.int .i64 q0, .int .i64 q1, .int .i64 q2, .int .i64 q3] 125 (0, 0)); obtain ⟨c0, c1, c2, c3⟩ := HBX.out _ b1; replace b1w := below_al (b1w.trans (b3.mono b1w.size)) (.cells #[.int .i64 q0, .int .i64 q1, .int .i64 q2, .int .i64 q3] 125 (0, 0)); clear b3; simp only))
          go_ret2
          exact ⟨rfl, b1w⟩
  · have hi := hisd
    unfold isdRes at hi
    rw [if_neg hask] at hi
    obtain ⟨ha1, ha2⟩ := Prod.mk.inj hi
    subst ha1
    subst ha2
    obtain ⟨rfl, rfl⟩ := NO.out (fun hc => hask ⟨ask_iff.2 ⟨(askH_iff.1 hc.1).2.1, hc.2⟩, (askH_iff.1 hc.1).2.2⟩)
    clear hi hask hisd
    go_enter Try.func44, Try.ntmps44
    go_wp2_with (first | (go_at_call 70; refine (implIsDue_any _ _ ⟨y0, y1, y2, y3⟩ u d _ (HV.out _ (below_al (Below.refl _ _) _)) (HU.out.below rRu_stable (below_al (Below.refl _ _) _)) hn _ _ HISD.out).mono ?_; rintro e w1 ⟨rfl, b1⟩; obtain ⟨c0, c1, c2, c3⟩ := HBX.out _ b1; have b1w := below_chain (below_al (Below.refl w.heap.size w) _) b1))
    go_ret2
    exact ⟨rfl, b1w⟩

set_option maxRecDepth 20000 in
set_option maxHeartbeats 4000000 in
theorem implFirstDestruction_any (v v1 v2 : Value) (t : List Ho) (r : Rec) (u : List Ru) (w : World) (h : RowR 6 rHo w v t) (h1 : RecV w v1 r) (h2 : RowR 4 rRu w v2 u) (hn : u.length ≤ 1048576) (n : Int) (b : Bool) (hres : fdRes t r u = (n, b)) :
    Calls Try.prog 47 #[v, v1, v2] w fun e w' => e = .returned (.tuple #[.int .i64 n, .bool b]) ∧ Below w.heap.size w w' := by
  obtain ⟨s, rfl, hr, hok⟩ := h1
  obtain ⟨y0, y1, y2, y3⟩ := r
  simp only at hr ⊢
  have HV := Lib.hid (show ∀ W, Below w.heap.size w W → RecV W (.agg #[.int .i64 y0, .int .i64 y1, .int .i64 y2, s]) ⟨y0, y1, y2, y3⟩ from fun W hW => ⟨s, rfl, hr.below rEv_stable hW, hok⟩)
  obtain ⟨sb, sd, rfl, _⟩ := hr
  have HBX := Lib.hid (show ∀ W, Below (w.alloc (.cells #[.int .i64 y0, .int .i64 y1, .int .i64 y2, .slice sb y3.length sd] 38 (0, 0))).heap.size (w.alloc (.cells #[.int .i64 y0, .int .i64 y1, .int .i64 y2, .slice sb y3.length sd] 38 (0, 0))) W → W.cell? ⟨w.heap.size, 0, none⟩ = some (.int .i64 y0) ∧ W.cell? ⟨w.heap.size, 1, none⟩ = some (.int .i64 y1) ∧ W.cell? ⟨w.heap.size, 2, none⟩ = some (.int .i64 y2) ∧ W.cell? ⟨w.heap.size, 3, none⟩ = some (.slice sb y3.length sd) from
    fun W hW => ⟨cell_kept (cell_new w _ _ 0 rfl) hW, cell_kept (cell_new w _ _ 1 rfl) hW, cell_kept (cell_new w _ _ 2 rfl) hW, cell_kept (cell_new w _ _ 3 rfl) hW⟩)
  have H := Lib.hid h
  have HU := Lib.hid h2
  obtain ⟨⟨q0, q1, q2, q3⟩, n0, bs, hset⟩ : ∃ q n b, setF ⟨y0, y1, y2, y3⟩ u = (q, n, b) := ⟨_, _, _, rfl⟩
  have HSET := Lib.hid hset
  clear h h2 hok
  by_cases hask : askB ⟨y0, y1, y2, y3⟩ u = true ∧ 0 ≤ dueF ⟨y0, y1, y2, y3⟩ u
  · have hi := hset
    rw [setF_yes hask.1 hask.2] at hi
    injection hi with e1 e2
    injection e2 with e2 e3
    subst e2
    subst e3
    by_cases h3 : q3 = 3
    · have hq : (q3 != 3) = false := by simp [h3]
      have HFRE := Lib.hid ((fd_free (t := t) hask.1 hask.2 (by rw [e1]; exact h3)).symm.trans hres)
      have H3 := Lib.hid h3
      obtain ⟨n0, hn0⟩ : ∃ n0, dueF ⟨y0, y1, y2, y3⟩ u = n0 := ⟨_, rfl⟩
      rw [hn0] at HSET HFRE
      clear h3 hask hset hres e1 hn0
      go_enter Try.func47, Try.ntmps47
      go_wp2_with (first | (go_at_call 108; refine (settle_any _ _ ⟨y0, y1, y2, y3⟩ u _ (HV.out _ (below_al (Below.refl _ _) _)) (HU.out.below rRu_stable (below_al (Below.refl _ _) _)) hn _ _ _ HSET.out).mono ?_; rintro e w1 ⟨rfl, b1⟩; replace b1 := below_al b1 (.cells #[.int .i64 q0, .int .i64 q1, .int .i64 q2, .int .i64 q3] 125 (0, 0)); obtain ⟨c0, c1, c2, c3⟩ := HBX.out _ b1; have b1w := below_chain (below_al (Below.refl w.heap.size w) _) b1; simp only) | (go_at_call 31; refine (implFreeDay_any _ _ t ⟨y0, y1, y2, y3⟩ n0 _ (H.out.below rHo_stable b1w) (HV.out _ b1w) n b HFRE.out).mono ?_; rintro e w2 ⟨rfl, b2⟩; replace b1w := b1w.trans (b2.mono b1w.size); clear b2))
      go_ret2
      exact ⟨rfl, b1w⟩
    · have hq : (q3 != 3) = true := by simp [h3]
      have hno := (fd_none (t := t) (r := ⟨y0, y1, y2, y3⟩) (u := u) (.inr (.inr (by rw [e1]; exact h3)))).symm.trans hres
      obtain ⟨rfl, rfl⟩ := Prod.mk.inj hno
      clear h3 hask hset hres e1 hno
      go_enter Try.func47, Try.ntmps47
      go_wp2_with (first | (go_at_call 108; refine (settle_any _ _ ⟨y0, y1, y2, y3⟩ u _ (HV.out _ (below_al (Below.refl _ _) _)) (HU.out.below rRu_stable (below_al (Below.refl _ _) _)) hn _ _ _ HSET.out).mono ?_; rintro e w1 ⟨rfl, b1⟩; replace b1 := below_al b1 (.cells #[.int .i64 q0, .int .i64 q1, .int .i64 q2, .int .i64 q3] 125 (0, 0)); obtain ⟨c0, c1, c2, c3⟩ := HBX.out _ b1; have b1w := below_chain (below_al (Below.refl w.heap.size w) _) b1; simp only))
      go_ret2
      exact ⟨rfl, b1w⟩
  · have hor : askB ⟨y0, y1, y2, y3⟩ u = false ∨ dueF ⟨y0, y1, y2, y3⟩ u < 0 := by
      rcases hb : askB ⟨y0, y1, y2, y3⟩ u with _ | _
      · exact .inl rfl
      · exact .inr (Int.not_le.1 (fun h => hask ⟨hb, h⟩))
    have hi := hset
    rw [setF_no hor] at hi
    injection hi with e1 e2
    injection e2 with e2 e3
    subst e2
    subst e3
    have hno := (fd_none (t := t) (r := ⟨y0, y1, y2, y3⟩) (u := u) (hor.imp id .inl)).symm.trans hres
    obtain ⟨rfl, rfl⟩ := Prod.mk.inj hno
    clear hask hset hres e1 hno hor
    go_enter Try.func47, Try.ntmps47
    go_wp2_with (first | (go_at_call 108; refine (settle_any _ _ ⟨y0, y1, y2, y3⟩ u _ (HV.out _ (below_al (Below.refl _ _) _)) (HU.out.below rRu_stable (below_al (Below.refl _ _) _)) hn _ _ _ HSET.out).mono ?_; rintro e w1 ⟨rfl, b1⟩; replace b1 := below_al b1 (.cells #[.int .i64 q0, .int .i64 q1, .int .i64 q2, .int .i64 q3] 125 (0, 0)); obtain ⟨c0, c1, c2, c3⟩ := HBX.out _ b1; have b1w := below_chain (below_al (Below.refl w.heap.size w) _) b1; simp only))
    go_ret2
    exact ⟨rfl, b1w⟩
end Go.Proofs.Ytkjpehpodlpdhaa

namespace Go.Proofs.Ytkjpehpodlpdhaa
set_option linter.unusedVariables false
open Go.RowKit

def HoO (lo hi : Nat) (w : World) (v : Value) (r : Ho) : Prop := ∃ s, v = .agg #[.int .i64 r.id, .int .i64 r.frm, .int .i64 r.til, s, .int .i64 r.fst, .int .i64 r.lst] ∧ IntsO lo hi w s r.ser ∧ r.ok
def hoC (r : Ho) (s : Value) : List Value := [.int .i64 r.id, .int .i64 r.frm, .int .i64 r.til, s, .int .i64 r.fst, .int .i64 r.lst]
def HosO (lo hi : Nat) (w : World) (v : Value) (rs : List Ho) : Prop :=
  ∃ (css : List (List Value)) (f : Nat → Nat), css.length = rs.length ∧ Own lo 100 6 w v css ∧ Under (f 0) v ∧ lo ≤ f 0 ∧ (∀ i, i < rs.length → f i ≤ f (i + 1)) ∧ f rs.length ≤ hi ∧
    ∀ i (h1 : i < css.length) (h2 : i < rs.length), ∃ s, css[i] = hoC rs[i] s ∧ IntsO (f i) (f (i + 1)) w s rs[i].ser ∧ rs[i].ok
section
variable {lo hi lo' hi' : Nat} {w w' : World} {v : Value} {r : Ho} {rs : List Ho}
theorem HoO.toV (h : HoO lo hi w v r) : HoV w v r := by
  obtain ⟨s, e, h, k⟩ := h
  exact ⟨s, e, h.row, k⟩
theorem HoO.below (h : HoO lo hi w v r) (hb : Below w.heap.size w w') : HoO lo hi w' v r := by
  obtain ⟨s, e, h, k⟩ := h
  exact ⟨s, e, h.below hb, k⟩
theorem HoO.only (h : HoO lo hi w v r) (hb : Only lo' hi' w w') (hh : hi' ≤ lo) : HoO lo hi w' v r := by
  obtain ⟨s, e, h, k⟩ := h
  exact ⟨s, e, h.only hb hh, k⟩
theorem HoO.wide (h : HoO lo hi w v r) (hl : lo' ≤ lo) (hh : hi ≤ hi') : HoO lo' hi' w v r := by
  obtain ⟨s, e, h, k⟩ := h
  exact ⟨s, e, h.wide hl hh, k⟩
theorem HosO.row (h : HosO lo hi w v rs) : RowR 6 rHo w v rs := by
  obtain ⟨css, f, hl, ho, _, _, _, _, he⟩ := h
  refine ho.row hl fun i h1 h2 => ?_
  obtain ⟨s, e, hs, hok⟩ := he i h1 h2
  exact ⟨s, e, hs.row, hok⟩
theorem HosO.below (h : HosO lo hi w v rs) (hb : Below w.heap.size w w') : HosO lo hi w' v rs := by
  obtain ⟨css, f, hl, ho, h1, h2, h3, h4, he⟩ := h
  refine ⟨css, f, hl, ho.below hb, h1, h2, h3, h4, fun i a b => ?_⟩
  obtain ⟨s, e, hs, hok⟩ := he i a b
  exact ⟨s, e, hs.below hb, hok⟩
theorem HosO.only (h : HosO lo hi w v rs) (hb : Only lo' hi' w w') (hh : hi' ≤ lo) : HosO lo hi w' v rs := by
  obtain ⟨css, f, hl, ho, h1, h2, h3, h4, he⟩ := h
  refine ⟨css, f, hl, ho.only hb hh, h1, h2, h3, h4, fun i a b => ?_⟩
  obtain ⟨s, e, hs, hok⟩ := he i a b
  exact ⟨s, e, hs.only hb (by have := mono_up h3 0 i (Nat.zero_le _) (by omega); omega), hok⟩
theorem HosO.only2 (h : HosO lo hi w v rs) (hb : Only lo' hi' w w') (hh : hi ≤ lo') : HosO lo hi w' v rs := by
  obtain ⟨css, f, hl, ho, h1, h2, h3, h4, he⟩ := h
  have hm := fun i (hi : i ≤ rs.length) => mono_up h3 i rs.length hi (Nat.le_refl _)
  refine ⟨css, f, hl, ho.only2 hb (h1.up (by have := hm 0 (Nat.zero_le _); omega)), h1, h2, h3, h4, fun i a b => ?_⟩
  obtain ⟨s, e, hs, hok⟩ := he i a b
  exact ⟨s, e, hs.only2 hb (by have := hm (i + 1) b; omega), hok⟩
theorem HosO.wide (h : HosO lo hi w v rs) (hl : lo' ≤ lo) (hh : hi ≤ hi') : HosO lo' hi' w v rs := by
  obtain ⟨css, f, a, ho, h1, h2, h3, h4, he⟩ := h
  exact ⟨css, f, a, ho.lower hl, h1, by omega, h3, by omega, he⟩
end

set_option maxHeartbeats 1000000 in
theorem toHo_any (v : Value) (r : Ho) (w : World) (h : HoV w v r) (hn : r.ser.length ≤ 1099511627776) :
    Calls Try.prog 76 #[v] w fun en w' => ∃ v', en = .returned v' ∧ HoO w.heap.size w'.heap.size w' v' r ∧ Below w.heap.size w w' := by
  obtain ⟨s, rfl, h1, hok⟩ := h
  obtain ⟨a0, a1, a2, a3, a4, a5⟩ := r
  have H1 := Lib.hid h1
  have HOK := Lib.hid hok
  clear h1 hok
  go_enter Try.func76, Try.ntmps76
  go_wp2_with (first | (go_at_call 143; refine (toIntS_any _ a3 _ (H1.out.below (below_al (below_al (below_al (Below.refl _ _) _) _) _)) hn).mono ?_; rintro en w1 ⟨v1, rfl, ho, hb'⟩; obtain ⟨sa, sn, sc, rfl⟩ := ho.slice; have hblk := (hb'.block (w.heap.size + 1 + 1) (by simp)).trans (heap_alloc_new' _ _ (by simp)); have pc0 := blk_cell hblk 0; have pf0 := blk_frozen hblk 0; simp at pc0; have pc1 := blk_cell hblk 1; have pf1 := blk_frozen hblk 1; simp at pc1; have pc2 := blk_cell hblk 2; have pf2 := blk_frozen hblk 2; simp at pc2; have pc3 := blk_cell hblk 3; have pf3 := blk_frozen hblk 3; simp at pc3; have pc4 := blk_cell hblk 4; have pf4 := blk_frozen hblk 4; simp at pc4; have pc5 := blk_cell hblk 5; have pf5 := blk_frozen hblk 5; simp at pc5; have hblq := (hb'.block (w.heap.size + 1) (by simp)).trans ((Below.heap_alloc _ _ _ (by simp)).trans (heap_alloc_new' _ _ (by simp))); have qc0 := blk_cell hblq 0; have qf0 := blk_frozen hblq 0; simp at qc0; have qc1 := blk_cell hblq 1; have qf1 := blk_frozen hblq 1; simp at qc1; have qc2 := blk_cell hblq 2; have qf2 := blk_frozen hblq 2; simp at qc2; have qc3 := blk_cell hblq 3; have qf3 := blk_frozen hblq 3; simp at qc3; have qc4 := blk_cell hblq 4; have qf4 := blk_frozen hblq 4; simp at qc4; have qc5 := blk_cell hblq 5; have qf5 := blk_frozen hblq 5; simp at qc5; have hblo := (hb'.block w.heap.size (by simp; omega)).trans ((Below.heap_alloc _ _ _ (by simp; omega)).trans ((Below.heap_alloc _ _ _ (by simp)).trans (heap_alloc_new' _ _ (by simp)))); have oc4 := blk_cell hblo 4; simp at oc4; have oc5 := blk_cell hblo 5; simp at oc5; clear hblo; have HO := Lib.hid ho; clear ho hblk hblq))
  refine bodyPost_ret (v := .agg #[.int .i64 a0, .int .i64 a1, .int .i64 a2, .slice sa sn sc, .int .i64 a4, .int .i64 a5]) (by simp [results, Try.results76, go_sem, qc0, qc1, qc2, qc3, qc4, qc5]) rfl ⟨_, rfl, ⟨_, rfl, ?_, HOK.out⟩, ?_⟩
  · have := HO.out
    exact (((((((((this.far (by simp) _).far (by simp) _).far (by simp) _).far (by simp) _).far (by simp) _).far (by simp) _).far (by simp) _).far (by simp) _).far (by simp) _).wide (by simp; omega) (by simp)
  · have hb := below_chain (below_al (below_al (below_al (Below.refl _ _) _) _) _) hb'
    exact (((((((((hb.setCell (by simp; omega) _).setCell (by simp; omega) _).setCell (by simp; omega) _).setCell (by simp) _).setCell (by simp) _).setCell (by simp) _).setCell (by simp) _).setCell (by simp) _).setCell (by simp) _)

theorem Try.info_ho : (Try.prog.info? 100).map (fun i => (i.zero, i.size, i.bytes)) = some (some (.agg #[.int .i64 0, .int .i64 0, .int .i64 0, .slice none 0 0, .int .i64 0, .int .i64 0]), 6, 64) := by kernel_rfl

def sz1Ho (x : Ho) : Nat := x.ser.length
def szHo (xs : List Ho) : Nat := (xs.map sz1Ho).sum
theorem szHo_take_succ (xs : List Ho) (k : Nat) (h : k < xs.length) : szHo (xs.take (k + 1)) = szHo (xs.take k) + sz1Ho (xs.getD k hoD) := by
  unfold szHo
  rw [List.take_add_one, List.getElem?_eq_getElem h, getHo_lt h, List.map_append, List.sum_append]
  simp only [Option.toList_some, List.map_cons, List.map_nil, List.sum_cons, List.sum_nil, Nat.add_zero]
theorem szHo_take_le (xs : List Ho) (k : Nat) : szHo (xs.take k) ≤ szHo xs := by
  have h : szHo xs = szHo (xs.take k) + szHo (xs.drop k) := by
    unfold szHo
    rw [← List.sum_append, ← List.map_append, List.take_append_drop]
  omega
theorem szHo_at (xs : List Ho) (i : Nat) (h : i < xs.length) : sz1Ho (xs.getD i hoD) ≤ szHo xs := by
  have h1 := szHo_take_succ xs i h
  have h2 := szHo_take_le xs (i + 1)
  omega
theorem sz1Ho_len (x : Ho) : x.ser.length ≤ sz1Ho x := by unfold sz1Ho; omega

set_option maxHeartbeats 2000000 in
theorem toHoS_any (v : Value) (rs : List Ho) (w : World) (h : RowR 6 rHo w v rs) (hn : rs.length + szHo rs ≤ 1048576) :
    Calls Try.prog 17 #[v] w fun en w' => ∃ v', en = .returned v' ∧ HosO w.heap.size w'.heap.size w' v' rs ∧ Below w.heap.size w w' := by
  obtain ⟨i0, hi, hz0, hz1, hz2⟩ := info_parts Try.info_ho
  obtain ⟨a1, c1, rfl, hl1, hm1, r1⟩ := h.hos
  have R1 := Lib.hid r1
  clear h r1
  unfold maxLen at hm1
  go_enter Try.func17, Try.ntmps17
  go_wp2_with (first | (at_make; refine wpList_make_full _ rfl _ _ 25 rfl w.heap.size 100 i0 _ 6 Try.underlying25 hi hz0 hz1 .i64 .i64 _ _ rs.length rfl rfl rfl rfl (by rw [hz2]; omega) (by unfold maxLen; omega) (Nat.le_refl _) ?_; intro w1 hown1 hgrow1; have HOWN := Lib.hid hown1; have HGROW := Lib.hid hgrow1; clear hown1 hgrow1))
  go_loopw [4] (fun i wr => ∃ (k : Nat) (css : List (List Value)) (f : Nat → Nat), k ≤ rs.length ∧ i = .int .i64 k ∧ css.length = rs.length ∧ Own w.heap.size 100 6 wr (.slice (some ⟨w.heap.size, 0, none⟩) rs.length rs.length) css ∧
      Hid (f 0 = w.heap.size + 1 ∧ (∀ i, i < k → f i ≤ f (i + 1)) ∧ f k ≤ wr.heap.size ∧ ∀ i (h1 : i < css.length) (h2 : i < rs.length), i < k → ∃ s, css[i] = hoC rs[i] s ∧ IntsO (f i) (f (i + 1)) wr s rs[i].ser ∧ rs[i].ok) ∧ Below w.heap.size w wr) (fun i _ => rs.length - (intOf i).toNat)
  case atStart =>
    refine ⟨0, List.replicate rs.length (#[.int .i64 0, .int .i64 0, .int .i64 0, .slice none 0 0, .int .i64 0, .int .i64 0] : Array Value).toList, fun _ => w.heap.size + 1, Nat.zero_le _, rfl, by simp, ?_, Lib.hid ⟨rfl, fun i h => absurd h (Nat.not_lt_zero _), (HOWN.out.lt _ rfl).2, fun i _ _ h => absurd h (Nat.not_lt_zero _)⟩, below_of_grow HGROW.out (Nat.le_refl _) (fun k h => by cases h)⟩
    exact Own.made (z := #[.int .i64 0, .int .i64 0, .int .i64 0, .slice none 0 0, .int .i64 0, .int .i64 0]) rfl (by omega) HOWN.out
  case round =>
    obtain ⟨k, css, f, hk, rfl, hcl, hO, I, hb⟩ := hrel
    have HO := Lib.hid hO
    have HCL := Lib.hid hcl
    by_cases hlt : k < rs.length
    · obtain ⟨b1, o1, hb1, rfl, e1⟩ := R1.out.resolve_left (fun e => by rw [e] at hlt; simp at hlt)
      obtain ⟨s, q0, q1, q2, q3, q4, q5, hr, hok⟩ := e1 k hlt
      obtain ⟨r, hx⟩ : ∃ s, rs.getD k hoD = s := ⟨_, rfl⟩
      have hsz := szHo_at rs k hlt
      rw [hx] at q0 q1 q2 q4 q5 hr hok hsz
      have hsl := sz1Ho_len r
      rw [getHo_lt hlt] at hx
      have f0 := cell_kept q0 hb
      have f1 := cell_kept q1 hb
      have f2 := cell_kept q2 hb
      have f3 := cell_kept q3 hb
      have f4 := cell_kept q4 hb
      have f5 := cell_kept q5 hb
      have HX := Lib.hid hx
      have hV : HoV wr (.agg #[.int .i64 r.id, .int .i64 r.frm, .int .i64 r.til, s, .int .i64 r.fst, .int .i64 r.lst]) r := ⟨s, rfl, hr.below hb, hok⟩
      have HV := Lib.hid hV
      have g0 : (0 : Int) ≤ (k : Int) := by omega
      have g1 : (k : Int) < (rs.length : Int) := by omega
      have hw := hb.size
      clear q0 q1 q2 q3 q4 q5 hr hok hx e1 hV hO hcl HOWN HGROW
      go_wp2_with fail
      refine (toHo_any _ r _ HV.out (by omega)).mono ?_
      rintro e w2 ⟨v2, rfl, ho, b2⟩
      obtain ⟨s2, rfl, hev, hok⟩ := ho
      obtain ⟨sa, sn, sc, rfl⟩ := hev.slice
      have hO2 := HO.out.below b2
      obtain ⟨y0, y1, y2, y3, y4, y5, hy⟩ : ∃ y0 y1 y2 y3 y4 y5, css[k]'(by rw [HCL.out]; exact hlt) = [y0, y1, y2, y3, y4, y5] := by
        have h4 := HO.out.2 _ (List.getElem_mem (by rw [HCL.out]; exact hlt : k < css.length))
        match css[k]'(by rw [HCL.out]; exact hlt), h4 with
        | [y0, y1, y2, y3, y4, y5], _ => exact ⟨_, _, _, _, _, _, rfl⟩
      have c0 := hO2.cell k 0 (by rw [HCL.out]; exact hlt) (by omega)
      have c1 := hO2.cell k 1 (by rw [HCL.out]; exact hlt) (by omega)
      have c2 := hO2.cell k 2 (by rw [HCL.out]; exact hlt) (by omega)
      have c3 := hO2.cell k 3 (by rw [HCL.out]; exact hlt) (by omega)
      have c4 := hO2.cell k 4 (by rw [HCL.out]; exact hlt) (by omega)
      have c5 := hO2.cell k 5 (by rw [HCL.out]; exact hlt) (by omega)
      rw [hy] at c0 c1 c2 c3 c4 c5
      have fr0 := hO2.frozen (k * 6)
      have fr1 := hO2.frozen (k * 6 + 1)
      have fr2 := hO2.frozen (k * 6 + 2)
      have fr3 := hO2.frozen (k * 6 + 3)
      have fr4 := hO2.frozen (k * 6 + 4)
      have fr5 := hO2.frozen (k * 6 + 5)
      simp at c0 c1 c2 c3 c4 c5
      have HO2 := Lib.hid hO2
      have HEV := Lib.hid hev
      have HOK := Lib.hid hok
      clear hO2 hev hok hy
      go_wp2_with fail
      go_roundw
      case rel =>
        have hkc : k < css.length := by rw [HCL.out]; exact hlt
        obtain ⟨p1, p2⟩ := HO2.out.put k hkc (hoC r (.slice sa sn sc)) rfl
        have hon : Only w.heap.size (w.heap.size + 1) w2 (w2.setCells w.heap.size (k * 6) (hoC r (.slice sa sn sc))) :=
          Only.of_grown (v := .slice (some ⟨w.heap.size, 0, none⟩) rs.length rs.length) p2 (fun g hg => by simp [Value.ownBlock] at hg; omega) (fun g hg => by simp [Value.ownBlock] at hg; omega)
        obtain ⟨I0, I1, I2, I3⟩ := I.out
        have hgt : w.heap.size + 1 ≤ wr.heap.size := by have := mono_up I1 0 k (Nat.zero_le _) (Nat.le_refl _); omega
        have key : ∀ i (h1 : i < (css.set k (hoC r (.slice sa sn sc))).length) (h2 : i < rs.length), i < k + 1 → ∃ s, (css.set k (hoC r (.slice sa sn sc)))[i] = hoC rs[i] s ∧ IntsO (upd f (k + 1) w2.heap.size i) (upd f (k + 1) w2.heap.size (i + 1)) (w2.setCells w.heap.size (k * 6) (hoC r (.slice sa sn sc))) s rs[i].ser ∧ rs[i].ok := by
          intro i h1 h2 h3
          rw [upd_ne f _ (by omega : i ≠ k + 1)]
          rcases Nat.lt_or_ge i k with h' | h'
          · obtain ⟨s', e1, e2, e3⟩ := I3 i (by rw [HCL.out]; exact h2) h2 h'
            rw [upd_ne f _ (by omega : i + 1 ≠ k + 1)]
            exact ⟨s', by rw [List.getElem_set_ne (by omega)]; exact e1, (e2.below b2).only hon (by rw [← I0]; exact mono_up I1 0 i (Nat.zero_le _) (by omega)), e3⟩
          · obtain rfl : i = k := by omega
            rw [upd_at]
            refine ⟨.slice sa sn sc, by rw [List.getElem_set_self, HX.out], ?_, by rw [HX.out]; exact HOK.out⟩
            rw [HX.out]
            exact (HEV.out.only hon hgt).wide I2 (Nat.le_refl _)
        refine ⟨k + 1, css.set k (hoC r (.slice sa sn sc)), upd f (k + 1) w2.heap.size, by omega, by go_num, by rw [List.length_set]; exact HCL.out, p1, Lib.hid ⟨by rw [upd_ne f _ (by omega)]; exact I0, fun i hi => ?_, by rw [upd_at]; exact p2.size, key⟩, (hb.trans (b2.mono hb.size)).grown p2 (Nat.le_trans hb.size b2.size) (fun _ h => by cases h; exact Nat.le_refl _)⟩
        rw [upd_ne f _ (by omega : i ≠ k + 1)]
        rcases Nat.lt_or_ge i k with h' | h'
        · rw [upd_ne f _ (by omega : i + 1 ≠ k + 1)]
          exact I1 i h'
        · obtain rfl : i = k := by omega
          rw [upd_at]
          exact Nat.le_trans I2 b2.size
      case measure => simp [intOf]; omega
    · clear hO
      go_wp2_with fail
      go_ret
      obtain rfl : k = rs.length := by omega
      obtain ⟨I0, I1, I2, I3⟩ := I.out
      exact ⟨_, rfl, ⟨css, f, HCL.out, HO.out, (by rw [I0]; intro g hg; simp [Value.ownBlock] at hg; omega), by omega, I1, I2, fun i h1 h2 => I3 i h1 h2 h2⟩, hb⟩
end Go.Proofs.Ytkjpehpodlpdhaa

namespace Go.Proofs.Ytkjpehpodlpdhaa
set_option linter.unusedVariables false
open Go.RowKit

theorem beq_bytes_ne {a b : ByteArray} (h : ¬ a = b) : (a.toList == b.toList) = false := by
  rw [beq_eq_false_iff_ne]
  intro e
  rw [ByteArray.toList_eq, ByteArray.toList_eq] at e
  exact h (ByteArray.ext (Array.ext' e))

end Go.Proofs.Ytkjpehpodlpdhaa

namespace Go.Proofs.Ytkjpehpodlpdhaa
set_option linter.unusedVariables false
open Go.RowKit

theorem szHo_one (v : Value) (x : Ho) (left : Int) (w : World) (h : HoV w v x) (h0 : 0 ≤ left) (h2 : left ≤ 1099511627776) :
    Calls Try.prog 74 #[v, .int .i64 left] w fun e w' => e = .returned (.int .i64 (if left < sz1Ho x then -1 else left - sz1Ho x)) ∧ Below w.heap.size w w' := by
  obtain ⟨s, rfl, h1, hok⟩ := h
  have hcap := h1.cap
  obtain ⟨x0, x1, x2, x3, x4, x5⟩ := x
  obtain ⟨o0, o1, o2, o4, o5⟩ := hok
  obtain ⟨z, hz⟩ : ∃ z, sz1Ho ⟨x0, x1, x2, x3, x4, x5⟩ = z := ⟨_, rfl⟩
  have hz2 : x3.length = z := hz
  rw [hz]
  have H1 := Lib.hid h1
  clear hz h1
  by_cases t3 : left < (x3.length : Int)
  · have hc : left < (z : Int) := by omega
    simp only [if_pos hc]
    clear hc
    go_enter Try.func74, Try.ntmps74
    go_wp2_with (first | (go_at_call 141; refine (szIntS_any _ x3 _ _ (H1.out.below (below_al (Below.refl _ _) _)) (by omega) (by omega)).mono ?_; rw [if_pos (by omega)]; rintro e w' ⟨rfl, hb'⟩))
    go_ret
    exact ⟨rfl, below_chain (below_al (Below.refl _ _) _) hb'⟩
  · have hc : ¬ left < (z : Int) := by omega
    simp only [if_neg hc]
    clear hc
    go_enter Try.func74, Try.ntmps74
    go_wp2_with (first | (go_at_call 141; refine (szIntS_any _ x3 _ _ (H1.out.below (below_al (Below.refl _ _) _)) (by omega) (by omega)).mono ?_; rw [if_neg (by omega)]; rintro e w' ⟨rfl, hb'⟩))
    go_ret
    exact ⟨ret_int (by omega), below_chain (below_al (Below.refl _ _) _) hb'⟩

set_option maxHeartbeats 1000000 in
theorem szHoS_any (v : Value) (xs : List Ho) (left : Int) (w : World) (h : RowR 6 rHo w v xs) (h0 : 0 ≤ left) (h2 : left ≤ 1099511627776) :
    Calls Try.prog 15 #[v, .int .i64 left] w fun e w' => ∃ n : Int, e = .returned (.int .i64 n) ∧ (n < 0 ∨ (xs.length : Int) + szHo xs ≤ left) ∧ (0 ≤ n ∨ n = -1) ∧ n ≤ left ∧ Below w.heap.size w w' := by
  have hcap := h.cap
  obtain ⟨a1, c1, rfl, hl1, hm1, r1⟩ := h.hos
  have R1 := Lib.hid r1
  clear h r1
  unfold maxLen at hm1
  by_cases hb : left < xs.length
  · go_enter Try.func15, Try.ntmps15
    go_wp2_with fail
    go_ret
    exact ⟨-1, rfl, Or.inl (by omega), Or.inr rfl, by omega, Below.refl _ _⟩
  · go_enter Try.func15, Try.ntmps15
    go_wp2_with fail
    go_loopw [1, 5] (fun l i wr => ∃ (k : Nat) (n : Int), k ≤ xs.length ∧ i = .int .i64 k ∧ l = .int .i64 n ∧ Hid (n = left - xs.length - szHo (xs.take k)) ∧ 0 ≤ n ∧ n ≤ left ∧ Below w.heap.size w wr) (fun _ i _ => xs.length - (intOf i).toNat)
    case atStart => exact ⟨0, left - xs.length, Nat.zero_le _, rfl, rfl, Lib.hid (by simp [szHo]), by omega, by omega, Below.refl _ _⟩
    case round =>
      obtain ⟨k, n, hk, rfl, rfl, HN, hn0, hnl, hb⟩ := hrel
      by_cases hlt : k < xs.length
      · obtain ⟨b1, o1, hb1, rfl, e1⟩ := R1.out.resolve_left (fun e => by rw [e] at hlt; simp at hlt)
        obtain ⟨s, q0, q1, q2, q3, q4, q5, hr, hok⟩ := e1 k hlt
        obtain ⟨r, hx⟩ : ∃ s, xs.getD k hoD = s := ⟨_, rfl⟩
        rw [hx] at q0 q1 q2 q4 q5 hr hok
        have f0 := cell_kept q0 hb
        have f1 := cell_kept q1 hb
        have f2 := cell_kept q2 hb
        have f3 := cell_kept q3 hb
        have f4 := cell_kept q4 hb
        have f5 := cell_kept q5 hb
        have HX := Lib.hid hx
        have hV : HoV wr (.agg #[.int .i64 r.id, .int .i64 r.frm, .int .i64 r.til, s, .int .i64 r.fst, .int .i64 r.lst]) r := ⟨s, rfl, hr.below hb, hok⟩
        have HV := Lib.hid hV
        have g0 : (0 : Int) ≤ (k : Int) := by omega
        have g1 : (k : Int) < (xs.length : Int) := by omega
        have hw := hb.size
        clear q0 q1 q2 q3 q4 q5 hr hok hx e1 hV
        by_cases hfit : n < sz1Ho r
        · go_wp2_with fail
          refine (szHo_one _ r n _ HV.out hn0 (by omega)).mono ?_
          rw [if_pos (by omega)]
          rintro e w1 ⟨rfl, b2⟩
          go_wp2_with fail
          go_ret
          exact ⟨-1, rfl, Or.inl (by omega), Or.inr rfl, by omega, hb.trans (b2.mono hw)⟩
        · go_wp2_with fail
          refine (szHo_one _ r n _ HV.out hn0 (by omega)).mono ?_
          rw [if_neg (by omega)]
          rintro e w1 ⟨rfl, b2⟩
          go_wp2_with fail
          go_roundw
          case rel =>
            refine ⟨k + 1, n - sz1Ho r, by omega, by go_num, rfl, Lib.hid ?_, by omega, by omega, hb.trans (b2.mono hw)⟩
            have h1 := szHo_take_succ xs k hlt
            rw [HX.out] at h1
            have h2 := HN.out
            omega
          case measure => simp [intOf]; omega
      · obtain rfl : k = xs.length := by omega
        go_wp2_with fail
        go_ret
        refine ⟨n, rfl, Or.inr ?_, Or.inl hn0, hnl, hb⟩
        have := HN.out
        rw [List.take_length] at this
        omega

set_option maxHeartbeats 1000000 in
theorem eqHo_any (v1 v2 : Value) (a b : Ho) (w : World) (h1 : HoV w v1 a) (h2 : HoV w v2 b) :
    Calls Try.prog 80 #[v1, v2] w fun e w' => e = .returned (.bool (decide (a = b))) ∧ Below w.heap.size w w' := by
  obtain ⟨s1, rfl, h1, _⟩ := h1
  obtain ⟨s2, rfl, h2, _⟩ := h2
  obtain ⟨a0, a1, a2, a3, a4, a5⟩ := a
  obtain ⟨b0, b1, b2, b3, b4, b5⟩ := b
  have H1 := Lib.hid h1
  have H2 := Lib.hid h2
  clear h1 h2
  by_cases h0 : a0 = b0
  · subst h0
    by_cases h1 : a1 = b1
    · subst h1
      by_cases h2 : a2 = b2
      · subst h2
        obtain ⟨bb, hbb⟩ : ∃ bb, decide (a3 = b3) = bb := ⟨_, rfl⟩
        have hcall : ∀ W : World, Below w.heap.size w W → Calls Try.prog 24 #[s1, s2] W fun e w' => e = .returned (.bool bb) ∧ Below W.heap.size W w' := fun W hW => by
          have := eqIntS_any s1 s2 a3 b3 W (H1.out.below hW) (H2.out.below hW)
          rwa [hbb] at this
        cases bb
        · have HG : Hid (decide ((⟨a0, a1, a2, a3, a4, a5⟩ : Ho) = ⟨a0, a1, a2, b3, b4, b5⟩) = false) := Lib.hid (decide_eq_false (fun e => by injection e; have := of_decide_eq_false hbb; contradiction))
          clear hbb
          go_enter Try.func80, Try.ntmps80
          go_wp2_with (first | (go_at_call 24; refine (hcall _ (below_al (below_al (Below.refl _ _) _) _)).mono ?_; rintro e w' ⟨rfl, hb'⟩; have hbl0 := (hb'.block w.heap.size (by simp; omega)).trans ((Below.heap_alloc _ _ _ (by simp)).trans (heap_alloc_new' _ _ (by simp))); have hbl1 := (hb'.block (w.heap.size + 1) (by simp)).trans (heap_alloc_new' _ _ (by simp)); have oa4 := blk_cell hbl0 4; simp at oa4; have ob4 := blk_cell hbl1 4; simp at ob4; have oa5 := blk_cell hbl0 5; simp at oa5; have ob5 := blk_cell hbl1 5; simp at ob5; clear hbl0 hbl1))
          go_ret
          exact ⟨ret_bool (Eq.symm HG.out), below_chain (below_al (below_al (Below.refl _ _) _) _) hb'⟩
        · have hJ := of_decide_eq_true hbb
          subst hJ
          clear hbb
          by_cases h4 : a4 = b4
          · subst h4
            by_cases h5 : a5 = b5
            · subst h5
              have HG : Hid (decide ((⟨a0, a1, a2, a3, a4, a5⟩ : Ho) = ⟨a0, a1, a2, a3, a4, a5⟩) = true) := Lib.hid (decide_eq_true rfl)
              have e10 : (a0 != a0) = false := by simp
              have e11 : (a1 != a1) = false := by simp
              have e12 : (a2 != a2) = false := by simp
              have e14 : (a4 != a4) = false := by simp
              have e15 : (a5 != a5) = false := by simp
              go_enter Try.func80, Try.ntmps80
              go_wp2_with (first | (go_at_call 24; refine (hcall _ (below_al (below_al (Below.refl _ _) _) _)).mono ?_; rintro e w' ⟨rfl, hb'⟩; have hbl0 := (hb'.block w.heap.size (by simp; omega)).trans ((Below.heap_alloc _ _ _ (by simp)).trans (heap_alloc_new' _ _ (by simp))); have hbl1 := (hb'.block (w.heap.size + 1) (by simp)).trans (heap_alloc_new' _ _ (by simp)); have oa4 := blk_cell hbl0 4; simp at oa4; have ob4 := blk_cell hbl1 4; simp at ob4; have oa5 := blk_cell hbl0 5; simp at oa5; have ob5 := blk_cell hbl1 5; simp at ob5; clear hbl0 hbl1))
              go_ret
              exact ⟨ret_bool (Eq.symm HG.out), below_chain (below_al (below_al (Below.refl _ _) _) _) hb'⟩
            · have HG : Hid (decide ((⟨a0, a1, a2, a3, a4, a5⟩ : Ho) = ⟨a0, a1, a2, a3, a4, b5⟩) = false) := Lib.hid (decide_eq_false (fun e => by injection e; contradiction))
              have e1 : (a5 != b5) = true := by simp [h5]
              clear h5
              have e10 : (a0 != a0) = false := by simp
              have e11 : (a1 != a1) = false := by simp
              have e12 : (a2 != a2) = false := by simp
              have e14 : (a4 != a4) = false := by simp
              go_enter Try.func80, Try.ntmps80
              go_wp2_with (first | (go_at_call 24; refine (hcall _ (below_al (below_al (Below.refl _ _) _) _)).mono ?_; rintro e w' ⟨rfl, hb'⟩; have hbl0 := (hb'.block w.heap.size (by simp; omega)).trans ((Below.heap_alloc _ _ _ (by simp)).trans (heap_alloc_new' _ _ (by simp))); have hbl1 := (hb'.block (w.heap.size + 1) (by simp)).trans (heap_alloc_new' _ _ (by simp)); have oa4 := blk_cell hbl0 4; simp at oa4; have ob4 := blk_cell hbl1 4; simp at ob4; have oa5 := blk_cell hbl0 5; simp at oa5; have ob5 := blk_cell hbl1 5; simp at ob5; clear hbl0 hbl1))
              go_ret
              exact ⟨ret_bool (Eq.symm HG.out), below_chain (below_al (below_al (Below.refl _ _) _) _) hb'⟩
          · have HG : Hid (decide ((⟨a0, a1, a2, a3, a4, a5⟩ : Ho) = ⟨a0, a1, a2, a3, b4, b5⟩) = false) := Lib.hid (decide_eq_false (fun e => by injection e; contradiction))
            have e1 : (a4 != b4) = true := by simp [h4]
            clear h4
            have e10 : (a0 != a0) = false := by simp
            have e11 : (a1 != a1) = false := by simp
            have e12 : (a2 != a2) = false := by simp
            go_enter Try.func80, Try.ntmps80
            go_wp2_with (first | (go_at_call 24; refine (hcall _ (below_al (below_al (Below.refl _ _) _) _)).mono ?_; rintro e w' ⟨rfl, hb'⟩; have hbl0 := (hb'.block w.heap.size (by simp; omega)).trans ((Below.heap_alloc _ _ _ (by simp)).trans (heap_alloc_new' _ _ (by simp))); have hbl1 := (hb'.block (w.heap.size + 1) (by simp)).trans (heap_alloc_new' _ _ (by simp)); have oa4 := blk_cell hbl0 4; simp at oa4; have ob4 := blk_cell hbl1 4; simp at ob4; have oa5 := blk_cell hbl0 5; simp at oa5; have ob5 := blk_cell hbl1 5; simp at ob5; clear hbl0 hbl1))
            go_ret
            exact ⟨ret_bool (Eq.symm HG.out), below_chain (below_al (below_al (Below.refl _ _) _) _) hb'⟩
      · have e1 : (a2 != b2) = true := by simp [h2]
        have e10 : (a0 != a0) = false := by simp
        have e11 : (a1 != a1) = false := by simp
        go_enter Try.func80, Try.ntmps80
        go_wp2_with fail
        go_ret
        exact ⟨ret_bool (by first | (simp; done) | simp [h2]), below_al (below_al (Below.refl _ _) _) _⟩
    · have e1 : (a1 != b1) = true := by simp [h1]
      have e10 : (a0 != a0) = false := by simp
      go_enter Try.func80, Try.ntmps80
      go_wp2_with fail
      go_ret
      exact ⟨ret_bool (by first | (simp; done) | simp [h1]), below_al (below_al (Below.refl _ _) _) _⟩
  · have e1 : (a0 != b0) = true := by simp [h0]
    go_enter Try.func80, Try.ntmps80
    go_wp2_with fail
    go_ret
    exact ⟨ret_bool (by first | (simp; done) | simp [h0]), below_al (below_al (Below.refl _ _) _) _⟩

set_option maxHeartbeats 1000000 in
theorem eqHoS_any (v1 v2 : Value) (xs ys : List Ho) (w : World) (h1 : RowR 6 rHo w v1 xs) (h2 : RowR 6 rHo w v2 ys) :
    Calls Try.prog 19 #[v1, v2] w fun e w' => e = .returned (.bool (decide (xs = ys))) ∧ Below w.heap.size w w' := by
  have hx := h1.cap
  have hy := h2.cap
  obtain ⟨a1, c1, rfl, hl1, hm1, r1⟩ := h1.hos
  obtain ⟨a2, c2, rfl, hl2, hm2, r2⟩ := h2.hos
  clear h1 h2
  by_cases hlen : xs.length = ys.length
  · have hLen := Lib.hid hlen
    have hne : (((xs.length : Nat) : Int) != (xs.length : Int)) = false := by simp
    rw [← hlen]
    clear hlen
    have R1 := Lib.hid r1
    have R2 := Lib.hid r2
    clear r1 r2
    go_enter Try.func19, Try.ntmps19
    go_wp2
    go_loopw [5] (fun i wr => ∃ k : Nat, k ≤ xs.length ∧ i = .int .i64 k ∧ Hid (∀ j, j < k → xs.getD j hoD = ys.getD j hoD) ∧ Below w.heap.size w wr) (fun i _ => xs.length - (intOf i).toNat)
    case atStart => exact ⟨0, Nat.zero_le _, rfl, Lib.hid (fun j h => by omega), Below.refl _ _⟩
    case round =>
      obtain ⟨k, hk, rfl, HJ, hb⟩ := hrel
      by_cases hlt : k < xs.length
      · obtain ⟨b1, o1, hb1, rfl, e1⟩ := R1.out.resolve_left (fun e => by rw [e] at hlt; simp at hlt)
        obtain ⟨b2, o2, hb2, rfl, e2⟩ := R2.out.resolve_left (fun e => by have := hLen.out; rw [e] at this; simp at this; rw [this] at hlt; simp at hlt)
        obtain ⟨s1, q0, q1, q2, q3, q4, q5, hr1, hok1⟩ := e1 k hlt
        obtain ⟨s2, z0, z1, z2, z3, z4, z5, hr2, hok2⟩ := e2 k (by have := hLen.out; omega)
        obtain ⟨r1, hx⟩ : ∃ s, xs.getD k hoD = s := ⟨_, rfl⟩
        obtain ⟨r2, hy⟩ : ∃ s, ys.getD k hoD = s := ⟨_, rfl⟩
        rw [hx] at q0 q1 q2 q4 q5 hr1 hok1
        rw [hy] at z0 z1 z2 z4 z5 hr2 hok2
        have f10 := cell_kept q0 hb
        have f11 := cell_kept q1 hb
        have f12 := cell_kept q2 hb
        have f13 := cell_kept q3 hb
        have f14 := cell_kept q4 hb
        have f15 := cell_kept q5 hb
        have f20 := cell_kept z0 hb
        have f21 := cell_kept z1 hb
        have f22 := cell_kept z2 hb
        have f23 := cell_kept z3 hb
        have f24 := cell_kept z4 hb
        have f25 := cell_kept z5 hb
        have hV1 : ∀ W, Below wr.heap.size wr W → HoV W (.agg #[.int .i64 r1.id, .int .i64 r1.frm, .int .i64 r1.til, s1, .int .i64 r1.fst, .int .i64 r1.lst]) r1 := fun W hW => ⟨s1, rfl, (hr1.below hb).below hW, hok1⟩
        have hV2 : ∀ W, Below wr.heap.size wr W → HoV W (.agg #[.int .i64 r2.id, .int .i64 r2.frm, .int .i64 r2.til, s2, .int .i64 r2.fst, .int .i64 r2.lst]) r2 := fun W hW => ⟨s2, rfl, (hr2.below hb).below hW, hok2⟩
        have HV1 := Lib.hid hV1
        have HV2 := Lib.hid hV2
        have HX := Lib.hid hx
        have HY := Lib.hid hy
        have hsz := hb.size
        have g0 : (0 : Int) ≤ (k : Int) := by omega
        have g1 : (k : Int) < (xs.length : Int) := by omega
        clear q0 q1 q2 q3 q4 q5 z0 z1 z2 z3 z4 z5 hr1 hr2 hok1 hok2 e1 e2 hx hy hV1 hV2
        obtain ⟨bb, hbb⟩ : ∃ bb, decide (r1 = r2) = bb := ⟨_, rfl⟩
        have HB := Lib.hid hbb
        clear hbb
        cases bb
        all_goals
          go_wp2_with fail
          go_region_held3 (fun w' => w'.cell? ⟨b1, o1 + k * 6, none⟩ = some (.int .i64 r1.id) ∧ w'.cell? ⟨b1, o1 + k * 6 + 1, none⟩ = some (.int .i64 r1.frm) ∧ w'.cell? ⟨b1, o1 + k * 6 + 2, none⟩ = some (.int .i64 r1.til) ∧ w'.cell? ⟨b1, o1 + k * 6 + 3, none⟩ = some s1 ∧ w'.cell? ⟨b1, o1 + k * 6 + 4, none⟩ = some (.int .i64 r1.fst) ∧ w'.cell? ⟨b1, o1 + k * 6 + 5, none⟩ = some (.int .i64 r1.lst) ∧ w'.cell? ⟨b2, o2 + k * 6, none⟩ = some (.int .i64 r2.id) ∧ w'.cell? ⟨b2, o2 + k * 6 + 1, none⟩ = some (.int .i64 r2.frm) ∧ w'.cell? ⟨b2, o2 + k * 6 + 2, none⟩ = some (.int .i64 r2.til) ∧ w'.cell? ⟨b2, o2 + k * 6 + 3, none⟩ = some s2 ∧ w'.cell? ⟨b2, o2 + k * 6 + 4, none⟩ = some (.int .i64 r2.fst) ∧ w'.cell? ⟨b2, o2 + k * 6 + 5, none⟩ = some (.int .i64 r2.lst))
            (first | exact ⟨f10, f11, f12, f13, f14, f15, f20, f21, f22, f23, f24, f25⟩ | exact ⟨cell_keptd f10 b7, cell_keptd f11 b7, cell_keptd f12 b7, cell_keptd f13 b7, cell_keptd f14 b7, cell_keptd f15 b7, cell_keptd f20 b7, cell_keptd f21 b7, cell_keptd f22 b7, cell_keptd f23 b7, cell_keptd f24 b7, cell_keptd f25 b7⟩)
            (first | (go_at_call 80; refine (eqHo_any _ _ r1 r2 _ (HV1.out _ (Below.refl _ _).drew) (HV2.out _ (Below.refl _ _).drew)).mono ?_; rw [HB.out]; rintro e w7 ⟨rfl, b7⟩))
        · go_wp2_with fail
          go_ret
          refine ⟨ret_bool (Eq.symm (decide_eq_false fun e => ?_)), hb.drew.trans (b7.mono hsz)⟩
          have h1 := of_decide_eq_false HB.out
          subst e
          exact h1 (HX.out.symm.trans HY.out)
        · go_wp2_with fail
          go_roundw
          case rel =>
            refine ⟨k + 1, by omega, by go_num, Lib.hid (fun j h => ?_), hb.drew.trans (b7.mono hsz)⟩
            rcases Nat.lt_or_ge j k with h' | h'
            · exact HJ.out j h'
            · obtain rfl : j = k := by omega
              rw [HX.out, HY.out]
              exact of_decide_eq_true HB.out
          case measure => simp [intOf]; omega
      · go_wp2_with fail
        go_ret
        refine ⟨ret_bool (Eq.symm (decide_eq_true ?_)), hb⟩
        refine List.ext_getElem hLen.out fun i a b => ?_
        have := HJ.out i (by omega)
        rwa [getHo_lt a, getHo_lt b] at this
  · have hne : (((xs.length : Nat) : Int) != (ys.length : Int)) = true := by simp; omega
    rw [decide_eq_false (fun e => hlen (by rw [e]))]
    go_enter Try.func19, Try.ntmps19
    go_wp2
    go_ret
    exact ⟨rfl, Below.refl _ _⟩
end Go.Proofs.Ytkjpehpodlpdhaa

namespace Go.Proofs.Ytkjpehpodlpdhaa
set_option linter.unusedVariables false
open Go.RowKit

def mtGo : Nat → Nat → List UInt8 → List UInt8
  | 0, _, acc => acc
  | f + 1, k, acc => if k = 0 then acc else mtGo f (k / 10) ((48 + UInt8.ofNat (k % 10)) :: acc)
def mt (k : Nat) : List UInt8 := 109 :: mtGo k k []
theorem mtGo_step (f k : Nat) (acc : List UInt8) (h : 0 < k) : mtGo (f + 1) k acc = mtGo f (k / 10) ((48 + UInt8.ofNat (k % 10)) :: acc) := by
  simp only [mtGo]; rw [if_neg (by omega)]
theorem mtGo_more (f : Nat) : ∀ (k : Nat) (acc : List UInt8), k ≤ f → ∀ g, k ≤ g → mtGo f k acc = mtGo g k acc := by
  induction f with
  | zero => intro k acc h g hg; obtain rfl : k = 0 := by omega
            cases g with
            | zero => rfl
            | succ g => simp [mtGo]
  | succ f ih =>
    intro k acc h g hg
    by_cases hk : k = 0
    · subst hk; cases g with
      | zero => simp [mtGo]
      | succ g => simp [mtGo]
    · obtain ⟨g', rfl⟩ : ∃ g', g = g' + 1 := ⟨g - 1, by omega⟩
      rw [mtGo_step _ _ _ (by omega), mtGo_step _ _ _ (by omega)]
      exact ih _ _ (by omega) _ (by omega)

/-- 'string([]byte{x})': the block has just been laid. -/
theorem conv_one (w : World) (x : Int) : (convert 73 9 (.slice (some ⟨w.heap.size, 0, none⟩) 1 1)).run Try.prog (w.alloc (.cells #[.int .u8 x] 5)) = .ok (.string ⟨#[UInt8.ofNat x.toNat]⟩) (w.alloc (.cells #[.int .u8 x] 5)) := by
  refine (run_convert_bytes_arg _ 73 5 Try.underlying73 Try.underlying5 w.heap.size 0 1 1 [x] rfl (fun i hi => by
    obtain rfl : i = 0 := by omega
    simp [World.cell?_alloc_mark]) 9 Try.underlying9).trans ?_
  simp [strOfNums]

theorem cat_lit (c : UInt8) (out : List UInt8) : (⟨#[c]⟩ : ByteArray) ++ ⟨out.toArray⟩ = ⟨(c :: out).toArray⟩ := by
  rfl

end Go.Proofs.Ytkjpehpodlpdhaa

namespace Go.Proofs.Ytkjpehpodlpdhaa
set_option linter.unusedVariables false
open Go.RowKit


theorem mtGo_len : ∀ (f k : Nat) (acc : List UInt8), (mtGo f k acc).length ≤ acc.length + f
  | 0, _, acc => by simp [mtGo]
  | f + 1, k, acc => by
    unfold mtGo
    split
    · omega
    · have := mtGo_len f (k / 10) ((48 + UInt8.ofNat (k % 10)) :: acc)
      simp only [List.length_cons] at this
      omega
theorem mt_size_ok (k : Nat) (h : k ≤ 1099511627776) : (⟨(mt k).toArray⟩ : ByteArray).size ≤ maxLen := by
  have := mtGo_len k k []
  show (mt k).toArray.size ≤ maxLen
  simp only [List.size_toArray, mt, List.length_cons, List.length_nil, maxLen] at *
  omega
end Go.Proofs.Ytkjpehpodlpdhaa

namespace Go.Proofs.Ytkjpehpodlpdhaa
set_option linter.unusedVariables false
open Go.RowKit

def msHo (xs : List Ho) : Nat := (xs.map (fun x => x.ser.length)).sum
theorem msHo_take_succ (xs : List Ho) (k : Nat) (h : k < xs.length) : msHo (xs.take (k + 1)) = msHo (xs.take k) + xs[k].ser.length := by
  unfold msHo
  rw [List.take_add_one, List.getElem?_eq_getElem h, List.map_append, List.sum_append]
  simp only [Option.toList_some, List.map_cons, List.map_nil, List.sum_cons, List.sum_nil, Nat.add_zero]
theorem msHo_take_le (xs : List Ho) (k : Nat) : msHo (xs.take k) ≤ msHo xs := by
  have h : msHo xs = msHo (xs.take k) + msHo (xs.drop k) := by
    unfold msHo
    rw [← List.sum_append, ← List.map_append, List.take_append_drop]
  omega
theorem msHo_le (xs : List Ho) : msHo xs ≤ szHo xs * 4 := by
  induction xs with
  | nil => simp [msHo]
  | cons x xs ih =>
    have h := sz1Ho_len x
    simp only [msHo, szHo, List.map_cons, List.sum_cons] at ih ⊢
    omega

set_option maxHeartbeats 2000000 in
theorem markHoS_val (v : Value) (rs : List Ho) (lo hi k0 : Nat) (w : World) (hk0 : 1 ≤ k0) (hk1 : k0 + rs.length * 5 + msHo rs ≤ 1099511627776) (h : HosO lo hi w v rs) :
    Calls Try.prog 26 #[v, .int .i64 k0] w fun e w' => ∃ n : Nat, e = .returned (.int .i64 n) ∧ n = k0 + rs.length * 5 + msHo rs ∧ Only lo hi w w' := by
  obtain ⟨css, f, hl, ho, hu, hlo, hm, hhi, he⟩ := h
  rcases ho.form with ⟨rfl, h0⟩ | ⟨g, cap, hv, hg, hgl, hn, hmx⟩
  · have hx : rs = [] := by rw [h0] at hl; exact List.length_eq_zero_iff.1 hl.symm
    subst hx
    clear h0 ho he hl
    go_enter Try.func26, Try.ntmps26
    go_wp2
    refine wp_loop_rounds 1 ?_
    rw [rounds_succ]
    go_wp2
    go_ret
    exact ⟨k0, rfl, by simp [msHo], Only.refl _ _ _⟩
  · rw [hl] at hv hn
    subst hv
    unfold maxLen at hmx
    have hg0 : g < f 0 := hu g rfl
    have HM := Lib.hid hm
    have HL := Lib.hid hl
    have HO0 := Lib.hid ho
    have HE := Lib.hid he
    have HF := Lib.hid (And.intro hlo hhi)
    clear ho he hm hl hlo hhi hu
    go_enter Try.func26, Try.ntmps26
    go_wp2
    go_loopw [1, 5] (fun q i wr => ∃ (k n : Nat) (cs : List (List Value)), k ≤ rs.length ∧ i = .int .i64 k ∧ q = .int .i64 n ∧ Hid (n = k0 + k * 5 + msHo (rs.take k)) ∧ n ≤ 1099511627776 ∧
        Own lo 100 6 wr (.slice (some ⟨g, 0, none⟩) rs.length cap) cs ∧ Hid (cs.length = rs.length ∧ ∀ i (h1 : i < cs.length) (h2 : i < rs.length), k ≤ i → ∃ s, cs[i] = hoC rs[i] s ∧ IntsO (f i) (f (i + 1)) wr s rs[i].ser) ∧ Only lo hi w wr) (fun _ i _ => rs.length - (intOf i).toNat)
    case atStart => exact ⟨0, k0, css, Nat.zero_le _, rfl, rfl, Lib.hid (by simp [msHo]), by omega, HO0.out, Lib.hid ⟨HL.out, fun i h1 h2 _ => by obtain ⟨s, e1, e2, _⟩ := HE.out i h1 h2; exact ⟨s, e1, e2⟩⟩, Only.refl _ _ _⟩
    case round =>
      obtain ⟨k, n, cs, hk, rfl, rfl, HN, hnb, hO, I, hOn⟩ := hrel
      have HO := Lib.hid hO
      by_cases hlt : k < rs.length
      · obtain ⟨r, hx⟩ : ∃ r, rs[k] = r := ⟨_, rfl⟩
        obtain ⟨s, e1, e2⟩ := I.out.2 k (by rw [I.out.1]; exact hlt) hlt (Nat.le_refl _)
        obtain ⟨sa, sn, sc, rfl⟩ := e2.slice
        rw [hx] at e1 e2
        simp only [hoC] at e1
        have hkc : k < cs.length := by rw [I.out.1]; exact hlt
        have HKC := Lib.hid hkc
        have HX := Lib.hid hx
        have E2 := Lib.hid e2
        have HI : Hid (Own lo 100 6 wr (.slice (some ⟨g, 0, none⟩) rs.length cap) cs ∧ ∃ h : k < cs.length, cs[k] = [.int .i64 r.id, .int .i64 r.frm, .int .i64 r.til, .slice sa sn sc, .int .i64 r.fst, .int .i64 r.lst]) := ⟨HO.out, hkc, e1⟩
        have HON : Hid (Only g (g + 1) wr wr) := Lib.hid (Only.refl _ _ _)
        have g0 : (0 : Int) ≤ (k : Int) := by omega
        have g1 : (k : Int) < (rs.length : Int) := by omega
        have hszk := msHo_take_succ rs k hlt
        have hszl := msHo_take_le rs (k + 1)
        rw [hx] at hszk
        have hnn : n + 5 + r.ser.length ≤ 1099511627776 := by have := HN.out; omega
        have HSZ := Lib.hid hszk
        have c0 := HI.out.1.cell k 0 HI.out.2.1 (by omega)
        have c1 := HI.out.1.cell k 1 HI.out.2.1 (by omega)
        have c2 := HI.out.1.cell k 2 HI.out.2.1 (by omega)
        have c3 := HI.out.1.cell k 3 HI.out.2.1 (by omega)
        have c4 := HI.out.1.cell k 4 HI.out.2.1 (by omega)
        have c5 := HI.out.1.cell k 5 HI.out.2.1 (by omega)
        rw [HI.out.2.2] at c0 c1 c2 c3 c4 c5
        simp at c0 c1 c2 c3 c4 c5
        have fr0 := HI.out.1.frozen (k * 6)
        have fr1 := HI.out.1.frozen (k * 6 + 1)
        have fr2 := HI.out.1.frozen (k * 6 + 2)
        have fr3 := HI.out.1.frozen (k * 6 + 3)
        have fr4 := HI.out.1.frozen (k * 6 + 4)
        have fr5 := HI.out.1.frozen (k * 6 + 5)
        clear hO e1 e2 hx hszk hszl hkc HO
        go_wp2_with fail
        obtain ⟨p1, p2⟩ := Own.puts [.int .i64 ((n : Int)), .int .i64 ((n : Int) + 1), .int .i64 ((n : Int) + 1 + 1)] _ _ k 0 HI.out.2.1 (by simp) HI.out.1
        rw [HI.out.2.2] at p1
        simp only [setFrom, List.set_cons_zero, List.set_cons_succ, Nat.zero_add, Nat.add_zero] at p1 p2
        replace HI : Hid (Own lo 100 6 _ (.slice (some ⟨g, 0, none⟩) rs.length cap) (cs.set k [.int .i64 ((n : Int)), .int .i64 ((n : Int) + 1), .int .i64 ((n : Int) + 1 + 1), .slice sa sn sc, .int .i64 r.fst, .int .i64 r.lst]) ∧ ∃ h : k < (cs.set k [.int .i64 ((n : Int)), .int .i64 ((n : Int) + 1), .int .i64 ((n : Int) + 1 + 1), .slice sa sn sc, .int .i64 r.fst, .int .i64 r.lst]).length, (cs.set k [.int .i64 ((n : Int)), .int .i64 ((n : Int) + 1), .int .i64 ((n : Int) + 1 + 1), .slice sa sn sc, .int .i64 r.fst, .int .i64 r.lst])[k] = [.int .i64 ((n : Int)), .int .i64 ((n : Int) + 1), .int .i64 ((n : Int) + 1 + 1), .slice sa sn sc, .int .i64 r.fst, .int .i64 r.lst]) := ⟨p1, by simpa using HKC.out, by rw [List.getElem_set_self]⟩
        replace HON := Lib.hid (HON.out.trans (Only.of_grown (lo := g) (hi := g + 1) (v := .slice (some ⟨g, 0, none⟩) rs.length cap) p2 (fun g' hg' => by simp [Value.ownBlock] at hg'; omega) (fun g' hg' => by simp [Value.ownBlock] at hg'; omega)))
        clear p1 p2
        have hon := HON.out
        have hmk : ∀ i, i ≤ rs.length → g + 1 ≤ f i := fun i hi => Nat.le_trans hg0 (mono_up HM.out 0 i (Nat.zero_le _) hi)
        have hev := E2.out.only hon (hmk k (by omega))
        (first | rw [show (n : Int) + 1 + 1 + 1 = ((n + 3 : Nat) : Int) by omega] | rw [show (n : Int) + 3 = ((n + 3 : Nat) : Int) by omega])
        refine (markIntS_any _ r.ser (f k) (f (k + 1)) (n + 3) _ (by omega) (by omega) hev).mono ?_
        rintro e w2 ⟨rfl, _, hon2⟩
        clear hev
        obtain ⟨m, hm⟩ : ∃ m, n + 3 + r.ser.length = m := ⟨_, rfl⟩
        rw [hm]
        have HMM := Lib.hid hm
        have hmb : m + 2 ≤ 1099511627776 := by omega
        clear hm
        replace HI : Hid (_ ∧ _) := ⟨HI.out.1.only2 hon2 (fun g' hg' => by simp [Value.ownBlock] at hg'; have := hmk k (by omega); omega), HI.out.2⟩
        have HON3 : Hid (Only g (g + 1) w2 w2) := Lib.hid (Only.refl _ _ _)
        have c0 := HI.out.1.cell k 0 HI.out.2.1 (by omega)
        have c1 := HI.out.1.cell k 1 HI.out.2.1 (by omega)
        have c2 := HI.out.1.cell k 2 HI.out.2.1 (by omega)
        have c3 := HI.out.1.cell k 3 HI.out.2.1 (by omega)
        have c4 := HI.out.1.cell k 4 HI.out.2.1 (by omega)
        have c5 := HI.out.1.cell k 5 HI.out.2.1 (by omega)
        rw [HI.out.2.2] at c0 c1 c2 c3 c4 c5
        simp at c0 c1 c2 c3 c4 c5
        have fr0 := HI.out.1.frozen (k * 6)
        have fr1 := HI.out.1.frozen (k * 6 + 1)
        have fr2 := HI.out.1.frozen (k * 6 + 2)
        have fr3 := HI.out.1.frozen (k * 6 + 3)
        have fr4 := HI.out.1.frozen (k * 6 + 4)
        have fr5 := HI.out.1.frozen (k * 6 + 5)
        go_wp2_with fail
        obtain ⟨p1, p2⟩ := Own.puts [.int .i64 ((m : Int)), .int .i64 ((m : Int) + 1)] _ _ k 4 HI.out.2.1 (by simp) HI.out.1
        rw [HI.out.2.2] at p1
        simp only [setFrom, List.set_cons_zero, List.set_cons_succ, List.set_set] at p1 p2
        replace HI : Hid (Own lo 100 6 _ (.slice (some ⟨g, 0, none⟩) rs.length cap) (cs.set k [.int .i64 ((n : Int)), .int .i64 ((n : Int) + 1), .int .i64 ((n : Int) + 1 + 1), .slice sa sn sc, .int .i64 ((m : Int)), .int .i64 ((m : Int) + 1)]) ∧ ∃ h : k < (cs.set k [.int .i64 ((n : Int)), .int .i64 ((n : Int) + 1), .int .i64 ((n : Int) + 1 + 1), .slice sa sn sc, .int .i64 ((m : Int)), .int .i64 ((m : Int) + 1)]).length, (cs.set k [.int .i64 ((n : Int)), .int .i64 ((n : Int) + 1), .int .i64 ((n : Int) + 1 + 1), .slice sa sn sc, .int .i64 ((m : Int)), .int .i64 ((m : Int) + 1)])[k] = [.int .i64 ((n : Int)), .int .i64 ((n : Int) + 1), .int .i64 ((n : Int) + 1 + 1), .slice sa sn sc, .int .i64 ((m : Int)), .int .i64 ((m : Int) + 1)]) := ⟨p1, by simpa using HKC.out, by rw [List.getElem_set_self]⟩
        replace HON3 := Lib.hid (HON3.out.trans (Only.of_grown (lo := g) (hi := g + 1) (v := .slice (some ⟨g, 0, none⟩) rs.length cap) p2 (fun g' hg' => by simp [Value.ownBlock] at hg'; omega) (fun g' hg' => by simp [Value.ownBlock] at hg'; omega)))
        clear p1 p2
        have hon3 := HON3.out
        go_wp2_with fail
        go_roundw
        case rel =>
          have hfl : lo ≤ f k := Nat.le_trans HF.out.1 (mono_up HM.out 0 k (Nat.zero_le _) (by omega))
          have hfh : f (k + 1) ≤ hi := Nat.le_trans (mono_up HM.out (k + 1) rs.length (by omega) (Nat.le_refl _)) HF.out.2
          have hgh : g + 1 ≤ hi := Nat.le_trans (hmk rs.length (Nat.le_refl _)) HF.out.2
          refine ⟨k + 1, n + 5 + r.ser.length, _, by omega, by go_num, by rw [show n + 5 + r.ser.length = m + 2 by have := HMM.out; omega]; go_num, Lib.hid (by have h1 := HN.out; have h2 := HSZ.out; omega), hnn, HI.out.1,
            Lib.hid ⟨by simpa using I.out.1, fun i h1 h2 h3 => ?_⟩, ((hOn.trans (hon.wide hg hgh)).trans (hon2.wide hfl hfh)).trans (hon3.wide hg hgh)⟩
          obtain ⟨s, q1, q2⟩ := I.out.2 i (by rw [I.out.1]; exact h2) h2 (by omega)
          exact ⟨s, by simpa [List.getElem_set_ne (show k ≠ i by omega)] using q1, ((q2.only hon (hmk i (by omega))).only hon2 (mono_up HM.out (k + 1) i h3 (by omega))).only hon3 (hmk i (by omega))⟩
        case measure => simp [intOf]; omega
      · clear hO
        go_wp2_with fail
        go_ret
        exact ⟨n, rfl, by have h1 := HN.out; obtain rfl : k = rs.length := (by omega); rwa [List.take_length] at h1, hOn⟩
end Go.Proofs.Ytkjpehpodlpdhaa

namespace Go.Proofs.Ytkjpehpodlpdhaa
set_option linter.unusedVariables false
open Go.RowKit

def szRu (xs : List Ru) : Nat := 0
/-- The size: what is left over, or -1. -/
theorem szRuS_any (v : Value) (xs : List Ru) (left : Int) (w : World) (h : RowR 4 rRu w v xs) (h0 : 0 ≤ left) (h2 : left ≤ 1099511627776) :
    Calls Try.prog 41 #[v, .int .i64 left] w fun e w' => ∃ n : Int, e = .returned (.int .i64 n) ∧ (n < 0 ∨ (xs.length : Int) + szRu xs ≤ left) ∧ (0 ≤ n ∨ n = -1) ∧ n ≤ left ∧ Below w.heap.size w w' := by
  have hcap := h.cap
  obtain ⟨a1, c1, rfl, hl1, hm1, r1⟩ := h
  by_cases hb : left < xs.length
  · go_enter Try.func41, Try.ntmps41
    go_wp2
    go_ret
    exact ⟨-1, rfl, Or.inl (by omega), Or.inr rfl, by omega, Below.refl _ _⟩
  · go_enter Try.func41, Try.ntmps41
    go_wp2
    go_ret
    exact ⟨left - xs.length, rfl, Or.inr (by simp [szRu]; omega), Or.inl (by omega), by omega, Below.refl _ _⟩

theorem eqRu_any (a b : Ru) (w : World) :
    Calls Try.prog 107 #[.agg #[.int .i64 a.series, .int .i64 a.event, .int .i64 a.days, .int .i64 a.act], .agg #[.int .i64 b.series, .int .i64 b.event, .int .i64 b.days, .int .i64 b.act]] w fun e w' => e = .returned (.bool (decide (a = b))) ∧ Below w.heap.size w w' := by
  obtain ⟨a0, a1, a2, a3⟩ := a
  obtain ⟨b0, b1, b2, b3⟩ := b
  by_cases h0 : a0 = b0
  · subst h0
    by_cases h1 : a1 = b1
    · subst h1
      by_cases h2 : a2 = b2
      · subst h2
        by_cases h3 : a3 = b3
        · subst h3
          go_enter Try.func107, Try.ntmps107
          go_wp2_with fail
          go_ret
          exact ⟨ret_bool (by simp), below_al (below_al (Below.refl _ _) _) _⟩
        · have e1 : (a3 != b3) = true := by simp [h3]
          have e10 : (a0 != a0) = false := by simp
          have e11 : (a1 != a1) = false := by simp
          have e12 : (a2 != a2) = false := by simp
          go_enter Try.func107, Try.ntmps107
          go_wp2_with fail
          go_ret
          exact ⟨ret_bool (by simp [h3]), below_al (below_al (Below.refl _ _) _) _⟩
      · have e1 : (a2 != b2) = true := by simp [h2]
        have e10 : (a0 != a0) = false := by simp
        have e11 : (a1 != a1) = false := by simp
        go_enter Try.func107, Try.ntmps107
        go_wp2_with fail
        go_ret
        exact ⟨ret_bool (by simp [h2]), below_al (below_al (Below.refl _ _) _) _⟩
    · have e1 : (a1 != b1) = true := by simp [h1]
      have e10 : (a0 != a0) = false := by simp
      go_enter Try.func107, Try.ntmps107
      go_wp2_with fail
      go_ret
      exact ⟨ret_bool (by simp [h1]), below_al (below_al (Below.refl _ _) _) _⟩
  · have e1 : (a0 != b0) = true := by simp [h0]
    go_enter Try.func107, Try.ntmps107
    go_wp2_with fail
    go_ret
    exact ⟨ret_bool (by simp [h0]), below_al (below_al (Below.refl _ _) _) _⟩

set_option maxHeartbeats 1000000 in
theorem eqRuS_any (v1 v2 : Value) (xs ys : List Ru) (w : World) (h1 : RowR 4 rRu w v1 xs) (h2 : RowR 4 rRu w v2 ys) :
    Calls Try.prog 45 #[v1, v2] w fun e w' => e = .returned (.bool (decide (xs = ys))) ∧ Below w.heap.size w w' := by
  have hx := h1.cap
  have hy := h2.cap
  obtain ⟨a1, c1, rfl, hl1, hm1, r1⟩ := h1
  obtain ⟨a2, c2, rfl, hl2, hm2, r2⟩ := h2
  by_cases hlen : xs.length = ys.length
  · have hLen := Lib.hid hlen
    have hne : (((xs.length : Nat) : Int) != (xs.length : Int)) = false := by simp
    rw [← hlen]
    clear hlen
    have R1 := Lib.hid r1
    have R2 := Lib.hid r2
    clear r1 r2
    go_enter Try.func45, Try.ntmps45
    go_wp2
    go_loopw [5] (fun i wr => ∃ k : Nat, k ≤ xs.length ∧ i = .int .i64 k ∧ (∀ j (h : j < k) (h1 : j < xs.length) (h2 : j < ys.length), xs[j] = ys[j]) ∧ Below w.heap.size w wr) (fun i _ => xs.length - (intOf i).toNat)
    case atStart => exact ⟨0, Nat.zero_le _, rfl, fun j h => by omega, Below.refl _ _⟩
    case round =>
      obtain ⟨k, hk, rfl, hj, hb⟩ := hrel
      have HJ := Lib.hid hj
      clear hj
      by_cases hlt : k < xs.length
      · obtain ⟨b1, o1, hb1, rfl, e1⟩ := R1.out.resolve_left (fun e => by rw [e] at hlt; simp at hlt)
        obtain ⟨b2, o2, hb2, rfl, e2⟩ := R2.out.resolve_left (fun e => by have := hLen.out; rw [e] at this; simp at this; rw [this] at hlt; simp at hlt)
        obtain ⟨⟨x0, x1, x2, x3⟩, hx⟩ : ∃ s, xs[k] = s := ⟨_, rfl⟩
        obtain ⟨⟨y0, y1, y2, y3⟩, hy⟩ : ∃ s, ys[k]'(by have := hLen.out; omega) = s := ⟨_, rfl⟩
        obtain ⟨cs1, hcl1, hcs1, hre1⟩ := e1 k hlt
        obtain ⟨cs2, hcl2, hcs2, hre2⟩ := e2 k (by have := hLen.out; omega)
        rw [hx] at hre1
        rw [hy] at hre2
        obtain ⟨rfl, hok1⟩ := hre1
        obtain ⟨rfl, hok2⟩ := hre2
        have fa0 := (hb.cell (p := ⟨b1, o1 + k * 4, none⟩) hb1).trans (hcs1 0 (by simp only [ruC, List.length_cons, List.length_nil]; omega))
        have fa1 := (hb.cell (p := ⟨b1, o1 + k * 4 + 1, none⟩) hb1).trans (hcs1 1 (by simp only [ruC, List.length_cons, List.length_nil]; omega))
        have fa2 := (hb.cell (p := ⟨b1, o1 + k * 4 + 2, none⟩) hb1).trans (hcs1 2 (by simp only [ruC, List.length_cons, List.length_nil]; omega))
        have fa3 := (hb.cell (p := ⟨b1, o1 + k * 4 + 3, none⟩) hb1).trans (hcs1 3 (by simp only [ruC, List.length_cons, List.length_nil]; omega))
        have fb0 := (hb.cell (p := ⟨b2, o2 + k * 4, none⟩) hb2).trans (hcs2 0 (by simp only [ruC, List.length_cons, List.length_nil]; omega))
        have fb1 := (hb.cell (p := ⟨b2, o2 + k * 4 + 1, none⟩) hb2).trans (hcs2 1 (by simp only [ruC, List.length_cons, List.length_nil]; omega))
        have fb2 := (hb.cell (p := ⟨b2, o2 + k * 4 + 2, none⟩) hb2).trans (hcs2 2 (by simp only [ruC, List.length_cons, List.length_nil]; omega))
        have fb3 := (hb.cell (p := ⟨b2, o2 + k * 4 + 3, none⟩) hb2).trans (hcs2 3 (by simp only [ruC, List.length_cons, List.length_nil]; omega))
        simp [ruC] at fa0 fa1 fa2 fa3 fb0 fb1 fb2 fb3
        have HX := Lib.hid hx
        have HY := Lib.hid hy
        have hsz := hb.size
        have hb1' : b1 < wr.heap.size := by omega
        have hb2' : b2 < wr.heap.size := by omega
        have g0 : (0 : Int) ≤ (k : Int) := by omega
        have g1 : (k : Int) < (xs.length : Int) := by omega
        clear hcs1 hcs2 hcl1 hcl2 e1 e2 hx hy R1 R2 hok1 hok2
        obtain ⟨bb, hbb⟩ : ∃ bb, decide ((⟨x0, x1, x2, x3⟩ : Ru) = ⟨y0, y1, y2, y3⟩) = bb := ⟨_, rfl⟩
        have hcall : ∀ W : World, Calls Try.prog 107 #[.agg #[.int .i64 x0, .int .i64 x1, .int .i64 x2, .int .i64 x3], .agg #[.int .i64 y0, .int .i64 y1, .int .i64 y2, .int .i64 y3]] W fun e w' => e = .returned (.bool bb) ∧ Below W.heap.size W w' := fun W => by
          have := eqRu_any ⟨x0, x1, x2, x3⟩ ⟨y0, y1, y2, y3⟩ W
          rwa [hbb] at this
        have HB := Lib.hid hbb
        clear hbb
        go_wp2_with fail
        go_region_held3 (fun w' => w'.cell? ⟨b1, o1 + k * 4, none⟩ = some (.int .i64 x0) ∧ w'.cell? ⟨b1, o1 + k * 4 + 1, none⟩ = some (.int .i64 x1) ∧ w'.cell? ⟨b1, o1 + k * 4 + 2, none⟩ = some (.int .i64 x2) ∧ w'.cell? ⟨b1, o1 + k * 4 + 3, none⟩ = some (.int .i64 x3) ∧ w'.cell? ⟨b2, o2 + k * 4, none⟩ = some (.int .i64 y0) ∧ w'.cell? ⟨b2, o2 + k * 4 + 1, none⟩ = some (.int .i64 y1) ∧ w'.cell? ⟨b2, o2 + k * 4 + 2, none⟩ = some (.int .i64 y2) ∧ w'.cell? ⟨b2, o2 + k * 4 + 3, none⟩ = some (.int .i64 y3)) (first | go_keep | (refine ⟨?_, ?_, ?_, ?_, ?_, ?_, ?_, ?_⟩ <;> (rw [hb'.cell (by simp; omega)]; assumption)))
          (first | (go_at_call 107; refine (hcall _).mono ?_; rintro e w' ⟨rfl, hb'⟩))
        cases bb
        · go_wp2
          go_ret
          refine ⟨ret_bool (Eq.symm (decide_eq_false fun e => ?_)), hb.drew.trans (hb'.mono hsz)⟩
          have h1 := of_decide_eq_false HB.out
          subst e
          exact h1 (HX.out.symm.trans HY.out)
        · go_wp2
          go_roundw
          case rel =>
            exact ⟨k + 1, by omega, by go_num, fun j h a b => (by
              rcases Nat.lt_or_ge j k with h' | h'
              · exact HJ.out j h' a b
              · obtain rfl : j = k := by omega
                exact (HX.out.trans (of_decide_eq_true HB.out)).trans HY.out.symm), hb.drew.trans (hb'.mono hsz)⟩
          case measure => simp [intOf]; omega
      · go_wp2
        go_ret
        refine ⟨ret_bool (Eq.symm (decide_eq_true ?_)), hb⟩
        exact List.ext_getElem hLen.out fun i a b => HJ.out i (by omega) a b
  · have hne : (((xs.length : Nat) : Int) != (ys.length : Int)) = true := by simp; omega
    rw [decide_eq_false (fun e => hlen (by rw [e]))]
    go_enter Try.func45, Try.ntmps45
    go_wp2
    go_ret
    exact ⟨rfl, Below.refl _ _⟩
end Go.Proofs.Ytkjpehpodlpdhaa

namespace Go.Proofs.Ytkjpehpodlpdhaa
set_option linter.unusedVariables false
open Go.RowKit

def mEv (k i : Nat) : Ev := ⟨(k + i * 2 : Nat), (k + i * 2 + 1 : Nat)⟩
def mEvs (k n : Nat) : List Ev := (List.range n).map (mEv k)
theorem mEvs_len (k n : Nat) : (mEvs k n).length = n := by simp [mEvs]
theorem mEv_ok (k i : Nat) (h : k + i * 2 + 1 ≤ 1099511627776) : (mEv k i).ok := ⟨by simp only [mEv, inI]; omega, by simp only [mEv, inI]; omega⟩
theorem mkd_ok {k0 : Nat} {xs : List Ev} (h : ∀ e ∈ xs, e.ok) (k : Nat) (hk : k ≤ xs.length) (hb : k0 + xs.length * 2 ≤ 1099511627776) : ∀ e ∈ mkd (mEv k0) xs k, e.ok := by
  intro e he
  unfold mkd at he
  rcases List.mem_append.1 he with h1 | h1
  · obtain ⟨i, hi, rfl⟩ := List.mem_map.1 h1
    exact mEv_ok _ _ (by have := List.mem_range.1 hi; omega)
  · exact h e (List.mem_of_mem_drop h1)

set_option maxHeartbeats 1000000 in
theorem markEventS_any (v : Value) (xs : List Ev) (lo hi k0 : Nat) (w : World) (hk0 : 1 ≤ k0) (hk1 : k0 + xs.length * 2 ≤ 1099511627776) (hown : EvsO lo hi w v xs) :
    Calls Try.prog 89 #[v, .int .i64 k0] w fun e w' => e = .returned (.int .i64 (k0 + xs.length * 2 : Nat)) ∧ EvsO lo hi w' v (mEvs k0 xs.length) ∧ Only lo hi w w' := by
  obtain ⟨ho, hok, hun⟩ := hown
  have HGE := Lib.hid ho.ge
  have HUN := Lib.hid hun
  clear hun
  have hlen : (xs.map evC).length = xs.length := List.length_map _
  have HOK := Lib.hid hok
  clear hok
  rcases ho.form with ⟨rfl, h0⟩ | ⟨g, cap, hv, hg, hgl, hn, hm⟩
  · have hx : xs = [] := List.map_eq_nil_iff.1 h0
    subst hx
    clear h0 hlen
    have HO := Lib.hid ho
    clear ho
    go_enter Try.func89, Try.ntmps89
    go_wp2
    refine wp_loop_rounds 1 ?_
    rw [rounds_succ]
    go_wp2
    go_ret
    exact ⟨by simp, ⟨HO.out, by simp [mEvs], HUN.out⟩, Only.refl _ _ _⟩
  · rw [hlen] at hv hn
    subst hv
    unfold maxLen at hm
    have HO0 := Lib.hid ho
    clear ho
    go_enter Try.func89, Try.ntmps89
    go_wp2
    go_loopw [1, 5] (fun q i wr => ∃ k : Nat, k ≤ xs.length ∧ i = .int .i64 k ∧ q = .int .i64 ((k0 : Int) + k * 2) ∧
        Own lo 167 2 wr (.slice (some ⟨g, 0, none⟩) xs.length cap) ((mkd (mEv k0) xs k).map evC) ∧ w.grownBy wr (some g)) (fun _ i _ => xs.length - (intOf i).toNat)
    case atStart => exact ⟨0, Nat.zero_le _, rfl, by simp, by simpa [mkd_zero] using HO0.out, World.grownBy.refl _ _⟩
    case round =>
      obtain ⟨k, hk, rfl, rfl, hO, hG⟩ := hrel
      have HO := Lib.hid hO
      by_cases hlt : k < xs.length
      · have hml : ((mkd (mEv k0) xs k).map evC).length = xs.length := by rw [List.length_map, mkd_len _ _ _ (by omega)]
        have hat : ((mkd (mEv k0) xs k).map evC)[k]'(by omega) = evC xs[k] := by
          have h1 := mkd_at (mEv k0) xs k hlt
          rw [List.getElem?_eq_getElem (by rw [mkd_len _ _ _ (by omega)]; exact hlt)] at h1
          rw [List.getElem_map, Option.some.inj h1]
        obtain ⟨⟨x, y⟩, hs⟩ : ∃ s, xs[k] = s := ⟨_, rfl⟩
        rw [hs] at hat
        have HML := Lib.hid hml
        have c1 := hO.cell k 0 (by omega) (by omega)
        have c2 := hO.cell k 1 (by omega) (by omega)
        rw [hat] at c1 c2
        simp [evC] at c1 c2
        have fr1 := hO.frozen (k * 2)
        have fr2 := hO.frozen (k * 2 + 1)
        have g0 : (0 : Int) ≤ (k : Int) := by omega
        have g1 : (k : Int) < (xs.length : Int) := by omega
        clear hO hat hs hml
        go_wp2
        go_roundw
        case rel =>
          obtain ⟨p1, p2⟩ := HO.out.put k (by rw [HML.out]; exact hlt) (evC (mEv k0 k)) rfl
          rw [← List.map_set, mkd_set _ _ _ hlt] at p1
          refine ⟨k + 1, by omega, by go_num, by go_num, p1, grownBy_trans hG p2⟩
        case measure => simp [intOf]; omega
      · clear hO
        go_wp2
        go_ret
        obtain rfl : k = xs.length := by omega
        have h1 := HO.out
        have h2 := mkd_ok (k0 := k0) HOK.out xs.length (Nat.le_refl _) hk1
        rw [mkd_all] at h1 h2
        exact ⟨ret_int (by omega), ⟨h1, h2, HUN.out⟩, Only.of_grown (v := .slice (some ⟨g, 0, none⟩) xs.length cap) hG HGE.out HUN.out⟩

theorem mEvs_at (k0 n i : Nat) (h : i < (mEvs k0 n).length) : (mEvs k0 n)[i] = mEv k0 i := by simp [mEvs]
theorem mEvs_get (k0 n i : Nat) (h : i < n) : (mEvs k0 n)[i]'(by rw [mEvs_len]; exact h) = mEv k0 i := mEvs_at _ _ _ _


theorem markRecord_any (v : Value) (r : Rec) (lo hi k0 : Nat) (w : World) (hk0 : 1 ≤ k0) (hk1 : k0 + r.evs.length * 2 ≤ 1099511627776) (h : RecO lo hi w v r) :
    Calls Try.prog 27 #[v, .int .i64 k0] w fun e w' => e = .returned (.int .i64 (k0 + r.evs.length * 2 : Nat)) ∧ RecO lo hi w' v { r with evs := mEvs k0 r.evs.length } ∧ Only lo hi w w' := by
  obtain ⟨s, rfl, h1, hok⟩ := h
  obtain ⟨id, series, made, evs⟩ := r
  have H1 := Lib.hid h1
  have HOK := Lib.hid hok
  clear h1 hok
  go_enter Try.func27, Try.ntmps27
  go_wp2_with (first | (go_at_call 89; refine (markEventS_any _ evs lo hi k0 _ hk0 hk1 (H1.out.alloc _)).mono ?_; rintro e w' ⟨rfl, ho, hb'⟩; have HO := Lib.hid ho; clear ho))
  go_ret
  exact ⟨rfl, ⟨_, rfl, HO.out, HOK.out⟩, (Only.of_below (below_al (Below.refl _ _) _)).trans hb'⟩

end Go.Proofs.Ytkjpehpodlpdhaa

namespace Go.Proofs.Ytkjpehpodlpdhaa
set_option linter.unusedVariables false
open Go.RowKit

def mRu (k i : Nat) : Ru := ⟨((k + i * 4 : Nat) : Int), ((k + i * 4 + 1 : Nat) : Int), ((k + i * 4 + 2 : Nat) : Int), ((k + i * 4 + 3 : Nat) : Int)⟩
def mRus (k n : Nat) : List Ru := (List.range n).map (mRu k)
theorem mRus_len (k n : Nat) : (mRus k n).length = n := by simp [mRus]
theorem mRu_ok (k i : Nat) (h : k + i * 4 + 4 ≤ 1099511627777) : (mRu k i).ok := ⟨by simp only [mRu, inI]; omega, by simp only [mRu, inI]; omega, by simp only [mRu, inI]; omega, by simp only [mRu, inI]; omega⟩
theorem mRu_mkd_ok {k0 : Nat} {xs : List Ru} (h : ∀ e ∈ xs, e.ok) (k : Nat) (hk : k ≤ xs.length) (hb : k0 + xs.length * 4 ≤ 1099511627776) : ∀ e ∈ mkd (mRu k0) xs k, e.ok := by
  intro e he
  unfold mkd at he
  rcases List.mem_append.1 he with h1 | h1
  · obtain ⟨i, hi, rfl⟩ := List.mem_map.1 h1
    exact mRu_ok _ _ (by have := List.mem_range.1 hi; omega)
  · exact h e (List.mem_of_mem_drop h1)


theorem mRus_get (k0 n i : Nat) (h : i < n) : (mRus k0 n)[i]'(by rw [mRus_len]; exact h) = mRu k0 i := by simp [mRus]

end Go.Proofs.Ytkjpehpodlpdhaa

namespace Go.Proofs.Ytkjpehpodlpdhaa
set_option linter.unusedVariables false
open Go.RowKit
theorem cell_only {lo hi b j : Nat} {w w' : World} {v : Value} (h : Only lo hi w w') (hc : w.cell? ⟨b, j, none⟩ = some v) (hb : b < lo ∨ hi ≤ b) : w'.cell? ⟨b, j, none⟩ = some v :=
  (World.cell?_of_block (h.block b (World.block_lt_of_cell? _ _ hc) hb)).trans hc
end Go.Proofs.Ytkjpehpodlpdhaa
