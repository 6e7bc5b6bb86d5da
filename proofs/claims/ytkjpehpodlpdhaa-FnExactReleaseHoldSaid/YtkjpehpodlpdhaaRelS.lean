/- Holds, the model's: ReleaseHold. -/
import Derived.Test.YtkjpehpodlpdhaaHoO
import Derived.Test.YtkjpehpodlpdhaaHoS
import Derived.Test.YtkjpehpodlpdhaaRelM
namespace Go.Proofs.Ytkjpehpodlpdhaa
set_option linter.unusedVariables false
open Go.RowKit

theorem HosD.til {lo g n c : Nat} {w : World} {es : List (Ho × Value)} (h : HosD lo w (.slice (some ⟨g, 0, none⟩) n c) es) (k : Nat) (hk : k < es.length) (D : Int) (hD : inI D) :
    RowR 6 rHo (w.setCell ⟨g, k * 6 + 2, none⟩ (.int .i64 D)) (.slice (some ⟨g, 0, none⟩) n c) (relPut (es.map Prod.fst) k D) := by
  obtain ⟨p1, p2⟩ := h.row.stored k 2 (by simpa using hk) (by omega) (.int .i64 D)
  refine p1.row (by simp [relPut]) (fun i h1 h2 => ?_)
  have hi : i < es.length := by simpa using h1
  obtain ⟨q1, q2, q3⟩ := h.each es[i] (List.getElem_mem hi)
  have q4 := (q1.offr (u := .slice (some ⟨g, 0, none⟩) n c) p2 (fun g' e1 e2 => q3 g' e1 e2)).row
  have hat : (es.map Prod.fst).getD k hoD = es[k].1 := by rw [getHo_lt (by simpa using hk), List.getElem_map]
  by_cases hik : i = k
  · subst hik
    refine ⟨es[i].2, ?_, ?_, ?_⟩
    · simp only [relPut, List.getElem_set_self, hat, setTil, hoC, List.getElem_map, List.set_cons_succ, List.set_cons_zero]
    · simp only [relPut, List.getElem_set_self, hat, setTil]; exact q4
    · simp only [relPut, List.getElem_set_self, hat, setTil, Ho.ok]; exact ⟨q2.1, q2.2.1, hD, q2.2.2.2.1, q2.2.2.2.2⟩
  · have hik' : k ≠ i := fun e => hik e.symm
    refine ⟨es[i].2, ?_, ?_, ?_⟩
    · simp only [relPut, List.getElem_set_ne hik', List.getElem_map, hoC]
    · simp only [relPut, List.getElem_set_ne hik', List.getElem_map]; exact q4
    · simp only [relPut, List.getElem_set_ne hik', List.getElem_map]; exact q2
theorem HosD.at {lo k : Nat} {a : Option Addr} {n c : Nat} {w : World} {es : List (Ho × Value)} (h : HosD lo w (.slice a n c) es) (hk : k < es.length) : ∃ g, a = some ⟨g, 0, none⟩ ∧ lo ≤ g := by
  obtain ⟨g, cap, e, hg, _⟩ := h.row.form.resolve_left (fun hh => by have h0 := congrArg List.length hh.2; rw [List.length_map, List.length_nil] at h0; omega)
  cases e
  exact ⟨g, rfl, hg⟩
theorem HosD.cellD {lo g n c k : Nat} {w : World} {es : List (Ho × Value)} {y : Ho} (h : HosD lo w (.slice (some ⟨g, 0, none⟩) n c) es) (hk : k < es.length) (hy : (es.map Prod.fst).getD k hoD = y) :
    w.cell? ⟨g, k * 6, none⟩ = some (.int .i64 y.id) ∧ w.cell? ⟨g, k * 6 + 1, none⟩ = some (.int .i64 y.frm) ∧ w.cell? ⟨g, k * 6 + 2, none⟩ = some (.int .i64 y.til) := by
  have hat : es[k].1 = y := by rw [← hy, getHo_lt (by simpa using hk), List.getElem_map]
  have c0 := h.row.cell k 0 (by simpa using hk) (by omega)
  have c1 := h.row.cell k 1 (by simpa using hk) (by omega)
  have c2 := h.row.cell k 2 (by simpa using hk) (by omega)
  simp [hoC, hat] at c0 c1 c2
  exact ⟨c0, c1, c2⟩

set_option maxRecDepth 20000 in
set_option maxHeartbeats 8000000 in
theorem specRelease_any (v : Value) (t : List Ho) (x d : Int) (res : List Ho) (b : Bool) (hres : relRes t x d = (res, b)) (w : World) (h : RowR 6 rHo w v t) (hd : inI d) (hn : t.length ≤ 1048576) (hs : ∀ i (h : i < t.length), t[i].ser.length ≤ 1048576) :
    Calls Try.prog 32 #[v, .int .i64 x, .int .i64 d] w fun e w' => ∃ v', e = .returned (.tuple #[v', .bool b]) ∧ RowR 6 rHo w' v' res ∧ Below w.heap.size w w' := by
  obtain ⟨bg, hg⟩ : ∃ b, areHo t = b := ⟨_, rfl⟩
  have H := Lib.hid h
  have HG := Lib.hid hg
  have HSR := Lib.hid hs
  have HDI := Lib.hid hd
  have NO := Lib.hid (fun hn => (Prod.mk.inj (hres.symm.trans (rel_no hn))))
  have YES := Lib.hid (fun (ha : areHo t = true) k (hk : k < t.length) h1 h2 h3 h4 => (Prod.mk.inj (hres.symm.trans (rel_yes (k := k) ha hk h1 h2 h3 h4))))
  clear h hg hres hs
  go_enter Try.func32, Try.ntmps32
  go_wp2_with fail
  refine (l9Own_any _ t _ H.out hn HSR.out).mono ?_
  rintro e w1 ⟨a, c, es, rfl, ho, hes, b1⟩
  have HO := Lib.hid ho
  have HES := Lib.hid hes
  have hel : es.length = t.length := by rw [← hes, List.length_map]
  have HEL := Lib.hid hel
  clear ho hes hel
  go_wp2_with fail
  go_loopw [9] (fun i wr => ∃ k : Nat, k ≤ t.length ∧ i = .int .i64 k ∧ Hid (areHo t = true → ∀ j, j < k → ¬ ((t.getD j hoD).id = x ∧ (t.getD j hoD).til = -1 ∧ (t.getD j hoD).frm + 1 ≤ d ∧ d ≤ 20000)) ∧ Below w1.heap.size w1 wr) (fun i _ => t.length - (intOf i).toNat)
  case atStart => exact ⟨0, Nat.zero_le _, rfl, Lib.hid (fun _ j h => absurd h (Nat.not_lt_zero _)), Below.refl _ _⟩
  case round =>
    obtain ⟨k, hk, rfl, HN, hb⟩ := hrel
    have hbw := b1.trans (hb.mono b1.size)
    by_cases hlt : k < t.length
    · have hke : k < es.length := by rw [HEL.out]; exact hlt
      obtain ⟨g, hag, hgl⟩ := HO.out.at hke
      subst hag
      obtain ⟨⟨x0, x1, x2, x3, x4, x5⟩, hx⟩ : ∃ y, t.getD k hoD = y := ⟨_, rfl⟩
      obtain ⟨f0, f1, f2⟩ := HO.out.cellD (y := ⟨x0, x1, x2, x3, x4, x5⟩) hke (by rw [HES.out]; exact hx)
      simp only at f0 f1 f2
      replace f0 := cell_kept f0 hb
      replace f1 := cell_kept f1 hb
      replace f2 := cell_kept f2 hb
      have HX := Lib.hid hx
      have HKE := Lib.hid hke
      have HGL := Lib.hid hgl
      have g0 : (0 : Int) ≤ (k : Int) := by omega
      have g1 : (k : Int) < (t.length : Int) := by omega
      have STEP : ¬ (areHo t = true ∧ x0 = x ∧ x2 = -1 ∧ x1 + 1 ≤ d ∧ d ≤ 20000) → Hid (areHo t = true → ∀ j, j < k + 1 → ¬ ((t.getD j hoD).id = x ∧ (t.getD j hoD).til = -1 ∧ (t.getD j hoD).frm + 1 ≤ d ∧ d ≤ 20000)) := fun hc => Lib.hid (fun ha j hj => by
        rcases Nat.lt_or_ge j k with h' | h'
        · exact HN.out ha j h'
        · obtain rfl : j = k := by omega
          rw [HX.out]
          exact fun h => hc ⟨ha, h⟩)
      have HST := Lib.hid STEP
      clear STEP hke hgl hx
      by_cases c0 : x0 = x
      · have q0 : (x0 == x) = true := by simp [c0]
        have HC0 := Lib.hid c0
        clear c0
        by_cases c2 : x2 = -1
        · subst c2
          cases bg
          · go_wp2_with (first | (go_at_call 75; refine (l9Good_any _ t _ (H.out.below rHo_stable hbw)).mono ?_; rw [HG.out]; rintro e w2 ⟨rfl, b2⟩; replace f1 := cell_kept f1 b2; replace f2 := cell_kept f2 b2; replace hb := hb.trans (b2.mono hb.size)))
            go_roundw
            case rel => exact ⟨k + 1, by omega, by go_num, HST.out (fun hc => by have := hc.1; rw [HG.out] at this; cases this), hb⟩
            case measure => simp [intOf]; omega
          · have hfr : (0 ≤ x1 ∧ x1 ≤ 20000) := by
              have := (hoOne_iff.1 (ho_at HG.out hlt)).2.1.1
              rw [HX.out] at this
              exact this
            have hw1 : IntKind.i64.wrap (x1 + 1) = x1 + 1 := Go.IntWalk.i64_in (x1 + 1) (by omega)
            obtain ⟨bl, hl⟩ : ∃ b, decide (x1 + 1 ≤ d ∧ d ≤ 20000) = b := ⟨_, rfl⟩
            have HL := Lib.hid hl
            clear hl
            cases bl
            · go_wp2_with (first | (go_at_call 75; refine (l9Good_any _ t _ (H.out.below rHo_stable hbw)).mono ?_; rw [HG.out]; rintro e w2 ⟨rfl, b2⟩; replace f1 := cell_kept f1 b2; replace f2 := cell_kept f2 b2; replace hb := hb.trans (b2.mono hb.size)) | (go_at_call 94; refine (l1In_any _ _ _ _).mono ?_; rw [HL.out]; rintro e w3 ⟨rfl, h3⟩; subst w3))
              go_roundw
              case rel => exact ⟨k + 1, by omega, by go_num, HST.out (fun hc => of_decide_eq_false HL.out ⟨hc.2.2.2.1, hc.2.2.2.2⟩), hb⟩
              case measure => simp [intOf]; omega
            · have hll := of_decide_eq_true HL.out
              obtain ⟨rfl, rfl⟩ := YES.out HG.out k hlt (by rw [HX.out]; exact HC0.out) (by rw [HX.out]) (by rw [HX.out]; exact hll.1) hll.2
              clear hll
              go_wp2_with (first | (go_at_call 75; refine (l9Good_any _ t _ (H.out.below rHo_stable hbw)).mono ?_; rw [HG.out]; rintro e w2 ⟨rfl, b2⟩; replace f1 := cell_kept f1 b2; replace f2 := cell_kept f2 b2; replace hb := hb.trans (b2.mono hb.size); have HO2 := Lib.hid (HO.out.below hb); have fr := HO2.out.row.frozen (k * 6 + 2)) | (go_at_call 94; refine (l1In_any _ _ _ _).mono ?_; rw [HL.out]; rintro e w3 ⟨rfl, h3⟩; subst w3))
              go_ret2
              have hr := HO2.out.til k HKE.out d HDI.out
              rw [HES.out] at hr
              have hbz := b1.trans (hb.mono b1.size)
              exact ⟨_, rfl, hr, hbz.setCell (p := ⟨g, k * 6 + 2, none⟩) HGL.out _⟩
        · have q2 : (x2 == -1) = false := by simp [c2]
          have HC2 := Lib.hid c2
          clear c2
          go_wp2_with fail
          go_roundw
          case rel => exact ⟨k + 1, by omega, by go_num, HST.out (fun hc => HC2.out hc.2.2.1), hb⟩
          case measure => simp [intOf]; omega
      · have q0 : (x0 == x) = false := by simp [c0]
        have HC0 := Lib.hid c0
        clear c0
        go_wp2_with fail
        go_roundw
        case rel => exact ⟨k + 1, by omega, by go_num, HST.out (fun hc => HC0.out hc.2.1), hb⟩
        case measure => simp [intOf]; omega
    · have hkt : k = t.length := by omega
      have HNN : Hid (areHo t = true → ∀ j, j < t.length → ¬ ((t.getD j hoD).id = x ∧ (t.getD j hoD).til = -1 ∧ (t.getD j hoD).frm + 1 ≤ d ∧ d ≤ 20000)) := Lib.hid (by have := HN.out; rwa [hkt] at this)
      obtain ⟨rfl, rfl⟩ := NO.out HNN.out
      clear hkt
      go_wp2_with fail
      go_ret2
      exact ⟨_, rfl, ⟨_, _, rfl, Nat.le_refl _, Nat.zero_le _, .inl rfl⟩, below_al hbw _⟩
end Go.Proofs.Ytkjpehpodlpdhaa
