/- slices.Reverse at functions in memory of the call's own. -/
import Derived.Test.YtpbjddiopfkgbaaCloneFn
import Derived.Test.YtpbjddiopfkgbaaFindF
import Derived.BigRegion
namespace Go.Proofs.Ytpbjddiopfkgbaa
set_option linter.unusedVariables false
open Go.RowKit Go.Sort

/-- The first i and the last i changed about. -/
def RevTo (t xs : List Fn) (i : Nat) : Prop := xs.length = t.length ∧ ∀ p, p < t.length → xs.getD p fnD = if p < i ∨ t.length - 1 - i < p then t.getD (t.length - 1 - p) fnD else t.getD p fnD
theorem revTo_zero (t : List Fn) : RevTo t t 0 := ⟨rfl, fun p hp => by rw [if_neg (by omega)]⟩
theorem revTo_step {t xs : List Fn} {i j : Nat} (h : RevTo t xs i) (hj : j = t.length - 1 - i) (hij : i < j) : RevTo t ((xs.set i (xs.getD j fnD)).set j (xs.getD i fnD)) (i + 1) := by
  obtain ⟨h1, h2⟩ := h
  refine ⟨by simp [h1], fun p hp => ?_⟩
  have hi := h2 i (by omega)
  have hj2 := h2 j (by omega)
  rw [if_neg (by omega)] at hi hj2
  by_cases hpj : p = j
  · subst hpj
    rw [List.getD, List.getElem?_set_self (by simp; omega), Option.getD_some, hi, if_pos (by omega)]
    congr 1
    omega
  · by_cases hpi : p = i
    · subst hpi
      rw [List.getD, List.getElem?_set_ne (by omega), List.getElem?_set_self (by omega), Option.getD_some, hj2, if_pos (by omega), hj]
    · rw [List.getD, List.getElem?_set_ne (by omega), List.getElem?_set_ne (by omega)]
      have := h2 p hp
      rw [List.getD] at this
      rw [this]
      by_cases hc : p < i ∨ t.length - 1 - i < p
      · rw [if_pos hc, if_pos (by omega)]
      · rw [if_neg hc, if_neg (by omega)]
theorem revTo_end {t xs : List Fn} {i : Nat} (h : RevTo t xs i) (hi : t.length - 1 ≤ 2 * i) : xs = t.reverse := by
  obtain ⟨h1, h2⟩ := h
  apply List.ext_getElem (by rw [List.length_reverse]; exact h1)
  intro p hp hp2
  have := h2 p (by omega)
  rw [getF_lt hp] at this
  rw [this, List.getElem_reverse]
  by_cases hc : p < i ∨ t.length - 1 - i < p
  · rw [if_pos hc, getF_lt (by omega)]
  · rw [if_neg hc, getF_lt (by omega)]
    congr 1
    omega

set_option maxRecDepth 20000 in
set_option maxHeartbeats 2000000 in
theorem reverseFn_any (v : Value) (t : List Fn) (lo : Nat) (w : World) (h : Own lo 36 3 w v (t.map fnC)) (hn : t.length ≤ 1048576) (hlo : lo ≤ w.heap.size) :
    Calls Try.prog 80 #[v] w fun e w' => e = .returned (.tuple #[]) ∧ Own lo 36 3 w' v (t.reverse.map fnC) ∧ w.grownBy w' v.ownBlock := by
  have hlen : (t.map fnC).length = t.length := List.length_map _
  rcases h.form with ⟨rfl, h0⟩ | ⟨g, cap, hv, hg, hgl, hn2, hm⟩
  · have hx : t = [] := List.map_eq_nil_iff.1 h0
    subst hx
    have HO := Lib.hid h
    clear h h0 hlen
    go_enter Try.func80, Try.ntmps80
    go_wp2
    refine wp_loop_rounds 1 ?_
    rw [rounds_succ]
    go_wp2
    go_end0
    exact ⟨rfl, HO.out, World.grownBy.refl _ _⟩
  · rw [hlen] at hv hn2
    subst hv
    unfold maxLen at hm
    have HO0 := Lib.hid h
    have HGL := Lib.hid hg
    clear h hlen
    go_enter Try.func80, Try.ntmps80
    go_wp2
    go_loopw [2, 3] (fun s2 s3 wr => ∃ (i : Nat) (xs : List Fn), s2 = .int .i64 i ∧ s3 = .int .i64 ((t.length : Int) - 1 - i) ∧ i ≤ t.length ∧ Hid (RevTo t xs i) ∧ Own lo 36 3 wr (.slice (some ⟨g, 0, none⟩) t.length cap) (xs.map fnC) ∧ w.grownBy wr (some g)) (fun s2 _ _ => t.length - (intOf s2).toNat)
    case atStart => exact ⟨0, t, rfl, by simp, Nat.zero_le _, Lib.hid (revTo_zero t), HO0.out, World.grownBy.refl _ _⟩
    case round =>
      obtain ⟨i, xs, rfl, rfl, hi, HR, hO, hG⟩ := hrel
      have HG := Lib.hid hG
      by_cases hlt : (i : Int) < (t.length : Int) - 1 - i
      · obtain ⟨j, hj⟩ : ∃ j, j = t.length - 1 - i := ⟨_, rfl⟩
        have hij : i < j := by omega
        have hjz : (t.length : Int) - 1 - i = (j : Int) := by omega
        have hstep := revTo_step HR.out hj hij
        have hxl := HR.out.1
        obtain ⟨⟨x0, x1, x2⟩, hxi⟩ : ∃ s, xs.getD i fnD = s := ⟨_, rfl⟩
        obtain ⟨⟨y0, y1, y2⟩, hxj⟩ : ∃ s, xs.getD j fnD = s := ⟨_, rfl⟩
        rw [hxi, hxj] at hstep
        have hml : (xs.map fnC).length = t.length := by rw [List.length_map, hxl]
        have hati : (xs.map fnC)[i]'(by omega) = fnC ⟨x0, x1, x2⟩ := by rw [List.getElem_map, ← hxi, getF_lt]
        have hatj : (xs.map fnC)[j]'(by omega) = fnC ⟨y0, y1, y2⟩ := by rw [List.getElem_map, ← hxj, getF_lt]
        have c0 := hO.cell i 0 (by omega) (by omega)
        have c1 := hO.cell i 1 (by omega) (by omega)
        have c2 := hO.cell i 2 (by omega) (by omega)
        have d0 := hO.cell j 0 (by omega) (by omega)
        have d1 := hO.cell j 1 (by omega) (by omega)
        have d2 := hO.cell j 2 (by omega) (by omega)
        rw [hati] at c0 c1 c2
        rw [hatj] at d0 d1 d2
        simp [fnC] at c0 c1 c2 d0 d1 d2
        have r0 := hO.frozen (i * 3)
        have r1 := hO.frozen (i * 3 + 1)
        have r2 := hO.frozen (i * 3 + 2)
        have s0 := hO.frozen (j * 3)
        have s1 := hO.frozen (j * 3 + 1)
        have s2 := hO.frozen (j * 3 + 2)
        have HO := Lib.hid hO
        have HST := Lib.hid hstep
        have HJ := Lib.hid hj
        have HML := Lib.hid hml
        have g0 : (0 : Int) ≤ (i : Int) := by omega
        have g1 : (i : Int) < (t.length : Int) := by omega
        have g2 : (0 : Int) ≤ (j : Int) := by omega
        have g3 : (j : Int) < (t.length : Int) := by omega
        have g4 : (i : Int) < (j : Int) := by omega
        clear hO hstep hj hxi hxj hati hatj hxl hml hlt hG
        go_wp2_with fail
        go_big_region
        go_wp2
        go_roundw
        case rel =>
          obtain ⟨p1, p2⟩ := HO.out.put i (by rw [HML.out]; omega) (fnC ⟨y0, y1, y2⟩) rfl
          obtain ⟨p3, p4⟩ := p1.put j (by rw [List.length_set, HML.out]; omega) (fnC ⟨x0, x1, x2⟩) rfl
          rw [← List.map_set, ← List.map_set] at p3
          exact ⟨i + 1, _, by go_num, congrArg _ (by have := HJ.out; omega), by omega, HST, p3.drew, grownBy_trans (grownBy_trans (grownBy_trans HG.out p2) p4) (grownBy_of_below (Below.refl _ _).drew _)⟩
        case measure => simp [intOf]; omega
      · have hend := revTo_end HR.out (by omega)
        have HE := Lib.hid hend
        have HO := Lib.hid hO
        clear hend hO hG
        go_wp2_with fail
        go_end0
        exact ⟨rfl, by have := HO.out; rw [HE.out] at this; first | exact this | (rw [List.map_reverse] at this; exact this), HG.out⟩
end Go.Proofs.Ytpbjddiopfkgbaa
