/- How long a file was open: DaysOpen, the model's and the program's. -/
import Derived.Test.YtpbjddiopfkgbaaDoorFindFi
import Derived.Test.YtpbjddiopfkgbaaDoorPlaceFi
namespace Go.Proofs.YtpbjddiopfkgbaaDoor
set_option linter.unusedVariables false
open Go.RowKit Go.Sort

theorem least_any (a b : Int) (w : World) : Calls Tryd.prog 62 #[.int .i64 a, .int .i64 b] w fun e w' => e = .returned (.int .i64 (min a b)) ∧ w' = w := by
  by_cases h : a < b
  · rw [show min a b = a by omega]
    go_enter Tryd.func62, Tryd.ntmps62
    go_wp2
    go_ret
    exact ⟨rfl, rfl⟩
  · rw [show min a b = b by omega]
    go_enter Tryd.func62, Tryd.ntmps62
    go_wp2
    go_ret
    exact ⟨rfl, rfl⟩
theorem valsD {t : List Fi} {k : Nat} {f : Fi} (ht : areFi t = true) (hk : k < t.length) (hx : t.getD k fiD = f) : isFi f = true := by
  have := fi_mem ht _ (List.getElem_mem hk)
  rwa [← getFi_lt hk, hx] at this

set_option maxRecDepth 20000 in
set_option maxHeartbeats 2000000 in
theorem specDaysOpen_any (v : Value) (t : List Fi) (x d : Int) (w : World) (h : RowR 7 rFi w v t) (n : Int) (b : Bool) (hres : dayRes t x d = (n, b)) :
    Calls Tryd.prog 25 #[v, .int .i64 x, .int .i64 d] w fun e w' => e = .returned (.tuple #[.int .i64 n, .bool b]) ∧ Below w.heap.size w w' := by
  have H := Lib.hid h
  have HD0 := Lib.hid h
  rcases findFi_cases t x (-1) with hk | ⟨k, hkl, hk, hpl, ht, hhit⟩
  · have hh := hres
    unfold dayRes at hh
    rw [if_pos (.inl (by rw [hk]; decide))] at hh
    obtain ⟨rfl, rfl⟩ := Prod.mk.inj hh
    have HK := Lib.hid hk
    clear hh hk hres h HD0
    go_enter Tryd.func25, Tryd.ntmps25
    go_wp2_with (first | (go_at_call 52; refine (l5Find_any _ t x (-1) _ H.out).mono ?_; rw [HK.out]; rintro e w1 ⟨rfl, b1'⟩))
    go_ret2
    exact ⟨rfl, b1'⟩
  · obtain ⟨a1, c1, hv, hl1, hm1, r1⟩ := h.fis
    subst hv
    unfold maxLen at hm1
    obtain ⟨b1, o1, hb1, rfl, e1⟩ := r1.resolve_left (fun e => by rw [e] at hkl; simp at hkl)
    have hff := hk
    obtain ⟨⟨x0, x1, x2, x3, x4, x5, x6⟩, hx⟩ : ∃ s, t.getD k fiD = s := ⟨_, rfl⟩
    have hval := isFi_iff.1 (valsD ht hkl hx)
    simp only at hval
    obtain ⟨_, _, _, v3, v5, _, v4⟩ := hval
    obtain ⟨q0, q1, q2, q3, q4, q5, q6, hok⟩ := e1 k hkl
    rw [hx] at q3 q4 q5
    simp only at q3 q4 q5
    have hn : t.length ≤ 10 := fi_len ht
    have g0 : (0 : Int) ≤ (k : Int) := by omega
    have g1 : (k : Int) < (t.length : Int) := by omega
    have g3 : decide ((k : Int) < 0) = false := decide_eq_false (by omega)
    have HK := Lib.hid hk
    clear e1 r1 hok q0 q1 q2 q6
    have hres2 := hres
    unfold dayRes at hres2
    rw [hpl, hx] at hres2
    simp only at hres2
    by_cases hd : ¬ (0 ≤ d ∧ d ≤ 20000)
    · have hh := hres2
      rw [if_pos (.inr (.inl hd))] at hh
      obtain ⟨rfl, rfl⟩ := Prod.mk.inj hh
      have HD := Lib.hid (decide_eq_false hd)
      clear hh
      clear hres hres2 h hk hx ht hff hpl v3 v4 v5 hhit
      clear HD0
      go_enter Tryd.func25, Tryd.ntmps25
      go_wp2_with (first | (go_at_call 52; refine (l5Find_any _ t x (-1) _ H.out).mono ?_; rw [HK.out]; rintro e w1 ⟨rfl, b1'⟩; have f3 := cell_kept q3 b1'; have f4 := cell_kept q4 b1'; have f5 := cell_kept q5 b1') | (go_at_call 61; refine (l2Day_any _ _).mono ?_; rw [HD.out]; rintro e w9 ⟨rfl, hww⟩; subst w9))
      go_ret2
      exact ⟨rfl, b1'⟩
    · have hdd : 0 ≤ d ∧ d ≤ 20000 := by omega
      have HD := Lib.hid (decide_eq_true hdd)
      by_cases ho : d < x3
      · have hh := hres2
        rw [if_pos (.inr (.inr ho))] at hh
        obtain ⟨rfl, rfl⟩ := Prod.mk.inj hh
        have eo : decide (d < x3) = true := decide_eq_true ho
        clear hh
        clear hres hres2 h hk hx ht hff hpl v3 v4 v5 hhit
        go_enter Tryd.func25, Tryd.ntmps25
        go_wp2_with (first | (go_at_call 52; refine (l5Find_any _ t x (-1) _ H.out).mono ?_; rw [HK.out]; rintro e w1 ⟨rfl, b1'⟩; have f3 := cell_kept q3 b1'; have f4 := cell_kept q4 b1'; have f5 := cell_kept q5 b1') | (go_at_call 61; refine (l2Day_any _ _).mono ?_; rw [HD.out]; rintro e w9 ⟨rfl, hww⟩; subst w9))
        go_ret2
        exact ⟨rfl, b1'⟩
      · have eo : decide (d < x3) = false := decide_eq_false ho
        rw [if_neg (by rw [hff]; rintro (q | q | q); omega; exact hd q; exact ho q)] at hres2
        by_cases hs : x5 = 0
        · subst hs
          rw [if_pos rfl] at hres2
          obtain ⟨rfl, rfl⟩ := Prod.mk.inj hres2
          have w1q : IntKind.i64.wrap (d - x3) = d - x3 := Go.IntWalk.i64_in _ (by omega)
          have w2q : IntKind.i64.wrap (d - x3 + 1) = d - x3 + 1 := Go.IntWalk.i64_in _ (by omega)
          clear hres h hk hx ht hff hpl v3 v4 v5 hhit
          go_enter Tryd.func25, Tryd.ntmps25
          go_wp2_with (first | (go_at_call 52; refine (l5Find_any _ t x (-1) _ H.out).mono ?_; rw [HK.out]; rintro e w1 ⟨rfl, b1'⟩; have f3 := cell_kept q3 b1'; have f4 := cell_kept q4 b1'; have f5 := cell_kept q5 b1') | (go_at_call 61; refine (l2Day_any _ _).mono ?_; rw [HD.out]; rintro e w9 ⟨rfl, hww⟩; subst w9) | (go_at_call 62; refine (least_any _ _ _).mono ?_; rintro e w8 ⟨rfl, hww⟩; subst w8))
          go_ret2
          exact ⟨rfl, b1'⟩
        · rw [if_neg hs] at hres2
          obtain ⟨rfl, rfl⟩ := Prod.mk.inj hres2
          have hc4 : (0 ≤ x4 ∧ x4 ≤ 20000) ∧ x3 ≤ x4 := by simpa [closedB, hs] using v4
          have es : (x5 != 0) = true := by simp [hs]
          obtain ⟨m, hm⟩ : ∃ m, min d x4 = m := ⟨_, rfl⟩
          have w1q : IntKind.i64.wrap (m - x3) = m - x3 := Go.IntWalk.i64_in _ (by omega)
          have w2q : IntKind.i64.wrap (m - x3 + 1) = m - x3 + 1 := Go.IntWalk.i64_in _ (by omega)
          rw [hm]
          have HM := Lib.hid hm
          clear hm hs hc4
          clear hres h hk hx ht hff hpl v3 v4 v5 hhit
          go_enter Tryd.func25, Tryd.ntmps25
          go_wp2_with (first | (go_at_call 52; refine (l5Find_any _ t x (-1) _ H.out).mono ?_; rw [HK.out]; rintro e w1 ⟨rfl, b1'⟩; have f3 := cell_kept q3 b1'; have f4 := cell_kept q4 b1'; have f5 := cell_kept q5 b1') | (go_at_call 61; refine (l2Day_any _ _).mono ?_; rw [HD.out]; rintro e w9 ⟨rfl, hww⟩; subst w9) | (go_at_call 62; refine (least_any _ _ _).mono ?_; rw [HM.out]; rintro e w8 ⟨rfl, hww⟩; subst w8))
          go_ret2
          exact ⟨rfl, b1'⟩

set_option maxRecDepth 20000 in
set_option maxHeartbeats 2000000 in
theorem implDaysOpen_any (v : Value) (t : List Fi) (x d : Int) (w : World) (h : RowR 7 rFi w v t) (n : Int) (b : Bool) (hres : dayRes t x d = (n, b)) :
    Calls Tryd.prog 24 #[v, .int .i64 x, .int .i64 d] w fun e w' => e = .returned (.tuple #[.int .i64 n, .bool b]) ∧ Below w.heap.size w w' := by
  have H := Lib.hid h
  obtain ⟨bt, hbt⟩ : ∃ b, areFi t = b := ⟨_, rfl⟩
  cases bt
  · have hh := hres
    unfold dayRes at hh
    rw [if_pos (.inl (find_bad hbt))] at hh
    obtain ⟨rfl, rfl⟩ := Prod.mk.inj hh
    have HT := Lib.hid hbt
    clear hh hbt hres h
    go_enter Tryd.func24, Tryd.ntmps24
    go_wp2_with (first | (go_at_call 60; refine (placeFi_no _ t x _ H.out HT.out).mono ?_; rintro e w1 ⟨rfl, b1'⟩))
    go_ret2
    exact ⟨rfl, b1'⟩
  · rcases fid_cases t x with ⟨hk, hno⟩ | ⟨k, hk, hkl, hid⟩
    · have hh := hres
      unfold dayRes at hh
      rw [if_pos (.inl (find_no hno))] at hh
      obtain ⟨rfl, rfl⟩ := Prod.mk.inj hh
      have HT := Lib.hid hbt
      have HK := Lib.hid hk
      clear hh hbt hres h hk hno
      go_enter Tryd.func24, Tryd.ntmps24
      go_wp2_with (first | (go_at_call 60; refine (placeFi_any _ t x _ H.out HT.out).mono ?_; rw [HK.out]; rintro e w1 ⟨rfl, b1'⟩))
      go_ret2
      exact ⟨rfl, b1'⟩
    · obtain ⟨a1, c1, hv, hl1, hm1, r1⟩ := h.fis
      subst hv
      unfold maxLen at hm1
      obtain ⟨b1, o1, hb1, rfl, e1⟩ := r1.resolve_left (fun e => by rw [e] at hkl; simp at hkl)
      obtain ⟨hff, hpl⟩ := find_yes (st := -1) hbt hkl hid (.inl (by omega))
      have ht := hbt
      have dk : decide ((0 : Int) ≤ (k : Int)) = true := decide_eq_true (by omega)
      have HT := Lib.hid hbt
      obtain ⟨⟨x0, x1, x2, x3, x4, x5, x6⟩, hx⟩ : ∃ s, t.getD k fiD = s := ⟨_, rfl⟩
      have hval := isFi_iff.1 (valsD ht hkl hx)
      simp only at hval
      obtain ⟨_, _, _, v3, v5, _, v4⟩ := hval
      obtain ⟨q0, q1, q2, q3, q4, q5, q6, hok⟩ := e1 k hkl
      rw [hx] at q3 q4 q5
      simp only at q3 q4 q5
      have hn : t.length ≤ 10 := fi_len ht
      have g0 : (0 : Int) ≤ (k : Int) := by omega
      have g1 : (k : Int) < (t.length : Int) := by omega
      have g3 : decide ((k : Int) < 0) = false := decide_eq_false (by omega)
      have HK := Lib.hid hk
      clear e1 r1 hok q0 q1 q2 q6
      have hres2 := hres
      unfold dayRes at hres2
      rw [hpl, hx] at hres2
      simp only at hres2
      by_cases hd : ¬ (0 ≤ d ∧ d ≤ 20000)
      · have hh := hres2
        rw [if_pos (.inr (.inl hd))] at hh
        obtain ⟨rfl, rfl⟩ := Prod.mk.inj hh
        have HD := Lib.hid (decide_eq_false hd)
        clear hh
        clear hres hres2 h hk hx ht hff hpl v3 v4 v5 hbt hid
        go_enter Tryd.func24, Tryd.ntmps24
        go_wp2_with (first | (go_at_call 60; refine (placeFi_any _ t x _ H.out HT.out).mono ?_; rw [HK.out, dk]; rintro e w1 ⟨rfl, b1'⟩; have f3 := cell_kept q3 b1'; have f4 := cell_kept q4 b1'; have f5 := cell_kept q5 b1') | (go_at_call 54; refine (isDay_any _ _).mono ?_; rw [HD.out]; rintro e w9 ⟨rfl, hww⟩; subst w9))
        go_ret2
        exact ⟨rfl, b1'⟩
      · have hdd : 0 ≤ d ∧ d ≤ 20000 := by omega
        have HD := Lib.hid (decide_eq_true hdd)
        by_cases ho : d < x3
        · have hh := hres2
          rw [if_pos (.inr (.inr ho))] at hh
          obtain ⟨rfl, rfl⟩ := Prod.mk.inj hh
          have eo : decide (d < x3) = true := decide_eq_true ho
          clear hh
          clear hres hres2 h hk hx ht hff hpl v3 v4 v5 hbt hid
          go_enter Tryd.func24, Tryd.ntmps24
          go_wp2_with (first | (go_at_call 60; refine (placeFi_any _ t x _ H.out HT.out).mono ?_; rw [HK.out, dk]; rintro e w1 ⟨rfl, b1'⟩; have f3 := cell_kept q3 b1'; have f4 := cell_kept q4 b1'; have f5 := cell_kept q5 b1') | (go_at_call 54; refine (isDay_any _ _).mono ?_; rw [HD.out]; rintro e w9 ⟨rfl, hww⟩; subst w9))
          go_ret2
          exact ⟨rfl, b1'⟩
        · have eo : decide (d < x3) = false := decide_eq_false ho
          rw [if_neg (by rw [hff]; rintro (q | q | q); omega; exact hd q; exact ho q)] at hres2
          by_cases hs : x5 = 0
          · subst hs
            rw [if_pos rfl] at hres2
            obtain ⟨rfl, rfl⟩ := Prod.mk.inj hres2
            have w1q : IntKind.i64.wrap (d - x3) = d - x3 := Go.IntWalk.i64_in _ (by omega)
            have w2q : IntKind.i64.wrap (d - x3 + 1) = d - x3 + 1 := Go.IntWalk.i64_in _ (by omega)
            clear hres h hk hx ht hff hpl v3 v4 v5 hbt hid
            go_enter Tryd.func24, Tryd.ntmps24
            go_wp2_with (first | (go_at_call 60; refine (placeFi_any _ t x _ H.out HT.out).mono ?_; rw [HK.out, dk]; rintro e w1 ⟨rfl, b1'⟩; have f3 := cell_kept q3 b1'; have f4 := cell_kept q4 b1'; have f5 := cell_kept q5 b1') | (go_at_call 54; refine (isDay_any _ _).mono ?_; rw [HD.out]; rintro e w9 ⟨rfl, hww⟩; subst w9))
            go_ret2
            exact ⟨rfl, b1'⟩
          · rw [if_neg hs] at hres2
            obtain ⟨rfl, rfl⟩ := Prod.mk.inj hres2
            have hc4 : (0 ≤ x4 ∧ x4 ≤ 20000) ∧ x3 ≤ x4 := by simpa [closedB, hs] using v4
            have es : (x5 != 0) = true := by simp [hs]
            have hmin : min d x4 = d ∧ d ≤ x4 ∨ min d x4 = x4 ∧ x4 < d := by omega
            obtain ⟨m, hm⟩ : ∃ m, min d x4 = m := ⟨_, rfl⟩
            have w1q : IntKind.i64.wrap (m - x3) = m - x3 := Go.IntWalk.i64_in _ (by omega)
            have w2q : IntKind.i64.wrap (m - x3 + 1) = m - x3 + 1 := Go.IntWalk.i64_in _ (by omega)
            rw [hm]
            rcases hmin with ⟨hm1', hm2'⟩ | ⟨hm1', hm2'⟩
            · have em : decide (d ≤ x4) = true := decide_eq_true hm2'
              have hmv : m = d := hm.symm.trans hm1'
              clear hm hm1' hs hc4
              subst hmv
              clear hres h hk hx ht hff hpl v3 v4 v5 hbt hid
              go_enter Tryd.func24, Tryd.ntmps24
              go_wp2_with (first | (go_at_call 60; refine (placeFi_any _ t x _ H.out HT.out).mono ?_; rw [HK.out, dk]; rintro e w1 ⟨rfl, b1'⟩; have f3 := cell_kept q3 b1'; have f4 := cell_kept q4 b1'; have f5 := cell_kept q5 b1') | (go_at_call 54; refine (isDay_any _ _).mono ?_; rw [HD.out]; rintro e w9 ⟨rfl, hww⟩; subst w9))
              go_ret2
              exact ⟨rfl, b1'⟩
            · have em : decide (x4 < d) = true := decide_eq_true hm2'
              have hmv : m = x4 := hm.symm.trans hm1'
              clear hm hm1' hs hc4
              subst hmv
              clear hres h hk hx ht hff hpl v3 v4 v5 hbt hid
              go_enter Tryd.func24, Tryd.ntmps24
              go_wp2_with (first | (go_at_call 60; refine (placeFi_any _ t x _ H.out HT.out).mono ?_; rw [HK.out, dk]; rintro e w1 ⟨rfl, b1'⟩; have f3 := cell_kept q3 b1'; have f4 := cell_kept q4 b1'; have f5 := cell_kept q5 b1') | (go_at_call 54; refine (isDay_any _ _).mono ?_; rw [HD.out]; rintro e w9 ⟨rfl, hww⟩; subst w9))
              go_ret2
              exact ⟨rfl, b1'⟩

end Go.Proofs.YtpbjddiopfkgbaaDoor
