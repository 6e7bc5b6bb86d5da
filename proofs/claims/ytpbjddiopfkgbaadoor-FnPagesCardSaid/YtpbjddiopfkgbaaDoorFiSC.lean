/- Files that are closed, opened again, lent, filled: the model's. -/
import Derived.Test.YtpbjddiopfkgbaaDoorWithFi
import Derived.Test.YtpbjddiopfkgbaaDoorStepM
namespace Go.Proofs.YtpbjddiopfkgbaaDoor
set_option linter.unusedVariables false
open Go.RowKit Go.Sort

set_option maxRecDepth 20000 in
set_option maxHeartbeats 2000000 in
theorem specCloseFile_any (v : Value) (t : List Fi) (x : Int) (d : Int) (w : World) (h : RowR 7 rFi w v t) (hd : inI d) (xs : List Fi) (b : Bool) (hres : cloRes t x d = (xs, b)) :
    Calls Tryd.prog 13 #[v, .int .i64 x, .int .i64 d] w fun e w' => ∃ v', e = .returned (.tuple #[v', .bool b]) ∧ FisO w.heap.size w'.heap.size w' v' xs ∧ Below w.heap.size w w' := by
  have H := Lib.hid h
  rcases findFi_cases t x 0 with hk | ⟨k, hkl, hk, hpl, ht, hhit⟩
  · have hh := hres
    unfold cloRes at hh
    rw [if_pos (by left; rw [hk]; decide)] at hh
    obtain ⟨rfl, rfl⟩ := Prod.mk.inj hh
    have HK := Lib.hid hk
    clear hh hk hres h
    go_enter Tryd.func13, Tryd.ntmps13
    go_wp2_with (first | (go_at_call 52; refine (l5Find_any _ t x 0 _ H.out).mono ?_; rw [HK.out]; rintro e w1 ⟨rfl, b1'⟩; have s1 := b1'.size))
    go_ret2
    exact ⟨_, rfl, FisO.empty _ b1'.size, below_al b1' _⟩
  · by_cases hg : d < 1
    · have hh := hres
      unfold cloRes at hh
      rw [if_pos (.inr (by exact hg))] at hh
      have g0 : (0 : Int) ≤ (k : Int) := by omega
      have g3 : decide ((k : Int) < 0) = false := decide_eq_false (by omega)
      have gd : decide (d < 1) = true := decide_eq_true hg
      obtain ⟨rfl, rfl⟩ := Prod.mk.inj hh
      have HK := Lib.hid hk
      clear hh hk hres h
      go_enter Tryd.func13, Tryd.ntmps13
      go_wp2_with (first | (go_at_call 52; refine (l5Find_any _ t x 0 _ H.out).mono ?_; rw [HK.out]; rintro e w1 ⟨rfl, b1'⟩; have s1 := b1'.size))
      go_ret2
      exact ⟨_, rfl, FisO.empty _ b1'.size, below_al b1' _⟩
    · have hw := hres
      unfold cloRes at hw
      rw [if_neg (by rw [hk]; rintro (q | q); omega; exact hg q), hpl] at hw
      obtain ⟨a1, c1, hv, hl1, hm1, r1⟩ := h.fis
      subst hv
      unfold maxLen at hm1
      obtain ⟨b1, o1, hb1, rfl, e1⟩ := r1.resolve_left (fun e => by rw [e] at hkl; simp at hkl)
      obtain ⟨⟨x0, x1, x2, x3, x4, x5, x6⟩, hx⟩ : ∃ s, t.getD k fiD = s := ⟨_, rfl⟩
      obtain ⟨q0, q1, q2, q3, q4, q5, q6, hok⟩ := e1 k hkl
      rw [hx] at q0 q1 q2 q3 q4 q5 q6 hok
      simp only at q0 q1 q2 q3 q4 q5 q6
      have hn : t.length ≤ 10 := fi_len ht
      rw [hx] at hw
      simp only at hw
      have gd : decide (d < 1) = false := decide_eq_false hg
      have hok2 : Fi.ok ⟨x0, x1, x2, x3, d, 1, x6⟩ := ⟨hok.1, hok.2.1, hok.2.2.1, hok.2.2.2.1, hd, by simp [inI], hok.2.2.2.2.2.2⟩
      have HOK := Lib.hid hok2
      have HW := Lib.hid hw
      have HK := Lib.hid hk
      have g0 : (0 : Int) ≤ (k : Int) := by omega
      have g1 : (k : Int) < (t.length : Int) := by omega
      have g2 : ¬ ((k : Int) < 0) := by omega
      have g3 : decide ((k : Int) < 0) = false := decide_eq_false (by omega)
      clear hok hok2 hw hk hres h e1 r1 hx hhit
      go_enter Tryd.func13, Tryd.ntmps13
      go_wp2_with (first | (go_at_call 53; refine (l5With_any _ t k ⟨x0, x1, x2, x3, d, 1, x6⟩ _ (H.out.below rFi_stable (below_al b1' _)) ⟨_, _, rfl⟩ hkl (by omega) HOK.out xs b HW.out).mono ?_; rintro e w3 ⟨v3, rfl, ho, b3⟩; have HO := Lib.hid ho; clear ho) | (go_at_call 52; refine (l5Find_any _ t x 0 _ H.out).mono ?_; rw [HK.out]; rintro e w1 ⟨rfl, b1'⟩; have s1 := b1'.size; have f0 := cell_kept q0 b1'; have f1 := cell_kept q1 b1'; have f2 := cell_kept q2 b1'; have f3 := cell_kept q3 b1'; have f4 := cell_kept q4 b1'; have f5 := cell_kept q5 b1'; have f6 := cell_kept q6 b1'))
      go_ret2
      exact ⟨_, rfl, HO.out.wide (by simp; omega) (Nat.le_refl _), below_chain (below_al b1' _) b3⟩

set_option maxRecDepth 20000 in
set_option maxHeartbeats 2000000 in
theorem specReopenFile_any (v : Value) (t : List Fi) (x : Int) (w : World) (h : RowR 7 rFi w v t) (xs : List Fi) (b : Bool) (hres : reoRes t x = (xs, b)) :
    Calls Tryd.prog 22 #[v, .int .i64 x] w fun e w' => ∃ v', e = .returned (.tuple #[v', .bool b]) ∧ FisO w.heap.size w'.heap.size w' v' xs ∧ Below w.heap.size w w' := by
  have H := Lib.hid h
  rcases findFi_cases t x 1 with hk | ⟨k, hkl, hk, hpl, ht, hhit⟩
  · have hh := hres
    unfold reoRes at hh
    rw [if_pos (by rw [hk]; decide)] at hh
    obtain ⟨rfl, rfl⟩ := Prod.mk.inj hh
    have HK := Lib.hid hk
    clear hh hk hres h
    go_enter Tryd.func22, Tryd.ntmps22
    go_wp2_with (first | (go_at_call 52; refine (l5Find_any _ t x 1 _ H.out).mono ?_; rw [HK.out]; rintro e w1 ⟨rfl, b1'⟩; have s1 := b1'.size))
    go_ret2
    exact ⟨_, rfl, FisO.empty _ b1'.size, below_al b1' _⟩
  · have hw := hres
    unfold reoRes at hw
    rw [if_neg (by rw [hk]; omega), hpl] at hw
    obtain ⟨a1, c1, hv, hl1, hm1, r1⟩ := h.fis
    subst hv
    unfold maxLen at hm1
    obtain ⟨b1, o1, hb1, rfl, e1⟩ := r1.resolve_left (fun e => by rw [e] at hkl; simp at hkl)
    obtain ⟨⟨x0, x1, x2, x3, x4, x5, x6⟩, hx⟩ : ∃ s, t.getD k fiD = s := ⟨_, rfl⟩
    obtain ⟨q0, q1, q2, q3, q4, q5, q6, hok⟩ := e1 k hkl
    rw [hx] at q0 q1 q2 q3 q4 q5 q6 hok
    simp only at q0 q1 q2 q3 q4 q5 q6
    have hn : t.length ≤ 10 := fi_len ht
    rw [hx] at hw
    simp only at hw
    have hok2 : Fi.ok ⟨x0, x1, x2, x3, 0, 0, x6⟩ := ⟨hok.1, hok.2.1, hok.2.2.1, hok.2.2.2.1, by simp [inI], by simp [inI], hok.2.2.2.2.2.2⟩
    have HOK := Lib.hid hok2
    have HW := Lib.hid hw
    have HK := Lib.hid hk
    have g0 : (0 : Int) ≤ (k : Int) := by omega
    have g1 : (k : Int) < (t.length : Int) := by omega
    have g2 : ¬ ((k : Int) < 0) := by omega
    have g3 : decide ((k : Int) < 0) = false := decide_eq_false (by omega)
    clear hok hok2 hw hk hres h e1 r1 hx hhit
    go_enter Tryd.func22, Tryd.ntmps22
    go_wp2_with (first | (go_at_call 53; refine (l5With_any _ t k ⟨x0, x1, x2, x3, 0, 0, x6⟩ _ (H.out.below rFi_stable (below_al b1' _)) ⟨_, _, rfl⟩ hkl (by omega) HOK.out xs b HW.out).mono ?_; rintro e w3 ⟨v3, rfl, ho, b3⟩; have HO := Lib.hid ho; clear ho) | (go_at_call 52; refine (l5Find_any _ t x 1 _ H.out).mono ?_; rw [HK.out]; rintro e w1 ⟨rfl, b1'⟩; have s1 := b1'.size; have f0 := cell_kept q0 b1'; have f1 := cell_kept q1 b1'; have f2 := cell_kept q2 b1'; have f3 := cell_kept q3 b1'; have f4 := cell_kept q4 b1'; have f5 := cell_kept q5 b1'; have f6 := cell_kept q6 b1'))
    go_ret2
    exact ⟨_, rfl, HO.out.wide (by simp; omega) (Nat.le_refl _), below_chain (below_al b1' _) b3⟩

set_option maxRecDepth 20000 in
set_option maxHeartbeats 2000000 in
theorem specAddPages_any (v : Value) (t : List Fi) (x : Int) (p : Int) (w : World) (h : RowR 7 rFi w v t) (xs : List Fi) (b : Bool) (hres : pagRes t x p = (xs, b)) :
    Calls Tryd.prog 39 #[v, .int .i64 x, .int .i64 p] w fun e w' => ∃ v', e = .returned (.tuple #[v', .bool b]) ∧ FisO w.heap.size w'.heap.size w' v' xs ∧ Below w.heap.size w w' := by
  have H := Lib.hid h
  rcases findFi_cases t x 0 with hk | ⟨k, hkl, hk, hpl, ht, hhit⟩
  · have hh := hres
    unfold pagRes at hh
    rw [if_pos (by left; rw [hk]; decide)] at hh
    have HIN := Lib.hid (rfl : decide (1 ≤ p ∧ p ≤ 500) = decide (1 ≤ p ∧ p ≤ 500))
    obtain ⟨rfl, rfl⟩ := Prod.mk.inj hh
    have HK := Lib.hid hk
    clear hh hk hres h
    go_enter Tryd.func39, Tryd.ntmps39
    go_wp2_with (first | (go_at_call 52; refine (l5Find_any _ t x 0 _ H.out).mono ?_; rw [HK.out]; rintro e w1 ⟨rfl, b1'⟩; have s1 := b1'.size) | (go_at_call 70; refine (l1In_any _ _ _ _).mono ?_; rw [HIN.out]; rintro e w' ⟨rfl, rfl⟩))
    go_ret2
    exact ⟨_, rfl, FisO.empty _ b1'.size, below_al b1' _⟩
  · by_cases hg : ¬ (1 ≤ p ∧ p ≤ 500)
    · have hh := hres
      unfold pagRes at hh
      rw [if_pos (.inr (by exact hg))] at hh
      have g0 : (0 : Int) ≤ (k : Int) := by omega
      have g3 : decide ((k : Int) < 0) = false := decide_eq_false (by omega)
      have HIN := Lib.hid (decide_eq_false hg)
      obtain ⟨rfl, rfl⟩ := Prod.mk.inj hh
      have HK := Lib.hid hk
      clear hh hk hres h
      go_enter Tryd.func39, Tryd.ntmps39
      go_wp2_with (first | (go_at_call 52; refine (l5Find_any _ t x 0 _ H.out).mono ?_; rw [HK.out]; rintro e w1 ⟨rfl, b1'⟩; have s1 := b1'.size) | (go_at_call 70; refine (l1In_any _ _ _ _).mono ?_; rw [HIN.out]; rintro e w' ⟨rfl, rfl⟩))
      go_ret2
      exact ⟨_, rfl, FisO.empty _ b1'.size, below_al b1' _⟩
    · have hw := hres
      unfold pagRes at hw
      rw [if_neg (by rw [hk]; rintro (q | q); omega; exact q (by omega)), hpl] at hw
      obtain ⟨a1, c1, hv, hl1, hm1, r1⟩ := h.fis
      subst hv
      unfold maxLen at hm1
      obtain ⟨b1, o1, hb1, rfl, e1⟩ := r1.resolve_left (fun e => by rw [e] at hkl; simp at hkl)
      obtain ⟨⟨x0, x1, x2, x3, x4, x5, x6⟩, hx⟩ : ∃ s, t.getD k fiD = s := ⟨_, rfl⟩
      obtain ⟨q0, q1, q2, q3, q4, q5, q6, hok⟩ := e1 k hkl
      rw [hx] at q0 q1 q2 q3 q4 q5 q6 hok
      simp only at q0 q1 q2 q3 q4 q5 q6
      have hn : t.length ≤ 10 := fi_len ht
      rw [hx] at hw
      simp only at hw
      have HIN := Lib.hid (decide_eq_true (by omega : 1 ≤ p ∧ p ≤ 500))
      have hpg := (isFi_iff.1 (fi_mem ht _ (List.getElem_mem hkl))).2.2.2.2.2.1
      rw [← getFi_lt hkl, hx] at hpg
      simp only at hpg
      have hwr : IntKind.i64.wrap (x6 + p) = x6 + p := Go.IntWalk.i64_in _ (by omega)
      have hok2 : Fi.ok ⟨x0, x1, x2, x3, x4, x5, x6 + p⟩ := ⟨hok.1, hok.2.1, hok.2.2.1, hok.2.2.2.1, hok.2.2.2.2.1, hok.2.2.2.2.2.1, by show inI (x6 + p); unfold inI; omega⟩
      have HOK := Lib.hid hok2
      have HW := Lib.hid hw
      have HK := Lib.hid hk
      have g0 : (0 : Int) ≤ (k : Int) := by omega
      have g1 : (k : Int) < (t.length : Int) := by omega
      have g2 : ¬ ((k : Int) < 0) := by omega
      have g3 : decide ((k : Int) < 0) = false := decide_eq_false (by omega)
      clear hok hok2 hw hk hres h e1 r1 hx hhit
      go_enter Tryd.func39, Tryd.ntmps39
      go_wp2_with (first | (go_at_call 53; refine (l5With_any _ t k ⟨x0, x1, x2, x3, x4, x5, x6 + p⟩ _ (H.out.below rFi_stable (below_al b1' _)) ⟨_, _, rfl⟩ hkl (by omega) HOK.out xs b HW.out).mono ?_; rintro e w3 ⟨v3, rfl, ho, b3⟩; have HO := Lib.hid ho; clear ho) | (go_at_call 52; refine (l5Find_any _ t x 0 _ H.out).mono ?_; rw [HK.out]; rintro e w1 ⟨rfl, b1'⟩; have s1 := b1'.size; have f0 := cell_kept q0 b1'; have f1 := cell_kept q1 b1'; have f2 := cell_kept q2 b1'; have f3 := cell_kept q3 b1'; have f4 := cell_kept q4 b1'; have f5 := cell_kept q5 b1'; have f6 := cell_kept q6 b1') | (go_at_call 70; refine (l1In_any _ _ _ _).mono ?_; rw [HIN.out]; rintro e w' ⟨rfl, rfl⟩))
      go_ret2
      exact ⟨_, rfl, HO.out.wide (by simp; omega) (Nat.le_refl _), below_chain (below_al b1' _) b3⟩

theorem lenRes_t (t : List Fi) (x : Int) : lenRes t x true = if findFi t x 2 < 0 then ([], false) else withFi t (placeFi t x 2) { t.getD (placeFi t x 2) fiD with state := 1 } := by simp [lenRes]
theorem lenRes_f (t : List Fi) (x : Int) : lenRes t x false = if findFi t x 1 < 0 then ([], false) else withFi t (placeFi t x 1) { t.getD (placeFi t x 1) fiD with state := 2 } := by simp [lenRes]
set_option maxRecDepth 20000 in
set_option maxHeartbeats 2000000 in
theorem specLendFile_any (v : Value) (t : List Fi) (x : Int) (c : Bool) (w : World) (h : RowR 7 rFi w v t) (xs : List Fi) (b : Bool) (hres : lenRes t x c = (xs, b)) :
    Calls Tryd.prog 20 #[v, .int .i64 x, .bool c] w fun e w' => ∃ v', e = .returned (.tuple #[v', .bool b]) ∧ FisO w.heap.size w'.heap.size w' v' xs ∧ Below w.heap.size w w' := by
  have H := Lib.hid h
  cases c
  · rw [lenRes_f] at hres
    rcases findFi_cases t x 1 with hk | ⟨k, hkl, hk, hpl, ht, hhit⟩
    · have hh := hres
      rw [if_pos (by rw [hk]; decide)] at hh
      obtain ⟨rfl, rfl⟩ := Prod.mk.inj hh
      have HK := Lib.hid hk
      clear hh hk hres h
      go_enter Tryd.func20, Tryd.ntmps20
      go_wp2_with (first | (go_at_call 52; refine (l5Find_any _ t x 1 _ H.out).mono ?_; rw [HK.out]; rintro e w1 ⟨rfl, b1'⟩; have s1 := b1'.size))
      go_ret2
      exact ⟨_, rfl, FisO.empty _ b1'.size, below_al b1' _⟩
    · have hw := hres
      rw [if_neg (by rw [hk]; omega), hpl] at hw
      obtain ⟨a1, c1, hv, hl1, hm1, r1⟩ := h.fis
      subst hv
      unfold maxLen at hm1
      obtain ⟨b1, o1, hb1, rfl, e1⟩ := r1.resolve_left (fun e => by rw [e] at hkl; simp at hkl)
      obtain ⟨⟨x0, x1, x2, x3, x4, x5, x6⟩, hx⟩ : ∃ s, t.getD k fiD = s := ⟨_, rfl⟩
      obtain ⟨q0, q1, q2, q3, q4, q5, q6, hok⟩ := e1 k hkl
      rw [hx] at q0 q1 q2 q3 q4 q5 q6 hok
      simp only at q0 q1 q2 q3 q4 q5 q6
      have hn : t.length ≤ 10 := fi_len ht
      rw [hx] at hw
      simp only at hw
      have hok2 : Fi.ok ⟨x0, x1, x2, x3, x4, 2, x6⟩ := ⟨hok.1, hok.2.1, hok.2.2.1, hok.2.2.2.1, hok.2.2.2.2.1, by simp [inI], hok.2.2.2.2.2.2⟩
      have HOK := Lib.hid hok2
      have HW := Lib.hid hw
      have HK := Lib.hid hk
      have g0 : (0 : Int) ≤ (k : Int) := by omega
      have g1 : (k : Int) < (t.length : Int) := by omega
      have g2 : ¬ ((k : Int) < 0) := by omega
      have g3 : decide ((k : Int) < 0) = false := decide_eq_false (by omega)
      clear hok hok2 hw hk hres h e1 r1 hx hhit
      go_enter Tryd.func20, Tryd.ntmps20
      go_wp2_with (first | (go_at_call 53; refine (l5With_any _ t k ⟨x0, x1, x2, x3, x4, 2, x6⟩ _ (H.out.below rFi_stable (below_al b1' _)) ⟨_, _, rfl⟩ hkl (by omega) HOK.out xs b HW.out).mono ?_; rintro e w3 ⟨v3, rfl, ho, b3⟩; have HO := Lib.hid ho; clear ho) | (go_at_call 52; refine (l5Find_any _ t x 1 _ H.out).mono ?_; rw [HK.out]; rintro e w1 ⟨rfl, b1'⟩; have s1 := b1'.size; have f0 := cell_kept q0 b1'; have f1 := cell_kept q1 b1'; have f2 := cell_kept q2 b1'; have f3 := cell_kept q3 b1'; have f4 := cell_kept q4 b1'; have f5 := cell_kept q5 b1'; have f6 := cell_kept q6 b1'))
      go_ret2
      exact ⟨_, rfl, HO.out.wide (by simp; omega) (Nat.le_refl _), below_chain (below_al b1' _) b3⟩
  · rw [lenRes_t] at hres
    rcases findFi_cases t x 2 with hk | ⟨k, hkl, hk, hpl, ht, hhit⟩
    · have hh := hres
      rw [if_pos (by rw [hk]; decide)] at hh
      obtain ⟨rfl, rfl⟩ := Prod.mk.inj hh
      have HK := Lib.hid hk
      clear hh hk hres h
      go_enter Tryd.func20, Tryd.ntmps20
      go_wp2_with (first | (go_at_call 52; refine (l5Find_any _ t x 2 _ H.out).mono ?_; rw [HK.out]; rintro e w1 ⟨rfl, b1'⟩; have s1 := b1'.size))
      go_ret2
      exact ⟨_, rfl, FisO.empty _ b1'.size, below_al b1' _⟩
    · have hw := hres
      rw [if_neg (by rw [hk]; omega), hpl] at hw
      obtain ⟨a1, c1, hv, hl1, hm1, r1⟩ := h.fis
      subst hv
      unfold maxLen at hm1
      obtain ⟨b1, o1, hb1, rfl, e1⟩ := r1.resolve_left (fun e => by rw [e] at hkl; simp at hkl)
      obtain ⟨⟨x0, x1, x2, x3, x4, x5, x6⟩, hx⟩ : ∃ s, t.getD k fiD = s := ⟨_, rfl⟩
      obtain ⟨q0, q1, q2, q3, q4, q5, q6, hok⟩ := e1 k hkl
      rw [hx] at q0 q1 q2 q3 q4 q5 q6 hok
      simp only at q0 q1 q2 q3 q4 q5 q6
      have hn : t.length ≤ 10 := fi_len ht
      rw [hx] at hw
      simp only at hw
      have hok2 : Fi.ok ⟨x0, x1, x2, x3, x4, 1, x6⟩ := ⟨hok.1, hok.2.1, hok.2.2.1, hok.2.2.2.1, hok.2.2.2.2.1, by simp [inI], hok.2.2.2.2.2.2⟩
      have HOK := Lib.hid hok2
      have HW := Lib.hid hw
      have HK := Lib.hid hk
      have g0 : (0 : Int) ≤ (k : Int) := by omega
      have g1 : (k : Int) < (t.length : Int) := by omega
      have g2 : ¬ ((k : Int) < 0) := by omega
      have g3 : decide ((k : Int) < 0) = false := decide_eq_false (by omega)
      clear hok hok2 hw hk hres h e1 r1 hx hhit
      go_enter Tryd.func20, Tryd.ntmps20
      go_wp2_with (first | (go_at_call 53; refine (l5With_any _ t k ⟨x0, x1, x2, x3, x4, 1, x6⟩ _ (H.out.below rFi_stable (below_al b1' _)) ⟨_, _, rfl⟩ hkl (by omega) HOK.out xs b HW.out).mono ?_; rintro e w3 ⟨v3, rfl, ho, b3⟩; have HO := Lib.hid ho; clear ho) | (go_at_call 52; refine (l5Find_any _ t x 2 _ H.out).mono ?_; rw [HK.out]; rintro e w1 ⟨rfl, b1'⟩; have s1 := b1'.size; have f0 := cell_kept q0 b1'; have f1 := cell_kept q1 b1'; have f2 := cell_kept q2 b1'; have f3 := cell_kept q3 b1'; have f4 := cell_kept q4 b1'; have f5 := cell_kept q5 b1'; have f6 := cell_kept q6 b1'))
      go_ret2
      exact ⟨_, rfl, HO.out.wide (by simp; omega) (Nat.le_refl _), below_chain (below_al b1' _) b3⟩
end Go.Proofs.YtpbjddiopfkgbaaDoor
