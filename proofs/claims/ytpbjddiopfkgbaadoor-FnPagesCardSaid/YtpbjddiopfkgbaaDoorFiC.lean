/- Files that are opened again, lent, filled: the program's. -/
import Derived.Test.YtpbjddiopfkgbaaDoorStepFi
import Derived.Test.YtpbjddiopfkgbaaDoorFiSC
namespace Go.Proofs.YtpbjddiopfkgbaaDoor
set_option linter.unusedVariables false
open Go.RowKit Go.Sort

theorem vals {t : List Fi} {k : Nat} {f : Fi} (ht : areFi t = true) (hk : k < t.length) (hx : t.getD k fiD = f) : isFi f = true := by
  have := fi_mem ht _ (List.getElem_mem hk)
  rwa [← getFi_lt hk, hx] at this
set_option maxRecDepth 20000 in
set_option maxHeartbeats 2000000 in
theorem implReopenFile_any (v : Value) (t : List Fi) (x : Int) (w : World) (h : RowR 7 rFi w v t) (hE : Steps w) (xs : List Fi) (b : Bool) (hres : reoRes t x = (xs, b)) :
    Calls Tryd.prog 15 #[v, .int .i64 x] w fun e w' => ∃ v', e = .returned (.tuple #[v', .bool b]) ∧ FisO w.heap.size w'.heap.size w' v' xs ∧ Below w.heap.size w w' := by
  have H := Lib.hid h
  by_cases hf : findFi t x 1 < 0
  · have hh := hres
    unfold reoRes at hh
    rw [if_pos hf] at hh
    obtain ⟨rfl, rfl⟩ := Prod.mk.inj hh
    have HE := Lib.hid hE
    have HF := Lib.hid hf
    clear hh hf hres h hE
    go_enter Tryd.func15, Tryd.ntmps15
    go_wp2_with (first | (go_at_call 51; refine (takeStep_no _ t x 2 _ H.out HE.out (by omega) 1 rfl HF.out).mono ?_; rintro e w1 ⟨rfl, b1⟩))
    go_ret2
    exact ⟨_, rfl, FisO.nil _ _ _, b1⟩
  · rcases findFi_cases t x 1 with hk | ⟨k, hkl, hk, hpl, ht, hhit⟩
    · omega
    have hst := (hitFi_iff.1 hhit).2.resolve_left (by omega)
    obtain ⟨⟨x0, x1, x2, x3, x4, x5, x6⟩, hx⟩ : ∃ s, t.getD k fiD = s := ⟨_, rfl⟩
    have hval := vals ht hkl hx
    have hok : Fi.ok ⟨x0, x1, x2, x3, x4, x5, x6⟩ := by rw [← hx, getFi_lt hkl]; exact h.fis_ok _ (List.getElem_mem hkl)
    rw [hx] at hst
    simp only at hst
    subst hst
    have hv2 : isFi ⟨x0, x1, x2, x3, 0, 0, x6⟩ = true := by rw [isFi_iff] at hval ⊢; obtain ⟨p1, p2, p3, p4, p5, p6, p7⟩ := hval; exact ⟨p1, p2, p3, p4, by simp, p6, by simp [closedB]⟩
    have hw := hres
    unfold reoRes at hw
    rw [if_neg hf, hpl, hx] at hw
    simp only at hw
    rw [withFi_ok (areFi_set ht hkl hv2 (by rw [hx]) (by rw [hx]) (by rw [hx]))] at hw
    obtain ⟨rfl, rfl⟩ := Prod.mk.inj hw
    have hok2 : Fi.ok ⟨x0, x1, x2, x3, 0, 0, x6⟩ := ⟨hok.1, hok.2.1, hok.2.2.1, hok.2.2.2.1, by simp [inI], by simp [inI], hok.2.2.2.2.2.2⟩
    have HOK := Lib.hid hok2
    have HK := Lib.hid hk
    have HX := Lib.hid hx
    have HE := Lib.hid hE
    have g0 : (0 : Int) ≤ (k : Int) := by omega
    have g1 : (k : Int) < (t.length : Int) := by omega
    clear hok hok2 hw hk hres h hx hhit hval hv2 ht hf hE
    go_enter Tryd.func15, Tryd.ntmps15
    go_wp2_with (first | (go_at_call 51; refine (takeStep_yes _ t x 2 _ H.out HE.out (by omega) 1 rfl 0 rfl k HK.out).mono ?_; rintro e w1 ⟨g, cg, rfl, ho, b1'⟩; have hgl := (ho.1.1.lt g rfl).1; have d4 := ho.cellAt k 4 (by rw [List.length_set]; exact hkl) (by omega); rw [getD_set_fi hkl, if_pos rfl, HX.out] at d4; simp only [fiC, List.getElem?_cons_succ, List.getElem?_cons_zero] at d4; have r4 := ho.1.frozen (k * 7 + 4); have HO := Lib.hid ho; clear ho))
    go_ret2
    obtain ⟨p1, p2⟩ := HO.out.store k 4 (by rw [List.length_set]; exact hkl) (by omega) (.int .i64 0) ⟨x0, x1, x2, x3, 0, 0, x6⟩ (by rw [getD_set_fi hkl, if_pos rfl, HX.out]; rfl) HOK.out
    rw [List.set_set] at p1
    exact ⟨_, rfl, p1.wide (Nat.le_refl _) (by simp), b1'.setCell (p := ⟨g, k * 7 + 4, none⟩) (by simp; omega) _⟩

set_option maxRecDepth 20000 in
set_option maxHeartbeats 2000000 in
theorem implLendFile_any (v : Value) (t : List Fi) (x : Int) (c : Bool) (w : World) (h : RowR 7 rFi w v t) (hE : Steps w) (xs : List Fi) (b : Bool) (hres : lenRes t x c = (xs, b)) :
    Calls Tryd.prog 19 #[v, .int .i64 x, .bool c] w fun e w' => ∃ v', e = .returned (.tuple #[v', .bool b]) ∧ FisO w.heap.size w'.heap.size w' v' xs ∧ Below w.heap.size w w' := by
  have H := Lib.hid h
  cases c
  · rw [lenRes_f] at hres
    by_cases hf : findFi t x 1 < 0
    · have hh := hres
      rw [if_pos hf] at hh
      obtain ⟨rfl, rfl⟩ := Prod.mk.inj hh
      have HE := Lib.hid hE
      have HF := Lib.hid hf
      clear hh hf hres h hE
      go_enter Tryd.func19, Tryd.ntmps19
      go_wp2_with (first | (go_at_call 51; refine (takeStep_no _ t x 3 _ H.out HE.out (by omega) 1 rfl HF.out).mono ?_; rintro e w1 ⟨rfl, b1⟩))
      go_ret2
      exact ⟨_, rfl, FisO.nil _ _ _, b1⟩
    · rcases findFi_cases t x 1 with hk | ⟨k, hkl, hk, hpl, ht, hhit⟩
      · omega
      have hst := (hitFi_iff.1 hhit).2.resolve_left (by omega)
      obtain ⟨⟨x0, x1, x2, x3, x4, x5, x6⟩, hx⟩ : ∃ s, t.getD k fiD = s := ⟨_, rfl⟩
      have hval := vals ht hkl hx
      have hok : Fi.ok ⟨x0, x1, x2, x3, x4, x5, x6⟩ := by rw [← hx, getFi_lt hkl]; exact h.fis_ok _ (List.getElem_mem hkl)
      rw [hx] at hst
      simp only at hst
      subst hst
      have hv2 : isFi ⟨x0, x1, x2, x3, x4, 2, x6⟩ = true := by rw [isFi_iff] at hval ⊢; obtain ⟨p1, p2, p3, p4, p5, p6, p7⟩ := hval; exact ⟨p1, p2, p3, p4, by simp, p6, by simpa [closedB] using p7⟩
      have hw := hres
      rw [if_neg hf, hpl, hx] at hw
      simp only at hw
      rw [withFi_ok (areFi_set ht hkl hv2 (by rw [hx]) (by rw [hx]) (by rw [hx]))] at hw
      obtain ⟨rfl, rfl⟩ := Prod.mk.inj hw
      have HK := Lib.hid hk
      have HX := Lib.hid hx
      have HE := Lib.hid hE
      have g0 : (0 : Int) ≤ (k : Int) := by omega
      have g1 : (k : Int) < (t.length : Int) := by omega
      clear hok hw hk hres h hx hhit hval hv2 ht hf hE
      go_enter Tryd.func19, Tryd.ntmps19
      go_wp2_with (first | (go_at_call 51; refine (takeStep_yes _ t x 3 _ H.out HE.out (by omega) 1 rfl 2 rfl k HK.out).mono ?_; rintro e w1 ⟨g, cg, rfl, ho, b1'⟩; have hgl := (ho.1.1.lt g rfl).1; have HO := Lib.hid ho; clear ho))
      go_ret2
      have := HO.out
      rw [HX.out] at this
      exact ⟨_, rfl, this, b1'⟩
  · rw [lenRes_t] at hres
    by_cases hf : findFi t x 2 < 0
    · have hh := hres
      rw [if_pos hf] at hh
      obtain ⟨rfl, rfl⟩ := Prod.mk.inj hh
      have HE := Lib.hid hE
      have HF := Lib.hid hf
      clear hh hf hres h hE
      go_enter Tryd.func19, Tryd.ntmps19
      go_wp2_with (first | (go_at_call 51; refine (takeStep_no _ t x 4 _ H.out HE.out (by omega) 2 rfl HF.out).mono ?_; rintro e w1 ⟨rfl, b1⟩))
      go_ret2
      exact ⟨_, rfl, FisO.nil _ _ _, b1⟩
    · rcases findFi_cases t x 2 with hk | ⟨k, hkl, hk, hpl, ht, hhit⟩
      · omega
      have hst := (hitFi_iff.1 hhit).2.resolve_left (by omega)
      obtain ⟨⟨x0, x1, x2, x3, x4, x5, x6⟩, hx⟩ : ∃ s, t.getD k fiD = s := ⟨_, rfl⟩
      have hval := vals ht hkl hx
      have hok : Fi.ok ⟨x0, x1, x2, x3, x4, x5, x6⟩ := by rw [← hx, getFi_lt hkl]; exact h.fis_ok _ (List.getElem_mem hkl)
      rw [hx] at hst
      simp only at hst
      subst hst
      have hv2 : isFi ⟨x0, x1, x2, x3, x4, 1, x6⟩ = true := by rw [isFi_iff] at hval ⊢; obtain ⟨p1, p2, p3, p4, p5, p6, p7⟩ := hval; exact ⟨p1, p2, p3, p4, by simp, p6, by simpa [closedB] using p7⟩
      have hw := hres
      rw [if_neg hf, hpl, hx] at hw
      simp only at hw
      rw [withFi_ok (areFi_set ht hkl hv2 (by rw [hx]) (by rw [hx]) (by rw [hx]))] at hw
      obtain ⟨rfl, rfl⟩ := Prod.mk.inj hw
      have HK := Lib.hid hk
      have HX := Lib.hid hx
      have HE := Lib.hid hE
      have g0 : (0 : Int) ≤ (k : Int) := by omega
      have g1 : (k : Int) < (t.length : Int) := by omega
      clear hok hw hk hres h hx hhit hval hv2 ht hf hE
      go_enter Tryd.func19, Tryd.ntmps19
      go_wp2_with (first | (go_at_call 51; refine (takeStep_yes _ t x 4 _ H.out HE.out (by omega) 2 rfl 1 rfl k HK.out).mono ?_; rintro e w1 ⟨g, cg, rfl, ho, b1'⟩; have hgl := (ho.1.1.lt g rfl).1; have HO := Lib.hid ho; clear ho))
      go_ret2
      have := HO.out
      rw [HX.out] at this
      exact ⟨_, rfl, this, b1'⟩

set_option maxRecDepth 20000 in
set_option maxHeartbeats 2000000 in
theorem implCloseFile_any (v : Value) (t : List Fi) (x : Int) (d : Int) (w : World) (h : RowR 7 rFi w v t) (hE : Steps w) (hd : inI d) (xs : List Fi) (b : Bool) (hres : cloRes t x d = (xs, b)) :
    Calls Tryd.prog 12 #[v, .int .i64 x, .int .i64 d] w fun e w' => ∃ v', e = .returned (.tuple #[v', .bool b]) ∧ FisO w.heap.size w'.heap.size w' v' xs ∧ Below w.heap.size w w' := by
  have H := Lib.hid h
  by_cases hf : findFi t x 0 < 0
  · have hh := hres
    unfold cloRes at hh
    rw [if_pos (.inl hf)] at hh
    obtain ⟨rfl, rfl⟩ := Prod.mk.inj hh
    have HE := Lib.hid hE
    have HF := Lib.hid hf
    clear hh hf hres h hE
    go_enter Tryd.func12, Tryd.ntmps12
    go_wp2_with (first | (go_at_call 51; refine (takeStep_no _ t x 1 _ H.out HE.out (by omega) 0 rfl HF.out).mono ?_; rintro e w1 ⟨rfl, b1⟩))
    go_ret2
    exact ⟨_, rfl, FisO.nil _ _ _, b1⟩
  · rcases findFi_cases t x 0 with hk | ⟨k, hkl, hk, hpl, ht, hhit⟩
    · omega
    have hst := (hitFi_iff.1 hhit).2.resolve_left (by omega)
    obtain ⟨⟨x0, x1, x2, x3, x4, x5, x6⟩, hx⟩ : ∃ s, t.getD k fiD = s := ⟨_, rfl⟩
    have hval := vals ht hkl hx
    have hok : Fi.ok ⟨x0, x1, x2, x3, x4, x5, x6⟩ := by rw [← hx, getFi_lt hkl]; exact h.fis_ok _ (List.getElem_mem hkl)
    rw [hx] at hst
    simp only at hst
    subst hst
    have HK := Lib.hid hk
    have HX := Lib.hid hx
    have HE := Lib.hid hE
    have g0 : (0 : Int) ≤ (k : Int) := by omega
    have g1 : (k : Int) < (t.length : Int) := by omega
    by_cases hg : d < 1
    · have hh := hres
      unfold cloRes at hh
      rw [if_pos (.inr hg)] at hh
      obtain ⟨rfl, rfl⟩ := Prod.mk.inj hh
      clear hok hk hres h hx hhit hval ht hf hE hh
      go_enter Tryd.func12, Tryd.ntmps12
      go_wp2_with (first | (go_at_call 51; refine (takeStep_yes _ t x 1 _ H.out HE.out (by omega) 0 rfl 1 rfl k HK.out).mono ?_; rintro e w1 ⟨g, cg, rfl, ho, b1'⟩; have hgl := (ho.1.1.lt g rfl).1; have d4 := ho.cellAt k 4 (by rw [List.length_set]; exact hkl) (by omega); rw [getD_set_fi hkl, if_pos rfl, HX.out] at d4; simp only [fiC, List.getElem?_cons_succ, List.getElem?_cons_zero] at d4; have r4 := ho.1.frozen (k * 7 + 4); have HO := Lib.hid ho; clear ho))
      go_ret2
      exact ⟨_, rfl, FisO.nil _ _ _, b1'⟩
    · have hw := hres
      unfold cloRes at hw
      rw [if_neg (by rintro (q | q); exact hf q; exact hg q), hpl, hx] at hw
      simp only at hw
      obtain ⟨bm, hbm⟩ : ∃ b, areFi (t.set k ⟨x0, x1, x2, x3, d, 1, x6⟩) = b := ⟨_, rfl⟩
      have hmr := withFi_yes hw bm hbm
      have hok2 : Fi.ok ⟨x0, x1, x2, x3, d, 1, x6⟩ := ⟨hok.1, hok.2.1, hok.2.2.1, hok.2.2.2.1, hd, by simp [inI], hok.2.2.2.2.2.2⟩
      have HOK := Lib.hid hok2
      have HMR := Lib.hid hmr
      have HBM := Lib.hid hbm
      clear hok hok2 hw hk hres h hx hhit hval ht hf hE hmr hbm
      cases bm
      · obtain ⟨rfl, rfl⟩ := HMR.out.2 rfl
        go_enter Tryd.func12, Tryd.ntmps12
        go_wp2_with (first | (go_at_call 33; obtain ⟨p1, p2⟩ := HO.out.store k 4 (by rw [List.length_set]; exact hkl) (by omega) (.int .i64 d) ⟨x0, x1, x2, x3, d, 1, x6⟩ (by rw [getD_set_fi hkl, if_pos rfl, HX.out]; rfl) HOK.out; rw [List.set_set] at p1; have bS := b1'.setCell (p := ⟨g, k * 7 + 4, none⟩) (by simp; omega) (.int .i64 d); have HP := Lib.hid p1; clear p1 p2; refine (implAreFi_any _ _ _ HP.out.row).mono ?_; rw [HBM.out]; rintro e w2 ⟨rfl, b2'⟩; have bE := bS.trans (b2'.mono bS.size)) | (go_at_call 51; refine (takeStep_yes _ t x 1 _ H.out HE.out (by omega) 0 rfl 1 rfl k HK.out).mono ?_; rintro e w1 ⟨g, cg, rfl, ho, b1'⟩; have hgl := (ho.1.1.lt g rfl).1; have d4 := ho.cellAt k 4 (by rw [List.length_set]; exact hkl) (by omega); rw [getD_set_fi hkl, if_pos rfl, HX.out] at d4; simp only [fiC, List.getElem?_cons_succ, List.getElem?_cons_zero] at d4; have r4 := ho.1.frozen (k * 7 + 4); have HO := Lib.hid ho; clear ho))
        go_ret2
        exact ⟨_, rfl, FisO.nil _ _ _, bE⟩
      · obtain ⟨rfl, rfl⟩ := HMR.out.1 rfl
        go_enter Tryd.func12, Tryd.ntmps12
        go_wp2_with (first | (go_at_call 33; obtain ⟨p1, p2⟩ := HO.out.store k 4 (by rw [List.length_set]; exact hkl) (by omega) (.int .i64 d) ⟨x0, x1, x2, x3, d, 1, x6⟩ (by rw [getD_set_fi hkl, if_pos rfl, HX.out]; rfl) HOK.out; rw [List.set_set] at p1; have bS := b1'.setCell (p := ⟨g, k * 7 + 4, none⟩) (by simp; omega) (.int .i64 d); have HP := Lib.hid p1; clear p1 p2; refine (implAreFi_any _ _ _ HP.out.row).mono ?_; rw [HBM.out]; rintro e w2 ⟨rfl, b2'⟩; have bE := bS.trans (b2'.mono bS.size)) | (go_at_call 51; refine (takeStep_yes _ t x 1 _ H.out HE.out (by omega) 0 rfl 1 rfl k HK.out).mono ?_; rintro e w1 ⟨g, cg, rfl, ho, b1'⟩; have hgl := (ho.1.1.lt g rfl).1; have d4 := ho.cellAt k 4 (by rw [List.length_set]; exact hkl) (by omega); rw [getD_set_fi hkl, if_pos rfl, HX.out] at d4; simp only [fiC, List.getElem?_cons_succ, List.getElem?_cons_zero] at d4; have r4 := ho.1.frozen (k * 7 + 4); have HO := Lib.hid ho; clear ho))
        go_ret2
        exact ⟨_, rfl, (HP.out.below b2').wide (Nat.le_refl _) (by have := b2'.size; simpa using this), bE⟩

set_option maxRecDepth 20000 in
set_option maxHeartbeats 2000000 in
theorem implAddPages_any (v : Value) (t : List Fi) (x : Int) (p : Int) (w : World) (h : RowR 7 rFi w v t) (hE : Steps w) (xs : List Fi) (b : Bool) (hres : pagRes t x p = (xs, b)) :
    Calls Tryd.prog 38 #[v, .int .i64 x, .int .i64 p] w fun e w' => ∃ v', e = .returned (.tuple #[v', .bool b]) ∧ FisO w.heap.size w'.heap.size w' v' xs ∧ Below w.heap.size w w' := by
  have H := Lib.hid h
  by_cases hf : findFi t x 0 < 0
  · have hh := hres
    unfold pagRes at hh
    rw [if_pos (.inl hf)] at hh
    obtain ⟨rfl, rfl⟩ := Prod.mk.inj hh
    have HE := Lib.hid hE
    have HF := Lib.hid hf
    clear hh hf hres h hE
    go_enter Tryd.func38, Tryd.ntmps38
    go_wp2_with (first | (go_at_call 51; refine (takeStep_no _ t x 0 _ H.out HE.out (by omega) 0 rfl HF.out).mono ?_; rintro e w1 ⟨rfl, b1⟩))
    go_ret2
    exact ⟨_, rfl, FisO.nil _ _ _, b1⟩
  · rcases findFi_cases t x 0 with hk | ⟨k, hkl, hk, hpl, ht, hhit⟩
    · omega
    have hst := (hitFi_iff.1 hhit).2.resolve_left (by omega)
    obtain ⟨⟨x0, x1, x2, x3, x4, x5, x6⟩, hx⟩ : ∃ s, t.getD k fiD = s := ⟨_, rfl⟩
    have hval := vals ht hkl hx
    have hok : Fi.ok ⟨x0, x1, x2, x3, x4, x5, x6⟩ := by rw [← hx, getFi_lt hkl]; exact h.fis_ok _ (List.getElem_mem hkl)
    rw [hx] at hst
    simp only at hst
    subst hst
    have HK := Lib.hid hk
    have HX := Lib.hid hx
    have HE := Lib.hid hE
    have g0 : (0 : Int) ≤ (k : Int) := by omega
    have g1 : (k : Int) < (t.length : Int) := by omega
    by_cases hg : ¬ (1 ≤ p ∧ p ≤ 500)
    · have hh := hres
      unfold pagRes at hh
      rw [if_pos (.inr hg)] at hh
      obtain ⟨rfl, rfl⟩ := Prod.mk.inj hh
      have hcs : p < 1 ∨ (¬ p < 1 ∧ 500 < p) := by omega
      clear hok hk hres h hx hhit hval ht hf hE hh hg
      rcases hcs with q1 | ⟨q1, q2⟩
      all_goals
        go_enter Tryd.func38, Tryd.ntmps38
        go_wp2_with (first | (go_at_call 51; refine (takeStep_yes _ t x 0 _ H.out HE.out (by omega) 0 rfl 0 rfl k HK.out).mono ?_; rintro e w1 ⟨g, cg, rfl, ho, b1'⟩; have hgl := (ho.1.1.lt g rfl).1; have d6 := ho.cellAt k 6 (by rw [List.length_set]; exact hkl) (by omega); rw [getD_set_fi hkl, if_pos rfl, HX.out] at d6; simp only [fiC, List.getElem?_cons_succ, List.getElem?_cons_zero] at d6; have r6 := ho.1.frozen (k * 7 + 6); have HO := Lib.hid ho; clear ho))
        go_ret2
        exact ⟨_, rfl, FisO.nil _ _ _, b1'⟩
    · have hpg := (isFi_iff.1 hval).2.2.2.2.2.1
      simp only at hpg
      have hwr : IntKind.i64.wrap (x6 + p) = x6 + p := Go.IntWalk.i64_in _ (by omega)
      have hw := hres
      unfold pagRes at hw
      rw [if_neg (by rintro (q | q); exact hf q; exact hg q), hpl, hx] at hw
      simp only at hw
      obtain ⟨bm, hbm⟩ : ∃ b, areFi (t.set k ⟨x0, x1, x2, x3, x4, 0, x6 + p⟩) = b := ⟨_, rfl⟩
      have hmr := withFi_yes hw bm hbm
      have hok2 : Fi.ok ⟨x0, x1, x2, x3, x4, 0, x6 + p⟩ := ⟨hok.1, hok.2.1, hok.2.2.1, hok.2.2.2.1, hok.2.2.2.2.1, hok.2.2.2.2.2.1, by show inI (x6 + p); unfold inI; omega⟩
      have q1 : ¬ p < 1 := by omega
      have q2 : ¬ 500 < p := by omega
      have HOK := Lib.hid hok2
      have HMR := Lib.hid hmr
      have HBM := Lib.hid hbm
      clear hok hok2 hw hk hres h hx hhit hval ht hf hE hmr hbm hg
      cases bm
      · obtain ⟨rfl, rfl⟩ := HMR.out.2 rfl
        go_enter Tryd.func38, Tryd.ntmps38
        go_wp2_with (first | (go_at_call 33; obtain ⟨p1, p2⟩ := HO.out.store k 6 (by rw [List.length_set]; exact hkl) (by omega) (.int .i64 (x6 + p)) ⟨x0, x1, x2, x3, x4, 0, x6 + p⟩ (by rw [getD_set_fi hkl, if_pos rfl, HX.out]; rfl) HOK.out; rw [List.set_set] at p1; have bS := b1'.setCell (p := ⟨g, k * 7 + 6, none⟩) (by simp; omega) (.int .i64 (x6 + p)); have HP := Lib.hid p1; clear p1 p2; refine (implAreFi_any _ _ _ HP.out.row).mono ?_; rw [HBM.out]; rintro e w2 ⟨rfl, b2'⟩; have bE := bS.trans (b2'.mono bS.size)) | (go_at_call 51; refine (takeStep_yes _ t x 0 _ H.out HE.out (by omega) 0 rfl 0 rfl k HK.out).mono ?_; rintro e w1 ⟨g, cg, rfl, ho, b1'⟩; have hgl := (ho.1.1.lt g rfl).1; have d6 := ho.cellAt k 6 (by rw [List.length_set]; exact hkl) (by omega); rw [getD_set_fi hkl, if_pos rfl, HX.out] at d6; simp only [fiC, List.getElem?_cons_succ, List.getElem?_cons_zero] at d6; have r6 := ho.1.frozen (k * 7 + 6); have HO := Lib.hid ho; clear ho))
        go_ret2
        exact ⟨_, rfl, FisO.nil _ _ _, bE⟩
      · obtain ⟨rfl, rfl⟩ := HMR.out.1 rfl
        go_enter Tryd.func38, Tryd.ntmps38
        go_wp2_with (first | (go_at_call 33; obtain ⟨p1, p2⟩ := HO.out.store k 6 (by rw [List.length_set]; exact hkl) (by omega) (.int .i64 (x6 + p)) ⟨x0, x1, x2, x3, x4, 0, x6 + p⟩ (by rw [getD_set_fi hkl, if_pos rfl, HX.out]; rfl) HOK.out; rw [List.set_set] at p1; have bS := b1'.setCell (p := ⟨g, k * 7 + 6, none⟩) (by simp; omega) (.int .i64 (x6 + p)); have HP := Lib.hid p1; clear p1 p2; refine (implAreFi_any _ _ _ HP.out.row).mono ?_; rw [HBM.out]; rintro e w2 ⟨rfl, b2'⟩; have bE := bS.trans (b2'.mono bS.size)) | (go_at_call 51; refine (takeStep_yes _ t x 0 _ H.out HE.out (by omega) 0 rfl 0 rfl k HK.out).mono ?_; rintro e w1 ⟨g, cg, rfl, ho, b1'⟩; have hgl := (ho.1.1.lt g rfl).1; have d6 := ho.cellAt k 6 (by rw [List.length_set]; exact hkl) (by omega); rw [getD_set_fi hkl, if_pos rfl, HX.out] at d6; simp only [fiC, List.getElem?_cons_succ, List.getElem?_cons_zero] at d6; have r6 := ho.1.frozen (k * 7 + 6); have HO := Lib.hid ho; clear ho))
        go_ret2
        exact ⟨_, rfl, (HP.out.below b2').wide (Nat.le_refl _) (by have := b2'.size; simpa using this), bE⟩
end Go.Proofs.YtpbjddiopfkgbaaDoor
