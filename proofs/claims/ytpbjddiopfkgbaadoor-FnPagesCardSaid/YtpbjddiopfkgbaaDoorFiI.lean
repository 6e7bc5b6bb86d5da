/- Files, the program's: IsFile, hasTitle, AreFiles. -/
import Derived.Test.YtpbjddiopfkgbaaDoorSlFi
import Derived.Test.YtpbjddiopfkgbaaDoorStepM
import Derived.Test.YtpbjddiopfkgbaaDoorWord
import Derived.Test.YtpbjddiopfkgbaaDoorDayI
import Derived.Test.YtpbjddiopfkgbaaDoorBytesNe
import Derived.Lib.QuietBelow
import Derived.BigQuiet
import Derived.WalkSmall
namespace Go.Proofs.YtpbjddiopfkgbaaDoor
set_option linter.unusedVariables false
open Go.RowKit Go.Sort

theorem isSeriesF_any (x : Int) (w : World) : Calls Tryd.prog 65 #[.int .i64 x] w fun e w' => e = .returned (.bool (decide (1 ≤ x ∧ x ≤ 99))) ∧ w' = w := by
  by_cases h1 : 1 ≤ x
  · by_cases h2 : x ≤ 99
    all_goals
      go_enter Tryd.func65, Tryd.ntmps65
      go_wp2
      go_ret
      exact ⟨ret_bool (by simp; omega), rfl⟩
  · go_enter Tryd.func65, Tryd.ntmps65
    go_wp2
    go_ret
    exact ⟨ret_bool (by simp; omega), rfl⟩
/-- Its State is one of the three, and Closed fits it. -/
def fitsB (f : Fi) : Bool := decide (0 ≤ f.state ∧ f.state ≤ 2) && closedB f
set_option maxHeartbeats 1000000 in
theorem closedFits_any (x : Fi) (w : World) : Calls Tryd.prog 67 #[.agg #[.int .i64 x.id, .int .i64 x.series, .string x.title, .int .i64 x.opened, .int .i64 x.closed, .int .i64 x.state, .int .i64 x.pages]] w fun e w' => e = .returned (.bool (fitsB x)) ∧ Below w.heap.size w w' := by
  obtain ⟨x0, x1, x2, x3, x4, x5, x6⟩ := x
  simp only
  by_cases s0 : x5 = 0
  · subst s0
    have hf : fitsB ⟨x0, x1, x2, x3, x4, 0, x6⟩ = decide (x4 = 0) := by simp [fitsB, closedB]
    rw [hf]
    by_cases c0 : x4 = 0
    all_goals
      go_enter Tryd.func67, Tryd.ntmps67
      go_wp2
      go_ret
      exact ⟨ret_bool (by first | rfl | (simp [c0]; done) | (simp; omega) | omega), below_al (Below.refl _ _) _⟩
  · by_cases s1 : x5 = 1 ∨ x5 = 2
    · have hf : fitsB ⟨x0, x1, x2, x3, x4, x5, x6⟩ = (decide (0 ≤ x4 ∧ x4 ≤ 20000) && decide (x3 ≤ x4)) := by
        have : decide (0 ≤ x5 ∧ x5 ≤ 2) = true := decide_eq_true (by omega)
        simp [fitsB, closedB, s0, this]
      rw [hf]
      clear hf
      obtain ⟨bd, hbd⟩ : ∃ b, decide (0 ≤ x4 ∧ x4 ≤ 20000) = b := ⟨_, rfl⟩
      rw [hbd]
      have HBD := Lib.hid hbd
      clear hbd s0
      rcases s1 with rfl | rfl
      all_goals
        cases bd
        · go_enter Tryd.func67, Tryd.ntmps67
          go_wp2_with (first | (go_at_call 54; refine (isDay_any _ _).mono ?_; rw [HBD.out]; rintro e w' ⟨rfl, rfl⟩))
          go_ret
          exact ⟨ret_bool (by simp), below_al (Below.refl _ _) _⟩
        · by_cases c1 : x3 ≤ x4
          all_goals
            go_enter Tryd.func67, Tryd.ntmps67
            go_wp2_with (first | (go_at_call 54; refine (isDay_any _ _).mono ?_; rw [HBD.out]; rintro e w' ⟨rfl, rfl⟩))
            go_ret
            exact ⟨ret_bool (by first | rfl | (simp [c1]; done) | (simp; omega) | omega), below_al (Below.refl _ _) _⟩
    · have hf : fitsB ⟨x0, x1, x2, x3, x4, x5, x6⟩ = false := by
        have : decide (0 ≤ x5 ∧ x5 ≤ 2) = false := decide_eq_false (by omega)
        simp [fitsB, this]
      rw [hf]
      have s2 : ¬ x5 = 1 := fun h => s1 (.inl h)
      have s3 : ¬ x5 = 2 := fun h => s1 (.inr h)
      clear hf s1
      go_enter Tryd.func67, Tryd.ntmps67
      go_wp2
      go_ret
      exact ⟨ret_bool rfl, below_al (Below.refl _ _) _⟩
set_option maxHeartbeats 2000000 in
theorem implFi_any (x : Fi) (w : World) (hs : x.title.size ≤ maxLen) : Calls Tryd.prog 27 #[.agg #[.int .i64 x.id, .int .i64 x.series, .string x.title, .int .i64 x.opened, .int .i64 x.closed, .int .i64 x.state, .int .i64 x.pages]] w fun e w' => e = .returned (.bool (isFi x)) ∧ Below w.heap.size w w' := by
  obtain ⟨x0, x1, x2, x3, x4, x5, x6⟩ := x
  simp only at hs
  simp only
  obtain ⟨b1, hb1⟩ : ∃ b, decide (1 ≤ x1 ∧ x1 ≤ 99) = b := ⟨_, rfl⟩
  obtain ⟨b2, hb2⟩ : ∃ b, isWord x2 = b := ⟨_, rfl⟩
  obtain ⟨b3, hb3⟩ : ∃ b, decide (0 ≤ x3 ∧ x3 ≤ 20000) = b := ⟨_, rfl⟩
  obtain ⟨b4, hb4⟩ : ∃ b, fitsB ⟨x0, x1, x2, x3, x4, x5, x6⟩ = b := ⟨_, rfl⟩
  have hr : isFi ⟨x0, x1, x2, x3, x4, x5, x6⟩ = (decide (1 ≤ x0 ∧ x0 ≤ 999) && (b1 && (b2 && (b3 && (b4 && decide (0 ≤ x6 ∧ x6 ≤ 5000)))))) := by
    rw [← hb1, ← hb2, ← hb3, ← hb4]
    simp only [isFi, fitsB]
    rw [Bool.eq_iff_iff]
    simp only [Bool.and_eq_true]
    constructor
    · rintro ⟨p1, p2, p3, p4, p5, p6, p7⟩; exact ⟨p1, p2, p3, p4, ⟨p5, p7⟩, p6⟩
    · rintro ⟨p1, p2, p3, p4, ⟨p5, p7⟩, p6⟩; exact ⟨p1, p2, p3, p4, p5, p6, p7⟩
  rw [hr]
  have Hb1 := Lib.hid hb1
  have Hb2 := Lib.hid hb2
  have Hb3 := Lib.hid hb3
  have Hb4 := Lib.hid hb4
  clear hb1 hb2 hb3 hb4 hr
  have hcl := fun W => closedFits_any ⟨x0, x1, x2, x3, x4, x5, x6⟩ W
  rw [Hb4.out] at hcl
  have HCL := Lib.hid hcl
  clear hcl
  by_cases p0 : 1 ≤ x0
  · by_cases p1 : x0 ≤ 999
    · cases b1
      · go_enter Tryd.func27, Tryd.ntmps27
        go_wp2_with (first | (go_at_call 65; refine (isSeriesF_any _ _).mono ?_; rw [Hb1.out]; rintro e w' ⟨rfl, rfl⟩) | (go_at_call 66; refine (implIsWord_any _ _ hs).mono ?_; rw [Hb2.out]; rintro e w' ⟨rfl, rfl⟩) | (go_at_call 54; refine (isDay_any _ _).mono ?_; rw [Hb3.out]; rintro e w' ⟨rfl, rfl⟩) | (go_at_call 67; refine (HCL.out _).mono ?_; rintro e w5 ⟨rfl, b5⟩; have z6 := cell_kept (cell_new w _ _ 6 rfl) b5))
        go_ret
        exact ⟨ret_bool (by first | (simp; done) | (simp; omega) | (rw [Bool.eq_iff_iff]; simp; omega)), below_al (Below.refl _ _) _⟩
      · cases b2
        · go_enter Tryd.func27, Tryd.ntmps27
          go_wp2_with (first | (go_at_call 65; refine (isSeriesF_any _ _).mono ?_; rw [Hb1.out]; rintro e w' ⟨rfl, rfl⟩) | (go_at_call 66; refine (implIsWord_any _ _ hs).mono ?_; rw [Hb2.out]; rintro e w' ⟨rfl, rfl⟩) | (go_at_call 54; refine (isDay_any _ _).mono ?_; rw [Hb3.out]; rintro e w' ⟨rfl, rfl⟩) | (go_at_call 67; refine (HCL.out _).mono ?_; rintro e w5 ⟨rfl, b5⟩; have z6 := cell_kept (cell_new w _ _ 6 rfl) b5))
          go_ret
          exact ⟨ret_bool (by first | (simp; done) | (simp; omega) | (rw [Bool.eq_iff_iff]; simp; omega)), below_al (Below.refl _ _) _⟩
        · cases b3
          · go_enter Tryd.func27, Tryd.ntmps27
            go_wp2_with (first | (go_at_call 65; refine (isSeriesF_any _ _).mono ?_; rw [Hb1.out]; rintro e w' ⟨rfl, rfl⟩) | (go_at_call 66; refine (implIsWord_any _ _ hs).mono ?_; rw [Hb2.out]; rintro e w' ⟨rfl, rfl⟩) | (go_at_call 54; refine (isDay_any _ _).mono ?_; rw [Hb3.out]; rintro e w' ⟨rfl, rfl⟩) | (go_at_call 67; refine (HCL.out _).mono ?_; rintro e w5 ⟨rfl, b5⟩; have z6 := cell_kept (cell_new w _ _ 6 rfl) b5))
            go_ret
            exact ⟨ret_bool (by first | (simp; done) | (simp; omega) | (rw [Bool.eq_iff_iff]; simp; omega)), below_al (Below.refl _ _) _⟩
          · cases b4
            · go_enter Tryd.func27, Tryd.ntmps27
              go_wp2_with (first | (go_at_call 65; refine (isSeriesF_any _ _).mono ?_; rw [Hb1.out]; rintro e w' ⟨rfl, rfl⟩) | (go_at_call 66; refine (implIsWord_any _ _ hs).mono ?_; rw [Hb2.out]; rintro e w' ⟨rfl, rfl⟩) | (go_at_call 54; refine (isDay_any _ _).mono ?_; rw [Hb3.out]; rintro e w' ⟨rfl, rfl⟩) | (go_at_call 67; refine (HCL.out _).mono ?_; rintro e w5 ⟨rfl, b5⟩; have z6 := cell_kept (cell_new w _ _ 6 rfl) b5))
              go_ret
              exact ⟨ret_bool (by first | (simp; done) | (simp; omega) | (rw [Bool.eq_iff_iff]; simp; omega)), below_chain (below_al (Below.refl _ _) _) b5⟩
            · by_cases p6 : 0 ≤ x6
              · by_cases p7 : x6 ≤ 5000
                · go_enter Tryd.func27, Tryd.ntmps27
                  go_wp2_with (first | (go_at_call 65; refine (isSeriesF_any _ _).mono ?_; rw [Hb1.out]; rintro e w' ⟨rfl, rfl⟩) | (go_at_call 66; refine (implIsWord_any _ _ hs).mono ?_; rw [Hb2.out]; rintro e w' ⟨rfl, rfl⟩) | (go_at_call 54; refine (isDay_any _ _).mono ?_; rw [Hb3.out]; rintro e w' ⟨rfl, rfl⟩) | (go_at_call 67; refine (HCL.out _).mono ?_; rintro e w5 ⟨rfl, b5⟩; have z6 := cell_kept (cell_new w _ _ 6 rfl) b5))
                  go_ret
                  exact ⟨ret_bool (by first | (simp; done) | (simp; omega) | (rw [Bool.eq_iff_iff]; simp; omega)), below_chain (below_al (Below.refl _ _) _) b5⟩
                · go_enter Tryd.func27, Tryd.ntmps27
                  go_wp2_with (first | (go_at_call 65; refine (isSeriesF_any _ _).mono ?_; rw [Hb1.out]; rintro e w' ⟨rfl, rfl⟩) | (go_at_call 66; refine (implIsWord_any _ _ hs).mono ?_; rw [Hb2.out]; rintro e w' ⟨rfl, rfl⟩) | (go_at_call 54; refine (isDay_any _ _).mono ?_; rw [Hb3.out]; rintro e w' ⟨rfl, rfl⟩) | (go_at_call 67; refine (HCL.out _).mono ?_; rintro e w5 ⟨rfl, b5⟩; have z6 := cell_kept (cell_new w _ _ 6 rfl) b5))
                  go_ret
                  exact ⟨ret_bool (by first | (simp; done) | (simp; omega) | (rw [Bool.eq_iff_iff]; simp; omega)), below_chain (below_al (Below.refl _ _) _) b5⟩
              · go_enter Tryd.func27, Tryd.ntmps27
                go_wp2_with (first | (go_at_call 65; refine (isSeriesF_any _ _).mono ?_; rw [Hb1.out]; rintro e w' ⟨rfl, rfl⟩) | (go_at_call 66; refine (implIsWord_any _ _ hs).mono ?_; rw [Hb2.out]; rintro e w' ⟨rfl, rfl⟩) | (go_at_call 54; refine (isDay_any _ _).mono ?_; rw [Hb3.out]; rintro e w' ⟨rfl, rfl⟩) | (go_at_call 67; refine (HCL.out _).mono ?_; rintro e w5 ⟨rfl, b5⟩; have z6 := cell_kept (cell_new w _ _ 6 rfl) b5))
                go_ret
                exact ⟨ret_bool (by first | (simp; done) | (simp; omega) | (rw [Bool.eq_iff_iff]; simp; omega)), below_chain (below_al (Below.refl _ _) _) b5⟩
    · go_enter Tryd.func27, Tryd.ntmps27
      go_wp2_with (first | (go_at_call 65; refine (isSeriesF_any _ _).mono ?_; rw [Hb1.out]; rintro e w' ⟨rfl, rfl⟩) | (go_at_call 66; refine (implIsWord_any _ _ hs).mono ?_; rw [Hb2.out]; rintro e w' ⟨rfl, rfl⟩) | (go_at_call 54; refine (isDay_any _ _).mono ?_; rw [Hb3.out]; rintro e w' ⟨rfl, rfl⟩) | (go_at_call 67; refine (HCL.out _).mono ?_; rintro e w5 ⟨rfl, b5⟩; have z6 := cell_kept (cell_new w _ _ 6 rfl) b5))
      go_ret
      exact ⟨ret_bool (by first | (simp; done) | (simp; omega) | (rw [Bool.eq_iff_iff]; simp; omega)), below_al (Below.refl _ _) _⟩
  · go_enter Tryd.func27, Tryd.ntmps27
    go_wp2_with (first | (go_at_call 65; refine (isSeriesF_any _ _).mono ?_; rw [Hb1.out]; rintro e w' ⟨rfl, rfl⟩) | (go_at_call 66; refine (implIsWord_any _ _ hs).mono ?_; rw [Hb2.out]; rintro e w' ⟨rfl, rfl⟩) | (go_at_call 54; refine (isDay_any _ _).mono ?_; rw [Hb3.out]; rintro e w' ⟨rfl, rfl⟩) | (go_at_call 67; refine (HCL.out _).mono ?_; rintro e w5 ⟨rfl, b5⟩; have z6 := cell_kept (cell_new w _ _ 6 rfl) b5))
    go_ret
    exact ⟨ret_bool (by first | (simp; done) | (simp; omega) | (rw [Bool.eq_iff_iff]; simp; omega)), below_al (Below.refl _ _) _⟩

theorem RowR.fi_take {w : World} {a : Option Addr} {n c : Nat} {t : List Fi} (h : RowR 7 rFi w (.slice a n c) t) {k : Nat} (hk : k ≤ t.length) : RowR 7 rFi w (.slice a k c) (t.take k) := by
  obtain ⟨a', cap, e, h1, h2, h3⟩ := h
  cases e
  have hl : (t.take k).length = k := by rw [List.length_take]; omega
  refine ⟨a, c, by rw [hl], by omega, h2, ?_⟩
  rcases h3 with rfl | ⟨b, off, hb, rfl, hc⟩
  · exact .inl (by simp)
  · refine .inr ⟨b, off, hb, rfl, fun i hi => ?_⟩
    obtain ⟨cs, q1, q2, q3⟩ := hc i (by omega)
    exact ⟨cs, q1, q2, by rw [List.getElem_take]; exact q3⟩

theorem bySt_any (f : Fi) (sr : Int) (nm : ByteArray) (B : Nat) (C : Nat) (w : World) (hB : w.cell? ⟨B, 0, none⟩ = some (.int .i64 sr)) (hC : w.cell? ⟨C, 0, none⟩ = some (.string nm)) :
    Calls Tryd.prog 91 #[.agg #[.int .i64 f.id, .int .i64 f.series, .string f.title, .int .i64 f.opened, .int .i64 f.closed, .int .i64 f.state, .int .i64 f.pages], .pointer (some ⟨B, 0, none⟩), .pointer (some ⟨C, 0, none⟩)] w fun e w' => e = .returned (.bool (decide (f.series = sr ∧ f.title = nm))) ∧ Below w.heap.size w w' := by
  obtain ⟨x0, x1, x2, x3, x4, x5, x6⟩ := f
  have hBa := fun o : Obj => below_al_cell hB o
  have hCa := fun o : Obj => below_al_cell hC o
  simp only
  by_cases h : x1 = sr
  · have hq : (x1 == sr) = true := by simp [h]
    by_cases hs : x2 = nm
    · have dss : (x2.toList == nm.toList) = true := by simp [hs]
      have hd : decide (x1 = sr ∧ x2 = nm) = true := decide_eq_true ⟨h, hs⟩
      rw [hd]
      clear h hs hd
      go_enter Tryd.func91, Tryd.ntmps91
      go_wp2
      go_ret
      exact ⟨rfl, below_al (Below.refl _ _) _⟩
    · have dss := beq_bytes_ne hs
      have hd : decide (x1 = sr ∧ x2 = nm) = false := decide_eq_false (fun k => hs k.2)
      rw [hd]
      clear h hs hd
      go_enter Tryd.func91, Tryd.ntmps91
      go_wp2
      go_ret
      exact ⟨rfl, below_al (Below.refl _ _) _⟩
  · have hq : (x1 == sr) = false := by simp [h]
    have hd : decide (x1 = sr ∧ x2 = nm) = false := decide_eq_false (fun k => h k.1)
    rw [hd]
    clear h hd
    go_enter Tryd.func91, Tryd.ntmps91
    go_wp2
    go_ret
    exact ⟨rfl, below_al (Below.refl _ _) _⟩
set_option maxHeartbeats 1000000 in
theorem indexSt_any (v : Value) (t : List Fi) (sr : Int) (nm : ByteArray) (B : Nat) (C : Nat) (w : World) (h : RowR 7 rFi w v t) (hB : w.cell? ⟨B, 0, none⟩ = some (.int .i64 sr)) (hC : w.cell? ⟨C, 0, none⟩ = some (.string nm)) :
    Calls Tryd.prog 84 #[v, .func (.func 91) #[] #[.pointer (some ⟨B, 0, none⟩), .pointer (some ⟨C, 0, none⟩)]] w fun e w' => e = .returned (.int .i64 (fIdx (fun g : Fi => decide (g.series = sr ∧ g.title = nm)) t)) ∧ Below w.heap.size w w' := by
  have hcap := h.cap
  obtain ⟨a1, c1, rfl, hl1, hm1, r1⟩ := h.fis
  have R1 := Lib.hid r1
  clear h r1
  unfold maxLen at hm1
  obtain ⟨p, hp⟩ : ∃ p : Fi → Bool, (fun g : Fi => decide (g.series = sr ∧ g.title = nm)) = p := ⟨_, rfl⟩
  rw [hp]
  have HP := Lib.hid hp
  clear hp
  go_enter Tryd.func84, Tryd.ntmps84
  go_wp2
  go_loopw [8] (fun i wr => ∃ k : Nat, k ≤ t.length ∧ i = .int .i64 k ∧ Hid (∀ j, j < k → p (t.getD j fiD) = false) ∧ Below w.heap.size w wr) (fun i _ => t.length - (intOf i).toNat)
  case atStart => exact ⟨0, Nat.zero_le _, rfl, Lib.hid (fun j h => absurd h (Nat.not_lt_zero _)), Below.refl _ _⟩
  case round =>
    obtain ⟨k, hk, rfl, HN, hb⟩ := hrel
    by_cases hlt : k < t.length
    · obtain ⟨b1, o1, hb1, rfl, e1⟩ := R1.out.resolve_left (fun e => by rw [e] at hlt; simp at hlt)
      obtain ⟨⟨x0, x1, x2, x3, x4, x5, x6⟩, hx⟩ : ∃ s, t.getD k fiD = s := ⟨_, rfl⟩
      obtain ⟨q0, q1, q2, q3, q4, q5, q6, hok⟩ := e1 k hlt
      rw [hx] at q0 q1 q2 q3 q4 q5 q6
      simp only at q0 q1 q2 q3 q4 q5 q6
      have f0 := cell_kept q0 hb
      have f1 := cell_kept q1 hb
      have f2 := cell_kept q2 hb
      have f3 := cell_kept q3 hb
      have f4 := cell_kept q4 hb
      have f5 := cell_kept q5 hb
      have f6 := cell_kept q6 hb
      have HX := Lib.hid hx
      have g0 : (0 : Int) ≤ (k : Int) := by omega
      have g1 : (k : Int) < (t.length : Int) := by omega
      have hBr := cell_kept hB hb
      have hCr := cell_kept hC hb
      have hsz := hb.size
      clear q0 q1 q2 q3 q4 q5 q6 hok e1 hx
      have hcall := bySt_any ⟨x0, x1, x2, x3, x4, x5, x6⟩ sr nm B C wr hBr hCr
      obtain ⟨bq, hbq⟩ : ∃ b, p ⟨x0, x1, x2, x3, x4, x5, x6⟩ = b := ⟨_, rfl⟩
      have hbq2 : decide (x1 = sr ∧ x2 = nm) = bq := by rw [← hbq, ← HP.out]
      simp only [hbq2] at hcall
      have HBQ := Lib.hid hbq
      have HCALL := Lib.hid hcall
      clear hbq hbq2 hcall hBr hCr
      cases bq
      · go_wp2_with (first | (go_at_call 91; refine HCALL.out.mono ?_; rintro e w2 ⟨rfl, b2⟩))
        go_roundw
        case rel =>
          refine ⟨k + 1, by omega, by go_num, Lib.hid (fun j hj => ?_), hb.trans (b2.mono hsz)⟩
          rcases Nat.lt_or_ge j k with h' | h'
          · exact HN.out j h'
          · obtain rfl : j = k := by omega
            rw [HX.out]
            exact HBQ.out
        case measure => simp [intOf]; omega
      · go_wp2_with (first | (go_at_call 91; refine HCALL.out.mono ?_; rintro e w2 ⟨rfl, b2⟩))
        go_ret
        exact ⟨ret_int (fIdx_is hlt HN.out (by rw [HX.out]; exact HBQ.out)).symm, hb.trans (b2.mono hsz)⟩
    · have hkt : k = t.length := by omega
      have HF : Hid (fIdx p t = -1) := Lib.hid (fIdx_none (fun j hj => HN.out j (by omega)))
      clear hkt
      go_wp2
      go_ret
      exact ⟨ret_int HF.out.symm, hb⟩
theorem hasTitle_any (v : Value) (t : List Fi) (f : Fi) (w : World) (h : RowR 7 rFi w v t) :
    Calls Tryd.prog 74 #[v, .int .i64 f.series, .string f.title] w fun e w' => e = .returned (.bool (twinF t f)) ∧ Below w.heap.size w w' := by
  have H := Lib.hid h
  clear h
  obtain ⟨c, hc⟩ : ∃ c, fIdx (fun g : Fi => decide (g.series = f.series ∧ g.title = f.title)) t = c := ⟨_, rfl⟩
  have ht : twinF t f = decide (0 ≤ c) := by rw [← hc, fIdx_any]; rfl
  have HC := Lib.hid hc
  have HT := Lib.hid ht
  clear hc ht
  obtain ⟨sr, hsr⟩ : ∃ x, f.series = x := ⟨_, rfl⟩
  obtain ⟨nm, hnm⟩ : ∃ x, f.title = x := ⟨_, rfl⟩
  have HI := Lib.hid (fun W v B C h1 h2 h3 => indexSt_any v t sr nm B C W h1 h2 h3)
  rw [hsr, hnm] at HC ⊢
  clear hsr hnm
  go_enter Tryd.func74, Tryd.ntmps74
  go_wp2_with fail
  have k1 := below_al_cell (cell_new w #[.int .i64 sr] 3 0 rfl) (.cells #[.string nm] 9 (0, 0))
  have k2 := cell_new (w.alloc (.cells #[.int .i64 sr] 3 (0, 0))) #[.string nm] 9 0 rfl
  have HB := Lib.hid (below_al (below_al (Below.refl w.heap.size w) (.cells #[.int .i64 sr] 3 (0, 0))) (.cells #[.string nm] 9 (0, 0)))
  simp only [World.size_alloc] at k1 k2
  have HK1 := Lib.hid k1
  have HK2 := Lib.hid k2
  clear k1 k2
  have hcon : ∀ W, Below w.heap.size w W → W.cell? ⟨w.heap.size, 0, none⟩ = some (.int .i64 sr) → W.cell? ⟨w.heap.size + 1, 0, none⟩ = some (.string nm) → Calls Tryd.prog 90 #[v, .func (.func 91) #[] #[.pointer (some ⟨w.heap.size, 0, none⟩), .pointer (some ⟨w.heap.size + 1, 0, none⟩)]] W fun e w' => e = .returned (.bool (decide (0 ≤ c))) ∧ Below W.heap.size W w' := fun W hb h1 h2 => by
    have HB' := Lib.hid hb
    clear hb
    go_enter Tryd.func90, Tryd.ntmps90
    go_wp2_with fail
    refine (HI.out _ _ _ _ (H.out.below rFi_stable HB'.out) h1 h2).mono ?_
    rw [HC.out]
    rintro e w2 ⟨rfl, b2⟩
    go_wp2_with fail
    go_ret
    exact ⟨rfl, b2⟩
  refine (hcon _ HB.out HK1.out HK2.out).mono ?_
  rintro e w3 ⟨rfl, b3⟩
  go_wp2_with fail
  go_ret
  exact ⟨ret_bool HT.out.symm, below_chain HB.out b3⟩

theorem fiAt_place {t : List Fi} {k : Nat} {f : Fi} (hx : t.getD k fiD = f) : fiAtB t k = (isFi f && (decide (prevFi t k < f.id) && !twinF (t.take k) f)) := by unfold fiAtB; rw [hx]

set_option maxRecDepth 20000 in
set_option maxHeartbeats 4000000 in
theorem implAreFi_any (v : Value) (t : List Fi) (w : World) (h : RowR 7 rFi w v t) :
    Calls Tryd.prog 33 #[v] w fun e w' => e = .returned (.bool (areFi t)) ∧ Below w.heap.size w w' := by
  have hcap := h.cap
  obtain ⟨a1, c1, hv, hl1, hm1, r1⟩ := h.fis
  subst hv
  have H := Lib.hid h
  have R1 := Lib.hid r1
  clear h r1
  unfold maxLen at hm1
  by_cases hL : 10 < t.length
  · have gL : (10 : Int) < t.length := by omega
    go_enter Tryd.func33, Tryd.ntmps33
    go_wp2_with fail
    go_ret
    exact ⟨ret_bool (Eq.symm (fi_long (by omega))), Below.refl _ _⟩
  · have gL : (t.length : Int) ≤ 10 := by omega
    have HL := Lib.hid hL
    clear hL
    go_enter Tryd.func33, Tryd.ntmps33
    go_wp2_with fail
    go_loopw [3, 11] (fun b i wr => ∃ (k : Nat) (pk : Int), k ≤ t.length ∧ i = .int .i64 k ∧ b = .int .i64 pk ∧ Hid (prevFi t k = pk) ∧ Hid (upto (fiAtB t) k = true) ∧ Below w.heap.size w wr) (fun _ i _ => t.length - (intOf i).toNat)
    case atStart => exact ⟨0, 0, Nat.zero_le _, rfl, rfl, rfl, Lib.hid (by simp [upto]), Below.refl _ _⟩
    case round =>
      obtain ⟨k, pk, hk, rfl, rfl, HP, HU, hb⟩ := hrel
      by_cases hlt : k < t.length
      · obtain ⟨b1, o1, hb1, rfl, e1⟩ := R1.out.resolve_left (fun e => by rw [e] at hlt; simp at hlt)
        obtain ⟨⟨x0, x1, x2, x3, x4, x5, x6⟩, hx⟩ : ∃ s, t.getD k fiD = s := ⟨_, rfl⟩
        obtain ⟨q0, q1, q2, q3, q4, q5, q6, hok⟩ := e1 k hlt
        rw [hx] at q0 q1 q2 q3 q4 q5 q6 hok
        simp only at q0 q1 q2 q3 q4 q5 q6
        have f0 := cell_kept q0 hb
        have f1 := cell_kept q1 hb
        have f2 := cell_kept q2 hb
        have f3 := cell_kept q3 hb
        have f4 := cell_kept q4 hb
        have f5 := cell_kept q5 hb
        have f6 := cell_kept q6 hb
        have HX := Lib.hid hx
        have g0 : (0 : Int) ≤ (k : Int) := by omega
        have g1 : (k : Int) < (t.length : Int) := by omega
        have hw := hb.size
        obtain ⟨bF, hbF⟩ : ∃ b, isFi ⟨x0, x1, x2, x3, x4, x5, x6⟩ = b := ⟨_, rfl⟩
        obtain ⟨bT, hbT⟩ : ∃ b, twinF (t.take k) ⟨x0, x1, x2, x3, x4, x5, x6⟩ = b := ⟨_, rfl⟩
        have hat := fiAt_place hx
        rw [hbF, hbT] at hat
        have HAT := Lib.hid hat
        have hcall : ∀ W : World, Calls Tryd.prog 27 #[.agg #[.int .i64 x0, .int .i64 x1, .string x2, .int .i64 x3, .int .i64 x4, .int .i64 x5, .int .i64 x6]] W fun e w' => e = .returned (.bool bF) ∧ Below W.heap.size W w' := fun W => by
          have := implFi_any ⟨x0, x1, x2, x3, x4, x5, x6⟩ W hok.2.2.1
          rwa [hbF] at this
        have hfind : ∀ W : World, Below wr.heap.size wr W → Calls Tryd.prog 74 #[.slice (some ⟨b1, o1, none⟩) k c1, .int .i64 x1, .string x2] W fun e w' => e = .returned (.bool bT) ∧ Below W.heap.size W w' := fun W hW => by
          have := hasTitle_any _ _ ⟨x0, x1, x2, x3, x4, x5, x6⟩ _ (((H.out.below rFi_stable hb).below rFi_stable hW).fi_take hk)
          rwa [hbT] at this
        have HCALL := Lib.hid hcall
        have HFIND := Lib.hid hfind
        clear q0 q1 q2 q3 q4 q5 q6 hok e1 hx hbF hbT hfind hat hcall
        cases bF
        · have hnt := notFi hlt (by rw [HAT.out]; rfl)
          have HNT := Lib.hid hnt
          clear hnt
          go_wp2_with fail
          generalize hWE : wr.alloc (.cells #[.int .i64 x0, .int .i64 x1, .string x2, .int .i64 x3, .int .i64 x4, .int .i64 x5, .int .i64 x6] 43 (0, 0)) = wE
          have bE : Below wr.heap.size wr wE := by rw [← hWE]; exact below_al (Below.refl _ _) _
          have z0 : wE.cell? ⟨wr.heap.size, 0, none⟩ = some (.int .i64 x0) := by rw [← hWE]; exact cell_new wr _ _ 0 rfl
          have z1 : wE.cell? ⟨wr.heap.size, 1, none⟩ = some (.int .i64 x1) := by rw [← hWE]; exact cell_new wr _ _ 1 rfl
          have z2 : wE.cell? ⟨wr.heap.size, 2, none⟩ = some (.string x2) := by rw [← hWE]; exact cell_new wr _ _ 2 rfl
          have z3 : wE.cell? ⟨wr.heap.size, 3, none⟩ = some (.int .i64 x3) := by rw [← hWE]; exact cell_new wr _ _ 3 rfl
          have z4 : wE.cell? ⟨wr.heap.size, 4, none⟩ = some (.int .i64 x4) := by rw [← hWE]; exact cell_new wr _ _ 4 rfl
          have z5 : wE.cell? ⟨wr.heap.size, 5, none⟩ = some (.int .i64 x5) := by rw [← hWE]; exact cell_new wr _ _ 5 rfl
          have z6 : wE.cell? ⟨wr.heap.size, 6, none⟩ = some (.int .i64 x6) := by rw [← hWE]; exact cell_new wr _ _ 6 rfl
          have m0 := cell_regrown z0
          have m1 := cell_regrown z1
          have m2 := cell_regrown z2
          have m3 := cell_regrown z3
          have m4 := cell_regrown z4
          have m5 := cell_regrown z5
          have m6 := cell_regrown z6
          have hc : ∀ d os, Calls Tryd.prog 27 #[.agg #[.int .i64 x0, .int .i64 x1, .string x2, .int .i64 x3, .int .i64 x4, .int .i64 x5, .int .i64 x6]] (grow (redrawn wE d) os) fun e w'' => e = .returned (.bool false) ∧ ∃ p : Regrown, w'' = grow (redrawn wE p.d) p.os := fun d os => Calls.regrown_of (HCALL.out _)
          refine wp_region_quiet_below (by kernel_rfl) (by kernel_rfl) ?_
          repeat (go_big_quiet_step (first | exact hc _ _))
          refine wpQuiet_nil ?_
          intro _ hw'
          obtain ⟨⟨dq, osq⟩, hw''⟩ := hw'
          subst hw''
          have bq := below_regrown wE dq osq
          have y0 := cell_kept z0 bq
          generalize grow (redrawn wE dq) osq = w2 at bq y0 ⊢
          go_wp2
          go_ret
          exact ⟨ret_bool HNT.out.symm, (hb.trans (bE.mono hw)).trans (bq.mono (Nat.le_trans hw bE.size))⟩
        · by_cases hP : x0 ≤ pk
          · have hnt := notFi hlt (by rw [HAT.out, HP.out, decide_eq_false (show ¬ pk < x0 by omega)]; rfl)
            have HNT := Lib.hid hnt
            clear hnt
            go_wp2_with fail
            generalize hWE : wr.alloc (.cells #[.int .i64 x0, .int .i64 x1, .string x2, .int .i64 x3, .int .i64 x4, .int .i64 x5, .int .i64 x6] 43 (0, 0)) = wE
            have bE : Below wr.heap.size wr wE := by rw [← hWE]; exact below_al (Below.refl _ _) _
            have z0 : wE.cell? ⟨wr.heap.size, 0, none⟩ = some (.int .i64 x0) := by rw [← hWE]; exact cell_new wr _ _ 0 rfl
            have z1 : wE.cell? ⟨wr.heap.size, 1, none⟩ = some (.int .i64 x1) := by rw [← hWE]; exact cell_new wr _ _ 1 rfl
            have z2 : wE.cell? ⟨wr.heap.size, 2, none⟩ = some (.string x2) := by rw [← hWE]; exact cell_new wr _ _ 2 rfl
            have z3 : wE.cell? ⟨wr.heap.size, 3, none⟩ = some (.int .i64 x3) := by rw [← hWE]; exact cell_new wr _ _ 3 rfl
            have z4 : wE.cell? ⟨wr.heap.size, 4, none⟩ = some (.int .i64 x4) := by rw [← hWE]; exact cell_new wr _ _ 4 rfl
            have z5 : wE.cell? ⟨wr.heap.size, 5, none⟩ = some (.int .i64 x5) := by rw [← hWE]; exact cell_new wr _ _ 5 rfl
            have z6 : wE.cell? ⟨wr.heap.size, 6, none⟩ = some (.int .i64 x6) := by rw [← hWE]; exact cell_new wr _ _ 6 rfl
            have m0 := cell_regrown z0
            have m1 := cell_regrown z1
            have m2 := cell_regrown z2
            have m3 := cell_regrown z3
            have m4 := cell_regrown z4
            have m5 := cell_regrown z5
            have m6 := cell_regrown z6
            have hc : ∀ d os, Calls Tryd.prog 27 #[.agg #[.int .i64 x0, .int .i64 x1, .string x2, .int .i64 x3, .int .i64 x4, .int .i64 x5, .int .i64 x6]] (grow (redrawn wE d) os) fun e w'' => e = .returned (.bool true) ∧ ∃ p : Regrown, w'' = grow (redrawn wE p.d) p.os := fun d os => Calls.regrown_of (HCALL.out _)
            refine wp_region_quiet_below (by kernel_rfl) (by kernel_rfl) ?_
            repeat (go_big_quiet_step (first | exact hc _ _))
            refine wpQuiet_nil ?_
            intro _ hw'
            obtain ⟨⟨dq, osq⟩, hw''⟩ := hw'
            subst hw''
            have bq := below_regrown wE dq osq
            have y0 := cell_kept z0 bq
            generalize grow (redrawn wE dq) osq = w2 at bq y0 ⊢
            go_wp2
            go_ret
            exact ⟨ret_bool HNT.out.symm, (hb.trans (bE.mono hw)).trans (bq.mono (Nat.le_trans hw bE.size))⟩
          · have dP : decide (x0 ≤ pk) = false := decide_eq_false hP
            cases bT
            · have hup : upto (fiAtB t) (k + 1) = true := upto_succ HU.out (by rw [HAT.out, HP.out, decide_eq_true (show pk < x0 by omega)]; rfl)
              have HUP := Lib.hid hup
              clear hup
              go_wp2_with fail
              generalize hWE : wr.alloc (.cells #[.int .i64 x0, .int .i64 x1, .string x2, .int .i64 x3, .int .i64 x4, .int .i64 x5, .int .i64 x6] 43 (0, 0)) = wE
              have bE : Below wr.heap.size wr wE := by rw [← hWE]; exact below_al (Below.refl _ _) _
              have z0 : wE.cell? ⟨wr.heap.size, 0, none⟩ = some (.int .i64 x0) := by rw [← hWE]; exact cell_new wr _ _ 0 rfl
              have z1 : wE.cell? ⟨wr.heap.size, 1, none⟩ = some (.int .i64 x1) := by rw [← hWE]; exact cell_new wr _ _ 1 rfl
              have z2 : wE.cell? ⟨wr.heap.size, 2, none⟩ = some (.string x2) := by rw [← hWE]; exact cell_new wr _ _ 2 rfl
              have z3 : wE.cell? ⟨wr.heap.size, 3, none⟩ = some (.int .i64 x3) := by rw [← hWE]; exact cell_new wr _ _ 3 rfl
              have z4 : wE.cell? ⟨wr.heap.size, 4, none⟩ = some (.int .i64 x4) := by rw [← hWE]; exact cell_new wr _ _ 4 rfl
              have z5 : wE.cell? ⟨wr.heap.size, 5, none⟩ = some (.int .i64 x5) := by rw [← hWE]; exact cell_new wr _ _ 5 rfl
              have z6 : wE.cell? ⟨wr.heap.size, 6, none⟩ = some (.int .i64 x6) := by rw [← hWE]; exact cell_new wr _ _ 6 rfl
              have m0 := cell_regrown z0
              have m1 := cell_regrown z1
              have m2 := cell_regrown z2
              have m3 := cell_regrown z3
              have m4 := cell_regrown z4
              have m5 := cell_regrown z5
              have m6 := cell_regrown z6
              have hc : ∀ d os, Calls Tryd.prog 27 #[.agg #[.int .i64 x0, .int .i64 x1, .string x2, .int .i64 x3, .int .i64 x4, .int .i64 x5, .int .i64 x6]] (grow (redrawn wE d) os) fun e w'' => e = .returned (.bool true) ∧ ∃ p : Regrown, w'' = grow (redrawn wE p.d) p.os := fun d os => Calls.regrown_of (HCALL.out _)
              have hd : ∀ d os, Calls Tryd.prog 74 #[.slice (some ⟨b1, o1, none⟩) k c1, .int .i64 x1, .string x2] (grow (redrawn wE d) os) fun e w'' => e = .returned (.bool false) ∧ ∃ p : Regrown, w'' = grow (redrawn wE p.d) p.os := fun d os => Calls.regrown_of (HFIND.out _ (bE.trans ((below_regrown wE d os).mono bE.size)))
              refine wp_region_quiet_below (by kernel_rfl) (by kernel_rfl) ?_
              repeat (go_big_quiet_step (first | exact hc _ _ | exact hd _ _))
              refine wpQuiet_nil ?_
              intro _ hw'
              obtain ⟨⟨dq, osq⟩, hw''⟩ := hw'
              subst hw''
              have bq := below_regrown wE dq osq
              have y0 := cell_kept z0 bq
              generalize grow (redrawn wE dq) osq = w2 at bq y0 ⊢
              go_wp2
              go_roundw
              case rel => exact ⟨k + 1, x0, by omega, by go_num, rfl, Lib.hid (by rw [prevFi, HX.out]), HUP, (hb.trans (bE.mono hw)).trans (bq.mono (Nat.le_trans hw bE.size))⟩
              case measure => simp [intOf]; omega
            · have hnt := notFi hlt (by rw [HAT.out]; simp)
              have HNT := Lib.hid hnt
              clear hnt
              go_wp2_with fail
              generalize hWE : wr.alloc (.cells #[.int .i64 x0, .int .i64 x1, .string x2, .int .i64 x3, .int .i64 x4, .int .i64 x5, .int .i64 x6] 43 (0, 0)) = wE
              have bE : Below wr.heap.size wr wE := by rw [← hWE]; exact below_al (Below.refl _ _) _
              have z0 : wE.cell? ⟨wr.heap.size, 0, none⟩ = some (.int .i64 x0) := by rw [← hWE]; exact cell_new wr _ _ 0 rfl
              have z1 : wE.cell? ⟨wr.heap.size, 1, none⟩ = some (.int .i64 x1) := by rw [← hWE]; exact cell_new wr _ _ 1 rfl
              have z2 : wE.cell? ⟨wr.heap.size, 2, none⟩ = some (.string x2) := by rw [← hWE]; exact cell_new wr _ _ 2 rfl
              have z3 : wE.cell? ⟨wr.heap.size, 3, none⟩ = some (.int .i64 x3) := by rw [← hWE]; exact cell_new wr _ _ 3 rfl
              have z4 : wE.cell? ⟨wr.heap.size, 4, none⟩ = some (.int .i64 x4) := by rw [← hWE]; exact cell_new wr _ _ 4 rfl
              have z5 : wE.cell? ⟨wr.heap.size, 5, none⟩ = some (.int .i64 x5) := by rw [← hWE]; exact cell_new wr _ _ 5 rfl
              have z6 : wE.cell? ⟨wr.heap.size, 6, none⟩ = some (.int .i64 x6) := by rw [← hWE]; exact cell_new wr _ _ 6 rfl
              have m0 := cell_regrown z0
              have m1 := cell_regrown z1
              have m2 := cell_regrown z2
              have m3 := cell_regrown z3
              have m4 := cell_regrown z4
              have m5 := cell_regrown z5
              have m6 := cell_regrown z6
              have hc : ∀ d os, Calls Tryd.prog 27 #[.agg #[.int .i64 x0, .int .i64 x1, .string x2, .int .i64 x3, .int .i64 x4, .int .i64 x5, .int .i64 x6]] (grow (redrawn wE d) os) fun e w'' => e = .returned (.bool true) ∧ ∃ p : Regrown, w'' = grow (redrawn wE p.d) p.os := fun d os => Calls.regrown_of (HCALL.out _)
              have hd : ∀ d os, Calls Tryd.prog 74 #[.slice (some ⟨b1, o1, none⟩) k c1, .int .i64 x1, .string x2] (grow (redrawn wE d) os) fun e w'' => e = .returned (.bool true) ∧ ∃ p : Regrown, w'' = grow (redrawn wE p.d) p.os := fun d os => Calls.regrown_of (HFIND.out _ (bE.trans ((below_regrown wE d os).mono bE.size)))
              refine wp_region_quiet_below (by kernel_rfl) (by kernel_rfl) ?_
              repeat (go_big_quiet_step (first | exact hc _ _ | exact hd _ _))
              refine wpQuiet_nil ?_
              intro _ hw'
              obtain ⟨⟨dq, osq⟩, hw''⟩ := hw'
              subst hw''
              have bq := below_regrown wE dq osq
              have y0 := cell_kept z0 bq
              generalize grow (redrawn wE dq) osq = w2 at bq y0 ⊢
              go_wp2
              go_ret
              exact ⟨ret_bool HNT.out.symm, (hb.trans (bE.mono hw)).trans (bq.mono (Nat.le_trans hw bE.size))⟩
      · have hkt : k = t.length := by omega
        have HT : Hid (areFi t = true) := fi_all (by have := HL.out; omega) (by have := HU.out; rw [hkt] at this; exact this)
        clear hkt
        go_wp2_with fail
        go_ret
        exact ⟨ret_bool HT.out.symm, hb⟩
end Go.Proofs.YtpbjddiopfkgbaaDoor
