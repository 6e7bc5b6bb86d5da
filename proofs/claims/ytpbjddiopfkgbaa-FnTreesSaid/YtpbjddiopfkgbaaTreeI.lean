/- What a tree is: the program's hasPlace and IsTree. -/
import Derived.Test.YtpbjddiopfkgbaaTreeS
namespace Go.Proofs.Ytpbjddiopfkgbaa
set_option linter.unusedVariables false
open Go.RowKit Go.Sort

/-- Its parent occurs in a list, and no one in it has its parent and name. -/
def placeB (t : List Fn) (f : Fn) : Bool := (decide (f.parent = 0) || hasF t f.parent) && !sibF t f
theorem sib_take {t : List Fn} {f : Fn} {k : Nat} (hk : k < t.length) (h : (t.getD k fnD).parent = f.parent ∧ (t.getD k fnD).name = f.name) : placeB t f = false := by
  have : sibF t f = true := sibF_iff.2 ⟨t.getD k fnD, by rw [getF_lt hk]; exact List.getElem_mem hk, h⟩
  unfold placeB
  rw [this]
  simp
theorem hasF_take_succ {t : List Fn} {x : Int} {k : Nat} (hk : k < t.length) : hasF (t.take (k + 1)) x = (hasF (t.take k) x || decide ((t.getD k fnD).id = x)) := by
  rw [Bool.eq_iff_iff, Bool.or_eq_true, decide_eq_true_eq, hasF_iff, hasF_iff, getF_lt hk]
  constructor
  · rintro ⟨f, hf, he⟩
    rw [List.mem_take_iff_getElem] at hf
    obtain ⟨i, hi, rfl⟩ := hf
    rcases Nat.lt_or_ge i k with h' | h'
    · exact .inl ⟨t[i], by rw [List.mem_take_iff_getElem]; exact ⟨i, by omega, rfl⟩, he⟩
    · obtain rfl : i = k := by omega
      exact .inr he
  · rintro (⟨f, hf, he⟩ | he)
    · rw [List.mem_take_iff_getElem] at hf
      obtain ⟨i, hi, rfl⟩ := hf
      exact ⟨t[i], by rw [List.mem_take_iff_getElem]; exact ⟨i, by omega, rfl⟩, he⟩
    · exact ⟨t[k], by rw [List.mem_take_iff_getElem]; exact ⟨k, by omega, rfl⟩, he⟩
theorem sib_none {t : List Fn} {f : Fn} (h : ∀ j, j < t.length → ¬ ((t.getD j fnD).parent = f.parent ∧ (t.getD j fnD).name = f.name)) : sibF t f = false := by
  rcases hb : sibF t f with _ | _
  · rfl
  · obtain ⟨g, hg, he⟩ := sibF_iff.1 hb
    obtain ⟨j, hj, rfl⟩ := List.getElem_of_mem hg
    exact absurd (by rw [getF_lt hj]; exact he) (h j hj)

set_option maxHeartbeats 1000000 in
theorem hasPlace_any (v : Value) (t : List Fn) (f : Fn) (w : World) (h : RowR 3 rFn w v t) :
    Calls Try.prog 62 #[v, .agg #[.int .i64 f.id, .int .i64 f.parent, .string f.name]] w fun e w' => e = .returned (.bool (placeB t f)) ∧ Below w.heap.size w w' := by
  obtain ⟨fi, fp, fs⟩ := f
  have hcap := h.cap
  obtain ⟨a1, c1, rfl, hl1, hm1, r1⟩ := h.fns
  have R1 := Lib.hid r1
  clear h r1
  unfold maxLen at hm1
  simp only
  obtain ⟨b0, hb0⟩ : ∃ b, decide (fp = 0) = b := ⟨_, rfl⟩
  have hb0' : (fp == 0) = b0 := by rw [← hb0]; rw [Bool.eq_iff_iff]; simp
  have HB0 := Lib.hid hb0
  clear hb0
  go_enter Try.func62, Try.ntmps62
  go_wp2_with fail
  go_loopw [5, 13] (fun o i wr => ∃ (k : Nat) (bo : Bool), k ≤ t.length ∧ i = .int .i64 k ∧ o = .bool bo ∧ Hid ((b0 || hasF (t.take k) fp) = bo) ∧ Hid (∀ l, l < k → ¬ ((t.getD l fnD).parent = fp ∧ (t.getD l fnD).name = fs)) ∧ Below w.heap.size w wr ∧
      wr.cell? ⟨w.heap.size, 1, none⟩ = some (.int .i64 fp) ∧ wr.cell? ⟨w.heap.size, 2, none⟩ = some (.string fs)) (fun _ i _ => t.length - (intOf i).toNat)
  case atStart => exact ⟨0, b0, Nat.zero_le _, rfl, rfl, Lib.hid (by simp [hasF]), Lib.hid (fun l h => absurd h (Nat.not_lt_zero _)), below_al (Below.refl _ _) _, cell_new w _ _ 1 rfl, cell_new w _ _ 2 rfl⟩
  case round =>
    obtain ⟨k, bo, hk, rfl, rfl, HBO, HM, hb, y1, y2⟩ := hrel
    by_cases hlt : k < t.length
    · obtain ⟨b1, o1, hb1, rfl, e1⟩ := R1.out.resolve_left (fun e => by rw [e] at hlt; simp at hlt)
      obtain ⟨⟨gi, gp, gs⟩, hgx⟩ : ∃ s, t.getD k fnD = s := ⟨_, rfl⟩
      obtain ⟨p0, p1, p2, _⟩ := e1 k hlt
      rw [hgx] at p0 p1 p2
      simp only at p0 p1 p2
      have c0 := cell_kept p0 hb
      have c1 := cell_kept p1 hb
      have c2 := cell_kept p2 hb
      have HGX := Lib.hid hgx
      have g0 : (0 : Int) ≤ (k : Int) := by omega
      have g1 : (k : Int) < (t.length : Int) := by omega
      have hw := hb.size
      have y1a := fun o : Obj => below_al_cell y1 o
      have y2a := fun o : Obj => below_al_cell y2 o
      clear p0 p1 p2 hgx e1
      by_cases hsib : gp = fp ∧ gs = fs
      · have dpp : (gp == fp) = true := by simp [hsib.1]
        have dss : (gs.toList == fs.toList) = true := by simp [hsib.2]
        have hnt : placeB t ⟨fi, fp, fs⟩ = false := sib_take hlt (by rw [HGX.out]; exact hsib)
        have HNT := Lib.hid hnt
        clear hnt hsib
        go_wp2_with fail
        go_ret
        exact ⟨ret_bool HNT.out.symm, below_al hb _⟩
      · obtain ⟨e, he⟩ : ∃ e, (gi == fp) = e := ⟨_, rfl⟩
        have hstep : ∀ bb, (bo || e) = bb → (b0 || hasF (t.take (k + 1)) fp) = bb := fun bb h => by
          rw [hasF_take_succ hlt, HGX.out, ← Bool.or_assoc, HBO.out, ← h, ← he]
          congr 1
        have hm : ∀ l, l < k + 1 → ¬ ((t.getD l fnD).parent = fp ∧ (t.getD l fnD).name = fs) := fun l hl => by
          rcases Nat.lt_or_ge l k with h' | h'
          · exact HM.out l h'
          · obtain rfl : l = k := by omega
            rw [HGX.out]
            exact hsib
        have HSTEP := Lib.hid hstep
        have HM2 := Lib.hid hm
        clear hstep hm
        by_cases hpp : gp = fp
        · have hss : ¬ gs = fs := fun h => hsib ⟨hpp, h⟩
          have dpp : (gp == fp) = true := by simp [hpp]
          have dss := beq_bytes_ne hss
          clear hpp hss hsib
          cases bo
          all_goals
            go_wp2_with fail
            go_roundw
            case rel => exact ⟨k + 1, _, by omega, by go_num, rfl, Lib.hid (HSTEP.out _ (by simp)), HM2, below_al hb _, cell_kept y1 (below_al (Below.refl _ _) _), cell_kept y2 (below_al (Below.refl _ _) _)⟩
            case measure => simp [intOf]; omega
        · have dpp : (gp == fp) = false := by simp [hpp]
          clear hpp hsib
          cases bo
          all_goals
            go_wp2_with fail
            go_roundw
            case rel => exact ⟨k + 1, _, by omega, by go_num, rfl, Lib.hid (HSTEP.out _ (by simp)), HM2, below_al hb _, cell_kept y1 (below_al (Below.refl _ _) _), cell_kept y2 (below_al (Below.refl _ _) _)⟩
            case measure => simp [intOf]; omega
    · have hkt : k = t.length := by omega
      have hres : placeB t ⟨fi, fp, fs⟩ = bo := by
        have h1 := HBO.out
        rw [hkt, List.take_length, ← HB0.out] at h1
        unfold placeB
        rw [sib_none (fun l hl => HM.out l (by omega)), h1]
        simp
      have HRES := Lib.hid hres
      clear hkt hres
      go_wp2_with fail
      go_ret
      exact ⟨ret_bool HRES.out.symm, hb⟩

theorem fnAt_place {t : List Fn} {k : Nat} {f : Fn} (hx : t.getD k fnD = f) : fnAtB t k = (isFn f && (decide (prevF t k < f.id) && placeB (t.take k) f)) := by unfold fnAtB placeB; rw [hx]

set_option maxHeartbeats 1000000 in
theorem implIsTree_any (v : Value) (t : List Fn) (w : World) (h : RowR 3 rFn w v t) :
    Calls Try.prog 23 #[v] w fun e w' => e = .returned (.bool (isTree t)) ∧ Below w.heap.size w w' := by
  have hcap := h.cap
  obtain ⟨a1, c1, hv, hl1, hm1, r1⟩ := h.fns
  subst hv
  have H := Lib.hid h
  have R1 := Lib.hid r1
  clear h r1
  unfold maxLen at hm1
  by_cases hL : 15 < t.length
  · have gL : (15 : Int) < t.length := by omega
    go_enter Try.func23, Try.ntmps23
    go_wp2_with fail
    go_ret
    exact ⟨ret_bool (Eq.symm (tree_long (by omega))), Below.refl _ _⟩
  · have gL : (t.length : Int) ≤ 15 := by omega
    have HL := Lib.hid hL
    clear hL
    go_enter Try.func23, Try.ntmps23
    go_wp2_with fail
    go_loopw [3, 11] (fun b i wr => ∃ (k : Nat) (pk : Int), k ≤ t.length ∧ i = .int .i64 k ∧ b = .int .i64 pk ∧ Hid (prevF t k = pk) ∧ Hid (upto (fnAtB t) k = true) ∧ Below w.heap.size w wr) (fun _ i _ => t.length - (intOf i).toNat)
    case atStart => exact ⟨0, 0, Nat.zero_le _, rfl, rfl, rfl, Lib.hid (by simp [upto]), Below.refl _ _⟩
    case round =>
      obtain ⟨k, pk, hk, rfl, rfl, HP, HU, hb⟩ := hrel
      by_cases hlt : k < t.length
      · obtain ⟨b1, o1, hb1, rfl, e1⟩ := R1.out.resolve_left (fun e => by rw [e] at hlt; simp at hlt)
        obtain ⟨⟨fi, fp, fs⟩, hx⟩ : ∃ s, t.getD k fnD = s := ⟨_, rfl⟩
        obtain ⟨q0, q1, q2, hok⟩ := e1 k hlt
        rw [hx] at q0 q1 q2 hok
        simp only at q0 q1 q2
        have f0 := cell_kept q0 hb
        have f1 := cell_kept q1 hb
        have f2 := cell_kept q2 hb
        have HX := Lib.hid hx
        have g0 : (0 : Int) ≤ (k : Int) := by omega
        have g1 : (k : Int) < (t.length : Int) := by omega
        have hw := hb.size
        obtain ⟨bF, hbF⟩ : ∃ b, isFn ⟨fi, fp, fs⟩ = b := ⟨_, rfl⟩
        obtain ⟨bP, hbP⟩ : ∃ b, placeB (t.take k) ⟨fi, fp, fs⟩ = b := ⟨_, rfl⟩
        have hat := fnAt_place hx
        rw [hbF, hbP] at hat
        have HAT := Lib.hid hat
        have hcall : ∀ W : World, Calls Try.prog 61 #[.agg #[.int .i64 fi, .int .i64 fp, .string fs]] W fun e w' => e = .returned (.bool bF) ∧ Below W.heap.size W w' := fun W => by
          have := implIsFn_any ⟨fi, fp, fs⟩ W hok.2.2
          rwa [hbF] at this
        have hfind : ∀ W : World, Below wr.heap.size wr W → Calls Try.prog 62 #[.slice (some ⟨b1, o1, none⟩) k c1, .agg #[.int .i64 fi, .int .i64 fp, .string fs]] W fun e w' => e = .returned (.bool bP) ∧ Below W.heap.size W w' := fun W hW => by
          have := hasPlace_any _ _ ⟨fi, fp, fs⟩ _ (((H.out.below rFn_stable hb).below rFn_stable hW).fn_take hk)
          rwa [hbP] at this
        have HFIND := Lib.hid hfind
        clear q0 q1 q2 hok e1 hx hbF hbP hfind hat
        cases bF
        · have hnt := notTree hlt (by rw [HAT.out]; rfl)
          have HNT := Lib.hid hnt
          clear hnt
          go_wp2_with fail
          generalize hWE : wr.alloc (.cells #[.int .i64 fi, .int .i64 fp, .string fs] 36 (0, 0)) = wE
          have bE : Below wr.heap.size wr wE := by rw [← hWE]; exact below_al (Below.refl _ _) _
          have z0 : wE.cell? ⟨wr.heap.size, 0, none⟩ = some (.int .i64 fi) := by rw [← hWE]; exact cell_new wr _ _ 0 rfl
          have z1 : wE.cell? ⟨wr.heap.size, 1, none⟩ = some (.int .i64 fp) := by rw [← hWE]; exact cell_new wr _ _ 1 rfl
          have z2 : wE.cell? ⟨wr.heap.size, 2, none⟩ = some (.string fs) := by rw [← hWE]; exact cell_new wr _ _ 2 rfl
          have m0 := cell_regrown z0
          have m1 := cell_regrown z1
          have m2 := cell_regrown z2
          have hc : ∀ d os, Calls Try.prog 61 #[.agg #[.int .i64 fi, .int .i64 fp, .string fs]] (grow (redrawn wE d) os) fun e w'' => e = .returned (.bool false) ∧ ∃ p : Regrown, w'' = grow (redrawn wE p.d) p.os := fun d os => Calls.regrown_of (hcall _)
          refine wp_region_quiet_below (by kernel_rfl) (by kernel_rfl) ?_
          repeat (go_big_quiet_step (first | exact hc _ _))
          refine wpQuiet_nil ?_
          intro _ hw'
          obtain ⟨⟨dq, osq⟩, hw''⟩ := hw'
          subst hw''
          have bq := below_regrown wE dq osq
          have y0 := cell_kept z0 bq
          generalize grow (redrawn wE dq) osq = w2 at bq y0 ⊢
          go_wp2
          go_ret
          exact ⟨ret_bool HNT.out.symm, (hb.trans (bE.mono hw)).trans (bq.mono (Nat.le_trans hw bE.size))⟩
        · by_cases hP : fi ≤ pk
          · have hnt := notTree hlt (by rw [HAT.out, HP.out, decide_eq_false (show ¬ pk < fi by omega)]; rfl)
            have HNT := Lib.hid hnt
            clear hnt
            go_wp2_with fail
            generalize hWE : wr.alloc (.cells #[.int .i64 fi, .int .i64 fp, .string fs] 36 (0, 0)) = wE
            have bE : Below wr.heap.size wr wE := by rw [← hWE]; exact below_al (Below.refl _ _) _
            have z0 : wE.cell? ⟨wr.heap.size, 0, none⟩ = some (.int .i64 fi) := by rw [← hWE]; exact cell_new wr _ _ 0 rfl
            have z1 : wE.cell? ⟨wr.heap.size, 1, none⟩ = some (.int .i64 fp) := by rw [← hWE]; exact cell_new wr _ _ 1 rfl
            have z2 : wE.cell? ⟨wr.heap.size, 2, none⟩ = some (.string fs) := by rw [← hWE]; exact cell_new wr _ _ 2 rfl
            have m0 := cell_regrown z0
            have m1 := cell_regrown z1
            have m2 := cell_regrown z2
            have hc : ∀ d os, Calls Try.prog 61 #[.agg #[.int .i64 fi, .int .i64 fp, .string fs]] (grow (redrawn wE d) os) fun e w'' => e = .returned (.bool true) ∧ ∃ p : Regrown, w'' = grow (redrawn wE p.d) p.os := fun d os => Calls.regrown_of (hcall _)
            refine wp_region_quiet_below (by kernel_rfl) (by kernel_rfl) ?_
            repeat (go_big_quiet_step (first | exact hc _ _))
            refine wpQuiet_nil ?_
            intro _ hw'
            obtain ⟨⟨dq, osq⟩, hw''⟩ := hw'
            subst hw''
            have bq := below_regrown wE dq osq
            have y0 := cell_kept z0 bq
            generalize grow (redrawn wE dq) osq = w2 at bq y0 ⊢
            go_wp2
            go_ret
            exact ⟨ret_bool HNT.out.symm, (hb.trans (bE.mono hw)).trans (bq.mono (Nat.le_trans hw bE.size))⟩
          · have dP : decide (fi ≤ pk) = false := decide_eq_false hP
            cases bP
            · have hnt := notTree hlt (by rw [HAT.out]; simp)
              have HNT := Lib.hid hnt
              clear hnt
              go_wp2_with fail
              generalize hWE : wr.alloc (.cells #[.int .i64 fi, .int .i64 fp, .string fs] 36 (0, 0)) = wE
              have bE : Below wr.heap.size wr wE := by rw [← hWE]; exact below_al (Below.refl _ _) _
              have z0 : wE.cell? ⟨wr.heap.size, 0, none⟩ = some (.int .i64 fi) := by rw [← hWE]; exact cell_new wr _ _ 0 rfl
              have z1 : wE.cell? ⟨wr.heap.size, 1, none⟩ = some (.int .i64 fp) := by rw [← hWE]; exact cell_new wr _ _ 1 rfl
              have z2 : wE.cell? ⟨wr.heap.size, 2, none⟩ = some (.string fs) := by rw [← hWE]; exact cell_new wr _ _ 2 rfl
              have m0 := cell_regrown z0
              have m1 := cell_regrown z1
              have m2 := cell_regrown z2
              have hc : ∀ d os, Calls Try.prog 61 #[.agg #[.int .i64 fi, .int .i64 fp, .string fs]] (grow (redrawn wE d) os) fun e w'' => e = .returned (.bool true) ∧ ∃ p : Regrown, w'' = grow (redrawn wE p.d) p.os := fun d os => Calls.regrown_of (hcall _)
              have hd : ∀ d os, Calls Try.prog 62 #[.slice (some ⟨b1, o1, none⟩) k c1, .agg #[.int .i64 fi, .int .i64 fp, .string fs]] (grow (redrawn wE d) os) fun e w'' => e = .returned (.bool false) ∧ ∃ p : Regrown, w'' = grow (redrawn wE p.d) p.os := fun d os => Calls.regrown_of (HFIND.out _ (bE.trans ((below_regrown wE d os).mono bE.size)))
              refine wp_region_quiet_below (by kernel_rfl) (by kernel_rfl) ?_
              repeat (go_big_quiet_step (first | exact hc _ _ | exact hd _ _))
              refine wpQuiet_nil ?_
              intro _ hw'
              obtain ⟨⟨dq, osq⟩, hw''⟩ := hw'
              subst hw''
              have bq := below_regrown wE dq osq
              have y0 := cell_kept z0 bq
              generalize grow (redrawn wE dq) osq = w2 at bq y0 ⊢
              go_wp2
              go_ret
              exact ⟨ret_bool HNT.out.symm, (hb.trans (bE.mono hw)).trans (bq.mono (Nat.le_trans hw bE.size))⟩
            · have hup : upto (fnAtB t) (k + 1) = true := upto_succ HU.out (by rw [HAT.out, HP.out, decide_eq_true (show pk < fi by omega)]; rfl)
              have HUP := Lib.hid hup
              clear hup
              go_wp2_with fail
              generalize hWE : wr.alloc (.cells #[.int .i64 fi, .int .i64 fp, .string fs] 36 (0, 0)) = wE
              have bE : Below wr.heap.size wr wE := by rw [← hWE]; exact below_al (Below.refl _ _) _
              have z0 : wE.cell? ⟨wr.heap.size, 0, none⟩ = some (.int .i64 fi) := by rw [← hWE]; exact cell_new wr _ _ 0 rfl
              have z1 : wE.cell? ⟨wr.heap.size, 1, none⟩ = some (.int .i64 fp) := by rw [← hWE]; exact cell_new wr _ _ 1 rfl
              have z2 : wE.cell? ⟨wr.heap.size, 2, none⟩ = some (.string fs) := by rw [← hWE]; exact cell_new wr _ _ 2 rfl
              have m0 := cell_regrown z0
              have m1 := cell_regrown z1
              have m2 := cell_regrown z2
              have hc : ∀ d os, Calls Try.prog 61 #[.agg #[.int .i64 fi, .int .i64 fp, .string fs]] (grow (redrawn wE d) os) fun e w'' => e = .returned (.bool true) ∧ ∃ p : Regrown, w'' = grow (redrawn wE p.d) p.os := fun d os => Calls.regrown_of (hcall _)
              have hd : ∀ d os, Calls Try.prog 62 #[.slice (some ⟨b1, o1, none⟩) k c1, .agg #[.int .i64 fi, .int .i64 fp, .string fs]] (grow (redrawn wE d) os) fun e w'' => e = .returned (.bool true) ∧ ∃ p : Regrown, w'' = grow (redrawn wE p.d) p.os := fun d os => Calls.regrown_of (HFIND.out _ (bE.trans ((below_regrown wE d os).mono bE.size)))
              refine wp_region_quiet_below (by kernel_rfl) (by kernel_rfl) ?_
              repeat (go_big_quiet_step (first | exact hc _ _ | exact hd _ _))
              refine wpQuiet_nil ?_
              intro _ hw'
              obtain ⟨⟨dq, osq⟩, hw''⟩ := hw'
              subst hw''
              have bq := below_regrown wE dq osq
              have y0 := cell_kept z0 bq
              generalize grow (redrawn wE dq) osq = w2 at bq y0 ⊢
              go_wp2
              go_roundw
              case rel => exact ⟨k + 1, fi, by omega, by go_num, rfl, Lib.hid (by rw [prevF, HX.out]), HUP, (hb.trans (bE.mono hw)).trans (bq.mono (Nat.le_trans hw bE.size))⟩
              case measure => simp [intOf]; omega
      · have hkt : k = t.length := by omega
        have HT : Hid (isTree t = true) := tree_all (by have := HL.out; omega) (by have := HU.out; rw [hkt] at this; exact this)
        clear hkt
        go_wp2_with fail
        go_ret
        exact ⟨ret_bool HT.out.symm, hb⟩

theorem specIsTree_any (v : Value) (t : List Fn) (w : World) (h : RowR 3 rFn w v t) :
    Calls Try.prog 24 #[v] w fun e w' => e = .returned (.bool (isTree t)) ∧ Below w.heap.size w w' := by
  have H := Lib.hid h
  clear h
  go_enter Try.func24, Try.ntmps24
  go_wp2_with (first | (go_at_call 48; refine (l3Good_any _ t _ H.out).mono ?_; rintro e w' ⟨rfl, hb'⟩))
  go_ret
  exact ⟨rfl, hb'⟩
end Go.Proofs.Ytpbjddiopfkgbaa
