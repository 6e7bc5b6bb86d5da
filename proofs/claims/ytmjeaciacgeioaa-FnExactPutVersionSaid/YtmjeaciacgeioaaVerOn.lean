/- Versions, the program's: AreVersions, VersionOn. -/
import Derived.Test.YtmjeaciacgeioaaTyVe
import Derived.Test.YtmjeaciacgeioaaRuI
import Derived.Test.YtmjeaciacgeioaaBackVe
import Derived.OwnWalkIn
namespace Go.Proofs.Ytmjeaciacgeioaa
set_option linter.unusedVariables false
open Go.RowKit Go.Shelf Go.Sort

attribute [local go_sem] Oper.semAt_some

set_option maxRecDepth 20000 in
set_option maxHeartbeats 4000000 in
theorem implAreVersions_any (v : Value) (t : List Ve) (w : World) (h : RowR 2 rVe w v t) :
    Calls Try.prog 13 #[v] w fun e w' => e = .returned (.bool (areVe t)) ∧ Below w.heap.size w w' := by
  have hcap := h.cap
  obtain ⟨a1, c1, hv, hl1, hm1, r1⟩ := h.ves
  subst hv
  have R1 := Lib.hid r1
  clear h r1
  unfold maxLen at hm1
  by_cases h5 : t.length ≤ 5
  · have h55 : (t.length : Int) ≤ 5 := by omega
    go_enter Try.func13, Try.ntmps13
    go_wp2_with fail
    go_loopw [3, 11] (fun be i wr => ∃ k : Nat, k ≤ t.length ∧ i = .int .i64 k ∧ be = .int .i64 (prevV t k) ∧ Hid (upto (veAtB t) k = true) ∧ Below w.heap.size w wr) (fun _ i _ => t.length - (intOf i).toNat)
    case atStart => exact ⟨0, Nat.zero_le _, rfl, rfl, Lib.hid (by simp [upto]), Below.refl _ _⟩
    case round =>
      obtain ⟨k, hk, rfl, rfl, HU, hb⟩ := hrel
      by_cases hlt : k < t.length
      · obtain ⟨b1, o1, hb1, rfl, e1⟩ := R1.out.resolve_left (fun e => by rw [e] at hlt; simp at hlt)
        obtain ⟨⟨x0, x1⟩, hx⟩ : ∃ s, t.getD k veD = s := ⟨_, rfl⟩
        obtain ⟨s, q0, q1, hr, hok⟩ := e1 k hlt
        rw [hx] at q0 hr hok
        simp only at q0 hr
        have hr0 := hr
        obtain ⟨sa, sc, hs, hsl, hsm, _⟩ := hr0
        subst hs
        unfold maxLen at hsm
        have f0 := cell_kept q0 hb
        have f1 := cell_kept q1 hb
        have HX := Lib.hid hx
        have HR := Lib.hid (show ∀ W, Below w.heap.size w W → RowR 4 rRu W (.slice sa x1.length sc) x1 from fun W hW => hr.below rRu_stable hW)
        have g0 : (0 : Int) ≤ (k : Int) := by omega
        have g1 : (k : Int) < (t.length : Int) := by omega
        have hw := hb.size
        obtain ⟨y, hy⟩ : ∃ s, prevV t k = s := ⟨_, rfl⟩
        have HY := Lib.hid hy
        rw [hy]
        obtain ⟨bD, hbD⟩ : ∃ b, decide ((0 : Int) ≤ x0 ∧ x0 ≤ 20000) = b := ⟨_, rfl⟩
        obtain ⟨bS, hbS⟩ : ∃ b, isSch x1 = b := ⟨_, rfl⟩
        have HDD := Lib.hid hbD
        have HSS := Lib.hid hbS
        have z0 : (wr.alloc (.cells #[.int .i64 x0, .slice sa x1.length sc] 27 (0, 0))).cell? ⟨wr.heap.size, 0, none⟩ = some (.int .i64 x0) := cell_new wr _ _ 0 rfl
        have z1 : (wr.alloc (.cells #[.int .i64 x0, .slice sa x1.length sc] 27 (0, 0))).cell? ⟨wr.heap.size, 1, none⟩ = some (.slice sa x1.length sc) := cell_new wr _ _ 1 rfl
        have bE := below_al hb (.cells #[.int .i64 x0, .slice sa x1.length sc] 27 (0, 0))
        clear q0 q1 hok hx e1 hbD hbS hr hy
        by_cases hyx : x0 ≤ y
        · have HNT := Lib.hid (notVe hlt (veAt_no HX.out (.inr (.inr (by rw [HY.out]; simp only; omega)))))
          go_wp2_with fail
          go_ret
          exact ⟨ret_bool HNT.out.symm, bE⟩
        · cases bD
          · have HNT := Lib.hid (notVe hlt (veAt_no HX.out (.inl (of_decide_eq_false HDD.out))))
            go_wp2_with (first | (go_at_call 56; refine (isDay_any _ _).mono ?_; rw [HDD.out]; rintro e w3 ⟨rfl, h3⟩; subst w3))
            go_ret
            exact ⟨ret_bool HNT.out.symm, bE⟩
          · cases bS
            · have HNT := Lib.hid (notVe hlt (veAt_no HX.out (.inr (.inl HSS.out))))
              go_wp2_with (first | (go_at_call 56; refine (isDay_any _ _).mono ?_; rw [HDD.out]; rintro e w3 ⟨rfl, h3⟩; subst w3) | (go_at_call 58; refine (implIsSchedule_any _ x1 _ (HR.out _ bE)).mono ?_; rw [HSS.out]; rintro e w4 ⟨rfl, b4⟩; replace b4 := below_chain bE b4))
              go_ret
              exact ⟨ret_bool HNT.out.symm, b4⟩
            · have HU2 := Lib.hid (upto_succ HU.out ((veAt_iff HX.out).2 ⟨of_decide_eq_true HDD.out, HSS.out, by rw [HY.out]; simp only; omega⟩))
              have HPN : Hid (prevV t (k + 1) = x0) := Lib.hid (by show (t.getD k veD).frm = x0; rw [HX.out])
              go_wp2_with (first | (go_at_call 56; refine (isDay_any _ _).mono ?_; rw [HDD.out]; rintro e w3 ⟨rfl, h3⟩; subst w3) | (go_at_call 58; refine (implIsSchedule_any _ x1 _ (HR.out _ bE)).mono ?_; rw [HSS.out]; rintro e w4 ⟨rfl, b4⟩; replace z0 := cell_kept z0 b4; replace b4 := below_chain bE b4))
              go_roundw
              case rel => exact ⟨k + 1, by omega, by first | rfl | go_num, by rw [HPN.out], HU2, b4⟩
              case measure => simp [intOf]; omega
      · obtain rfl : k = t.length := by omega
        have HS := Lib.hid (ve_all h5 HU.out)
        go_wp2
        go_ret
        exact ⟨ret_bool HS.out.symm, hb⟩
  · have HN := Lib.hid (ve_long h5)
    have h55 : (5 : Int) < (t.length : Int) := by omega
    go_enter Try.func13, Try.ntmps13
    go_wp2
    go_ret
    exact ⟨ret_bool HN.out.symm, Below.refl _ _⟩

theorem backwardVe_in (n : Nat) (a : Option Addr) (m c : Nat) (w : World) :
    CallsIn Fence.wide n Try.prog 57 #[.slice a m c] w fun e w' => e = .returned (.func (.func 101) #[] #[.pointer (some ⟨w.heap.size, 0, none⟩)]) ∧
      w' = w.alloc (.cells #[.slice a m c] 24) := by
  refine callsIn_of_wp Try.func57 rfl trivial ?_ rfl
  simp only [Try.ntmps57, List.size_toArray, List.length_cons, List.length_nil, Nat.reduceAdd, Nat.reduceSub, Array.replicate_succ, Array.replicate_zero, List.push_toArray, List.append_toArray, List.nil_append, List.cons_append]
  gi_wp2
  go_ret
  exact ⟨rfl, rfl⟩
/-- A box of two cells: a version's variable. -/
def Box2 (W : World) (B : Nat) (x : Vc) : Prop := W.heap[B]? = some (.cells #[.int .i64 x.1, vS x.2] 27 (0, 0))
/-- The last of what has come, and it alone, is in force. -/
def LastV (d : Int) (pre : List (Int × Vc)) : Prop := ∃ pre2 y, pre = pre2 ++ [y] ∧ (∀ z ∈ pre2, ¬ z.2.1 ≤ d) ∧ y.2.1 ≤ d
def lastV1 (pre : List (Int × Vc)) : Int := (pre.getLast?.map (·.1)).getD 0
theorem Box2.lt {W : World} {B : Nat} {f : Vc} (h : Box2 W B f) : B < W.heap.size := (Array.getElem?_eq_some_iff.1 h).1
theorem Box2.kept {W W' : World} {row : Option Nat} {B : Nat} {f : Vc} (h : Box2 W B f) (hg : W.grownBy W' row) (hne : some B ≠ row) : Box2 W' B f := (hg.block B h.lt hne).trans h
theorem Box2.c0 {W : World} {B : Nat} {f : Vc} (h : Box2 W B f) : W.cell? ⟨B, 0, none⟩ = some (.int .i64 f.1) := blk_cell h 0

set_option maxRecDepth 100000 in
set_option maxHeartbeats 4000000 in
theorem versionOn_yes (n : Nat) (hn : 3 ≤ n) (a1 : Option Addr) (c1 : Nat) (t : List Ve) (d : Int) (w : World) (h : RowR 2 rVe w (.slice a1 t.length c1) t) (ht : areVe t = true) (hd : decide ((0 : Int) ≤ d ∧ d ≤ 20000) = true) (N : Int) (b : Bool) (hres : onRes t d = (N, b)) :
    CallsIn Fence.wide n Try.prog 11 #[.slice a1 t.length c1, .int .i64 d] w fun e w' => e = .returned (.tuple #[.int .i64 N, .bool b]) ∧ Below w.heap.size w w' := by
  have h1 : 1 ≤ n := by omega
  have h5 := ve_len ht
  obtain ⟨es, hel, hef, hvc⟩ := h.vcells
  have H := Lib.hid (show ∀ W, Below w.heap.size w W → RowR 2 rVe W (.slice a1 t.length c1) t from fun W hW => h.below rVe_stable hW)
  have HT := Lib.hid ht
  have HD := Lib.hid hd
  have HEF := Lib.hid hef
  have HEL := Lib.hid hel
  have HVC := Lib.hid hvc
  have HRES := Lib.hid hres
  have hfA : Fence.wide.fn 13 := trivial
  have hfD : Fence.wide.fn 56 := trivial
  have hfB : Fence.wide.fn 57 := trivial
  clear h ht hd hef hel hvc hres
  refine callsIn_of_wp_marks Try.func11 rfl trivial ?_ rfl
  simp only [Try.ntmps11, List.size_toArray, List.length_cons, List.length_nil, Nat.reduceAdd, Nat.reduceSub, Array.replicate_succ, Array.replicate_zero, List.push_toArray, List.append_toArray, List.nil_append, List.cons_append]
  have b0 := below_al (below_al (below_al (Below.refl w.heap.size w) (.cells #[.int .i64 d] 3 (0, 0))) (.cells #[.int .i64 0] 3 (0, 0))) (.cells #[.bool false] 4 (0, 0))
  have BB0 := Lib.hid b0
  have xI : Boxed (((w.alloc (.cells #[.int .i64 d] 3 (0, 0))).alloc (.cells #[.int .i64 0] 3 (0, 0))).alloc (.cells #[.bool false] 4 (0, 0))) w.heap.size 3 (.int .i64 d) := ((Boxed.new w 3 _).alloc _).alloc _
  have xR : Boxed (((w.alloc (.cells #[.int .i64 d] 3 (0, 0))).alloc (.cells #[.int .i64 0] 3 (0, 0))).alloc (.cells #[.bool false] 4 (0, 0))) (w.heap.size + 1) 3 (.int .i64 0) := by
    have := (Boxed.new (w.alloc (.cells #[.int .i64 d] 3 (0, 0))) 3 (.int .i64 0)).alloc (.cells #[.bool false] 4 (0, 0))
    simpa using this
  have xB : Boxed (((w.alloc (.cells #[.int .i64 d] 3 (0, 0))).alloc (.cells #[.int .i64 0] 3 (0, 0))).alloc (.cells #[.bool false] 4 (0, 0))) (w.heap.size + 1 + 1) 4 (.bool false) := by
    have := Boxed.new ((w.alloc (.cells #[.int .i64 d] 3 (0, 0))).alloc (.cells #[.int .i64 0] 3 (0, 0))) 4 (.bool false)
    simpa using this
  have XI := Lib.hid xI
  have XR := Lib.hid xR
  have XB := Lib.hid xB
  clear xI xR xB b0
  gi_wp2_with (first | (gi_at_call 13; refine (callsIn_wide.2 (implAreVersions_any _ t _ (H.out _ BB0.out))).mono ?_; rw [HT.out]; rintro e w1 ⟨rfl, b1⟩; have cI := Boxed.cell (show Boxed w1 w.heap.size 3 (.int .i64 d) from (b1.block w.heap.size XI.out.lt).trans XI.out)) | (gi_at_call 56; refine (callsIn_wide.2 (isDay_any _ _)).mono ?_; rw [HD.out]; rintro e w2 ⟨rfl, h2⟩; subst w2) | (gi_at_call 57; refine (backwardVe_in (n - 1) _ _ _ _).mono ?_; rintro e w3 ⟨rfl, h3⟩; subst w3))
  have hs1 := b1.size
  simp only [World.size_alloc] at hs1
  have yI : Boxed w1 w.heap.size 3 (.int .i64 d) := (b1.block w.heap.size XI.out.lt).trans XI.out
  have yR : Boxed w1 (w.heap.size + 1) 3 (.int .i64 0) := (b1.block (w.heap.size + 1) XR.out.lt).trans XR.out
  have yB : Boxed w1 (w.heap.size + 1 + 1) 4 (.bool false) := (b1.block (w.heap.size + 1 + 1) XB.out.lt).trans XB.out
  have hB1 : Below w.heap.size w w1 := below_chain BB0.out b1
  obtain ⟨W0, hW0⟩ : ∃ W0, w1.alloc (.cells #[.slice a1 t.length c1] 24 (0, 0)) = W0 := ⟨_, rfl⟩
  have bI : Boxed W0 w.heap.size 3 (.int .i64 d) := by rw [← hW0]; exact yI.alloc _
  have bR : Boxed W0 (w.heap.size + 1) 3 (.int .i64 0) := by rw [← hW0]; exact yR.alloc _
  have bB : Boxed W0 (w.heap.size + 1 + 1) 4 (.bool false) := by rw [← hW0]; exact yB.alloc _
  have bS : Boxed W0 w1.heap.size 24 (.slice a1 t.length c1) := by rw [← hW0]; exact Boxed.new w1 24 _
  have hB0 : Below w.heap.size w W0 := by rw [← hW0]; exact below_al hB1 _
  have hsz : W0.heap.size = w1.heap.size + 1 := by rw [← hW0]; simp
  rw [hW0]
  clear hW0 b1 yI yR yB hB1 cI
  refine wpIn_rangeFunc_ownH rfl h1 (gf := 101) (lb := #[.pointer (some ⟨w1.heap.size, 0, none⟩)]) rfl trivial (enters_of Try.func101 (by kernel_rfl) rfl)
    (backV_stops (n - 1) (by omega) w1.heap.size _ es W0 w HVC.out hB0 (by omega) bS) kpBV_t (kpBV_b (by omega) (by omega)) (Below.refl _ _) (fun _ => rfl)
    (fun pre W => (((((∀ y ∈ pre, ¬ y.2.1 ≤ d) ∧ Boxed W w.heap.size 3 (.int .i64 d)) ∧ Boxed W (w.heap.size + 1) 3 (.int .i64 0)) ∧ Boxed W (w.heap.size + 1 + 1) 4 (.bool false)) ∧ Boxed W w1.heap.size 24 (.slice a1 t.length c1)) ∧ Below w.heap.size w W)
    (fun c pre W => (((c = .ret ∧ LastV d pre) ∧ Boxed W (w.heap.size + 1) 3 (.int .i64 (lastV1 pre))) ∧ Boxed W (w.heap.size + 1 + 1) 4 (.bool true)) ∧ Below w.heap.size w W)
    (OwnFrom.and (OwnFrom.and (OwnFrom.and (OwnFrom.and (OwnFrom.and (ownFrom_pure _ (fun pre : List (Int × Vc) => ∀ y ∈ pre, ¬ y.2.1 ≤ d)) (Own.from (boxed_own w.heap.size 3 (fun _ : List (Int × Vc) => Value.int .i64 d)) _)) (Own.from (boxed_own (w.heap.size + 1) 3 (fun _ : List (Int × Vc) => Value.int .i64 0)) _)) (Own.from (boxed_own (w.heap.size + 1 + 1) 4 (fun _ : List (Int × Vc) => Value.bool false)) _)) (Own.from (boxed_own w1.heap.size 24 (fun _ : List (Int × Vc) => Value.slice a1 t.length c1)) _)) (ownFrom_below (Nat.le_refl _) (by omega)))
    (fun c => OwnFrom.and (OwnFrom.and (OwnFrom.and (ownFrom_pure _ (fun pre : List (Int × Vc) => c = .ret ∧ LastV d pre)) (Own.from (boxed_own (w.heap.size + 1) 3 (fun pre : List (Int × Vc) => Value.int .i64 (lastV1 pre))) _)) (Own.from (boxed_own (w.heap.size + 1 + 1) 4 (fun _ : List (Int × Vc) => Value.bool true)) _)) (ownFrom_below (Nat.le_refl _) (by omega)))
    ⟨⟨⟨⟨⟨fun y hy => absurd hy (by simp), bI⟩, bR⟩, bB⟩, bS⟩, hB0⟩
    (fun y a' W => ∃ Bx, w1.heap.size < Bx ∧ Box2 W Bx y.2 ∧ a' = { tmps := #[.slice a1 t.length c1, .int .i64 d, undef, .pointer (some ⟨w.heap.size, 0, none⟩), .pointer (some ⟨w.heap.size + 1, 0, none⟩), .pointer (some ⟨w.heap.size + 1 + 1, 0, none⟩), .int .i64 y.1, .pointer (some ⟨Bx, 0, none⟩), .slice a1 t.length c1, .bool true, .bool false, .bool false, .int .i64 d, .bool true, .bool false, .bool false, .slice a1 t.length c1, .func (.func 101) #[] #[.pointer (some ⟨w1.heap.size, 0, none⟩)], .int .i64 y.1, .agg #[.int .i64 y.2.1, vS y.2.2], undef, undef, undef, undef, undef], defers := [] })
    (fun y a' _ X Y row hs hg hr => by
      obtain ⟨Bx, h1, h4, h5⟩ := hs
      refine ⟨Bx, h1, h4.kept hg (fun e => ?_), h5⟩
      obtain ⟨_, o, ho, hc⟩ := hr Bx e.symm
      rw [show X.heap[Bx]? = _ from h4] at ho
      cases ho
      cases hc)
    ?assign ?body ?done ?stop
  case assign =>
    rintro l pre ⟨yk, ⟨yf, ya, yn, yc⟩⟩ W K ⟨⟨⟨⟨⟨hp, hI⟩, hR⟩, hT⟩, hS⟩, hB⟩ hK
    simp only [encBV, vS] at hK ⊢
    gi_wp2
    exact hK _ _ ((KeepsOthers.alloc _ _).from _) ⟨(Below.refl _ W).alloc hB.size _, fun hlt => Below.heap_alloc _ _ _ hlt⟩ ⟨⟨⟨⟨⟨hp, hI.alloc _⟩, hR.alloc _⟩, hT.alloc _⟩, hS.alloc _⟩, hB.alloc hB.size _⟩ ⟨W.heap.size, hS.lt, heap_alloc_new _ _, rfl⟩
  case body =>
    rintro l pre ⟨yk, ⟨yf, ya, yn, yc⟩⟩ a' W hl hr ⟨⟨⟨⟨⟨hp, hI⟩, hR⟩, hT⟩, hS⟩, hB⟩ ⟨Bx, hBx, b3, rfl⟩ hlt
    have k0 := b3.c0
    have kI := hI.cell
    have kR := hR.cell
    have fR := hR.frozen
    have kT := hT.cell
    have fT := hT.frozen
    have hsW := hB.size
    simp only at k0
    by_cases hle : yf ≤ d
    · have r1 := (hR.set (.int .i64 yk)).other (B' := w.heap.size + 1 + 1) (by omega) (.bool true)
      have t1 := (hT.other (B' := w.heap.size + 1) (by omega) (.int .i64 yk)).set (.bool true)
      have kT2 := (hT.other (B' := w.heap.size + 1) (by omega) (.int .i64 yk)).cell
      have fT2 := (hT.other (B' := w.heap.size + 1) (by omega) (.int .i64 yk)).frozen
      have hbb := (hB.setCell (p := ⟨w.heap.size + 1, 0, none⟩) (show w.heap.size ≤ w.heap.size + 1 by omega) (.int .i64 yk)).setCell (p := ⟨w.heap.size + 1 + 1, 0, none⟩) (show w.heap.size ≤ w.heap.size + 1 + 1 by omega) (.bool true)
      have HL : Hid (LastV d (pre ++ [(yk, (yf, ya, yn, yc))])) := Lib.hid ⟨pre, _, rfl, hp, hle⟩
      have HL1 : Hid (lastV1 (pre ++ [(yk, (yf, ya, yn, yc))]) = yk) := Lib.hid (by simp [lastV1])
      gi_wp2
      exact ⟨((KeepsOthers.setCell _ _ _).trans (KeepsOthers.setCell _ _ _)).from _, ⟨⟨⟨rfl, HL.out⟩, by rw [HL1.out]; exact r1⟩, t1⟩, hbb⟩
    · have hp2 : ∀ y ∈ pre ++ [(yk, (yf, ya, yn, yc))], ¬ y.2.1 ≤ d := fun y hy => by
        rcases List.mem_append.1 hy with h | h
        · exact hp y h
        · rw [List.mem_singleton.1 h]; exact hle
      have HP2 := Lib.hid hp2
      clear hp2
      gi_wp2
      exact ⟨(KeepsOthers.refl W).from _, kpBV_refl _ _ _, ⟨⟨⟨⟨⟨fun q0 q1 q2 q3 q4 hq => HP2.out (q0, q1, q2, q3, q4) hq, hI⟩, hR⟩, hT⟩, hS⟩, hB⟩⟩
  case done =>
    rintro D ys W hD rfl ⟨⟨⟨⟨⟨hp, hI⟩, hR⟩, hT⟩, hS⟩, hB⟩ hK
    have hans := HRES.out
    have hno : onV t d = -1 := onV_no fun j hj => by
      rw [← HEF.out j hj]
      have hj2 : j < es.length := by rw [HEL.out]; exact hj
      have := hp ((es.length : Int) - 1 - ((es.length - 1 - j : Nat) : Int), es.getD j vD) (by
        unfold bwdV
        refine List.mem_map.2 ⟨es.length - 1 - j, List.mem_range.2 (by omega), ?_⟩
        rw [show es.length - 1 - (es.length - 1 - j) = j by omega])
      exact this
    unfold onRes at hans
    rw [hno, if_neg (by simp)] at hans
    cases hans
    have kR := hR.cell
    have fR := hR.frozen
    have kT2 := (hT.other (B' := w.heap.size + 1) (by omega) (.int .i64 0)).cell
    have fT2 := (hT.other (B' := w.heap.size + 1) (by omega) (.int .i64 0)).frozen
    have r1 := (hR.set (.int .i64 0)).other (B' := w.heap.size + 1 + 1) (by omega) (.bool false)
    have t1 := (hT.other (B' := w.heap.size + 1) (by omega) (.int .i64 0)).set (.bool false)
    have hbb := (hB.setCell (p := ⟨w.heap.size + 1, 0, none⟩) (show w.heap.size ≤ w.heap.size + 1 by omega) (.int .i64 0)).setCell (p := ⟨w.heap.size + 1 + 1, 0, none⟩) (show w.heap.size ≤ w.heap.size + 1 + 1 by omega) (.bool false)
    have hK' := ((KeepsOthers.setCell W ⟨w.heap.size + 1, 0, none⟩ (.int .i64 0)).trans (KeepsOthers.setCell _ ⟨w.heap.size + 1 + 1, 0, none⟩ (.bool false))).same D _ hK rfl
    clear hno
    gi_wp2
    refine ⟨by simp, .inl ⟨_, _, rfl, run_takeDeferred hK', ?_⟩⟩
    have hg := grownBy_putObj' ((W.setCell ⟨w.heap.size + 1, 0, none⟩ (.int .i64 0)).setCell ⟨w.heap.size + 1 + 1, 0, none⟩ (.bool false)) D (.deferred none)
    have c0 := (r1.kept hg (fun e => by have : w.heap.size + 1 = D := by simpa using e
                                        omega)).cell
    have c1' := (t1.kept hg (fun e => by have : w.heap.size + 1 + 1 = D := by simpa using e
                                         omega)).cell
    refine ⟨.tuple #[.int .i64 0, .bool false], ?_, rfl, ?_⟩
    · simp [results, Try.results11, go_sem, c0, c1']
    · exact hbb.trans (belowK_b (w := w) (Nat.le_refl _) _ D _ _ (by omega) hK' rfl rfl)
  case stop =>
    rintro D c pre W hD ⟨kk, hkk, hpre⟩ ⟨⟨⟨⟨rfl, hLast⟩, hR⟩, hT⟩, hB⟩ hK
    have hans := HRES.out
    obtain ⟨pre2, y, hpy, hno, hyes⟩ := hLast
    have hjj : es.length - 1 - kk < t.length := by have := HEL.out; omega
    have hyy : pre2 = bwdV es kk ∧ y = ((es.length : Int) - 1 - (kk : Int), es.getD (es.length - 1 - kk) vD) := by
      rw [bwdV_succ] at hpre
      have := hpy.symm.trans hpre
      obtain ⟨e1, e2⟩ := List.append_inj' this (by simp)
      exact ⟨e1, by simpa using e2⟩
    have hl1 : lastV1 pre = ((es.length - 1 - kk : Nat) : Int) := by
      rw [hpy, hyy.2]
      simp [lastV1]
      omega
    have hon : onV t d = ((es.length - 1 - kk : Nat) : Int) := onV_is hjj (by rw [← HEF.out _ hjj]; rw [hyy.2] at hyes; exact hyes) (fun j hj1 hj2 => by
      rw [← HEF.out j hj2]
      have := hno ((es.length : Int) - 1 - ((es.length - 1 - j : Nat) : Int), es.getD j vD) (by
        rw [hyy.1]
        unfold bwdV
        refine List.mem_map.2 ⟨es.length - 1 - j, List.mem_range.2 (by have := HEL.out; omega), ?_⟩
        rw [show es.length - 1 - (es.length - 1 - j) = j by have := HEL.out; omega])
      exact this)
    unfold onRes at hans
    rw [hon, if_pos ⟨⟨HT.out, of_decide_eq_true HD.out⟩, by omega⟩] at hans
    cases hans
    rw [hl1] at hR
    clear hl1 hon hyy
    gi_wp2
    refine ⟨by simp, .inl ⟨_, _, rfl, run_takeDeferred hK, ?_⟩⟩
    have hg := grownBy_putObj' W D (.deferred none)
    have c0 := (hR.kept hg (fun e => by have : w.heap.size + 1 = D := by simpa using e
                                        omega)).cell
    have c1' := (hT.kept hg (fun e => by have : w.heap.size + 1 + 1 = D := by simpa using e
                                         omega)).cell
    refine ⟨.tuple #[.int .i64 ((es.length - 1 - kk : Nat) : Int), .bool true], ?_, rfl, ?_⟩
    · simp [results, Try.results11, go_sem, c0, c1']
    · exact hB.trans (belowK_b (w := w) (Nat.le_refl _) _ D _ _ (by omega) hK rfl rfl)

set_option maxRecDepth 20000 in
theorem implVersionOn_any (v : Value) (t : List Ve) (d : Int) (w : World) (h : RowR 2 rVe w v t) (N : Int) (b : Bool) (hres : onRes t d = (N, b)) :
    Calls Try.prog 11 #[v, .int .i64 d] w fun e w' => e = .returned (.tuple #[.int .i64 N, .bool b]) ∧ Below w.heap.size w w' := by
  have b0 := below_al (below_al (below_al (Below.refl w.heap.size w) (.cells #[.int .i64 d] 3 (0, 0))) (.cells #[.int .i64 0] 3 (0, 0))) (.cells #[.bool false] 4 (0, 0))
  have BB0 := Lib.hid b0
  have xI : Boxed (((w.alloc (.cells #[.int .i64 d] 3 (0, 0))).alloc (.cells #[.int .i64 0] 3 (0, 0))).alloc (.cells #[.bool false] 4 (0, 0))) w.heap.size 3 (.int .i64 d) := ((Boxed.new w 3 _).alloc _).alloc _
  have xR : Boxed (((w.alloc (.cells #[.int .i64 d] 3 (0, 0))).alloc (.cells #[.int .i64 0] 3 (0, 0))).alloc (.cells #[.bool false] 4 (0, 0))) (w.heap.size + 1) 3 (.int .i64 0) := by
    have := (Boxed.new (w.alloc (.cells #[.int .i64 d] 3 (0, 0))) 3 (.int .i64 0)).alloc (.cells #[.bool false] 4 (0, 0))
    simpa using this
  have xB : Boxed (((w.alloc (.cells #[.int .i64 d] 3 (0, 0))).alloc (.cells #[.int .i64 0] 3 (0, 0))).alloc (.cells #[.bool false] 4 (0, 0))) (w.heap.size + 1 + 1) 4 (.bool false) := by
    have := Boxed.new ((w.alloc (.cells #[.int .i64 d] 3 (0, 0))).alloc (.cells #[.int .i64 0] 3 (0, 0))) 4 (.bool false)
    simpa using this
  have XI := Lib.hid xI
  have XR := Lib.hid xR
  have XB := Lib.hid xB
  clear xI xR xB b0
  rcases ht : areVe t with _ | _
  · have H := Lib.hid h
    have HT := Lib.hid ht
    unfold onRes at hres
    rw [ht, if_neg (by simp)] at hres
    cases hres
    clear h ht
    go_enter Try.func11, Try.ntmps11
    go_wp2_with (first | (go_at_call 13; refine (implAreVersions_any _ t _ (H.out.below rVe_stable BB0.out)).mono ?_; rw [HT.out]; rintro e w1 ⟨rfl, b1⟩; have yR := (show Boxed w1 (w.heap.size + 1) 3 (.int .i64 0) from (b1.block (w.heap.size + 1) XR.out.lt).trans XR.out); have yB := (show Boxed w1 (w.heap.size + 1 + 1) 4 (.bool false) from (b1.block (w.heap.size + 1 + 1) XB.out.lt).trans XB.out); have c0 := yR.cell; have f0 := yR.frozen; have c1 := yB.cell; have f1 := yB.frozen; have hb1 := below_chain BB0.out b1))
    have r1 := ((yR.set (.int .i64 0)).other (B' := w.heap.size + 1 + 1) (by omega) (.bool false)).cell
    have t1 := ((yB.other (B' := w.heap.size + 1) (by omega) (.int .i64 0)).set (.bool false)).cell
    refine bodyPost_ret (v := .tuple #[.int .i64 0, .bool false]) (by simp [results, Try.results11, go_sem, r1, t1]) rfl ⟨rfl, ?_⟩
    exact (hb1.setCell (by first | (simp; done) | (simp; omega)) _).setCell (by first | (simp; done) | (simp; omega)) _
  · rcases hd : decide ((0 : Int) ≤ d ∧ d ≤ 20000) with _ | _
    · have H := Lib.hid h
      have HT := Lib.hid ht
      have HD := Lib.hid hd
      unfold onRes at hres
      rw [if_neg (fun e => of_decide_eq_false hd e.1.2)] at hres
      cases hres
      clear h ht hd
      go_enter Try.func11, Try.ntmps11
      go_wp2_with (first | (go_at_call 13; refine (implAreVersions_any _ t _ (H.out.below rVe_stable BB0.out)).mono ?_; rw [HT.out]; rintro e w1 ⟨rfl, b1⟩; have yI := (show Boxed w1 w.heap.size 3 (.int .i64 d) from (b1.block w.heap.size XI.out.lt).trans XI.out); have yR := (show Boxed w1 (w.heap.size + 1) 3 (.int .i64 0) from (b1.block (w.heap.size + 1) XR.out.lt).trans XR.out); have yB := (show Boxed w1 (w.heap.size + 1 + 1) 4 (.bool false) from (b1.block (w.heap.size + 1 + 1) XB.out.lt).trans XB.out); have ci := yI.cell; have c0 := yR.cell; have f0 := yR.frozen; have c1 := yB.cell; have f1 := yB.frozen; have hb1 := below_chain BB0.out b1) | (go_at_call 56; refine (isDay_any _ _).mono ?_; rw [HD.out]; rintro e w3 ⟨rfl, h3⟩; subst w3))
      have r1 := ((yR.set (.int .i64 0)).other (B' := w.heap.size + 1 + 1) (by omega) (.bool false)).cell
      have t1 := ((yB.other (B' := w.heap.size + 1) (by omega) (.int .i64 0)).set (.bool false)).cell
      refine bodyPost_ret (v := .tuple #[.int .i64 0, .bool false]) (by simp [results, Try.results11, go_sem, r1, t1]) rfl ⟨rfl, ?_⟩
      exact (hb1.setCell (by first | (simp; done) | (simp; omega)) _).setCell (by first | (simp; done) | (simp; omega)) _
    · obtain ⟨a1, c1, hv, _⟩ := h.ves
      subst hv
      exact callsIn_wide.1 (versionOn_yes 6 (by omega) a1 c1 t d w h ht hd N b hres)
end Go.Proofs.Ytmjeaciacgeioaa
