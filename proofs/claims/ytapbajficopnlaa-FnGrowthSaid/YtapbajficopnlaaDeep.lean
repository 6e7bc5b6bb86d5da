/- DeepestFunctions, the model's and the program's. -/
import Derived.Test.YtapbajficopnlaaUnder
namespace Go.Proofs.Ytapbajficopnlaa
set_option linter.unusedVariables false
open Go.RowKit Go.Sort

/-- What DeepestFunctions answers. -/
def deepRes (t : List Fn) : List Int × Int × Bool := if isTree t = true then ((deepF t t.length).1, ((deepF t t.length).2 : Int), true) else ([], 0, false)
theorem deepF_len (t : List Fn) : ∀ k, (deepF t k).1.length ≤ k
  | 0 => by simp [deepF]
  | k + 1 => by
    have := deepF_len t k
    simp only [deepF]
    split
    · simp
    · split
      · rw [List.length_append]; simp; omega
      · omega
theorem deepRes_len {t : List Fn} {xs : List Int} {n : Int} {b : Bool} (h : deepRes t = (xs, n, b)) : xs.length ≤ t.length + 1 := by
  unfold deepRes at h
  split at h
  · obtain ⟨rfl, _⟩ := Prod.mk.inj h; have := deepF_len t t.length; omega
  · obtain ⟨rfl, _⟩ := Prod.mk.inj h; simp
theorem deep_succ {t : List Fn} {k : Nat} {L : List Int} {M D : Nat} {fi : Int} (h : deepF t k = (L, M)) (hx : (t.getD k fnD).id = fi) (hd : (pathF t fi).length = D) : deepF t (k + 1) = if M < D then ([fi], D) else if D = M then (L ++ [fi], M) else (L, M) := by
  simp only [deepF]
  rw [h, hx, hd]
theorem path_le {t : List Fn} (h : isTree t = true) {x : Int} (hx : x = 0 ∨ hasF t x = true) : (pathF t x).length ≤ 99 := by
  have h1 := path_len h x hx
  unfold pathF
  rw [List.length_map]
  rcases hx with rfl | hx
  · simp at h1; rw [h1]; simp
  · have := (par_ok h hx).1; omega
theorem deepF_le {t : List Fn} (h : isTree t = true) : ∀ k, k ≤ t.length → (deepF t k).2 ≤ 99
  | 0, _ => by simp [deepF]
  | k + 1, hk => by
    have := deepF_le h k (by omega)
    have h2 := path_le h (.inr (tree_has (t := t) (i := k) (by omega)))
    simp only [deepF]
    split
    · exact h2
    · split <;> exact this

set_option maxRecDepth 20000 in
set_option maxHeartbeats 2000000 in
theorem specDeepest_any (v : Value) (t : List Fn) (w : World) (h : RowR 3 rFn w v t) (xs : List Int) (n : Int) (b : Bool) (hres : deepRes t = (xs, n, b)) :
    Calls Try.prog 35 #[v] w fun e w' => ∃ v', e = .returned (.tuple #[v', .int .i64 n, .bool b]) ∧ IntsO w.heap.size w'.heap.size w' v' xs ∧ Below w.heap.size w w' := by
  obtain ⟨i0, hi, hz0, hz1, hz2⟩ := info_parts Try.info_int
  have H := Lib.hid h
  obtain ⟨a1, c1, rfl, hl1, hm1, r1⟩ := h.fns
  have R1 := Lib.hid r1
  clear h r1
  unfold maxLen at hm1
  obtain ⟨bt, ht⟩ : ∃ b, isTree t = b := ⟨_, rfl⟩
  have HT := Lib.hid ht
  unfold deepRes at hres
  rw [ht] at hres
  cases bt
  · rw [if_neg (by simp)] at hres
    obtain ⟨rfl, h2⟩ := Prod.mk.inj hres
    obtain ⟨rfl, rfl⟩ := Prod.mk.inj h2
    clear hres ht h2
    go_enter Try.func35, Try.ntmps35
    go_wp2_with (first | (go_at_call 57; refine (l3Good_any _ t _ (H.out.below rFn_stable (below_al (Below.refl _ _) _))).mono ?_; rw [HT.out]; rintro e w1 ⟨rfl, b1⟩))
    go_ret3
    exact ⟨_, rfl, ⟨ownsRow_below (World.ownsRow_made w #[] 0 (Nat.le_refl _) (Nat.zero_le _) rfl) b1, fun g hg => by have := b1.size; simp at this; simp [Value.ownBlock] at hg; omega⟩, below_chain (below_al (Below.refl _ _) _) b1⟩
  · rw [if_pos rfl] at hres
    obtain ⟨rfl, h2⟩ := Prod.mk.inj hres
    obtain ⟨rfl, rfl⟩ := Prod.mk.inj h2
    have h15 := tree_len ht
    clear hres ht h2
    go_enter Try.func35, Try.ntmps35
    go_wp2_with (first | (go_at_call 57; refine (l3Good_any _ t _ (H.out.below rFn_stable (below_al (Below.refl _ _) _))).mono ?_; rw [HT.out]; rintro e w1 ⟨rfl, b1⟩))
    go_loopw [5, 6, 7] (fun o m i wr => ∃ k : Nat, k ≤ t.length ∧ i = .int .i64 k ∧ m = .int .i64 ((deepF t k).2 : Nat) ∧ wr.ownsRow w.heap.size 3 1 o (deepF t k).1.length ((deepF t k).1.map vI) ∧ Below w.heap.size w wr) (fun _ _ i _ => t.length - (intOf i).toNat)
    case atStart => exact ⟨0, Nat.zero_le _, rfl, rfl, by simpa [deepF] using ownsRow_below (World.ownsRow_made w #[] 0 (Nat.le_refl _) (Nat.zero_le _) rfl) b1, below_chain (below_al (Below.refl _ _) _) b1⟩
    case round =>
      clear b1
      obtain ⟨k, hk, rfl, rfl, hO, hb⟩ := hrel
      by_cases hlt : k < t.length
      · obtain ⟨b1, o1, hb1, rfl, e1⟩ := R1.out.resolve_left (fun e => by rw [e] at hlt; simp at hlt)
        obtain ⟨f, hx⟩ : ∃ s, t.getD k fnD = s := ⟨_, rfl⟩
        obtain ⟨q0, q1, q2, hok⟩ := e1 k hlt
        have hhas := tree_has hlt
        have hM := deepF_le HT.out k hk
        have hL := deepF_len t k
        obtain ⟨D, hD⟩ : ∃ D, (pathF t (t.getD k fnD).id).length = D := ⟨_, rfl⟩
        obtain ⟨L, M, hLM⟩ : ∃ L M, deepF t k = (L, M) := ⟨_, _, rfl⟩
        have hD99 := path_le HT.out (.inr hhas)
        have hsucc := deep_succ hLM rfl hD
        rw [hD] at hD99
        rw [hLM] at hO hM hL
        simp only [hLM]
        rw [hx] at q0 q1 q2 hhas hsucc hD
        obtain ⟨fi, fp, fs⟩ := f
        simp only at q0 q1 q2 hhas hsucc hD hO hM hL
        have f0 := cell_kept q0 hb
        have HSU := Lib.hid hsucc
        have HHAS := Lib.hid hhas
        have HD := Lib.hid hD
        have g0 : (0 : Int) ≤ (k : Int) := by omega
        have g1 : (k : Int) < (t.length : Int) := by omega
        have hsz := hb.size
        clear q0 q1 q2 hok e1 hx hsucc hhas hLM hD
        go_wp2_with fail
        refine (l3Path_any _ t fi _ (H.out.below rFn_stable hb) HT.out (.inr HHAS.out)).mono ?_
        rintro e w3 ⟨vp, rfl, hp, b3⟩
        obtain ⟨pa, pc, rfl, _⟩ := hp.row
        rw [HD.out]
        have hO3 := ownsRow_below hO b3
        have hb3 := hb.trans (b3.mono hsz)
        have f3 := cell_kept f0 b3
        have f3a := fun o : Obj => below_al_cell f3 o
        have hsz3 := hb3.size
        clear hO f0 hp b3 hb
        by_cases hgt : M < D
        · have dgt : decide ((M : Int) < (D : Int)) = true := decide_eq_true (by omega)
          have hsu : Hid (deepF t (k + 1) = ([fi], D)) := by rw [HSU.out, if_pos hgt]; exact Lib.hid rfl
          have hOE : (w3.alloc (.cells #[] 3 (0, 0))).ownsRow w.heap.size 3 1 (.slice (some ⟨w3.heap.size, 0, none⟩) 0 0) 0 [] := World.ownsRow_made w3 #[] 0 hsz3 (Nat.zero_le _) rfl
          have f3b := fun o o' : Obj => below_al_cell (f3a o) o'
          clear hO3
          go_wp2_with (first | (at_builtin; refine wpList_append_own _ rfl _ _ 31 rfl w.heap.size 3 i0 (.int .i64 0) 1 8 Try.underlying31 hi hz0 hz1 hz2 rfl (by decide) _ _ _ rfl (hOE.alloc _) ⟨w3.heap.size + 1, 0, none⟩ 1 1 [.int .i64 fi] rfl rfl (cell_one_new' _ _ _ (by simp)) (by simp [Value.oneCell']) (by unfold maxLen; omega) (by omega) (by simp; omega) ?_; intro v' w6 hown' hgrow _))
          have HOWN := Lib.hid hown'
          have HB := Lib.hid (below_app (below_al hb3 _) (Nat.le_refl _) hOE hgrow)
          clear hown' hgrow hOE
          go_wp2_with fail
          go_roundw
          case rel => exact ⟨k + 1, by omega, by go_num, by rw [hsu.out], by rw [hsu.out]; simpa [vI] using HOWN.out, HB.out⟩
          case measure => simp [intOf]; omega
        · by_cases heq : D = M
          · have dgt : decide ((M : Int) < (D : Int)) = false := decide_eq_false (by omega)
            have hsu : Hid (deepF t (k + 1) = (L ++ [fi], M)) := by rw [HSU.out, if_neg hgt, if_pos heq]; exact Lib.hid rfl
            have deq : ((D : Int) == (M : Int)) = true := by simp [heq]
            have HEQ := Lib.hid heq
            clear heq
            go_wp2_with (first | (at_builtin; refine wpList_append_own _ rfl _ _ 31 rfl w.heap.size 3 i0 (.int .i64 0) 1 8 Try.underlying31 hi hz0 hz1 hz2 rfl (by decide) _ _ _ rfl (hO3.alloc _) ⟨w3.heap.size, 0, none⟩ 1 1 [.int .i64 fi] rfl rfl (cell_one_new' _ _ _ (by simp)) (by simp [Value.oneCell']) (by unfold maxLen; omega) (by omega) (by simp; omega) ?_; intro v' w6 hown' hgrow _))
            have HOWN := Lib.hid hown'
            have HB := Lib.hid (below_app hb3 (Nat.le_refl _) hO3 hgrow)
            clear hown' hgrow hO3
            go_wp2_with fail
            go_roundw
            case rel => exact ⟨k + 1, by omega, by go_num, by rw [hsu.out], by rw [hsu.out]; simpa [vI] using HOWN.out, HB.out⟩
            case measure => simp [intOf]; omega
          · have dgt : decide ((M : Int) < (D : Int)) = false := decide_eq_false (by omega)
            have hsu : Hid (deepF t (k + 1) = (L, M)) := by rw [HSU.out, if_neg hgt, if_neg heq]; exact Lib.hid rfl
            have deq : ((D : Int) == (M : Int)) = false := by simp; omega
            have HO3 := Lib.hid hO3
            clear hO3
            go_wp2_with fail
            go_roundw
            case rel => exact ⟨k + 1, by omega, by go_num, by rw [hsu.out], by rw [hsu.out]; exact HO3.out, hb3⟩
            case measure => simp [intOf]; omega
      · have hkt : k = t.length := by omega
        rw [hkt] at hO
        have HO := Lib.hid hO
        have HK := Lib.hid hkt
        clear hO hkt
        go_wp2_with fail
        go_ret3
        exact ⟨_, by first | rfl | (rw [HK.out]; rfl), ⟨HO.out, fun g hg => (HO.out.lt g hg).2⟩, hb⟩

set_option maxRecDepth 20000 in
set_option maxHeartbeats 2000000 in
theorem implDeepest_any (v : Value) (t : List Fn) (w : World) (h : RowR 3 rFn w v t) (xs : List Int) (n : Int) (b : Bool) (hres : deepRes t = (xs, n, b)) :
    Calls Try.prog 34 #[v] w fun e w' => ∃ v', e = .returned (.tuple #[v', .int .i64 n, .bool b]) ∧ IntsO w.heap.size w'.heap.size w' v' xs ∧ Below w.heap.size w w' := by
  obtain ⟨i0, hi, hz0, hz1, hz2⟩ := info_parts Try.info_int
  have H := Lib.hid h
  obtain ⟨a1, c1, rfl, hl1, hm1, r1⟩ := h.fns
  have R1 := Lib.hid r1
  clear h r1
  unfold maxLen at hm1
  obtain ⟨bt, ht⟩ : ∃ b, isTree t = b := ⟨_, rfl⟩
  have HT := Lib.hid ht
  unfold deepRes at hres
  rw [ht] at hres
  cases bt
  · rw [if_neg (by simp)] at hres
    obtain ⟨rfl, h2⟩ := Prod.mk.inj hres
    obtain ⟨rfl, rfl⟩ := Prod.mk.inj h2
    clear hres ht h2
    go_enter Try.func34, Try.ntmps34
    go_wp2_with (first | (go_at_call 23; refine (implIsTree_any _ t _ H.out).mono ?_; rw [HT.out]; rintro e w1 ⟨rfl, b1⟩))
    go_ret3
    exact ⟨_, rfl, ⟨World.ownsRow_nil _ _ _ _, Under.nil _ _ _⟩, b1⟩
  · rw [if_pos rfl] at hres
    obtain ⟨rfl, h2⟩ := Prod.mk.inj hres
    obtain ⟨rfl, rfl⟩ := Prod.mk.inj h2
    have h15 := tree_len ht
    clear hres ht h2
    go_enter Try.func34, Try.ntmps34
    go_wp2_with (first | (go_at_call 23; refine (implIsTree_any _ t _ H.out).mono ?_; rw [HT.out]; rintro e w1 ⟨rfl, b1⟩))
    go_loopw [6, 7, 16] (fun o m i wr => ∃ (k : Nat) (dv : List Int), k ≤ t.length ∧ i = .int .i64 k ∧ m = .int .i64 ((deepF t k).2 : Nat) ∧ wr.ownsRow w.heap.size 93 1 (.slice (some ⟨w1.heap.size, 0, none⟩) 100 100) 100 (dv.map vI) ∧
        Hid (dv.getD 0 0 = 0 ∧ ∀ j, j < k → dv.getD (t.getD j fnD).id.toNat 0 = ((pathF t (t.getD j fnD).id).length : Nat)) ∧ wr.ownsRow (w1.heap.size + 1) 3 1 o (deepF t k).1.length ((deepF t k).1.map vI) ∧ w1.heap.size < wr.heap.size ∧ Below w.heap.size w wr) (fun _ _ i _ => t.length - (intOf i).toNat)
    case atStart =>
      refine ⟨0, List.replicate 100 0, Nat.zero_le _, rfl, rfl, ?_, Lib.hid ⟨by decide, fun j h => absurd h (Nat.not_lt_zero _)⟩, by simpa [deepF] using World.ownsRow_nil _ _ _ _, by simp, below_al b1 _⟩
      exact ⟨by simp, .inr ⟨w1.heap.size, 100, Try.zeroCells93, rfl, b1.size, heap_alloc_new w1 _, Nat.le_refl _, by unfold maxLen; omega, by kernel_rfl, by kernel_rfl⟩⟩
    case round =>
      have hw1 := b1.size
      clear b1
      obtain ⟨k, dv, hk, rfl, rfl, hR, HI, hO, hgt1, hb⟩ := hrel
      by_cases hlt : k < t.length
      · obtain ⟨b1, o1, hb1, rfl, e1⟩ := R1.out.resolve_left (fun e => by rw [e] at hlt; simp at hlt)
        have hhas := tree_has hlt
        have hfn := isFn_iff.1 (tree_fn HT.out hlt)
        have hM := deepF_le HT.out k hk
        have hL := deepF_len t k
        have hpb := par_before HT.out hlt
        have hpa := par_at HT.out hlt
        have hstep := pathF_step HT.out hhas
        obtain ⟨L, M, hLM⟩ : ∃ L M, deepF t k = (L, M) := ⟨_, _, rfl⟩
        have hsucc : ∀ D, (pathF t (t.getD k fnD).id).length = D → _ := fun D hD => deep_succ hLM rfl hD
        rw [hLM] at hO hM hL
        simp only [hLM]
        obtain ⟨q0, q1, q2, _⟩ := e1 k hlt
        obtain ⟨⟨fi, fp, fs⟩, hx⟩ : ∃ s, t.getD k fnD = s := ⟨_, rfl⟩
        have hnew : ∀ j, j < k → (t.getD j fnD).id ≠ fi := fun j hj h => by have := tree_sorted HT.out hj hlt; rw [hx, h] at this; simp at this
        have hge : ∀ j, j < k → 0 ≤ (t.getD j fnD).id := fun j hj => by have := (isFn_iff.1 (tree_fn HT.out (i := j) (by omega))).1; omega
        rw [hpa] at hstep
        rw [hx] at q0 q1 q2 hhas hfn hpb hstep hsucc
        simp only at q0 q1 q2 hhas hfn hpb hstep hsucc hO hM hL
        obtain ⟨fn, rfl⟩ := Int.eq_ofNat_of_zero_le (show 0 ≤ fi by omega)
        obtain ⟨pn, rfl⟩ := Int.eq_ofNat_of_zero_le (show 0 ≤ fp by omega)
        have hfn99 : fn ≤ 99 := by omega
        have hpn99 : pn ≤ 99 := by omega
        have hfn0 : fn ≠ 0 := by omega
        have hdl : dv.length = 100 := by have := hR.1; rw [List.length_map] at this; omega
        obtain ⟨Dp, hDp⟩ : ∃ D, (pathF t (pn : Int)).length = D := ⟨_, rfl⟩
        have hdp : dv.getD pn 0 = (Dp : Int) := by
          rcases hpb with h | ⟨j, hj, he⟩
          · have h0 : pn = 0 := by omega
            subst h0
            rw [HI.out.1, ← hDp]
            simp [pathF_zero]
          · have := HI.out.2 j hj
            rw [he] at this
            simpa [hDp] using this
        have hDl : (pathF t (fn : Int)).length = Dp + 1 := by rw [hstep, List.length_append, hDp]; rfl
        have hD99 := path_le HT.out (.inr hhas)
        rw [hDl] at hD99
        have hsu0 := hsucc _ hDl
        have hcp := hR.cellAt pn (by omega)
        have hcf := hR.cellAt fn (by omega)
        rw [List.getElem?_map, List.getElem?_eq_getElem (by omega), Option.map_some] at hcp hcf
        have hpv : dv[pn]'(by omega) = (Dp : Int) := by rw [← hdp, List.getD, List.getElem?_eq_getElem (by omega)]; rfl
        rw [hpv] at hcp
        simp only [vI] at hcp hcf
        obtain ⟨cv, hcv⟩ : ∃ cv, dv[fn]'(by omega) = cv := ⟨_, rfl⟩
        rw [hcv] at hcf
        have hff := hR.frozenAt fn
        have hcpa := fun o : Obj => below_al_cell hcp o
        have f0 := cell_kept q0 hb
        have f1 := cell_kept q1 hb
        have f2 := cell_kept q2 hb
        obtain ⟨hS1, hS2⟩ := hR.stored fn (.int .i64 ((Dp : Int) + 1))
        have hS1' : (wr.setCell ⟨w1.heap.size, fn, none⟩ (.int .i64 ((Dp : Int) + 1))).ownsRow w.heap.size 93 1 (.slice (some ⟨w1.heap.size, 0, none⟩) 100 100) 100 ((dv.set fn ((Dp : Int) + 1)).map vI) := by rw [List.map_set]; simpa [vI] using hS1
        have hO' := ownsRow_setCell_below hO (a := ⟨w1.heap.size, fn, none⟩) (show w1.heap.size < w1.heap.size + 1 by omega) (.int .i64 ((Dp : Int) + 1))
        have hbS := hb.setCell (p := ⟨w1.heap.size, fn, none⟩) hw1 (.int .i64 ((Dp : Int) + 1))
        have hsS : (wr.setCell ⟨w1.heap.size, fn, none⟩ (.int .i64 ((Dp : Int) + 1))).heap.size = wr.heap.size := by simp
        have HI2 : Hid ((dv.set fn ((Dp : Int) + 1)).getD 0 0 = 0 ∧ ∀ j, j < k + 1 → (dv.set fn ((Dp : Int) + 1)).getD (t.getD j fnD).id.toNat 0 = ((pathF t (t.getD j fnD).id).length : Nat)) := Lib.hid (by
          refine ⟨by rw [List.getD, List.getElem?_set_ne hfn0]; exact HI.out.1, fun j hj => ?_⟩
          rcases Nat.lt_or_ge j k with h' | h'
          · have h1 := hnew j h'
            have h2 := hge j h'
            rw [List.getD, List.getElem?_set_ne (by omega)]
            exact HI.out.2 j h'
          · obtain rfl : j = k := by omega
            rw [hx]
            simp only [Int.toNat_natCast]
            rw [List.getD, List.getElem?_set_self (by omega), hDl]
            simp)
        have HS1 := Lib.hid hS1'
        have HBS := Lib.hid hbS
        have HOO := Lib.hid hO'
        have HSU := Lib.hid hsu0
        have HHS := Lib.hid hsS
        have g0 : (0 : Int) ≤ (k : Int) := by omega
        have g1 : (k : Int) < (t.length : Int) := by omega
        have g2 : (fn : Int) < 100 := by omega
        have g3 : (pn : Int) < 100 := by omega
        clear q0 q1 q2 e1 hx hsucc hhas hLM hfn hpb hpa hstep hnew hge hDp hdp hDl hsu0 hpv hS1 hS2 hS1' hO' hbS hO hR HI hcv hdl hsS
        by_cases hgt : M < Dp + 1
        · have dgt : decide ((M : Int) < (Dp : Int) + 1) = true := decide_eq_true (by omega)
          have hsu : Hid (deepF t (k + 1) = ([(fn : Int)], Dp + 1)) := by rw [HSU.out, if_pos hgt]; exact Lib.hid rfl
          go_wp2_with (first | (at_builtin; refine wpList_append_own _ rfl _ _ 31 rfl (w1.heap.size + 1) 3 i0 (.int .i64 0) 1 8 Try.underlying31 hi hz0 hz1 hz2 rfl (by decide) (.slice none 0 0) 0 [] rfl (World.ownsRow_nil _ _ _ _) ⟨wr.heap.size + 1, 0, none⟩ 1 1 [.int .i64 fn] rfl rfl (cell_one_new' _ _ _ (by simp)) (by simp [Value.oneCell']) (by unfold maxLen; omega) (by omega) (by simp; omega) ?_; intro v' w6 hown' hgrow _))
          have hs6 : w1.heap.size < w6.heap.size := by have := hgrow.size; simp at this; omega
          have HB := Lib.hid (below_app (e := 3) (size := 1) (below_al HBS.out _) (Nat.le_refl _) (World.ownsRow_nil _ _ _ _) hgrow)
          have HR6 := Lib.hid (((HS1.out.alloc _).alloc _).kept hgrow (.inr (by simp [Value.ownBlock])))
          have HOWN := Lib.hid hown'
          clear hown' hgrow
          go_wp2_with fail
          go_roundw
          case rel => exact ⟨k + 1, dv.set fn ((Dp : Int) + 1), by omega, by go_num, by have := hsu.out; simp [this], HR6.out, HI2, by rw [hsu.out]; simpa [vI] using HOWN.out, hs6, HB.out⟩
          case measure => simp [intOf]; omega
        · by_cases heq : Dp + 1 = M
          · have dgt : decide ((M : Int) < (Dp : Int) + 1) = false := decide_eq_false (by omega)
            have hsu : Hid (deepF t (k + 1) = (L ++ [(fn : Int)], M)) := by rw [HSU.out, if_neg hgt, if_pos heq]; exact Lib.hid rfl
            have deq : (((Dp : Int) + 1) == (M : Int)) = true := by simp; omega
            have HEQ := Lib.hid heq
            clear heq
            go_wp2_with (first | (at_builtin; refine wpList_append_own _ rfl _ _ 31 rfl (w1.heap.size + 1) 3 i0 (.int .i64 0) 1 8 Try.underlying31 hi hz0 hz1 hz2 rfl (by decide) _ _ _ rfl ((HOO.out.alloc _).alloc _) ⟨wr.heap.size + 1, 0, none⟩ 1 1 [.int .i64 fn] rfl rfl (cell_one_new' _ _ _ (by simp)) (by simp [Value.oneCell']) (by unfold maxLen; omega) (by omega) (by simp; omega) ?_; intro v' w6 hown' hgrow _))
            have hs6 : w1.heap.size < w6.heap.size := by have := hgrow.size; simp at this; omega
            have HB := Lib.hid (below_app (below_al HBS.out _) (Nat.le_refl _) (ownsRow_base_a' (HOO.out.alloc _) (by omega)) hgrow)
            have HR6 := Lib.hid (((HS1.out.alloc _).alloc _).kept hgrow (.inr (fun h => by have := (HOO.out.lt w1.heap.size h.symm).1; omega)))
            have HOWN := Lib.hid hown'
            clear hown' hgrow
            go_wp2_with fail
            go_roundw
            case rel => exact ⟨k + 1, dv.set fn ((Dp : Int) + 1), by omega, by go_num, by have := hsu.out; simp [this], HR6.out, HI2, by rw [hsu.out]; simpa [vI] using HOWN.out, hs6, HB.out⟩
            case measure => simp [intOf]; omega
          · have dgt : decide ((M : Int) < (Dp : Int) + 1) = false := decide_eq_false (by omega)
            have hsu : Hid (deepF t (k + 1) = (L, M)) := by rw [HSU.out, if_neg hgt, if_neg heq]; exact Lib.hid rfl
            have deq : (((Dp : Int) + 1) == (M : Int)) = false := by simp; omega
            go_wp2_with fail
            go_roundw
            case rel => exact ⟨k + 1, dv.set fn ((Dp : Int) + 1), by omega, by go_num, by rw [hsu.out], HS1.out.alloc _, HI2, by rw [hsu.out]; exact HOO.out.alloc _, by have := HHS.out; simp; omega, below_al HBS.out _⟩
            case measure => simp [intOf]; omega
      · have hkt : k = t.length := by omega
        rw [hkt] at hO
        have HO := Lib.hid hO
        have HK := Lib.hid hkt
        clear hO hkt hR HI
        go_wp2_with fail
        go_ret3
        exact ⟨_, by first | rfl | (rw [HK.out]; rfl), ⟨ownsRow_base_a' HO.out (by omega), fun g hg => (HO.out.lt g hg).2⟩, hb⟩
end Go.Proofs.Ytapbajficopnlaa
