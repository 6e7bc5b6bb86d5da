/- UnderOf, the model's and the program's. -/
import Derived.Test.YtpbjddiopfkgbaaPathS
import Derived.Test.YtpbjddiopfkgbaaContains
namespace Go.Proofs.Ytpbjddiopfkgbaa
set_option linter.unusedVariables false
open Go.RowKit Go.Sort

/-- What UnderOf answers. -/
def undRes (t : List Fn) (x : Int) : List Int × Bool := if isTree t = true ∧ hasF t x = true then (underF t x t.length, true) else ([], false)
theorem undRes_len {t : List Fn} {x : Int} {xs : List Int} {b : Bool} (h : undRes t x = (xs, b)) : xs.length ≤ t.length := by
  unfold undRes at h
  split at h
  · obtain ⟨rfl, _⟩ := Prod.mk.inj h; exact underF_len _ _ _
  · obtain ⟨rfl, _⟩ := Prod.mk.inj h; exact Nat.zero_le _
theorem cell_one_new' (w : World) (v : Value) (t : TypeId) {k : Nat} (hk : k = w.heap.size) : ∀ j u, [v][j]? = some u → (w.alloc (.cells #[v] t (0, 0))).cell? ((⟨k, 0, none⟩ : Addr).add j) = some u := by subst hk; exact cell_one_new w v t

set_option maxRecDepth 20000 in
set_option maxHeartbeats 2000000 in
theorem specUnderOf_any (v : Value) (t : List Fn) (x : Int) (w : World) (h : RowR 3 rFn w v t) (xs : List Int) (b : Bool) (hres : undRes t x = (xs, b)) :
    Calls Try.prog 14 #[v, .int .i64 x] w fun e w' => ∃ v', e = .returned (.tuple #[v', .bool b]) ∧ IntsO w.heap.size w'.heap.size w' v' xs ∧ Below w.heap.size w w' := by
  obtain ⟨i0, hi, hz0, hz1, hz2⟩ := info_parts Try.info_int
  have H := Lib.hid h
  obtain ⟨a1, c1, rfl, hl1, hm1, r1⟩ := h.fns
  have R1 := Lib.hid r1
  clear h r1
  unfold maxLen at hm1
  obtain ⟨bt, ht⟩ : ∃ b, isTree t = b := ⟨_, rfl⟩
  obtain ⟨bh, hh⟩ : ∃ b, hasF t x = b := ⟨_, rfl⟩
  obtain ⟨c, hc⟩ : ∃ c, findI t x = c := ⟨_, rfl⟩
  unfold undRes at hres
  rw [ht, hh] at hres
  have HT := Lib.hid ht
  have HH := Lib.hid hh
  have HC := Lib.hid hc
  have hneg : c < 0 ↔ bh = false := by rw [← hc, ← hh]; exact findI_neg
  cases bt
  · rw [if_neg (by simp)] at hres
    obtain ⟨rfl, rfl⟩ := Prod.mk.inj hres
    clear hres ht hh hc
    go_enter Try.func14, Try.ntmps14
    go_wp2_with (first | (go_at_call 48; refine (l3Good_any _ t _ (H.out.below rFn_stable (below_al (Below.refl _ _) _))).mono ?_; rw [HT.out]; rintro e w1 ⟨rfl, b1⟩))
    go_ret2
    exact ⟨_, rfl, ⟨ownsRow_below (World.ownsRow_made w #[] 0 (Nat.le_refl _) (Nat.zero_le _) rfl) b1, fun g hg => by have := b1.size; simp at this; simp [Value.ownBlock] at hg; omega⟩, below_chain (below_al (Below.refl _ _) _) b1⟩
  · cases bh
    · rw [if_neg (by simp)] at hres
      obtain ⟨rfl, rfl⟩ := Prod.mk.inj hres
      have hcn : c < 0 := hneg.2 rfl
      clear hres ht hh hc hneg
      go_enter Try.func14, Try.ntmps14
      go_wp2_with (first | (go_at_call 48; refine (l3Good_any _ t _ (H.out.below rFn_stable (below_al (Below.refl _ _) _))).mono ?_; rw [HT.out]; rintro e w1 ⟨rfl, b1⟩) | (go_at_call 49; refine (l3Find_any _ t x _ (H.out.below rFn_stable (below_chain (below_al (Below.refl _ _) _) b1))).mono ?_; rw [HC.out]; rintro e w2 ⟨rfl, b2⟩))
      go_ret2
      have hs1 := b1.size
      have hs2 := b2.size
      exact ⟨_, rfl, ⟨ownsRow_below (ownsRow_below (World.ownsRow_made w #[] 0 (Nat.le_refl _) (Nat.zero_le _) rfl) b1) b2, fun g hg => by simp at hs1; simp [Value.ownBlock] at hg; omega⟩, below_chain (below_chain (below_al (Below.refl _ _) _) b1) b2⟩
    · rw [if_pos ⟨rfl, rfl⟩] at hres
      obtain ⟨rfl, rfl⟩ := Prod.mk.inj hres
      have hcn : 0 ≤ c := by
        rcases Int.lt_or_le c 0 with h | h
        · have := hneg.1 h; cases this
        · exact h
      have h15 := tree_len ht
      clear hres ht hh hc hneg
      go_enter Try.func14, Try.ntmps14
      go_wp2_with (first | (go_at_call 48; refine (l3Good_any _ t _ (H.out.below rFn_stable (below_al (Below.refl _ _) _))).mono ?_; rw [HT.out]; rintro e w1 ⟨rfl, b1⟩) | (go_at_call 49; refine (l3Find_any _ t x _ (H.out.below rFn_stable (below_chain (below_al (Below.refl _ _) _) b1))).mono ?_; rw [HC.out]; rintro e w2 ⟨rfl, b2⟩))
      go_loopw [6, 7] (fun o i wr => ∃ k : Nat, k ≤ t.length ∧ i = .int .i64 k ∧ wr.ownsRow w.heap.size 3 1 o (underF t x k).length ((underF t x k).map vI) ∧ Below w.heap.size w wr) (fun _ i _ => t.length - (intOf i).toNat)
      case atStart => exact ⟨0, Nat.zero_le _, rfl, by simpa [underF_zero] using ownsRow_below (ownsRow_below (World.ownsRow_made w #[] 0 (Nat.le_refl _) (Nat.zero_le _) rfl) b1) b2, below_chain (below_chain (below_al (Below.refl _ _) _) b1) b2⟩
      case round =>
        clear b1 b2
        obtain ⟨k, hk, rfl, hO, hb⟩ := hrel
        by_cases hlt : k < t.length
        · obtain ⟨b1, o1, hb1, rfl, e1⟩ := R1.out.resolve_left (fun e => by rw [e] at hlt; simp at hlt)
          obtain ⟨f, hx⟩ : ∃ s, t.getD k fnD = s := ⟨_, rfl⟩
          obtain ⟨q0, q1, q2, hok⟩ := e1 k hlt
          have hhas := tree_has hlt
          have hsucc := underF_succ t x hlt
          have hstep := under_step HT.out x hlt
          have hlen := underF_len t x k
          rw [hx] at q0 q1 q2 hhas hsucc hstep
          obtain ⟨fi, fp, fs⟩ := f
          simp only at q0 q1 q2 hhas hsucc hstep
          have f0 := cell_kept q0 hb
          have f1 := cell_kept q1 hb
          have f2 := cell_kept q2 hb
          obtain ⟨P, hP⟩ : ∃ P, underF t x k = P := ⟨_, rfl⟩
          rw [hP] at hO hlen hsucc hstep
          have HSU := Lib.hid hsucc
          have HST := Lib.hid hstep
          have HHAS := Lib.hid hhas
          have HPP := Lib.hid hP
          have g0 : (0 : Int) ≤ (k : Int) := by omega
          have g1 : (k : Int) < (t.length : Int) := by omega
          have hsz := hb.size
          clear q0 q1 q2 hok e1 hx hsucc hstep hhas hP
          go_wp2_with fail
          refine (l3Path_any _ t fi _ (H.out.below rFn_stable hb) HT.out (.inr HHAS.out)).mono ?_
          rintro e w3 ⟨vp, rfl, hp, b3⟩
          have hO3 := ownsRow_below hO b3
          have hb3 := hb.trans (b3.mono hsz)
          have f3 := cell_kept f0 b3
          have HPI := Lib.hid hp
          clear hO f0 f1 f2 hp
          obtain ⟨bm, hbm⟩ : ∃ b, decide (x ∈ pathF t fi) = b := ⟨_, rfl⟩
          go_wp2_with fail
          refine (l1Has_any _ (pathF t fi) x _ HPI.out.row).mono ?_
          rw [hbm]
          rintro e w4 ⟨rfl, b4⟩
          have HBM := Lib.hid hbm
          have hO4 := ownsRow_below hO3 b4
          have hb4 := hb3.trans (b4.mono hb3.size)
          have f4 := cell_kept f3 b4
          have f4a := fun o : Obj => below_al_cell f4 o
          have hsz4 := hb4.size
          clear hO3 f3 hbm b3 b4 hb hb3
          cases bm
          · have HO := Lib.hid hO4
            clear hO4
            go_wp2_with fail
            go_roundw
            case rel => exact ⟨k + 1, by omega, by go_num, (by rw [HSU.out, if_neg (of_decide_eq_false HBM.out)]; exact HO.out), hb4⟩
            case measure => simp [intOf]; omega
          · go_wp2_with (first | (at_builtin; refine wpList_append_own _ rfl _ _ 31 rfl w.heap.size 3 i0 (.int .i64 0) 1 8 Try.underlying31 hi hz0 hz1 hz2 rfl (by decide) _ _ _ rfl (hO4.alloc _) ⟨w4.heap.size, 0, none⟩ 1 1 [.int .i64 fi] rfl rfl (cell_one_new' _ _ _ (by simp)) (by simp [Value.oneCell']) (by unfold maxLen; omega) (by omega) (by simp; omega) ?_; intro v' w1 hown' hgrow _))
            have HOWN := Lib.hid hown'
            have HB := Lib.hid (below_app hb4 (Nat.le_refl _) hO4 hgrow)
            clear hown' hgrow hO4
            go_wp2_with fail
            go_roundw
            case rel => exact ⟨k + 1, by omega, by go_num, (by rw [HSU.out, if_pos (of_decide_eq_true HBM.out)]; simpa [vI] using HOWN.out), HB.out⟩
            case measure => simp [intOf]; omega
        · obtain rfl : k = t.length := by omega
          have HO := Lib.hid hO
          clear hO
          go_wp2_with fail
          go_ret2
          exact ⟨_, rfl, ⟨HO.out, fun g hg => (HO.out.lt g hg).2⟩, hb⟩

set_option maxRecDepth 20000 in
set_option maxHeartbeats 2000000 in
theorem implUnderOf_any (v : Value) (t : List Fn) (x : Int) (w : World) (h : RowR 3 rFn w v t) (xs : List Int) (b : Bool) (hres : undRes t x = (xs, b)) :
    Calls Try.prog 13 #[v, .int .i64 x] w fun e w' => ∃ v', e = .returned (.tuple #[v', .bool b]) ∧ IntsO w.heap.size w'.heap.size w' v' xs ∧ Below w.heap.size w w' := by
  obtain ⟨i0, hi, hz0, hz1, hz2⟩ := info_parts Try.info_int
  have H := Lib.hid h
  obtain ⟨a1, c1, rfl, hl1, hm1, r1⟩ := h.fns
  have R1 := Lib.hid r1
  clear h r1
  unfold maxLen at hm1
  obtain ⟨bt, ht⟩ : ∃ b, isTree t = b := ⟨_, rfl⟩
  have HT := Lib.hid ht
  cases bt
  · unfold undRes at hres
    rw [ht, if_neg (by simp)] at hres
    obtain ⟨rfl, rfl⟩ := Prod.mk.inj hres
    clear hres ht
    go_enter Try.func13, Try.ntmps13
    go_wp2_with (first | (go_at_call 23; refine (implIsTree_any _ t _ H.out).mono ?_; rw [HT.out]; rintro e w1 ⟨rfl, b1⟩))
    go_ret2
    exact ⟨_, rfl, ⟨World.ownsRow_nil _ _ _ _, Under.nil _ _ _⟩, b1⟩
  · have hres2 : undRes t x = (underF t x t.length, decide (0 < (underF t x t.length).length)) := by
      unfold undRes
      rw [ht]
      rcases hb : hasF t x with _ | _
      · rw [if_neg (by simp), under_none ht hb]; rfl
      · rw [if_pos ⟨rfl, rfl⟩, decide_eq_true ((under_any ht x).2 hb)]
    rw [hres2] at hres
    obtain ⟨rfl, rfl⟩ := Prod.mk.inj hres
    have h15 := tree_len ht
    clear hres hres2 ht
    · go_enter Try.func13, Try.ntmps13
      go_wp2_with (first | (go_at_call 23; refine (implIsTree_any _ t _ H.out).mono ?_; rw [HT.out]; rintro e w1 ⟨rfl, b1⟩))
      go_loopw [6, 14] (fun o i wr => ∃ k : Nat, k ≤ t.length ∧ i = .int .i64 k ∧ wr.ownsRow w.heap.size 3 1 o (underF t x k).length ((underF t x k).map vI) ∧ Below w.heap.size w wr) (fun _ i _ => t.length - (intOf i).toNat)
      case atStart => exact ⟨0, Nat.zero_le _, rfl, by simpa [underF_zero] using World.ownsRow_nil _ _ _ _, b1⟩
      case round =>
        clear b1
        obtain ⟨k, hk, rfl, hO, hb⟩ := hrel
        by_cases hlt : k < t.length
        · obtain ⟨b1, o1, hb1, rfl, e1⟩ := R1.out.resolve_left (fun e => by rw [e] at hlt; simp at hlt)
          obtain ⟨f, hx⟩ : ∃ s, t.getD k fnD = s := ⟨_, rfl⟩
          obtain ⟨q0, q1, q2, hok⟩ := e1 k hlt
          have hhas := tree_has hlt
          have hsucc := underF_succ t x hlt
          have hstep := under_step HT.out x hlt
          have hlen := underF_len t x k
          rw [hx] at q0 q1 q2 hhas hsucc hstep
          obtain ⟨fi, fp, fs⟩ := f
          simp only at q0 q1 q2 hhas hsucc hstep
          have f0 := cell_kept q0 hb
          have f1 := cell_kept q1 hb
          have f2 := cell_kept q2 hb
          obtain ⟨P, hP⟩ : ∃ P, underF t x k = P := ⟨_, rfl⟩
          rw [hP] at hO hlen hsucc hstep
          have HSU := Lib.hid hsucc
          have HST := Lib.hid hstep
          have HHAS := Lib.hid hhas
          have HPP := Lib.hid hP
          have g0 : (0 : Int) ≤ (k : Int) := by omega
          have g1 : (k : Int) < (t.length : Int) := by omega
          have hsz := hb.size
          clear q0 q1 q2 hok e1 hx hsucc hstep hhas hP
          by_cases he : fi = x
          · have hq : (fi == x) = true := by simp [he]
            have HE : Hid (x ∈ pathF t fi) := HST.out.2 (.inl he)
            clear he
            go_wp2_with (first | (at_builtin; refine wpList_append_own _ rfl _ _ 31 rfl w.heap.size 3 i0 (.int .i64 0) 1 8 Try.underlying31 hi hz0 hz1 hz2 rfl (by decide) _ _ _ rfl ((hO.alloc _).alloc _) ⟨wr.heap.size + 1, 0, none⟩ 1 1 [.int .i64 fi] rfl rfl (cell_one_new' _ _ _ (by simp)) (by simp [Value.oneCell']) (by unfold maxLen; omega) (by omega) (by simp; omega) ?_; intro v' w1 hown' hgrow _))
            have HOWN := Lib.hid hown'
            have HB := Lib.hid (below_app (below_al hb _) (Nat.le_refl _) (hO.alloc _) hgrow)
            clear hown' hgrow hO
            go_wp2_with fail
            go_roundw
            case rel => exact ⟨k + 1, by omega, by go_num, (by rw [HSU.out, if_pos HE.out]; simpa [vI] using HOWN.out), HB.out⟩
            case measure => simp [intOf]; omega
          · have hq : (fi == x) = false := by simp [he]
            obtain ⟨bm, hbm⟩ : ∃ b, decide (fp ∈ P) = b := ⟨_, rfl⟩
            have HO := Lib.hid hO
            go_wp2_with fail
            refine (contains_any _ P fp _ (RowOf.of_owns (HO.out.alloc _))).mono ?_
            rw [hbm]
            rintro e w3 ⟨rfl, b3⟩
            have HBM := Lib.hid hbm
            have c0 := cell_kept (cell_new wr _ _ 0 rfl) b3
            have c0a := fun o : Obj => below_al_cell c0 o
            have hb3 := (below_al hb _).trans (b3.mono (below_al hb _).size)
            have hO3 := ownsRow_below (HO.out.alloc (.cells #[.int .i64 fi, .int .i64 fp, .string fs] 36 (0, 0))) b3
            have hsz3 := hb3.size
            clear hO hbm HO b3
            cases bm
            · have HE : Hid (¬ x ∈ pathF t fi) := fun h => by
                rcases HST.out.1 h with h | h
                · exact he h
                · exact of_decide_eq_false HBM.out h
              have HO3 := Lib.hid hO3
              clear he hO3
              go_wp2_with fail
              go_roundw
              case rel => exact ⟨k + 1, by omega, by go_num, (by rw [HSU.out, if_neg HE.out]; exact HO3.out), hb3⟩
              case measure => simp [intOf]; omega
            · have HE : Hid (x ∈ pathF t fi) := HST.out.2 (.inr (of_decide_eq_true HBM.out))
              clear he
              go_wp2_with (first | (at_builtin; refine wpList_append_own _ rfl _ _ 31 rfl w.heap.size 3 i0 (.int .i64 0) 1 8 Try.underlying31 hi hz0 hz1 hz2 rfl (by decide) _ _ _ rfl (hO3.alloc _) ⟨w3.heap.size, 0, none⟩ 1 1 [.int .i64 fi] rfl rfl (cell_one_new' _ _ _ (by simp)) (by simp [Value.oneCell']) (by unfold maxLen; omega) (by omega) (by simp; omega) ?_; intro v' w1 hown' hgrow _))
              have HOWN := Lib.hid hown'
              have HB := Lib.hid (below_app hb3 (Nat.le_refl _) hO3 hgrow)
              clear hown' hgrow hO3
              go_wp2_with fail
              go_roundw
              case rel => exact ⟨k + 1, by omega, by go_num, (by rw [HSU.out, if_pos HE.out]; simpa [vI] using HOWN.out), HB.out⟩
              case measure => simp [intOf]; omega
        · obtain rfl : k = t.length := by omega
          obtain ⟨a, cap, ho, _⟩ := RowOf.of_owns hO
          have HO := Lib.hid hO
          clear hO
          subst ho
          go_wp2_with fail
          go_ret2
          exact ⟨_, by simp, ⟨HO.out, fun g hg => (HO.out.lt g hg).2⟩, hb⟩
end Go.Proofs.Ytpbjddiopfkgbaa
