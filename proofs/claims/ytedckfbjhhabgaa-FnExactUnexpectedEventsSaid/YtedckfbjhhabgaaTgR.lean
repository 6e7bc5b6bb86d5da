/- The first cycle, the model's: l10Chain, l10Cycle, HasCycle, FirstCycle. -/
import Derived.Test.YtedckfbjhhabgaaTgS
import Derived.Test.YtedckfbjhhabgaaTgN
import Derived.Test.YtedckfbjhhabgaaHas
import Derived.Test.YtedckfbjhhabgaaOwnI
import Derived.Maps.AppendAt
namespace Go.Proofs.Ytedckfbjhhabgaa
set_option linter.unusedVariables false
open Go.RowKit Go.Sort

/-- What one kind gives in the search. -/
def chG (f : Nat) (t : List Tg) (hd : Int) (c : List Int) (last k : Int) : Option (List Int) := if folB t last k = true then (if k = hd then some c else if k ∈ c then none else chainF f t hd (c ++ [k]) k) else none
theorem findT_none {α : Type} {g : Int → Option α} (n : Nat) (h : ∀ j : Nat, j < n → g (j : Int) = none) : ((List.range n).map Int.ofNat).findSome? g = none := by
  rw [List.findSome?_eq_none_iff]
  intro x hx
  obtain ⟨j, hj, rfl⟩ := List.mem_map.1 hx
  exact h j (List.mem_range.1 hj)
theorem findT_at {α : Type} {g : Int → Option α} {x : α} : ∀ (n k : Nat), k < n → (∀ j : Nat, j < k → g (j : Int) = none) → g (k : Int) = some x → ((List.range n).map Int.ofNat).findSome? g = some x
  | 0, k, hk, _, _ => by omega
  | n + 1, k, hk, h0, h1 => by
    rw [List.range_succ, List.map_append, List.findSome?_append]
    by_cases e : k = n
    · subst e
      rw [findT_none k h0]
      simp
      exact h1
    · rw [findT_at n k (by omega) h0 h1]
      rfl
theorem chainF_eq (f : Nat) (t : List Tg) (hd : Int) (c : List Int) (last : Int) : chainF (f + 1) t hd c last = ((List.range 10).map Int.ofNat).findSome? (fun k => if hd ≤ k then chG f t hd c last k else none) := rfl
theorem chainF_none {f : Nat} {t : List Tg} {hd : Int} {c : List Int} {last : Int} (h : ∀ k, hd ≤ k → k ≤ 9 → chG f t hd c last k = none) : chainF (f + 1) t hd c last = none := by
  rw [chainF_eq]
  refine findT_none 10 fun j hj => ?_
  split
  · rename_i q; exact h _ q (by omega)
  · rfl
theorem chainF_at {f : Nat} {t : List Tg} {hd : Int} {c : List Int} {last kd : Int} {x : List Int} (h0 : 0 ≤ hd) (h1 : hd ≤ kd) (h9 : kd ≤ 9) (h : ∀ k, hd ≤ k → k < kd → chG f t hd c last k = none) (hx : chG f t hd c last kd = some x) : chainF (f + 1) t hd c last = some x := by
  rw [chainF_eq]
  obtain ⟨n, rfl⟩ : ∃ n : Nat, kd = (n : Int) := ⟨kd.toNat, by omega⟩
  refine findT_at 10 n (by omega) (fun j hj => ?_) (by rw [if_pos h1]; exact hx)
  split
  · rename_i q; exact h _ q (by omega)
  · rfl
theorem nodup_ten {l : List Int} (h : l.Nodup) (hr : ∀ x ∈ l, 0 ≤ x ∧ x ≤ 9) : l.length ≤ 10 := by
  refine nodup_len _ [0, 1, 2, 3, 4, 5, 6, 7, 8, 9] h (fun x hx => ?_)
  have := hr x hx
  simp
  omega
theorem getD0_app {c : List Int} (h : 0 < c.length) (k : Int) : (c ++ [k]).getD 0 0 = c.getD 0 0 := by
  rcases c with _ | ⟨a, c⟩
  · simp at h
  · rfl
/-- One kind follows another among the first so many triggers. -/
def folT (t : List Tg) (n : Nat) (a b : Int) : Bool := folB (t.take n) a b
theorem folT_zero (t : List Tg) (a b : Int) : folT t 0 a b = false := rfl
theorem folT_all (t : List Tg) (a b : Int) : folT t t.length a b = folB t a b := by unfold folT; rw [List.take_length]
theorem folT_succ {t : List Tg} {n : Nat} (h : n < t.length) (a b : Int) : folT t (n + 1) a b = (folT t n a b || decide ((t.getD n tgD).ev = a ∧ (t.getD n tgD).aft = b)) := by
  unfold folT folB
  rw [List.take_succ_eq_append_getElem h, List.any_append, ← getTg_lt h]
  simp
/-- What the model's search answers. -/
def ChainD (t : List Tg) (lo : Nat) (w : World) (q : Option (List Int)) (e : Ending) (w' : World) : Prop := ∃ v', e = .returned (.tuple #[v', .bool q.isSome]) ∧ IntsO lo w'.heap.size w' v' (q.getD []) ∧ Below w.heap.size w w'
set_option maxRecDepth 20000 in
set_option maxHeartbeats 16000000 in
theorem l10Chain_any (t : List Tg) : ∀ (f : Nat) (c : List Int) (last hd : Int) (lo : Nat) (v vc : Value) (w : World), RowR 3 rTg w v t → c.length + f = 11 → c.Nodup → (∀ x ∈ c, 0 ≤ x ∧ x ≤ 9) → c.getD 0 0 = hd → c.getD (c.length - 1) 0 = last → 0 < c.length → lo ≤ w.heap.size → IntsO lo w.heap.size w vc c →
    Calls Try.prog 89 #[v, vc] w (ChainD t lo w (chainF f t hd c last)) := by
  intro f
  induction f with
  | zero =>
    intro c last hd lo v vc w _ hf hn hr _ _ _ _ _
    have := nodup_ten hn hr
    omega
  | succ f ih =>
    intro c last hd lo v vc w h hf hn hr hhd hlast h0 hlo hc
    obtain ⟨i0, hi, hz0, hz1, hz2⟩ := info_parts Try.info_intN
    have IH := Lib.hid ih
    clear ih
    have H := Lib.hid h
    have HN := Lib.hid hn
    have HR := Lib.hid hr
    have HHD := Lib.hid hhd
    have HLA := Lib.hid hlast
    have hl10 := nodup_ten hn hr
    have hd0 : 0 ≤ hd ∧ hd ≤ 9 := by
      rw [← hhd, getI_lt h0]
      exact hr _ (List.getElem_mem h0)
    have HCO := Lib.hid hc
    obtain ⟨a1, c1, hv, hl1, hm1, r1⟩ := h.tgs
    subst hv
    have R1 := Lib.hid r1
    unfold maxLen at hm1
    have hcr := hc.row
    obtain ⟨ca, cc, hcv, hcl, hcm, hcc⟩ := hcr
    subst hcv
    obtain ⟨b0, o0, hb0, rfl, e0⟩ := hcc.resolve_left (fun e => by rw [e] at h0; simp at h0)
    obtain ⟨m, hm⟩ : ∃ m, c.length = m + 1 := ⟨c.length - 1, by omega⟩
    obtain ⟨N, hN⟩ : ∃ N, c.length = N := ⟨_, rfl⟩
    have fH := e0 0 h0
    rw [← getI_lt h0, hhd] at fH
    have fL := e0 m (by omega)
    rw [← getI_lt (by omega : m < c.length), show m = c.length - 1 by omega, hlast] at fL
    simp only [vI, Nat.add_zero] at fH fL
    rw [hN] at hcl hm fL hf hl10 HCO
    rw [hN]
    rw [show N - 1 = m by omega] at fL
    unfold maxLen at hcm
    have HH := Lib.hid (show ∀ W, Below w.heap.size w W → W.cell? ⟨b0, o0, none⟩ = some (.int .i64 hd) from fun W hW => cell_kept fH hW)
    have gm0 : (N : Int) - 1 = (m : Int) := by omega
    have gm1 : (0 : Int) ≤ (m : Int) := by omega
    have gm2 : (m : Int) < (N : Int) := by omega
    have gN : (0 : Int) < (N : Int) := by omega
    have HNL := Lib.hid hN
    clear h hn hr hhd hlast r1 hcc e0 hc hN hm
    go_enter Try.func89, Try.ntmps89
    go_wp2_with fail
    go_loopw [7] (fun i wr => ∃ kd : Int, i = .int .i64 kd ∧ hd ≤ kd ∧ kd ≤ 10 ∧ Hid (∀ k, hd ≤ k → k < kd → chG f t hd c last k = none) ∧ Below w.heap.size w wr) (fun i _ => (10 - intOf i).toNat)
    case atStart => exact ⟨hd, rfl, Int.le_refl _, by omega, Lib.hid (fun k h1 h2 => by omega), Below.refl _ _⟩
    case round =>
      obtain ⟨kd, rfl, hk1, hk2, HK, hb⟩ := hrel
      obtain ⟨wo, hwo⟩ : ∃ x, x = wr := ⟨_, rfl⟩
      subst hwo
      have hsz := hb.size
      by_cases hlt : kd ≤ 9
      · go_wp2_with fail
        go_loopw [8, 9] (fun p i wr => ∃ j : Nat, j ≤ t.length ∧ i = .int .i64 j ∧ p = .bool (folT t j last kd) ∧ Below w.heap.size w wr) (fun _ i _ => t.length - (intOf i).toNat)
        case atStart => exact ⟨0, Nat.zero_le _, rfl, rfl, hb⟩
        case round =>
          clear hb hsz
          obtain ⟨j, hj, rfl, rfl, hb⟩ := hrel
          have hsz := hb.size
          by_cases hjt : j < t.length
          · obtain ⟨b1, o1, hb1, rfl, e1⟩ := R1.out.resolve_left (fun e => by rw [e] at hjt; simp at hjt)
            obtain ⟨⟨x0, x1, x2⟩, hx⟩ : ∃ s, t.getD j tgD = s := ⟨_, rfl⟩
            obtain ⟨q0, q1, q2, hok⟩ := e1 j hjt
            have hsu := folT_succ hjt last kd
            rw [hx] at q0 q1 q2 hsu
            simp only at q0 q1 q2 hsu
            have f0 := cell_kept q0 hb
            have f1 := cell_kept q1 hb
            obtain ⟨bf, hbf⟩ : ∃ b, folT t j last kd = b := ⟨_, rfl⟩
            rw [hbf] at hsu
            try rw [hbf]
            have HSU := Lib.hid hsu
            have g0 : (0 : Int) ≤ (j : Int) := by omega
            have g1 : (j : Int) < (t.length : Int) := by omega
            clear q0 q1 q2 hok e1 hx hsu hbf
            cases bf
            · by_cases he0 : x0 = last
              · have r0 : (x0 == last) = true := by simp [he0]
                by_cases he1 : x1 = kd
                · have r1 : (x1 == kd) = true := by simp [he1]
                  have HS2 : Hid (folT t (j + 1) last kd = true) := Lib.hid (by rw [HSU.out, decide_eq_true ⟨he0, he1⟩]; rfl)
                  clear he0 he1
                  go_wp2_with fail
                  go_roundw
                  case rel => exact ⟨j + 1, by omega, by go_num, by rw [HS2.out], hb⟩
                  case measure => simp [intOf]; omega
                · have r1 : (x1 == kd) = false := by simp [he1]
                  have HS2 : Hid (folT t (j + 1) last kd = false) := Lib.hid (by rw [HSU.out, decide_eq_false (fun q => he1 q.2)]; rfl)
                  clear he0 he1
                  go_wp2_with fail
                  go_roundw
                  case rel => exact ⟨j + 1, by omega, by go_num, by rw [HS2.out], hb⟩
                  case measure => simp [intOf]; omega
              · have r0 : (x0 == last) = false := by simp [he0]
                have HS2 : Hid (folT t (j + 1) last kd = false) := Lib.hid (by rw [HSU.out, decide_eq_false (fun q => he0 q.1)]; rfl)
                clear he0
                go_wp2_with fail
                go_roundw
                case rel => exact ⟨j + 1, by omega, by go_num, by rw [HS2.out], hb⟩
                case measure => simp [intOf]; omega
            · have HS2 : Hid (folT t (j + 1) last kd = true) := Lib.hid (by rw [HSU.out]; rfl)
              go_wp2_with fail
              go_roundw
              case rel => exact ⟨j + 1, by omega, by go_num, by rw [HS2.out], hb⟩
              case measure => simp [intOf]; omega
          · obtain rfl : j = t.length := by omega
            rw [folT_all]
            obtain ⟨bf, hbf⟩ : ∃ b, folB t last kd = b := ⟨_, rfl⟩
            rw [hbf]
            have HBF := Lib.hid hbf
            have fh := HH.out _ hb
            clear hbf
            cases bf
            · have HG : Hid (chG f t hd c last kd = none) := Lib.hid (by unfold chG; rw [HBF.out]; rfl)
              go_wp2_with fail
              go_roundw
              case rel => exact ⟨kd + 1, by go_num, by omega, by omega, Lib.hid (fun k h1 h2 => by by_cases e : k = kd; (· rw [e]; exact HG.out); (· exact HK.out k h1 (by omega))), hb⟩
              case measure => simp [intOf]; omega
            · by_cases he : kd = hd
              · have r0 : (kd == hd) = true := by simp [he]
                have HG : Hid (chainF (f + 1) t hd c last = some c) := Lib.hid (chainF_at hd0.1 hk1 hlt HK.out (by unfold chG; rw [HBF.out, if_pos rfl, if_pos he]))
                clear he
                have HC2 := Lib.hid ((HCO.out.below hb).wide (Nat.le_refl _) hb.size)
                go_wp2_with fail
                go_ret2
                unfold ChainD
                rw [HG.out]
                exact ⟨_, rfl, HC2.out, hb⟩
              · have r0 : (kd == hd) = false := by simp [he]
                have HE := Lib.hid he
                clear he
                have HROW := Lib.hid (HCO.out.row.below hb)
                obtain ⟨bm, hbm⟩ : ∃ b, decide (kd ∈ c) = b := ⟨_, rfl⟩
                have HBM := Lib.hid hbm
                clear hbm
                cases bm
                · rcases hq : chainF f t hd (c ++ [kd]) kd with _ | p
                  · have HG : Hid (chG f t hd c last kd = none) := Lib.hid (by unfold chG; rw [HBF.out, if_pos rfl, if_neg HE.out, if_neg (of_decide_eq_false HBM.out), hq])
                    go_wp2_with fail
                    refine (l1Has_any _ c kd _ HROW.out).mono ?_
                    rw [HBM.out]
                    rintro e w7 ⟨rfl, b7⟩
                    have hb7 := hb.trans (b7.mono hsz)
                    have hs7 := hb7.size
                    have HR7 := Lib.hid (HCO.out.row.below hb7)
                    clear HROW
                    go_wp2_with fail
                    refine (l1Own_any _ c _ HR7.out (by have := HNL.out; omega)).mono ?_
                    rintro e w8 ⟨na, nc, rfl, hi8, b8⟩
                    rw [HNL.out]
                    have HI8 : Hid (IntsO w7.heap.size w8.heap.size w8 (.slice na N nc) c) := Lib.hid (by have := hi8; rwa [HNL.out] at this)
                    have HW8 := Lib.hid (by have := HI8.out.1; rwa [HNL.out] at this : w8.ownsRow w7.heap.size 3 1 (.slice na N nc) N (c.map vI))
                    have hb8 := hb7.trans (b8.mono hs7)
                    have hs8 := hb8.size
                    clear hi8
                    go_wp2_with (first | (at_builtin; refine wpList_append_own _ rfl _ _ 30 rfl w7.heap.size 3 i0 (.int .i64 0) 1 8 Try.underlying30 hi hz0 hz1 hz2 rfl (by decide) _ N (c.map vI) rfl (HW8.out.alloc _) ⟨w8.heap.size, 0, none⟩ 1 1 [.int .i64 kd] rfl rfl (cell_oneN _ _ _ (by simp)) (by simp [Value.oneCell']) (by unfold maxLen; omega) (by omega) (by have := b8.size; simp; omega) ?_; intro v' w4 hown' hgrow _))
                    have b4 : Below w7.heap.size w7 w4 := below_app b8 (Nat.le_refl _) HW8.out hgrow
                    have HI4 := Lib.hid (ints_rowN (n := N + 1) (xs := c ++ [kd]) (by simpa [vI] using hown') (by simp [HNL.out]) : IntsO w7.heap.size w4.heap.size w4 v' (c ++ [kd]))
                    have hb4 := hb7.trans (b4.mono hs7)
                    obtain ⟨da, dn, dc, rfl⟩ := HI4.out.slice
                    clear hown' hgrow
                    go_wp2_with fail
                    refine (IH.out (c ++ [kd]) kd hd w7.heap.size _ _ _ (H.out.below rTg_stable hb4) (by rw [List.length_append, HNL.out, List.length_singleton]; omega) (by rw [List.nodup_append]; refine ⟨HN.out, by simp, ?_⟩; intro a ha b hb2 e; rw [List.mem_singleton.1 hb2] at e; exact of_decide_eq_false HBM.out (e ▸ ha)) (fun x hx => by rcases List.mem_append.1 hx with q | q; (· exact HR.out x q); (· rw [List.mem_singleton.1 q]; omega)) ((getD0_app h0 _).trans HHD.out) (by simp [List.getD]) (by simp) (by have := b4.size; omega) HI4.out).mono ?_
                    rw [hq]
                    rintro e w9 ⟨v9, rfl, ho9, b9⟩
                    obtain ⟨ea, en, ec, rfl⟩ := ho9.slice
                    have HO9 := Lib.hid (ho9.wide (by omega) (Nat.le_refl _) : IntsO lo w9.heap.size w9 _ _)
                    clear ho9
                    go_wp2_with fail
                    have hbz := hb4.trans (b9.mono hb4.size)
                    go_roundw
                    case rel => exact ⟨kd + 1, by go_num, by omega, by omega, Lib.hid (fun k h1 h2 => by by_cases e : k = kd; (· rw [e]; exact HG.out); (· exact HK.out k h1 (by omega))), hb4.trans (b9.mono hb4.size)⟩
                    case measure => simp [intOf]; omega
                  · have HG : Hid (chainF (f + 1) t hd c last = some p) := Lib.hid (chainF_at hd0.1 hk1 hlt HK.out (by unfold chG; rw [HBF.out, if_pos rfl, if_neg HE.out, if_neg (of_decide_eq_false HBM.out), hq]))
                    go_wp2_with fail
                    refine (l1Has_any _ c kd _ HROW.out).mono ?_
                    rw [HBM.out]
                    rintro e w7 ⟨rfl, b7⟩
                    have hb7 := hb.trans (b7.mono hsz)
                    have hs7 := hb7.size
                    have HR7 := Lib.hid (HCO.out.row.below hb7)
                    clear HROW
                    go_wp2_with fail
                    refine (l1Own_any _ c _ HR7.out (by have := HNL.out; omega)).mono ?_
                    rintro e w8 ⟨na, nc, rfl, hi8, b8⟩
                    rw [HNL.out]
                    have HI8 : Hid (IntsO w7.heap.size w8.heap.size w8 (.slice na N nc) c) := Lib.hid (by have := hi8; rwa [HNL.out] at this)
                    have HW8 := Lib.hid (by have := HI8.out.1; rwa [HNL.out] at this : w8.ownsRow w7.heap.size 3 1 (.slice na N nc) N (c.map vI))
                    have hb8 := hb7.trans (b8.mono hs7)
                    have hs8 := hb8.size
                    clear hi8
                    go_wp2_with (first | (at_builtin; refine wpList_append_own _ rfl _ _ 30 rfl w7.heap.size 3 i0 (.int .i64 0) 1 8 Try.underlying30 hi hz0 hz1 hz2 rfl (by decide) _ N (c.map vI) rfl (HW8.out.alloc _) ⟨w8.heap.size, 0, none⟩ 1 1 [.int .i64 kd] rfl rfl (cell_oneN _ _ _ (by simp)) (by simp [Value.oneCell']) (by unfold maxLen; omega) (by omega) (by have := b8.size; simp; omega) ?_; intro v' w4 hown' hgrow _))
                    have b4 : Below w7.heap.size w7 w4 := below_app b8 (Nat.le_refl _) HW8.out hgrow
                    have HI4 := Lib.hid (ints_rowN (n := N + 1) (xs := c ++ [kd]) (by simpa [vI] using hown') (by simp [HNL.out]) : IntsO w7.heap.size w4.heap.size w4 v' (c ++ [kd]))
                    have hb4 := hb7.trans (b4.mono hs7)
                    obtain ⟨da, dn, dc, rfl⟩ := HI4.out.slice
                    clear hown' hgrow
                    go_wp2_with fail
                    refine (IH.out (c ++ [kd]) kd hd w7.heap.size _ _ _ (H.out.below rTg_stable hb4) (by rw [List.length_append, HNL.out, List.length_singleton]; omega) (by rw [List.nodup_append]; refine ⟨HN.out, by simp, ?_⟩; intro a ha b hb2 e; rw [List.mem_singleton.1 hb2] at e; exact of_decide_eq_false HBM.out (e ▸ ha)) (fun x hx => by rcases List.mem_append.1 hx with q | q; (· exact HR.out x q); (· rw [List.mem_singleton.1 q]; omega)) ((getD0_app h0 _).trans HHD.out) (by simp [List.getD]) (by simp) (by have := b4.size; omega) HI4.out).mono ?_
                    rw [hq]
                    rintro e w9 ⟨v9, rfl, ho9, b9⟩
                    obtain ⟨ea, en, ec, rfl⟩ := ho9.slice
                    have HO9 := Lib.hid (ho9.wide (by omega) (Nat.le_refl _) : IntsO lo w9.heap.size w9 _ _)
                    clear ho9
                    go_wp2_with fail
                    have hbz := hb4.trans (b9.mono hb4.size)
                    go_ret2
                    unfold ChainD
                    rw [HG.out]
                    exact ⟨_, rfl, HO9.out, hbz⟩
                · have HG : Hid (chG f t hd c last kd = none) := Lib.hid (by unfold chG; rw [HBF.out, if_pos rfl, if_neg HE.out, if_pos (of_decide_eq_true HBM.out)])
                  go_wp2_with fail
                  refine (l1Has_any _ c kd _ HROW.out).mono ?_
                  rw [HBM.out]
                  rintro e w7 ⟨rfl, b7⟩
                  have hb7 := hb.trans (b7.mono hsz)
                  have hs7 := hb7.size
                  have HR7 := Lib.hid (HCO.out.row.below hb7)
                  clear HROW
                  go_wp2_with fail
                  go_roundw
                  case rel => exact ⟨kd + 1, by go_num, by omega, by omega, Lib.hid (fun k h1 h2 => by by_cases e : k = kd; (· rw [e]; exact HG.out); (· exact HK.out k h1 (by omega))), hb7⟩
                  case measure => simp [intOf]; omega
      · have HF : Hid (chainF (f + 1) t hd c last = none) := Lib.hid (chainF_none (fun k h1 h2 => HK.out k h1 (by omega)))
        clear HK
        go_wp2_with fail
        go_ret2
        unfold ChainD
        rw [HF.out]
        exact ⟨_, rfl, ints_rowN (lo := lo) (World.ownsRow_made wo #[] 0 (Nat.le_trans hlo hsz) (Nat.zero_le _) rfl) rfl, below_al hb _⟩
end Go.Proofs.Ytedckfbjhhabgaa
