/- The first cycle: l10Cycle, HasCycle, FirstCycle of the model's; FirstCycle, HasCycle of the program's. -/
import Derived.Test.YtedckfbjhhabgaaTgP
import Derived.Test.YtedckfbjhhabgaaTgQ
namespace Go.Proofs.Ytedckfbjhhabgaa
set_option linter.unusedVariables false
open Go.RowKit Go.Sort Go.Maps

theorem cyc_below {w2 wr w3 : World} {o : Obj} {n c : Nat} (hb : Below w2.heap.size w2 wr) (h : (wr.alloc o).grownBy w3 (Value.slice (some ⟨wr.heap.size, 0, none⟩) n c).ownBlock) : Below w2.heap.size w2 w3 :=
  (hb.alloc hb.size o).grown h (by have := hb.size; simp; omega) (fun g e => by have := hb.size; simp [Value.ownBlock] at e; omega)
theorem IntsO.of_rowT {lo : Nat} {w : World} {v : Value} {xs : List Int} (h : w.ownsRow lo 3 1 v xs.length (xs.map vI)) : IntsO lo w.heap.size w v xs := ⟨h, fun g hg => (h.lt g hg).2⟩
theorem chainF_len {t : List Tg} {hd : Int} : ∀ (f : Nat) (c : List Int) (last : Int) (p : List Int), chainF f t hd c last = some p → p.length < c.length + f
  | 0, _, _, _, h => by simp [chainF] at h
  | f + 1, c, last, p, h => by
    unfold chainF at h
    obtain ⟨k, hk, hs⟩ := List.exists_of_findSome?_eq_some h
    split at hs
    · split at hs
      · split at hs
        · cases hs; omega
        · split at hs
          · cases hs
          · have := chainF_len f (c ++ [k]) k p hs
            rw [List.length_append, List.length_singleton] at this
            omega
      · cases hs
    · cases hs
theorem cycF_len {t : List Tg} {p : List Int} (h : cycF t = some p) : p.length ≤ 11 := by
  unfold cycF at h
  obtain ⟨k, hk, hs⟩ := List.exists_of_findSome?_eq_some h
  have := chainF_len 10 [k] k p hs
  simp only [List.length_singleton] at this
  omega
theorem getD_nine : ∀ j, j < 9 → ([1, 2, 3, 4, 5, 6, 7, 8, 9] : List Int).getD j 0 = ((j + 1 : Nat) : Int) := by decide
theorem getD_tenT : ∀ j, j < 10 → ([0, 1, 2, 3, 4, 5, 6, 7, 8, 9] : List Int).getD j 0 = (j : Int) := by decide
theorem cycF_none {t : List Tg} (h : ∀ j : Nat, 1 ≤ j → j < 10 → chainF 10 t (j : Int) [(j : Int)] (j : Int) = none) : cycF t = none := by
  unfold cycF
  refine findL_none (d := (0 : Int)) _ (fun j hj => ?_)
  rw [getD_nine j (by simpa using hj)]
  exact h (j + 1) (by omega) (by have : j < 9 := (by simpa using hj); omega)
theorem cycF_at {t : List Tg} {k : Nat} {p : List Int} (h1 : 1 ≤ k) (h9 : k < 10) (h : ∀ j : Nat, 1 ≤ j → j < k → chainF 10 t (j : Int) [(j : Int)] (j : Int) = none) (hp : chainF 10 t (k : Int) [(k : Int)] (k : Int) = some p) : cycF t = some p := by
  unfold cycF
  obtain ⟨m, rfl⟩ : ∃ m, k = m + 1 := ⟨k - 1, by omega⟩
  refine findL_at (d := (0 : Int)) _ m (by simp; omega) (fun j hj => ?_) ?_
  · rw [getD_nine j (by omega)]
    exact h (j + 1) (by omega) (by omega)
  · rw [getD_nine m (by omega)]
    exact hp
theorem cycT_none {t : List Tg} (ht : areTg t = true) (h : ∀ j : Nat, j < 10 → cycP 10 t (j : Int) [(j : Int)] (j : Int) = none) : cycF t = none := by
  rw [cycF_ten ht]
  refine findL_none (d := (0 : Int)) _ (fun j hj => ?_)
  rw [getD_tenT j (by simpa using hj)]
  exact h j (by simpa using hj)
theorem cycT_at {t : List Tg} (ht : areTg t = true) {k : Nat} {p : List Int} (h9 : k < 10) (h : ∀ j : Nat, j < k → cycP 10 t (j : Int) [(j : Int)] (j : Int) = none) (hp : cycP 10 t (k : Int) [(k : Int)] (k : Int) = some p) : cycF t = some p := by
  rw [cycF_ten ht]
  refine findL_at (d := (0 : Int)) _ k (by simp; omega) (fun j hj => ?_) ?_
  · rw [getD_tenT j (by omega)]; exact h j hj
  · rw [getD_tenT k h9]; exact hp
theorem lit_own (w : World) (k : Nat) : (w.alloc (.cells #[.int .i64 (k : Int)] 3 (0, 0))).ownsRow w.heap.size 3 1 (.slice (some ⟨w.heap.size, 0, none⟩) 1 1) 1 (([(k : Int)] : List Int).map vI) := by
  have := World.ownsRow_lit (base := w.heap.size) (e := 3) (size := 1) w #[.int .i64 (k : Int)] 1 (Nat.le_refl _) (by decide) rfl
  simpa [vI] using this
set_option maxRecDepth 20000 in
set_option maxHeartbeats 4000000 in
theorem l10Cycle_any (v : Value) (t : List Tg) (w : World) (h : RowR 3 rTg w v t) : Calls Try.prog 69 #[v] w (ChainD t w.heap.size w (cycF t)) := by
  have H := Lib.hid h
  clear h
  go_enter Try.func69, Try.ntmps69
  go_wp2_with fail
  go_loopw [4] (fun i wr => ∃ k : Nat, 1 ≤ k ∧ k ≤ 10 ∧ i = .int .i64 k ∧ Hid (∀ j : Nat, 1 ≤ j → j < k → chainF 10 t (j : Int) [(j : Int)] (j : Int) = none) ∧ Below w.heap.size w wr) (fun i _ => 10 - (intOf i).toNat)
  case atStart => exact ⟨1, by omega, by omega, rfl, Lib.hid (fun j h1 h2 => by omega), Below.refl _ _⟩
  case round =>
    obtain ⟨k, hk1, hk, rfl, HJ, hb⟩ := hrel
    have hsz := hb.size
    by_cases hlt : k < 10
    · have g9 : (k : Int) ≤ 9 := by omega
      have b1 := below_al hb (.cells #[.int .i64 (k : Int)] 3 (0, 0))
      have HLO : Hid (IntsO wr.heap.size (wr.alloc (.cells #[.int .i64 (k : Int)] 3 (0, 0))).heap.size (wr.alloc (.cells #[.int .i64 (k : Int)] 3 (0, 0))) (.slice (some ⟨wr.heap.size, 0, none⟩) 1 1) [(k : Int)]) := Lib.hid (ints_rowN (n := 1) (lit_own wr k) rfl)
      obtain ⟨q, hq⟩ : ∃ q, chainF 10 t (k : Int) [(k : Int)] (k : Int) = q := ⟨_, rfl⟩
      have HQ := Lib.hid hq
      have HC : Hid (Calls Try.prog 89 #[v, .slice (some ⟨wr.heap.size, 0, none⟩) 1 1] (wr.alloc (.cells #[.int .i64 (k : Int)] 3 (0, 0))) (ChainD t wr.heap.size (wr.alloc (.cells #[.int .i64 (k : Int)] 3 (0, 0))) q)) := Lib.hid (by
        have := l10Chain_any t 10 [(k : Int)] (k : Int) (k : Int) wr.heap.size v (.slice (some ⟨wr.heap.size, 0, none⟩) 1 1) (wr.alloc (.cells #[.int .i64 (k : Int)] 3 (0, 0))) (H.out.below rTg_stable b1) rfl (by simp) (by simp; omega) rfl rfl (by simp) (by simp) HLO.out
        rwa [hq] at this)
      clear hq
      cases q with
      | none =>
        go_wp2_with fail
        refine HC.out.mono ?_
        rintro e w2 ⟨v2, rfl, ho2, b2⟩
        obtain ⟨a2, n2, c2, rfl⟩ := ho2.slice
        clear ho2
        go_wp2_with fail
        go_roundw
        case rel => exact ⟨k + 1, by omega, by omega, by go_num, Lib.hid (fun j h1 h2 => by by_cases e : j = k; (· rw [e]; exact HQ.out); (· exact HJ.out j h1 (by omega))), b1.trans (b2.mono b1.size)⟩
        case measure => simp [intOf]; omega
      | some p =>
        have HF : Hid (cycF t = some p) := Lib.hid (cycF_at hk1 hlt HJ.out HQ.out)
        go_wp2_with fail
        refine HC.out.mono ?_
        rintro e w2 ⟨v2, rfl, ho2, b2⟩
        obtain ⟨a2, n2, c2, rfl⟩ := ho2.slice
        have HO2 := Lib.hid (ho2.wide hsz (Nat.le_refl _))
        clear ho2
        go_wp2_with fail
        go_ret2
        unfold ChainD
        rw [HF.out]
        exact ⟨_, rfl, HO2.out, b1.trans (b2.mono b1.size)⟩
    · have hk10 : Hid (k = 10) := Lib.hid (by omega)
      have g9 : ¬ (k : Int) ≤ 9 := by omega
      have HF : Hid (cycF t = none) := Lib.hid (cycF_none (fun j h1 h2 => HJ.out j h1 (by have := hk10.out; omega)))
      clear HJ hk hlt
      go_wp2_with fail
      go_ret2
      unfold ChainD
      rw [HF.out]
      exact ⟨_, rfl, ints_rowN (lo := w.heap.size) (World.ownsRow_made wr #[] 0 hsz (Nat.zero_le _) rfl) rfl, below_al hb _⟩
set_option maxHeartbeats 4000000 in
theorem specFirstCycle_any (v : Value) (t : List Tg) (w : World) (h : RowR 3 rTg w v t) (xs : List Int) (b : Bool) (hres : fcRes t = (xs, b)) :
    Calls Try.prog 37 #[v] w fun e w' => ∃ v', e = .returned (.tuple #[v', .bool b]) ∧ IntsO w.heap.size w'.heap.size w' v' xs ∧ Below w.heap.size w w' := by
  have H := Lib.hid h
  obtain ⟨bs, hs⟩ : ∃ b, areTg t = b := ⟨_, rfl⟩
  have HS := Lib.hid hs
  unfold fcRes at hres
  rw [hs] at hres
  have HRES := Lib.hid hres
  clear h hs hres
  cases bs
  · have hr := HRES.out
    rw [if_neg (by simp)] at hr
    obtain ⟨rfl, rfl⟩ := Prod.mk.inj hr
    clear hr
    go_enter Try.func37, Try.ntmps37
    go_wp2_with (first | (go_at_call 49; refine (l10Good_any _ t _ H.out).mono ?_; rw [HS.out]; rintro e w1 ⟨rfl, b1⟩))
    go_ret2
    exact ⟨_, rfl, ints_rowN (lo := w.heap.size) (World.ownsRow_made w1 #[] 0 b1.size (Nat.zero_le _) rfl) rfl, below_al b1 _⟩
  · have hr := HRES.out
    rw [if_pos rfl] at hr
    have HX : Hid (xs = (cycF t).getD [] ∧ b = (cycF t).isSome) := Lib.hid (by rcases hc : cycF t with _ | p <;> rw [hc] at hr <;> obtain ⟨rfl, rfl⟩ := Prod.mk.inj hr <;> exact ⟨rfl, rfl⟩)
    clear hr HRES
    go_enter Try.func37, Try.ntmps37
    go_wp2_with (first | (go_at_call 49; refine (l10Good_any _ t _ H.out).mono ?_; rw [HS.out]; rintro e w1 ⟨rfl, b1⟩) | (go_at_call 69; refine (l10Cycle_any _ t _ (H.out.below rTg_stable b1)).mono ?_; rintro e w2 ⟨v2, rfl, ho2, b2⟩; obtain ⟨a2, n2, c2, rfl⟩ := ho2.slice; have HO2 := Lib.hid (ho2.wide b1.size (Nat.le_refl _)); replace b1 := below_chain b1 b2; clear ho2))
    go_ret2
    exact ⟨_, by rw [HX.out.2]; rfl, by rw [HX.out.1]; exact HO2.out, b1⟩
set_option maxHeartbeats 4000000 in
theorem specHasCycle_any (v : Value) (t : List Tg) (w : World) (h : RowR 3 rTg w v t) (f b : Bool) (hres : hcRes t = (f, b)) :
    Calls Try.prog 35 #[v] w fun e w' => e = .returned (.tuple #[.bool f, .bool b]) ∧ Below w.heap.size w w' := by
  have H := Lib.hid h
  obtain ⟨bs, hs⟩ : ∃ b, areTg t = b := ⟨_, rfl⟩
  have HS := Lib.hid hs
  unfold hcRes at hres
  rw [hs] at hres
  have HRES := Lib.hid hres
  clear h hs hres
  cases bs
  · have hr := HRES.out
    rw [if_neg (by simp)] at hr
    obtain ⟨rfl, rfl⟩ := Prod.mk.inj hr
    clear hr
    go_enter Try.func35, Try.ntmps35
    go_wp2_with (first | (go_at_call 49; refine (l10Good_any _ t _ H.out).mono ?_; rw [HS.out]; rintro e w1 ⟨rfl, b1⟩))
    go_ret2
    exact ⟨rfl, b1⟩
  · have hr := HRES.out
    rw [if_pos rfl] at hr
    obtain ⟨rfl, rfl⟩ := Prod.mk.inj hr
    clear hr HRES
    go_enter Try.func35, Try.ntmps35
    go_wp2_with (first | (go_at_call 49; refine (l10Good_any _ t _ H.out).mono ?_; rw [HS.out]; rintro e w1 ⟨rfl, b1⟩) | (go_at_call 69; refine (l10Cycle_any _ t _ (H.out.below rTg_stable b1)).mono ?_; rintro e w2 ⟨v2, rfl, ho2, b2⟩; obtain ⟨a2, n2, c2, rfl⟩ := ho2.slice; replace b1 := below_chain b1 b2; clear ho2))
    go_ret2
    exact ⟨rfl, b1⟩
set_option maxRecDepth 20000 in
set_option maxHeartbeats 8000000 in
theorem implFirstCycle_any (v : Value) (t : List Tg) (w : World) (h : RowR 3 rTg w v t) (xs : List Int) (b : Bool) (hres : fcRes t = (xs, b)) :
    Calls Try.prog 38 #[v] w fun e w' => ∃ v', e = .returned (.tuple #[v', .bool b]) ∧ IntsO w.heap.size w'.heap.size w' v' xs ∧ Below w.heap.size w w' := by
  have H := Lib.hid h
  obtain ⟨bs, hs⟩ : ∃ b, areTg t = b := ⟨_, rfl⟩
  have HS := Lib.hid hs
  unfold fcRes at hres
  rw [hs] at hres
  have HRES := Lib.hid hres
  clear h hs hres
  cases bs
  · have hr := HRES.out
    rw [if_neg (by simp)] at hr
    obtain ⟨rfl, rfl⟩ := Prod.mk.inj hr
    clear hr
    go_enter Try.func38, Try.ntmps38
    go_wp2_with (first | (go_at_call 16; refine (implAreTg_any _ t _ H.out).mono ?_; rw [HS.out]; rintro e w1 ⟨rfl, b1⟩))
    go_ret2
    exact ⟨_, rfl, ⟨World.ownsRow_nil _ _ _ _, Under.nil _ _ _⟩, b1⟩
  · have hr := HRES.out
    rw [if_pos rfl] at hr
    have HX : Hid (xs = (cycF t).getD [] ∧ b = (cycF t).isSome) := Lib.hid (by rcases hc : cycF t with _ | p <;> rw [hc] at hr <;> obtain ⟨rfl, rfl⟩ := Prod.mk.inj hr <;> exact ⟨rfl, rfl⟩)
    clear hr HRES
    go_enter Try.func38, Try.ntmps38
    go_wp2_with (first | (go_at_call 16; refine (implAreTg_any _ t _ H.out).mono ?_; rw [HS.out]; rintro e w1 ⟨rfl, b1⟩) | (go_at_call 70; refine (nodesOf_any _ t _ (H.out.below rTg_stable b1) HS.out).mono ?_; rintro e w2 ⟨mb, D, A, rfl, hm2, hk2, hr2, hmb, b2⟩; have HM2 := Lib.hid hm2; have HK2 := Lib.hid hk2; have HR2 := Lib.hid hr2; replace b1 := below_chain b1 b2; clear hm2 hk2 hr2))
    have HML : Hid (mb < w2.heap.size) := Lib.hid HM2.out.lt
    have hb1s := b1.size
    go_loopw [12] (fun i wr => ∃ k : Nat, k ≤ 10 ∧ i = .int .i64 k ∧ Hid (∀ j : Nat, j < k → cycP 10 t (j : Int) [(j : Int)] (j : Int) = none) ∧ Below w2.heap.size w2 wr) (fun i _ => 10 - (intOf i).toNat)
    case atStart => exact ⟨0, by omega, rfl, Lib.hid (fun j h => absurd h (Nat.not_lt_zero _)), Below.refl _ _⟩
    case round =>
      obtain ⟨k, hk, rfl, HJ, hb⟩ := hrel
      have hsz := hb.size
      by_cases hlt : k < 10
      · have g9 : (k : Int) < 10 := by omega
        have hl := look_node (mapN_kept HM2.out (grownBy_of_below hb none) (by simp)) HK2.out k hlt (Nat.le_refl _)
        have hbl := below_al (Below.refl wr.heap.size wr) (.cells #[.int .i64 (k : Int)] 3 (0, 0))
        obtain ⟨q, hq⟩ : ∃ q, cycP 10 t (k : Int) [(k : Int)] (k : Int) = q := ⟨_, rfl⟩
        have HQ := Lib.hid hq
        have HC : Hid (Calls Try.prog 71 #[ptrA A k, .slice (some ⟨wr.heap.size, 0, none⟩) 1 1] (wr.alloc (.cells #[.int .i64 (k : Int)] 3 (0, 0))) (CycD wr.heap.size (wr.alloc (.cells #[.int .i64 (k : Int)] 3 (0, 0))) (.slice (some ⟨wr.heap.size, 0, none⟩) 1 1) [(k : Int)] q)) := Lib.hid (by
          have := cycleAlong_any t HS.out A w2.heap.size wr.heap.size (k : Int) hsz 10 [(k : Int)] k wr.heap.size 1 (wr.alloc (.cells #[.int .i64 (k : Int)] 3 (0, 0))) (HR2.out.below (hb.trans (hbl.mono hsz))) rfl (by simp) (by simp; omega) rfl (by simp) hlt (by simp) (lit_own wr k)
          rwa [hq] at this)
        have hnn := nil_neqT
        have hrn := row_neqT
        unfold ptrA at hl HC
        obtain ⟨P, hP⟩ : ∃ p, A.getD k 0 = p := ⟨_, rfl⟩
        rw [hP] at hl HC
        clear hq hP
        cases q with
        | none =>
          go_wp2_with fail
          refine HC.out.mono ?_
          rintro e w3 ⟨v3, rfl, p1, p2, p3⟩
          obtain ⟨rfl, _⟩ := p2 rfl
          have HB3 := Lib.hid (cyc_below hb p3)
          clear p1 p2 p3
          go_wp2_with fail
          go_roundw
          case rel => exact ⟨k + 1, by omega, by go_num, Lib.hid (fun j h2 => by by_cases e : j = k; (· rw [e]; exact HQ.out); (· exact HJ.out j (by omega))), HB3.out⟩
          case measure => simp [intOf]; omega
        | some p =>
          have HF : Hid (cycF t = some p) := Lib.hid (cycT_at HS.out hlt HJ.out HQ.out)
          go_wp2_with fail
          refine HC.out.mono ?_
          rintro e w3 ⟨v3, rfl, p1, p2, p3⟩
          obtain ⟨⟨g3, n3, c3, rfl⟩, p4⟩ := p1 p rfl
          have HB3 := Lib.hid (cyc_below hb p3)
          have HP4 := Lib.hid p4
          clear p1 p2 p3 p4
          go_wp2_with fail
          go_ret2
          refine ⟨_, by rw [HX.out.2, HF.out]; rfl, ?_, b1.trans (HB3.out.mono hb1s)⟩
          rw [HX.out.1, HF.out]
          exact (IntsO.of_rowT HP4.out).wide (by omega) (Nat.le_refl _)
      · have hk10 : Hid (k = 10) := Lib.hid (by omega)
        have g9 : ¬ (k : Int) < 10 := by omega
        have HF : Hid (cycF t = none) := Lib.hid (cycT_none HS.out (fun j h2 => HJ.out j (by have := hk10.out; omega)))
        clear HJ hk hlt
        go_wp2_with fail
        go_ret2
        refine ⟨_, by rw [HX.out.2, HF.out]; rfl, ?_, b1.trans (hb.mono hb1s)⟩
        rw [HX.out.1, HF.out]
        exact ⟨World.ownsRow_nil _ _ _ _, Under.nil _ _ _⟩
set_option maxHeartbeats 4000000 in
theorem implHasCycle_any (v : Value) (t : List Tg) (w : World) (h : RowR 3 rTg w v t) (f b : Bool) (hres : hcRes t = (f, b)) :
    Calls Try.prog 36 #[v] w fun e w' => e = .returned (.tuple #[.bool f, .bool b]) ∧ Below w.heap.size w w' := by
  have H := Lib.hid h
  obtain ⟨xs, bf, hf⟩ : ∃ xs b, fcRes t = (xs, b) := ⟨_, _, rfl⟩
  have HF := Lib.hid hf
  have HX : Hid (f = bf ∧ b = areTg t) := Lib.hid (by
    unfold hcRes at hres
    unfold fcRes at hf
    rcases ha : areTg t with _ | _
    · rw [ha, if_neg (by simp)] at hres hf
      obtain ⟨rfl, rfl⟩ := Prod.mk.inj hres
      obtain ⟨_, rfl⟩ := Prod.mk.inj hf
      exact ⟨rfl, rfl⟩
    · rw [ha, if_pos rfl] at hres hf
      obtain ⟨rfl, rfl⟩ := Prod.mk.inj hres
      rcases hc : cycF t with _ | p <;> rw [hc] at hf <;> obtain ⟨_, rfl⟩ := Prod.mk.inj hf <;> exact ⟨rfl, rfl⟩)
  clear h hres hf
  go_enter Try.func36, Try.ntmps36
  go_wp2_with (first | (go_at_call 38; refine (implFirstCycle_any _ t _ H.out xs bf HF.out).mono ?_; rintro e w1 ⟨v1, rfl, ho1, b1⟩; obtain ⟨a1, n1, c1, rfl⟩ := ho1.slice; clear ho1) | (go_at_call 16; refine (implAreTg_any _ t _ (H.out.below rTg_stable b1)).mono ?_; rintro e w2 ⟨rfl, b2⟩; replace b1 := below_chain b1 b2))
  go_ret2
  exact ⟨by rw [HX.out.1, HX.out.2]; rfl, b1⟩
theorem fcRes_len {t : List Tg} {xs : List Int} {b : Bool} (h : fcRes t = (xs, b)) : xs.length ≤ 11 := by
  unfold fcRes at h
  split at h
  · rename_i ht
    rcases hc : cycF t with _ | p
    · rw [hc] at h; obtain ⟨rfl, _⟩ := Prod.mk.inj h; simp
    · rw [hc] at h
      obtain ⟨rfl, _⟩ := Prod.mk.inj h
      exact cycF_len hc
  · obtain ⟨rfl, _⟩ := Prod.mk.inj h; simp
end Go.Proofs.Ytedckfbjhhabgaa
