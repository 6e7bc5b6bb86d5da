/- TgT, TgX, RuI, RuFor, RuForI, RuAct, TgY, TgZ, SerIn, CompO, TgW, Prs, TgV, in one text. -/
import Derived.Test.YtenjajcknmfhfaaExZb
import Derived.Maps.RangeWalk
import Derived.Maps.Ext
import Derived.Maps.OwnSet
import Derived.Test.YtenjajcknmfhfaaSlRu
import Derived.Lib.QuietBelow
import Derived.BigQuiet
import Derived.WalkSmall
import Derived.Test.YtenjajcknmfhfaaRuS
import Derived.Test.YtenjajcknmfhfaaRuCells
import Derived.Test.YtenjajcknmfhfaaShelf
import Derived.Lib.OwnBridge
import Derived.Test.YtenjajcknmfhfaaOwn
import Derived.Test.YtenjajcknmfhfaaPuts
import Derived.Test.YtenjajcknmfhfaaInts
import Derived.Test.YtenjajcknmfhfaaCells
import Derived.Deep.RegionHeld3
import Derived.Test.YtenjajcknmfhfaaBx
namespace Go.Proofs.Ytenjajcknmfhfaa
set_option linter.unusedVariables false
open Go.RowKit Go.Sort Go.Maps

theorem cyc_below {w2 wr w3 : World} {o : Obj} {n c : Nat} (hb : Below w2.heap.size w2 wr) (h : (wr.alloc o).grownBy w3 (Value.slice (some ⟨wr.heap.size, 0, none⟩) n c).ownBlock) : Below w2.heap.size w2 w3 :=
  (hb.alloc hb.size o).grown h (by have := hb.size; simp; omega) (fun g e => by have := hb.size; simp [Value.ownBlock] at e; omega)
theorem IntsO.of_rowT {lo : Nat} {w : World} {v : Value} {xs : List Int} (h : w.ownsRow lo 3 1 v xs.length (xs.map vI)) : IntsO lo w.heap.size w v xs := ⟨h, fun g hg => (h.lt g hg).2⟩
theorem chainF_len {t : List Tg} {hd : Int} : ∀ (f : Nat) (c : List Int) (last : Int) (p : List Int), chainF f t hd c last = some p → p.length < c.length + f
  | 0, _, _, _, h => by simp [chainF] at h
  | f + 1, c, last, p, h => by
    unfold chainF at h
    obtain ⟨k, hk, hs⟩ := List.exists_of_findSome?_eq_some h
    split at hs
    · split at hs
      · split at hs
        · cases hs; omega
        · split at hs
          · cases hs
          · have := chainF_len f (c ++ [k]) k p hs
            rw [List.length_append, List.length_singleton] at this
            omega
      · cases hs
    · cases hs
theorem cycF_len {t : List Tg} {p : List Int} (h : cycF t = some p) : p.length ≤ 11 := by
  unfold cycF at h
  obtain ⟨k, hk, hs⟩ := List.exists_of_findSome?_eq_some h
  have := chainF_len 10 [k] k p hs
  simp only [List.length_singleton] at this
  omega
theorem getD_nine : ∀ j, j < 9 → ([1, 2, 3, 4, 5, 6, 7, 8, 9] : List Int).getD j 0 = ((j + 1 : Nat) : Int) := by decide
theorem getD_tenT : ∀ j, j < 10 → ([0, 1, 2, 3, 4, 5, 6, 7, 8, 9] : List Int).getD j 0 = (j : Int) := by decide
theorem cycF_none {t : List Tg} (h : ∀ j : Nat, 1 ≤ j → j < 10 → chainF 10 t (j : Int) [(j : Int)] (j : Int) = none) : cycF t = none := by
  unfold cycF
  refine findL_none (d := (0 : Int)) _ (fun j hj => ?_)
  rw [getD_nine j (by simpa using hj)]
  exact h (j + 1) (by omega) (by have : j < 9 := (by simpa using hj); omega)
theorem cycF_at {t : List Tg} {k : Nat} {p : List Int} (h1 : 1 ≤ k) (h9 : k < 10) (h : ∀ j : Nat, 1 ≤ j → j < k → chainF 10 t (j : Int) [(j : Int)] (j : Int) = none) (hp : chainF 10 t (k : Int) [(k : Int)] (k : Int) = some p) : cycF t = some p := by
  unfold cycF
  obtain ⟨m, rfl⟩ : ∃ m, k = m + 1 := ⟨k - 1, by omega⟩
  refine findL_at (d := (0 : Int)) _ m (by simp; omega) (fun j hj => ?_) ?_
  · rw [getD_nine j (by omega)]
    exact h (j + 1) (by omega) (by omega)
  · rw [getD_nine m (by omega)]
    exact hp
theorem cycT_none {t : List Tg} (ht : areTg t = true) (h : ∀ j : Nat, j < 10 → cycP 10 t (j : Int) [(j : Int)] (j : Int) = none) : cycF t = none := by
  rw [cycF_ten ht]
  refine findL_none (d := (0 : Int)) _ (fun j hj => ?_)
  rw [getD_tenT j (by simpa using hj)]
  exact h j (by simpa using hj)
theorem cycT_at {t : List Tg} (ht : areTg t = true) {k : Nat} {p : List Int} (h9 : k < 10) (h : ∀ j : Nat, j < k → cycP 10 t (j : Int) [(j : Int)] (j : Int) = none) (hp : cycP 10 t (k : Int) [(k : Int)] (k : Int) = some p) : cycF t = some p := by
  rw [cycF_ten ht]
  refine findL_at (d := (0 : Int)) _ k (by simp; omega) (fun j hj => ?_) ?_
  · rw [getD_tenT j (by omega)]; exact h j hj
  · rw [getD_tenT k h9]; exact hp
theorem lit_own (w : World) (k : Nat) : (w.alloc (.cells #[.int .i64 (k : Int)] 3 (0, 0))).ownsRow w.heap.size 3 1 (.slice (some ⟨w.heap.size, 0, none⟩) 1 1) 1 (([(k : Int)] : List Int).map vI) := by
  have := World.ownsRow_lit (base := w.heap.size) (e := 3) (size := 1) w #[.int .i64 (k : Int)] 1 (Nat.le_refl _) (by decide) rfl
  simpa [vI] using this
set_option maxRecDepth 20000 in
set_option maxHeartbeats 4000000 in
theorem l10Cycle_any (v : Value) (t : List Tg) (w : World) (h : RowR 3 rTg w v t) : Calls Try.prog 73 #[v] w (ChainD t w.heap.size w (cycF t)) := by
  have H := Lib.hid h
  clear h
  go_enter Try.func73, Try.ntmps73
  go_wp2_with fail
  go_loopw [4] (fun i wr => ∃ k : Nat, 1 ≤ k ∧ k ≤ 10 ∧ i = .int .i64 k ∧ Hid (∀ j : Nat, 1 ≤ j → j < k → chainF 10 t (j : Int) [(j : Int)] (j : Int) = none) ∧ Below w.heap.size w wr) (fun i _ => 10 - (intOf i).toNat)
  case atStart => exact ⟨1, by omega, by omega, rfl, Lib.hid (fun j h1 h2 => by omega), Below.refl _ _⟩
  case round =>
    obtain ⟨k, hk1, hk, rfl, HJ, hb⟩ := hrel
    have hsz := hb.size
    by_cases hlt : k < 10
    · have g9 : (k : Int) ≤ 9 := by omega
      have b1 := below_al hb (.cells #[.int .i64 (k : Int)] 3 (0, 0))
      have HLO : Hid (IntsO wr.heap.size (wr.alloc (.cells #[.int .i64 (k : Int)] 3 (0, 0))).heap.size (wr.alloc (.cells #[.int .i64 (k : Int)] 3 (0, 0))) (.slice (some ⟨wr.heap.size, 0, none⟩) 1 1) [(k : Int)]) := Lib.hid (ints_rowN (n := 1) (lit_own wr k) rfl)
      obtain ⟨q, hq⟩ : ∃ q, chainF 10 t (k : Int) [(k : Int)] (k : Int) = q := ⟨_, rfl⟩
      have HQ := Lib.hid hq
      have HC : Hid (Calls Try.prog 134 #[v, .slice (some ⟨wr.heap.size, 0, none⟩) 1 1] (wr.alloc (.cells #[.int .i64 (k : Int)] 3 (0, 0))) (ChainD t wr.heap.size (wr.alloc (.cells #[.int .i64 (k : Int)] 3 (0, 0))) q)) := Lib.hid (by
        have := l10Chain_any t 10 [(k : Int)] (k : Int) (k : Int) wr.heap.size v (.slice (some ⟨wr.heap.size, 0, none⟩) 1 1) (wr.alloc (.cells #[.int .i64 (k : Int)] 3 (0, 0))) (H.out.below rTg_stable b1) rfl (by simp) (by simp; omega) rfl rfl (by simp) (by simp) HLO.out
        rwa [hq] at this)
      clear hq
      cases q with
      | none =>
        go_wp2_with fail
        refine HC.out.mono ?_
        rintro e w2 ⟨v2, rfl, ho2, b2⟩
        obtain ⟨a2, n2, c2, rfl⟩ := ho2.slice
        clear ho2
        go_wp2_with fail
        go_roundw
        case rel => exact ⟨k + 1, by omega, by omega, by go_num, Lib.hid (fun j h1 h2 => by by_cases e : j = k; (· rw [e]; exact HQ.out); (· exact HJ.out j h1 (by omega))), b1.trans (b2.mono b1.size)⟩
        case measure => simp [intOf]; omega
      | some p =>
        have HF : Hid (cycF t = some p) := Lib.hid (cycF_at hk1 hlt HJ.out HQ.out)
        go_wp2_with fail
        refine HC.out.mono ?_
        rintro e w2 ⟨v2, rfl, ho2, b2⟩
        obtain ⟨a2, n2, c2, rfl⟩ := ho2.slice
        have HO2 := Lib.hid (ho2.wide hsz (Nat.le_refl _))
        clear ho2
        go_wp2_with fail
        go_ret2
        unfold ChainD
        rw [HF.out]
        exact ⟨_, rfl, HO2.out, b1.trans (b2.mono b1.size)⟩
    · have hk10 : Hid (k = 10) := Lib.hid (by omega)
      have g9 : ¬ (k : Int) ≤ 9 := by omega
      have HF : Hid (cycF t = none) := Lib.hid (cycF_none (fun j h1 h2 => HJ.out j h1 (by have := hk10.out; omega)))
      clear HJ hk hlt
      go_wp2_with fail
      go_ret2
      unfold ChainD
      rw [HF.out]
      exact ⟨_, rfl, ints_rowN (lo := w.heap.size) (World.ownsRow_made wr #[] 0 hsz (Nat.zero_le _) rfl) rfl, below_al hb _⟩
set_option maxHeartbeats 4000000 in
theorem specFirstCycle_any (v : Value) (t : List Tg) (w : World) (h : RowR 3 rTg w v t) (xs : List Int) (b : Bool) (hres : fcRes t = (xs, b)) :
    Calls Try.prog 10 #[v] w fun e w' => ∃ v', e = .returned (.tuple #[v', .bool b]) ∧ IntsO w.heap.size w'.heap.size w' v' xs ∧ Below w.heap.size w w' := by
  have H := Lib.hid h
  obtain ⟨bs, hs⟩ : ∃ b, areTg t = b := ⟨_, rfl⟩
  have HS := Lib.hid hs
  unfold fcRes at hres
  rw [hs] at hres
  have HRES := Lib.hid hres
  clear h hs hres
  cases bs
  · have hr := HRES.out
    rw [if_neg (by simp)] at hr
    obtain ⟨rfl, rfl⟩ := Prod.mk.inj hr
    clear hr
    go_enter Try.func10, Try.ntmps10
    go_wp2_with (first | (go_at_call 72; refine (l10Good_any _ t _ H.out).mono ?_; rw [HS.out]; rintro e w1 ⟨rfl, b1⟩))
    go_ret2
    exact ⟨_, rfl, ints_rowN (lo := w.heap.size) (World.ownsRow_made w1 #[] 0 b1.size (Nat.zero_le _) rfl) rfl, below_al b1 _⟩
  · have hr := HRES.out
    rw [if_pos rfl] at hr
    have HX : Hid (xs = (cycF t).getD [] ∧ b = (cycF t).isSome) := Lib.hid (by rcases hc : cycF t with _ | p <;> rw [hc] at hr <;> obtain ⟨rfl, rfl⟩ := Prod.mk.inj hr <;> exact ⟨rfl, rfl⟩)
    clear hr HRES
    go_enter Try.func10, Try.ntmps10
    go_wp2_with (first | (go_at_call 72; refine (l10Good_any _ t _ H.out).mono ?_; rw [HS.out]; rintro e w1 ⟨rfl, b1⟩) | (go_at_call 73; refine (l10Cycle_any _ t _ (H.out.below rTg_stable b1)).mono ?_; rintro e w2 ⟨v2, rfl, ho2, b2⟩; obtain ⟨a2, n2, c2, rfl⟩ := ho2.slice; have HO2 := Lib.hid (ho2.wide b1.size (Nat.le_refl _)); replace b1 := below_chain b1 b2; clear ho2))
    go_ret2
    exact ⟨_, by rw [HX.out.2]; rfl, by rw [HX.out.1]; exact HO2.out, b1⟩
set_option maxHeartbeats 4000000 in
theorem specHasCycle_any (v : Value) (t : List Tg) (w : World) (h : RowR 3 rTg w v t) (f b : Bool) (hres : hcRes t = (f, b)) :
    Calls Try.prog 15 #[v] w fun e w' => e = .returned (.tuple #[.bool f, .bool b]) ∧ Below w.heap.size w w' := by
  have H := Lib.hid h
  obtain ⟨bs, hs⟩ : ∃ b, areTg t = b := ⟨_, rfl⟩
  have HS := Lib.hid hs
  unfold hcRes at hres
  rw [hs] at hres
  have HRES := Lib.hid hres
  clear h hs hres
  cases bs
  · have hr := HRES.out
    rw [if_neg (by simp)] at hr
    obtain ⟨rfl, rfl⟩ := Prod.mk.inj hr
    clear hr
    go_enter Try.func15, Try.ntmps15
    go_wp2_with (first | (go_at_call 72; refine (l10Good_any _ t _ H.out).mono ?_; rw [HS.out]; rintro e w1 ⟨rfl, b1⟩))
    go_ret2
    exact ⟨rfl, b1⟩
  · have hr := HRES.out
    rw [if_pos rfl] at hr
    obtain ⟨rfl, rfl⟩ := Prod.mk.inj hr
    clear hr HRES
    go_enter Try.func15, Try.ntmps15
    go_wp2_with (first | (go_at_call 72; refine (l10Good_any _ t _ H.out).mono ?_; rw [HS.out]; rintro e w1 ⟨rfl, b1⟩) | (go_at_call 73; refine (l10Cycle_any _ t _ (H.out.below rTg_stable b1)).mono ?_; rintro e w2 ⟨v2, rfl, ho2, b2⟩; obtain ⟨a2, n2, c2, rfl⟩ := ho2.slice; replace b1 := below_chain b1 b2; clear ho2))
    go_ret2
    exact ⟨rfl, b1⟩
set_option maxRecDepth 20000 in
set_option maxHeartbeats 8000000 in
theorem implFirstCycle_any (v : Value) (t : List Tg) (w : World) (h : RowR 3 rTg w v t) (xs : List Int) (b : Bool) (hres : fcRes t = (xs, b)) :
    Calls Try.prog 9 #[v] w fun e w' => ∃ v', e = .returned (.tuple #[v', .bool b]) ∧ IntsO w.heap.size w'.heap.size w' v' xs ∧ Below w.heap.size w w' := by
  have H := Lib.hid h
  obtain ⟨bs, hs⟩ : ∃ b, areTg t = b := ⟨_, rfl⟩
  have HS := Lib.hid hs
  unfold fcRes at hres
  rw [hs] at hres
  have HRES := Lib.hid hres
  clear h hs hres
  cases bs
  · have hr := HRES.out
    rw [if_neg (by simp)] at hr
    obtain ⟨rfl, rfl⟩ := Prod.mk.inj hr
    clear hr
    go_enter Try.func9, Try.ntmps9
    go_wp2_with (first | (go_at_call 12; refine (implAreTg_any _ t _ H.out).mono ?_; rw [HS.out]; rintro e w1 ⟨rfl, b1⟩))
    go_ret2
    exact ⟨_, rfl, ⟨World.ownsRow_nil _ _ _ _, Under.nil _ _ _⟩, b1⟩
  · have hr := HRES.out
    rw [if_pos rfl] at hr
    have HX : Hid (xs = (cycF t).getD [] ∧ b = (cycF t).isSome) := Lib.hid (by rcases hc : cycF t with _ | p <;> rw [hc] at hr <;> obtain ⟨rfl, rfl⟩ := Prod.mk.inj hr <;> exact ⟨rfl, rfl⟩)
    clear hr HRES
    go_enter Try.func9, Try.ntmps9
    go_wp2_with (first | (go_at_call 12; refine (implAreTg_any _ t _ H.out).mono ?_; rw [HS.out]; rintro e w1 ⟨rfl, b1⟩) | (go_at_call 70; refine (nodesOf_any _ t _ (H.out.below rTg_stable b1) HS.out).mono ?_; rintro e w2 ⟨mb, D, A, rfl, hm2, hk2, hr2, hmb, b2⟩; have HM2 := Lib.hid hm2; have HK2 := Lib.hid hk2; have HR2 := Lib.hid hr2; replace b1 := below_chain b1 b2; clear hm2 hk2 hr2))
    have HML : Hid (mb < w2.heap.size) := Lib.hid HM2.out.lt
    have hb1s := b1.size
    go_loopw [12] (fun i wr => ∃ k : Nat, k ≤ 10 ∧ i = .int .i64 k ∧ Hid (∀ j : Nat, j < k → cycP 10 t (j : Int) [(j : Int)] (j : Int) = none) ∧ Below w2.heap.size w2 wr) (fun i _ => 10 - (intOf i).toNat)
    case atStart => exact ⟨0, by omega, rfl, Lib.hid (fun j h => absurd h (Nat.not_lt_zero _)), Below.refl _ _⟩
    case round =>
      obtain ⟨k, hk, rfl, HJ, hb⟩ := hrel
      have hsz := hb.size
      by_cases hlt : k < 10
      · have g9 : (k : Int) < 10 := by omega
        have hl := look_node (mapN_kept HM2.out (grownBy_of_below hb none) (by simp)) HK2.out k hlt (Nat.le_refl _)
        have hbl := below_al (Below.refl wr.heap.size wr) (.cells #[.int .i64 (k : Int)] 3 (0, 0))
        obtain ⟨q, hq⟩ : ∃ q, cycP 10 t (k : Int) [(k : Int)] (k : Int) = q := ⟨_, rfl⟩
        have HQ := Lib.hid hq
        have HC : Hid (Calls Try.prog 71 #[ptrA A k, .slice (some ⟨wr.heap.size, 0, none⟩) 1 1] (wr.alloc (.cells #[.int .i64 (k : Int)] 3 (0, 0))) (CycD wr.heap.size (wr.alloc (.cells #[.int .i64 (k : Int)] 3 (0, 0))) (.slice (some ⟨wr.heap.size, 0, none⟩) 1 1) [(k : Int)] q)) := Lib.hid (by
          have := cycleAlong_any t HS.out A w2.heap.size wr.heap.size (k : Int) hsz 10 [(k : Int)] k wr.heap.size 1 (wr.alloc (.cells #[.int .i64 (k : Int)] 3 (0, 0))) (HR2.out.below (hb.trans (hbl.mono hsz))) rfl (by simp) (by simp; omega) rfl (by simp) hlt (by simp) (lit_own wr k)
          rwa [hq] at this)
        have hnn := nil_neqT
        have hrn := row_neqT
        unfold ptrA at hl HC
        obtain ⟨P, hP⟩ : ∃ p, A.getD k 0 = p := ⟨_, rfl⟩
        rw [hP] at hl HC
        clear hq hP
        cases q with
        | none =>
          go_wp2_with fail
          refine HC.out.mono ?_
          rintro e w3 ⟨v3, rfl, p1, p2, p3⟩
          obtain ⟨rfl, _⟩ := p2 rfl
          have HB3 := Lib.hid (cyc_below hb p3)
          clear p1 p2 p3
          go_wp2_with fail
          go_roundw
          case rel => exact ⟨k + 1, by omega, by go_num, Lib.hid (fun j h2 => by by_cases e : j = k; (· rw [e]; exact HQ.out); (· exact HJ.out j (by omega))), HB3.out⟩
          case measure => simp [intOf]; omega
        | some p =>
          have HF : Hid (cycF t = some p) := Lib.hid (cycT_at HS.out hlt HJ.out HQ.out)
          go_wp2_with fail
          refine HC.out.mono ?_
          rintro e w3 ⟨v3, rfl, p1, p2, p3⟩
          obtain ⟨⟨g3, n3, c3, rfl⟩, p4⟩ := p1 p rfl
          have HB3 := Lib.hid (cyc_below hb p3)
          have HP4 := Lib.hid p4
          clear p1 p2 p3 p4
          go_wp2_with fail
          go_ret2
          refine ⟨_, by rw [HX.out.2, HF.out]; rfl, ?_, b1.trans (HB3.out.mono hb1s)⟩
          rw [HX.out.1, HF.out]
          exact (IntsO.of_rowT HP4.out).wide (by omega) (Nat.le_refl _)
      · have hk10 : Hid (k = 10) := Lib.hid (by omega)
        have g9 : ¬ (k : Int) < 10 := by omega
        have HF : Hid (cycF t = none) := Lib.hid (cycT_none HS.out (fun j h2 => HJ.out j (by have := hk10.out; omega)))
        clear HJ hk hlt
        go_wp2_with fail
        go_ret2
        refine ⟨_, by rw [HX.out.2, HF.out]; rfl, ?_, b1.trans (hb.mono hb1s)⟩
        rw [HX.out.1, HF.out]
        exact ⟨World.ownsRow_nil _ _ _ _, Under.nil _ _ _⟩
set_option maxHeartbeats 4000000 in
theorem implHasCycle_any (v : Value) (t : List Tg) (w : World) (h : RowR 3 rTg w v t) (f b : Bool) (hres : hcRes t = (f, b)) :
    Calls Try.prog 14 #[v] w fun e w' => e = .returned (.tuple #[.bool f, .bool b]) ∧ Below w.heap.size w w' := by
  have H := Lib.hid h
  obtain ⟨xs, bf, hf⟩ : ∃ xs b, fcRes t = (xs, b) := ⟨_, _, rfl⟩
  have HF := Lib.hid hf
  have HX : Hid (f = bf ∧ b = areTg t) := Lib.hid (by
    unfold hcRes at hres
    unfold fcRes at hf
    rcases ha : areTg t with _ | _
    · rw [ha, if_neg (by simp)] at hres hf
      obtain ⟨rfl, rfl⟩ := Prod.mk.inj hres
      obtain ⟨_, rfl⟩ := Prod.mk.inj hf
      exact ⟨rfl, rfl⟩
    · rw [ha, if_pos rfl] at hres hf
      obtain ⟨rfl, rfl⟩ := Prod.mk.inj hres
      rcases hc : cycF t with _ | p <;> rw [hc] at hf <;> obtain ⟨_, rfl⟩ := Prod.mk.inj hf <;> exact ⟨rfl, rfl⟩)
  clear h hres hf
  go_enter Try.func14, Try.ntmps14
  go_wp2_with (first | (go_at_call 9; refine (implFirstCycle_any _ t _ H.out xs bf HF.out).mono ?_; rintro e w1 ⟨v1, rfl, ho1, b1⟩; obtain ⟨a1, n1, c1, rfl⟩ := ho1.slice; clear ho1) | (go_at_call 12; refine (implAreTg_any _ t _ (H.out.below rTg_stable b1)).mono ?_; rintro e w2 ⟨rfl, b2⟩; replace b1 := below_chain b1 b2))
  go_ret2
  exact ⟨by rw [HX.out.1, HX.out.2]; rfl, b1⟩
theorem fcRes_len {t : List Tg} {xs : List Int} {b : Bool} (h : fcRes t = (xs, b)) : xs.length ≤ 11 := by
  unfold fcRes at h
  split at h
  · rename_i ht
    rcases hc : cycF t with _ | p
    · rw [hc] at h; obtain ⟨rfl, _⟩ := Prod.mk.inj h; simp
    · rw [hc] at h
      obtain ⟨rfl, _⟩ := Prod.mk.inj h
      exact cycF_len hc
  · obtain ⟨rfl, _⟩ := Prod.mk.inj h; simp
end Go.Proofs.Ytenjajcknmfhfaa

namespace Go.Proofs.Ytenjajcknmfhfaa
set_option linter.unusedVariables false
open Go.RowKit Go.Sort Go.Maps

theorem ins_lenT {H : Type} (x : Lit × DataW H) : ∀ l, (DataW.insert x l).length = l.length + 1
  | [] => rfl
  | y :: r => by
    unfold DataW.insert
    split
    · rfl
    · rw [List.length_cons, ins_lenT x r, List.length_cons]
theorem map_sizeT {H : Type} {w : World} {P : Program} {k : TypeId} {R : Value → Option (DataW H × List MemPlace)} {b n : Nat} {D : DataW H} (h : w.ownsMap P k R b n D) : Maps.size D ≤ n := by
  obtain ⟨es, clock, _, _, hle, rfl⟩ := h
  rw [size_eq]
  have key : ∀ l : List (Lit × DataW H), (l.foldr DataW.insert []).length = l.length := by
    intro l
    induction l with
    | nil => rfl
    | cons a l ih => rw [List.foldr_cons, ins_lenT, ih, List.length_cons]
  rw [key]
  simpa using hle
theorem map_objT {H : Type} {w : World} {P : Program} {k : TypeId} {R : Value → Option (DataW H × List MemPlace)} {b n : Nat} {D : DataW H} (h : w.ownsMap P k R b n D) : ∃ es c, w.heap[b]? = some (.map es c) := by
  obtain ⟨es, clock, h1, _⟩ := h
  exact ⟨es, clock, h1⟩
theorem cell_not_map {w : World} {b j ob : Nat} {v : Value} (h : w.cell? ⟨b, j, none⟩ = some v) (hm : ∃ es c, w.heap[ob]? = some (.map es c)) : b ≠ ob := by
  obtain ⟨es, c, hm⟩ := hm
  rintro rfl
  simp [World.cell?, hm] at h
theorem NodR.mapped {hi ob : Nat} {w w' : World} {A : List Nat} {t : List Tg} (h : NodR hi w A t) (hg : w.grownBy w' (some ob)) (hm : ∃ es c, w.heap[ob]? = some (.map es c)) : NodR hi w' A t := by
  have key : ∀ (b j : Nat) (v : Value), b < hi → w.cell? ⟨b, j, none⟩ = some v → w'.cell? ⟨b, j, none⟩ = some v := fun b j v hb hc =>
    (World.cell?_of_block (a := ⟨b, j, none⟩) (hg.block b (Nat.lt_of_lt_of_le hb h.size) (fun e => cell_not_map hc hm (Option.some.inj e)))).trans hc
  refine ⟨Nat.le_trans h.size hg.size, h.adr, fun k hk => key _ _ _ (h.adr k hk) (h.kind k hk), fun k hk => ?_⟩
  obtain ⟨a, c, h1, h2, h3, h4⟩ := h.fol k hk
  refine ⟨a, c, key _ _ _ (h.adr k hk) h1, h2, h3, h4.imp id ?_⟩
  rintro ⟨b, off, hl, rfl, hc⟩
  exact ⟨b, off, hl, rfl, fun i hi => ⟨key _ _ _ hl (hc i hi).1, key _ _ _ hl (hc i hi).2⟩⟩
structure DKL (D : DataW Unit) (t : List Tg) (left : Lit → Bool) : Prop where
  tidy : Tidy D
  has_ : ∀ s : Int, has D (.int .i64 s) = (decide ((0 ≤ s ∧ s < 10) ∧ 0 ≤ dayX t s) && !left (.int .i64 s))
  at_ : ∀ s : Int, has D (.int .i64 s) = true → D.atKey (.int .i64 s) (.lit (.int .i64 0)) = .lit (.int .i64 (dayX t s))
theorem DKL.start {t : List Tg} {left : Lit → Bool} (h : ∀ s : Int, left (.int .i64 s) = decide (0 ≤ s ∧ s < 10)) : DKL (.map []) t left := by
  refine ⟨tidy_empty, fun s => ?_, fun s hs => ?_⟩
  · rw [h s, has_eq]
    by_cases q : 0 ≤ s ∧ s < 10
    · rw [decide_eq_true q]; simp
    · rw [decide_eq_false (fun z => q z.1)]; simp
  · rw [has_eq] at hs; simp at hs
theorem sameKey_int (a b : Int) : (Lit.int .i64 a).sameKey (.int .i64 b) = decide (a = b) := by
  by_cases e : a = b
  · subst e; simp [Lit.sameKey]
  · simp [Lit.sameKey, e]
theorem DKL.put {D : DataW Unit} {t : List Tg} {left : Lit → Bool} (h : DKL D t left) {x : Int} (hx : 0 ≤ x ∧ x < 10) (hd : 0 ≤ dayX t x) : DKL (D.put (.int .i64 x) (.lit (.int .i64 (dayX t x)))) t (fun z => left z && !z.sameKey (.int .i64 x)) := by
  have hk : WideAt.IsKeyLit (.int .i64 x) := trivial
  refine ⟨h.tidy.put hk _, fun s => ?_, fun s hs => ?_⟩
  · rw [sameKey_int]
    by_cases e : s = x
    · subst e; rw [has_put_same h.tidy.isMap hk, decide_eq_true ⟨hx, hd⟩]; simp
    · rw [has_put_other (by simp; exact e), h.has_, decide_eq_false e]; simp
  · by_cases e : s = x
    · subst e; exact atKey_put_same h.tidy.isMap hk _ _
    · rw [has_put_other (by simp; exact e)] at hs
      rw [atKey_put_other (by simp; exact e)]
      exact h.at_ s hs
theorem DKL.skip {D : DataW Unit} {t : List Tg} {left : Lit → Bool} (h : DKL D t left) {x : Int} (hd : dayX t x < 0) : DKL D t (fun z => left z && !z.sameKey (.int .i64 x)) := by
  refine ⟨h.tidy, fun s => ?_, h.at_⟩
  rw [h.has_, sameKey_int]
  by_cases e : s = x
  · subst e; rw [decide_eq_false (fun z => by omega)]; simp
  · rw [decide_eq_false e]; simp
abbrev DayI (w : World) (b n : Nat) (D : DataW Unit) : Prop := w.ownsMap Try.prog 3 (plainElem Try.prog 3) b n D
def DaysD (t : List Tg) (w : World) (e : Ending) (w' : World) : Prop :=
  Below w.heap.size w w' ∧ ((freeB t = false ∧ e = .returned (.tuple #[.map none, .bool false])) ∨ (freeB t = true ∧ ∃ mb n D, e = .returned (.tuple #[.map (some mb), .bool true]) ∧ DayI w' mb n D ∧ DKL D t (fun _ => false)))
theorem wf_i64X {n : Int} (h : inI n) : (Lit.int .i64 n).wf = true := by unfold inI at h; simp [Lit.wf, IntKind.min, IntKind.max, IntKind.signed, IntKind.bits]; omega
theorem zero_intX (w : World) : (zeroValue 3).run Try.prog w = .ok (.int .i64 0) w := by kernel_rfl
theorem ptr_of_at {D : DataW Value} {A : List Nat} (hk : NK D A 10) {x : Int} {c : Value} (h : ∀ zd, D.atKey (.int .i64 x) zd = .held c) : ∃ k : Nat, k < 10 ∧ x = (k : Int) ∧ c = ptrA A k := by
  by_cases hx : 0 ≤ x ∧ x < (10 : Nat)
  · obtain ⟨k, rfl⟩ : ∃ k : Nat, x = (k : Int) := ⟨x.toNat, by omega⟩
    refine ⟨k, by omega, rfl, ?_⟩
    have h1 := hk.at_ k (.held (.bool true)) (by omega)
    rw [h] at h1
    cases h1
    rfl
  · have hn : has D (.int .i64 x) = false := by rw [hk.has_, decide_eq_false hx]
    have h1 := atKey_of_not_has hn (.held (.bool true))
    have h2 := atKey_of_not_has hn (.held (.bool false))
    rw [h] at h1 h2
    rw [h1] at h2
    cases h2
set_option maxRecDepth 20000 in
set_option maxHeartbeats 16000000 in
theorem expectedDays_any (v : Value) (t : List Tg) (w : World) (h : RowR 3 rTg w v t) : Calls Try.prog 94 #[v] w (DaysD t w) := by
  have H := Lib.hid h
  obtain ⟨f, b, hres⟩ : ∃ f b, hcRes t = (f, b) := ⟨_, _, rfl⟩
  have HRES := Lib.hid hres
  obtain ⟨bf, hbf⟩ : ∃ b, freeB t = b := ⟨_, rfl⟩
  have HBF := Lib.hid hbf
  have HFB : Hid ((bf = true ∧ f = false ∧ b = true) ∨ (bf = false ∧ (b = false ∨ (b = true ∧ f = true)))) := Lib.hid (by
    unfold freeB at hbf
    unfold hcRes at hres
    rcases ha : areTg t with _ | _
    · rw [ha, if_neg (by simp)] at hres
      rw [ha] at hbf
      obtain ⟨rfl, rfl⟩ := Prod.mk.inj hres
      exact .inr ⟨hbf.symm, .inl rfl⟩
    · rw [ha, if_pos rfl] at hres
      rw [ha] at hbf
      obtain ⟨rfl, rfl⟩ := Prod.mk.inj hres
      rcases hc : cycF t with _ | p
      · rw [hc] at hbf; exact .inl ⟨hbf.symm, rfl, rfl⟩
      · rw [hc] at hbf; exact .inr ⟨hbf.symm, .inr ⟨rfl, rfl⟩⟩)
  clear h hres hbf
  rcases HFB.out with ⟨rfl, rfl, rfl⟩ | ⟨rfl, hb2⟩
  · obtain ⟨ht, hc⟩ := freeB_iff.1 HBF.out
    have HT := Lib.hid ht
    have HC := Lib.hid hc
    have hmm := @run_makeMap Try.prog
    clear ht hc HFB
    go_enter Try.func94, Try.ntmps94
    go_wp2_with fail
    refine (implHasCycle_any _ t _ H.out false true HRES.out).mono ?_
    rintro e w1 ⟨rfl, b1⟩
    have MO : Hid (DayI (w1.alloc (.map #[] 0)) w1.heap.size 0 (.map [])) := Lib.hid (by simpa using World.ownsMap_made w1 Try.prog 3 (plainElem (H := Unit) Try.prog 3))
    have ba := below_al b1 (.map #[] 0)
    go_wp2_with fail
    refine (nodesOf_any _ t _ (H.out.below rTg_stable ba) HT.out).mono ?_
    rintro e w2 ⟨mb, Dn, A, rfl, hm2, hk2, hr2, hmb, b2⟩
    have HM2 := Lib.hid hm2
    have HK2 := Lib.hid hk2
    have HR2 := Lib.hid hr2
    have b2s := b2.size
    simp at b2s hmb
    have MO2 : Hid (DayI w2 w1.heap.size 0 (.map [])) := Lib.hid (MO.out.kept (grownBy_of_below b2 none) (by simp))
    replace b2 := ba.trans (b2.mono ba.size)
    have hml := hm2.lt
    have b1s := b1.size
    clear hm2 hk2 hr2 MO
    go_wp2_with (first | (at_range; refine wpList_range_own _ rfl _ 95 rfl 3 97 (int_keyed Try.underlying3) Try.underlying95 heldV mb 10 Dn rfl HM2.out ?_; intro w0 hrg0 hg0 hs0))
    go_frame
    have HRG0 := Lib.hid hrg0
    have hs0' : w2.heap.size < w0.heap.size := by omega
    have HR0 : Hid (NodR w2.heap.size w0 A t) := Lib.hid (HR2.out.below ⟨hg0.os, hg0.tape, hg0.output, hg0.size, fun k hk => hg0.block k hk (by simp)⟩)
    have HO0 : Hid (DayI w0 w1.heap.size 0 (.map [])) := Lib.hid (MO2.out.kept hg0 (by simp))
    have HB0 : Hid (Below w.heap.size w w0) := Lib.hid (b2.grown hg0 (by omega) (fun g e => by cases e))
    obtain ⟨r, hr⟩ : ∃ r, w2.heap.size = r := ⟨_, rfl⟩
    rw [hr] at HRG0 hs0' HR0
    rw [hr]
    obtain ⟨ob, hob⟩ : ∃ o, w1.heap.size = o := ⟨_, rfl⟩
    rw [hob] at HO0
    rw [hob]
    have hor : ob < r := by omega
    have hob1 : w.heap.size ≤ ob := by omega
    have hmr : mb ≠ ob := by omega
    have hmr2 : mb < r := by omega
    have hwr : w.heap.size ≤ r := by omega
    have HOB := Lib.hid hob
    have HRR := Lib.hid hr
    have HST : Hid (DKL (.map []) t (Maps.has Dn)) := Lib.hid (DKL.start (fun s => by rw [HK2.out.has_]; rfl))
    have HSZ : Hid (Maps.size Dn ≤ 10) := Lib.hid (map_sizeT HM2.out)
    clear hr hob hrg0 hg0 hs0 b2 b2s hmb hml ba b1 b1s MO2 HR2 HM2
    go_loopw [7] (fun _ wr => ∃ (left : Lit → Bool) (cnt nn : Nat) (D : DataW Unit), Hid (wr.ranges Try.prog 3 heldV mb r 10 Dn left cnt) ∧ nn + cnt ≤ 10 ∧ Hid (DayI wr ob nn D) ∧ Hid (DKL D t left) ∧ Hid (NodR r wr A t) ∧ Hid (Below w.heap.size w wr)) (fun _ wr => wr.rangeLeft mb r)
    case atStart => exact ⟨_, _, 0, .map [], HRG0, by have := HSZ.out; omega, HO0, HST, HR0, HB0⟩
    case round =>
      clear HRG0 HO0 HST HR0 HB0
      obtain ⟨left, cnt, nn, D, HRG, hcn, HO, HD, HR, HB⟩ := hrel
      go_wp2_with (first | (at_next; refine wpList_next_ranges _ rfl _ rfl 3 (int_keyed Try.underlying3) heldV (fun x : Int => Value.int .i64 x) (fun c : Value => c) (fun key kl hk => by obtain ⟨x, rfl, _⟩ := Maps.keyOf_int_inv Try.underlying3 hk; exact ⟨x, rfl⟩) (fun v y _ => ⟨v, rfl⟩) mb r 10 Dn left cnt rfl HRG.out ?_ ?_))
      · intro hc0 hl0
        have HFIN : Hid (DKL D t (fun _ => false)) := Lib.hid (by
          have : left = fun _ => false := funext hl0
          rw [← this]; exact HD.out)
        clear HD HR HRG
        go_wp2_with fail
        go_ret2
        exact ⟨HB.out, .inr ⟨HBF.out, ob, nn, D, rfl, HO.out, HFIN.out⟩⟩
      · intro x c kl y ys w1 cnt1 hkey hlk hv hat hrg1 hlt hg1 hs1 hen
        obtain ⟨x', ex, rfl, hwx⟩ := Maps.keyOf_int_inv Try.underlying3 hkey
        cases ex
        simp only [heldV, Option.some.injEq, Prod.mk.injEq] at hv
        obtain ⟨rfl, rfl⟩ := hv
        obtain ⟨k, hk, rfl, rfl⟩ := ptr_of_at HK2.out hat
        have HRG1 := Lib.hid hrg1
        have HR1 : Hid (NodR r w1 A t) := Lib.hid (HR.out.below ⟨hg1.os, hg1.tape, hg1.output, hg1.size, fun b hb => hg1.block b (Nat.lt_of_lt_of_le hb HR.out.size) (fun e => by cases e; omega)⟩)
        have HO1 : Hid (DayI w1 ob nn D) := Lib.hid (HO.out.kept hg1 (by simp; omega))
        have HB1 : Hid (Below w.heap.size w w1) := Lib.hid (HB.out.grown hg1 HB.out.size (fun g e => by cases e; omega))
        have HLT := Lib.hid hlt
        have HKEY := Lib.hid hkey
        obtain ⟨d, hd⟩ : ∃ d, dayX t (k : Int) = d := ⟨_, rfl⟩
        have HCALL : Hid (∀ W, NodR r W A t → Calls Try.prog 146 #[.pointer (some ⟨A.getD k 0, 0, none⟩)] W fun e w' => e = .returned (.tuple #[.int .i64 (expD d).1, .bool (expD d).2]) ∧ Below W.heap.size W w') := Lib.hid (fun W hW => by
          have := expectedDay_any t HT.out HC.out A r 10 k W hW hk (shortW_ten HT.out HC.out _)
          rw [hd] at this
          exact this)
        have hdin := dayX_in HT.out (k : Int)
        rw [hd] at hdin
        have HDD := Lib.hid hd
        unfold ptrA at hen
        obtain ⟨P, hP⟩ : ∃ p, A.getD k 0 = p := ⟨_, rfl⟩
        rw [hP] at hen HCALL
        unfold ptrA
        try rw [hP]
        clear hrg1 hlt hkey hlk hat hd hP HR HO HB
        by_cases hneg : d < 0
        · rw [expD_neg hneg] at HCALL
          have HD2 := Lib.hid (HD.out.skip (x := (k : Int)) (by rw [HDD.out]; exact hneg))
          clear hneg
          go_wp2_with fail
          refine (HCALL.out _ HR1.out).mono ?_
          rintro e w3 ⟨rfl, b3⟩
          have HRG3 := Lib.hid (HRG1.out.kept (grownBy_of_below b3 none) (by simp) (by simp))
          have HO3 : Hid (DayI w3 ob nn D) := Lib.hid (HO1.out.kept (grownBy_of_below b3 none) (by simp))
          have HR3 := Lib.hid (HR1.out.below (b3.mono HR1.out.size))
          have HB3 := Lib.hid (HB1.out.trans (b3.mono HB1.out.size))
          clear b3
          go_wp2_with fail
          go_roundw
          case rel => exact ⟨_, cnt1, nn, D, HRG3, by have := HLT.out; omega, HO3, HD2, HR3, HB3⟩
          case measure => rw [HRG3.out.left_eq]; rw [HRG.out.left_eq]; exact HLT.out
        · have hpos : 0 ≤ d := by omega
          rw [expD_pos hpos] at HCALL
          have HD2 := Lib.hid (HD.out.put (x := (k : Int)) ⟨by omega, by omega⟩ (by rw [HDD.out]; exact hpos))
          have HVD := Lib.hid (plainElem_int (H := Unit) Try.underlying3 (wf_i64X (n := d) (by simp [inI]; omega)))
          clear hneg
          go_wp2_with fail
          refine (HCALL.out _ HR1.out).mono ?_
          rintro e w3 ⟨rfl, b3⟩
          have HRG3 := Lib.hid (HRG1.out.kept (grownBy_of_below b3 none) (by simp) (by simp))
          have HO3 : Hid (DayI w3 ob nn D) := Lib.hid (HO1.out.kept (grownBy_of_below b3 none) (by simp))
          have HR3 := Lib.hid (HR1.out.below (b3.mono HR1.out.size))
          have HB3 := Lib.hid (HB1.out.trans (b3.mono HB1.out.size))
          clear b3
          have hnm : nn < maxLen := by unfold maxLen; omega
          go_wp2_with (first | (at_mapUpdate; refine wpList_mapUpdate_own _ rfl _ _ _ 115 rfl 3 3 (int_keyed Try.underlying3) Try.underlying115 (plainElem (H := Unit) Try.prog 3) ob nn D rfl HO3.out hnm (.int .i64 (k : Int)) (.int .i64 d) (.int .i64 (k : Int)) rfl rfl HKEY.out (.lit (.int .i64 d)) [] HVD.out ?_; intro w4 hown4 hg4; go_frame; have HO4 := Lib.hid hown4; have HG4 := Lib.hid hg4; clear hown4 hg4))
          have HRG4 := Lib.hid (HRG3.out.kept HG4.out (fun e => by have := Option.some.inj e; omega) (fun e => by have := Option.some.inj e; omega))
          have HR4 := Lib.hid (HR3.out.mapped HG4.out (map_objT HO3.out))
          have HB4 := Lib.hid (HB3.out.grown HG4.out HB3.out.size (fun g e => by cases e; omega))
          rw [HDD.out] at HD2
          go_roundw
          case rel => exact ⟨_, cnt1, nn + 1, _, HRG4, by have := HLT.out; omega, HO4, HD2, HR4, HB4⟩
          case measure => rw [HRG4.out.left_eq]; rw [HRG.out.left_eq]; exact HLT.out
  · have HNF : Hid (freeB t = false) := HBF
    rcases hb2 with rfl | ⟨rfl, rfl⟩
    · clear HFB
      go_enter Try.func94, Try.ntmps94
      go_wp2_with fail
      refine (implHasCycle_any _ t _ H.out f false HRES.out).mono ?_
      rintro e w1 ⟨rfl, b1⟩
      go_wp2_with fail
      go_ret2
      exact ⟨b1, .inl ⟨HNF.out, rfl⟩⟩
    · clear HFB
      go_enter Try.func94, Try.ntmps94
      go_wp2_with fail
      refine (implHasCycle_any _ t _ H.out true true HRES.out).mono ?_
      rintro e w1 ⟨rfl, b1⟩
      go_wp2_with fail
      go_ret2
      exact ⟨b1, .inl ⟨HNF.out, rfl⟩⟩
end Go.Proofs.Ytenjajcknmfhfaa

namespace Go.Proofs.Ytenjajcknmfhfaa
set_option linter.unusedVariables false
open Go.RowKit Go.Sort

theorem implIsSeries_any (n : Int) (w : World) : Calls Try.prog 90 #[.int .i64 n] w fun e w' => e = .returned (.bool (decide (1 ≤ n ∧ n ≤ 99))) ∧ w' = w := by
  by_cases h1 : 1 ≤ n
  · go_enter Try.func90, Try.ntmps90
    go_wp2
    go_ret
    exact ⟨ret_bool (by first | (simp; done) | (simp; omega) | (rw [Bool.eq_iff_iff]; simp; omega)), rfl⟩
  · go_enter Try.func90, Try.ntmps90
    go_wp2
    go_ret
    exact ⟨ret_bool (by first | (simp; done) | (simp; omega) | (rw [Bool.eq_iff_iff]; simp; omega)), rfl⟩

theorem keyOf_any (x : Ru) (w : World) : Calls Try.prog 145 #[.agg #[.int .i64 x.series, .int .i64 x.event, .int .i64 x.days, .int .i64 x.act]] w fun e w' => e = .returned (.agg #[.int .i64 x.series, .int .i64 x.event]) ∧ Below w.heap.size w w' := by
  obtain ⟨x0, x1, x2, x3⟩ := x
  simp only
  go_enter Try.func145, Try.ntmps145
  go_wp2_with fail
  refine bodyPost_ret (v := .agg #[.int .i64 x0, .int .i64 x1]) (by simp [results, Try.results145, go_sem]) rfl ⟨rfl, ?_⟩
  exact below_al (below_al (Below.refl _ _) _) _

theorem isBefore_any (a b : Ru) (w : World) : Calls Try.prog 144 #[.agg #[.int .i64 a.series, .int .i64 a.event], .agg #[.int .i64 b.series, .int .i64 b.event]] w fun e w' => e = .returned (.bool (bef a b)) ∧ Below w.heap.size w w' := by
  obtain ⟨x0, x1, x2, x3⟩ := a
  obtain ⟨y0, y1, y2, y3⟩ := b
  simp only [bef]
  by_cases h2 : x0 = y0
  · have e2 : (x0 != y0) = false := by simp [h2]
    have H2 := Lib.hid h2
    clear h2
    go_enter Try.func144, Try.ntmps144
    go_wp2_with fail
    go_ret
    exact ⟨ret_bool (by have := H2.out; apply decide_eq_decide.2; omega), below_al (below_al (Below.refl _ _) _) _⟩
  · have e2 : (x0 != y0) = true := by simp [h2]
    have H2 := Lib.hid h2
    clear h2
    go_enter Try.func144, Try.ntmps144
    go_wp2_with fail
    go_ret
    exact ⟨ret_bool (by have := H2.out; apply decide_eq_decide.2; omega), below_al (below_al (Below.refl _ _) _) _⟩

theorem implIsAct_any (n : Int) (w : World) : Calls Try.prog 166 #[.int .i64 n] w fun e w' => e = .returned (.bool (decide (1 ≤ n ∧ n ≤ 3))) ∧ w' = w := by
  by_cases h1 : 1 ≤ n
  · by_cases h2 : n ≤ 3
    · go_enter Try.func166, Try.ntmps166
      go_wp2
      go_ret
      exact ⟨ret_bool (by simp; omega), rfl⟩
    · go_enter Try.func166, Try.ntmps166
      go_wp2
      go_ret
      exact ⟨ret_bool (by simp; omega), rfl⟩
  · go_enter Try.func166, Try.ntmps166
    go_wp2
    go_ret
    exact ⟨ret_bool (by simp; omega), rfl⟩

set_option maxHeartbeats 2000000 in
theorem implIsRule_any (x : Ru) (w : World) : Calls Try.prog 143 #[.agg #[.int .i64 x.series, .int .i64 x.event, .int .i64 x.days, .int .i64 x.act]] w fun e w' => e = .returned (.bool (isRu x)) ∧ Below w.heap.size w w' := by
  obtain ⟨x0, x1, x2, x3⟩ := x
  simp only
  obtain ⟨b0, h0⟩ : ∃ b, decide (1 ≤ x0 ∧ x0 ≤ 99) = b := ⟨_, rfl⟩
  obtain ⟨b5, h5⟩ : ∃ b, decide (1 ≤ x3 ∧ x3 ≤ 3) = b := ⟨_, rfl⟩
  have hr : isRu ⟨x0, x1, x2, x3⟩ = (b0 && (decide ((0 ≤ x1 ∧ x1 ≤ 9) ∧ (0 ≤ x2 ∧ x2 ≤ 20000)) && b5)) := by simp only [isRu]; rw [h0, h5]; cases b0 <;> cases b5 <;> simp
  rw [hr]
  have H0 := Lib.hid h0
  have H5 := Lib.hid h5
  clear h0 h5 hr
  cases b0
  · go_enter Try.func143, Try.ntmps143
    go_wp2_with (first | (go_at_call 90; refine (implIsSeries_any _ _).mono ?_; rw [H0.out]; rintro e w' ⟨rfl, rfl⟩) | (go_at_call 166; refine (implIsAct_any _ _).mono ?_; rw [H5.out]; rintro e w' ⟨rfl, rfl⟩))
    go_ret
    exact ⟨ret_bool (by first | (simp; done) | (simp; omega) | (rw [Bool.eq_iff_iff]; simp; omega)), below_al (Below.refl _ _) _⟩
  · by_cases h1 : 0 ≤ x1
    · by_cases h2 : x1 ≤ 9
      · by_cases h3 : 0 ≤ x2
        · by_cases h4 : x2 ≤ 20000
          · go_enter Try.func143, Try.ntmps143
            go_wp2_with (first | (go_at_call 90; refine (implIsSeries_any _ _).mono ?_; rw [H0.out]; rintro e w' ⟨rfl, rfl⟩) | (go_at_call 166; refine (implIsAct_any _ _).mono ?_; rw [H5.out]; rintro e w' ⟨rfl, rfl⟩))
            go_ret
            exact ⟨ret_bool (by first | (simp; done) | (simp; omega) | (rw [Bool.eq_iff_iff]; simp; omega)), below_al (Below.refl _ _) _⟩
          · go_enter Try.func143, Try.ntmps143
            go_wp2_with (first | (go_at_call 90; refine (implIsSeries_any _ _).mono ?_; rw [H0.out]; rintro e w' ⟨rfl, rfl⟩) | (go_at_call 166; refine (implIsAct_any _ _).mono ?_; rw [H5.out]; rintro e w' ⟨rfl, rfl⟩))
            go_ret
            exact ⟨ret_bool (by first | (simp; done) | (simp; omega) | (rw [Bool.eq_iff_iff]; simp; omega)), below_al (Below.refl _ _) _⟩
        · go_enter Try.func143, Try.ntmps143
          go_wp2_with (first | (go_at_call 90; refine (implIsSeries_any _ _).mono ?_; rw [H0.out]; rintro e w' ⟨rfl, rfl⟩) | (go_at_call 166; refine (implIsAct_any _ _).mono ?_; rw [H5.out]; rintro e w' ⟨rfl, rfl⟩))
          go_ret
          exact ⟨ret_bool (by first | (simp; done) | (simp; omega) | (rw [Bool.eq_iff_iff]; simp; omega)), below_al (Below.refl _ _) _⟩
      · go_enter Try.func143, Try.ntmps143
        go_wp2_with (first | (go_at_call 90; refine (implIsSeries_any _ _).mono ?_; rw [H0.out]; rintro e w' ⟨rfl, rfl⟩) | (go_at_call 166; refine (implIsAct_any _ _).mono ?_; rw [H5.out]; rintro e w' ⟨rfl, rfl⟩))
        go_ret
        exact ⟨ret_bool (by first | (simp; done) | (simp; omega) | (rw [Bool.eq_iff_iff]; simp; omega)), below_al (Below.refl _ _) _⟩
    · go_enter Try.func143, Try.ntmps143
      go_wp2_with (first | (go_at_call 90; refine (implIsSeries_any _ _).mono ?_; rw [H0.out]; rintro e w' ⟨rfl, rfl⟩) | (go_at_call 166; refine (implIsAct_any _ _).mono ?_; rw [H5.out]; rintro e w' ⟨rfl, rfl⟩))
      go_ret
      exact ⟨ret_bool (by first | (simp; done) | (simp; omega) | (rw [Bool.eq_iff_iff]; simp; omega)), below_al (Below.refl _ _) _⟩

set_option maxRecDepth 20000 in
set_option maxHeartbeats 4000000 in
theorem implIsSchedule_any (v : Value) (t : List Ru) (w : World) (h : RowR 4 rRu w v t) :
    Calls Try.prog 89 #[v] w fun e w' => e = .returned (.bool (isSch t)) ∧ Below w.heap.size w w' := by
  have hcap := h.cap
  obtain ⟨a1, c1, hv, hl1, hm1, r1⟩ := h.rus
  subst hv
  have R1 := Lib.hid r1
  clear h r1
  unfold maxLen at hm1
  by_cases h8 : t.length ≤ 8
  · go_enter Try.func89, Try.ntmps89
    go_wp2_with fail
    go_loopw [12] (fun i wr => ∃ k : Nat, k ≤ t.length ∧ i = .int .i64 k ∧ Hid (upto (ruAtB t) k = true) ∧ wr.cell? ⟨w.heap.size, 0, none⟩ = some (.int .i64 (prevRu t k).series) ∧ wr.cell? ⟨w.heap.size, 1, none⟩ = some (.int .i64 (prevRu t k).event) ∧ wr.frozen? ⟨w.heap.size, 0, none⟩ = false ∧ wr.frozen? ⟨w.heap.size, 1, none⟩ = false ∧ w.heap.size < wr.heap.size ∧ Below w.heap.size w wr) (fun i _ => t.length - (intOf i).toNat)
    case atStart =>
      refine ⟨0, Nat.zero_le _, rfl, Lib.hid (by simp [upto]), ?_, ?_, ?_, ?_, ?_, ?_⟩
      · exact cell_new w _ _ 0 rfl
      · exact cell_new w _ _ 1 rfl
      · simp
      · simp
      · simp
      · exact below_al (Below.refl _ _) _
    case round =>
      obtain ⟨k, hk, rfl, HU, z0, z1, y0, y1, hwl, hb⟩ := hrel
      by_cases hlt : k < t.length
      · obtain ⟨b1, o1, hb1, rfl, e1⟩ := R1.out.resolve_left (fun e => by rw [e] at hlt; simp at hlt)
        obtain ⟨f, hx⟩ : ∃ s, t.getD k ruD = s := ⟨_, rfl⟩
        obtain ⟨q0, q1, q2, q3, hok⟩ := e1 k hlt
        rw [hx] at q0 q1 q2 q3 hok
        obtain ⟨x0, x1, x2, x3⟩ := f
        simp only at q0 q1 q2 q3
        have f0 := cell_kept q0 hb
        have f1 := cell_kept q1 hb
        have f2 := cell_kept q2 hb
        have f3 := cell_kept q3 hb
        have HX := Lib.hid hx
        have g0 : (0 : Int) ≤ (k : Int) := by omega
        have g1 : (k : Int) < (t.length : Int) := by omega
        obtain ⟨⟨p0, p1, p2, p3⟩, hp⟩ : ∃ s, prevRu t k = s := ⟨_, rfl⟩
        rw [hp] at z0 z1
        simp only at z0 z1
        obtain ⟨bF, hbF⟩ : ∃ b, isRu ⟨x0, x1, x2, x3⟩ = b := ⟨_, rfl⟩
        obtain ⟨bB, hbB⟩ : ∃ b, bef ⟨p0, p1, p2, p3⟩ ⟨x0, x1, x2, x3⟩ = b := ⟨_, rfl⟩
        have HF := Lib.hid hbF
        have HBB := Lib.hid hbB
        have HP := Lib.hid hp
        clear q0 q1 q2 q3 hok hx hp e1
        go_wp2_with fail
        generalize hWE : wr.alloc (.cells #[.int .i64 x0, .int .i64 x1, .int .i64 x2, .int .i64 x3] 56 (0, 0)) = wE
        have bE : Below wr.heap.size wr wE := by rw [← hWE]; exact below_al (Below.refl _ _) _
        have u0 : wE.cell? ⟨wr.heap.size, 0, none⟩ = some (.int .i64 x0) := by rw [← hWE]; exact cell_new wr _ _ 0 rfl
        have u1 : wE.cell? ⟨wr.heap.size, 1, none⟩ = some (.int .i64 x1) := by rw [← hWE]; exact cell_new wr _ _ 1 rfl
        have u2 : wE.cell? ⟨wr.heap.size, 2, none⟩ = some (.int .i64 x2) := by rw [← hWE]; exact cell_new wr _ _ 2 rfl
        have u3 : wE.cell? ⟨wr.heap.size, 3, none⟩ = some (.int .i64 x3) := by rw [← hWE]; exact cell_new wr _ _ 3 rfl
        have s0 : wE.cell? ⟨w.heap.size, 0, none⟩ = some (.int .i64 p0) := by rw [← hWE]; exact below_al_cell z0 _
        have s1 : wE.cell? ⟨w.heap.size, 1, none⟩ = some (.int .i64 p1) := by rw [← hWE]; exact below_al_cell z1 _
        have m0 := cell_regrown u0
        have m1 := cell_regrown u1
        have m2 := cell_regrown u2
        have m3 := cell_regrown u3
        have n0 := cell_regrown s0
        have n1 := cell_regrown s1
        have t0 : wE.frozen? ⟨w.heap.size, 0, none⟩ = false := by rw [← hWE]; exact frozen_kept y0 hwl (below_al (Below.refl _ _) _)
        have t1 : wE.frozen? ⟨w.heap.size, 1, none⟩ = false := by rw [← hWE]; exact frozen_kept y1 hwl (below_al (Below.refl _ _) _)
        have bwE : Below w.heap.size w wE := hb.trans (bE.mono hb.size)
        have hlE : wr.heap.size < wE.heap.size := by rw [← hWE]; simp
        have hc : ∀ d os, Calls Try.prog 143 #[.agg #[.int .i64 x0, .int .i64 x1, .int .i64 x2, .int .i64 x3]] (grow (redrawn wE d) os) fun e w'' => e = .returned (.bool bF) ∧ ∃ p : Regrown, w'' = grow (redrawn wE p.d) p.os := fun d os => Calls.regrown_of (by have := implIsRule_any ⟨x0, x1, x2, x3⟩ (grow (redrawn wE d) os); rwa [HF.out] at this)
        have hd : ∀ d os, Calls Try.prog 145 #[.agg #[.int .i64 x0, .int .i64 x1, .int .i64 x2, .int .i64 x3]] (grow (redrawn wE d) os) fun e w'' => e = .returned (.agg #[.int .i64 x0, .int .i64 x1]) ∧ ∃ p : Regrown, w'' = grow (redrawn wE p.d) p.os := fun d os => Calls.regrown_of (keyOf_any ⟨x0, x1, x2, x3⟩ (grow (redrawn wE d) os))
        have he : ∀ d os, Calls Try.prog 144 #[.agg #[.int .i64 p0, .int .i64 p1], .agg #[.int .i64 x0, .int .i64 x1]] (grow (redrawn wE d) os) fun e w'' => e = .returned (.bool bB) ∧ ∃ p : Regrown, w'' = grow (redrawn wE p.d) p.os := fun d os => Calls.regrown_of (by have := isBefore_any ⟨p0, p1, p2, p3⟩ ⟨x0, x1, x2, x3⟩ (grow (redrawn wE d) os); rwa [HBB.out] at this)
        clear hbF hbB
        cases bF
        · have hnt := notSch hlt (ruAt_no1 HX.out HF.out)
          have HNT := Lib.hid hnt
          clear hnt
          refine wp_region_quiet_below (by kernel_rfl) (by kernel_rfl) ?_
          repeat (go_big_quiet_step (first | exact hc _ _ | exact hd _ _ | exact he _ _))
          refine wpQuiet_nil ?_
          intro _ hw'
          obtain ⟨⟨dq, osq⟩, hw''⟩ := hw'
          subst hw''
          have bq := below_regrown wE dq osq
          generalize grow (redrawn wE dq) osq = w2 at bq ⊢
          go_wp2
          go_ret
          exact ⟨ret_bool HNT.out.symm, bwE.trans (bq.mono bwE.size)⟩
        · cases bB
          · have hnt := notSch hlt (ruAt_no2 HX.out (by rw [HP.out]; exact HBB.out))
            have HNT := Lib.hid hnt
            clear hnt
            refine wp_region_quiet_below (by kernel_rfl) (by kernel_rfl) ?_
            repeat (go_big_quiet_step (first | exact hc _ _ | exact hd _ _ | exact he _ _))
            refine wpQuiet_nil ?_
            intro _ hw'
            obtain ⟨⟨dq, osq⟩, hw''⟩ := hw'
            subst hw''
            have bq := below_regrown wE dq osq
            generalize grow (redrawn wE dq) osq = w2 at bq ⊢
            go_wp2
            go_ret
            exact ⟨ret_bool HNT.out.symm, bwE.trans (bq.mono bwE.size)⟩
          · have HU2 := Lib.hid (upto_succ HU.out (ruAt_yes HX.out HF.out (by rw [HP.out]; exact HBB.out)))
            refine wp_region_quiet_below (by kernel_rfl) (by kernel_rfl) ?_
            repeat (go_big_quiet_step (first | exact hc _ _ | exact hd _ _ | exact he _ _))
            refine wpQuiet_nil ?_
            intro _ hw'
            obtain ⟨⟨dq, osq⟩, hw''⟩ := hw'
            subst hw''
            have bq := below_regrown wE dq osq
            have b2 := bwE.trans (bq.mono bwE.size)
            have l2 : w.heap.size < (grow (redrawn wE dq) osq).heap.size := Nat.lt_of_lt_of_le (Nat.lt_of_le_of_lt hb.size hlE) bq.size
            have i0 := cell_kept u0 bq
            have i1 := cell_kept u1 bq
            have i2 := cell_kept u2 bq
            have i3 := cell_kept u3 bq
            have j0 := cell_kept s0 bq
            have j1 := cell_kept s1 bq
            have k0 := frozen_kept t0 (Nat.lt_of_le_of_lt hb.size hlE) bq
            have k1 := frozen_kept t1 (Nat.lt_of_le_of_lt hb.size hlE) bq
            generalize grow (redrawn wE dq) osq = w2 at *
            clear m0 m1 m2 m3 n0 n1 hc hd he u0 u1 u2 u3 s0 s1 t0 t1 bq bE bwE f0 f1 f2 f3 z0 z1 y0 y1 hWE
            go_wp2_with (first | (go_at_call 145; refine (keyOf_any ⟨x0, x1, x2, x3⟩ _).mono ?_; rintro e w3 ⟨rfl, b3⟩; have r0 := cell_kept j0 b3; have r1 := cell_kept j1 b3; have t0 := frozen_kept k0 l2 b3; have t1 := frozen_kept k1 l2 b3; have b23 := below_chain b2 b3; have l3 := Nat.lt_of_lt_of_le l2 b3.size))
            go_roundw
            case rel =>
              have e0 : prevRu t (k + 1) = ⟨x0, x1, x2, x3⟩ := HX.out
              refine ⟨k + 1, by omega, by go_num, HU2, ?_, ?_, ?_, ?_, ?_, ?_⟩
              · rw [e0, cellset_other _ (by simp), cellset_same _ r0]
              · rw [e0, cellset_same (u := .int .i64 p1) _ (by rw [cellset_other _ (by simp)]; exact r1)]
              · rw [World.frozen?_setCell, World.frozen?_setCell]; exact t0
              · rw [World.frozen?_setCell, World.frozen?_setCell]; exact t1
              · simpa [World.setCell] using l3
              · exact (b23.setCell (Nat.le_refl _) _).setCell (Nat.le_refl _) _
            case measure => simp [intOf]; omega
      · obtain rfl : k = t.length := by omega
        have HS := Lib.hid (sch_all h8 HU.out)
        go_wp2
        go_ret
        exact ⟨ret_bool HS.out.symm, hb⟩
  · have HN := Lib.hid (sch_long h8)
    go_enter Try.func89, Try.ntmps89
    go_wp2
    go_ret
    exact ⟨ret_bool HN.out.symm, Below.refl _ _⟩
end Go.Proofs.Ytenjajcknmfhfaa

namespace Go.Proofs.Ytenjajcknmfhfaa
set_option linter.unusedVariables false
open Go.RowKit Go.Sort

set_option maxRecDepth 20000 in
set_option maxHeartbeats 2000000 in
theorem l4For_any (v : Value) (t : List Ru) (x : Int) (w : World) (h : RowR 4 rRu w v t) (hn : t.length ≤ 1048576) :
    Calls Try.prog 88 #[v, .int .i64 x] w fun e w' => ∃ v', e = .returned v' ∧ RusO w.heap.size w'.heap.size w' v' (forRu t x) ∧ Below w.heap.size w w' := by
  obtain ⟨i0, hi, hz0, hz1, hz2⟩ := info_parts Try.info_ru
  have hok := h.rus_ok
  have HOK := Lib.hid hok
  obtain ⟨a1, c1, hv, hl1, hm1, r1⟩ := h.rus
  subst hv
  have R1 := Lib.hid r1
  clear h r1 hok
  unfold maxLen at hm1
  go_enter Try.func88, Try.ntmps88
  go_wp2_with fail
  go_loopw [5, 6] (fun o i wr => ∃ k : Nat, k ≤ t.length ∧ i = .int .i64 k ∧ wr.ownsRow w.heap.size 56 4 o (forRu (t.take k) x).length (((forRu (t.take k) x).map ruC).flatten) ∧ Below w.heap.size w wr) (fun _ i _ => t.length - (intOf i).toNat)
  case atStart => exact ⟨0, Nat.zero_le _, rfl, by simpa [forRu] using World.ownsRow_made w #[] 0 (Nat.le_refl _) (Nat.zero_le _) rfl, below_al (Below.refl _ _) _⟩
  case round =>
    obtain ⟨k, hk, rfl, hO, hb⟩ := hrel
    by_cases hlt : k < t.length
    · obtain ⟨b1, o1, hb1, rfl, e1⟩ := R1.out.resolve_left (fun e => by rw [e] at hlt; simp at hlt)
      obtain ⟨q0, q1, q2, q3, hok⟩ := e1 k hlt
      have hsucc := forRu_succ (s := x) hlt
      obtain ⟨P, hP⟩ : ∃ P, forRu (t.take k) x = P := ⟨_, rfl⟩
      have hPl : P.length ≤ k := by
        rw [← hP]
        have := forRu_len (t.take k) x
        rw [List.length_take] at this
        omega
      rw [hP] at hO hsucc
      obtain ⟨⟨x0, x1, x2, x3⟩, hx⟩ : ∃ s, t.getD k ruD = s := ⟨_, rfl⟩
      rw [hx] at q0 q1 q2 q3 hsucc
      simp only at q0 q1 q2 q3 hsucc
      have f0 := cell_kept q0 hb
      have f1 := cell_kept q1 hb
      have f2 := cell_kept q2 hb
      have f3 := cell_kept q3 hb
      have HSU := Lib.hid hsucc
      have g0 : (0 : Int) ≤ (k : Int) := by omega
      have g1 : (k : Int) < (t.length : Int) := by omega
      have hsz := hb.size
      clear q0 q1 q2 q3 hok e1 hx hsucc hP
      by_cases he : x0 = x
      · have hq : (x0 == x) = true := by simp [he]
        have HSU2 := Lib.hid (HSU.out.trans (if_pos he))
        clear he
        go_wp2_with (first | (at_builtin; refine wpList_append_own _ rfl _ _ 40 rfl w.heap.size 56 i0 (.agg #[.int .i64 0, .int .i64 0, .int .i64 0, .int .i64 0]) 4 32 Try.underlying40 hi hz0 hz1 hz2 rfl (by decide) _ _ _ rfl (hO.alloc _) ⟨wr.heap.size, 0, none⟩ 1 1 [.int .i64 x0, .int .i64 x1, .int .i64 x2, .int .i64 x3] rfl rfl (cells4_new' _ _ _ _ _ _ (by simp)) (by simp [Value.oneCell']) (by unfold maxLen; omega) (by omega) (by simp; omega) ?_; intro v' w4 hown' hgrow _))
        have HOWN := Lib.hid hown'
        have HB := Lib.hid (below_app hb (Nat.le_refl _) hO hgrow)
        clear hown' hgrow hO
        go_wp2_with fail
        go_roundw
        case rel => exact ⟨k + 1, by omega, by go_num, (by rw [HSU2.out]; simpa [ruC] using HOWN.out), HB.out⟩
        case measure => simp [intOf]; omega
      · have hq : (x0 == x) = false := by simp [he]
        have HSU2 := Lib.hid (HSU.out.trans (if_neg he))
        have HO := Lib.hid hO
        clear he hO
        go_wp2_with fail
        go_roundw
        case rel => exact ⟨k + 1, by omega, by go_num, (by rw [HSU2.out]; exact HO.out), hb⟩
        case measure => simp [intOf]; omega
    · obtain rfl : k = t.length := by omega
      rw [List.take_length] at hO
      have HF := Lib.hid (RusO.of_row hO rfl (fun f hf => HOK.out f (forRu_mem hf).1))
      clear hO
      go_wp2_with fail
      go_ret
      exact ⟨_, rfl, HF.out, hb⟩

end Go.Proofs.Ytenjajcknmfhfaa

namespace Go.Proofs.Ytenjajcknmfhfaa
set_option linter.unusedVariables false
open Go.RowKit Go.Sort

set_option maxRecDepth 20000 in
set_option maxHeartbeats 2000000 in
theorem implRulesFor_any (v : Value) (t : List Ru) (x : Int) (w : World) (h : RowR 4 rRu w v t) (hn : t.length ≤ 1048576) (xs : List Ru) (b : Bool) (hres : rufRes t x = (xs, b)) :
    Calls Try.prog 23 #[v, .int .i64 x] w fun e w' => ∃ v', e = .returned (.tuple #[v', .bool b]) ∧ RusO w.heap.size w'.heap.size w' v' xs ∧ Below w.heap.size w w' := by
  obtain ⟨i0, hi, hz0, hz1, hz2⟩ := info_parts Try.info_ru
  have H := Lib.hid h
  have hok := h.rus_ok
  have HOK := Lib.hid hok
  obtain ⟨a1, c1, hv, hl1, hm1, r1⟩ := h.rus
  subst hv
  have R1 := Lib.hid r1
  unfold maxLen at hm1
  obtain ⟨bs, hs⟩ : ∃ b, isSch t = b := ⟨_, rfl⟩
  obtain ⟨bx, hx⟩ : ∃ b, decide (1 ≤ x ∧ x ≤ 99) = b := ⟨_, rfl⟩
  unfold rufRes at hres
  rw [hs, hx] at hres
  have HS := Lib.hid hs
  have HX := Lib.hid hx
  clear h hs hx r1 hok
  cases bs
  · rw [if_neg (by simp)] at hres
    obtain ⟨rfl, rfl⟩ := Prod.mk.inj hres
    clear hres
    go_enter Try.func23, Try.ntmps23
    go_wp2_with (first | (go_at_call 89; refine (implIsSchedule_any _ t _ H.out).mono ?_; rw [HS.out]; rintro e w1 ⟨rfl, b1⟩))
    go_ret2
    exact ⟨_, rfl, RusO.nil _ _ _, b1⟩
  · cases bx
    · rw [if_neg (by simp)] at hres
      obtain ⟨rfl, rfl⟩ := Prod.mk.inj hres
      clear hres
      go_enter Try.func23, Try.ntmps23
      go_wp2_with (first | (go_at_call 89; refine (implIsSchedule_any _ t _ H.out).mono ?_; rw [HS.out]; rintro e w1 ⟨rfl, b1⟩) | (go_at_call 90; refine (implIsSeries_any _ _).mono ?_; rw [HX.out]; rintro e w' ⟨rfl, rfl⟩))
      go_ret2
      exact ⟨_, rfl, RusO.nil _ _ _, b1⟩
    · rw [if_pos (by simp)] at hres
      obtain ⟨rfl, rfl⟩ := Prod.mk.inj hres
      clear hres
      go_enter Try.func23, Try.ntmps23
      go_wp2_with (first | (go_at_call 89; refine (implIsSchedule_any _ t _ H.out).mono ?_; rw [HS.out]; rintro e w1 ⟨rfl, b1⟩) | (go_at_call 90; refine (implIsSeries_any _ _).mono ?_; rw [HX.out]; rintro e w' ⟨rfl, rfl⟩))
      go_loopw [6, 19] (fun o i wr => ∃ k : Nat, k ≤ t.length ∧ i = .int .i64 k ∧ wr.ownsRow w.heap.size 56 4 o (forRu (t.take k) x).length (((forRu (t.take k) x).map ruC).flatten) ∧ Below w.heap.size w wr) (fun _ i _ => t.length - (intOf i).toNat)
      case atStart => exact ⟨0, Nat.zero_le _, rfl, by simpa [forRu] using (RusO.nil w.heap.size w.heap.size _).1.1, b1⟩
      case round =>
        clear b1
        obtain ⟨k, hk, rfl, hO, hb⟩ := hrel
        by_cases hlt : k < t.length
        · obtain ⟨b1, o1, hb1, rfl, e1⟩ := R1.out.resolve_left (fun e => by rw [e] at hlt; simp at hlt)
          obtain ⟨q0, q1, q2, q3, hok⟩ := e1 k hlt
          have hsucc := forRu_succ (s := x) hlt
          obtain ⟨P, hP⟩ : ∃ P, forRu (t.take k) x = P := ⟨_, rfl⟩
          have hPl : P.length ≤ k := by
            rw [← hP]
            have := forRu_len (t.take k) x
            rw [List.length_take] at this
            omega
          rw [hP] at hO hsucc
          obtain ⟨⟨x0, x1, x2, x3⟩, hx⟩ : ∃ s, t.getD k ruD = s := ⟨_, rfl⟩
          rw [hx] at q0 q1 q2 q3 hsucc
          simp only at q0 q1 q2 q3 hsucc
          have f0 := cell_kept q0 hb
          have f1 := cell_kept q1 hb
          have f2 := cell_kept q2 hb
          have f3 := cell_kept q3 hb
          have HSU := Lib.hid hsucc
          have g0 : (0 : Int) ≤ (k : Int) := by omega
          have g1 : (k : Int) < (t.length : Int) := by omega
          have hsz := hb.size
          clear q0 q1 q2 q3 hok e1 hx hsucc hP
          by_cases he : x0 = x
          · have hq : (x0 == x) = true := by simp [he]
            have HSU2 := Lib.hid (HSU.out.trans (if_pos he))
            have hb2 := below_al hb (.cells #[.int .i64 x0, .int .i64 x1, .int .i64 x2, .int .i64 x3] 56 (0, 0))
            have hO2 := hO.alloc (.cells #[.int .i64 x0, .int .i64 x1, .int .i64 x2, .int .i64 x3] 56 (0, 0))
            clear he hO
            go_wp2_with (first | (at_builtin; refine wpList_append_own _ rfl _ _ 40 rfl w.heap.size 56 i0 (.agg #[.int .i64 0, .int .i64 0, .int .i64 0, .int .i64 0]) 4 32 Try.underlying40 hi hz0 hz1 hz2 rfl (by decide) _ _ _ rfl (hO2.alloc _) ⟨wr.heap.size + 1, 0, none⟩ 1 1 [.int .i64 x0, .int .i64 x1, .int .i64 x2, .int .i64 x3] rfl rfl (cells4_new' _ _ _ _ _ _ (by simp)) (by simp [Value.oneCell']) (by unfold maxLen; omega) (by omega) (by simp; omega) ?_; intro v' w4 hown' hgrow _))
            have HOWN := Lib.hid hown'
            have HB := Lib.hid (below_app hb2 (Nat.le_refl _) hO2 hgrow)
            clear hown' hgrow hO2
            go_wp2_with fail
            go_roundw
            case rel => exact ⟨k + 1, by omega, by go_num, (by rw [HSU2.out]; simpa [ruC] using HOWN.out), HB.out⟩
            case measure => simp [intOf]; omega
          · have hq : (x0 == x) = false := by simp [he]
            have HSU2 := Lib.hid (HSU.out.trans (if_neg he))
            have HO := Lib.hid (hO.alloc (.cells #[.int .i64 x0, .int .i64 x1, .int .i64 x2, .int .i64 x3] 56 (0, 0)))
            clear he hO
            go_wp2_with fail
            go_roundw
            case rel => exact ⟨k + 1, by omega, by go_num, (by rw [HSU2.out]; exact HO.out), below_al hb _⟩
            case measure => simp [intOf]; omega
        · obtain rfl : k = t.length := by omega
          rw [List.take_length] at hO
          have HF := Lib.hid (RusO.of_row hO rfl (fun f hf => HOK.out f (forRu_mem hf).1))
          clear hO
          go_wp2_with fail
          go_ret2
          exact ⟨_, rfl, HF.out, hb⟩
end Go.Proofs.Ytenjajcknmfhfaa

namespace Go.Proofs.Ytenjajcknmfhfaa
set_option linter.unusedVariables false
open Go.RowKit Go.Sort

theorem strRes_no {t : List Ru} {x : Int} {c : Int} {b : Bool} (h : strRes t x = (c, b)) (hn : isSch t = false ∨ (forRu t x).length = 0) : c = 0 ∧ b = false := by
  unfold strRes at h
  rw [if_neg (by rcases hn with e | e <;> simp [e])] at h
  obtain ⟨h1, h2⟩ := Prod.mk.inj h
  exact ⟨h1.symm, h2.symm⟩
theorem strRes_yes {t : List Ru} {x : Int} {c : Int} {b : Bool} (h : strRes t x = (c, b)) (h1 : isSch t = true) (h0 : 0 < (forRu t x).length) : c = minA 0 (forRu t x) ∧ b = true := by
  unfold strRes at h
  rw [if_pos ⟨h1, h0⟩] at h
  obtain ⟨h1, h2⟩ := Prod.mk.inj h
  exact ⟨h1.symm, h2.symm⟩
theorem lonRes_no {t : List Ru} {x : Int} {c : Int} {b : Bool} (h : lonRes t x = (c, b)) (hn : isSch t = false ∨ (forRu t x).length = 0) : c = 0 ∧ b = false := by
  unfold lonRes at h
  rw [if_neg (by rcases hn with e | e <;> simp [e])] at h
  obtain ⟨h1, h2⟩ := Prod.mk.inj h
  exact ⟨h1.symm, h2.symm⟩
theorem lonRes_yes {t : List Ru} {x : Int} {c : Int} {b : Bool} (h : lonRes t x = (c, b)) (h1 : isSch t = true) (h0 : 0 < (forRu t x).length) : c = maxD (forRu t x) ∧ b = true := by
  unfold lonRes at h
  rw [if_pos ⟨h1, h0⟩] at h
  obtain ⟨h1, h2⟩ := Prod.mk.inj h
  exact ⟨h1.symm, h2.symm⟩
theorem ruf_first {t : List Ru} {x : Int} : (rufRes t x).1 = if isSch t = true then forRu t x else [] := by
  unfold rufRes
  rcases hs : isSch t with _ | _
  · simp
  · by_cases hx : 1 ≤ x ∧ x ≤ 99
    · simp [hx]
    · simp [hx, forRu_none hs hx]


theorem l1Most_any (a b : Int) (w : World) : Calls Try.prog 97 #[.int .i64 a, .int .i64 b] w fun e w' => e = .returned (.int .i64 (max a b)) ∧ w' = w := by
  by_cases h : b < a
  · go_enter Try.func97, Try.ntmps97
    go_wp2
    go_ret
    exact ⟨ret_int (by omega), rfl⟩
  · go_enter Try.func97, Try.ntmps97
    go_wp2
    go_ret
    exact ⟨ret_int (by omega), rfl⟩

set_option maxRecDepth 20000 in
set_option maxHeartbeats 2000000 in
theorem specLongestPeriod_any (v : Value) (t : List Ru) (x : Int) (w : World) (h : RowR 4 rRu w v t) (hn : t.length ≤ 1048576) (c : Int) (b : Bool) (hres : lonRes t x = (c, b)) :
    Calls Try.prog 100 #[v, .int .i64 x] w fun e w' => e = .returned (.tuple #[.int .i64 c, .bool b]) ∧ Below w.heap.size w w' := by
  have H := Lib.hid h
  have HRES := Lib.hid hres
  have HOK := Lib.hid h.rus_ok
  obtain ⟨bs, hs⟩ : ∃ b, isSch t = b := ⟨_, rfl⟩
  obtain ⟨R, hR⟩ : ∃ R, forRu t x = R := ⟨_, rfl⟩
  have hRl : R.length ≤ t.length := by rw [← hR]; exact forRu_len t x
  have HS := Lib.hid hs
  have HR := Lib.hid hR
  clear h hres hs hR
  cases bs
  · obtain ⟨rfl, rfl⟩ := lonRes_no HRES.out (.inl HS.out)
    go_enter Try.func100, Try.ntmps100
    go_wp2_with (first | (go_at_call 88; refine (l4For_any _ t x _ H.out hn).mono ?_; rw [HR.out]; rintro e w1 ⟨v1, rfl, ho1, b1⟩; obtain ⟨ga, gn, gc, rfl⟩ := ho1.1.slice; have HO1 := Lib.hid ho1; clear ho1) | (go_at_call 86; refine (l4Good_any _ t _ (H.out.below rRu_stable b1)).mono ?_; rw [HS.out]; rintro e w2 ⟨rfl, b2⟩))
    go_ret2
    exact ⟨rfl, below_chain b1 b2⟩
  · rcases Nat.eq_zero_or_pos R.length with h0 | h0
    · obtain ⟨rfl, rfl⟩ := lonRes_no HRES.out (.inr (by rw [HR.out]; exact h0))
      have hq : ((R.length : Int) == 0) = true := by simp [h0]
      have HQ := Lib.hid h0
      clear h0
      go_enter Try.func100, Try.ntmps100
      go_wp2_with (first | (go_at_call 88; refine (l4For_any _ t x _ H.out hn).mono ?_; rw [HR.out]; rintro e w1 ⟨v1, rfl, ho1, b1⟩; obtain ⟨a1, c1, hv, hl1, hm1, r1⟩ := ho1.row.rus; subst hv; have R1 := Lib.hid r1; clear ho1 r1; unfold maxLen at hm1) | (go_at_call 86; refine (l4Good_any _ t _ (H.out.below rRu_stable b1)).mono ?_; rw [HS.out]; rintro e w2 ⟨rfl, b2⟩))
      go_ret2
      exact ⟨rfl, below_chain b1 b2⟩
    · obtain ⟨rfl, rfl⟩ := lonRes_yes HRES.out HS.out (by rw [HR.out]; exact h0)
      have hq : ((R.length : Int) == 0) = false := by simp; intro e; rw [e] at h0; simp at h0
      have HQ := Lib.hid h0
      clear h0
      rw [HR.out]
      go_enter Try.func100, Try.ntmps100
      go_wp2_with (first | (go_at_call 88; refine (l4For_any _ t x _ H.out hn).mono ?_; rw [HR.out]; rintro e w1 ⟨v1, rfl, ho1, b1⟩; obtain ⟨a1, c1, hv, hl1, hm1, r1⟩ := ho1.row.rus; subst hv; have R1 := Lib.hid r1; clear ho1 r1; unfold maxLen at hm1) | (go_at_call 86; refine (l4Good_any _ t _ (H.out.below rRu_stable b1)).mono ?_; rw [HS.out]; rintro e w2 ⟨rfl, b2⟩))
      have hw12 := b2.size
      go_loopw [7, 8] (fun m i wr => ∃ k : Nat, k ≤ R.length ∧ i = .int .i64 k ∧ m = .int .i64 (maxD (R.take k)) ∧ Below w1.heap.size w1 wr) (fun _ i _ => R.length - (intOf i).toNat)
      case atStart => exact ⟨0, Nat.zero_le _, rfl, rfl, b2⟩
      case round =>
        obtain ⟨k, hk, rfl, rfl, hb⟩ := hrel
        by_cases hlt : k < R.length
        · obtain ⟨b1, o1, hb1, e0, e1⟩ := R1.out.resolve_left (fun e => by rw [e] at hlt; simp at hlt)
          cases e0
          obtain ⟨q0, q1, q2, q3, hok⟩ := e1 k hlt
          have hsucc := maxD_succ hlt
          obtain ⟨⟨x0, x1, x2, x3⟩, hx⟩ : ∃ s, R.getD k ruD = s := ⟨_, rfl⟩
          rw [hx] at q0 q1 q2 q3 hsucc hok
          simp only at q0 q1 q2 q3 hsucc
          have f0 := cell_kept q0 hb
          have f1 := cell_kept q1 hb
          have f2 := cell_kept q2 hb
          have f3 := cell_kept q3 hb
          have HOK2 := Lib.hid hok
          have g0 : (0 : Int) ≤ (k : Int) := by omega
          have g1 : (k : Int) < (R.length : Int) := by omega
          obtain ⟨M, hM⟩ : ∃ M, maxD (R.take k) = M := ⟨_, rfl⟩
          rw [hM] at hsucc ⊢
          have HSU := Lib.hid hsucc
          clear q0 q1 q2 q3 hok e1 hx hsucc hM
          go_wp2_with (first | (go_at_call 97; refine (l1Most_any _ _ _).mono ?_; rintro e w' ⟨rfl, rfl⟩))
          go_roundw
          case rel => exact ⟨k + 1, by omega, by go_num, by rw [HSU.out], hb⟩
          case measure => simp [intOf]; omega
        · obtain rfl : k = R.length := by omega
          rw [List.take_length]
          go_wp2_with fail
          go_ret2
          exact ⟨rfl, b1.trans (hb.mono b1.size)⟩


set_option maxRecDepth 20000 in
set_option maxHeartbeats 2000000 in
theorem implLongestPeriod_any (v : Value) (t : List Ru) (x : Int) (w : World) (h : RowR 4 rRu w v t) (hn : t.length ≤ 1048576) (c : Int) (b : Bool) (hres : lonRes t x = (c, b)) :
    Calls Try.prog 99 #[v, .int .i64 x] w fun e w' => e = .returned (.tuple #[.int .i64 c, .bool b]) ∧ Below w.heap.size w w' := by
  have H := Lib.hid h
  have HOK := Lib.hid h.rus_ok
  obtain ⟨R, bb, hRR⟩ : ∃ R bb, rufRes t x = (R, bb) := ⟨_, _, rfl⟩
  have hR1 : R = if isSch t = true then forRu t x else [] := by rw [← ruf_first, hRR]
  have hRl : R.length ≤ t.length := rufRes_len hRR
  have HRR := Lib.hid hRR
  rcases Nat.eq_zero_or_pos R.length with h0 | h0
  · obtain ⟨rfl, rfl⟩ := lonRes_no hres (by
      rcases hs : isSch t with _ | _
      · exact .inl rfl
      · rw [hs, if_pos rfl] at hR1; rw [← hR1]; exact .inr h0)
    have hq : ((R.length : Int) == 0) = true := by simp [h0]
    have hq2 : decide ((0 : Int) < (R.length : Int)) = false := decide_eq_false (by omega)
    have hq3 : decide (0 < R.length) = false := decide_eq_false (by omega)
    have H0 := Lib.hid h0
    clear h hres hRR hR1 h0
    go_enter Try.func99, Try.ntmps99
    go_wp2_with (first | (go_at_call 23; refine (implRulesFor_any _ t x _ H.out hn R bb HRR.out).mono ?_; rintro e w1 ⟨v1, rfl, ho1, b1⟩; obtain ⟨a1, c1, hv, hl1, hm1, r1⟩ := ho1.row.rus; subst hv; have R1 := Lib.hid r1; clear ho1 r1; unfold maxLen at hm1))
    go_loopw [8, 19] (fun m i wr => ∃ k : Nat, k ≤ R.length ∧ i = .int .i64 k ∧ m = .int .i64 (maxD (R.take k)) ∧ Below w1.heap.size w1 wr) (fun _ i _ => R.length - (intOf i).toNat)
    case atStart => exact ⟨0, Nat.zero_le _, rfl, rfl, Below.refl _ _⟩
    case round =>
      obtain ⟨k, hk, rfl, rfl, hb⟩ := hrel
      by_cases hlt : k < R.length
      · obtain ⟨b1, o1, hb1, e0, e1⟩ := R1.out.resolve_left (fun e => by rw [e] at hlt; simp at hlt)
        cases e0
        obtain ⟨q0, q1, q2, q3, hok⟩ := e1 k hlt
        have hsucc := maxD_succ hlt
        obtain ⟨⟨x0, x1, x2, x3⟩, hx⟩ : ∃ s, R.getD k ruD = s := ⟨_, rfl⟩
        rw [hx] at q0 q1 q2 q3 hsucc hok
        simp only at q0 q1 q2 q3 hsucc
        have f0 := cell_kept q0 hb
        have f1 := cell_kept q1 hb
        have f2 := cell_kept q2 hb
        have f3 := cell_kept q3 hb
        have HOK2 := Lib.hid hok
        have g0 : (0 : Int) ≤ (k : Int) := by omega
        have g1 : (k : Int) < (R.length : Int) := by omega
        obtain ⟨M, hM⟩ : ∃ M, maxD (R.take k) = M := ⟨_, rfl⟩
        rw [hM] at hsucc ⊢
        have HSU := Lib.hid hsucc
        clear q0 q1 q2 q3 hok e1 hx hsucc hM
        go_wp2_with fail
        go_roundw
        case rel => exact ⟨k + 1, by omega, by go_num, by first | (rw [HSU.out]; done) | (rw [HSU.out]; congr 1; split <;> omega), below_al hb _⟩
        case measure => simp [intOf]; omega
      · obtain rfl : k = R.length := by omega
        rw [List.take_length]
        go_wp2_with fail
        go_ret2
        exact ⟨by rw [List.length_eq_zero_iff.1 H0.out]; rfl, b1.trans (hb.mono b1.size)⟩
  · have hs : isSch t = true := by
      rcases hs : isSch t with _ | _
      · rw [hs, if_neg (by simp)] at hR1; rw [hR1] at h0; simp at h0
      · rfl
    rw [hs, if_pos rfl] at hR1
    obtain ⟨rfl, rfl⟩ := lonRes_yes hres hs (by rw [← hR1]; exact h0)
    rw [← hR1]
    have hq2 : decide ((0 : Int) < (R.length : Int)) = true := decide_eq_true (by omega)
    have hq3 : decide (0 < R.length) = true := decide_eq_true (by omega)
    clear h hres hRR hR1 h0 hs
    go_enter Try.func99, Try.ntmps99
    go_wp2_with (first | (go_at_call 23; refine (implRulesFor_any _ t x _ H.out hn R bb HRR.out).mono ?_; rintro e w1 ⟨v1, rfl, ho1, b1⟩; obtain ⟨a1, c1, hv, hl1, hm1, r1⟩ := ho1.row.rus; subst hv; have R1 := Lib.hid r1; clear ho1 r1; unfold maxLen at hm1))
    go_loopw [8, 19] (fun m i wr => ∃ k : Nat, k ≤ R.length ∧ i = .int .i64 k ∧ m = .int .i64 (maxD (R.take k)) ∧ Below w1.heap.size w1 wr) (fun _ i _ => R.length - (intOf i).toNat)
    case atStart => exact ⟨0, Nat.zero_le _, rfl, rfl, Below.refl _ _⟩
    case round =>
      obtain ⟨k, hk, rfl, rfl, hb⟩ := hrel
      by_cases hlt : k < R.length
      · obtain ⟨b1, o1, hb1, e0, e1⟩ := R1.out.resolve_left (fun e => by rw [e] at hlt; simp at hlt)
        cases e0
        obtain ⟨q0, q1, q2, q3, hok⟩ := e1 k hlt
        have hsucc := maxD_succ hlt
        obtain ⟨⟨x0, x1, x2, x3⟩, hx⟩ : ∃ s, R.getD k ruD = s := ⟨_, rfl⟩
        rw [hx] at q0 q1 q2 q3 hsucc hok
        simp only at q0 q1 q2 q3 hsucc
        have f0 := cell_kept q0 hb
        have f1 := cell_kept q1 hb
        have f2 := cell_kept q2 hb
        have f3 := cell_kept q3 hb
        have HOK2 := Lib.hid hok
        have g0 : (0 : Int) ≤ (k : Int) := by omega
        have g1 : (k : Int) < (R.length : Int) := by omega
        obtain ⟨M, hM⟩ : ∃ M, maxD (R.take k) = M := ⟨_, rfl⟩
        rw [hM] at hsucc ⊢
        have HSU := Lib.hid hsucc
        clear q0 q1 q2 q3 hok e1 hx hsucc hM
        go_wp2_with fail
        go_roundw
        case rel => exact ⟨k + 1, by omega, by go_num, by first | (rw [HSU.out]; done) | (rw [HSU.out]; congr 1; split <;> omega), below_al hb _⟩
        case measure => simp [intOf]; omega
      · obtain rfl : k = R.length := by omega
        rw [List.take_length]
        go_wp2_with fail
        go_ret2
        exact ⟨rfl, b1.trans (hb.mono b1.size)⟩
end Go.Proofs.Ytenjajcknmfhfaa

namespace Go.Proofs.Ytenjajcknmfhfaa
set_option linter.unusedVariables false
open Go.RowKit Go.Sort Go.Maps

theorem nil_look (x : Int) (W : World) : (Instr.lookup 115 (.map none) (.int .i64 x) true).run Try.prog W = .ok (.tuple #[.int .i64 0, .bool false]) W := by kernel_rfl
theorem days_look {D : DataW Unit} {t : List Tg} (hf : freeB t = true) (h : DKL D t (fun _ => false)) (x : Int) : has D (.int .i64 x) = (edRes t x).2 ∧ ∀ c, D.atKey (.int .i64 x) (.lit (.int .i64 0)) = .lit (.int .i64 c) → c = (edRes t x).1 := by
  obtain ⟨ht, hc⟩ := freeB_iff.1 hf
  have he : edayX t x = dayX t x := by unfold edayX; rw [if_pos hf]
  have hh := h.has_ x
  simp only [Bool.not_false, Bool.and_true] at hh
  unfold edRes
  rw [he]
  by_cases q : dayX t x < 0
  · rw [if_pos q]
    have hn : has D (.int .i64 x) = false := by rw [hh]; exact decide_eq_false (fun z => by omega)
    refine ⟨hn, fun c hcc => ?_⟩
    rw [atKey_of_not_has hn] at hcc
    cases hcc
    rfl
  · rw [if_neg q]
    have hx : 0 ≤ x ∧ x < 10 := by
      by_cases z : 0 ≤ x ∧ x ≤ 9
      · omega
      · have := dayX_out ht hc z; omega
    have hy : has D (.int .i64 x) = true := by rw [hh]; exact decide_eq_true ⟨hx, by omega⟩
    refine ⟨hy, fun c hcc => ?_⟩
    rw [h.at_ x hy] at hcc
    cases hcc
    rfl
theorem ed_nofree {t : List Tg} (hf : freeB t = false) (x : Int) : edRes t x = (0, false) := by unfold edRes edayX; rw [hf]; rfl
set_option maxHeartbeats 4000000 in
theorem implExpectedDay_any (v : Value) (t : List Tg) (x : Int) (w : World) (h : RowR 3 rTg w v t) (hx : inI x) (n : Int) (b : Bool) (hres : edRes t x = (n, b)) :
    Calls Try.prog 28 #[v, .int .i64 x] w fun e w' => e = .returned (.tuple #[.int .i64 n, .bool b]) ∧ Below w.heap.size w w' := by
  have HKEY := Lib.hid (key_n x hx)
  have HRES := Lib.hid hres
  have hnl := nil_look x
  have H := Lib.hid h
  clear h hres hx
  go_enter Try.func28, Try.ntmps28
  go_wp2_with fail
  refine (expectedDays_any _ t _ H.out).mono ?_
  rintro e w1 ⟨b1, h1⟩
  rcases h1 with ⟨hf, rfl⟩ | ⟨hf, mb, nn, D, rfl, hm, hd⟩
  · have HQ : Hid (n = 0 ∧ b = false) := Lib.hid (by have := HRES.out; rw [ed_nofree hf] at this; obtain ⟨h1, h2⟩ := Prod.mk.inj this; exact ⟨h1.symm, h2.symm⟩)
    clear hf
    go_wp2_with fail
    go_ret2
    exact ⟨by rw [HQ.out.1, HQ.out.2]; rfl, b1⟩
  · have HM := Lib.hid hm
    have HL := Lib.hid (days_look hf hd x)
    clear hm hd hf hnl
    go_wp2_with (first | (at_lookup; refine wpList_lookup_own_ok_int _ rfl _ _ 115 rfl 3 3 .i64 (int_keyed Try.underlying3) Try.underlying115 Try.underlying3 (zero_intX _) mb nn D rfl HM.out (.int .i64 x) (.int .i64 x) rfl HKEY.out ?_; intro c hat hwc; have HC := Lib.hid (HL.out.2 c hat); rw [HL.out.1]; clear hat hwc))
    go_ret2
    exact ⟨by rw [HC.out, HRES.out]; rfl, b1⟩
set_option maxRecDepth 20000 in
set_option maxHeartbeats 8000000 in
theorem l10Day_any (t : List Tg) (ht : areTg t = true) (hc : cycF t = none) : ∀ (f : Nat) (v : Value) (x : Int) (w : World), RowR 3 rTg w v t → shortW t x f →
    Calls Try.prog 96 #[v, .int .i64 x] w fun e w' => e = .returned (.int .i64 (dayX t x)) ∧ Below w.heap.size w w' := by
  intro f
  induction f with
  | zero => intro v x w _ h; exact absurd (shortW_pos h) (Nat.lt_irrefl _)
  | succ f ih =>
    intro v x w h hsh
    have IH := Lib.hid ih
    have H := Lib.hid h
    have HT := Lib.hid ht
    have HC := Lib.hid hc
    have HSH := Lib.hid hsh
    have h10 := tg_len ht
    obtain ⟨a1, c1, hv, hl1, hm1, r1⟩ := h.tgs
    subst hv
    have R1 := Lib.hid r1
    unfold maxLen at hm1
    clear ih h ht hc hsh r1
    by_cases h0 : x = 0
    · have HZ : Hid (dayX t x = 0) := Lib.hid (by rw [h0]; exact dayX_zero t)
      have r0 : (x == 0) = true := by simp [h0]
      clear h0
      go_enter Try.func96, Try.ntmps96
      go_wp2_with fail
      go_ret
      exact ⟨ret_int HZ.out.symm, Below.refl _ _⟩
    · have r0 : (x == 0) = false := by simp [h0]
      obtain ⟨dk, hdk⟩ : ∃ d, dayX t x = d := ⟨_, rfl⟩
      have HDK : Hid (dk = dayGo (dayX t) x t (-1)) := Lib.hid (by rw [← hdk]; exact dayX_step HT.out HC.out h0)
      rw [hdk]
      clear h0 hdk
      go_enter Try.func96, Try.ntmps96
      go_wp2_with fail
      go_loopw [5, 6] (fun o i wr => ∃ (j : Nat) (m : Int), j ≤ t.length ∧ i = .int .i64 j ∧ o = .int .i64 m ∧ Hid (dk = dayGo (dayX t) x (t.drop j) m) ∧ -1 ≤ m ∧ m ≤ 200000 ∧ Below w.heap.size w wr) (fun _ i _ => t.length - (intOf i).toNat)
      case atStart => exact ⟨0, -1, Nat.zero_le _, rfl, rfl, Lib.hid (by rw [List.drop_zero]; exact HDK.out), by omega, by omega, Below.refl _ _⟩
      case round =>
        obtain ⟨j, m, hj, rfl, rfl, HGO, hm0, hm2, hb⟩ := hrel
        have hsz := hb.size
        by_cases hlt : j < t.length
        · obtain ⟨bb, o1, hbb, rfl, e1⟩ := R1.out.resolve_left (fun e => by rw [e] at hlt; simp at hlt)
          obtain ⟨⟨x0, x1, x2⟩, hx⟩ : ∃ s, t.getD j tgD = s := ⟨_, rfl⟩
          obtain ⟨q0, q1, q2, hok⟩ := e1 j hlt
          rw [hx] at q0 q1 q2
          simp only at q0 q1 q2
          have f0 := cell_kept q0 hb
          have f1 := cell_kept q1 hb
          have f2 := cell_kept q2 hb
          have hone := tgOne_iff.1 (tg_at HT.out hlt)
          rw [hx] at hone
          simp only at hone
          have hx2 := hone.2.2.2
          have HDR : Hid (t.drop j = ⟨x0, x1, x2⟩ :: t.drop (j + 1)) := Lib.hid (by rw [List.drop_eq_getElem_cons hlt, ← getTg_lt hlt, hx])
          have g0 : (0 : Int) ≤ (j : Int) := by omega
          have g1 : (j : Int) < (t.length : Int) := by omega
          have HXM : Hid ((⟨x0, x1, x2⟩ : Tg) ∈ t) := Lib.hid (by rw [← hx, getTg_lt hlt]; exact List.getElem_mem hlt)
          clear q0 q1 q2 hok e1 hx hone
          by_cases he : x0 = x
          · have rr : (x0 != x) = false := by simp [he]
            obtain ⟨d1, hd⟩ : ∃ d, dayX t x1 = d := ⟨_, rfl⟩
            have hdin := dayX_in HT.out x1
            rw [hd] at hdin
            have HS1 : Hid (shortW t x1 f) := Lib.hid (shortW_link (x := ⟨x0, x1, x2⟩) HSH.out (folL_mem.2 ⟨HXM.out, he⟩))
            have HCALL : Hid (∀ W, Below w.heap.size w W → Calls Try.prog 96 #[.slice (some ⟨bb, o1, none⟩) t.length c1, .int .i64 x1] W fun e w' => e = .returned (.int .i64 d1) ∧ Below W.heap.size W w') := Lib.hid (fun W hW => by
              have := IH.out (.slice (some ⟨bb, o1, none⟩) t.length c1) x1 W (H.out.below rTg_stable hW) HS1.out
              rwa [hd] at this)
            have HE := Lib.hid he
            have HD1 := Lib.hid hd
            clear he hd
            by_cases hneg : d1 < 0
            · have HR : Hid (dk = -1) := Lib.hid (by rw [HGO.out, HDR.out]; unfold dayGo; simp only; rw [if_pos HE.out, HD1.out, if_pos hneg])
              go_wp2_with fail
              refine (HCALL.out _ hb).mono ?_
              rintro e w2 ⟨rfl, b2⟩
              go_wp2_with fail
              go_ret
              exact ⟨ret_int HR.out.symm, hb.trans (b2.mono hsz)⟩
            · have HG2 : Hid (dk = dayGo (dayX t) x (t.drop (j + 1)) (max m (d1 + x2))) := Lib.hid (by rw [HGO.out, HDR.out]; conv => lhs; unfold dayGo; (simp only); rw [if_pos HE.out, HD1.out, if_neg hneg])
              have hs1 : d1 + x2 ≤ 110000 := by omega
              have hs2 : 0 ≤ d1 + x2 := by omega
              have HMB : Hid (-1 ≤ max m (d1 + x2) ∧ max m (d1 + x2) ≤ 200000) := Lib.hid (by omega)
              go_wp2_with fail
              refine (HCALL.out _ hb).mono ?_
              rintro e w2 ⟨rfl, b2⟩
              have y2 := cell_kept f2 b2
              go_wp2_with (first | (go_at_call 97; refine (l1Most_any m (d1 + x2) _).mono ?_; rintro e w3 ⟨rfl, h3⟩; subst w3))
              go_roundw
              case rel => exact ⟨j + 1, max m (d1 + x2), by omega, by go_num, rfl, HG2, HMB.out.1, HMB.out.2, hb.trans (b2.mono hsz)⟩
              case measure => simp [intOf]; omega
          · have rr : (x0 != x) = true := by simp [he]
            have HG2 : Hid (dk = dayGo (dayX t) x (t.drop (j + 1)) m) := Lib.hid (by rw [HGO.out, HDR.out]; conv => lhs; unfold dayGo; (simp only); rw [if_neg he])
            clear he
            go_wp2_with fail
            go_roundw
            case rel => exact ⟨j + 1, m, by omega, by go_num, rfl, HG2, hm0, hm2, hb⟩
            case measure => simp [intOf]; omega
        · have HR : Hid (dk = m) := Lib.hid (by rw [HGO.out, show j = t.length by omega, List.drop_length]; rfl)
          go_wp2_with fail
          go_ret
          exact ⟨ret_int HR.out.symm, hb⟩
set_option maxHeartbeats 4000000 in
theorem l10Free_any (v : Value) (t : List Tg) (w : World) (h : RowR 3 rTg w v t) : Calls Try.prog 95 #[v] w fun e w' => e = .returned (.bool (freeB t)) ∧ Below w.heap.size w w' := by
  have H := Lib.hid h
  obtain ⟨f, b, hres⟩ : ∃ f b, hcRes t = (f, b) := ⟨_, _, rfl⟩
  have HRES := Lib.hid hres
  have HX : Hid (freeB t = (b && !f)) := Lib.hid (by
    unfold hcRes at hres
    unfold freeB
    rcases ha : areTg t with _ | _
    · rw [ha, if_neg (by simp)] at hres
      obtain ⟨rfl, rfl⟩ := Prod.mk.inj hres
      rfl
    · rw [ha, if_pos rfl] at hres
      obtain ⟨rfl, rfl⟩ := Prod.mk.inj hres
      rcases cycF t with _ | p <;> rfl)
  rw [HX.out]
  clear h hres
  cases b
  · go_enter Try.func95, Try.ntmps95
    go_wp2_with (first | (go_at_call 15; refine (specHasCycle_any _ t _ H.out f false HRES.out).mono ?_; rintro e w1 ⟨rfl, b1⟩))
    go_ret
    exact ⟨rfl, b1⟩
  · cases f
    · go_enter Try.func95, Try.ntmps95
      go_wp2_with (first | (go_at_call 15; refine (specHasCycle_any _ t _ H.out false true HRES.out).mono ?_; rintro e w1 ⟨rfl, b1⟩))
      go_ret
      exact ⟨rfl, b1⟩
    · go_enter Try.func95, Try.ntmps95
      go_wp2_with (first | (go_at_call 15; refine (specHasCycle_any _ t _ H.out true true HRES.out).mono ?_; rintro e w1 ⟨rfl, b1⟩))
      go_ret
      exact ⟨rfl, b1⟩
set_option maxHeartbeats 4000000 in
theorem specExpectedDay_any (v : Value) (t : List Tg) (x : Int) (w : World) (h : RowR 3 rTg w v t) (n : Int) (b : Bool) (hres : edRes t x = (n, b)) :
    Calls Try.prog 29 #[v, .int .i64 x] w fun e w' => e = .returned (.tuple #[.int .i64 n, .bool b]) ∧ Below w.heap.size w w' := by
  have H := Lib.hid h
  have HRES := Lib.hid hres
  obtain ⟨bf, hbf⟩ : ∃ b, freeB t = b := ⟨_, rfl⟩
  have HBF := Lib.hid hbf
  clear h hres hbf
  cases bf
  · have HQ : Hid (n = 0 ∧ b = false) := Lib.hid (by have := HRES.out; rw [ed_nofree HBF.out] at this; obtain ⟨h1, h2⟩ := Prod.mk.inj this; exact ⟨h1.symm, h2.symm⟩)
    go_enter Try.func29, Try.ntmps29
    go_wp2_with fail
    refine (l10Free_any _ t _ H.out).mono ?_
    rw [HBF.out]
    rintro e w1 ⟨rfl, b1⟩
    go_wp2_with fail
    go_ret2
    exact ⟨by rw [HQ.out.1, HQ.out.2]; rfl, b1⟩
  · obtain ⟨ht, hc⟩ := freeB_iff.1 HBF.out
    have HT := Lib.hid ht
    have HC := Lib.hid hc
    obtain ⟨d, hd⟩ : ∃ d, dayX t x = d := ⟨_, rfl⟩
    have HE : Hid (edRes t x = if d < 0 then (0, false) else (d, true)) := Lib.hid (by unfold edRes edayX; rw [if_pos HBF.out, hd])
    have HDD := Lib.hid hd
    have HLD : Hid (∀ W, Below w.heap.size w W → Calls Try.prog 96 #[v, .int .i64 x] W fun e w' => e = .returned (.int .i64 d) ∧ Below W.heap.size W w') := Lib.hid (fun W hW => by
      have := l10Day_any t HT.out HC.out 10 v x W (H.out.below rTg_stable hW) (shortW_ten HT.out HC.out x)
      rwa [hd] at this)
    obtain ⟨bi, hbi⟩ : ∃ b, decide (0 ≤ x ∧ x ≤ 9) = b := ⟨_, rfl⟩
    have HBI := Lib.hid hbi
    clear ht hc hd hbi
    cases bi
    · have HQ : Hid (n = 0 ∧ b = false) := Lib.hid (by
        have h1 := dayX_out HT.out HC.out (of_decide_eq_false HBI.out)
        rw [HDD.out] at h1
        have := HRES.out; rw [HE.out, if_pos (by omega)] at this; obtain ⟨h1, h2⟩ := Prod.mk.inj this; exact ⟨h1.symm, h2.symm⟩)
      go_enter Try.func29, Try.ntmps29
      go_wp2_with fail
      refine (l10Free_any _ t _ H.out).mono ?_
      rw [HBF.out]
      rintro e w1 ⟨rfl, b1⟩
      go_wp2_with fail
      refine (l1In_any _ _ _ _).mono ?_
      rw [HBI.out]
      rintro e w2 ⟨rfl, h2⟩
      subst w2
      go_wp2_with fail
      go_ret2
      exact ⟨by rw [HQ.out.1, HQ.out.2]; rfl, b1⟩
    · by_cases hneg : d < 0
      · have HQ : Hid (n = 0 ∧ b = false) := Lib.hid (by have := HRES.out; rw [HE.out, if_pos hneg] at this; obtain ⟨h1, h2⟩ := Prod.mk.inj this; exact ⟨h1.symm, h2.symm⟩)
        go_enter Try.func29, Try.ntmps29
        go_wp2_with fail
        refine (l10Free_any _ t _ H.out).mono ?_
        rw [HBF.out]
        rintro e w1 ⟨rfl, b1⟩
        go_wp2_with fail
        refine (l1In_any _ _ _ _).mono ?_
        rw [HBI.out]
        rintro e w2 ⟨rfl, h2⟩
        subst w2
        go_wp2_with fail
        refine (HLD.out _ b1).mono ?_
        rintro e w3 ⟨rfl, b3⟩
        go_wp2_with fail
        go_ret2
        exact ⟨by rw [HQ.out.1, HQ.out.2]; rfl, b1.trans (b3.mono b1.size)⟩
      · have HQ : Hid (n = d ∧ b = true) := Lib.hid (by have := HRES.out; rw [HE.out, if_neg hneg] at this; obtain ⟨h1, h2⟩ := Prod.mk.inj this; exact ⟨h1.symm, h2.symm⟩)
        go_enter Try.func29, Try.ntmps29
        go_wp2_with fail
        refine (l10Free_any _ t _ H.out).mono ?_
        rw [HBF.out]
        rintro e w1 ⟨rfl, b1⟩
        go_wp2_with fail
        refine (l1In_any _ _ _ _).mono ?_
        rw [HBI.out]
        rintro e w2 ⟨rfl, h2⟩
        subst w2
        go_wp2_with fail
        refine (HLD.out _ b1).mono ?_
        rintro e w3 ⟨rfl, b3⟩
        replace b3 := b1.trans (b3.mono b1.size)
        go_wp2_with fail
        refine (HLD.out _ b3).mono ?_
        rintro e w4 ⟨rfl, b4⟩
        go_wp2_with fail
        go_ret2
        exact ⟨by rw [HQ.out.1, HQ.out.2]; rfl, b3.trans (b4.mono b3.size)⟩
end Go.Proofs.Ytenjajcknmfhfaa

namespace Go.Proofs.Ytenjajcknmfhfaa
set_option linter.unusedVariables false
open Go.RowKit Go.Sort Go.Maps

theorem dueL_neg {D : Int → Int} {R : List Ru} {j : Nat} {m : Int} (hj : j < R.length) (h : D (R.getD j ruD).event < 0) : dueL D (R.drop j) m = none := by
  rw [List.drop_eq_getElem_cons hj, ← getRu_lt hj]
  unfold dueL
  rw [if_pos h]
theorem dueL_step {D : Int → Int} {R : List Ru} {j : Nat} {m : Int} (hj : j < R.length) (h : 0 ≤ D (R.getD j ruD).event) : dueL D (R.drop j) m = dueL D (R.drop (j + 1)) (max m (D (R.getD j ruD).event + (R.getD j ruD).days)) := by
  rw [List.drop_eq_getElem_cons hj, ← getRu_lt hj]
  conv => lhs; unfold dueL
  rw [if_neg (by omega)]
theorem dueT_ok {s : List Ru} {k : Int} : ∀ r ∈ (rufRes s k).1, isRu r = true := by
  intro r hr
  unfold rufRes at hr
  split at hr
  · rename_i h
    rw [Bool.and_eq_true] at h
    exact forRu_ok h.1 k r hr
  · simp at hr
theorem rufT_len (s : List Ru) (k : Int) : (rufRes s k).1.length ≤ 8 := by
  unfold rufRes
  split
  · rename_i h
    rw [Bool.and_eq_true] at h
    exact Nat.le_trans (forRu_len s k) (sch_len h.1)
  · simp
theorem dueT_of {t : List Tg} {s : List Ru} {k : Int} {R : List Ru} (hR : (rufRes s k).1 = R) (h0 : R ≠ []) : dueTRes t s k = match dueL (edayX t) R 0 with | some m => (m, true) | none => (0, false) := by
  unfold dueTRes
  rw [hR, if_neg h0]
  rcases dueL (edayX t) R 0 with _ | m <;> rfl
theorem dueT_nil {t : List Tg} {s : List Ru} {k : Int} (hR : (rufRes s k).1 = []) : dueTRes t s k = (0, false) := by
  unfold dueTRes
  rw [hR, if_pos rfl]
def LookD (W : World) (m : Value) (t : List Tg) : Prop := ∀ x, inI x → (Instr.lookup 115 m (.int .i64 x) true).run Try.prog W = .ok (.tuple #[.int .i64 (edRes t x).1, .bool (edRes t x).2]) W
theorem look_nilD {t : List Tg} (hf : freeB t = false) (W : World) : LookD W (.map none) t := fun x _ => by
  rw [ed_nofree hf]
  exact nil_look x W
theorem look_ownD {t : List Tg} {W : World} {mb nn : Nat} {D : DataW Unit} (hf : freeB t = true) (hm : DayI W mb nn D) (hd : DKL D t (fun _ => false)) : LookD W (.map (some mb)) t := fun x hx => by
  obtain ⟨h1, h2⟩ := days_look hf hd x
  have hk := key_n x hx
  obtain ⟨v, ps, hrun, hv⟩ := hm.look_ok (int_keyed Try.underlying3) Try.underlying115 (zero_intX W) (zd := .lit (.int .i64 0)) (zp := []) (plainElem_int Try.underlying3 (by decide)) hk
  obtain ⟨c, rfl, hc, _⟩ := plainElem_int_inv Try.underlying3 hv
  rw [hrun, h1, h2 c (congrArg Prod.fst hc)]
set_option maxRecDepth 20000 in
set_option maxHeartbeats 8000000 in
theorem implExpectedDue_any (v v1 : Value) (t : List Tg) (s : List Ru) (k : Int) (w : World) (h : RowR 3 rTg w v t) (h1 : RowR 4 rRu w v1 s) (hn : s.length ≤ 1048576) (n : Int) (b : Bool) (hres : dueTRes t s k = (n, b)) :
    Calls Try.prog 31 #[v, v1, .int .i64 k] w fun e w' => e = .returned (.tuple #[.int .i64 n, .bool b]) ∧ Below w.heap.size w w' := by
  have H := Lib.hid h
  have H1 := Lib.hid h1
  have HRES := Lib.hid hres
  obtain ⟨R, br, hR⟩ : ∃ R b, rufRes s k = (R, b) := ⟨_, _, rfl⟩
  have HR := Lib.hid hR
  have HR1 : Hid ((rufRes s k).1 = R) := Lib.hid (by rw [hR])
  have hRl : R.length ≤ 8 := by rw [← HR1.out]; exact rufT_len s k
  have HOK : Hid (∀ r ∈ R, isRu r = true) := Lib.hid (by rw [← HR1.out]; exact dueT_ok)
  clear h h1 hres hR
  go_enter Try.func31, Try.ntmps31
  go_wp2_with fail
  refine (implRulesFor_any _ s k _ H1.out hn R br HR.out).mono ?_
  rintro e w1 ⟨u1, rfl, ho1, b1⟩
  obtain ⟨ra, rc, hgv, hgl, hgm, hr3⟩ := ho1.row.rus
  subst hgv
  have R3 := Lib.hid hr3
  unfold maxLen at hgm
  clear ho1 hr3
  go_wp2_with fail
  refine (expectedDays_any _ t _ (H.out.below rTg_stable b1)).mono ?_
  rintro e w2 ⟨b2, hd⟩
  have hw12 := b2.size
  have hmap : ∃ (mp : Value) (bo : Bool), e = .returned (.tuple #[mp, .bool bo]) ∧ (∃ o, mp = .map o) ∧ ∀ W, Below w2.heap.size w2 W → LookD W mp t := by
    rcases hd with ⟨hf, rfl⟩ | ⟨hf, mb, nn, D, rfl, hm, hd⟩
    · exact ⟨_, _, rfl, ⟨_, rfl⟩, fun W _ => look_nilD hf W⟩
    · exact ⟨_, _, rfl, ⟨_, rfl⟩, fun W hW => look_ownD hf (hm.kept (grownBy_of_below hW none) (by simp)) hd⟩
  obtain ⟨mp, bo, rfl, ⟨mo, rfl⟩, hlk⟩ := hmap
  have HLK := Lib.hid hlk
  clear hd hlk
  have hw01 := b1.size
  go_wp2_with fail
  go_loopw [12, 30] (fun o i wr => ∃ (j : Nat) (dd : Int), j ≤ R.length ∧ i = .int .i64 j ∧ o = .int .i64 dd ∧ Hid (dueL (edayX t) R 0 = dueL (edayX t) (R.drop j) dd) ∧ 0 ≤ dd ∧ dd ≤ 200000 ∧ Below w2.heap.size w2 wr) (fun _ i _ => R.length - (intOf i).toNat)
  case atStart => exact ⟨0, 0, Nat.zero_le _, rfl, rfl, Lib.hid (by rw [List.drop_zero]), by omega, by omega, Below.refl _ _⟩
  case round =>
    obtain ⟨j, dd, hj, rfl, rfl, HGO, hd0, hd1, hb⟩ := hrel
    have hsz := hb.size
    have hbw := b1.trans ((b2.mono hw01).trans (hb.mono (by omega)))
    have hb12 : Below w1.heap.size w1 wr := b2.trans (hb.mono hw12)
    by_cases hlt : j < R.length
    · obtain ⟨bb, o1, hbb, rfl, e1⟩ := R3.out.resolve_left (fun e => by rw [e] at hlt; simp at hlt)
      obtain ⟨⟨x0, x1, x2, x3⟩, hx⟩ : ∃ x, R.getD j ruD = x := ⟨_, rfl⟩
      obtain ⟨q0, q1, q2, q3, _⟩ := e1 j hlt
      rw [hx] at q0 q1 q2 q3
      simp only at q0 q1 q2 q3
      have f0 := cell_kept q0 hb12
      have f1 := cell_kept q1 hb12
      have f2 := cell_kept q2 hb12
      have f3 := cell_kept q3 hb12
      have hru := isRu_iff.1 (HOK.out ⟨x0, x1, x2, x3⟩ (by rw [← hx, getRu_lt hlt]; exact List.getElem_mem hlt))
      simp only at hru
      have hx1 := hru.2.1
      have hx2 := hru.2.2.1
      have hlk := HLK.out (wr.alloc (.cells #[.int .i64 x0, .int .i64 x1, .int .i64 x2, .int .i64 x3] 56 (0, 0))) (below_al hb _) x1 (by simp [inI]; omega)
      have HX := Lib.hid hx
      have hba := below_al hbw (.cells #[.int .i64 x0, .int .i64 x1, .int .i64 x2, .int .i64 x3] 56 (0, 0))
      have hba2 := below_al hb (.cells #[.int .i64 x0, .int .i64 x1, .int .i64 x2, .int .i64 x3] 56 (0, 0))
      have g0 : (0 : Int) ≤ (j : Int) := by omega
      have g1 : (j : Int) < (R.length : Int) := by omega
      obtain ⟨d1, hd⟩ : ∃ d, edayX t x1 = d := ⟨_, rfl⟩
      have hdin := edayX_in t x1
      rw [hd] at hdin
      unfold edRes at hlk
      rw [hd] at hlk
      have HD1 := Lib.hid hd
      clear q0 q1 q2 q3 e1 hx hd hru
      by_cases hneg : d1 < 0
      · rw [if_pos hneg] at hlk
        have HQ : Hid (n = 0 ∧ b = false) := Lib.hid (by
          have := HRES.out
          rw [dueT_of HR1.out (fun e => by rw [e] at hlt; simp at hlt), HGO.out, dueL_neg hlt (by rw [HX.out]; simp only; rw [HD1.out]; exact hneg)] at this
          obtain ⟨h1, h2⟩ := Prod.mk.inj this
          exact ⟨h1.symm, h2.symm⟩)
        clear hneg
        go_wp2_with fail
        go_ret2
        exact ⟨by rw [HQ.out.1, HQ.out.2]; rfl, hba⟩
      · have hpos : 0 ≤ d1 := by omega
        rw [if_neg hneg] at hlk
        have HG2 : Hid (dueL (edayX t) R 0 = dueL (edayX t) (R.drop (j + 1)) (max dd (d1 + x2))) := Lib.hid (by
          rw [HGO.out, dueL_step hlt (by rw [HX.out]; simp only; rw [HD1.out]; exact hpos), HX.out]
          simp only
          rw [HD1.out])
        have hs1 : d1 + x2 ≤ 130000 := by omega
        have hs0 : 0 ≤ d1 + x2 := by omega
        clear hneg
        by_cases hmx : dd < d1 + x2
        · have HRS : Hid (max dd (d1 + x2) = d1 + x2) := Lib.hid (by omega)
          have hmx2 : max dd (d1 + x2) = d1 + x2 := HRS.out
          go_wp2_with fail
          go_roundw
          case rel => exact ⟨j + 1, d1 + x2, by omega, by go_num, by first | rfl | (rw [if_pos hmx]) | (rw [hmx2]), Lib.hid (by rw [HG2.out, HRS.out]), by omega, by omega, hba2⟩
          case measure => simp [intOf]; omega
        · have HRS : Hid (max dd (d1 + x2) = dd) := Lib.hid (by omega)
          have hmx2 : max dd (d1 + x2) = dd := HRS.out
          go_wp2_with fail
          go_roundw
          case rel => exact ⟨j + 1, dd, by omega, by go_num, by first | rfl | (rw [if_neg hmx]) | (rw [hmx2]), Lib.hid (by rw [HG2.out, HRS.out]), by omega, by omega, hba2⟩
          case measure => simp [intOf]; omega
    · have hjl : j = R.length := by omega
      by_cases hl0 : R.length = 0
      · have HQ : Hid (n = 0 ∧ b = false ∧ dd = 0) := Lib.hid (by
          have h0 := List.length_eq_zero_iff.1 hl0
          have := HRES.out
          rw [dueT_nil (by rw [HR1.out, h0])] at this
          obtain ⟨h1, h2⟩ := Prod.mk.inj this
          have h3 := HGO.out
          rw [h0, List.drop_nil] at h3
          unfold dueL at h3
          exact ⟨h1.symm, h2.symm, (Option.some.inj h3).symm⟩)
        have gl : ¬ (0 : Int) < (R.length : Int) := by omega
        have gl3 : decide (0 < R.length) = false := decide_eq_false (by omega)
        clear hjl hl0
        go_wp2_with fail
        go_ret2
        exact ⟨by rw [HQ.out.1, HQ.out.2.1, HQ.out.2.2]; rfl, hbw⟩
      · have HQ : Hid (n = dd ∧ b = true) := Lib.hid (by
          have := HRES.out
          rw [dueT_of HR1.out (fun e => by rw [e] at hl0; simp at hl0), HGO.out, hjl, List.drop_length] at this
          obtain ⟨h1, h2⟩ := Prod.mk.inj this
          exact ⟨h1.symm, h2.symm⟩)
        have gl : (0 : Int) < (R.length : Int) := by omega
        have gl3 : decide (0 < R.length) = true := decide_eq_true (by omega)
        clear hjl hl0
        go_wp2_with fail
        go_ret2
        exact ⟨by rw [HQ.out.1, HQ.out.2]; rfl, hbw⟩
theorem dueL_start {D : Int → Int} {R : List Ru} (h0 : R ≠ []) (hok : ∀ r ∈ R, 0 ≤ r.days) : dueL D R (-1) = dueL D R 0 := by
  rcases R with _ | ⟨r, R⟩
  · exact absurd rfl h0
  · unfold dueL
    have := hok r (by simp)
    by_cases q : D r.event < 0
    · rw [if_pos q, if_pos q]
    · rw [if_neg q, if_neg q]
      congr 1
      omega
theorem dueL_pos {D : Int → Int} : ∀ (R : List Ru) (m : Int), -1 ≤ m → (∀ r ∈ R, 0 ≤ r.days) → R ≠ [] → ∀ x, dueL D R m = some x → 0 ≤ x
  | [], _, _, _, h0, _, _ => absurd rfl h0
  | r :: R, m, hm, hok, _, x, hx => by
    unfold dueL at hx
    have h1 := hok r (by simp)
    by_cases q : D r.event < 0
    · rw [if_pos q] at hx; cases hx
    · rw [if_neg q] at hx
      rcases R with _ | ⟨r2, R⟩
      · unfold dueL at hx
        have := Option.some.inj hx
        omega
      · exact dueL_pos (r2 :: R) _ (by omega) (fun z hz => hok z (by simp [hz])) (by simp) x hx
set_option maxRecDepth 20000 in
set_option maxHeartbeats 8000000 in
theorem specExpectedDue_any (v v1 : Value) (t : List Tg) (s : List Ru) (k : Int) (w : World) (h : RowR 3 rTg w v t) (h1 : RowR 4 rRu w v1 s) (hn : s.length ≤ 1048576) (n : Int) (b : Bool) (hres : dueTRes t s k = (n, b)) :
    Calls Try.prog 32 #[v, v1, .int .i64 k] w fun e w' => e = .returned (.tuple #[.int .i64 n, .bool b]) ∧ Below w.heap.size w w' := by
  have H := Lib.hid h
  have H1 := Lib.hid h1
  have HRES := Lib.hid hres
  obtain ⟨bf, hbf⟩ : ∃ b, freeB t = b := ⟨_, rfl⟩
  obtain ⟨bs, hbs⟩ : ∃ b, isSch s = b := ⟨_, rfl⟩
  obtain ⟨bk, hbk⟩ : ∃ b, decide (1 ≤ k ∧ k ≤ 99) = b := ⟨_, rfl⟩
  have HBF := Lib.hid hbf
  have HBS := Lib.hid hbs
  have HBK := Lib.hid hbk
  have HRF : Hid (rufRes s k = if (bs && bk) = true then (forRu s k, true) else ([], false)) := Lib.hid (by unfold rufRes; rw [hbs, hbk])
  clear h h1 hres hbf hbs hbk
  cases bf
  · have HQ : Hid (n = 0 ∧ b = false) := Lib.hid (by
      have := HRES.out
      have hz : dueTRes t s k = (0, false) := by
        by_cases h0 : (rufRes s k).1 = []
        · exact dueT_nil h0
        · rw [dueT_of rfl h0]
          obtain ⟨r, R, hr⟩ : ∃ r R, (rufRes s k).1 = r :: R := by
            rcases q : (rufRes s k).1 with _ | ⟨r, R⟩
            · exact absurd q h0
            · exact ⟨r, R, rfl⟩
          rw [hr]
          unfold dueL
          rw [if_pos (by unfold edayX; rw [HBF.out]; simp)]
      rw [hz] at this
      obtain ⟨h1, h2⟩ := Prod.mk.inj this
      exact ⟨h1.symm, h2.symm⟩)
    go_enter Try.func32, Try.ntmps32
    go_wp2_with fail
    refine (l10Free_any _ t _ H.out).mono ?_
    rw [HBF.out]
    rintro e w1 ⟨rfl, b1⟩
    go_wp2_with fail
    go_ret2
    exact ⟨by rw [HQ.out.1, HQ.out.2]; rfl, b1⟩
  · obtain ⟨ht, hc⟩ := freeB_iff.1 HBF.out
    have HT := Lib.hid ht
    have HC := Lib.hid hc
    have HED : Hid (edayX t = dayX t) := Lib.hid (by funext x; unfold edayX; rw [if_pos HBF.out])
    clear ht hc
    cases bs
    · have HQ : Hid (n = 0 ∧ b = false) := Lib.hid (by have := HRES.out; rw [dueT_nil (by rw [HRF.out]; rfl)] at this; obtain ⟨h1, h2⟩ := Prod.mk.inj this; exact ⟨h1.symm, h2.symm⟩)
      go_enter Try.func32, Try.ntmps32
      go_wp2_with fail
      refine (l10Free_any _ t _ H.out).mono ?_
      rw [HBF.out]
      rintro e w1 ⟨rfl, b1⟩
      go_wp2_with fail
      refine (l4Good_any _ s _ (H1.out.below rRu_stable b1)).mono ?_
      rw [HBS.out]
      rintro e w2 ⟨rfl, b2⟩
      go_wp2_with fail
      go_ret2
      exact ⟨by rw [HQ.out.1, HQ.out.2]; rfl, b1.trans (b2.mono b1.size)⟩
    · cases bk
      · have HQ : Hid (n = 0 ∧ b = false) := Lib.hid (by have := HRES.out; rw [dueT_nil (by rw [HRF.out]; rfl)] at this; obtain ⟨h1, h2⟩ := Prod.mk.inj this; exact ⟨h1.symm, h2.symm⟩)
        go_enter Try.func32, Try.ntmps32
        go_wp2_with fail
        refine (l10Free_any _ t _ H.out).mono ?_
        rw [HBF.out]
        rintro e w1 ⟨rfl, b1⟩
        go_wp2_with fail
        refine (l4Good_any _ s _ (H1.out.below rRu_stable b1)).mono ?_
        rw [HBS.out]
        rintro e w2 ⟨rfl, b2⟩
        replace b2 := b1.trans (b2.mono b1.size)
        go_wp2_with fail
        refine (l1In_any _ _ _ _).mono ?_
        rw [HBK.out]
        rintro e w3 ⟨rfl, h3⟩
        subst w3
        go_wp2_with fail
        go_ret2
        exact ⟨by rw [HQ.out.1, HQ.out.2]; rfl, b2⟩
      · obtain ⟨R, hR⟩ : ∃ R, forRu s k = R := ⟨_, rfl⟩
        have HR1 : Hid ((rufRes s k).1 = R) := Lib.hid (by rw [HRF.out]; exact hR)
        have hRl : R.length ≤ 8 := by rw [← HR1.out]; exact rufT_len s k
        have HOK : Hid (∀ r ∈ R, isRu r = true) := Lib.hid (by rw [← HR1.out]; exact dueT_ok)
        have HRR := Lib.hid hR
        clear hR
        go_enter Try.func32, Try.ntmps32
        go_wp2_with fail
        refine (l10Free_any _ t _ H.out).mono ?_
        rw [HBF.out]
        rintro e w1 ⟨rfl, b1⟩
        go_wp2_with fail
        refine (l4Good_any _ s _ (H1.out.below rRu_stable b1)).mono ?_
        rw [HBS.out]
        rintro e w2 ⟨rfl, b2⟩
        replace b2 := b1.trans (b2.mono b1.size)
        go_wp2_with fail
        refine (l1In_any _ _ _ _).mono ?_
        rw [HBK.out]
        rintro e w3 ⟨rfl, h3⟩
        subst w3
        go_wp2_with fail
        refine (l4For_any _ s k _ (H1.out.below rRu_stable b2) hn).mono ?_
        rw [HRR.out]
        rintro e w4 ⟨u1, rfl, ho1, b4⟩
        obtain ⟨ra, rc, hgv, hgl, hgm, hr3⟩ := ho1.row.rus
        subst hgv
        have R3 := Lib.hid hr3
        unfold maxLen at hgm
        have hs2 := b2.size
        have hs4 := b4.size
        have b24 := b2.trans (b4.mono hs2)
        clear ho1 hr3
        go_wp2_with fail
        go_loopw [9, 10] (fun o i wr => ∃ (j : Nat) (dd : Int), j ≤ R.length ∧ i = .int .i64 j ∧ o = .int .i64 dd ∧ Hid (dueL (dayX t) R (-1) = dueL (dayX t) (R.drop j) dd) ∧ -1 ≤ dd ∧ dd ≤ 200000 ∧ Below w4.heap.size w4 wr) (fun _ i _ => R.length - (intOf i).toNat)
        case atStart => exact ⟨0, -1, Nat.zero_le _, rfl, rfl, Lib.hid (by rw [List.drop_zero]), by omega, by omega, Below.refl _ _⟩
        case round =>
          obtain ⟨j, dd, hj, rfl, rfl, HGO, hd0, hd1, hb⟩ := hrel
          have hsz := hb.size
          have hbw := b24.trans (hb.mono (by omega))
          by_cases hlt : j < R.length
          · obtain ⟨bb, o1, hbb, rfl, e1⟩ := R3.out.resolve_left (fun e => by rw [e] at hlt; simp at hlt)
            obtain ⟨⟨x0, x1, x2, x3⟩, hx⟩ : ∃ x, R.getD j ruD = x := ⟨_, rfl⟩
            obtain ⟨q0, q1, q2, q3, _⟩ := e1 j hlt
            rw [hx] at q1 q2
            simp only at q1 q2
            have f1 := cell_kept q1 hb
            have f2 := cell_kept q2 hb
            have hru := isRu_iff.1 (HOK.out ⟨x0, x1, x2, x3⟩ (by rw [← hx, getRu_lt hlt]; exact List.getElem_mem hlt))
            simp only at hru
            have hx2 := hru.2.2.1
            have HX := Lib.hid hx
            have g0 : (0 : Int) ≤ (j : Int) := by omega
            have g1 : (j : Int) < (R.length : Int) := by omega
            obtain ⟨d1, hd⟩ : ∃ d, dayX t x1 = d := ⟨_, rfl⟩
            have hdin := dayX_in HT.out x1
            rw [hd] at hdin
            have HD1 := Lib.hid hd
            have HCALL : Hid (Calls Try.prog 96 #[v, .int .i64 x1] wr fun e w' => e = .returned (.int .i64 d1) ∧ Below wr.heap.size wr w') := Lib.hid (by
              have := l10Day_any t HT.out HC.out 10 v x1 wr (H.out.below rTg_stable hbw) (shortW_ten HT.out HC.out x1)
              rwa [hd] at this)
            clear q0 q1 q2 q3 e1 hx hd hru
            by_cases hneg : d1 < 0
            · have HQ : Hid (n = 0 ∧ b = false) := Lib.hid (by
                have h0 : R ≠ [] := fun e => by rw [e] at hlt; simp at hlt
                have := HRES.out
                rw [dueT_of HR1.out h0, HED.out, ← dueL_start h0 (fun r hr => (isRu_iff.1 (HOK.out r hr)).2.2.1.1), HGO.out, dueL_neg hlt (by rw [HX.out]; simp only; rw [HD1.out]; exact hneg)] at this
                obtain ⟨h1, h2⟩ := Prod.mk.inj this
                exact ⟨h1.symm, h2.symm⟩)
              go_wp2_with fail
              refine HCALL.out.mono ?_
              rintro e w5 ⟨rfl, b5⟩
              go_wp2_with fail
              go_ret2
              exact ⟨by rw [HQ.out.1, HQ.out.2]; rfl, hbw.trans (b5.mono hbw.size)⟩
            · have HG2 : Hid (dueL (dayX t) R (-1) = dueL (dayX t) (R.drop (j + 1)) (max dd (d1 + x2))) := Lib.hid (by
                rw [HGO.out, dueL_step hlt (by rw [HX.out]; simp only; rw [HD1.out]; omega), HX.out]
                simp only
                rw [HD1.out])
              have hs1 : d1 + x2 ≤ 130000 := by omega
              have hs0 : 0 ≤ d1 + x2 := by omega
              have HMB : Hid (-1 ≤ max dd (d1 + x2) ∧ max dd (d1 + x2) ≤ 200000) := Lib.hid (by omega)
              go_wp2_with fail
              refine HCALL.out.mono ?_
              rintro e w5 ⟨rfl, b5⟩
              have y2 := cell_kept f2 b5
              go_wp2_with (first | (go_at_call 97; refine (l1Most_any dd (d1 + x2) _).mono ?_; rintro e w6 ⟨rfl, h6⟩; subst w6))
              go_roundw
              case rel => exact ⟨j + 1, max dd (d1 + x2), by omega, by go_num, rfl, HG2, HMB.out.1, HMB.out.2, hb.trans (b5.mono hsz)⟩
              case measure => simp [intOf]; omega
          · have hjl : j = R.length := by omega
            have HE : Hid (dueL (dayX t) R (-1) = some dd) := Lib.hid (by rw [HGO.out, hjl, List.drop_length]; rfl)
            by_cases hl0 : R.length = 0
            · have h00 := List.length_eq_zero_iff.1 hl0
              have HQ : Hid (n = 0 ∧ b = false) := Lib.hid (by have := HRES.out; rw [dueT_nil (by rw [HR1.out, h00])] at this; obtain ⟨h1, h2⟩ := Prod.mk.inj this; exact ⟨h1.symm, h2.symm⟩)
              have hdn : dd < 0 := by have h1 := HE.out; rw [h00] at h1; unfold dueL at h1; have := Option.some.inj h1; omega
              clear hjl hl0 h00
              go_wp2_with fail
              go_ret2
              exact ⟨by rw [HQ.out.1, HQ.out.2]; rfl, hbw⟩
            · have h0 : R ≠ [] := fun e => by rw [e] at hl0; simp at hl0
              have hdays : ∀ r ∈ R, 0 ≤ r.days := fun r hr => (isRu_iff.1 (HOK.out r hr)).2.2.1.1
              have hdp : 0 ≤ dd := dueL_pos R (-1) (by omega) hdays h0 dd HE.out
              have HQ : Hid (n = dd ∧ b = true) := Lib.hid (by
                have := HRES.out
                rw [dueT_of HR1.out h0, HED.out, ← dueL_start h0 hdays, HE.out] at this
                obtain ⟨h1, h2⟩ := Prod.mk.inj this
                exact ⟨h1.symm, h2.symm⟩)
              have hdn : ¬ dd < 0 := by omega
              clear hjl hl0 h0 hdays
              go_wp2_with fail
              go_ret2
              exact ⟨by rw [HQ.out.1, HQ.out.2]; rfl, hbw⟩
end Go.Proofs.Ytenjajcknmfhfaa

namespace Go.Proofs.Ytenjajcknmfhfaa
set_option linter.unusedVariables false
open Go.RowKit Go.Sort

theorem cell1_new (w : World) (v : Value) (t : TypeId) {k : Nat} (hk : k = w.heap.size) : ∀ j u, [v][j]? = some u → (w.alloc (.cells #[v] t (0, 0))).cell? ((⟨k, 0, none⟩ : Addr).add j) = some u := by
  subst hk
  intro j u hj
  rw [Addr.add_lit]
  match j, hj with
  | 0, h => cases h; exact cell_new w _ _ 0 rfl
theorem serF_iff {t : List Ru} {x : Int} : x ∈ serF t ↔ ∃ r ∈ t, r.series = x := by
  refine ⟨serF_mem, ?_⟩
  have key : ∀ (t : List Ru) (o : List Int), (x ∈ o ∨ ∃ r ∈ t, r.series = x) → x ∈ (t.foldl (fun o r => if r.series ∈ o then o else o ++ [r.series]) o) := by
    intro t
    induction t with
    | nil => intro o h; simpa using h
    | cons r l ih =>
      intro o h
      rw [List.foldl_cons]
      refine ih _ ?_
      rcases h with h | ⟨q, hq, e⟩
      · left; split
        · exact h
        · exact List.mem_append_left _ h
      · rcases List.mem_cons.1 hq with h1 | h1
        · subst h1; left; split
          · rename_i hm; rw [← e]; exact hm
          · rw [← e]; simp
        · exact .inr ⟨q, h1, e⟩
  intro h
  exact key t [] (.inr h)
theorem ser_le {t : List Ru} (h : isSch t = true) {i j : Nat} (hij : i ≤ j) (hj : j < t.length) : (t.getD i ruD).series ≤ (t.getD j ruD).series := by
  rcases Nat.lt_or_eq_of_le hij with h' | h'
  · have := sch_bef h h' hj
    rw [bef_iff] at this
    omega
  · subst h'; exact Int.le_refl _
theorem ser_compact {t : List Ru} (h : isSch t = true) : Lib.compact (t.map (·.series)) = serF t := by
  have hk : ∀ k, k ≤ t.length → Lib.compactUpTo (t.map (·.series)).toArray k = serF (t.take k) := by
    intro k
    induction k with
    | zero => intro _; simp [Lib.compactUpTo, serF]
    | succ k ih =>
      intro hk
      have hlt : k < t.length := by omega
      have g : ∀ j, j < t.length → (t.map (·.series)).toArray[j]! = (t.getD j ruD).series := fun j hj => by
        rw [getElem!_pos _ j (by simpa using hj), getRu_lt hj]; simp
      rw [Lib.compactUpTo_succ, ih (by omega), serF_succ hlt, g k hlt]
      by_cases hm : (t.getD k ruD).series ∈ serF (t.take k)
      · rw [if_pos hm]
        obtain ⟨r, hr, e⟩ := serF_iff.1 hm
        rw [List.mem_take_iff_getElem] at hr
        obtain ⟨i, hi, rfl⟩ := hr
        have h1 := ser_le h (i := i) (j := k - 1) (by omega) (by omega)
        have h2 := ser_le h (i := k - 1) (j := k) (by omega) hlt
        rw [getRu_lt (show i < t.length by omega)] at h1
        have hkn : Lib.keeps (t.map (·.series)).toArray k = false := Lib.keeps_neg (by omega) (by rw [g k hlt, g (k - 1) (by omega)]; omega)
        rw [hkn]; simp
      · rw [if_neg hm]
        have hkn : Lib.keeps (t.map (·.series)).toArray k = true := by
          rcases Nat.eq_zero_or_pos k with h0 | h0
          · subst h0; exact Lib.keeps_lt_one _ 0 (by omega)
          · refine Lib.keeps_pos ?_
            rw [g k hlt, g (k - 1) (by omega)]
            intro e
            refine hm (serF_iff.2 ⟨t.getD (k - 1) ruD, ?_, e.symm⟩)
            rw [getRu_lt (by omega), List.mem_take_iff_getElem]
            exact ⟨k - 1, by omega, rfl⟩
        rw [hkn]; simp
  have := hk t.length (Nat.le_refl _)
  rw [List.take_length] at this
  unfold Lib.compact
  rw [← this]; simp
theorem sinRes_no {t : List Ru} {xs : List Int} {b : Bool} (h : sinRes t = (xs, b)) (hn : isSch t = false) : xs = [] ∧ b = false := by
  unfold sinRes at h
  rw [if_neg (by rw [hn]; simp)] at h
  obtain ⟨h1, h2⟩ := Prod.mk.inj h
  exact ⟨h1.symm, h2.symm⟩
theorem sinRes_yes {t : List Ru} {xs : List Int} {b : Bool} (h : sinRes t = (xs, b)) (hn : isSch t = true) : xs = serF t ∧ b = true := by
  unfold sinRes at h
  rw [if_pos hn] at h
  obtain ⟨h1, h2⟩ := Prod.mk.inj h
  exact ⟨h1.symm, h2.symm⟩
theorem IntsO.of_row {lo n : Nat} {w : World} {v : Value} {xs : List Int} (h : w.ownsRow lo 3 1 v n (xs.map vI)) (hn : n = xs.length) : IntsO lo w.heap.size w v xs := ⟨by rw [← hn]; exact h, fun g hg => (h.lt g hg).2⟩


set_option maxRecDepth 20000 in
set_option maxHeartbeats 2000000 in
theorem implSeriesIn_any (v : Value) (t : List Ru) (w : World) (h : RowR 4 rRu w v t) (hn : t.length ≤ 1048576) (xs : List Int) (b : Bool) (hres : sinRes t = (xs, b)) :
    Calls Try.prog 83 #[v] w fun e w' => ∃ v', e = .returned (.tuple #[v', .bool b]) ∧ IntsO w.heap.size w'.heap.size w' v' xs ∧ Below w.heap.size w w' := by
  obtain ⟨i0, hi, hz0, hz1, hz2⟩ := info_parts Try.info_int
  have H := Lib.hid h
  have HRES := Lib.hid hres
  obtain ⟨bs, hs⟩ : ∃ b, isSch t = b := ⟨_, rfl⟩
  have HS := Lib.hid hs
  obtain ⟨a1, c1, hv, hl1, hm1, r1⟩ := h.rus
  subst hv
  have R1 := Lib.hid r1
  unfold maxLen at hm1
  clear h hres hs r1
  cases bs
  · obtain ⟨rfl, rfl⟩ := sinRes_no HRES.out HS.out
    go_enter Try.func83, Try.ntmps83
    go_wp2_with (first | (go_at_call 89; refine (implIsSchedule_any _ t _ H.out).mono ?_; rw [HS.out]; rintro e w1 ⟨rfl, b1⟩))
    go_ret2
    exact ⟨_, rfl, ⟨(Own.nil w.heap.size 3 1 w1).1, Under.nil _ _ _⟩, b1⟩
  · obtain ⟨rfl, rfl⟩ := sinRes_yes HRES.out HS.out
    have HC := Lib.hid (ser_compact HS.out)
    go_enter Try.func83, Try.ntmps83
    go_wp2_with (first | (go_at_call 89; refine (implIsSchedule_any _ t _ H.out).mono ?_; rw [HS.out]; rintro e w1 ⟨rfl, b1⟩))
    go_loopw [4, 12] (fun o i wr => ∃ k : Nat, k ≤ t.length ∧ i = .int .i64 k ∧ wr.ownsRow w.heap.size 3 1 o k (((t.take k).map (·.series)).map vI) ∧ Below w.heap.size w wr) (fun _ i _ => t.length - (intOf i).toNat)
    case atStart => exact ⟨0, Nat.zero_le _, rfl, (Own.nil w.heap.size 3 1 _).1, b1⟩
    case round =>
      clear b1
      obtain ⟨k, hk, rfl, hO, hb⟩ := hrel
      by_cases hlt : k < t.length
      · obtain ⟨b1, o1, hb1, rfl, e1⟩ := R1.out.resolve_left (fun e => by rw [e] at hlt; simp at hlt)
        obtain ⟨q0, q1, q2, q3, hok⟩ := e1 k hlt
        have hsucc : t.take (k + 1) = t.take k ++ [t.getD k ruD] := by rw [List.take_add_one, List.getElem?_eq_getElem hlt, getRu_lt hlt]; rfl
        obtain ⟨⟨x0, x1, x2, x3⟩, hx⟩ : ∃ s, t.getD k ruD = s := ⟨_, rfl⟩
        rw [hx] at q0 q1 q2 q3 hsucc
        simp only at q0 q1 q2 q3
        have f0 := cell_kept q0 hb
        have f1 := cell_kept q1 hb
        have f2 := cell_kept q2 hb
        have f3 := cell_kept q3 hb
        have HSU := Lib.hid hsucc
        have g0 : (0 : Int) ≤ (k : Int) := by omega
        have g1 : (k : Int) < (t.length : Int) := by omega
        have hsz := hb.size
        have hb2 := below_al hb (.cells #[.int .i64 x0, .int .i64 x1, .int .i64 x2, .int .i64 x3] 56 (0, 0))
        have hO2 := hO.alloc (.cells #[.int .i64 x0, .int .i64 x1, .int .i64 x2, .int .i64 x3] 56 (0, 0))
        clear q0 q1 q2 q3 hok e1 hx hsucc hO
        go_wp2_with (first | (at_builtin; refine wpList_append_own _ rfl _ _ 26 rfl w.heap.size 3 i0 (.int .i64 0) 1 8 Try.underlying26 hi hz0 hz1 hz2 rfl (by decide) _ _ _ rfl (hO2.alloc _) ⟨wr.heap.size + 1, 0, none⟩ 1 1 [.int .i64 x0] rfl rfl (cell1_new _ _ _ (by simp)) (by simp [Value.oneCell']) (by unfold maxLen; omega) (by omega) (by simp; omega) ?_; intro v' w4 hown' hgrow _))
        have HOWN := Lib.hid hown'
        have HB := Lib.hid (below_app hb2 (Nat.le_refl _) hO2 hgrow)
        clear hown' hgrow hO2
        go_wp2_with fail
        go_roundw
        case rel => exact ⟨k + 1, by omega, by go_num, (by rw [HSU.out]; simpa [vI] using HOWN.out), HB.out⟩
        case measure => simp [intOf]; omega
      · obtain rfl : k = t.length := by omega
        rw [List.take_length] at hO
        rcases Nat.eq_zero_or_pos t.length with h0 | h0
        · obtain rfl := List.length_eq_zero_iff.1 h0
          have hO2 := hO
          rcases hO.2 with ⟨e, _⟩ | ⟨g, cap, cur, e, hg, hh, hnc, hm, hs, ht⟩
          · subst e
            clear hO
            have HO := Lib.hid hO2
            clear hO2
            go_wp2_with (first | (go_at_call 92; refine (Try.slices_Compact_int_empty none 0 _).mono ?_; rintro e w5 ⟨rfl, rfl⟩))
            go_ret2
            exact ⟨_, rfl, IntsO.of_row (xs := []) (by simpa using HO.out) rfl, hb⟩
          · subst e
            clear hO hg hh hnc hm hs ht
            have HO := Lib.hid hO2
            clear hO2
            go_wp2_with (first | (go_at_call 92; refine (Try.slices_Compact_int_empty _ cap _).mono ?_; rintro e w5 ⟨rfl, rfl⟩))
            go_ret2
            exact ⟨_, rfl, IntsO.of_row (xs := []) (by simpa using HO.out) rfl, hb⟩
        · obtain ⟨g, cap, rfl, hbg, hgl, hnc, hcm, hlen, hH⟩ := Lib.holds_of_ownsRow hO (by rintro rfl; rcases hO.2 with ⟨_, e⟩ | ⟨_, _, _, e, _⟩; (· omega); cases e)
          have hcp := Try.slices_Compact_int g 0 cap (t.map (fun r : Ru => r.series)) wr hH (by rw [hlen]; unfold maxLen at hcm; omega) (by rw [hlen]; exact hnc)
          rw [HC.out, hlen] at hcp
          have HO := Lib.hid hO
          have HG := Lib.hid hbg
          have hsl := serF_len t
          have HL := Lib.hid hlen
          have HCP := Lib.hid hcp
          clear hO hH hcp hbg hlen h0
          go_wp2_with (first | (go_at_call 92; refine HCP.out.mono ?_; rintro e w5 ⟨rfl, q, rfl⟩))
          go_ret2
          have h1 := Lib.ownsRow_putRow (q := q) (k := (serF t).length) (ys := serF t ++ List.replicate (t.length - (serF t).length) 0) HO.out (by simp; omega) hsl
          rw [List.take_left' rfl] at h1
          exact ⟨_, rfl, IntsO.of_row h1 rfl, Lib.below_putRow hb HG.out⟩
end Go.Proofs.Ytenjajcknmfhfaa

namespace Go.Proofs.Ytenjajcknmfhfaa
set_option linter.unusedVariables false
open Go.RowKit Go.Sort

theorem dedF_len (xs : List Int) : (dedF xs).length ≤ xs.length := by
  have hk : ∀ k, k ≤ xs.length → (dedF (xs.take k)).length ≤ k := by
    intro k
    induction k with
    | zero => intro _; simp [dedF]
    | succ k ih =>
      intro hk
      rw [dedF_take (by omega)]
      have := ih (by omega)
      split
      · omega
      · rw [List.length_append, List.length_singleton]; omega
  have := hk xs.length (Nat.le_refl _)
  rwa [List.take_length] at this
set_option maxHeartbeats 2000000 in
theorem compactO_any (lo : Nat) (v : Value) (xs ys : List Int) (w : World) (hO : w.ownsRow lo 3 1 v xs.length (xs.map vI)) (hlo : lo ≤ w.heap.size) (hn : xs.length ≤ 1048576) (hc : Lib.compact xs = ys) (hl : ys.length ≤ xs.length) :
    Calls Try.prog 92 #[v] w fun e w' => ∃ v', e = .returned v' ∧ IntsO lo w'.heap.size w' v' ys ∧ Below lo w w' := by
  have b0 : Below lo w w := (Below.refl w.heap.size w).mono hlo
  rcases Nat.eq_zero_or_pos xs.length with h0 | h0
  · obtain rfl := List.length_eq_zero_iff.1 h0
    obtain rfl : ys = [] := List.length_eq_zero_iff.1 (by simpa using hl)
    rcases hO.2 with ⟨e, _⟩ | ⟨g, cap, cur, e, hg, hh, hnc, hm, hs, ht⟩
    · subst e
      refine (Try.slices_Compact_int_empty none 0 _).mono ?_
      rintro e w5 ⟨rfl, rfl⟩
      exact ⟨_, rfl, IntsO.of_row (xs := []) (by simpa using hO) rfl, b0⟩
    · subst e
      refine (Try.slices_Compact_int_empty _ cap _).mono ?_
      rintro e w5 ⟨rfl, rfl⟩
      exact ⟨_, rfl, IntsO.of_row (xs := []) (by simpa using hO) rfl, b0⟩
  · obtain ⟨g, cap, rfl, hbg, hgl, hnc, hcm, hlen, hH⟩ := Lib.holds_of_ownsRow hO (by rintro rfl; rcases hO.2 with ⟨_, e⟩ | ⟨_, _, _, e, _⟩; (· omega); cases e)
    have hcp := Try.slices_Compact_int g 0 cap xs w hH (by unfold maxLen at hcm; omega) hnc
    rw [hc] at hcp
    refine hcp.mono ?_
    rintro e w5 ⟨rfl, q, rfl⟩
    have h1 := Lib.ownsRow_putRow (q := q) (k := ys.length) (ys := ys ++ List.replicate (xs.length - ys.length) 0) hO (by simp; omega) hl
    rw [List.take_left' rfl] at h1
    exact ⟨_, rfl, IntsO.of_row h1 rfl, Lib.below_putRow b0 hbg⟩
end Go.Proofs.Ytenjajcknmfhfaa

namespace Go.Proofs.Ytenjajcknmfhfaa
set_option linter.unusedVariables false
open Go.RowKit Go.Sort Go.Maps

theorem below_growT (w : World) (os : Array Obj) : Below w.heap.size w (grow w os) := ⟨rfl, rfl, rfl, by simp [grow], fun k hk => by simp [grow, Array.getElem?_append_left hk]⟩
set_option maxHeartbeats 2000000 in
theorem sortO_any (lo : Nat) (v : Value) (xs : List Int) (w : World) (hO : w.ownsRow lo 3 1 v xs.length (xs.map vI)) (hlo : lo ≤ w.heap.size) (hn : xs.length ≤ 1048576) :
    Calls Try.prog 98 #[v] w fun e w' => e = .returned (.tuple #[]) ∧ w'.ownsRow lo 3 1 v xs.length ((xs.mergeSort fun x y => decide (x ≤ y)).map vI) ∧ Below lo w w' := by
  have b0 : Below lo w w := (Below.refl w.heap.size w).mono hlo
  rcases Nat.eq_zero_or_pos xs.length with h0 | h0
  · obtain rfl := List.length_eq_zero_iff.1 h0
    obtain ⟨a, c, rfl, _, _⟩ := own_shape hO
    refine (Try.slices_Sort_int_none a c _).mono ?_
    rintro e w5 ⟨rfl, rfl⟩
    exact ⟨rfl, by simpa using hO, b0⟩
  · obtain ⟨g, cap, rfl, hbg, hgl, hnc, hcm, hlen, hH⟩ := Lib.holds_of_ownsRow hO (by rintro rfl; rcases hO.2 with ⟨_, e⟩ | ⟨_, _, _, e, _⟩; (· omega); cases e)
    refine (Try.slices_Sort_int g 0 cap xs w hH hgl (by omega)).mono ?_
    rintro e w5 ⟨rfl, q, os, rfl⟩
    have h1 := Lib.ownsRow_putRow (q := q) (k := xs.length) (ys := xs.mergeSort fun x y => decide (x ≤ y)) hO (by simp) (Nat.le_refl _)
    rw [List.take_of_length_le (by simp)] at h1
    have hb := below_growT (putRow (Value.int .i64) (Sort.ahead w q) g 0 (xs.mergeSort fun x y => decide (x ≤ y)).toArray) os
    have hbl : Below lo w (putRow (Value.int .i64) (Sort.ahead w q) g 0 (xs.mergeSort fun x y => decide (x ≤ y)).toArray) := Lib.below_putRow b0 hbg
    exact ⟨rfl, ownsRow_below h1 hb, hbl.trans (hb.mono (Nat.le_trans hlo hbl.size))⟩
def unxB (t : List Tg) (r : Ru) : Bool := decide (dayX t r.event < 0)
def unxT (t : List Tg) (s : List Ru) (k : Nat) : List Int := ((s.take k).filter (unxB t)).map (·.event)
theorem unxT_all (t : List Tg) (s : List Ru) : unxT t s s.length = unxL t s := by unfold unxT unxL unxB; rw [List.take_length]
theorem unxT_len (t : List Tg) (s : List Ru) (k : Nat) : (unxT t s k).length ≤ k := by
  unfold unxT
  rw [List.length_map]
  have := List.length_filter_le (unxB t) (s.take k)
  rw [List.length_take] at this
  omega
theorem unxT_succ {t : List Tg} {s : List Ru} {k : Nat} (hk : k < s.length) : unxT t s (k + 1) = if dayX t (s.getD k ruD).event < 0 then unxT t s k ++ [(s.getD k ruD).event] else unxT t s k := by
  unfold unxT
  rw [List.take_succ_eq_append_getElem hk, List.filter_append, ← getRu_lt hk]
  by_cases h : dayX t (s.getD k ruD).event < 0
  · have hn : unxB t (s.getD k ruD) = true := decide_eq_true h
    rw [if_pos h, List.filter_cons_of_pos hn, List.filter_nil, List.map_append]; rfl
  · have hn : ¬ unxB t (s.getD k ruD) = true := by unfold unxB; rw [decide_eq_true_eq]; exact h
    rw [if_neg h, List.filter_cons_of_neg hn, List.filter_nil, List.append_nil]
theorem unx_sort {t : List Tg} {s : List Ru} (hs : isSch s = true) : Lib.compact ((unxL t s).mergeSort fun x y => decide (x ≤ y)) = unxF t s ∧ (unxF t s).length ≤ ((unxL t s).mergeSort fun x y => decide (x ≤ y)).length := by
  have hle := List.pairwise_mergeSort (le := fun x y : Int => decide (x ≤ y)) (fun a b c h1 h2 => by simp at *; omega) (fun a b => by simp; omega) (unxL t s)
  have hle2 : ((unxL t s).mergeSort fun x y => decide (x ≤ y)).Pairwise (· ≤ ·) := hle.imp (fun h => by simpa using h)
  have h1 := unx_compact hs (List.mergeSort_perm _ _) hle2
  exact ⟨h1, by rw [← h1, compact_ded hle2]; exact dedF_len _⟩
theorem unxRes_len {t : List Tg} {s : List Ru} {xs : List Int} {b : Bool} (h : unxRes t s = (xs, b)) : xs.length ≤ 9 := by
  unfold unxRes at h
  split at h <;> obtain ⟨rfl, _⟩ := Prod.mk.inj h
  · unfold unxF
    exact Nat.le_trans (List.length_filter_le _ _) (by simp)
  · exact Nat.zero_le _
set_option maxRecDepth 20000 in
set_option maxHeartbeats 8000000 in
theorem implUnx_any (v v1 : Value) (t : List Tg) (s : List Ru) (w : World) (h : RowR 3 rTg w v t) (h1 : RowR 4 rRu w v1 s) (hn : s.length ≤ 1048576) (xs : List Int) (b : Bool) (hres : unxRes t s = (xs, b)) :
    Calls Try.prog 33 #[v, v1] w fun e w' => ∃ v', e = .returned (.tuple #[v', .bool b]) ∧ IntsO w.heap.size w'.heap.size w' v' xs ∧ Below w.heap.size w w' := by
  obtain ⟨i0, hi, hz0, hz1, hz2⟩ := info_parts Try.info_intN
  have H := Lib.hid h
  have H1 := Lib.hid h1
  obtain ⟨a1, c1, hv, hl1, hm1, r1⟩ := h1.rus
  subst hv
  have R1 := Lib.hid r1
  unfold maxLen at hm1
  obtain ⟨bs, hbs⟩ : ∃ b, isSch s = b := ⟨_, rfl⟩
  have HBS := Lib.hid hbs
  have HRES := Lib.hid hres
  clear h h1 r1 hres hbs
  go_enter Try.func33, Try.ntmps33
  go_wp2_with fail
  refine (expectedDays_any _ t _ H.out).mono ?_
  rintro e w2 ⟨b2, hd⟩
  have hs2 := b2.size
  rcases hd with ⟨hf, rfl⟩ | ⟨hf, mb, nn, D, rfl, hm, hd⟩
  · have HQ : Hid (xs = [] ∧ b = false) := Lib.hid (by have := HRES.out; unfold unxRes at this; rw [if_neg (fun q => by rw [hf] at q; cases q.1)] at this; obtain ⟨h1, h2⟩ := Prod.mk.inj this; exact ⟨h1.symm, h2.symm⟩)
    clear hf
    go_wp2_with fail
    go_ret2
    exact ⟨_, by rw [HQ.out.2]; rfl, by rw [HQ.out.1]; exact ⟨World.ownsRow_nil _ _ _ _, Under.nil _ _ _⟩, b2⟩
  · have HF := Lib.hid hf
    have HLK : Hid (∀ W, Below w2.heap.size w2 W → LookD W (.map (some mb)) t) := Lib.hid (fun W hW => look_ownD hf (hm.kept (grownBy_of_below hW none) (by simp)) hd)
    clear hf hm hd
    cases bs
    · have HQ : Hid (xs = [] ∧ b = false) := Lib.hid (by have := HRES.out; unfold unxRes at this; rw [if_neg (fun q => by rw [HBS.out] at q; cases q.2)] at this; obtain ⟨h1, h2⟩ := Prod.mk.inj this; exact ⟨h1.symm, h2.symm⟩)
      go_wp2_with fail
      refine (implIsSchedule_any _ s _ (H1.out.below rRu_stable b2)).mono ?_
      rw [HBS.out]
      rintro e w3 ⟨rfl, b3⟩
      go_wp2_with fail
      go_ret2
      exact ⟨_, by rw [HQ.out.2]; rfl, by rw [HQ.out.1]; exact ⟨World.ownsRow_nil _ _ _ _, Under.nil _ _ _⟩, b2.trans (b3.mono hs2)⟩
    · have HQ : Hid (xs = unxF t s ∧ b = true) := Lib.hid (by have := HRES.out; unfold unxRes at this; rw [if_pos ⟨HF.out, HBS.out⟩] at this; obtain ⟨h1, h2⟩ := Prod.mk.inj this; exact ⟨h1.symm, h2.symm⟩)
      have h8 := sch_len HBS.out
      go_wp2_with fail
      refine (implIsSchedule_any _ s _ (H1.out.below rRu_stable b2)).mono ?_
      rw [HBS.out]
      rintro e w3 ⟨rfl, b3⟩
      have hs3 := b3.size
      have b23 := b2.trans (b3.mono hs2)
      go_wp2_with fail
      go_loopw [8, 27] (fun o i wr => ∃ k : Nat, k ≤ s.length ∧ i = .int .i64 k ∧ wr.ownsRow w3.heap.size 3 1 o (unxT t s k).length ((unxT t s k).map vI) ∧ Below w3.heap.size w3 wr) (fun _ i _ => s.length - (intOf i).toNat)
      case atStart => exact ⟨0, Nat.zero_le _, rfl, (by simpa [unxT] using World.ownsRow_nil w3 w3.heap.size 3 1), Below.refl _ _⟩
      case round =>
        obtain ⟨k, hk, rfl, hO, hb⟩ := hrel
        have hsz := hb.size
        have hbw := b23.trans (hb.mono (by omega))
        by_cases hlt : k < s.length
        · obtain ⟨bb, o1, hbb, rfl, e1⟩ := R1.out.resolve_left (fun e => by rw [e] at hlt; simp at hlt)
          obtain ⟨⟨x0, x1, x2, x3⟩, hx⟩ : ∃ x, s.getD k ruD = x := ⟨_, rfl⟩
          obtain ⟨q0, q1, q2, q3, _⟩ := e1 k hlt
          rw [hx] at q0 q1 q2 q3
          simp only at q0 q1 q2 q3
          have f0 := cell_kept q0 hbw
          have f1 := cell_kept q1 hbw
          have f2 := cell_kept q2 hbw
          have f3 := cell_kept q3 hbw
          have hru := isRu_iff.1 (sch_mem HBS.out ⟨x0, x1, x2, x3⟩ (by rw [← hx, getRu_lt hlt]; exact List.getElem_mem hlt))
          simp only at hru
          have hx1 := hru.2.1
          have hst := unxT_succ (t := t) hlt
          rw [hx] at hst
          simp only at hst
          obtain ⟨P, hP⟩ : ∃ P, unxT t s k = P := ⟨_, rfl⟩
          have hPl : P.length ≤ k := by rw [← hP]; exact unxT_len t s k
          rw [hP] at hO hst
          have HST0 := Lib.hid hst
          have hba := below_al hb (.cells #[.int .i64 x0, .int .i64 x1, .int .i64 x2, .int .i64 x3] 56 (0, 0))
          have hlk := HLK.out (wr.alloc (.cells #[.int .i64 x0, .int .i64 x1, .int .i64 x2, .int .i64 x3] 56 (0, 0))) (b3.trans (hba.mono hs3)) x1 (by simp [inI]; omega)
          have hOA := hO.alloc (.cells #[.int .i64 x0, .int .i64 x1, .int .i64 x2, .int .i64 x3] 56 (0, 0))
          have g0 : (0 : Int) ≤ (k : Int) := by omega
          have g1 : (k : Int) < (s.length : Int) := by omega
          obtain ⟨d1, hd⟩ : ∃ d, edayX t x1 = d := ⟨_, rfl⟩
          have hdx : dayX t x1 = d1 := by rw [← hd]; unfold edayX; rw [if_pos HF.out]
          unfold edRes at hlk
          rw [hd] at hlk
          rw [hdx] at HST0
          clear q0 q1 q2 q3 e1 hx hst hP hd hdx hO hru
          by_cases hneg : d1 < 0
          · rw [if_pos hneg] at hlk
            have HST := Lib.hid (HST0.out.trans (if_pos hneg))
            clear hneg
            go_wp2_with (first | (at_builtin; refine wpList_append_own _ rfl _ _ 26 rfl w3.heap.size 3 i0 (.int .i64 0) 1 8 Try.underlying26 hi hz0 hz1 hz2 rfl (by decide) _ _ _ rfl (hOA.alloc _) ⟨wr.heap.size + 1, 0, none⟩ 1 1 [.int .i64 x1] rfl rfl (cell_oneN _ _ _ (by simp)) (by simp [Value.oneCell']) (by unfold maxLen; omega) (by omega) (by simp; omega) ?_; intro v' w9 hown' hgrow _))
            have HOWN := Lib.hid hown'
            have HB2 := Lib.hid (below_app hba (Nat.le_refl _) hOA hgrow)
            clear hown' hgrow hOA
            go_wp2_with fail
            go_roundw
            case rel => exact ⟨k + 1, by omega, by go_num, (by rw [HST.out]; simpa [vI] using HOWN.out), HB2.out⟩
            case measure => simp [intOf]; omega
          · rw [if_neg hneg] at hlk
            have HST := Lib.hid (HST0.out.trans (if_neg hneg))
            have HO2 := Lib.hid hOA
            clear hneg hOA
            go_wp2_with fail
            go_roundw
            case rel => exact ⟨k + 1, by omega, by go_num, (by rw [HST.out]; exact HO2.out), hba⟩
            case measure => simp [intOf]; omega
        · obtain rfl : k = s.length := by omega
          rw [unxT_all] at hO
          have hul : (unxL t s).length ≤ 8 := by rw [← unxT_all]; exact Nat.le_trans (unxT_len _ _ _) h8
          obtain ⟨hc1, hc2⟩ := unx_sort (t := t) HBS.out
          have HS5 := Lib.hid (sortO_any w3.heap.size _ (unxL t s) wr hO hsz (by omega))
          have HCC : Hid (∀ (v : Value) (W : World), W.ownsRow w3.heap.size 3 1 v (unxL t s).length (((unxL t s).mergeSort fun x y => decide (x ≤ y)).map vI) → w3.heap.size ≤ W.heap.size → Calls Try.prog 92 #[v] W fun e w' => ∃ v', e = .returned v' ∧ IntsO w3.heap.size w'.heap.size w' v' (unxF t s) ∧ Below w3.heap.size W w') := Lib.hid (fun v W hW hl => compactO_any w3.heap.size v _ (unxF t s) W (by rw [List.length_mergeSort]; exact hW) hl (by rw [List.length_mergeSort]; omega) hc1 hc2)
          clear hO hc1 hc2 hul
          go_wp2_with fail
          refine HS5.out.mono ?_
          rintro e w5 ⟨rfl, ho5, b5⟩
          have HO5 := Lib.hid ho5
          clear ho5
          go_wp2_with fail
          refine (HCC.out _ _ HO5.out (Nat.le_trans hsz b5.size)).mono ?_
          rintro e w6 ⟨v6, rfl, ho6, b6⟩
          have HO6 := Lib.hid (ho6.wide (lo' := w.heap.size) (by omega) (Nat.le_refl _))
          obtain ⟨ga, gn, gc, rfl⟩ := ho6.slice
          clear ho6
          go_wp2_with fail
          go_ret2
          exact ⟨_, by rw [HQ.out.2]; rfl, by rw [HQ.out.1]; exact HO6.out, b23.trans (((hb.trans b5).trans b6).mono (by omega))⟩
def unxP (t : List Tg) (s : List Ru) (e : Int) : Bool := decide (dayX t e < 0) && s.any (fun r => decide (r.event = e))
def unxK (t : List Tg) (s : List Ru) (k : Nat) : List Int := ((List.range k).map (fun i : Nat => ((i + 1 : Nat) : Int))).filter (unxP t s)
theorem unxK_nine (t : List Tg) (s : List Ru) : unxK t s 9 = unxF t s := rfl
theorem unxK_len (t : List Tg) (s : List Ru) (k : Nat) : (unxK t s k).length ≤ k := by
  unfold unxK
  exact Nat.le_trans (List.length_filter_le _ _) (by simp)
theorem unxK_succ (t : List Tg) (s : List Ru) (k : Nat) : unxK t s (k + 1) = if unxP t s ((k + 1 : Nat) : Int) = true then unxK t s k ++ [((k + 1 : Nat) : Int)] else unxK t s k := by
  unfold unxK
  rw [List.range_succ, List.map_append, List.filter_append]
  by_cases h : unxP t s ((k + 1 : Nat) : Int) = true
  · rw [if_pos h, List.map_cons, List.map_nil, List.filter_cons_of_pos h, List.filter_nil]
  · rw [if_neg h, List.map_cons, List.map_nil, List.filter_cons_of_neg h, List.filter_nil, List.append_nil]
def anyT (s : List Ru) (k : Nat) (e : Int) : Bool := (s.take k).any (fun r => decide (r.event = e))
theorem anyT_succ {s : List Ru} {k : Nat} (hk : k < s.length) (e : Int) : anyT s (k + 1) e = (anyT s k e || decide ((s.getD k ruD).event = e)) := by
  unfold anyT
  rw [List.take_succ_eq_append_getElem hk, List.any_append, ← getRu_lt hk]
  simp
theorem anyT_all (s : List Ru) (e : Int) : anyT s s.length e = s.any (fun r => decide (r.event = e)) := by unfold anyT; rw [List.take_length]
set_option maxRecDepth 20000 in
set_option maxHeartbeats 8000000 in
theorem specUnx_any (v v1 : Value) (t : List Tg) (s : List Ru) (w : World) (h : RowR 3 rTg w v t) (h1 : RowR 4 rRu w v1 s) (hn : s.length ≤ 1048576) (xs : List Int) (b : Bool) (hres : unxRes t s = (xs, b)) :
    Calls Try.prog 34 #[v, v1] w fun e w' => ∃ v', e = .returned (.tuple #[v', .bool b]) ∧ IntsO w.heap.size w'.heap.size w' v' xs ∧ Below w.heap.size w w' := by
  obtain ⟨i0, hi, hz0, hz1, hz2⟩ := info_parts Try.info_intN
  have b0 := below_al (Below.refl w.heap.size w) (.cells #[] 3 (0, 0))
  have HI0 := Lib.hid (ints_newN w)
  have H := Lib.hid h
  have H1 := Lib.hid h1
  obtain ⟨a1, c1, hv, hl1, hm1, r1⟩ := h1.rus
  subst hv
  have R1 := Lib.hid r1
  unfold maxLen at hm1
  obtain ⟨bf, hbf⟩ : ∃ b, freeB t = b := ⟨_, rfl⟩
  obtain ⟨bs, hbs⟩ : ∃ b, isSch s = b := ⟨_, rfl⟩
  have HBF := Lib.hid hbf
  have HBS := Lib.hid hbs
  have HRES := Lib.hid hres
  clear h h1 r1 hres hbf hbs
  cases bf
  · have HQ : Hid (xs = [] ∧ b = false) := Lib.hid (by have := HRES.out; unfold unxRes at this; rw [if_neg (fun q => by rw [HBF.out] at q; cases q.1)] at this; obtain ⟨h1, h2⟩ := Prod.mk.inj this; exact ⟨h1.symm, h2.symm⟩)
    go_enter Try.func34, Try.ntmps34
    go_wp2_with fail
    refine (l10Free_any _ t _ (H.out.below rTg_stable b0)).mono ?_
    rw [HBF.out]
    rintro e w1 ⟨rfl, b1⟩
    have HI1 := Lib.hid ((HI0.out.below b1).wide (Nat.le_refl _) b1.size)
    go_wp2_with fail
    go_ret2
    exact ⟨_, by rw [HQ.out.2]; rfl, by rw [HQ.out.1]; exact HI1.out, below_chain b0 b1⟩
  · obtain ⟨ht, hc⟩ := freeB_iff.1 HBF.out
    have HT := Lib.hid ht
    have HC := Lib.hid hc
    clear ht hc
    cases bs
    · have HQ : Hid (xs = [] ∧ b = false) := Lib.hid (by have := HRES.out; unfold unxRes at this; rw [if_neg (fun q => by rw [HBS.out] at q; cases q.2)] at this; obtain ⟨h1, h2⟩ := Prod.mk.inj this; exact ⟨h1.symm, h2.symm⟩)
      go_enter Try.func34, Try.ntmps34
      go_wp2_with fail
      refine (l10Free_any _ t _ (H.out.below rTg_stable b0)).mono ?_
      rw [HBF.out]
      rintro e w1 ⟨rfl, b1⟩
      have HI1 := Lib.hid ((HI0.out.below b1).wide (Nat.le_refl _) b1.size)
      replace b1 := below_chain b0 b1
      go_wp2_with fail
      refine (l4Good_any _ s _ (H1.out.below rRu_stable b1)).mono ?_
      rw [HBS.out]
      rintro e w2 ⟨rfl, b2⟩
      have HI2 := Lib.hid ((HI1.out.below b2).wide (Nat.le_refl _) b2.size)
      go_wp2_with fail
      go_ret2
      exact ⟨_, by rw [HQ.out.2]; rfl, by rw [HQ.out.1]; exact HI2.out, b1.trans (b2.mono b1.size)⟩
    · have HQ : Hid (xs = unxF t s ∧ b = true) := Lib.hid (by have := HRES.out; unfold unxRes at this; rw [if_pos ⟨HBF.out, HBS.out⟩] at this; obtain ⟨h1, h2⟩ := Prod.mk.inj this; exact ⟨h1.symm, h2.symm⟩)
      go_enter Try.func34, Try.ntmps34
      go_wp2_with fail
      refine (l10Free_any _ t _ (H.out.below rTg_stable b0)).mono ?_
      rw [HBF.out]
      rintro e w1 ⟨rfl, b1⟩
      have HI1 := Lib.hid ((HI0.out.below b1).wide (Nat.le_refl _) b1.size)
      replace b1 := below_chain b0 b1
      go_wp2_with fail
      refine (l4Good_any _ s _ (H1.out.below rRu_stable b1)).mono ?_
      rw [HBS.out]
      rintro e w2 ⟨rfl, b2⟩
      have HI2 := Lib.hid ((HI1.out.below b2).wide (Nat.le_refl _) b2.size)
      replace b2 := b1.trans (b2.mono b1.size)
      go_wp2_with fail
      go_loopw [6, 7] (fun o i wr => ∃ k : Nat, k ≤ 9 ∧ i = .int .i64 ((k : Int) + 1) ∧ wr.ownsRow w.heap.size 3 1 o (unxK t s k).length ((unxK t s k).map vI) ∧ Below w.heap.size w wr) (fun _ i _ => (10 - intOf i).toNat)
      case atStart => exact ⟨0, by omega, rfl, (by simpa [unxK] using HI2.out.1), b2⟩
      case round =>
        clear b1 b2 HI0 HI1 HI2 b0
        obtain ⟨k, hk, rfl, hO, hb⟩ := hrel
        obtain ⟨wo, hwo⟩ : ∃ x, x = wr := ⟨_, rfl⟩
        subst hwo
        have hK := unxK_succ t s k
        have hKl := unxK_len t s k
        obtain ⟨P, hP⟩ : ∃ P, unxK t s k = P := ⟨_, rfl⟩
        rw [hP] at hO hK hKl
        obtain ⟨ev, hev⟩ : ∃ e : Int, (k : Int) + 1 = e := ⟨_, rfl⟩
        have hev2 : ((k + 1 : Nat) : Int) = ev := by omega
        rw [hev2] at hK
        rw [hev]
        have HK0 := Lib.hid hK
        have HEV := Lib.hid hev
        have HP := Lib.hid hP
        have hev1 : 1 ≤ ev ∧ ev ≤ 10 := by omega
        have HOS := Lib.hid hO
        have hk9 : k = 9 ∨ (k < 9 ∧ ev ≤ 9) := by omega
        clear hK hev hev2 hO hP
        rcases hk9 with hk9 | ⟨hlt, hle⟩
        · have HXF : Hid (P = unxF t s) := Lib.hid (by rw [← HP.out, hk9]; exact unxK_nine t s)
          have hgt : ¬ ev ≤ 9 := by have := HEV.out; omega
          have HF := Lib.hid (ints_rowN HOS.out rfl)
          clear hk9
          go_wp2_with fail
          go_ret2
          exact ⟨_, by rw [HQ.out.2]; rfl, by rw [HQ.out.1, ← HXF.out]; exact HF.out, hb⟩
        · go_wp2_with fail
          go_loopw [8, 9] (fun p i wr => ∃ j : Nat, j ≤ s.length ∧ i = .int .i64 j ∧ p = .bool (anyT s j ev) ∧ Hid (wr.ownsRow w.heap.size 3 1 _ P.length (P.map vI)) ∧ Below w.heap.size w wr) (fun _ i _ => s.length - (intOf i).toNat)
          case atStart => exact ⟨0, Nat.zero_le _, rfl, rfl, HOS, hb⟩
          case round =>
            clear hb HOS
            obtain ⟨j, hj, rfl, rfl, HOS, hb⟩ := hrel
            have hsz := hb.size
            by_cases hjt : j < s.length
            · obtain ⟨b1, o1, hb1, rfl, e1⟩ := R1.out.resolve_left (fun e => by rw [e] at hjt; simp at hjt)
              obtain ⟨⟨x0, x1, x2, x3⟩, hx⟩ : ∃ x, s.getD j ruD = x := ⟨_, rfl⟩
              obtain ⟨q0, q1, q2, q3, hok⟩ := e1 j hjt
              have hsu := anyT_succ hjt ev
              rw [hx] at q1 hsu
              simp only at q1 hsu
              have f1 := cell_kept q1 hb
              obtain ⟨bq, hbq⟩ : ∃ b, anyT s j ev = b := ⟨_, rfl⟩
              rw [hbq] at hsu
              try rw [hbq]
              have HSU := Lib.hid hsu
              have g0 : (0 : Int) ≤ (j : Int) := by omega
              have g1 : (j : Int) < (s.length : Int) := by omega
              clear q0 q1 q2 q3 hok e1 hx hsu hbq
              cases bq
              · by_cases he : x1 = ev
                · have r0 : (x1 == ev) = true := by simp [he]
                  have HS2 : Hid (anyT s (j + 1) ev = true) := Lib.hid (by rw [HSU.out, decide_eq_true he]; rfl)
                  clear he
                  go_wp2_with fail
                  go_roundw
                  case rel => exact ⟨j + 1, by omega, by go_num, by rw [HS2.out], HOS, hb⟩
                  case measure => simp [intOf]; omega
                · have r0 : (x1 == ev) = false := by simp [he]
                  have HS2 : Hid (anyT s (j + 1) ev = false) := Lib.hid (by rw [HSU.out, decide_eq_false he]; rfl)
                  clear he
                  go_wp2_with fail
                  go_roundw
                  case rel => exact ⟨j + 1, by omega, by go_num, by rw [HS2.out], HOS, hb⟩
                  case measure => simp [intOf]; omega
              · have HS2 : Hid (anyT s (j + 1) ev = true) := Lib.hid (by rw [HSU.out]; rfl)
                go_wp2_with fail
                go_roundw
                case rel => exact ⟨j + 1, by omega, by go_num, by rw [HS2.out], HOS, hb⟩
                case measure => simp [intOf]; omega
            · obtain rfl : j = s.length := by omega
              rw [anyT_all]
              obtain ⟨bq, hbq⟩ : ∃ b, s.any (fun r => decide (r.event = ev)) = b := ⟨_, rfl⟩
              rw [hbq]
              have HBQ := Lib.hid hbq
              clear hbq
              cases bq
              · have HST : Hid (unxK t s (k + 1) = P) := Lib.hid (HK0.out.trans (if_neg (by unfold unxP; rw [HBQ.out, Bool.and_false]; simp)))
                go_wp2_with fail
                go_roundw
                case rel => exact ⟨k + 1, by omega, by have := HEV.out; go_num, (by rw [HST.out]; exact HOS.out), hb⟩
                case measure => have := HEV.out; simp [intOf]; omega
              · obtain ⟨d1, hd⟩ : ∃ d, dayX t ev = d := ⟨_, rfl⟩
                have HD1 := Lib.hid hd
                have HCALL : Hid (Calls Try.prog 96 #[v, .int .i64 ev] wr fun e w' => e = .returned (.int .i64 d1) ∧ Below wr.heap.size wr w') := Lib.hid (by
                  have := l10Day_any t HT.out HC.out 10 v ev wr (H.out.below rTg_stable hb) (shortW_ten HT.out HC.out ev)
                  rwa [hd] at this)
                clear hd
                by_cases hneg : d1 < 0
                · have HST : Hid (unxK t s (k + 1) = P ++ [ev]) := Lib.hid (HK0.out.trans (if_pos (by unfold unxP; rw [HBQ.out, HD1.out, decide_eq_true hneg]; rfl)))
                  go_wp2_with fail
                  refine HCALL.out.mono ?_
                  rintro e w5 ⟨rfl, b5⟩
                  have hO5 := ownsRow_below HOS.out b5
                  have hb5 := hb.trans (b5.mono hsz)
                  have hs5 := hb5.size
                  go_wp2_with (first | (at_builtin; refine wpList_append_own _ rfl _ _ 26 rfl w.heap.size 3 i0 (.int .i64 0) 1 8 Try.underlying26 hi hz0 hz1 hz2 rfl (by decide) _ _ _ rfl (hO5.alloc _) ⟨w5.heap.size, 0, none⟩ 1 1 [.int .i64 ev] rfl rfl (cell_oneN _ _ _ (by simp)) (by simp [Value.oneCell']) (by unfold maxLen; omega) (by omega) (by simp; omega) ?_; intro v' w9 hown' hgrow _))
                  have HOWN := Lib.hid hown'
                  have HB2 := Lib.hid (below_app hb5 (Nat.le_refl _) hO5 hgrow)
                  clear hown' hgrow hO5
                  go_wp2_with fail
                  go_roundw
                  case rel => exact ⟨k + 1, by omega, by have := HEV.out; go_num, (by rw [HST.out]; simpa [vI] using HOWN.out), HB2.out⟩
                  case measure => have := HEV.out; simp [intOf]; omega
                · have HST : Hid (unxK t s (k + 1) = P) := Lib.hid (HK0.out.trans (if_neg (by unfold unxP; rw [HBQ.out, HD1.out, decide_eq_false hneg]; simp)))
                  go_wp2_with fail
                  refine HCALL.out.mono ?_
                  rintro e w5 ⟨rfl, b5⟩
                  have HO5 := Lib.hid (ownsRow_below HOS.out b5)
                  go_wp2_with fail
                  go_roundw
                  case rel => exact ⟨k + 1, by omega, by have := HEV.out; go_num, (by rw [HST.out]; exact HO5.out), hb.trans (b5.mono hsz)⟩
                  case measure => have := HEV.out; simp [intOf]; omega
end Go.Proofs.Ytenjajcknmfhfaa

namespace Go.Proofs.Ytenjajcknmfhfaa
set_option linter.unusedVariables false
open Go.RowKit

def prC (p : Int × Int) : List Value := [.int .i64 p.1, .int .i64 p.2]
def rPr : Rd (Int × Int) := fun _ cs p => cs = prC p
theorem rPr_stable : rPr.Stable := fun _ _ _ _ _ h => h
def PrsO (lo hi : Nat) (w : World) (v : Value) (xs : List (Int × Int)) : Prop := Own lo 67 2 w v (xs.map prC) ∧ Under hi v
section
variable {lo hi lo' hi' : Nat} {w w' : World} {v : Value} {xs : List (Int × Int)}
theorem PrsO.row (h : PrsO lo hi w v xs) : RowR 2 rPr w v xs := h.1.row (by simp) fun i h1 h2 => by simp [rPr]
theorem PrsO.below (h : PrsO lo hi w v xs) (hb : Below w.heap.size w w') : PrsO lo hi w' v xs := ⟨h.1.below hb, h.2⟩
theorem PrsO.only (h : PrsO lo hi w v xs) (hb : Only lo' hi' w w') (hh : hi' ≤ lo) : PrsO lo hi w' v xs := ⟨h.1.only hb hh, h.2⟩
theorem PrsO.only2 (h : PrsO lo hi w v xs) (hb : Only lo' hi' w w') (hh : hi ≤ lo') : PrsO lo hi w' v xs := ⟨h.1.only2 hb (h.2.up hh), h.2⟩
theorem PrsO.wide (h : PrsO lo hi w v xs) (hl : lo' ≤ lo) (hh : hi ≤ hi') : PrsO lo' hi' w v xs := ⟨h.1.lower hl, h.2.up hh⟩
theorem PrsO.nil (lo hi : Nat) (w : World) : PrsO lo hi w (.slice none 0 0) [] := ⟨Own.nil _ _ _ _, Under.nil _ _ _⟩
end
theorem PrsO.of_row {lo n : Nat} {w : World} {v : Value} {t : List (Int × Int)} (h : w.ownsRow lo 67 2 v n ((t.map prC).flatten)) (hn : n = t.length) : PrsO lo w.heap.size w v t :=
  ⟨⟨by rw [List.length_map, ← hn]; exact h, fun cs hc => by obtain ⟨x, _, rfl⟩ := List.mem_map.1 hc; rfl⟩, fun g hg => (h.lt g hg).2⟩
theorem PrsO.empty {lo : Nat} (w : World) (h : lo ≤ w.heap.size) : PrsO lo (w.alloc (.cells #[] 67 (0, 0))).heap.size (w.alloc (.cells #[] 67 (0, 0))) (.slice (some ⟨w.heap.size, 0, none⟩) 0 0) [] :=
  PrsO.of_row (n := 0) (World.ownsRow_made w #[] 0 h (Nat.zero_le _) rfl) rfl
theorem below_drewP {n : Nat} {a b : World} (h : Below n a b) (k : Nat) : Below n a (b.drewN k) := ⟨h.os, h.tape, h.output, h.size, h.block⟩
def mPr (k i : Nat) : Int × Int := (((k + i * 2 : Nat) : Int), ((k + i * 2 + 1 : Nat) : Int))
def mPrs (k n : Nat) : List (Int × Int) := (List.range n).map (mPr k)
theorem mPrs_len (k n : Nat) : (mPrs k n).length = n := by simp [mPrs]

theorem mPrs_get (k0 n i : Nat) (h : i < n) : (mPrs k0 n)[i]'(by rw [mPrs_len]; exact h) = mPr k0 i := by simp [mPrs]

end Go.Proofs.Ytenjajcknmfhfaa

namespace Go.Proofs.Ytenjajcknmfhfaa
set_option linter.unusedVariables false
open Go.RowKit Go.Sort

theorem Try.info_pr : (Try.prog.info? 67).map (fun i => (i.zero, i.size, i.bytes)) = some (some (.agg #[.int .i64 0, .int .i64 0]), 2, 16) := by kernel_rfl
theorem cellsL_newV (w : World) (cs : List Value) (t : TypeId) {k : Nat} (hk : k = w.heap.size) : ∀ j u, cs[j]? = some u → (w.alloc (.cells cs.toArray t (0, 0))).cell? ((⟨k, 0, none⟩ : Addr).add j) = some u := by
  subst hk
  intro j u hj
  rw [Addr.add_lit]
  simp only [Nat.zero_add]
  rw [blk_cell (heap_alloc_new w _)]
  simpa using hj
def nevT (s : List Ru) (k : Nat) : List (Int × Int) := ((s.take k).filter (nevB s)).map (fun r => (r.series, r.event))
theorem nevT_all (s : List Ru) : nevT s s.length = nevF s := by unfold nevT nevF; rw [List.take_length]
theorem nevT_len (s : List Ru) (k : Nat) : (nevT s k).length ≤ k := by
  unfold nevT
  rw [List.length_map]
  have := List.length_filter_le (nevB s) (s.take k)
  rw [List.length_take] at this
  omega
theorem nevT_succ {s : List Ru} {k : Nat} (hk : k < s.length) : nevT s (k + 1) = if (s.getD k ruD).event = 0 ∧ (s.getD k ruD).days < (lonRes s (s.getD k ruD).series).1 then nevT s k ++ [((s.getD k ruD).series, (s.getD k ruD).event)] else nevT s k := by
  unfold nevT
  rw [List.take_succ_eq_append_getElem hk, List.filter_append, ← getRu_lt hk]
  by_cases h : (s.getD k ruD).event = 0 ∧ (s.getD k ruD).days < (lonRes s (s.getD k ruD).series).1
  · have hn : nevB s (s.getD k ruD) = true := by unfold nevB; rw [decide_eq_true h.1, decide_eq_true h.2]; rfl
    rw [if_pos h, List.filter_cons_of_pos hn, List.filter_nil, List.map_append]; rfl
  · have hn : ¬ nevB s (s.getD k ruD) = true := by unfold nevB; rw [Bool.and_eq_true, decide_eq_true_eq, decide_eq_true_eq]; exact h
    rw [if_neg h, List.filter_cons_of_neg hn, List.filter_nil, List.append_nil]
theorem nevRes_len {s : List Ru} {xs : List (Int × Int)} {b : Bool} (h : nevRes s = (xs, b)) : xs.length ≤ s.length := by
  unfold nevRes at h
  split at h <;> obtain ⟨rfl, _⟩ := Prod.mk.inj h
  · rw [← nevT_all]; exact nevT_len _ _
  · exact Nat.zero_le _
set_option maxRecDepth 20000 in
set_option maxHeartbeats 8000000 in
theorem specNev_any (v : Value) (s : List Ru) (w : World) (h : RowR 4 rRu w v s) (hn1 : s.length ≤ 1048576) (xs : List (Int × Int)) (b : Bool) (hres : nevRes s = (xs, b)) :
    Calls Try.prog 38 #[v] w fun e w' => ∃ v', e = .returned (.tuple #[v', .bool b]) ∧ PrsO w.heap.size w'.heap.size w' v' xs ∧ Below w.heap.size w w' := by
  obtain ⟨i0, hi, hz0, hz1, hz2⟩ := info_parts Try.info_pr
  have b0 := below_al (Below.refl w.heap.size w) (.cells #[] 67 (0, 0))
  have HS1 := Lib.hid (show ∀ W, Below w.heap.size w W → RowR 4 rRu W v s from fun W hb => h.below rRu_stable hb)
  obtain ⟨a1, c1, hv, hl1, hm1, r1⟩ := h.rus
  subst hv
  have R1 := Lib.hid r1
  unfold maxLen at hm1
  obtain ⟨bs, hs⟩ : ∃ b, isSch s = b := ⟨_, rfl⟩
  have HS := Lib.hid hs
  have HRES := Lib.hid hres
  clear h hs r1 hres
  cases bs
  · have hr := HRES.out
    unfold nevRes at hr
    rw [if_neg (by rw [HS.out]; simp)] at hr
    obtain ⟨rfl, rfl⟩ := Prod.mk.inj hr
    clear hr HRES
    go_enter Try.func38, Try.ntmps38
    go_wp2_with (first | (go_at_call 86; refine (l4Good_any _ s _ (HS1.out _ b0)).mono ?_; rw [HS.out]; rintro e w1 ⟨rfl, b1⟩; have HI1 := Lib.hid (((PrsO.empty w (Nat.le_refl _)).below b1).wide (Nat.le_refl _) b1.size); replace b1 := below_chain b0 b1))
    go_ret2
    exact ⟨_, rfl, HI1.out, b1⟩
  · have hr := HRES.out
    unfold nevRes at hr
    rw [if_pos HS.out] at hr
    obtain ⟨rfl, rfl⟩ := Prod.mk.inj hr
    clear hr HRES
    go_enter Try.func38, Try.ntmps38
    go_wp2_with (first | (go_at_call 86; refine (l4Good_any _ s _ (HS1.out _ b0)).mono ?_; rw [HS.out]; rintro e w1 ⟨rfl, b1⟩; have HI1 := Lib.hid (((PrsO.empty w (Nat.le_refl _)).below b1).wide (Nat.le_refl _) b1.size); replace b1 := below_chain b0 b1))
    go_loopw [4, 5] (fun o i wr => ∃ k : Nat, k ≤ s.length ∧ i = .int .i64 k ∧ wr.ownsRow w.heap.size 67 2 o (nevT s k).length (((nevT s k).map prC).flatten) ∧ Below w.heap.size w wr) (fun _ i _ => s.length - (intOf i).toNat)
    case atStart => exact ⟨0, Nat.zero_le _, rfl, (by simpa [nevT] using HI1.out.1.1), b1⟩
    case round =>
      clear b1 HI1
      obtain ⟨k, hk, rfl, hO, hb⟩ := hrel
      have hsz := hb.size
      by_cases hlt : k < s.length
      · obtain ⟨bb, o1, hbb, rfl, e1⟩ := R1.out.resolve_left (fun e => by rw [e] at hlt; simp at hlt)
        obtain ⟨⟨x0, x1, x2, x3⟩, hx⟩ : ∃ x, s.getD k ruD = x := ⟨_, rfl⟩
        obtain ⟨q0, q1, q2, q3, _⟩ := e1 k hlt
        rw [hx] at q0 q1 q2 q3
        simp only at q0 q1 q2 q3
        have f0 := cell_kept q0 hb
        have f1 := cell_kept q1 hb
        have f2 := cell_kept q2 hb
        have f3 := cell_kept q3 hb
        have hst := nevT_succ hlt
        rw [hx] at hst
        simp only at hst
        obtain ⟨P, hP⟩ : ∃ P, nevT s k = P := ⟨_, rfl⟩
        have hPl : P.length ≤ k := by rw [← hP]; exact nevT_len s k
        rw [hP] at hO hst
        obtain ⟨lc, lb, hL⟩ : ∃ c b, lonRes s x0 = (c, b) := ⟨_, _, rfl⟩
        rw [hL] at hst
        simp only at hst
        have HL := Lib.hid hL
        have HST0 := Lib.hid hst
        have hba := below_al hb (.cells #[.int .i64 x0, .int .i64 x1, .int .i64 x2, .int .i64 x3] 56 (0, 0))
        have HOA := Lib.hid (hO.alloc (.cells #[.int .i64 x0, .int .i64 x1, .int .i64 x2, .int .i64 x3] 56 (0, 0)))
        have HXA := Lib.hid (BxV.new wr [.int .i64 x0, .int .i64 x1, .int .i64 x2, .int .i64 x3] 56)
        have g0 : (0 : Int) ≤ (k : Int) := by omega
        have g1 : (k : Int) < (s.length : Int) := by omega
        clear q0 q1 q2 q3 e1 hx hst hP hL hO
        by_cases he : x1 = 0
        · have r0 : (x1 == 0) = true := by simp [he]
          by_cases hf : x2 < lc
          · have HST := Lib.hid (HST0.out.trans (if_pos ⟨he, hf⟩))
            clear he
            go_wp2_with fail
            refine (specLongestPeriod_any _ s x0 _ (HS1.out _ hba) hn1 lc lb HL.out).mono ?_
            rintro e w2 ⟨rfl, b2⟩
            have hb2 := hba.trans (b2.mono hba.size)
            have hs2 := hb2.size
            have HX2 := HXA.out.below b2
            have z0 := HX2.cell 0
            have z1 := HX2.cell 1
            have z2 := HX2.cell 2
            simp at z0 z1 z2
            have HO2 := Lib.hid (ownsRow_below HOA.out b2)
            clear HXA HOA
            go_wp2_with (first | (at_builtin; refine wpList_append_own _ rfl _ _ 57 rfl w.heap.size 67 i0 (.agg #[.int .i64 0, .int .i64 0]) 2 16 Try.underlying57 hi hz0 hz1 hz2 rfl (by decide) _ _ _ rfl (HO2.out.alloc _) ⟨w2.heap.size, 0, none⟩ 1 1 [.int .i64 x0, .int .i64 x1] rfl rfl (cellsL_newV _ _ _ (by simp)) (by simp [Value.oneCell']) (by unfold maxLen; omega) (by omega) (by simp; omega) ?_; intro v' w4 hown' hgrow _))
            have HOWN := Lib.hid hown'
            have HB2 := Lib.hid (below_app hb2 (Nat.le_refl _) HO2.out hgrow)
            clear hown' hgrow
            go_wp2_with fail
            go_roundw
            case rel => exact ⟨k + 1, by omega, by go_num, (by rw [HST.out]; simpa [prC] using HOWN.out), HB2.out⟩
            case measure => simp [intOf]; omega
          · have HST := Lib.hid (HST0.out.trans (if_neg (fun q => hf q.2)))
            clear he
            go_wp2_with fail
            refine (specLongestPeriod_any _ s x0 _ (HS1.out _ hba) hn1 lc lb HL.out).mono ?_
            rintro e w2 ⟨rfl, b2⟩
            have hb2 := hba.trans (b2.mono hba.size)
            have hs2 := hb2.size
            have HX2 := HXA.out.below b2
            have z0 := HX2.cell 0
            have z1 := HX2.cell 1
            have z2 := HX2.cell 2
            simp at z0 z1 z2
            have HO2 := Lib.hid (ownsRow_below HOA.out b2)
            clear HXA HOA
            go_wp2_with fail
            go_roundw
            case rel => exact ⟨k + 1, by omega, by go_num, (by rw [HST.out]; exact HO2.out), hb2⟩
            case measure => simp [intOf]; omega
        · have r0 : (x1 == 0) = false := by simp [he]
          have HST := Lib.hid (HST0.out.trans (if_neg (fun q => he q.1)))
          clear he
          go_wp2_with fail
          refine (specLongestPeriod_any _ s x0 _ (HS1.out _ hba) hn1 lc lb HL.out).mono ?_
          rintro e w2 ⟨rfl, b2⟩
          have hb2 := hba.trans (b2.mono hba.size)
          have hs2 := hb2.size
          have HX2 := HXA.out.below b2
          have z0 := HX2.cell 0
          have z1 := HX2.cell 1
          have z2 := HX2.cell 2
          simp at z0 z1 z2
          have HO2 := Lib.hid (ownsRow_below HOA.out b2)
          clear HXA HOA
          go_wp2_with fail
          go_roundw
          case rel => exact ⟨k + 1, by omega, by go_num, (by rw [HST.out]; exact HO2.out), hb2⟩
          case measure => simp [intOf]; omega
      · obtain rfl : k = s.length := by omega
        have HF := Lib.hid (by rw [nevT_all] at hO; exact PrsO.of_row hO rfl : PrsO w.heap.size wr.heap.size wr _ (nevF s))
        clear hO
        go_wp2_with fail
        go_ret2
        exact ⟨_, rfl, HF.out, hb⟩
set_option maxRecDepth 20000 in
set_option maxHeartbeats 8000000 in
theorem implNev_any (v : Value) (s : List Ru) (w : World) (h : RowR 4 rRu w v s) (hn1 : s.length ≤ 1048576) (xs : List (Int × Int)) (b : Bool) (hres : nevRes s = (xs, b)) :
    Calls Try.prog 37 #[v] w fun e w' => ∃ v', e = .returned (.tuple #[v', .bool b]) ∧ PrsO w.heap.size w'.heap.size w' v' xs ∧ Below w.heap.size w w' := by
  obtain ⟨i0, hi, hz0, hz1, hz2⟩ := info_parts Try.info_pr
  have b0 := below_al (Below.refl w.heap.size w) (.cells #[] 67 (0, 0))
  have HS1 := Lib.hid (show ∀ W, Below w.heap.size w W → RowR 4 rRu W v s from fun W hb => h.below rRu_stable hb)
  obtain ⟨a1, c1, hv, hl1, hm1, r1⟩ := h.rus
  subst hv
  have R1 := Lib.hid r1
  unfold maxLen at hm1
  obtain ⟨bs, hs⟩ : ∃ b, isSch s = b := ⟨_, rfl⟩
  have HS := Lib.hid hs
  have HRES := Lib.hid hres
  clear h hs r1 hres
  cases bs
  · have hr := HRES.out
    unfold nevRes at hr
    rw [if_neg (by rw [HS.out]; simp)] at hr
    obtain ⟨rfl, rfl⟩ := Prod.mk.inj hr
    clear hr HRES
    go_enter Try.func37, Try.ntmps37
    go_wp2_with (first | (go_at_call 89; refine (implIsSchedule_any _ s _ (HS1.out _ (Below.refl _ _))).mono ?_; rw [HS.out]; rintro e w1 ⟨rfl, b1⟩))
    go_ret2
    exact ⟨_, rfl, PrsO.nil _ _ _, b1⟩
  · have hr := HRES.out
    unfold nevRes at hr
    rw [if_pos HS.out] at hr
    obtain ⟨rfl, rfl⟩ := Prod.mk.inj hr
    clear hr HRES
    go_enter Try.func37, Try.ntmps37
    go_wp2_with (first | (go_at_call 89; refine (implIsSchedule_any _ s _ (HS1.out _ (Below.refl _ _))).mono ?_; rw [HS.out]; rintro e w1 ⟨rfl, b1⟩))
    go_loopw [4, 14] (fun o i wr => ∃ k : Nat, k ≤ s.length ∧ i = .int .i64 k ∧ wr.ownsRow w.heap.size 67 2 o (nevT s k).length (((nevT s k).map prC).flatten) ∧ Below w.heap.size w wr) (fun _ i _ => s.length - (intOf i).toNat)
    case atStart => exact ⟨0, Nat.zero_le _, rfl, (by simpa [nevT] using (PrsO.nil w.heap.size w.heap.size w1).1.1), b1⟩
    case round =>
      clear b1
      obtain ⟨k, hk, rfl, hO, hb⟩ := hrel
      have hsz := hb.size
      by_cases hlt : k < s.length
      · obtain ⟨bb, o1, hbb, rfl, e1⟩ := R1.out.resolve_left (fun e => by rw [e] at hlt; simp at hlt)
        obtain ⟨⟨x0, x1, x2, x3⟩, hx⟩ : ∃ x, s.getD k ruD = x := ⟨_, rfl⟩
        obtain ⟨q0, q1, q2, q3, _⟩ := e1 k hlt
        rw [hx] at q0 q1 q2 q3
        simp only at q0 q1 q2 q3
        have f0 := cell_kept q0 hb
        have f1 := cell_kept q1 hb
        have f2 := cell_kept q2 hb
        have f3 := cell_kept q3 hb
        have hst := nevT_succ hlt
        rw [hx] at hst
        simp only at hst
        obtain ⟨P, hP⟩ : ∃ P, nevT s k = P := ⟨_, rfl⟩
        have hPl : P.length ≤ k := by rw [← hP]; exact nevT_len s k
        rw [hP] at hO hst
        obtain ⟨lc, lb, hL⟩ : ∃ c b, lonRes s x0 = (c, b) := ⟨_, _, rfl⟩
        rw [hL] at hst
        simp only at hst
        have HL := Lib.hid hL
        have HST0 := Lib.hid hst
        have hba := below_al hb (.cells #[.int .i64 x0, .int .i64 x1, .int .i64 x2, .int .i64 x3] 56 (0, 0))
        have HOA := Lib.hid (hO.alloc (.cells #[.int .i64 x0, .int .i64 x1, .int .i64 x2, .int .i64 x3] 56 (0, 0)))
        have HXA := Lib.hid (BxV.new wr [.int .i64 x0, .int .i64 x1, .int .i64 x2, .int .i64 x3] 56)
        have g0 : (0 : Int) ≤ (k : Int) := by omega
        have g1 : (k : Int) < (s.length : Int) := by omega
        clear q0 q1 q2 q3 e1 hx hst hP hL hO
        by_cases he : x1 = 0
        · have r0 : (x1 == 0) = true := by simp [he]
          by_cases hf : x2 < lc
          · have HST := Lib.hid (HST0.out.trans (if_pos ⟨he, hf⟩))
            clear he
            go_wp2_with fail
            refine (implLongestPeriod_any _ s x0 _ (HS1.out _ hba) hn1 lc lb HL.out).mono ?_
            rintro e w2 ⟨rfl, b2⟩
            have hb2 := hba.trans (b2.mono hba.size)
            have hs2 := hb2.size
            have HX2 := HXA.out.below b2
            have z0 := HX2.cell 0
            have z1 := HX2.cell 1
            have z2 := HX2.cell 2
            simp at z0 z1 z2
            have HO2 := Lib.hid (ownsRow_below HOA.out b2)
            clear HXA HOA
            go_wp2_with (first | (at_builtin; refine wpList_append_own _ rfl _ _ 57 rfl w.heap.size 67 i0 (.agg #[.int .i64 0, .int .i64 0]) 2 16 Try.underlying57 hi hz0 hz1 hz2 rfl (by decide) _ _ _ rfl (HO2.out.alloc _) ⟨w2.heap.size, 0, none⟩ 1 1 [.int .i64 x0, .int .i64 x1] rfl rfl (cellsL_newV _ _ _ (by simp)) (by simp [Value.oneCell']) (by unfold maxLen; omega) (by omega) (by simp; omega) ?_; intro v' w4 hown' hgrow _))
            have HOWN := Lib.hid hown'
            have HB2 := Lib.hid (below_app hb2 (Nat.le_refl _) HO2.out hgrow)
            clear hown' hgrow
            go_wp2_with fail
            go_roundw
            case rel => exact ⟨k + 1, by omega, by go_num, (by rw [HST.out]; simpa [prC] using HOWN.out), HB2.out⟩
            case measure => simp [intOf]; omega
          · have HST := Lib.hid (HST0.out.trans (if_neg (fun q => hf q.2)))
            clear he
            go_wp2_with fail
            refine (implLongestPeriod_any _ s x0 _ (HS1.out _ hba) hn1 lc lb HL.out).mono ?_
            rintro e w2 ⟨rfl, b2⟩
            have hb2 := hba.trans (b2.mono hba.size)
            have hs2 := hb2.size
            have HX2 := HXA.out.below b2
            have z0 := HX2.cell 0
            have z1 := HX2.cell 1
            have z2 := HX2.cell 2
            simp at z0 z1 z2
            have HO2 := Lib.hid (ownsRow_below HOA.out b2)
            clear HXA HOA
            go_wp2_with fail
            go_roundw
            case rel => exact ⟨k + 1, by omega, by go_num, (by rw [HST.out]; exact HO2.out), hb2⟩
            case measure => simp [intOf]; omega
        · have r0 : (x1 == 0) = false := by simp [he]
          have HST := Lib.hid (HST0.out.trans (if_neg (fun q => he q.1)))
          clear he
          go_wp2_with fail
          refine (implLongestPeriod_any _ s x0 _ (HS1.out _ hba) hn1 lc lb HL.out).mono ?_
          rintro e w2 ⟨rfl, b2⟩
          have hb2 := hba.trans (b2.mono hba.size)
          have hs2 := hb2.size
          have HX2 := HXA.out.below b2
          have z0 := HX2.cell 0
          have z1 := HX2.cell 1
          have z2 := HX2.cell 2
          simp at z0 z1 z2
          have HO2 := Lib.hid (ownsRow_below HOA.out b2)
          clear HXA HOA
          go_wp2_with fail
          go_roundw
          case rel => exact ⟨k + 1, by omega, by go_num, (by rw [HST.out]; exact HO2.out), hb2⟩
          case measure => simp [intOf]; omega
      · obtain rfl : k = s.length := by omega
        have HF := Lib.hid (by rw [nevT_all] at hO; exact PrsO.of_row hO rfl : PrsO w.heap.size wr.heap.size wr _ (nevF s))
        clear hO
        go_wp2_with fail
        go_ret2
        exact ⟨_, rfl, HF.out, hb⟩
end Go.Proofs.Ytenjajcknmfhfaa
