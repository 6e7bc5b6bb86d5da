/- Contains, TgQ, TgT, RuFor, RuI, SerIn, Ris, IsSer, AreSer, TgG, CompO, TgK, RuForI, in one text. -/
import Derived.Test.YtenjajcknmfhfaaInts
import Derived.Test.YtenjajcknmfhfaaTgZa
import Derived.Test.YtenjajcknmfhfaaRuS
import Derived.Test.YtenjajcknmfhfaaRuCells
import Derived.Test.YtenjajcknmfhfaaSlRu
import Derived.Lib.QuietBelow
import Derived.BigQuiet
import Derived.WalkSmall
import Derived.Test.YtenjajcknmfhfaaShelf
import Derived.Lib.OwnBridge
import Derived.Test.YtenjajcknmfhfaaFoM
import Derived.Test.YtenjajcknmfhfaaCells
import Derived.Test.YtenjajcknmfhfaaL1In
import Derived.Test.YtenjajcknmfhfaaProg
import Derived.Test.YtenjajcknmfhfaaBx
import Derived.Maps.AppendAt
import Derived.Deep.CutRange
import Derived.Deep.RegionHeld3
namespace Go.Proofs.Ytenjajcknmfhfaa
set_option linter.unusedVariables false
open Go.RowKit

def idxI (xs : List Int) (x : Int) : Int := if x ∈ xs then (xs.findIdx (fun y => decide (y = x)) : Nat) else -1
theorem idxI_ge {xs : List Int} {x : Int} : (0 ≤ idxI xs x) ↔ x ∈ xs := by
  unfold idxI
  by_cases h : x ∈ xs
  · rw [if_pos h]; simp [h]
  · rw [if_neg h]; simp [h]
set_option maxHeartbeats 1000000 in
theorem index_any (v : Value) (xs : List Int) (x : Int) (w : World) (h : RowOf vI w v xs) :
    Calls Try.prog 140 #[v, .int .i64 x] w fun e w' => (∃ n : Int, e = .returned (.int .i64 n) ∧ (0 ≤ n ↔ x ∈ xs)) ∧ Below w.heap.size w w' := by
  have hcap := h.cap
  obtain ⟨a1, c1, rfl, hl1, hm1, r1⟩ := h
  have R1 := Lib.hid r1
  clear r1
  unfold maxLen at hm1
  go_enter Try.func140, Try.ntmps140
  go_wp2
  go_loopw [8] (fun i wr => ∃ k : Nat, k ≤ xs.length ∧ i = .int .i64 k ∧ Hid (¬ x ∈ xs.take k) ∧ Below w.heap.size w wr) (fun i _ => xs.length - (intOf i).toNat)
  case atStart => exact ⟨0, Nat.zero_le _, rfl, Lib.hid (by simp), Below.refl _ _⟩
  case round =>
    obtain ⟨k, hk, rfl, HN, hb⟩ := hrel
    by_cases hlt : k < xs.length
    · obtain ⟨b1, o1, hb1, rfl, e1⟩ := R1.out.resolve_left (fun e => by rw [e] at hlt; simp at hlt)
      obtain ⟨y, hy⟩ : ∃ s, xs[k] = s := ⟨_, rfl⟩
      have f1 := (hb.cell (p := ⟨b1, o1 + k, none⟩) hb1).trans (e1 k hlt)
      rw [hy] at f1
      simp only [vI] at f1
      have HY := Lib.hid hy
      have g0 : (0 : Int) ≤ (k : Int) := by omega
      have g1 : (k : Int) < (xs.length : Int) := by omega
      clear e1 hy
      by_cases he : x = y
      · have hq : (x == y) = true := by simp [he]
        have HE : Hid (x ∈ xs) := by rw [he, ← HY.out]; exact List.getElem_mem hlt
        clear he
        go_wp2
        go_ret
        exact ⟨⟨_, rfl, by simp [HE.out]⟩, hb⟩
      · have hq : (x == y) = false := by simp [he]
        have HE : Hid (¬ x ∈ xs.take (k + 1)) := fun h => by
          rw [List.take_succ_eq_append_getElem hlt, List.mem_append, List.mem_singleton, HY.out] at h
          exact h.elim HN.out he
        clear he
        go_wp2
        go_roundw
        case rel => exact ⟨k + 1, by omega, by go_num, HE, hb⟩
        case measure => simp [intOf]; omega
    · have hkl : k = xs.length := by omega
      have HE : Hid (¬ x ∈ xs) := by have := HN.out; rwa [hkl, List.take_length] at this
      clear hkl
      go_wp2
      go_ret
      exact ⟨⟨-1, rfl, by simp [HE.out]⟩, hb⟩
theorem contains_any (v : Value) (xs : List Int) (x : Int) (w : World) (h : RowOf vI w v xs) :
    Calls Try.prog 85 #[v, .int .i64 x] w fun e w' => e = .returned (.bool (decide (x ∈ xs))) ∧ Below w.heap.size w w' := by
  have H := Lib.hid h
  clear h
  go_enter Try.func85, Try.ntmps85
  go_wp2_with fail
  refine (index_any _ xs x _ H.out).mono ?_
  rintro e w' ⟨⟨n, rfl, hn⟩, hb⟩
  have HN := Lib.hid hn
  clear hn
  go_wp2_with fail
  go_ret
  exact ⟨ret_bool (by rw [Bool.eq_iff_iff]; simp [HN.out]), hb⟩
end Go.Proofs.Ytenjajcknmfhfaa

namespace Go.Proofs.Ytenjajcknmfhfaa
set_option linter.unusedVariables false
open Go.RowKit Go.Sort Go.Maps

def cycG (f : Nat) (t : List Tg) (hd : Int) (c : List Int) (x : Tg) : Option (List Int) := if x.aft = hd then some c else if x.aft < hd ∨ x.aft ∈ c then none else cycP f t hd (c ++ [x.aft]) x.aft
theorem cycP_eq (f : Nat) (t : List Tg) (hd : Int) (c : List Int) (last : Int) : cycP (f + 1) t hd c last = (folL t last).findSome? (cycG f t hd c) := rfl
theorem findL_none {α β : Type} {g : α → Option β} {d : α} : ∀ (l : List α), (∀ j, j < l.length → g (l.getD j d) = none) → l.findSome? g = none := by
  intro l h
  rw [List.findSome?_eq_none_iff]
  intro x hx
  obtain ⟨i, hi, rfl⟩ := List.getElem_of_mem hx
  have := h i hi
  simpa [List.getD, List.getElem?_eq_getElem hi] using this
theorem findL_at {α β : Type} {g : α → Option β} {d : α} {y : β} : ∀ (l : List α) (k : Nat), k < l.length → (∀ j, j < k → g (l.getD j d) = none) → g (l.getD k d) = some y → l.findSome? g = some y
  | [], k, hk, _, _ => absurd hk (by simp)
  | a :: l, 0, _, _, h1 => by
    rw [List.getD_cons_zero] at h1
    rw [List.findSome?_cons, h1]
  | a :: l, k + 1, hk, h0, h1 => by
    have ha := h0 0 (by omega)
    rw [List.getD_cons_zero] at ha
    rw [List.findSome?_cons, ha]
    rw [List.getD_cons_succ] at h1
    exact findL_at l k (by simpa using hk) (fun j hj => by have := h0 (j + 1) (by omega); rwa [List.getD_cons_succ] at this) h1
def CycD (lo : Nat) (w : World) (v : Value) (c : List Int) (q : Option (List Int)) (e : Ending) (w' : World) : Prop :=
  ∃ v', e = .returned v' ∧ (∀ p, q = some p → (∃ g n cap, v' = .slice (some ⟨g, 0, none⟩) n cap) ∧ w'.ownsRow lo 3 1 v' p.length (p.map vI)) ∧ (q = none → v' = .slice none 0 0 ∧ w'.ownsRow lo 3 1 v c.length (c.map vI)) ∧ w.grownBy w' v.ownBlock
theorem nil_neqT (W : World) : (binOp BinOp.neq 26 (.slice none 0 0) (.slice none 0 0)).run Try.prog W = .ok (.bool false) W := by kernel_rfl
theorem row_neqT (g n c : Nat) (W : World) : (binOp BinOp.neq 26 (.slice (some ⟨g, 0, none⟩) n c) (.slice none 0 0)).run Try.prog W = .ok (.bool true) W := by kernel_rfl
theorem undrew {a b : World} {r : Option Nat} (h : a.drew.grownBy b r) : a.grownBy b r := ⟨h.os, h.tape, h.output, h.size, h.block⟩
theorem own_some {w : World} {base e size n : Nat} {v : Value} {xs : List Value} (h : w.ownsRow base e size v n xs) (hn : 0 < n) : ∃ g cap, v = .slice (some ⟨g, 0, none⟩) n cap := by
  rcases h.2 with ⟨_, h0⟩ | ⟨g, cap, cur, rfl, _⟩
  · omega
  · exact ⟨g, cap, rfl⟩
theorem grown_join {a b c : World} {g : Nat} (h1 : a.grownBy b (some g)) (h2 : b.grownBy c (some g)) : a.grownBy c (some g) := ⟨h2.os.trans h1.os, h2.tape.trans h1.tape, h2.output.trans h1.output, Nat.le_trans h1.size h2.size, fun k hk hn => (h2.block k (Nat.lt_of_lt_of_le hk h1.size) hn).trans (h1.block k hk hn)⟩
theorem cell_of_grown {w w4 : World} {g b j : Nat} (h : ∃ row, w.grownBy w4 row ∧ (∀ x, row = some x → x = g)) (hn : b ≠ g) (hb : b < w.heap.size) : w4.cell? ⟨b, j, none⟩ = w.cell? ⟨b, j, none⟩ := by
  obtain ⟨row, h1, h2⟩ := h
  exact World.cell?_of_block (h1.block b hb (fun e => hn (h2 b e.symm)))
theorem nod_grown {w w4 : World} {o : Obj} {g hi : Nat} {A : List Nat} {t : List Tg} (hn : NodR hi w A t) (h : ∃ row, (w.alloc o).drew.grownBy w4 row ∧ (∀ x, row = some x → x = g)) (hg : hi ≤ g) : NodR hi w4 A t := by
  obtain ⟨row, h1, h2⟩ := h
  refine hn.below ⟨h1.os, h1.tape, h1.output, by have := h1.size; simp at this; omega, fun k hk => ?_⟩
  have hk2 : k < w.heap.size := Nat.lt_of_lt_of_le hk hn.size
  exact (h1.block k (by simp; omega) (fun e => by have := h2 k e.symm; omega)).trans (heap_alloc_old w _ hk2)
theorem keep_grown {w w1 w2 : World} {g n cap : Nat} {v' : Value} (h : (v' = .slice (some ⟨g, 0, none⟩) n cap ∧ w.grownBy w1 (some g)) ∨ (v'.ownBlock = some w.heap.size ∧ w.grownBy w1 none)) (hg : w1.grownBy w2 v'.ownBlock) : w.grownBy w2 (some g) := by
  rcases h with ⟨rfl, h1⟩ | ⟨hb, h1⟩
  · exact grown_join h1 (by simpa [Value.ownBlock] using hg)
  · rw [hb] at hg
    exact ⟨hg.os.trans h1.os, hg.tape.trans h1.tape, hg.output.trans h1.output, Nat.le_trans h1.size hg.size, fun k hk hn => (hg.block k (Nat.lt_of_lt_of_le hk h1.size) (by simp; omega)).trans (h1.block k hk (by simp))⟩
theorem alloc_grown {w w2 : World} {o : Obj} {g : Nat} (h : (w.alloc o).grownBy w2 (some g)) : w.grownBy w2 (some g) := ⟨h.os, h.tape, h.output, by have := h.size; simp at this; omega, fun k hk hn => (h.block k (by simp; omega) hn).trans (heap_alloc_old w _ hk)⟩
set_option maxRecDepth 20000 in
set_option maxHeartbeats 16000000 in
theorem cycleAlong_any (t : List Tg) (ht : areTg t = true) (A : List Nat) (hi lo : Nat) (hd : Int) (hlo : hi ≤ lo) : ∀ (f : Nat) (c : List Int) (last : Nat) (g cap : Nat) (w : World), NodR hi w A t → c.length + f = 11 → c.Nodup → (∀ x ∈ c, 0 ≤ x ∧ x ≤ 9) → c.getD 0 0 = hd → 0 < c.length → last < 10 → lo ≤ w.heap.size → w.ownsRow lo 3 1 (.slice (some ⟨g, 0, none⟩) c.length cap) c.length (c.map vI) →
    Calls Try.prog 71 #[ptrA A last, .slice (some ⟨g, 0, none⟩) c.length cap] w (CycD lo w (.slice (some ⟨g, 0, none⟩) c.length cap) c (cycP f t hd c (last : Int))) := by
  intro f
  induction f with
  | zero =>
    intro c last g cap w _ hf hn hr _ _ _ _ _
    have := nodup_ten hn hr
    omega
  | succ f ih =>
    intro c last g cap w hnr hf hn hr hhd h0 hla hlw hown
    obtain ⟨i0, hi0, hz0, hz1, hz2⟩ := info_parts Try.info_intN
    have IH := Lib.hid ih
    clear ih
    have HNR := Lib.hid hnr
    have HN := Lib.hid hn
    have HR := Lib.hid hr
    have HHD := Lib.hid hhd
    have hl10 := nodup_ten hn hr
    have HT := Lib.hid ht
    obtain ⟨N, hN⟩ : ∃ N, c.length = N := ⟨_, rfl⟩
    rw [hN] at hf h0 hl10 hown
    rw [hN]
    have HNL := Lib.hid hN
    have HOW := Lib.hid hown
    have hgl := hown.lt g rfl
    obtain ⟨L, hL⟩ : ∃ l, folL t (last : Int) = l := ⟨_, rfl⟩
    have hLm : ∀ x ∈ L, x ∈ t ∧ x.ev = (last : Int) := fun x hx => folL_mem.1 (by rw [hL]; exact hx)
    have HLM := Lib.hid hLm
    obtain ⟨fa, fc, hf1, hf2, hf3, hf4⟩ := hnr.fol last hla
    rw [hL] at hf1 hf2 hf4
    have hLl : L.length ≤ 10 := by rw [← hL]; exact Nat.le_trans (folL_len _) (tg_len ht)
    have HF4 := Lib.hid hf4
    unfold maxLen at hf3
    have HQ : Hid (cycP (f + 1) t hd c (last : Int) = L.findSome? (cycG f t hd c)) := Lib.hid (by rw [cycP_eq, hL])
    have hadr := hnr.adr last hla
    obtain ⟨P, hP⟩ : ∃ p, A.getD last 0 = p := ⟨_, rfl⟩
    unfold ptrA
    rw [hP] at hf1 hadr
    rw [hP]
    clear hnr hn hr hhd hN hown hL hLm hf4 hP ht
    go_enter Try.func71, Try.ntmps71
    go_wp2_with fail
    go_loopw [14] (fun i wr => ∃ k : Nat, k ≤ L.length ∧ i = .int .i64 k ∧ Hid (∀ j, j < k → cycG f t hd c (L.getD j tgD) = none) ∧ Hid (wr.ownsRow lo 3 1 (.slice (some ⟨g, 0, none⟩) N cap) N (c.map vI)) ∧ Hid (w.grownBy wr (some g))) (fun i _ => L.length - (intOf i).toNat)
    case atStart => exact ⟨0, Nat.zero_le _, rfl, Lib.hid (fun j h => absurd h (Nat.not_lt_zero _)), HOW, Lib.hid (World.grownBy.refl _ _)⟩
    case round =>
      clear HOW
      obtain ⟨k, hk, rfl, HJ, HO, HG⟩ := hrel
      have hsw := HG.out.size
      have hbl : Below hi w wr := ⟨HG.out.os, HG.out.tape, HG.out.output, HG.out.size, fun b hb => HG.out.block b (by have := HNR.out.size; omega) (fun e => by cases e; omega)⟩
      have HNW := Lib.hid (HNR.out.below hbl)
      by_cases hlt : k < L.length
      · obtain ⟨fb, fo, hfb, rfl, hfe⟩ := HF4.out.resolve_left (fun e => by rw [e] at hlt; simp at hlt)
        obtain ⟨⟨x0, x1, x2⟩, hx⟩ : ∃ x, L.getD k tgD = x := ⟨_, rfl⟩
        obtain ⟨q0, q1⟩ := hfe k hlt
        rw [hx] at q0 q1
        simp only at q0 q1
        have hxm := HLM.out ⟨x0, x1, x2⟩ (by rw [← hx, getTg_lt hlt]; exact List.getElem_mem hlt)
        have hone := (tgOne_iff.1 (tg_mem HT.out hxm.1)).2.1
        simp only at hone
        obtain ⟨n1, rfl⟩ : ∃ n : Nat, x1 = (n : Int) := ⟨x1.toNat, by omega⟩
        have hn1 : n1 < 10 := by omega
        rw [Int.toNat_natCast] at q0
        have f0 := (hbl.cell (p := ⟨fb, fo + k * 2, none⟩) hfb).trans q0
        have f1 := (hbl.cell (p := ⟨fb, fo + k * 2 + 1, none⟩) hfb).trans q1
        have hkd := HNW.out.kind n1 hn1
        have hka := HNW.out.adr n1 hn1
        unfold ptrA at f0
        obtain ⟨P1, hP1⟩ : ∃ p, A.getD n1 0 = p := ⟨_, rfl⟩
        rw [hP1] at f0 hkd hka
        have HP1 := Lib.hid hP1
        have HX := Lib.hid hx
        have hrow := RowOf.of_owns HO.out
        obtain ⟨ca, cc, hcv, hcl, hcm, hcc⟩ := hrow
        obtain ⟨b0, o0, hb0, e00, e0⟩ := hcc.resolve_left (fun e => by have := HNL.out; rw [e] at this; simp at this; omega)
        have fh := e0 0 (by have := HNL.out; omega)
        rw [← getI_lt (by have := HNL.out; omega), HHD.out] at fh
        simp only [Value.slice.injEq] at hcv
        obtain ⟨rfl, hq9, rfl⟩ := hcv
        clear hq9
        cases e00
        simp only [vI, Nat.add_zero] at fh
        have fha := fun o : Obj => below_al_cell fh o
        have hka2 := fun o : Obj => below_al_cell hkd o
        have g0 : (0 : Int) ≤ (k : Int) := by omega
        have g1 : (k : Int) < (L.length : Int) := by omega
        have gN : (0 : Int) < (N : Int) := by omega
        have HOA := Lib.hid (HO.out.alloc (.cells #[.pointer (some ⟨P1, 0, none⟩), .int .i64 x2] 158 (0, 0)))
        have HGA : Hid (w.grownBy (wr.alloc (.cells #[.pointer (some ⟨P1, 0, none⟩), .int .i64 x2] 158 (0, 0))) (some g)) := Lib.hid ⟨HG.out.os, HG.out.tape, HG.out.output, by have := HG.out.size; simp; omega, fun b hb hn => (heap_alloc_old wr _ (by omega)).trans (HG.out.block b hb hn)⟩
        have hsz := HG.out.size
        clear q0 q1 hfe hxm hone hx hcc e0 hP1
        by_cases he : (n1 : Int) = hd
        · have r0 : ((n1 : Int) == hd) = true := by simp [he]
          have HQ2 : Hid (cycP (f + 1) t hd c (last : Int) = some c) := Lib.hid (by rw [HQ.out]; exact findL_at L k hlt HJ.out (by rw [HX.out]; unfold cycG; rw [if_pos he]))
          clear he
          go_wp2_with fail
          go_ret
          exact ⟨_, rfl, fun p hp => by rw [HQ2.out] at hp; cases hp; exact ⟨⟨_, _, _, rfl⟩, by rw [HNL.out]; exact HOA.out⟩, (fun hp => by rw [HQ2.out] at hp; cases hp), HGA.out⟩
        · have r0 : ((n1 : Int) == hd) = false := by simp [he]
          have HE := Lib.hid he
          clear he
          by_cases hlth : (n1 : Int) < hd
          · have HNX : Hid (cycG f t hd c (L.getD k tgD) = none) := Lib.hid (by rw [HX.out]; unfold cycG; rw [if_neg HE.out, if_pos (.inl hlth)])
            go_wp2_with fail
            go_roundw
            case rel => exact ⟨k + 1, by omega, by go_num, Lib.hid (fun j hj => by by_cases e : j = k; (· rw [e]; exact HNX.out); (· exact HJ.out j (by omega))), HOA, HGA⟩
            case measure => simp [intOf]; omega
          · have HROW := Lib.hid (RowOf.of_owns HOA.out)
            obtain ⟨bm, hbm⟩ : ∃ b, decide ((n1 : Int) ∈ c) = b := ⟨_, rfl⟩
            have HBM := Lib.hid hbm
            have HLTH := Lib.hid hlth
            have dlt : decide ((n1 : Int) < hd) = false := decide_eq_false hlth
            clear hbm hlth
            go_wp2_with fail
            generalize hWB : wr.alloc (.cells #[.pointer (some ⟨P1, 0, none⟩), .int .i64 x2] 158 (0, 0)) = wB at *
            have z0 : wB.cell? ⟨wr.heap.size, 0, none⟩ = some (.pointer (some ⟨P1, 0, none⟩)) := by rw [← hWB]; exact cell_new wr _ _ 0 rfl
            have bB : Below wr.heap.size wr wB := by rw [← hWB]; exact below_al (Below.refl _ _) _
            have hBl : wr.heap.size < wB.heap.size := by rw [← hWB]; simp
            have hBs := bB.size
            clear hWB
            refine (contains_any _ c (n1 : Int) _ HROW.out).mono ?_
            rw [HBM.out]
            rintro e w2 ⟨rfl, b2⟩
            have z2 := cell_kept z0 b2
            have hs2 := b2.size
            have HO2 := Lib.hid (ownsRow_below HOA.out b2)
            have HG2 : Hid (w.grownBy w2 (some g)) := Lib.hid ⟨b2.os.trans HGA.out.os, b2.tape.trans HGA.out.tape, b2.output.trans HGA.out.output, Nat.le_trans HGA.out.size hs2, fun b hb hn => (b2.block b (by have := HGA.out.size; omega)).trans (HGA.out.block b hb hn)⟩
            clear f0 f1 fha hka2 fh z0 HOA HGA HROW
            cases bm
            · obtain ⟨q, hq⟩ : ∃ q, cycP f t hd (c ++ [(n1 : Int)]) (n1 : Int) = q := ⟨_, rfl⟩
              have HCG : Hid (cycG f t hd c (L.getD k tgD) = q) := Lib.hid (by rw [HX.out]; unfold cycG; rw [if_neg HE.out, if_neg (fun z => by rcases z with z | z; (· have z2 : (n1 : Int) < hd := z; have := HLTH.out; omega); (· exact of_decide_eq_false HBM.out z)), ← hq])
              have HQQ := Lib.hid hq
              have IH2 : Hid (∀ (g4 cap4 : Nat) (W : World), NodR hi W A t → lo ≤ W.heap.size → W.ownsRow lo 3 1 (.slice (some ⟨g4, 0, none⟩) (N + 1) cap4) (N + 1) (c.map vI ++ [.int .i64 (n1 : Int)]) → Calls Try.prog 71 #[.pointer (some ⟨P1, 0, none⟩), .slice (some ⟨g4, 0, none⟩) (N + 1) cap4] W (CycD lo W (.slice (some ⟨g4, 0, none⟩) (N + 1) cap4) (c ++ [(n1 : Int)]) q)) := Lib.hid (fun g4 cap4 W h1 h2 h3 => by
                have hl : (c ++ [(n1 : Int)]).length = N + 1 := by simp [HNL.out]
                have := IH.out (c ++ [(n1 : Int)]) n1 g4 cap4 W h1 (by rw [hl]; omega) (by rw [List.nodup_append]; refine ⟨HN.out, by simp, ?_⟩; intro a ha b hb2 e; rw [List.mem_singleton.1 hb2] at e; exact of_decide_eq_false HBM.out (e ▸ ha)) (fun x hx => by rcases List.mem_append.1 hx with q | q; (· exact HR.out x q); (· rw [List.mem_singleton.1 q]; omega)) ((getD0_app (by rw [HNL.out]; omega) _).trans HHD.out) (by rw [hl]; omega) hn1 h2 (by rw [hl]; simpa [vI] using h3)
                rw [hl, hq] at this
                unfold ptrA at this
                rw [HP1.out] at this
                exact this)
              have HNEWS := Lib.hid (cellsL_new w2 [.int .i64 (n1 : Int)] 3 rfl)
              have HLW : Hid (lo ≤ w2.heap.size) := Lib.hid (by omega)
              have HNR2 : Hid (NodR hi w2 A t) := Lib.hid (HNW.out.below ((bB.mono (by have := HNW.out.size; omega)).trans (b2.mono (by have := HNW.out.size; omega))))
              have hnn := nil_neqT
              have hrn := row_neqT
              have hlw2 : lo ≤ w2.heap.size := HLW.out
              have hgl2 : g < wr.heap.size := by omega
              have hlog : lo ≤ g := by have := (HO2.out.lt g rfl).1; omega
              clear hq
              cases q with
              | none =>
                go_wp2_with fail
                go_region_held3 (fun w' => w'.cell? ⟨wr.heap.size, 0, none⟩ = some (.pointer (some ⟨P1, 0, none⟩))) (first | exact z2 | exact hz4 | exact hz5 | go_keep) (first | (rw [if_pos (by rfl)]; refine wp_append_keep _ _ _ _ rfl lo 3 i0 (.int .i64 0) 1 8 Try.underlying26 hi0 hz0 hz1 hz2 rfl (by decide) g N cap (c.map vI) (by rfl) (show (w2.alloc (.cells #[.int .i64 (n1 : Int)] 3 (0, 0))).drew.ownsRow _ _ _ _ _ _ from HO2.out.alloc _) ⟨w2.heap.size, 0, none⟩ 1 1 [.int .i64 (n1 : Int)] (by rfl) rfl HNEWS.out (by simp [Value.oneCell']) (by unfold maxLen; omega) (by omega) (by first | omega | (simp; done) | (simp; omega)) ?_; intro v4 w4 hown4 hor4; obtain ⟨g4, cap4, rfl⟩ := own_some hown4 (by omega); have HOR4 : Hid ((Value.slice (some ⟨g4, 0, none⟩) (N + 1) cap4 = .slice (some ⟨g, 0, none⟩) (N + 1) cap ∧ (w2.alloc (.cells #[.int .i64 (n1 : Int)] 3 (0, 0))).grownBy w4 (some g)) ∨ ((Value.slice (some ⟨g4, 0, none⟩) (N + 1) cap4).ownBlock = some (w2.alloc (.cells #[.int .i64 (n1 : Int)] 3 (0, 0))).heap.size ∧ (w2.alloc (.cells #[.int .i64 (n1 : Int)] 3 (0, 0))).grownBy w4 none)) := Lib.hid (by rcases hor4 with ⟨e, h1⟩ | ⟨e, h1⟩; (· exact .inl ⟨e, undrew h1⟩); (· exact .inr ⟨e, undrew h1⟩)); have HOWN4 := Lib.hid hown4; have HGW4 : Hid (∃ row, (w2.alloc (.cells #[.int .i64 (n1 : Int)] 3 (0, 0))).drew.grownBy w4 row ∧ (∀ b, row = some b → b = g)) := Lib.hid (by rcases hor4 with ⟨_, h1⟩ | ⟨_, h1⟩; (· exact ⟨_, h1, fun b e => by cases e; rfl⟩); (· exact ⟨none, h1, fun b e => by cases e⟩)); have hz4 : w4.cell? ⟨wr.heap.size, 0, none⟩ = some (.pointer (some ⟨P1, 0, none⟩)) := (cell_of_grown HGW4.out (by omega) (by simp; omega)).trans (below_al_cell z2 (.cells #[.int .i64 (n1 : Int)] 3 (0, 0))); have HL4 : Hid (lo ≤ w4.heap.size) := Lib.hid (by obtain ⟨_, h1, _⟩ := HGW4.out; have := h1.size; simp at this; omega); have HNR4 : Hid (NodR hi w4 A t) := Lib.hid (nod_grown HNR2.out HGW4.out (by omega)); have HNE4 : Hid (wr.heap.size ≠ g4) := Lib.hid (by rcases HOR4.out with ⟨e, _⟩ | ⟨e, _⟩; (· simp only [Value.slice.injEq, Option.some.injEq, Addr.mk.injEq, and_true] at e; omega); (· simp [Value.ownBlock] at e; omega)); clear hown4 hor4) | (go_at_call 71; refine (IH2.out _ _ _ HNR4.out HL4.out HOWN4.out).mono ?_; rintro e w5 ⟨v5, rfl, p1, p2, p3⟩; have hz5 : w5.cell? ⟨wr.heap.size, 0, none⟩ = some (.pointer (some ⟨P1, 0, none⟩)) := (cell_of_grown (g := g4) ⟨_, p3, fun x e => by simpa [Value.ownBlock] using e.symm⟩ HNE4.out (by obtain ⟨_, h1, _⟩ := HGW4.out; have := h1.size; simp at this; omega)).trans hz4; obtain ⟨rfl, p4⟩ := p2 rfl; have HK5 := Lib.hid (keep_old (HO2.out.alloc (.cells #[.int .i64 (n1 : Int)] 3 (0, 0))) HOR4.out p3 (by simpa [vI, HNL.out] using p4)); clear p1 p2 p3 p4))
                all_goals
                  go_wp2_with fail
                  go_roundw
                  case rel => exact ⟨k + 1, by omega, by go_num, Lib.hid (fun j hj => by by_cases e : j = k; (· rw [e]; exact HCG.out); (· exact HJ.out j (by omega))), Lib.hid HK5.out.1, Lib.hid (grown_join HG2.out (alloc_grown HK5.out.2))⟩
                  case measure => simp [intOf]; omega
              | some p =>
                have HQ2 : Hid (cycP (f + 1) t hd c (last : Int) = some p) := Lib.hid (by rw [HQ.out]; exact findL_at L k hlt HJ.out HCG.out)
                go_wp2_with fail
                go_region_held3 (fun w' => w'.cell? ⟨wr.heap.size, 0, none⟩ = some (.pointer (some ⟨P1, 0, none⟩))) (first | exact z2 | exact hz4 | exact hz5 | go_keep) (first | (rw [if_pos (by rfl)]; refine wp_append_keep _ _ _ _ rfl lo 3 i0 (.int .i64 0) 1 8 Try.underlying26 hi0 hz0 hz1 hz2 rfl (by decide) g N cap (c.map vI) (by rfl) (show (w2.alloc (.cells #[.int .i64 (n1 : Int)] 3 (0, 0))).drew.ownsRow _ _ _ _ _ _ from HO2.out.alloc _) ⟨w2.heap.size, 0, none⟩ 1 1 [.int .i64 (n1 : Int)] (by rfl) rfl HNEWS.out (by simp [Value.oneCell']) (by unfold maxLen; omega) (by omega) (by first | omega | (simp; done) | (simp; omega)) ?_; intro v4 w4 hown4 hor4; obtain ⟨g4, cap4, rfl⟩ := own_some hown4 (by omega); have HOR4 : Hid ((Value.slice (some ⟨g4, 0, none⟩) (N + 1) cap4 = .slice (some ⟨g, 0, none⟩) (N + 1) cap ∧ (w2.alloc (.cells #[.int .i64 (n1 : Int)] 3 (0, 0))).grownBy w4 (some g)) ∨ ((Value.slice (some ⟨g4, 0, none⟩) (N + 1) cap4).ownBlock = some (w2.alloc (.cells #[.int .i64 (n1 : Int)] 3 (0, 0))).heap.size ∧ (w2.alloc (.cells #[.int .i64 (n1 : Int)] 3 (0, 0))).grownBy w4 none)) := Lib.hid (by rcases hor4 with ⟨e, h1⟩ | ⟨e, h1⟩; (· exact .inl ⟨e, undrew h1⟩); (· exact .inr ⟨e, undrew h1⟩)); have HOWN4 := Lib.hid hown4; have HGW4 : Hid (∃ row, (w2.alloc (.cells #[.int .i64 (n1 : Int)] 3 (0, 0))).drew.grownBy w4 row ∧ (∀ b, row = some b → b = g)) := Lib.hid (by rcases hor4 with ⟨_, h1⟩ | ⟨_, h1⟩; (· exact ⟨_, h1, fun b e => by cases e; rfl⟩); (· exact ⟨none, h1, fun b e => by cases e⟩)); have hz4 : w4.cell? ⟨wr.heap.size, 0, none⟩ = some (.pointer (some ⟨P1, 0, none⟩)) := (cell_of_grown HGW4.out (by omega) (by simp; omega)).trans (below_al_cell z2 (.cells #[.int .i64 (n1 : Int)] 3 (0, 0))); have HL4 : Hid (lo ≤ w4.heap.size) := Lib.hid (by obtain ⟨_, h1, _⟩ := HGW4.out; have := h1.size; simp at this; omega); have HNR4 : Hid (NodR hi w4 A t) := Lib.hid (nod_grown HNR2.out HGW4.out (by omega)); have HNE4 : Hid (wr.heap.size ≠ g4) := Lib.hid (by rcases HOR4.out with ⟨e, _⟩ | ⟨e, _⟩; (· simp only [Value.slice.injEq, Option.some.injEq, Addr.mk.injEq, and_true] at e; omega); (· simp [Value.ownBlock] at e; omega)); clear hown4 hor4) | (go_at_call 71; refine (IH2.out _ _ _ HNR4.out HL4.out HOWN4.out).mono ?_; rintro e w5 ⟨v5, rfl, p1, p2, p3⟩; have hz5 : w5.cell? ⟨wr.heap.size, 0, none⟩ = some (.pointer (some ⟨P1, 0, none⟩)) := (cell_of_grown (g := g4) ⟨_, p3, fun x e => by simpa [Value.ownBlock] using e.symm⟩ HNE4.out (by obtain ⟨_, h1, _⟩ := HGW4.out; have := h1.size; simp at this; omega)).trans hz4; obtain ⟨⟨g5, n5, cap5, rfl⟩, p4⟩ := p1 _ rfl; have HK5 := Lib.hid (keep_grown (w := w2.alloc (.cells #[.int .i64 (n1 : Int)] 3 (0, 0))) HOR4.out p3); have HP5 := Lib.hid p4; clear p1 p2 p3 p4))
                all_goals
                  go_wp2_with fail
                  go_ret
                  exact ⟨_, rfl, (fun p' hp => by rw [HQ2.out] at hp; cases hp; exact ⟨⟨_, _, _, rfl⟩, HP5.out⟩), (fun hp => by rw [HQ2.out] at hp; cases hp), grown_join HG2.out (alloc_grown HK5.out)⟩
            · have HNX : Hid (cycG f t hd c (L.getD k tgD) = none) := Lib.hid (by rw [HX.out]; unfold cycG; rw [if_neg HE.out, if_pos (.inr (of_decide_eq_true HBM.out))])
              go_wp2_with fail
              go_roundw
              case rel => exact ⟨k + 1, by omega, by go_num, Lib.hid (fun j hj => by by_cases e : j = k; (· rw [e]; exact HNX.out); (· exact HJ.out j (by omega))), HO2, HG2⟩
              case measure => simp [intOf]; omega
      · have HQ2 : Hid (cycP (f + 1) t hd c (last : Int) = none) := Lib.hid (by rw [HQ.out]; exact findL_none (d := tgD) L (fun j hj => HJ.out j (by omega)))
        go_wp2_with fail
        go_ret
        exact ⟨_, rfl, (fun p hp => by rw [HQ2.out] at hp; cases hp), fun _ => ⟨rfl, by rw [HNL.out]; exact HO.out⟩, HG.out⟩
end Go.Proofs.Ytenjajcknmfhfaa

namespace Go.Proofs.Ytenjajcknmfhfaa
set_option linter.unusedVariables false
open Go.RowKit Go.Sort Go.Maps

theorem cyc_below {w2 wr w3 : World} {o : Obj} {n c : Nat} (hb : Below w2.heap.size w2 wr) (h : (wr.alloc o).grownBy w3 (Value.slice (some ⟨wr.heap.size, 0, none⟩) n c).ownBlock) : Below w2.heap.size w2 w3 :=
  (hb.alloc hb.size o).grown h (by have := hb.size; simp; omega) (fun g e => by have := hb.size; simp [Value.ownBlock] at e; omega)
theorem IntsO.of_rowT {lo : Nat} {w : World} {v : Value} {xs : List Int} (h : w.ownsRow lo 3 1 v xs.length (xs.map vI)) : IntsO lo w.heap.size w v xs := ⟨h, fun g hg => (h.lt g hg).2⟩
theorem chainF_len {t : List Tg} {hd : Int} : ∀ (f : Nat) (c : List Int) (last : Int) (p : List Int), chainF f t hd c last = some p → p.length < c.length + f
  | 0, _, _, _, h => by simp [chainF] at h
  | f + 1, c, last, p, h => by
    unfold chainF at h
    obtain ⟨k, hk, hs⟩ := List.exists_of_findSome?_eq_some h
    split at hs
    · split at hs
      · split at hs
        · cases hs; omega
        · split at hs
          · cases hs
          · have := chainF_len f (c ++ [k]) k p hs
            rw [List.length_append, List.length_singleton] at this
            omega
      · cases hs
    · cases hs
theorem cycF_len {t : List Tg} {p : List Int} (h : cycF t = some p) : p.length ≤ 11 := by
  unfold cycF at h
  obtain ⟨k, hk, hs⟩ := List.exists_of_findSome?_eq_some h
  have := chainF_len 10 [k] k p hs
  simp only [List.length_singleton] at this
  omega
theorem getD_nine : ∀ j, j < 9 → ([1, 2, 3, 4, 5, 6, 7, 8, 9] : List Int).getD j 0 = ((j + 1 : Nat) : Int) := by decide
theorem getD_tenT : ∀ j, j < 10 → ([0, 1, 2, 3, 4, 5, 6, 7, 8, 9] : List Int).getD j 0 = (j : Int) := by decide
theorem cycF_none {t : List Tg} (h : ∀ j : Nat, 1 ≤ j → j < 10 → chainF 10 t (j : Int) [(j : Int)] (j : Int) = none) : cycF t = none := by
  unfold cycF
  refine findL_none (d := (0 : Int)) _ (fun j hj => ?_)
  rw [getD_nine j (by simpa using hj)]
  exact h (j + 1) (by omega) (by have : j < 9 := (by simpa using hj); omega)
theorem cycF_at {t : List Tg} {k : Nat} {p : List Int} (h1 : 1 ≤ k) (h9 : k < 10) (h : ∀ j : Nat, 1 ≤ j → j < k → chainF 10 t (j : Int) [(j : Int)] (j : Int) = none) (hp : chainF 10 t (k : Int) [(k : Int)] (k : Int) = some p) : cycF t = some p := by
  unfold cycF
  obtain ⟨m, rfl⟩ : ∃ m, k = m + 1 := ⟨k - 1, by omega⟩
  refine findL_at (d := (0 : Int)) _ m (by simp; omega) (fun j hj => ?_) ?_
  · rw [getD_nine j (by omega)]
    exact h (j + 1) (by omega) (by omega)
  · rw [getD_nine m (by omega)]
    exact hp
theorem cycT_none {t : List Tg} (ht : areTg t = true) (h : ∀ j : Nat, j < 10 → cycP 10 t (j : Int) [(j : Int)] (j : Int) = none) : cycF t = none := by
  rw [cycF_ten ht]
  refine findL_none (d := (0 : Int)) _ (fun j hj => ?_)
  rw [getD_tenT j (by simpa using hj)]
  exact h j (by simpa using hj)
theorem cycT_at {t : List Tg} (ht : areTg t = true) {k : Nat} {p : List Int} (h9 : k < 10) (h : ∀ j : Nat, j < k → cycP 10 t (j : Int) [(j : Int)] (j : Int) = none) (hp : cycP 10 t (k : Int) [(k : Int)] (k : Int) = some p) : cycF t = some p := by
  rw [cycF_ten ht]
  refine findL_at (d := (0 : Int)) _ k (by simp; omega) (fun j hj => ?_) ?_
  · rw [getD_tenT j (by omega)]; exact h j hj
  · rw [getD_tenT k h9]; exact hp
theorem lit_own (w : World) (k : Nat) : (w.alloc (.cells #[.int .i64 (k : Int)] 3 (0, 0))).ownsRow w.heap.size 3 1 (.slice (some ⟨w.heap.size, 0, none⟩) 1 1) 1 (([(k : Int)] : List Int).map vI) := by
  have := World.ownsRow_lit (base := w.heap.size) (e := 3) (size := 1) w #[.int .i64 (k : Int)] 1 (Nat.le_refl _) (by decide) rfl
  simpa [vI] using this
set_option maxRecDepth 20000 in
set_option maxHeartbeats 4000000 in
theorem l10Cycle_any (v : Value) (t : List Tg) (w : World) (h : RowR 3 rTg w v t) : Calls Try.prog 73 #[v] w (ChainD t w.heap.size w (cycF t)) := by
  have H := Lib.hid h
  clear h
  go_enter Try.func73, Try.ntmps73
  go_wp2_with fail
  go_loopw [4] (fun i wr => ∃ k : Nat, 1 ≤ k ∧ k ≤ 10 ∧ i = .int .i64 k ∧ Hid (∀ j : Nat, 1 ≤ j → j < k → chainF 10 t (j : Int) [(j : Int)] (j : Int) = none) ∧ Below w.heap.size w wr) (fun i _ => 10 - (intOf i).toNat)
  case atStart => exact ⟨1, by omega, by omega, rfl, Lib.hid (fun j h1 h2 => by omega), Below.refl _ _⟩
  case round =>
    obtain ⟨k, hk1, hk, rfl, HJ, hb⟩ := hrel
    have hsz := hb.size
    by_cases hlt : k < 10
    · have g9 : (k : Int) ≤ 9 := by omega
      have b1 := below_al hb (.cells #[.int .i64 (k : Int)] 3 (0, 0))
      have HLO : Hid (IntsO wr.heap.size (wr.alloc (.cells #[.int .i64 (k : Int)] 3 (0, 0))).heap.size (wr.alloc (.cells #[.int .i64 (k : Int)] 3 (0, 0))) (.slice (some ⟨wr.heap.size, 0, none⟩) 1 1) [(k : Int)]) := Lib.hid (ints_rowN (n := 1) (lit_own wr k) rfl)
      obtain ⟨q, hq⟩ : ∃ q, chainF 10 t (k : Int) [(k : Int)] (k : Int) = q := ⟨_, rfl⟩
      have HQ := Lib.hid hq
      have HC : Hid (Calls Try.prog 134 #[v, .slice (some ⟨wr.heap.size, 0, none⟩) 1 1] (wr.alloc (.cells #[.int .i64 (k : Int)] 3 (0, 0))) (ChainD t wr.heap.size (wr.alloc (.cells #[.int .i64 (k : Int)] 3 (0, 0))) q)) := Lib.hid (by
        have := l10Chain_any t 10 [(k : Int)] (k : Int) (k : Int) wr.heap.size v (.slice (some ⟨wr.heap.size, 0, none⟩) 1 1) (wr.alloc (.cells #[.int .i64 (k : Int)] 3 (0, 0))) (H.out.below rTg_stable b1) rfl (by simp) (by simp; omega) rfl rfl (by simp) (by simp) HLO.out
        rwa [hq] at this)
      clear hq
      cases q with
      | none =>
        go_wp2_with fail
        refine HC.out.mono ?_
        rintro e w2 ⟨v2, rfl, ho2, b2⟩
        obtain ⟨a2, n2, c2, rfl⟩ := ho2.slice
        clear ho2
        go_wp2_with fail
        go_roundw
        case rel => exact ⟨k + 1, by omega, by omega, by go_num, Lib.hid (fun j h1 h2 => by by_cases e : j = k; (· rw [e]; exact HQ.out); (· exact HJ.out j h1 (by omega))), b1.trans (b2.mono b1.size)⟩
        case measure => simp [intOf]; omega
      | some p =>
        have HF : Hid (cycF t = some p) := Lib.hid (cycF_at hk1 hlt HJ.out HQ.out)
        go_wp2_with fail
        refine HC.out.mono ?_
        rintro e w2 ⟨v2, rfl, ho2, b2⟩
        obtain ⟨a2, n2, c2, rfl⟩ := ho2.slice
        have HO2 := Lib.hid (ho2.wide hsz (Nat.le_refl _))
        clear ho2
        go_wp2_with fail
        go_ret2
        unfold ChainD
        rw [HF.out]
        exact ⟨_, rfl, HO2.out, b1.trans (b2.mono b1.size)⟩
    · have hk10 : Hid (k = 10) := Lib.hid (by omega)
      have g9 : ¬ (k : Int) ≤ 9 := by omega
      have HF : Hid (cycF t = none) := Lib.hid (cycF_none (fun j h1 h2 => HJ.out j h1 (by have := hk10.out; omega)))
      clear HJ hk hlt
      go_wp2_with fail
      go_ret2
      unfold ChainD
      rw [HF.out]
      exact ⟨_, rfl, ints_rowN (lo := w.heap.size) (World.ownsRow_made wr #[] 0 hsz (Nat.zero_le _) rfl) rfl, below_al hb _⟩
set_option maxHeartbeats 4000000 in
theorem specFirstCycle_any (v : Value) (t : List Tg) (w : World) (h : RowR 3 rTg w v t) (xs : List Int) (b : Bool) (hres : fcRes t = (xs, b)) :
    Calls Try.prog 10 #[v] w fun e w' => ∃ v', e = .returned (.tuple #[v', .bool b]) ∧ IntsO w.heap.size w'.heap.size w' v' xs ∧ Below w.heap.size w w' := by
  have H := Lib.hid h
  obtain ⟨bs, hs⟩ : ∃ b, areTg t = b := ⟨_, rfl⟩
  have HS := Lib.hid hs
  unfold fcRes at hres
  rw [hs] at hres
  have HRES := Lib.hid hres
  clear h hs hres
  cases bs
  · have hr := HRES.out
    rw [if_neg (by simp)] at hr
    obtain ⟨rfl, rfl⟩ := Prod.mk.inj hr
    clear hr
    go_enter Try.func10, Try.ntmps10
    go_wp2_with (first | (go_at_call 72; refine (l10Good_any _ t _ H.out).mono ?_; rw [HS.out]; rintro e w1 ⟨rfl, b1⟩))
    go_ret2
    exact ⟨_, rfl, ints_rowN (lo := w.heap.size) (World.ownsRow_made w1 #[] 0 b1.size (Nat.zero_le _) rfl) rfl, below_al b1 _⟩
  · have hr := HRES.out
    rw [if_pos rfl] at hr
    have HX : Hid (xs = (cycF t).getD [] ∧ b = (cycF t).isSome) := Lib.hid (by rcases hc : cycF t with _ | p <;> rw [hc] at hr <;> obtain ⟨rfl, rfl⟩ := Prod.mk.inj hr <;> exact ⟨rfl, rfl⟩)
    clear hr HRES
    go_enter Try.func10, Try.ntmps10
    go_wp2_with (first | (go_at_call 72; refine (l10Good_any _ t _ H.out).mono ?_; rw [HS.out]; rintro e w1 ⟨rfl, b1⟩) | (go_at_call 73; refine (l10Cycle_any _ t _ (H.out.below rTg_stable b1)).mono ?_; rintro e w2 ⟨v2, rfl, ho2, b2⟩; obtain ⟨a2, n2, c2, rfl⟩ := ho2.slice; have HO2 := Lib.hid (ho2.wide b1.size (Nat.le_refl _)); replace b1 := below_chain b1 b2; clear ho2))
    go_ret2
    exact ⟨_, by rw [HX.out.2]; rfl, by rw [HX.out.1]; exact HO2.out, b1⟩
set_option maxHeartbeats 4000000 in
theorem specHasCycle_any (v : Value) (t : List Tg) (w : World) (h : RowR 3 rTg w v t) (f b : Bool) (hres : hcRes t = (f, b)) :
    Calls Try.prog 15 #[v] w fun e w' => e = .returned (.tuple #[.bool f, .bool b]) ∧ Below w.heap.size w w' := by
  have H := Lib.hid h
  obtain ⟨bs, hs⟩ : ∃ b, areTg t = b := ⟨_, rfl⟩
  have HS := Lib.hid hs
  unfold hcRes at hres
  rw [hs] at hres
  have HRES := Lib.hid hres
  clear h hs hres
  cases bs
  · have hr := HRES.out
    rw [if_neg (by simp)] at hr
    obtain ⟨rfl, rfl⟩ := Prod.mk.inj hr
    clear hr
    go_enter Try.func15, Try.ntmps15
    go_wp2_with (first | (go_at_call 72; refine (l10Good_any _ t _ H.out).mono ?_; rw [HS.out]; rintro e w1 ⟨rfl, b1⟩))
    go_ret2
    exact ⟨rfl, b1⟩
  · have hr := HRES.out
    rw [if_pos rfl] at hr
    obtain ⟨rfl, rfl⟩ := Prod.mk.inj hr
    clear hr HRES
    go_enter Try.func15, Try.ntmps15
    go_wp2_with (first | (go_at_call 72; refine (l10Good_any _ t _ H.out).mono ?_; rw [HS.out]; rintro e w1 ⟨rfl, b1⟩) | (go_at_call 73; refine (l10Cycle_any _ t _ (H.out.below rTg_stable b1)).mono ?_; rintro e w2 ⟨v2, rfl, ho2, b2⟩; obtain ⟨a2, n2, c2, rfl⟩ := ho2.slice; replace b1 := below_chain b1 b2; clear ho2))
    go_ret2
    exact ⟨rfl, b1⟩
set_option maxRecDepth 20000 in
set_option maxHeartbeats 8000000 in
theorem implFirstCycle_any (v : Value) (t : List Tg) (w : World) (h : RowR 3 rTg w v t) (xs : List Int) (b : Bool) (hres : fcRes t = (xs, b)) :
    Calls Try.prog 9 #[v] w fun e w' => ∃ v', e = .returned (.tuple #[v', .bool b]) ∧ IntsO w.heap.size w'.heap.size w' v' xs ∧ Below w.heap.size w w' := by
  have H := Lib.hid h
  obtain ⟨bs, hs⟩ : ∃ b, areTg t = b := ⟨_, rfl⟩
  have HS := Lib.hid hs
  unfold fcRes at hres
  rw [hs] at hres
  have HRES := Lib.hid hres
  clear h hs hres
  cases bs
  · have hr := HRES.out
    rw [if_neg (by simp)] at hr
    obtain ⟨rfl, rfl⟩ := Prod.mk.inj hr
    clear hr
    go_enter Try.func9, Try.ntmps9
    go_wp2_with (first | (go_at_call 12; refine (implAreTg_any _ t _ H.out).mono ?_; rw [HS.out]; rintro e w1 ⟨rfl, b1⟩))
    go_ret2
    exact ⟨_, rfl, ⟨World.ownsRow_nil _ _ _ _, Under.nil _ _ _⟩, b1⟩
  · have hr := HRES.out
    rw [if_pos rfl] at hr
    have HX : Hid (xs = (cycF t).getD [] ∧ b = (cycF t).isSome) := Lib.hid (by rcases hc : cycF t with _ | p <;> rw [hc] at hr <;> obtain ⟨rfl, rfl⟩ := Prod.mk.inj hr <;> exact ⟨rfl, rfl⟩)
    clear hr HRES
    go_enter Try.func9, Try.ntmps9
    go_wp2_with (first | (go_at_call 12; refine (implAreTg_any _ t _ H.out).mono ?_; rw [HS.out]; rintro e w1 ⟨rfl, b1⟩) | (go_at_call 70; refine (nodesOf_any _ t _ (H.out.below rTg_stable b1) HS.out).mono ?_; rintro e w2 ⟨mb, D, A, rfl, hm2, hk2, hr2, hmb, b2⟩; have HM2 := Lib.hid hm2; have HK2 := Lib.hid hk2; have HR2 := Lib.hid hr2; replace b1 := below_chain b1 b2; clear hm2 hk2 hr2))
    have HML : Hid (mb < w2.heap.size) := Lib.hid HM2.out.lt
    have hb1s := b1.size
    go_loopw [12] (fun i wr => ∃ k : Nat, k ≤ 10 ∧ i = .int .i64 k ∧ Hid (∀ j : Nat, j < k → cycP 10 t (j : Int) [(j : Int)] (j : Int) = none) ∧ Below w2.heap.size w2 wr) (fun i _ => 10 - (intOf i).toNat)
    case atStart => exact ⟨0, by omega, rfl, Lib.hid (fun j h => absurd h (Nat.not_lt_zero _)), Below.refl _ _⟩
    case round =>
      obtain ⟨k, hk, rfl, HJ, hb⟩ := hrel
      have hsz := hb.size
      by_cases hlt : k < 10
      · have g9 : (k : Int) < 10 := by omega
        have hl := look_node (mapN_kept HM2.out (grownBy_of_below hb none) (by simp)) HK2.out k hlt (Nat.le_refl _)
        have hbl := below_al (Below.refl wr.heap.size wr) (.cells #[.int .i64 (k : Int)] 3 (0, 0))
        obtain ⟨q, hq⟩ : ∃ q, cycP 10 t (k : Int) [(k : Int)] (k : Int) = q := ⟨_, rfl⟩
        have HQ := Lib.hid hq
        have HC : Hid (Calls Try.prog 71 #[ptrA A k, .slice (some ⟨wr.heap.size, 0, none⟩) 1 1] (wr.alloc (.cells #[.int .i64 (k : Int)] 3 (0, 0))) (CycD wr.heap.size (wr.alloc (.cells #[.int .i64 (k : Int)] 3 (0, 0))) (.slice (some ⟨wr.heap.size, 0, none⟩) 1 1) [(k : Int)] q)) := Lib.hid (by
          have := cycleAlong_any t HS.out A w2.heap.size wr.heap.size (k : Int) hsz 10 [(k : Int)] k wr.heap.size 1 (wr.alloc (.cells #[.int .i64 (k : Int)] 3 (0, 0))) (HR2.out.below (hb.trans (hbl.mono hsz))) rfl (by simp) (by simp; omega) rfl (by simp) hlt (by simp) (lit_own wr k)
          rwa [hq] at this)
        have hnn := nil_neqT
        have hrn := row_neqT
        unfold ptrA at hl HC
        obtain ⟨P, hP⟩ : ∃ p, A.getD k 0 = p := ⟨_, rfl⟩
        rw [hP] at hl HC
        clear hq hP
        cases q with
        | none =>
          go_wp2_with fail
          refine HC.out.mono ?_
          rintro e w3 ⟨v3, rfl, p1, p2, p3⟩
          obtain ⟨rfl, _⟩ := p2 rfl
          have HB3 := Lib.hid (cyc_below hb p3)
          clear p1 p2 p3
          go_wp2_with fail
          go_roundw
          case rel => exact ⟨k + 1, by omega, by go_num, Lib.hid (fun j h2 => by by_cases e : j = k; (· rw [e]; exact HQ.out); (· exact HJ.out j (by omega))), HB3.out⟩
          case measure => simp [intOf]; omega
        | some p =>
          have HF : Hid (cycF t = some p) := Lib.hid (cycT_at HS.out hlt HJ.out HQ.out)
          go_wp2_with fail
          refine HC.out.mono ?_
          rintro e w3 ⟨v3, rfl, p1, p2, p3⟩
          obtain ⟨⟨g3, n3, c3, rfl⟩, p4⟩ := p1 p rfl
          have HB3 := Lib.hid (cyc_below hb p3)
          have HP4 := Lib.hid p4
          clear p1 p2 p3 p4
          go_wp2_with fail
          go_ret2
          refine ⟨_, by rw [HX.out.2, HF.out]; rfl, ?_, b1.trans (HB3.out.mono hb1s)⟩
          rw [HX.out.1, HF.out]
          exact (IntsO.of_rowT HP4.out).wide (by omega) (Nat.le_refl _)
      · have hk10 : Hid (k = 10) := Lib.hid (by omega)
        have g9 : ¬ (k : Int) < 10 := by omega
        have HF : Hid (cycF t = none) := Lib.hid (cycT_none HS.out (fun j h2 => HJ.out j (by have := hk10.out; omega)))
        clear HJ hk hlt
        go_wp2_with fail
        go_ret2
        refine ⟨_, by rw [HX.out.2, HF.out]; rfl, ?_, b1.trans (hb.mono hb1s)⟩
        rw [HX.out.1, HF.out]
        exact ⟨World.ownsRow_nil _ _ _ _, Under.nil _ _ _⟩
set_option maxHeartbeats 4000000 in
theorem implHasCycle_any (v : Value) (t : List Tg) (w : World) (h : RowR 3 rTg w v t) (f b : Bool) (hres : hcRes t = (f, b)) :
    Calls Try.prog 14 #[v] w fun e w' => e = .returned (.tuple #[.bool f, .bool b]) ∧ Below w.heap.size w w' := by
  have H := Lib.hid h
  obtain ⟨xs, bf, hf⟩ : ∃ xs b, fcRes t = (xs, b) := ⟨_, _, rfl⟩
  have HF := Lib.hid hf
  have HX : Hid (f = bf ∧ b = areTg t) := Lib.hid (by
    unfold hcRes at hres
    unfold fcRes at hf
    rcases ha : areTg t with _ | _
    · rw [ha, if_neg (by simp)] at hres hf
      obtain ⟨rfl, rfl⟩ := Prod.mk.inj hres
      obtain ⟨_, rfl⟩ := Prod.mk.inj hf
      exact ⟨rfl, rfl⟩
    · rw [ha, if_pos rfl] at hres hf
      obtain ⟨rfl, rfl⟩ := Prod.mk.inj hres
      rcases hc : cycF t with _ | p <;> rw [hc] at hf <;> obtain ⟨_, rfl⟩ := Prod.mk.inj hf <;> exact ⟨rfl, rfl⟩)
  clear h hres hf
  go_enter Try.func14, Try.ntmps14
  go_wp2_with (first | (go_at_call 9; refine (implFirstCycle_any _ t _ H.out xs bf HF.out).mono ?_; rintro e w1 ⟨v1, rfl, ho1, b1⟩; obtain ⟨a1, n1, c1, rfl⟩ := ho1.slice; clear ho1) | (go_at_call 12; refine (implAreTg_any _ t _ (H.out.below rTg_stable b1)).mono ?_; rintro e w2 ⟨rfl, b2⟩; replace b1 := below_chain b1 b2))
  go_ret2
  exact ⟨by rw [HX.out.1, HX.out.2]; rfl, b1⟩
theorem fcRes_len {t : List Tg} {xs : List Int} {b : Bool} (h : fcRes t = (xs, b)) : xs.length ≤ 11 := by
  unfold fcRes at h
  split at h
  · rename_i ht
    rcases hc : cycF t with _ | p
    · rw [hc] at h; obtain ⟨rfl, _⟩ := Prod.mk.inj h; simp
    · rw [hc] at h
      obtain ⟨rfl, _⟩ := Prod.mk.inj h
      exact cycF_len hc
  · obtain ⟨rfl, _⟩ := Prod.mk.inj h; simp
end Go.Proofs.Ytenjajcknmfhfaa

namespace Go.Proofs.Ytenjajcknmfhfaa
set_option linter.unusedVariables false
open Go.RowKit Go.Sort

set_option maxRecDepth 20000 in
set_option maxHeartbeats 2000000 in
theorem l4For_any (v : Value) (t : List Ru) (x : Int) (w : World) (h : RowR 4 rRu w v t) (hn : t.length ≤ 1048576) :
    Calls Try.prog 88 #[v, .int .i64 x] w fun e w' => ∃ v', e = .returned v' ∧ RusO w.heap.size w'.heap.size w' v' (forRu t x) ∧ Below w.heap.size w w' := by
  obtain ⟨i0, hi, hz0, hz1, hz2⟩ := info_parts Try.info_ru
  have hok := h.rus_ok
  have HOK := Lib.hid hok
  obtain ⟨a1, c1, hv, hl1, hm1, r1⟩ := h.rus
  subst hv
  have R1 := Lib.hid r1
  clear h r1 hok
  unfold maxLen at hm1
  go_enter Try.func88, Try.ntmps88
  go_wp2_with fail
  go_loopw [5, 6] (fun o i wr => ∃ k : Nat, k ≤ t.length ∧ i = .int .i64 k ∧ wr.ownsRow w.heap.size 56 4 o (forRu (t.take k) x).length (((forRu (t.take k) x).map ruC).flatten) ∧ Below w.heap.size w wr) (fun _ i _ => t.length - (intOf i).toNat)
  case atStart => exact ⟨0, Nat.zero_le _, rfl, by simpa [forRu] using World.ownsRow_made w #[] 0 (Nat.le_refl _) (Nat.zero_le _) rfl, below_al (Below.refl _ _) _⟩
  case round =>
    obtain ⟨k, hk, rfl, hO, hb⟩ := hrel
    by_cases hlt : k < t.length
    · obtain ⟨b1, o1, hb1, rfl, e1⟩ := R1.out.resolve_left (fun e => by rw [e] at hlt; simp at hlt)
      obtain ⟨q0, q1, q2, q3, hok⟩ := e1 k hlt
      have hsucc := forRu_succ (s := x) hlt
      obtain ⟨P, hP⟩ : ∃ P, forRu (t.take k) x = P := ⟨_, rfl⟩
      have hPl : P.length ≤ k := by
        rw [← hP]
        have := forRu_len (t.take k) x
        rw [List.length_take] at this
        omega
      rw [hP] at hO hsucc
      obtain ⟨⟨x0, x1, x2, x3⟩, hx⟩ : ∃ s, t.getD k ruD = s := ⟨_, rfl⟩
      rw [hx] at q0 q1 q2 q3 hsucc
      simp only at q0 q1 q2 q3 hsucc
      have f0 := cell_kept q0 hb
      have f1 := cell_kept q1 hb
      have f2 := cell_kept q2 hb
      have f3 := cell_kept q3 hb
      have HSU := Lib.hid hsucc
      have g0 : (0 : Int) ≤ (k : Int) := by omega
      have g1 : (k : Int) < (t.length : Int) := by omega
      have hsz := hb.size
      clear q0 q1 q2 q3 hok e1 hx hsucc hP
      by_cases he : x0 = x
      · have hq : (x0 == x) = true := by simp [he]
        have HSU2 := Lib.hid (HSU.out.trans (if_pos he))
        clear he
        go_wp2_with (first | (at_builtin; refine wpList_append_own _ rfl _ _ 40 rfl w.heap.size 56 i0 (.agg #[.int .i64 0, .int .i64 0, .int .i64 0, .int .i64 0]) 4 32 Try.underlying40 hi hz0 hz1 hz2 rfl (by decide) _ _ _ rfl (hO.alloc _) ⟨wr.heap.size, 0, none⟩ 1 1 [.int .i64 x0, .int .i64 x1, .int .i64 x2, .int .i64 x3] rfl rfl (cells4_new' _ _ _ _ _ _ (by simp)) (by simp [Value.oneCell']) (by unfold maxLen; omega) (by omega) (by simp; omega) ?_; intro v' w4 hown' hgrow _))
        have HOWN := Lib.hid hown'
        have HB := Lib.hid (below_app hb (Nat.le_refl _) hO hgrow)
        clear hown' hgrow hO
        go_wp2_with fail
        go_roundw
        case rel => exact ⟨k + 1, by omega, by go_num, (by rw [HSU2.out]; simpa [ruC] using HOWN.out), HB.out⟩
        case measure => simp [intOf]; omega
      · have hq : (x0 == x) = false := by simp [he]
        have HSU2 := Lib.hid (HSU.out.trans (if_neg he))
        have HO := Lib.hid hO
        clear he hO
        go_wp2_with fail
        go_roundw
        case rel => exact ⟨k + 1, by omega, by go_num, (by rw [HSU2.out]; exact HO.out), hb⟩
        case measure => simp [intOf]; omega
    · obtain rfl : k = t.length := by omega
      rw [List.take_length] at hO
      have HF := Lib.hid (RusO.of_row hO rfl (fun f hf => HOK.out f (forRu_mem hf).1))
      clear hO
      go_wp2_with fail
      go_ret
      exact ⟨_, rfl, HF.out, hb⟩

end Go.Proofs.Ytenjajcknmfhfaa

namespace Go.Proofs.Ytenjajcknmfhfaa
set_option linter.unusedVariables false
open Go.RowKit Go.Sort

theorem implIsSeries_any (n : Int) (w : World) : Calls Try.prog 90 #[.int .i64 n] w fun e w' => e = .returned (.bool (decide (1 ≤ n ∧ n ≤ 99))) ∧ w' = w := by
  by_cases h1 : 1 ≤ n
  · go_enter Try.func90, Try.ntmps90
    go_wp2
    go_ret
    exact ⟨ret_bool (by first | (simp; done) | (simp; omega) | (rw [Bool.eq_iff_iff]; simp; omega)), rfl⟩
  · go_enter Try.func90, Try.ntmps90
    go_wp2
    go_ret
    exact ⟨ret_bool (by first | (simp; done) | (simp; omega) | (rw [Bool.eq_iff_iff]; simp; omega)), rfl⟩

theorem keyOf_any (x : Ru) (w : World) : Calls Try.prog 145 #[.agg #[.int .i64 x.series, .int .i64 x.event, .int .i64 x.days, .int .i64 x.act]] w fun e w' => e = .returned (.agg #[.int .i64 x.series, .int .i64 x.event]) ∧ Below w.heap.size w w' := by
  obtain ⟨x0, x1, x2, x3⟩ := x
  simp only
  go_enter Try.func145, Try.ntmps145
  go_wp2_with fail
  refine bodyPost_ret (v := .agg #[.int .i64 x0, .int .i64 x1]) (by simp [results, Try.results145, go_sem]) rfl ⟨rfl, ?_⟩
  exact below_al (below_al (Below.refl _ _) _) _

theorem isBefore_any (a b : Ru) (w : World) : Calls Try.prog 144 #[.agg #[.int .i64 a.series, .int .i64 a.event], .agg #[.int .i64 b.series, .int .i64 b.event]] w fun e w' => e = .returned (.bool (bef a b)) ∧ Below w.heap.size w w' := by
  obtain ⟨x0, x1, x2, x3⟩ := a
  obtain ⟨y0, y1, y2, y3⟩ := b
  simp only [bef]
  by_cases h2 : x0 = y0
  · have e2 : (x0 != y0) = false := by simp [h2]
    have H2 := Lib.hid h2
    clear h2
    go_enter Try.func144, Try.ntmps144
    go_wp2_with fail
    go_ret
    exact ⟨ret_bool (by have := H2.out; apply decide_eq_decide.2; omega), below_al (below_al (Below.refl _ _) _) _⟩
  · have e2 : (x0 != y0) = true := by simp [h2]
    have H2 := Lib.hid h2
    clear h2
    go_enter Try.func144, Try.ntmps144
    go_wp2_with fail
    go_ret
    exact ⟨ret_bool (by have := H2.out; apply decide_eq_decide.2; omega), below_al (below_al (Below.refl _ _) _) _⟩

theorem implIsAct_any (n : Int) (w : World) : Calls Try.prog 166 #[.int .i64 n] w fun e w' => e = .returned (.bool (decide (1 ≤ n ∧ n ≤ 3))) ∧ w' = w := by
  by_cases h1 : 1 ≤ n
  · by_cases h2 : n ≤ 3
    · go_enter Try.func166, Try.ntmps166
      go_wp2
      go_ret
      exact ⟨ret_bool (by simp; omega), rfl⟩
    · go_enter Try.func166, Try.ntmps166
      go_wp2
      go_ret
      exact ⟨ret_bool (by simp; omega), rfl⟩
  · go_enter Try.func166, Try.ntmps166
    go_wp2
    go_ret
    exact ⟨ret_bool (by simp; omega), rfl⟩

set_option maxHeartbeats 2000000 in
theorem implIsRule_any (x : Ru) (w : World) : Calls Try.prog 143 #[.agg #[.int .i64 x.series, .int .i64 x.event, .int .i64 x.days, .int .i64 x.act]] w fun e w' => e = .returned (.bool (isRu x)) ∧ Below w.heap.size w w' := by
  obtain ⟨x0, x1, x2, x3⟩ := x
  simp only
  obtain ⟨b0, h0⟩ : ∃ b, decide (1 ≤ x0 ∧ x0 ≤ 99) = b := ⟨_, rfl⟩
  obtain ⟨b5, h5⟩ : ∃ b, decide (1 ≤ x3 ∧ x3 ≤ 3) = b := ⟨_, rfl⟩
  have hr : isRu ⟨x0, x1, x2, x3⟩ = (b0 && (decide ((0 ≤ x1 ∧ x1 ≤ 9) ∧ (0 ≤ x2 ∧ x2 ≤ 20000)) && b5)) := by simp only [isRu]; rw [h0, h5]; cases b0 <;> cases b5 <;> simp
  rw [hr]
  have H0 := Lib.hid h0
  have H5 := Lib.hid h5
  clear h0 h5 hr
  cases b0
  · go_enter Try.func143, Try.ntmps143
    go_wp2_with (first | (go_at_call 90; refine (implIsSeries_any _ _).mono ?_; rw [H0.out]; rintro e w' ⟨rfl, rfl⟩) | (go_at_call 166; refine (implIsAct_any _ _).mono ?_; rw [H5.out]; rintro e w' ⟨rfl, rfl⟩))
    go_ret
    exact ⟨ret_bool (by first | (simp; done) | (simp; omega) | (rw [Bool.eq_iff_iff]; simp; omega)), below_al (Below.refl _ _) _⟩
  · by_cases h1 : 0 ≤ x1
    · by_cases h2 : x1 ≤ 9
      · by_cases h3 : 0 ≤ x2
        · by_cases h4 : x2 ≤ 20000
          · go_enter Try.func143, Try.ntmps143
            go_wp2_with (first | (go_at_call 90; refine (implIsSeries_any _ _).mono ?_; rw [H0.out]; rintro e w' ⟨rfl, rfl⟩) | (go_at_call 166; refine (implIsAct_any _ _).mono ?_; rw [H5.out]; rintro e w' ⟨rfl, rfl⟩))
            go_ret
            exact ⟨ret_bool (by first | (simp; done) | (simp; omega) | (rw [Bool.eq_iff_iff]; simp; omega)), below_al (Below.refl _ _) _⟩
          · go_enter Try.func143, Try.ntmps143
            go_wp2_with (first | (go_at_call 90; refine (implIsSeries_any _ _).mono ?_; rw [H0.out]; rintro e w' ⟨rfl, rfl⟩) | (go_at_call 166; refine (implIsAct_any _ _).mono ?_; rw [H5.out]; rintro e w' ⟨rfl, rfl⟩))
            go_ret
            exact ⟨ret_bool (by first | (simp; done) | (simp; omega) | (rw [Bool.eq_iff_iff]; simp; omega)), below_al (Below.refl _ _) _⟩
        · go_enter Try.func143, Try.ntmps143
          go_wp2_with (first | (go_at_call 90; refine (implIsSeries_any _ _).mono ?_; rw [H0.out]; rintro e w' ⟨rfl, rfl⟩) | (go_at_call 166; refine (implIsAct_any _ _).mono ?_; rw [H5.out]; rintro e w' ⟨rfl, rfl⟩))
          go_ret
          exact ⟨ret_bool (by first | (simp; done) | (simp; omega) | (rw [Bool.eq_iff_iff]; simp; omega)), below_al (Below.refl _ _) _⟩
      · go_enter Try.func143, Try.ntmps143
        go_wp2_with (first | (go_at_call 90; refine (implIsSeries_any _ _).mono ?_; rw [H0.out]; rintro e w' ⟨rfl, rfl⟩) | (go_at_call 166; refine (implIsAct_any _ _).mono ?_; rw [H5.out]; rintro e w' ⟨rfl, rfl⟩))
        go_ret
        exact ⟨ret_bool (by first | (simp; done) | (simp; omega) | (rw [Bool.eq_iff_iff]; simp; omega)), below_al (Below.refl _ _) _⟩
    · go_enter Try.func143, Try.ntmps143
      go_wp2_with (first | (go_at_call 90; refine (implIsSeries_any _ _).mono ?_; rw [H0.out]; rintro e w' ⟨rfl, rfl⟩) | (go_at_call 166; refine (implIsAct_any _ _).mono ?_; rw [H5.out]; rintro e w' ⟨rfl, rfl⟩))
      go_ret
      exact ⟨ret_bool (by first | (simp; done) | (simp; omega) | (rw [Bool.eq_iff_iff]; simp; omega)), below_al (Below.refl _ _) _⟩

set_option maxRecDepth 20000 in
set_option maxHeartbeats 4000000 in
theorem implIsSchedule_any (v : Value) (t : List Ru) (w : World) (h : RowR 4 rRu w v t) :
    Calls Try.prog 89 #[v] w fun e w' => e = .returned (.bool (isSch t)) ∧ Below w.heap.size w w' := by
  have hcap := h.cap
  obtain ⟨a1, c1, hv, hl1, hm1, r1⟩ := h.rus
  subst hv
  have R1 := Lib.hid r1
  clear h r1
  unfold maxLen at hm1
  by_cases h8 : t.length ≤ 8
  · go_enter Try.func89, Try.ntmps89
    go_wp2_with fail
    go_loopw [12] (fun i wr => ∃ k : Nat, k ≤ t.length ∧ i = .int .i64 k ∧ Hid (upto (ruAtB t) k = true) ∧ wr.cell? ⟨w.heap.size, 0, none⟩ = some (.int .i64 (prevRu t k).series) ∧ wr.cell? ⟨w.heap.size, 1, none⟩ = some (.int .i64 (prevRu t k).event) ∧ wr.frozen? ⟨w.heap.size, 0, none⟩ = false ∧ wr.frozen? ⟨w.heap.size, 1, none⟩ = false ∧ w.heap.size < wr.heap.size ∧ Below w.heap.size w wr) (fun i _ => t.length - (intOf i).toNat)
    case atStart =>
      refine ⟨0, Nat.zero_le _, rfl, Lib.hid (by simp [upto]), ?_, ?_, ?_, ?_, ?_, ?_⟩
      · exact cell_new w _ _ 0 rfl
      · exact cell_new w _ _ 1 rfl
      · simp
      · simp
      · simp
      · exact below_al (Below.refl _ _) _
    case round =>
      obtain ⟨k, hk, rfl, HU, z0, z1, y0, y1, hwl, hb⟩ := hrel
      by_cases hlt : k < t.length
      · obtain ⟨b1, o1, hb1, rfl, e1⟩ := R1.out.resolve_left (fun e => by rw [e] at hlt; simp at hlt)
        obtain ⟨f, hx⟩ : ∃ s, t.getD k ruD = s := ⟨_, rfl⟩
        obtain ⟨q0, q1, q2, q3, hok⟩ := e1 k hlt
        rw [hx] at q0 q1 q2 q3 hok
        obtain ⟨x0, x1, x2, x3⟩ := f
        simp only at q0 q1 q2 q3
        have f0 := cell_kept q0 hb
        have f1 := cell_kept q1 hb
        have f2 := cell_kept q2 hb
        have f3 := cell_kept q3 hb
        have HX := Lib.hid hx
        have g0 : (0 : Int) ≤ (k : Int) := by omega
        have g1 : (k : Int) < (t.length : Int) := by omega
        obtain ⟨⟨p0, p1, p2, p3⟩, hp⟩ : ∃ s, prevRu t k = s := ⟨_, rfl⟩
        rw [hp] at z0 z1
        simp only at z0 z1
        obtain ⟨bF, hbF⟩ : ∃ b, isRu ⟨x0, x1, x2, x3⟩ = b := ⟨_, rfl⟩
        obtain ⟨bB, hbB⟩ : ∃ b, bef ⟨p0, p1, p2, p3⟩ ⟨x0, x1, x2, x3⟩ = b := ⟨_, rfl⟩
        have HF := Lib.hid hbF
        have HBB := Lib.hid hbB
        have HP := Lib.hid hp
        clear q0 q1 q2 q3 hok hx hp e1
        go_wp2_with fail
        generalize hWE : wr.alloc (.cells #[.int .i64 x0, .int .i64 x1, .int .i64 x2, .int .i64 x3] 56 (0, 0)) = wE
        have bE : Below wr.heap.size wr wE := by rw [← hWE]; exact below_al (Below.refl _ _) _
        have u0 : wE.cell? ⟨wr.heap.size, 0, none⟩ = some (.int .i64 x0) := by rw [← hWE]; exact cell_new wr _ _ 0 rfl
        have u1 : wE.cell? ⟨wr.heap.size, 1, none⟩ = some (.int .i64 x1) := by rw [← hWE]; exact cell_new wr _ _ 1 rfl
        have u2 : wE.cell? ⟨wr.heap.size, 2, none⟩ = some (.int .i64 x2) := by rw [← hWE]; exact cell_new wr _ _ 2 rfl
        have u3 : wE.cell? ⟨wr.heap.size, 3, none⟩ = some (.int .i64 x3) := by rw [← hWE]; exact cell_new wr _ _ 3 rfl
        have s0 : wE.cell? ⟨w.heap.size, 0, none⟩ = some (.int .i64 p0) := by rw [← hWE]; exact below_al_cell z0 _
        have s1 : wE.cell? ⟨w.heap.size, 1, none⟩ = some (.int .i64 p1) := by rw [← hWE]; exact below_al_cell z1 _
        have m0 := cell_regrown u0
        have m1 := cell_regrown u1
        have m2 := cell_regrown u2
        have m3 := cell_regrown u3
        have n0 := cell_regrown s0
        have n1 := cell_regrown s1
        have t0 : wE.frozen? ⟨w.heap.size, 0, none⟩ = false := by rw [← hWE]; exact frozen_kept y0 hwl (below_al (Below.refl _ _) _)
        have t1 : wE.frozen? ⟨w.heap.size, 1, none⟩ = false := by rw [← hWE]; exact frozen_kept y1 hwl (below_al (Below.refl _ _) _)
        have bwE : Below w.heap.size w wE := hb.trans (bE.mono hb.size)
        have hlE : wr.heap.size < wE.heap.size := by rw [← hWE]; simp
        have hc : ∀ d os, Calls Try.prog 143 #[.agg #[.int .i64 x0, .int .i64 x1, .int .i64 x2, .int .i64 x3]] (grow (redrawn wE d) os) fun e w'' => e = .returned (.bool bF) ∧ ∃ p : Regrown, w'' = grow (redrawn wE p.d) p.os := fun d os => Calls.regrown_of (by have := implIsRule_any ⟨x0, x1, x2, x3⟩ (grow (redrawn wE d) os); rwa [HF.out] at this)
        have hd : ∀ d os, Calls Try.prog 145 #[.agg #[.int .i64 x0, .int .i64 x1, .int .i64 x2, .int .i64 x3]] (grow (redrawn wE d) os) fun e w'' => e = .returned (.agg #[.int .i64 x0, .int .i64 x1]) ∧ ∃ p : Regrown, w'' = grow (redrawn wE p.d) p.os := fun d os => Calls.regrown_of (keyOf_any ⟨x0, x1, x2, x3⟩ (grow (redrawn wE d) os))
        have he : ∀ d os, Calls Try.prog 144 #[.agg #[.int .i64 p0, .int .i64 p1], .agg #[.int .i64 x0, .int .i64 x1]] (grow (redrawn wE d) os) fun e w'' => e = .returned (.bool bB) ∧ ∃ p : Regrown, w'' = grow (redrawn wE p.d) p.os := fun d os => Calls.regrown_of (by have := isBefore_any ⟨p0, p1, p2, p3⟩ ⟨x0, x1, x2, x3⟩ (grow (redrawn wE d) os); rwa [HBB.out] at this)
        clear hbF hbB
        cases bF
        · have hnt := notSch hlt (ruAt_no1 HX.out HF.out)
          have HNT := Lib.hid hnt
          clear hnt
          refine wp_region_quiet_below (by kernel_rfl) (by kernel_rfl) ?_
          repeat (go_big_quiet_step (first | exact hc _ _ | exact hd _ _ | exact he _ _))
          refine wpQuiet_nil ?_
          intro _ hw'
          obtain ⟨⟨dq, osq⟩, hw''⟩ := hw'
          subst hw''
          have bq := below_regrown wE dq osq
          generalize grow (redrawn wE dq) osq = w2 at bq ⊢
          go_wp2
          go_ret
          exact ⟨ret_bool HNT.out.symm, bwE.trans (bq.mono bwE.size)⟩
        · cases bB
          · have hnt := notSch hlt (ruAt_no2 HX.out (by rw [HP.out]; exact HBB.out))
            have HNT := Lib.hid hnt
            clear hnt
            refine wp_region_quiet_below (by kernel_rfl) (by kernel_rfl) ?_
            repeat (go_big_quiet_step (first | exact hc _ _ | exact hd _ _ | exact he _ _))
            refine wpQuiet_nil ?_
            intro _ hw'
            obtain ⟨⟨dq, osq⟩, hw''⟩ := hw'
            subst hw''
            have bq := below_regrown wE dq osq
            generalize grow (redrawn wE dq) osq = w2 at bq ⊢
            go_wp2
            go_ret
            exact ⟨ret_bool HNT.out.symm, bwE.trans (bq.mono bwE.size)⟩
          · have HU2 := Lib.hid (upto_succ HU.out (ruAt_yes HX.out HF.out (by rw [HP.out]; exact HBB.out)))
            refine wp_region_quiet_below (by kernel_rfl) (by kernel_rfl) ?_
            repeat (go_big_quiet_step (first | exact hc _ _ | exact hd _ _ | exact he _ _))
            refine wpQuiet_nil ?_
            intro _ hw'
            obtain ⟨⟨dq, osq⟩, hw''⟩ := hw'
            subst hw''
            have bq := below_regrown wE dq osq
            have b2 := bwE.trans (bq.mono bwE.size)
            have l2 : w.heap.size < (grow (redrawn wE dq) osq).heap.size := Nat.lt_of_lt_of_le (Nat.lt_of_le_of_lt hb.size hlE) bq.size
            have i0 := cell_kept u0 bq
            have i1 := cell_kept u1 bq
            have i2 := cell_kept u2 bq
            have i3 := cell_kept u3 bq
            have j0 := cell_kept s0 bq
            have j1 := cell_kept s1 bq
            have k0 := frozen_kept t0 (Nat.lt_of_le_of_lt hb.size hlE) bq
            have k1 := frozen_kept t1 (Nat.lt_of_le_of_lt hb.size hlE) bq
            generalize grow (redrawn wE dq) osq = w2 at *
            clear m0 m1 m2 m3 n0 n1 hc hd he u0 u1 u2 u3 s0 s1 t0 t1 bq bE bwE f0 f1 f2 f3 z0 z1 y0 y1 hWE
            go_wp2_with (first | (go_at_call 145; refine (keyOf_any ⟨x0, x1, x2, x3⟩ _).mono ?_; rintro e w3 ⟨rfl, b3⟩; have r0 := cell_kept j0 b3; have r1 := cell_kept j1 b3; have t0 := frozen_kept k0 l2 b3; have t1 := frozen_kept k1 l2 b3; have b23 := below_chain b2 b3; have l3 := Nat.lt_of_lt_of_le l2 b3.size))
            go_roundw
            case rel =>
              have e0 : prevRu t (k + 1) = ⟨x0, x1, x2, x3⟩ := HX.out
              refine ⟨k + 1, by omega, by go_num, HU2, ?_, ?_, ?_, ?_, ?_, ?_⟩
              · rw [e0, cellset_other _ (by simp), cellset_same _ r0]
              · rw [e0, cellset_same (u := .int .i64 p1) _ (by rw [cellset_other _ (by simp)]; exact r1)]
              · rw [World.frozen?_setCell, World.frozen?_setCell]; exact t0
              · rw [World.frozen?_setCell, World.frozen?_setCell]; exact t1
              · simpa [World.setCell] using l3
              · exact (b23.setCell (Nat.le_refl _) _).setCell (Nat.le_refl _) _
            case measure => simp [intOf]; omega
      · obtain rfl : k = t.length := by omega
        have HS := Lib.hid (sch_all h8 HU.out)
        go_wp2
        go_ret
        exact ⟨ret_bool HS.out.symm, hb⟩
  · have HN := Lib.hid (sch_long h8)
    go_enter Try.func89, Try.ntmps89
    go_wp2
    go_ret
    exact ⟨ret_bool HN.out.symm, Below.refl _ _⟩
end Go.Proofs.Ytenjajcknmfhfaa

namespace Go.Proofs.Ytenjajcknmfhfaa
set_option linter.unusedVariables false
open Go.RowKit Go.Sort

theorem cell1_new (w : World) (v : Value) (t : TypeId) {k : Nat} (hk : k = w.heap.size) : ∀ j u, [v][j]? = some u → (w.alloc (.cells #[v] t (0, 0))).cell? ((⟨k, 0, none⟩ : Addr).add j) = some u := by
  subst hk
  intro j u hj
  rw [Addr.add_lit]
  match j, hj with
  | 0, h => cases h; exact cell_new w _ _ 0 rfl
theorem serF_iff {t : List Ru} {x : Int} : x ∈ serF t ↔ ∃ r ∈ t, r.series = x := by
  refine ⟨serF_mem, ?_⟩
  have key : ∀ (t : List Ru) (o : List Int), (x ∈ o ∨ ∃ r ∈ t, r.series = x) → x ∈ (t.foldl (fun o r => if r.series ∈ o then o else o ++ [r.series]) o) := by
    intro t
    induction t with
    | nil => intro o h; simpa using h
    | cons r l ih =>
      intro o h
      rw [List.foldl_cons]
      refine ih _ ?_
      rcases h with h | ⟨q, hq, e⟩
      · left; split
        · exact h
        · exact List.mem_append_left _ h
      · rcases List.mem_cons.1 hq with h1 | h1
        · subst h1; left; split
          · rename_i hm; rw [← e]; exact hm
          · rw [← e]; simp
        · exact .inr ⟨q, h1, e⟩
  intro h
  exact key t [] (.inr h)
theorem ser_le {t : List Ru} (h : isSch t = true) {i j : Nat} (hij : i ≤ j) (hj : j < t.length) : (t.getD i ruD).series ≤ (t.getD j ruD).series := by
  rcases Nat.lt_or_eq_of_le hij with h' | h'
  · have := sch_bef h h' hj
    rw [bef_iff] at this
    omega
  · subst h'; exact Int.le_refl _
theorem ser_compact {t : List Ru} (h : isSch t = true) : Lib.compact (t.map (·.series)) = serF t := by
  have hk : ∀ k, k ≤ t.length → Lib.compactUpTo (t.map (·.series)).toArray k = serF (t.take k) := by
    intro k
    induction k with
    | zero => intro _; simp [Lib.compactUpTo, serF]
    | succ k ih =>
      intro hk
      have hlt : k < t.length := by omega
      have g : ∀ j, j < t.length → (t.map (·.series)).toArray[j]! = (t.getD j ruD).series := fun j hj => by
        rw [getElem!_pos _ j (by simpa using hj), getRu_lt hj]; simp
      rw [Lib.compactUpTo_succ, ih (by omega), serF_succ hlt, g k hlt]
      by_cases hm : (t.getD k ruD).series ∈ serF (t.take k)
      · rw [if_pos hm]
        obtain ⟨r, hr, e⟩ := serF_iff.1 hm
        rw [List.mem_take_iff_getElem] at hr
        obtain ⟨i, hi, rfl⟩ := hr
        have h1 := ser_le h (i := i) (j := k - 1) (by omega) (by omega)
        have h2 := ser_le h (i := k - 1) (j := k) (by omega) hlt
        rw [getRu_lt (show i < t.length by omega)] at h1
        have hkn : Lib.keeps (t.map (·.series)).toArray k = false := Lib.keeps_neg (by omega) (by rw [g k hlt, g (k - 1) (by omega)]; omega)
        rw [hkn]; simp
      · rw [if_neg hm]
        have hkn : Lib.keeps (t.map (·.series)).toArray k = true := by
          rcases Nat.eq_zero_or_pos k with h0 | h0
          · subst h0; exact Lib.keeps_lt_one _ 0 (by omega)
          · refine Lib.keeps_pos ?_
            rw [g k hlt, g (k - 1) (by omega)]
            intro e
            refine hm (serF_iff.2 ⟨t.getD (k - 1) ruD, ?_, e.symm⟩)
            rw [getRu_lt (by omega), List.mem_take_iff_getElem]
            exact ⟨k - 1, by omega, rfl⟩
        rw [hkn]; simp
  have := hk t.length (Nat.le_refl _)
  rw [List.take_length] at this
  unfold Lib.compact
  rw [← this]; simp
theorem sinRes_no {t : List Ru} {xs : List Int} {b : Bool} (h : sinRes t = (xs, b)) (hn : isSch t = false) : xs = [] ∧ b = false := by
  unfold sinRes at h
  rw [if_neg (by rw [hn]; simp)] at h
  obtain ⟨h1, h2⟩ := Prod.mk.inj h
  exact ⟨h1.symm, h2.symm⟩
theorem sinRes_yes {t : List Ru} {xs : List Int} {b : Bool} (h : sinRes t = (xs, b)) (hn : isSch t = true) : xs = serF t ∧ b = true := by
  unfold sinRes at h
  rw [if_pos hn] at h
  obtain ⟨h1, h2⟩ := Prod.mk.inj h
  exact ⟨h1.symm, h2.symm⟩
theorem IntsO.of_row {lo n : Nat} {w : World} {v : Value} {xs : List Int} (h : w.ownsRow lo 3 1 v n (xs.map vI)) (hn : n = xs.length) : IntsO lo w.heap.size w v xs := ⟨by rw [← hn]; exact h, fun g hg => (h.lt g hg).2⟩


set_option maxRecDepth 20000 in
set_option maxHeartbeats 2000000 in
theorem implSeriesIn_any (v : Value) (t : List Ru) (w : World) (h : RowR 4 rRu w v t) (hn : t.length ≤ 1048576) (xs : List Int) (b : Bool) (hres : sinRes t = (xs, b)) :
    Calls Try.prog 83 #[v] w fun e w' => ∃ v', e = .returned (.tuple #[v', .bool b]) ∧ IntsO w.heap.size w'.heap.size w' v' xs ∧ Below w.heap.size w w' := by
  obtain ⟨i0, hi, hz0, hz1, hz2⟩ := info_parts Try.info_int
  have H := Lib.hid h
  have HRES := Lib.hid hres
  obtain ⟨bs, hs⟩ : ∃ b, isSch t = b := ⟨_, rfl⟩
  have HS := Lib.hid hs
  obtain ⟨a1, c1, hv, hl1, hm1, r1⟩ := h.rus
  subst hv
  have R1 := Lib.hid r1
  unfold maxLen at hm1
  clear h hres hs r1
  cases bs
  · obtain ⟨rfl, rfl⟩ := sinRes_no HRES.out HS.out
    go_enter Try.func83, Try.ntmps83
    go_wp2_with (first | (go_at_call 89; refine (implIsSchedule_any _ t _ H.out).mono ?_; rw [HS.out]; rintro e w1 ⟨rfl, b1⟩))
    go_ret2
    exact ⟨_, rfl, ⟨(Own.nil w.heap.size 3 1 w1).1, Under.nil _ _ _⟩, b1⟩
  · obtain ⟨rfl, rfl⟩ := sinRes_yes HRES.out HS.out
    have HC := Lib.hid (ser_compact HS.out)
    go_enter Try.func83, Try.ntmps83
    go_wp2_with (first | (go_at_call 89; refine (implIsSchedule_any _ t _ H.out).mono ?_; rw [HS.out]; rintro e w1 ⟨rfl, b1⟩))
    go_loopw [4, 12] (fun o i wr => ∃ k : Nat, k ≤ t.length ∧ i = .int .i64 k ∧ wr.ownsRow w.heap.size 3 1 o k (((t.take k).map (·.series)).map vI) ∧ Below w.heap.size w wr) (fun _ i _ => t.length - (intOf i).toNat)
    case atStart => exact ⟨0, Nat.zero_le _, rfl, (Own.nil w.heap.size 3 1 _).1, b1⟩
    case round =>
      clear b1
      obtain ⟨k, hk, rfl, hO, hb⟩ := hrel
      by_cases hlt : k < t.length
      · obtain ⟨b1, o1, hb1, rfl, e1⟩ := R1.out.resolve_left (fun e => by rw [e] at hlt; simp at hlt)
        obtain ⟨q0, q1, q2, q3, hok⟩ := e1 k hlt
        have hsucc : t.take (k + 1) = t.take k ++ [t.getD k ruD] := by rw [List.take_add_one, List.getElem?_eq_getElem hlt, getRu_lt hlt]; rfl
        obtain ⟨⟨x0, x1, x2, x3⟩, hx⟩ : ∃ s, t.getD k ruD = s := ⟨_, rfl⟩
        rw [hx] at q0 q1 q2 q3 hsucc
        simp only at q0 q1 q2 q3
        have f0 := cell_kept q0 hb
        have f1 := cell_kept q1 hb
        have f2 := cell_kept q2 hb
        have f3 := cell_kept q3 hb
        have HSU := Lib.hid hsucc
        have g0 : (0 : Int) ≤ (k : Int) := by omega
        have g1 : (k : Int) < (t.length : Int) := by omega
        have hsz := hb.size
        have hb2 := below_al hb (.cells #[.int .i64 x0, .int .i64 x1, .int .i64 x2, .int .i64 x3] 56 (0, 0))
        have hO2 := hO.alloc (.cells #[.int .i64 x0, .int .i64 x1, .int .i64 x2, .int .i64 x3] 56 (0, 0))
        clear q0 q1 q2 q3 hok e1 hx hsucc hO
        go_wp2_with (first | (at_builtin; refine wpList_append_own _ rfl _ _ 26 rfl w.heap.size 3 i0 (.int .i64 0) 1 8 Try.underlying26 hi hz0 hz1 hz2 rfl (by decide) _ _ _ rfl (hO2.alloc _) ⟨wr.heap.size + 1, 0, none⟩ 1 1 [.int .i64 x0] rfl rfl (cell1_new _ _ _ (by simp)) (by simp [Value.oneCell']) (by unfold maxLen; omega) (by omega) (by simp; omega) ?_; intro v' w4 hown' hgrow _))
        have HOWN := Lib.hid hown'
        have HB := Lib.hid (below_app hb2 (Nat.le_refl _) hO2 hgrow)
        clear hown' hgrow hO2
        go_wp2_with fail
        go_roundw
        case rel => exact ⟨k + 1, by omega, by go_num, (by rw [HSU.out]; simpa [vI] using HOWN.out), HB.out⟩
        case measure => simp [intOf]; omega
      · obtain rfl : k = t.length := by omega
        rw [List.take_length] at hO
        rcases Nat.eq_zero_or_pos t.length with h0 | h0
        · obtain rfl := List.length_eq_zero_iff.1 h0
          have hO2 := hO
          rcases hO.2 with ⟨e, _⟩ | ⟨g, cap, cur, e, hg, hh, hnc, hm, hs, ht⟩
          · subst e
            clear hO
            have HO := Lib.hid hO2
            clear hO2
            go_wp2_with (first | (go_at_call 92; refine (Try.slices_Compact_int_empty none 0 _).mono ?_; rintro e w5 ⟨rfl, rfl⟩))
            go_ret2
            exact ⟨_, rfl, IntsO.of_row (xs := []) (by simpa using HO.out) rfl, hb⟩
          · subst e
            clear hO hg hh hnc hm hs ht
            have HO := Lib.hid hO2
            clear hO2
            go_wp2_with (first | (go_at_call 92; refine (Try.slices_Compact_int_empty _ cap _).mono ?_; rintro e w5 ⟨rfl, rfl⟩))
            go_ret2
            exact ⟨_, rfl, IntsO.of_row (xs := []) (by simpa using HO.out) rfl, hb⟩
        · obtain ⟨g, cap, rfl, hbg, hgl, hnc, hcm, hlen, hH⟩ := Lib.holds_of_ownsRow hO (by rintro rfl; rcases hO.2 with ⟨_, e⟩ | ⟨_, _, _, e, _⟩; (· omega); cases e)
          have hcp := Try.slices_Compact_int g 0 cap (t.map (fun r : Ru => r.series)) wr hH (by rw [hlen]; unfold maxLen at hcm; omega) (by rw [hlen]; exact hnc)
          rw [HC.out, hlen] at hcp
          have HO := Lib.hid hO
          have HG := Lib.hid hbg
          have hsl := serF_len t
          have HL := Lib.hid hlen
          have HCP := Lib.hid hcp
          clear hO hH hcp hbg hlen h0
          go_wp2_with (first | (go_at_call 92; refine HCP.out.mono ?_; rintro e w5 ⟨rfl, q, rfl⟩))
          go_ret2
          have h1 := Lib.ownsRow_putRow (q := q) (k := (serF t).length) (ys := serF t ++ List.replicate (t.length - (serF t).length) 0) HO.out (by simp; omega) hsl
          rw [List.take_left' rfl] at h1
          exact ⟨_, rfl, IntsO.of_row h1 rfl, Lib.below_putRow hb HG.out⟩
end Go.Proofs.Ytenjajcknmfhfaa

namespace Go.Proofs.Ytenjajcknmfhfaa
set_option linter.unusedVariables false
open Go.RowKit Go.Sort

theorem notRis {lo hi : Int} {xs : List Int} {k : Nat} (hk : k < xs.length) (h : risAt lo hi xs k = false) : risB lo hi xs = false := by unfold risB; exact upto_false hk h

set_option maxHeartbeats 2000000 in
theorem l1Rising_any (v : Value) (xs : List Int) (lo hi : Int) (w : World) (h : RowOf vI w v xs) :
    Calls Try.prog 87 #[v, .int .i64 lo, .int .i64 hi] w fun e w' => e = .returned (.bool (risB lo hi xs)) ∧ Below w.heap.size w w' := by
  have hcap := h.cap
  obtain ⟨a1, c1, rfl, hl1, hm1, r1⟩ := h
  have R1 := Lib.hid r1
  clear r1
  unfold maxLen at hm1
  go_enter Try.func87, Try.ntmps87
  go_wp2
  go_loopw [7] (fun i wr => ∃ k : Nat, k ≤ xs.length ∧ i = .int .i64 k ∧ Hid (upto (risAt lo hi xs) k = true) ∧ Below w.heap.size w wr) (fun i _ => xs.length - (intOf i).toNat)
  case atStart => exact ⟨0, Nat.zero_le _, rfl, Lib.hid (by simp [upto]), Below.refl _ _⟩
  case round =>
    obtain ⟨k, hk, rfl, HU, hb⟩ := hrel
    have hw := hb.size
    by_cases hlt : k < xs.length
    · obtain ⟨b1, o1, hb1, rfl, e1⟩ := R1.out.resolve_left (fun e => by rw [e] at hlt; simp at hlt)
      obtain ⟨y, hy⟩ : ∃ s, xs.getD k 0 = s := ⟨_, rfl⟩
      have f1 := (hb.cell (p := ⟨b1, o1 + k, none⟩) hb1).trans (e1 k hlt)
      rw [← getI_lt hlt, hy] at f1
      simp only [vI] at f1
      have HY := Lib.hid hy
      have g0 : (0 : Int) ≤ (k : Int) := by omega
      have g1 : (k : Int) < (xs.length : Int) := by omega
      obtain ⟨bi, hbi⟩ : ∃ b, decide (lo ≤ y ∧ y ≤ hi) = b := ⟨_, rfl⟩
      have HBI := Lib.hid hbi
      have E1 := Lib.hid e1
      clear e1 hy hbi
      cases bi
      · have HNT : Hid (risB lo hi xs = false) := Lib.hid (notRis hlt (by unfold risAt; rw [HY.out, HBI.out]; rfl))
        go_wp2_with fail
        have m1 := cell_regrown f1
        have hc : ∀ d os, Calls Try.prog 79 #[.int .i64 y, .int .i64 lo, .int .i64 hi] (grow (redrawn wr d) os) fun e w'' => e = .returned (.bool false) ∧ ∃ p : Regrown, w'' = grow (redrawn wr p.d) p.os := fun d os => Calls.regrown_of ((l1In_any y lo hi _).mono (by rw [HBI.out]; rintro e w' ⟨rfl, rfl⟩; exact ⟨rfl, Below.refl _ _⟩))
        refine wp_region_quiet_below (by kernel_rfl) (by kernel_rfl) ?_
        repeat (go_big_quiet_step (first | exact hc _ _))
        refine wpQuiet_nil ?_
        intro _ hw'
        obtain ⟨⟨dq, osq⟩, hw''⟩ := hw'
        subst hw''
        have bq := below_regrown wr dq osq
        generalize grow (redrawn wr dq) osq = w2 at bq ⊢
        go_wp2
        go_ret
        exact ⟨ret_bool HNT.out.symm, hb.trans (bq.mono hw)⟩
      · rcases Nat.eq_zero_or_pos k with hk0 | hk0
        · have dk : decide ((0 : Int) < (k : Int)) = false := decide_eq_false (by omega)
          have dk2 : decide (0 < k) = false := decide_eq_false (by omega)
          have HAT : Hid (risAt lo hi xs k = true) := Lib.hid (by unfold risAt; rw [HY.out, HBI.out, decide_eq_true hk0]; rfl)
          clear hk0
          go_wp2_with fail
          have m1 := cell_regrown f1
          have hc : ∀ d os, Calls Try.prog 79 #[.int .i64 y, .int .i64 lo, .int .i64 hi] (grow (redrawn wr d) os) fun e w'' => e = .returned (.bool true) ∧ ∃ p : Regrown, w'' = grow (redrawn wr p.d) p.os := fun d os => Calls.regrown_of ((l1In_any y lo hi _).mono (by rw [HBI.out]; rintro e w' ⟨rfl, rfl⟩; exact ⟨rfl, Below.refl _ _⟩))
          refine wp_region_quiet_below (by kernel_rfl) (by kernel_rfl) ?_
          repeat (go_big_quiet_step (first | exact hc _ _))
          refine wpQuiet_nil ?_
          intro _ hw'
          obtain ⟨⟨dq, osq⟩, hw''⟩ := hw'
          subst hw''
          have bq := below_regrown wr dq osq
          generalize grow (redrawn wr dq) osq = w2 at bq ⊢
          go_wp2
          go_roundw
          case rel => exact ⟨k + 1, by omega, by go_num, Lib.hid (upto_succ HU.out HAT.out), hb.trans (bq.mono hw)⟩
          case measure => simp [intOf]; omega
        · obtain ⟨j, rfl⟩ : ∃ j, k = j + 1 := ⟨k - 1, by omega⟩
          obtain ⟨z, hz⟩ : ∃ s, xs.getD j 0 = s := ⟨_, rfl⟩
          have f2 := (hb.cell (p := ⟨b1, o1 + j, none⟩) hb1).trans (E1.out j (by omega))
          rw [← getI_lt (by omega), hz] at f2
          simp only [vI] at f2
          have HZ := Lib.hid hz
          have g2 : (j : Int) < (xs.length : Int) := by omega
          have g3 : (0 : Int) ≤ (j : Int) := by omega
          have g4 : (0 : Int) < (j : Int) + 1 := by omega
          clear hz hk0
          by_cases hP : y ≤ z
          · have HNT : Hid (risB lo hi xs = false) := Lib.hid (notRis hlt (by unfold risAt; rw [HY.out, HBI.out, show j + 1 - 1 = j by omega, HZ.out, decide_eq_false (by omega : ¬ j + 1 = 0), decide_eq_false (by omega : ¬ z < y)]; rfl))
            go_wp2_with fail
            have m1 := cell_regrown f1
            have m2 := cell_regrown f2
            have hc : ∀ d os, Calls Try.prog 79 #[.int .i64 y, .int .i64 lo, .int .i64 hi] (grow (redrawn wr d) os) fun e w'' => e = .returned (.bool true) ∧ ∃ p : Regrown, w'' = grow (redrawn wr p.d) p.os := fun d os => Calls.regrown_of ((l1In_any y lo hi _).mono (by rw [HBI.out]; rintro e w' ⟨rfl, rfl⟩; exact ⟨rfl, Below.refl _ _⟩))
            refine wp_region_quiet_below (by kernel_rfl) (by kernel_rfl) ?_
            repeat (go_big_quiet_step (first | exact hc _ _))
            refine wpQuiet_nil ?_
            intro _ hw'
            obtain ⟨⟨dq, osq⟩, hw''⟩ := hw'
            subst hw''
            have bq := below_regrown wr dq osq
            generalize grow (redrawn wr dq) osq = w2 at bq ⊢
            go_wp2
            go_ret
            exact ⟨ret_bool HNT.out.symm, hb.trans (bq.mono hw)⟩
          · have HAT : Hid (risAt lo hi xs (j + 1) = true) := Lib.hid (by unfold risAt; rw [HY.out, HBI.out, show j + 1 - 1 = j by omega, HZ.out, decide_eq_true (by omega : z < y)]; simp)
            have dP : decide (y ≤ z) = false := decide_eq_false hP
            go_wp2_with fail
            have m1 := cell_regrown f1
            have m2 := cell_regrown f2
            have hc : ∀ d os, Calls Try.prog 79 #[.int .i64 y, .int .i64 lo, .int .i64 hi] (grow (redrawn wr d) os) fun e w'' => e = .returned (.bool true) ∧ ∃ p : Regrown, w'' = grow (redrawn wr p.d) p.os := fun d os => Calls.regrown_of ((l1In_any y lo hi _).mono (by rw [HBI.out]; rintro e w' ⟨rfl, rfl⟩; exact ⟨rfl, Below.refl _ _⟩))
            refine wp_region_quiet_below (by kernel_rfl) (by kernel_rfl) ?_
            repeat (go_big_quiet_step (first | exact hc _ _))
            refine wpQuiet_nil ?_
            intro _ hw'
            obtain ⟨⟨dq, osq⟩, hw''⟩ := hw'
            subst hw''
            have bq := below_regrown wr dq osq
            generalize grow (redrawn wr dq) osq = w2 at bq ⊢
            go_wp2
            go_roundw
            case rel => exact ⟨j + 1 + 1, by omega, by go_num, Lib.hid (upto_succ HU.out HAT.out), hb.trans (bq.mono hw)⟩
            case measure => simp [intOf]; omega
    · have hkl : k = xs.length := by omega
      have HE : Hid (risB lo hi xs = true) := Lib.hid (by have := HU.out; rwa [hkl] at this)
      clear hkl
      go_wp2
      go_ret
      exact ⟨ret_bool HE.out.symm, hb⟩


end Go.Proofs.Ytenjajcknmfhfaa

namespace Go.Proofs.Ytenjajcknmfhfaa
set_option linter.unusedVariables false
open Go.RowKit

theorem implIsSeriesH_any (n : Int) (w : World) : Calls Try.prog 90 #[.int .i64 n] w fun e w' => e = .returned (.bool (decide (1 ≤ n ∧ n ≤ 99))) ∧ w' = w := by
  by_cases h1 : 1 ≤ n
  · go_enter Try.func90, Try.ntmps90
    go_wp2
    go_ret
    exact ⟨ret_bool (by first | (simp; done) | (simp; omega) | (rw [Bool.eq_iff_iff]; simp; omega)), rfl⟩
  · go_enter Try.func90, Try.ntmps90
    go_wp2
    go_ret
    exact ⟨ret_bool (by first | (simp; done) | (simp; omega) | (rw [Bool.eq_iff_iff]; simp; omega)), rfl⟩
end Go.Proofs.Ytenjajcknmfhfaa

namespace Go.Proofs.Ytenjajcknmfhfaa
set_option linter.unusedVariables false
open Go.RowKit Go.Sort

theorem ris99T_iff {xs : List Int} {k : Nat} {y p : Int} (hy : xs.getD k 0 = y) (hp : (if k = 0 then 0 else xs.getD (k - 1) 0) = p) : risAt 1 99 xs k = true ↔ p < y ∧ (1 ≤ y ∧ y ≤ 99) := by
  unfold risAt
  rw [hy]
  by_cases h0 : k = 0
  · subst h0
    simp only [if_true] at hp
    simp
    omega
  · rw [if_neg h0] at hp
    rw [hp]
    simp [h0]
    omega
def serN (n : Int) (xs : List Int) : Bool := decide ((xs.length : Int) ≤ n) && risB 1 99 xs
theorem serN_no {n : Int} {xs : List Int} {k : Nat} (hk : k < xs.length) (h : risAt 1 99 xs k = false) : serN n xs = false := by
  unfold serN risB
  rw [upto_false hk h]; simp
theorem serN_yes {n : Int} {xs : List Int} (hl : (xs.length : Int) ≤ n) (h : upto (risAt 1 99 xs) xs.length = true) : serN n xs = true := by
  unfold serN risB
  rw [h, decide_eq_true hl]; rfl
theorem serN_long {n : Int} {xs : List Int} (h : ¬ (xs.length : Int) ≤ n) : serN n xs = false := by
  unfold serN
  rw [decide_eq_false h]; rfl
set_option maxRecDepth 20000 in
set_option maxHeartbeats 2000000 in
theorem areSeries_any (v : Value) (xs : List Int) (n : Int) (w : World) (h : RowOf vI w v xs) :
    Calls Try.prog 84 #[v, .int .i64 n] w fun e w' => e = .returned (.bool (serN n xs)) ∧ Below w.heap.size w w' := by
  have hcap := h.cap
  obtain ⟨a1, c1, rfl, hl1, hm1, r1⟩ := h
  have R1 := Lib.hid r1
  clear r1
  unfold maxLen at hm1
  by_cases hL : n < (xs.length : Int)
  · have gL : n < (xs.length : Int) := by omega
    have HN : Hid (serN n xs = false) := Lib.hid (serN_long (by omega))
    clear hL
    go_enter Try.func84, Try.ntmps84
    go_wp2_with fail
    go_ret
    exact ⟨ret_bool HN.out.symm, Below.refl _ _⟩
  · have gL : (xs.length : Int) ≤ n := by omega
    have HL : Hid ((xs.length : Int) ≤ n) := Lib.hid (by omega)
    clear hL
    go_enter Try.func84, Try.ntmps84
    go_wp2_with fail
    go_loopw [5, 14] (fun b i wr => ∃ (k : Nat) (pk : Int), k ≤ xs.length ∧ i = .int .i64 k ∧ b = .int .i64 pk ∧ Hid ((if k = 0 then 0 else xs.getD (k - 1) 0) = pk) ∧ Hid (upto (risAt 1 99 xs) k = true) ∧ Below w.heap.size w wr) (fun _ i _ => xs.length - (intOf i).toNat)
    case atStart => exact ⟨0, 0, Nat.zero_le _, rfl, rfl, Lib.hid rfl, Lib.hid (by simp [upto]), Below.refl _ _⟩
    case round =>
      obtain ⟨k, pk, hk, rfl, rfl, HP, HU, hb⟩ := hrel
      have hw := hb.size
      by_cases hlt : k < xs.length
      · obtain ⟨b1, o1, hb1, rfl, e1⟩ := R1.out.resolve_left (fun e => by rw [e] at hlt; simp at hlt)
        obtain ⟨y, hy⟩ : ∃ s, xs.getD k 0 = s := ⟨_, rfl⟩
        have f1 := (hb.cell (p := ⟨b1, o1 + k, none⟩) hb1).trans (e1 k hlt)
        rw [← getI_lt hlt, hy] at f1
        simp only [vI] at f1
        have HY := Lib.hid hy
        have HAT := Lib.hid (ris99T_iff hy HP.out)
        have g0 : (0 : Int) ≤ (k : Int) := by omega
        have g1 : (k : Int) < (xs.length : Int) := by omega
        clear e1 hy
        by_cases hP : y ≤ pk
        · have HNT : Hid (serN n xs = false) := Lib.hid (serN_no hlt (by rw [Bool.eq_false_iff]; intro hc; have := (HAT.out.1 hc).1; omega))
          go_wp2_with fail
          go_ret
          exact ⟨ret_bool HNT.out.symm, hb⟩
        · have dP : decide (y ≤ pk) = false := decide_eq_false hP
          obtain ⟨bs, hbs⟩ : ∃ b, decide (1 ≤ y ∧ y ≤ 99) = b := ⟨_, rfl⟩
          have HBS := Lib.hid hbs
          clear hbs
          cases bs
          · have HNT : Hid (serN n xs = false) := Lib.hid (serN_no hlt (by rw [Bool.eq_false_iff]; intro hc; exact of_decide_eq_false HBS.out (HAT.out.1 hc).2))
            go_wp2_with (first | (go_at_call 90; refine (implIsSeriesH_any y _).mono ?_; rw [HBS.out]; rintro e w' ⟨rfl, h'⟩; subst h'))
            go_ret
            exact ⟨ret_bool HNT.out.symm, hb⟩
          · have HU2 : Hid (upto (risAt 1 99 xs) (k + 1) = true) := Lib.hid (upto_succ HU.out (HAT.out.2 ⟨by omega, of_decide_eq_true HBS.out⟩))
            go_wp2_with (first | (go_at_call 90; refine (implIsSeriesH_any y _).mono ?_; rw [HBS.out]; rintro e w' ⟨rfl, h'⟩; subst h'))
            go_roundw
            case rel => exact ⟨k + 1, y, by omega, by go_num, rfl, Lib.hid (by rw [if_neg (by omega)]; exact HY.out), HU2, hb⟩
            case measure => simp [intOf]; omega
      · have hkt : k = xs.length := by omega
        have HE : Hid (serN n xs = true) := Lib.hid (serN_yes HL.out (by have := HU.out; rwa [hkt] at this))
        clear hkt
        go_wp2_with fail
        go_ret
        exact ⟨ret_bool HE.out.symm, hb⟩
end Go.Proofs.Ytenjajcknmfhfaa

namespace Go.Proofs.Ytenjajcknmfhfaa
set_option linter.unusedVariables false
open Go.RowKit Go.Sort

theorem gaps_succ {s : List Ru} {xs : List Int} {k : Nat} (hk : k < xs.length) : gapsOf s (xs.take (k + 1)) = if (forRu s (xs.getD k 0)).length = 0 then gapsOf s (xs.take k) ++ [xs.getD k 0] else gapsOf s (xs.take k) := by
  have e0 : xs.getD k 0 = xs[k] := getI_lt hk
  have key : (forRu s (xs.getD k 0)).length = 0 ↔ ¬ ∃ r ∈ s, r.series = xs.getD k 0 := by
    rw [List.length_eq_zero_iff]
    unfold forRu
    rw [List.filter_eq_nil_iff]
    simp
  unfold gapsOf
  rw [List.take_succ_eq_append_getElem hk, List.filter_append, ← e0]
  by_cases h : (forRu s (xs.getD k 0)).length = 0
  · rw [if_pos h, List.filter_cons_of_pos (by rw [decide_eq_true_eq]; exact key.1 h), List.filter_nil]
  · rw [if_neg h, List.filter_cons_of_neg (by rw [decide_eq_true_eq]; exact fun q => h (key.2 q)), List.filter_nil, List.append_nil]
theorem gaps_len (s : List Ru) (xs : List Int) : (gapsOf s xs).length ≤ xs.length := List.length_filter_le _ _
theorem gapsRes_len {s : List Ru} {xs ys : List Int} {b : Bool} (h : gapsRes s xs = (ys, b)) : ys.length ≤ xs.length := by
  unfold gapsRes at h
  split at h <;> obtain ⟨rfl, _⟩ := Prod.mk.inj h
  · exact gaps_len _ _
  · exact Nat.zero_le _
theorem ser_forRu {s : List Ru} {y : Int} : y ∈ serF s ↔ ¬ (forRu s y).length = 0 := by
  rw [serF_iff, List.length_eq_zero_iff]
  unfold forRu
  rw [List.filter_eq_nil_iff]
  simp
theorem ints_rowG {lo n : Nat} {w : World} {v : Value} {xs : List Int} (h : w.ownsRow lo 3 1 v n (xs.map vI)) (hn : n = xs.length) : IntsO lo w.heap.size w v xs := ⟨by rw [← hn]; exact h, fun g hg => (h.lt g hg).2⟩
theorem ints_newG (w : World) : IntsO w.heap.size (w.alloc (.cells #[] 3 (0, 0))).heap.size (w.alloc (.cells #[] 3 (0, 0))) (.slice (some ⟨w.heap.size, 0, none⟩) 0 0) [] := ints_rowG (World.ownsRow_made w #[] 0 (Nat.le_refl _) (Nat.zero_le _) rfl) rfl
theorem ints_nilG (lo hi : Nat) (w : World) : IntsO lo hi w (.slice none 0 0) [] := ⟨World.ownsRow_nil _ _ _ _, Under.nil _ _ _⟩

set_option maxRecDepth 20000 in
set_option maxHeartbeats 4000000 in
theorem specGaps_any (v1 v2 : Value) (s : List Ru) (t : List Int) (w : World) (h1 : RowR 4 rRu w v1 s) (hn1 : s.length ≤ 1048576) (h2 : RowOf vI w v2 t) (hn : t.length ≤ 1048576) (xs : List Int) (b : Bool) (hres : gapsRes s t = (xs, b)) :
    Calls Try.prog 22 #[v1, v2] w fun e w' => ∃ v', e = .returned (.tuple #[v', .bool b]) ∧ IntsO w.heap.size w'.heap.size w' v' xs ∧ Below w.heap.size w w' := by
  obtain ⟨i0, hi, hz0, hz1, hz2⟩ := info_parts Try.info_int
  have b0 := below_al (Below.refl w.heap.size w) (.cells #[] 3 (0, 0))
  have HS1 := Lib.hid (show ∀ W, Below w.heap.size w W → RowR 4 rRu W v1 s from fun W hb => h1.below rRu_stable hb)
  have HT := Lib.hid (show ∀ W, Below w.heap.size w W → RowOf vI W v2 t from fun W hb => h2.below hb)
  obtain ⟨a1, c1, hv, hl1, hm1, r1⟩ := h2
  subst hv
  have R1 := Lib.hid r1
  unfold maxLen at hm1
  obtain ⟨bs, hs⟩ : ∃ b, isSch s = b := ⟨_, rfl⟩
  obtain ⟨br, hr⟩ : ∃ b, risB 1 99 t = b := ⟨_, rfl⟩
  have HS := Lib.hid hs
  have HR := Lib.hid hr
  have HRES := Lib.hid hres
  clear h1 hs hr r1 hres
  cases bs
  · have hr := HRES.out
    unfold gapsRes at hr
    rw [if_neg (fun q => by rw [HS.out] at q; cases q.1)] at hr
    obtain ⟨rfl, rfl⟩ := Prod.mk.inj hr
    clear hr HRES
    go_enter Try.func22, Try.ntmps22
    go_wp2_with (first | (go_at_call 86; refine (l4Good_any _ s _ (HS1.out _ b0)).mono ?_; rw [HS.out]; rintro e w1 ⟨rfl, b1⟩; have HI1 := Lib.hid (((ints_newG w).below b1).wide (Nat.le_refl _) b1.size); replace b1 := below_chain b0 b1))
    go_ret2
    exact ⟨_, rfl, HI1.out, b1⟩
  · by_cases hL : t.length ≤ 20
    · have gL : ¬ (20 : Int) < (t.length : Int) := by omega
      have HL := Lib.hid hL
      clear hL
      cases br
      · have hr := HRES.out
        unfold gapsRes at hr
        rw [if_neg (fun q => by have := q.2.2; rw [HR.out] at this; cases this)] at hr
        obtain ⟨rfl, rfl⟩ := Prod.mk.inj hr
        clear hr HRES
        go_enter Try.func22, Try.ntmps22
        go_wp2_with (first | (go_at_call 86; refine (l4Good_any _ s _ (HS1.out _ b0)).mono ?_; rw [HS.out]; rintro e w1 ⟨rfl, b1⟩; have HI1 := Lib.hid (((ints_newG w).below b1).wide (Nat.le_refl _) b1.size); replace b1 := below_chain b0 b1) | (go_at_call 87; refine (l1Rising_any _ t 1 99 _ (HT.out _ b1)).mono ?_; rw [HR.out]; rintro e w2 ⟨rfl, b2⟩; replace HI1 := Lib.hid ((HI1.out.below b2).wide (Nat.le_refl _) b2.size); replace b1 := below_chain b1 b2; clear b2))
        go_ret2
        exact ⟨_, rfl, HI1.out, b1⟩
      · have hr := HRES.out
        unfold gapsRes at hr
        rw [if_pos ⟨HS.out, HL.out, HR.out⟩] at hr
        obtain ⟨rfl, rfl⟩ := Prod.mk.inj hr
        clear hr HRES
        go_enter Try.func22, Try.ntmps22
        go_wp2_with (first | (go_at_call 86; refine (l4Good_any _ s _ (HS1.out _ b0)).mono ?_; rw [HS.out]; rintro e w1 ⟨rfl, b1⟩; have HI1 := Lib.hid (((ints_newG w).below b1).wide (Nat.le_refl _) b1.size); replace b1 := below_chain b0 b1) | (go_at_call 87; refine (l1Rising_any _ t 1 99 _ (HT.out _ b1)).mono ?_; rw [HR.out]; rintro e w2 ⟨rfl, b2⟩; replace HI1 := Lib.hid ((HI1.out.below b2).wide (Nat.le_refl _) b2.size); replace b1 := below_chain b1 b2; clear b2))

        go_loopw [6, 7] (fun o i wr => ∃ k : Nat, k ≤ t.length ∧ i = .int .i64 k ∧ wr.ownsRow w.heap.size 3 1 o (gapsOf s (t.take k)).length ((gapsOf s (t.take k)).map vI) ∧ Below w.heap.size w wr) (fun _ i _ => t.length - (intOf i).toNat)
        case atStart => exact ⟨0, Nat.zero_le _, rfl, (by simpa [gapsOf] using HI1.out.1), b1⟩
        case round =>
          clear b1 HI1
          obtain ⟨k, hk, rfl, hO, hb⟩ := hrel
          have hsz := hb.size
          by_cases hlt : k < t.length
          · obtain ⟨b1, o1, hb1, rfl, e1⟩ := R1.out.resolve_left (fun e => by rw [e] at hlt; simp at hlt)
            have q0 := e1 k hlt
            have hsucc := gaps_succ (s := s) hlt
            obtain ⟨P, hP⟩ : ∃ P, gapsOf s (t.take k) = P := ⟨_, rfl⟩
            have hPl : P.length ≤ k := by
              rw [← hP]
              have := gaps_len s (t.take k)
              rw [List.length_take] at this
              omega
            rw [hP] at hO hsucc
            obtain ⟨x0, hx⟩ : ∃ y, t.getD k 0 = y := ⟨_, rfl⟩
            rw [← getI_lt hlt, hx] at q0
            simp only [vI] at q0
            rw [hx] at hsucc
            have f0 := (hb.cell (p := ⟨b1, o1 + k, none⟩) hb1).trans q0
            have HSU := Lib.hid hsucc
            have g0 : (0 : Int) ≤ (k : Int) := by omega
            have g1 : (k : Int) < (t.length : Int) := by omega
            have HO := Lib.hid hO
            clear q0 e1 hx hsucc hP hO
            obtain ⟨L, hL⟩ : ∃ L, forRu s x0 = L := ⟨_, rfl⟩
            rw [hL] at HSU
            have HLL := Lib.hid hL
            clear hL
            by_cases hz : L.length = 0
            · have HSU2 := Lib.hid (HSU.out.trans (if_pos hz))
              have HZ := Lib.hid hz
              clear hz
              go_wp2_with fail
              refine (l4For_any _ s x0 _ (HS1.out _ hb) hn1).mono ?_
              rw [HLL.out]
              rintro e w2 ⟨v2, rfl, ho2, b2⟩
              obtain ⟨ga, gc, hgv, _, _, _⟩ := ho2.row.rus
              subst hgv
              have hO2 := ownsRow_below HO.out b2
              have hb2 := hb.trans (b2.mono hsz)
              have hs2 := hb2.size
              have f2 := cell_kept f0 b2
              have dz : ((L.length : Int) == 0) = true := by rw [HZ.out]; rfl
              clear ho2
              go_wp2_with (first | (at_builtin; refine wpList_append_own _ rfl _ _ 26 rfl w.heap.size 3 i0 (.int .i64 0) 1 8 Try.underlying26 hi hz0 hz1 hz2 rfl (by decide) _ _ _ rfl (hO2.alloc _) ⟨w2.heap.size, 0, none⟩ 1 1 [.int .i64 x0] rfl rfl (cell1_new _ _ _ (by simp)) (by simp [Value.oneCell']) (by unfold maxLen; omega) (by omega) (by simp; omega) ?_; intro v' w4 hown' hgrow _))
              have HOWN := Lib.hid hown'
              have HB := Lib.hid (below_app hb2 (Nat.le_refl _) hO2 hgrow)
              clear hown' hgrow hO2
              go_wp2_with fail
              go_roundw
              case rel => exact ⟨k + 1, by omega, by go_num, (by rw [HSU2.out]; simpa [vI] using HOWN.out), HB.out⟩
              case measure => simp [intOf]; omega
            · have HSU2 := Lib.hid (HSU.out.trans (if_neg hz))
              have HZ := Lib.hid hz
              clear hz
              go_wp2_with fail
              refine (l4For_any _ s x0 _ (HS1.out _ hb) hn1).mono ?_
              rw [HLL.out]
              rintro e w2 ⟨v2, rfl, ho2, b2⟩
              obtain ⟨ga, gc, hgv, _, _, _⟩ := ho2.row.rus
              subst hgv
              have hO2 := Lib.hid (ownsRow_below HO.out b2)
              have hb2 := hb.trans (b2.mono hsz)
              have dz : ((L.length : Int) == 0) = false := by rw [beq_eq_false_iff_ne]; have := HZ.out; omega
              clear ho2
              go_wp2_with fail
              go_roundw
              case rel => exact ⟨k + 1, by omega, by go_num, (by rw [HSU2.out]; exact hO2.out), hb2⟩
              case measure => simp [intOf]; omega
          · obtain rfl : k = t.length := by omega
            rw [List.take_length] at hO
            have HF := Lib.hid (ints_rowG hO rfl)
            clear hO
            go_wp2_with fail
            go_ret2
            exact ⟨_, rfl, HF.out, hb⟩
    · have gL : (20 : Int) < (t.length : Int) := by omega
      have hr := HRES.out
      unfold gapsRes at hr
      rw [if_neg (fun q => hL q.2.1)] at hr
      obtain ⟨rfl, rfl⟩ := Prod.mk.inj hr
      clear hr HRES
      clear hL
      go_enter Try.func22, Try.ntmps22
      go_wp2_with (first | (go_at_call 86; refine (l4Good_any _ s _ (HS1.out _ b0)).mono ?_; rw [HS.out]; rintro e w1 ⟨rfl, b1⟩; have HI1 := Lib.hid (((ints_newG w).below b1).wide (Nat.le_refl _) b1.size); replace b1 := below_chain b0 b1))
      go_ret2
      exact ⟨_, rfl, HI1.out, b1⟩
set_option maxRecDepth 20000 in
set_option maxHeartbeats 4000000 in
theorem implGaps_any (v1 v2 : Value) (s : List Ru) (t : List Int) (w : World) (h1 : RowR 4 rRu w v1 s) (hn1 : s.length ≤ 1048576) (h2 : RowOf vI w v2 t) (hn : t.length ≤ 1048576) (xs : List Int) (b : Bool) (hres : gapsRes s t = (xs, b)) :
    Calls Try.prog 21 #[v1, v2] w fun e w' => ∃ v', e = .returned (.tuple #[v', .bool b]) ∧ IntsO w.heap.size w'.heap.size w' v' xs ∧ Below w.heap.size w w' := by
  obtain ⟨i0, hi, hz0, hz1, hz2⟩ := info_parts Try.info_int
  have b0 := below_al (Below.refl w.heap.size w) (.cells #[] 3 (0, 0))
  have HS1 := Lib.hid (show ∀ W, Below w.heap.size w W → RowR 4 rRu W v1 s from fun W hb => h1.below rRu_stable hb)
  have HT := Lib.hid (show ∀ W, Below w.heap.size w W → RowOf vI W v2 t from fun W hb => h2.below hb)
  obtain ⟨a1, c1, hv, hl1, hm1, r1⟩ := h2
  subst hv
  have R1 := Lib.hid r1
  unfold maxLen at hm1
  obtain ⟨bs, hs⟩ : ∃ b, isSch s = b := ⟨_, rfl⟩
  obtain ⟨br, hr⟩ : ∃ b, risB 1 99 t = b := ⟨_, rfl⟩
  have HS := Lib.hid hs
  have HR := Lib.hid hr
  have HRES := Lib.hid hres
  clear h1 hs hr r1 hres
  obtain ⟨zs, bz, hz⟩ : ∃ zs b, sinRes s = (zs, b) := ⟨_, _, rfl⟩
  have HZ := Lib.hid hz
  clear hz
  obtain ⟨ba, ha⟩ : ∃ b, serN 20 t = b := ⟨_, rfl⟩
  have HA := Lib.hid ha
  clear ha
  cases bs
  · have hr := HRES.out
    unfold gapsRes at hr
    rw [if_neg (fun q => by rw [HS.out] at q; cases q.1)] at hr
    obtain ⟨rfl, rfl⟩ := Prod.mk.inj hr
    clear hr HRES
    obtain ⟨rfl, rfl⟩ := sinRes_no HZ.out HS.out
    go_enter Try.func21, Try.ntmps21
    go_wp2_with (first | (go_at_call 83; refine (implSeriesIn_any _ s _ (HS1.out _ (Below.refl _ _)) hn1 _ _ HZ.out).mono ?_; rintro e w1 ⟨vz, rfl, hz, b1⟩; have HZV := Lib.hid hz; clear hz))
    go_ret2
    exact ⟨_, rfl, ints_nilG _ _ _, b1⟩
  · obtain ⟨rfl, rfl⟩ := sinRes_yes HZ.out HS.out
    cases ba
    · have hr := HRES.out
      unfold gapsRes at hr
      rw [if_neg (fun q => by have h3 := HA.out; unfold serN at h3; rw [q.2.2, decide_eq_true (by omega)] at h3; cases h3)] at hr
      obtain ⟨rfl, rfl⟩ := Prod.mk.inj hr
      clear hr HRES
      go_enter Try.func21, Try.ntmps21
      go_wp2_with (first | (go_at_call 83; refine (implSeriesIn_any _ s _ (HS1.out _ (Below.refl _ _)) hn1 _ _ HZ.out).mono ?_; rintro e w1 ⟨vz, rfl, hz, b1⟩; have HZV := Lib.hid hz; clear hz) | (go_at_call 84; refine (areSeries_any _ t 20 _ (HT.out _ b1)).mono ?_; rw [HA.out]; rintro e w2 ⟨rfl, b2⟩; replace HZV := Lib.hid ((HZV.out.below b2).wide (Nat.le_refl _) b2.size); replace b1 := below_chain b1 b2; clear b2))
      go_ret2
      exact ⟨_, rfl, ints_nilG _ _ _, b1⟩
    · have HQ : Hid (t.length ≤ 20 ∧ risB 1 99 t = true) := Lib.hid (by have h3 := HA.out; unfold serN at h3; rw [Bool.and_eq_true, decide_eq_true_eq] at h3; exact ⟨by omega, h3.2⟩)
      have HL := Lib.hid HQ.out.1
      replace HR := Lib.hid HQ.out.2
      clear HQ
      have hr := HRES.out
      unfold gapsRes at hr
      rw [if_pos ⟨HS.out, HL.out, HR.out⟩] at hr
      obtain ⟨rfl, rfl⟩ := Prod.mk.inj hr
      clear hr HRES
      go_enter Try.func21, Try.ntmps21
      go_wp2_with (first | (go_at_call 83; refine (implSeriesIn_any _ s _ (HS1.out _ (Below.refl _ _)) hn1 _ _ HZ.out).mono ?_; rintro e w1 ⟨vz, rfl, hz, b1⟩; have HZV := Lib.hid hz; clear hz) | (go_at_call 84; refine (areSeries_any _ t 20 _ (HT.out _ b1)).mono ?_; rw [HA.out]; rintro e w2 ⟨rfl, b2⟩; replace HZV := Lib.hid ((HZV.out.below b2).wide (Nat.le_refl _) b2.size); replace b1 := below_chain b1 b2; clear b2))
      go_loopw [8, 25] (fun o i wr => ∃ k : Nat, k ≤ t.length ∧ i = .int .i64 k ∧ wr.ownsRow w2.heap.size 3 1 o (gapsOf s (t.take k)).length ((gapsOf s (t.take k)).map vI) ∧ Below w2.heap.size w2 wr) (fun _ i _ => t.length - (intOf i).toNat)
      case atStart => exact ⟨0, Nat.zero_le _, rfl, (by simpa [gapsOf] using (ints_nilG w2.heap.size w2.heap.size _).1), Below.refl _ _⟩
      case round =>
        obtain ⟨k, hk, rfl, hO, hb9⟩ := hrel
        have hsz := hb9.size
        have hb := b1.trans (hb9.mono b1.size)
        have hsw := b1.size
        by_cases hlt : k < t.length
        · obtain ⟨b1, o1, hb1, rfl, e1⟩ := R1.out.resolve_left (fun e => by rw [e] at hlt; simp at hlt)
          have q0 := e1 k hlt
          have hsucc := gaps_succ (s := s) hlt
          obtain ⟨P, hP⟩ : ∃ P, gapsOf s (t.take k) = P := ⟨_, rfl⟩
          have hPl : P.length ≤ k := by
            rw [← hP]
            have := gaps_len s (t.take k)
            rw [List.length_take] at this
            omega
          rw [hP] at hO hsucc
          obtain ⟨x0, hx⟩ : ∃ y, t.getD k 0 = y := ⟨_, rfl⟩
          rw [← getI_lt hlt, hx] at q0
          simp only [vI] at q0
          rw [hx] at hsucc
          have f0 := (hb.cell (p := ⟨b1, o1 + k, none⟩) hb1).trans q0
          have HSU := Lib.hid hsucc
          have g0 : (0 : Int) ≤ (k : Int) := by omega
          have g1 : (k : Int) < (t.length : Int) := by omega
          have HO := Lib.hid hO
          clear q0 e1 hx hsucc hP hO
          obtain ⟨bm, hbm⟩ : ∃ b, decide (x0 ∈ serF s) = b := ⟨_, rfl⟩
          have HBM := Lib.hid hbm
          clear hbm
          have HZR := Lib.hid (HZV.out.row.below hb9)
          cases bm
          · have HSU2 := Lib.hid (HSU.out.trans (if_pos (by have := of_decide_eq_false HBM.out; rw [ser_forRu] at this; omega)))
            go_wp2_with fail
            refine (contains_any _ (serF s) x0 _ HZR.out).mono ?_
            rw [HBM.out]
            rintro e w3 ⟨rfl, b3⟩
            have hO2 := ownsRow_below HO.out b3
            have hb2 := hb9.trans (b3.mono hsz)
            have hs3 := hb2.size
            go_wp2_with (first | (at_builtin; refine wpList_append_own _ rfl _ _ 26 rfl w2.heap.size 3 i0 (.int .i64 0) 1 8 Try.underlying26 hi hz0 hz1 hz2 rfl (by decide) _ _ _ rfl (hO2.alloc _) ⟨w3.heap.size, 0, none⟩ 1 1 [.int .i64 x0] rfl rfl (cell1_new _ _ _ (by simp)) (by simp [Value.oneCell']) (by unfold maxLen; omega) (by omega) (by simp; omega) ?_; intro v' w4 hown' hgrow _))
            have HOWN := Lib.hid hown'
            have HB := Lib.hid (below_app hb2 (Nat.le_refl _) hO2 hgrow)
            clear hown' hgrow hO2
            go_wp2_with fail
            go_roundw
            case rel => exact ⟨k + 1, by omega, by go_num, (by rw [HSU2.out]; simpa [vI] using HOWN.out), HB.out⟩
            case measure => simp [intOf]; omega
          · have HSU2 := Lib.hid (HSU.out.trans (if_neg (by have := of_decide_eq_true HBM.out; rw [ser_forRu] at this; exact this)))
            go_wp2_with fail
            refine (contains_any _ (serF s) x0 _ HZR.out).mono ?_
            rw [HBM.out]
            rintro e w3 ⟨rfl, b3⟩
            have hO2 := Lib.hid (ownsRow_below HO.out b3)
            have hb2 := hb9.trans (b3.mono hsz)
            go_wp2_with fail
            go_roundw
            case rel => exact ⟨k + 1, by omega, by go_num, (by rw [HSU2.out]; exact hO2.out), hb2⟩
            case measure => simp [intOf]; omega
        · obtain rfl : k = t.length := by omega
          rw [List.take_length] at hO
          have HF := Lib.hid ((ints_rowG hO rfl).wide b1.size (Nat.le_refl _))
          clear hO
          go_wp2_with fail
          go_ret2
          exact ⟨_, rfl, HF.out, hb⟩
end Go.Proofs.Ytenjajcknmfhfaa

namespace Go.Proofs.Ytenjajcknmfhfaa
set_option linter.unusedVariables false
open Go.RowKit Go.Sort

theorem dedF_len (xs : List Int) : (dedF xs).length ≤ xs.length := by
  have hk : ∀ k, k ≤ xs.length → (dedF (xs.take k)).length ≤ k := by
    intro k
    induction k with
    | zero => intro _; simp [dedF]
    | succ k ih =>
      intro hk
      rw [dedF_take (by omega)]
      have := ih (by omega)
      split
      · omega
      · rw [List.length_append, List.length_singleton]; omega
  have := hk xs.length (Nat.le_refl _)
  rwa [List.take_length] at this
set_option maxHeartbeats 2000000 in
theorem compactO_any (lo : Nat) (v : Value) (xs ys : List Int) (w : World) (hO : w.ownsRow lo 3 1 v xs.length (xs.map vI)) (hlo : lo ≤ w.heap.size) (hn : xs.length ≤ 1048576) (hc : Lib.compact xs = ys) (hl : ys.length ≤ xs.length) :
    Calls Try.prog 92 #[v] w fun e w' => ∃ v', e = .returned v' ∧ IntsO lo w'.heap.size w' v' ys ∧ Below lo w w' := by
  have b0 : Below lo w w := (Below.refl w.heap.size w).mono hlo
  rcases Nat.eq_zero_or_pos xs.length with h0 | h0
  · obtain rfl := List.length_eq_zero_iff.1 h0
    obtain rfl : ys = [] := List.length_eq_zero_iff.1 (by simpa using hl)
    rcases hO.2 with ⟨e, _⟩ | ⟨g, cap, cur, e, hg, hh, hnc, hm, hs, ht⟩
    · subst e
      refine (Try.slices_Compact_int_empty none 0 _).mono ?_
      rintro e w5 ⟨rfl, rfl⟩
      exact ⟨_, rfl, IntsO.of_row (xs := []) (by simpa using hO) rfl, b0⟩
    · subst e
      refine (Try.slices_Compact_int_empty _ cap _).mono ?_
      rintro e w5 ⟨rfl, rfl⟩
      exact ⟨_, rfl, IntsO.of_row (xs := []) (by simpa using hO) rfl, b0⟩
  · obtain ⟨g, cap, rfl, hbg, hgl, hnc, hcm, hlen, hH⟩ := Lib.holds_of_ownsRow hO (by rintro rfl; rcases hO.2 with ⟨_, e⟩ | ⟨_, _, _, e, _⟩; (· omega); cases e)
    have hcp := Try.slices_Compact_int g 0 cap xs w hH (by unfold maxLen at hcm; omega) hnc
    rw [hc] at hcp
    refine hcp.mono ?_
    rintro e w5 ⟨rfl, q, rfl⟩
    have h1 := Lib.ownsRow_putRow (q := q) (k := ys.length) (ys := ys ++ List.replicate (xs.length - ys.length) 0) hO (by simp; omega) hl
    rw [List.take_left' rfl] at h1
    exact ⟨_, rfl, IntsO.of_row h1 rfl, Lib.below_putRow b0 hbg⟩
end Go.Proofs.Ytenjajcknmfhfaa

namespace Go.Proofs.Ytenjajcknmfhfaa
set_option linter.unusedVariables false
open Go.RowKit Go.Sort

theorem conTRes_len {s : List Ru} {xs : List Int} {b : Bool} (h : conTRes s = (xs, b)) : xs.length ≤ 99 := by
  unfold conTRes at h
  by_cases hs : isSch s = true
  · rw [if_pos hs] at h
    obtain ⟨rfl, _⟩ := Prod.mk.inj h
    have h1 := dedF_len (conL s s)
    have h2 := conAt_len s s.length 0 (Nat.le_refl _) (Nat.zero_le _)
    have h8 := sch_len hs
    rw [conAt_all] at h2
    have h3 : s.length * s.length ≤ 8 * 8 := Nat.mul_le_mul h8 h8
    unfold conF
    omega
  · rw [if_neg hs] at h
    obtain ⟨rfl, _⟩ := Prod.mk.inj h
    exact Nat.zero_le _
theorem con_bound {s : List Ru} (hs : isSch s = true) {i k : Nat} (hi : i ≤ s.length) (hk : k ≤ s.length) : (conAt s i k).length ≤ 72 := by
  have h2 := conAt_len s i k hi hk
  have h8 := sch_len hs
  have h3 : s.length * s.length ≤ 8 * 8 := Nat.mul_le_mul h8 h8
  omega
theorem conD_step (s : List Ru) (i k : Nat) (hk : k < s.length) : dedF (conAt s i (k + 1)) = if conB (s.getD i ruD) (s.getD k ruD) = true then (if (s.getD i ruD).series ∈ dedF (conAt s i k) then dedF (conAt s i k) else dedF (conAt s i k) ++ [(s.getD i ruD).series]) else dedF (conAt s i k) := by
  rw [conAt_step s i k hk]
  split
  · rw [dedF_snoc]
  · rfl
theorem conB_mk (x0 x1 x2 x3 y0 y1 y2 y3 : Int) : conB ⟨x0, x1, x2, x3⟩ ⟨y0, y1, y2, y3⟩ = true ↔ x3 = 1 ∧ y3 = 3 ∧ x0 = y0 ∧ x2 = y2 := by simp [conB]
def TwoBx (wr wx : World) (a b : Value) (cs ds : List Value) : Prop := ∃ ga gb, a = .pointer (some ⟨ga, 0, none⟩) ∧ b = .pointer (some ⟨gb, 0, none⟩) ∧ BxV wx ga cs ∧ BxV wx gb ds ∧ Below wr.heap.size wr wx

set_option maxRecDepth 20000 in
set_option maxHeartbeats 8000000 in
theorem specCon_any (v : Value) (s : List Ru) (w : World) (h : RowR 4 rRu w v s) (xs : List Int) (b : Bool) (hres : conTRes s = (xs, b)) :
    Calls Try.prog 26 #[v] w fun e w' => ∃ v', e = .returned (.tuple #[v', .bool b]) ∧ IntsO w.heap.size w'.heap.size w' v' xs ∧ Below w.heap.size w w' := by
  obtain ⟨i0, hi, hz0, hz1, hz2⟩ := info_parts Try.info_int
  have b0 := below_al (Below.refl w.heap.size w) (.cells #[] 3 (0, 0))
  have hcap := h.cap
  have HS1 := Lib.hid (show ∀ W, Below w.heap.size w W → RowR 4 rRu W v s from fun W hb => h.below rRu_stable hb)
  obtain ⟨a1, c1, hv, hl1, hm1, r1⟩ := h.rus
  subst hv
  have R1 := Lib.hid r1
  unfold maxLen at hm1
  obtain ⟨bs, hs⟩ : ∃ b, isSch s = b := ⟨_, rfl⟩
  have HS := Lib.hid hs
  have HRES := Lib.hid hres
  clear h hs r1 hres
  cases bs
  · have hr := HRES.out
    unfold conTRes at hr
    rw [if_neg (by rw [HS.out]; simp)] at hr
    obtain ⟨rfl, rfl⟩ := Prod.mk.inj hr
    clear hr HRES
    go_enter Try.func26, Try.ntmps26
    go_wp2_with (first | (go_at_call 86; refine (l4Good_any _ s _ (HS1.out _ b0)).mono ?_; rw [HS.out]; rintro e w1 ⟨rfl, b1⟩; have HI1 := Lib.hid (((ints_newG w).below b1).wide (Nat.le_refl _) b1.size); replace b1 := below_chain b0 b1))
    go_ret2
    exact ⟨_, rfl, HI1.out, b1⟩
  · have hr := HRES.out
    unfold conTRes at hr
    rw [if_pos HS.out] at hr
    obtain ⟨rfl, rfl⟩ := Prod.mk.inj hr
    clear hr HRES
    have h8 := sch_len HS.out
    go_enter Try.func26, Try.ntmps26
    go_wp2_with (first | (go_at_call 86; refine (l4Good_any _ s _ (HS1.out _ b0)).mono ?_; rw [HS.out]; rintro e w1 ⟨rfl, b1⟩; have HI1 := Lib.hid (((ints_newG w).below b1).wide (Nat.le_refl _) b1.size); replace b1 := below_chain b0 b1))
    go_loopw [4, 5] (fun o i wr => ∃ n : Nat, n ≤ s.length ∧ i = .int .i64 n ∧ wr.ownsRow w.heap.size 3 1 o (dedF (conAt s n 0)).length ((dedF (conAt s n 0)).map vI) ∧ Below w.heap.size w wr) (fun _ i _ => s.length - (intOf i).toNat)
    case atStart => exact ⟨0, Nat.zero_le _, rfl, (by simpa [conAt_zero, dedF] using HI1.out.1), b1⟩
    case round =>
      clear b1 HI1
      obtain ⟨n, hn, rfl, hO, hb⟩ := hrel
      obtain ⟨wo, hwo⟩ : ∃ x, x = wr := ⟨_, rfl⟩
      subst hwo
      by_cases hnl : n < s.length
      · obtain ⟨bb, o1, hbb, rfl, e1⟩ := R1.out.resolve_left (fun e => by rw [e] at hnl; simp at hnl)
        have E1 := Lib.hid e1
        obtain ⟨⟨x0, x1, x2, x3⟩, hx⟩ : ∃ x, s.getD n ruD = x := ⟨_, rfl⟩
        obtain ⟨q0, q1, q2, q3, _⟩ := e1 n hnl
        rw [hx] at q0 q1 q2 q3
        simp only at q0 q1 q2 q3
        have HX := Lib.hid hx
        have HQ := Lib.hid (show ∀ W, Below w.heap.size w W → W.cell? ⟨bb, o1 + n * 4, none⟩ = some (.int .i64 x0) ∧ W.cell? ⟨bb, o1 + n * 4 + 1, none⟩ = some (.int .i64 x1) ∧ W.cell? ⟨bb, o1 + n * 4 + 2, none⟩ = some (.int .i64 x2) ∧ W.cell? ⟨bb, o1 + n * 4 + 3, none⟩ = some (.int .i64 x3) from fun W hb => ⟨cell_kept q0 hb, cell_kept q1 hb, cell_kept q2 hb, cell_kept q3 hb⟩)
        have g0 : (0 : Int) ≤ (n : Int) := by omega
        have g1 : (n : Int) < (s.length : Int) := by omega
        have HOS := Lib.hid hO
        clear q0 q1 q2 q3 e1 hx hO
        go_wp2_with fail
        go_loopw [4, 6] (fun o i wr => ∃ k : Nat, k ≤ s.length ∧ i = .int .i64 k ∧ wr.ownsRow w.heap.size 3 1 o (dedF (conAt s n k)).length ((dedF (conAt s n k)).map vI) ∧ Below w.heap.size w wr) (fun _ i _ => s.length - (intOf i).toNat)
        case atStart => exact ⟨0, Nat.zero_le _, rfl, HOS.out, hb⟩
        case round =>
          clear HOS hb
          obtain ⟨k, hk, rfl, hO, hb⟩ := hrel
          have hsz := hb.size
          by_cases hlt : k < s.length
          · obtain ⟨⟨y0, y1, y2, y3⟩, hy⟩ : ∃ x, s.getD k ruD = x := ⟨_, rfl⟩
            obtain ⟨q0, q1, q2, q3, _⟩ := E1.out k hlt
            rw [hy] at q0 q1 q2 q3
            simp only at q0 q1 q2 q3
            have k0 := cell_kept q0 hb
            have k1 := cell_kept q1 hb
            have k2 := cell_kept q2 hb
            have k3 := cell_kept q3 hb
            obtain ⟨f0, f1, f2, f3⟩ := HQ.out _ hb
            have hst := conD_step s n k hlt
            have hbd := Nat.le_trans (dedF_len (conAt s n k)) (con_bound HS.out hn hk)
            rw [HX.out, hy] at hst
            obtain ⟨P, hP⟩ : ∃ P, dedF (conAt s n k) = P := ⟨_, rfl⟩
            rw [hP] at hst hO hbd
            simp only at hst
            have HST := Lib.hid hst
            have HO := Lib.hid hO
            have h0 : (0 : Int) ≤ (k : Int) := by omega
            have h1 : (k : Int) < (s.length : Int) := by omega
            clear q0 q1 q2 q3 hy hst hP hO
            go_wp2_with fail
            go_cut [7, 8] from 20 to 67 (fun a b wx => TwoBx wr wx a b [.int .i64 x0, .int .i64 x1, .int .i64 x2, .int .i64 x3] [.int .i64 y0, .int .i64 y1, .int .i64 y2, .int .i64 y3])
            case first =>
              have ma0 : ∀ o : Obj, (wr.alloc o).cell? ⟨bb, o1 + n * 4, none⟩ = some (.int .i64 x0) := fun o => below_al_cell (a := wr) f0 o
              have ma1 : ∀ o : Obj, (wr.alloc o).cell? ⟨bb, o1 + n * 4 + 1, none⟩ = some (.int .i64 x1) := fun o => below_al_cell (a := wr) f1 o
              have ma2 : ∀ o : Obj, (wr.alloc o).cell? ⟨bb, o1 + n * 4 + 2, none⟩ = some (.int .i64 x2) := fun o => below_al_cell (a := wr) f2 o
              have ma3 : ∀ o : Obj, (wr.alloc o).cell? ⟨bb, o1 + n * 4 + 3, none⟩ = some (.int .i64 x3) := fun o => below_al_cell (a := wr) f3 o
              have mb0 : ∀ o : Obj, (wr.alloc o).cell? ⟨bb, o1 + k * 4, none⟩ = some (.int .i64 y0) := fun o => below_al_cell (a := wr) k0 o
              have mb1 : ∀ o : Obj, (wr.alloc o).cell? ⟨bb, o1 + k * 4 + 1, none⟩ = some (.int .i64 y1) := fun o => below_al_cell (a := wr) k1 o
              have mb2 : ∀ o : Obj, (wr.alloc o).cell? ⟨bb, o1 + k * 4 + 2, none⟩ = some (.int .i64 y2) := fun o => below_al_cell (a := wr) k2 o
              have mb3 : ∀ o : Obj, (wr.alloc o).cell? ⟨bb, o1 + k * 4 + 3, none⟩ = some (.int .i64 y3) := fun o => below_al_cell (a := wr) k3 o
              have mc0 : ∀ o o' : Obj, ((wr.alloc o).alloc o').cell? ⟨bb, o1 + n * 4, none⟩ = some (.int .i64 x0) := fun o o' => below_al_cell (ma0 o) o'
              have mc1 : ∀ o o' : Obj, ((wr.alloc o).alloc o').cell? ⟨bb, o1 + n * 4 + 1, none⟩ = some (.int .i64 x1) := fun o o' => below_al_cell (ma1 o) o'
              have mc2 : ∀ o o' : Obj, ((wr.alloc o).alloc o').cell? ⟨bb, o1 + n * 4 + 2, none⟩ = some (.int .i64 x2) := fun o o' => below_al_cell (ma2 o) o'
              have mc3 : ∀ o o' : Obj, ((wr.alloc o).alloc o').cell? ⟨bb, o1 + n * 4 + 3, none⟩ = some (.int .i64 x3) := fun o o' => below_al_cell (ma3 o) o'
              have md0 : ∀ o o' : Obj, ((wr.alloc o).alloc o').cell? ⟨bb, o1 + k * 4, none⟩ = some (.int .i64 y0) := fun o o' => below_al_cell (mb0 o) o'
              have md1 : ∀ o o' : Obj, ((wr.alloc o).alloc o').cell? ⟨bb, o1 + k * 4 + 1, none⟩ = some (.int .i64 y1) := fun o o' => below_al_cell (mb1 o) o'
              have md2 : ∀ o o' : Obj, ((wr.alloc o).alloc o').cell? ⟨bb, o1 + k * 4 + 2, none⟩ = some (.int .i64 y2) := fun o o' => below_al_cell (mb2 o) o'
              have md3 : ∀ o o' : Obj, ((wr.alloc o).alloc o').cell? ⟨bb, o1 + k * 4 + 3, none⟩ = some (.int .i64 y3) := fun o o' => below_al_cell (mb3 o) o'
              go_region
              all_goals go_wp2_with fail
              all_goals go_meet
              all_goals first
                | exact ⟨_, _, rfl, rfl, (BxV.new' (by simp) [.int .i64 x0, .int .i64 x1, .int .i64 x2, .int .i64 x3] _).al _, BxV.new' (by simp) [.int .i64 y0, .int .i64 y1, .int .i64 y2, .int .i64 y3] _, below_al (below_al ((Below.refl _ _).drew) _) _⟩
                | exact ⟨_, _, rfl, rfl, BxV.new' (by simp) [.int .i64 x0, .int .i64 x1, .int .i64 x2, .int .i64 x3] _, (BxV.new' (by simp) [.int .i64 y0, .int .i64 y1, .int .i64 y2, .int .i64 y3] _).al _, below_al (below_al ((Below.refl _ _).drew) _) _⟩
            case rest =>
              obtain ⟨ga, gb, rfl, rfl, HA, HB, bx⟩ := hcut
              have hbx := hb.trans (bx.mono hsz)
              have sx := bx.size
              have sx2 : w.heap.size ≤ wc.heap.size := by omega
              have HOX := Lib.hid (ownsRow_below HO.out bx)
              have HROW := Lib.hid (RowOf.of_owns HOX.out)
              have c0 := HA.cell 0
              have c2 := HA.cell 2
              have c3 := HA.cell 3
              have d0 := HB.cell 0
              have d2 := HB.cell 2
              have d3 := HB.cell 3
              simp at c0 c2 c3 d0 d2 d3
              clear HO f0 f1 f2 f3 k0 k1 k2 k3 hb HA HB bx
              by_cases e0 : x0 = y0
              · have r0 : (x0 == y0) = true := by simp [e0]
                have E0 := Lib.hid e0
                clear e0
                by_cases e1 : x3 = 1
                · have r1 : (x3 == 1) = true := by simp [e1]
                  have EE1 := Lib.hid e1
                  clear e1
                  by_cases e2 : y3 = 3
                  · have r2 : (y3 == 3) = true := by simp [e2]
                    have EE2 := Lib.hid e2
                    clear e2
                    by_cases e3 : x2 = y2
                    · have r3 : (x2 == y2) = true := by simp [e3]
                      have HST2 := Lib.hid (HST.out.trans (if_pos ((conB_mk x0 x1 x2 x3 y0 y1 y2 y3).2 ⟨EE1.out, EE2.out, E0.out, e3⟩)))
                      clear e3
                      obtain ⟨bm, hbm⟩ : ∃ b, decide (x0 ∈ P) = b := ⟨_, rfl⟩
                      have HM := Lib.hid hbm
                      clear hbm
                      cases bm
                      · have HST3 := Lib.hid (HST2.out.trans (if_neg (of_decide_eq_false HM.out)))
                        go_wp2_with (first | (go_at_call 93; refine (l1Has_any _ P x0 _ HROW.out).mono ?_; rw [HM.out]; rintro e w2 ⟨rfl, b2⟩; have hO2 := ownsRow_below HOX.out b2; have hb2 := hbx.trans (b2.mono sx2); have hs2 := hb2.size; have z0 := cell_kept c0 b2) | (at_builtin; refine wpList_append_own _ rfl _ _ 26 rfl w.heap.size 3 i0 (.int .i64 0) 1 8 Try.underlying26 hi hz0 hz1 hz2 rfl (by decide) _ _ _ rfl (hO2.alloc _) ⟨w2.heap.size, 0, none⟩ 1 1 [.int .i64 x0] rfl rfl (cell1_new _ _ _ (by simp)) (by simp [Value.oneCell']) (by unfold maxLen; omega) (by omega) (by simp; omega) ?_; intro v' w4 hown' hgrow _))
                        have HOWN := Lib.hid hown'
                        have HB2 := Lib.hid (below_app hb2 (Nat.le_refl _) hO2 hgrow)
                        clear hown' hgrow hO2
                        go_wp2_with fail
                        go_roundw
                        case rel => exact ⟨k + 1, by omega, by go_num, (by rw [HST3.out]; simpa [vI] using HOWN.out), HB2.out⟩
                        case measure => simp [intOf]; omega
                      · have HST3 := Lib.hid (HST2.out.trans (if_pos (of_decide_eq_true HM.out)))
                        go_wp2_with (first | (go_at_call 93; refine (l1Has_any _ P x0 _ HROW.out).mono ?_; rw [HM.out]; rintro e w2 ⟨rfl, b2⟩; have hO2 := ownsRow_below HOX.out b2; have hb2 := hbx.trans (b2.mono sx2); have hs2 := hb2.size; have z0 := cell_kept c0 b2))
                        have HO2 := Lib.hid hO2
                        clear hO2
                        go_roundw
                        case rel => exact ⟨k + 1, by omega, by go_num, (by rw [HST3.out]; exact HO2.out), hb2⟩
                        case measure => simp [intOf]; omega
                    · have r3 : (x2 == y2) = false := by simp [e3]
                      have HSK := Lib.hid (HST.out.trans (if_neg (fun q => by have := (conB_mk x0 x1 x2 x3 y0 y1 y2 y3).1 q; exact e3 this.2.2.2)))
                      go_wp2_with fail
                      go_roundw
                      case rel => exact ⟨k + 1, by omega, by go_num, (by rw [HSK.out]; exact HOX.out), hbx⟩
                      case measure => simp [intOf]; omega
                  · have r2 : (y3 == 3) = false := by simp [e2]
                    have HSK := Lib.hid (HST.out.trans (if_neg (fun q => by have := (conB_mk x0 x1 x2 x3 y0 y1 y2 y3).1 q; exact e2 this.2.1)))
                    go_wp2_with fail
                    go_roundw
                    case rel => exact ⟨k + 1, by omega, by go_num, (by rw [HSK.out]; exact HOX.out), hbx⟩
                    case measure => simp [intOf]; omega
                · have r1 : (x3 == 1) = false := by simp [e1]
                  have HSK := Lib.hid (HST.out.trans (if_neg (fun q => by have := (conB_mk x0 x1 x2 x3 y0 y1 y2 y3).1 q; exact e1 this.1)))
                  go_wp2_with fail
                  go_roundw
                  case rel => exact ⟨k + 1, by omega, by go_num, (by rw [HSK.out]; exact HOX.out), hbx⟩
                  case measure => simp [intOf]; omega
              · have r0 : (x0 == y0) = false := by simp [e0]
                have HSK := Lib.hid (HST.out.trans (if_neg (fun q => by have := (conB_mk x0 x1 x2 x3 y0 y1 y2 y3).1 q; exact e0 this.2.2.1)))
                go_wp2_with fail
                go_roundw
                case rel => exact ⟨k + 1, by omega, by go_num, (by rw [HSK.out]; exact HOX.out), hbx⟩
                case measure => simp [intOf]; omega
          · obtain rfl : k = s.length := by omega
            have HO := Lib.hid hO
            clear hO
            go_wp2_with fail
            go_roundw
            case rel => exact ⟨n + 1, by omega, by go_num, (by rw [← conAt_next s n hnl]; exact HO.out), hb⟩
            case measure => simp [intOf]; omega
      · obtain rfl : n = s.length := by omega
        rw [conAt_all] at hO
        have HF := Lib.hid (ints_rowG hO rfl)
        clear hO
        go_wp2_with fail
        go_ret2
        exact ⟨_, rfl, HF.out, hb⟩
theorem contradict_any (a b : Ru) (w : World) :
    Calls Try.prog 91 #[.agg #[.int .i64 a.series, .int .i64 a.event, .int .i64 a.days, .int .i64 a.act], .agg #[.int .i64 b.series, .int .i64 b.event, .int .i64 b.days, .int .i64 b.act]] w fun e w' => e = .returned (.bool (conB a b)) ∧ Below w.heap.size w w' := by
  obtain ⟨x0, x1, x2, x3⟩ := a
  obtain ⟨y0, y1, y2, y3⟩ := b
  have b0 := below_al (below_al (Below.refl w.heap.size w) (.cells #[.int .i64 x0, .int .i64 x1, .int .i64 x2, .int .i64 x3] 56 (0, 0))) (.cells #[.int .i64 y0, .int .i64 y1, .int .i64 y2, .int .i64 y3] 56 (0, 0))
  have hm := conB_mk x0 x1 x2 x3 y0 y1 y2 y3
  obtain ⟨bc, hbc⟩ : ∃ b, conB ⟨x0, x1, x2, x3⟩ ⟨y0, y1, y2, y3⟩ = b := ⟨_, rfl⟩
  rw [hbc] at hm
  simp only
  rw [hbc]
  have HM := Lib.hid hm
  clear hm hbc
  by_cases e1 : x3 = 1
  · have r1 : (x3 == 1) = true := by simp [e1]
    have E1 := Lib.hid e1
    clear e1
    by_cases e2 : y3 = 3
    · have r2 : (y3 == 3) = true := by simp [e2]
      have E2 := Lib.hid e2
      clear e2
      by_cases e0 : x0 = y0
      · have r0 : (x0 == y0) = true := by simp [e0]
        have E0 := Lib.hid e0
        clear e0
        by_cases e3 : x2 = y2
        · have r3 : (x2 == y2) = true := by simp [e3]
          have hb : bc = true := HM.out.2 ⟨E1.out, E2.out, E0.out, e3⟩
          subst hb
          clear e3
          go_enter Try.func91, Try.ntmps91
          go_wp2_with fail
          go_ret
          exact ⟨rfl, b0⟩
        · have r3 : (x2 == y2) = false := by simp [e3]
          have hb : bc = false := by rw [Bool.eq_false_iff]; exact fun q => e3 (HM.out.1 q).2.2.2
          subst hb
          clear e3
          go_enter Try.func91, Try.ntmps91
          go_wp2_with fail
          go_ret
          exact ⟨rfl, b0⟩
      · have r0 : (x0 == y0) = false := by simp [e0]
        have hb : bc = false := by rw [Bool.eq_false_iff]; exact fun q => e0 (HM.out.1 q).2.2.1
        subst hb
        clear e0
        go_enter Try.func91, Try.ntmps91
        go_wp2_with fail
        go_ret
        exact ⟨rfl, b0⟩
    · have r2 : (y3 == 3) = false := by simp [e2]
      have hb : bc = false := by rw [Bool.eq_false_iff]; exact fun q => e2 (HM.out.1 q).2.1
      subst hb
      clear e2
      go_enter Try.func91, Try.ntmps91
      go_wp2_with fail
      go_ret
      exact ⟨rfl, b0⟩
  · have r1 : (x3 == 1) = false := by simp [e1]
    have hb : bc = false := by rw [Bool.eq_false_iff]; exact fun q => e1 (HM.out.1 q).1
    subst hb
    clear e1
    go_enter Try.func91, Try.ntmps91
    go_wp2_with fail
    go_ret
    exact ⟨rfl, b0⟩

set_option maxRecDepth 20000 in
set_option maxHeartbeats 8000000 in
theorem implCon_any (v : Value) (s : List Ru) (w : World) (h : RowR 4 rRu w v s) (xs : List Int) (b : Bool) (hres : conTRes s = (xs, b)) :
    Calls Try.prog 25 #[v] w fun e w' => ∃ v', e = .returned (.tuple #[v', .bool b]) ∧ IntsO w.heap.size w'.heap.size w' v' xs ∧ Below w.heap.size w w' := by
  obtain ⟨i0, hi, hz0, hz1, hz2⟩ := info_parts Try.info_int
  have hcap := h.cap
  have HS1 := Lib.hid (show ∀ W, Below w.heap.size w W → RowR 4 rRu W v s from fun W hb => h.below rRu_stable hb)
  obtain ⟨a1, c1, hv, hl1, hm1, r1⟩ := h.rus
  subst hv
  have R1 := Lib.hid r1
  unfold maxLen at hm1
  obtain ⟨bs, hs⟩ : ∃ b, isSch s = b := ⟨_, rfl⟩
  have HS := Lib.hid hs
  have HRES := Lib.hid hres
  clear h hs r1 hres
  cases bs
  · have hr := HRES.out
    unfold conTRes at hr
    rw [if_neg (by rw [HS.out]; simp)] at hr
    obtain ⟨rfl, rfl⟩ := Prod.mk.inj hr
    clear hr HRES
    go_enter Try.func25, Try.ntmps25
    go_wp2_with (first | (go_at_call 89; refine (implIsSchedule_any _ s _ (HS1.out _ (Below.refl _ _))).mono ?_; rw [HS.out]; rintro e w1 ⟨rfl, b1⟩))
    go_ret2
    exact ⟨_, rfl, ints_nilG _ _ _, b1⟩
  · have hr := HRES.out
    unfold conTRes at hr
    rw [if_pos HS.out] at hr
    obtain ⟨rfl, rfl⟩ := Prod.mk.inj hr
    clear hr HRES
    have h8 := sch_len HS.out
    go_enter Try.func25, Try.ntmps25
    go_wp2_with (first | (go_at_call 89; refine (implIsSchedule_any _ s _ (HS1.out _ (Below.refl _ _))).mono ?_; rw [HS.out]; rintro e w1 ⟨rfl, b1⟩))
    go_loopw [4, 14] (fun o i wr => ∃ n : Nat, n ≤ s.length ∧ i = .int .i64 n ∧ wr.ownsRow w.heap.size 3 1 o (conAt s n 0).length ((conAt s n 0).map vI) ∧ Below w.heap.size w wr) (fun _ i _ => s.length - (intOf i).toNat)
    case atStart => exact ⟨0, Nat.zero_le _, rfl, (by simpa [conAt_zero] using (ints_nilG w.heap.size w.heap.size w1).1), b1⟩
    case round =>
      clear b1
      obtain ⟨n, hn, rfl, hO, hb⟩ := hrel
      obtain ⟨wo, hwo⟩ : ∃ x, x = wr := ⟨_, rfl⟩
      subst hwo
      by_cases hnl : n < s.length
      · obtain ⟨bb, o1, hbb, rfl, e1⟩ := R1.out.resolve_left (fun e => by rw [e] at hnl; simp at hnl)
        have E1 := Lib.hid e1
        obtain ⟨⟨x0, x1, x2, x3⟩, hx⟩ : ∃ x, s.getD n ruD = x := ⟨_, rfl⟩
        obtain ⟨q0, q1, q2, q3, _⟩ := e1 n hnl
        rw [hx] at q0 q1 q2 q3
        simp only at q0 q1 q2 q3
        have f0 := cell_kept q0 hb
        have f1 := cell_kept q1 hb
        have f2 := cell_kept q2 hb
        have f3 := cell_kept q3 hb
        have HX := Lib.hid hx
        have g0 : (0 : Int) ≤ (n : Int) := by omega
        have g1 : (n : Int) < (s.length : Int) := by omega
        have hsz := hb.size
        have HBB := Lib.hid (BxV.new wo [.int .i64 x0, .int .i64 x1, .int .i64 x2, .int .i64 x3] 56)
        have HNG := Lib.hid (show ∀ g, (_ : Value).ownBlock = some g → g ≠ wo.heap.size from fun g hg => by have := (hO.lt g hg).2; omega)
        have HOS := Lib.hid (hO.alloc (.cells #[.int .i64 x0, .int .i64 x1, .int .i64 x2, .int .i64 x3] 56 (0, 0)))
        have HBL := Lib.hid (below_al hb (.cells #[.int .i64 x0, .int .i64 x1, .int .i64 x2, .int .i64 x3] 56 (0, 0)))
        clear q0 q1 q2 q3 e1 hx hO
        go_wp2_with fail
        generalize hWW : wo.alloc (.cells #[.int .i64 x0, .int .i64 x1, .int .i64 x2, .int .i64 x3] 56 (0, 0)) = wB at *
        obtain ⟨G, hG⟩ : ∃ G, wo.heap.size = G := ⟨_, rfl⟩
        rw [hG] at HBB HNG
        try rw [hG]
        clear hWW
        go_loopw [4, 20] (fun o i wr => ∃ k : Nat, k ≤ s.length ∧ i = .int .i64 k ∧ Hid (BxV wr G [.int .i64 x0, .int .i64 x1, .int .i64 x2, .int .i64 x3]) ∧ Hid (∀ g, o.ownBlock = some g → g ≠ G) ∧ wr.ownsRow w.heap.size 3 1 o (conAt s n k).length ((conAt s n k).map vI) ∧ Below w.heap.size w wr) (fun _ i _ => s.length - (intOf i).toNat)
        case atStart => exact ⟨0, Nat.zero_le _, rfl, HBB, HNG, HOS.out, HBL.out⟩
        case round =>
          clear HOS HBL HBB HNG hb f0 f1 f2 f3 hsz
          obtain ⟨k, hk, rfl, HXB, HNG, hO, hb⟩ := hrel
          have hsz := hb.size
          by_cases hlt : k < s.length
          · obtain ⟨⟨y0, y1, y2, y3⟩, hy⟩ : ∃ x, s.getD k ruD = x := ⟨_, rfl⟩
            obtain ⟨q0, q1, q2, q3, _⟩ := E1.out k hlt
            rw [hy] at q0 q1 q2 q3
            simp only at q0 q1 q2 q3
            have k0 := cell_kept q0 hb
            have k1 := cell_kept q1 hb
            have k2 := cell_kept q2 hb
            have k3 := cell_kept q3 hb
            have hst := conAt_step s n k hlt
            have hbd := con_bound HS.out hn hk
            rw [HX.out, hy] at hst
            obtain ⟨P, hP⟩ : ∃ P, conAt s n k = P := ⟨_, rfl⟩
            rw [hP] at hst hO hbd
            simp only at hst
            obtain ⟨bc, hbc⟩ : ∃ b, conB ⟨x0, x1, x2, x3⟩ ⟨y0, y1, y2, y3⟩ = b := ⟨_, rfl⟩
            rw [hbc] at hst
            have HBC := Lib.hid hbc
            have HST := Lib.hid hst
            have bya := below_al (Below.refl wr.heap.size wr) (.cells #[.int .i64 y0, .int .i64 y1, .int .i64 y2, .int .i64 y3] 56 (0, 0))
            have hba := below_al hb (.cells #[.int .i64 y0, .int .i64 y1, .int .i64 y2, .int .i64 y3] 56 (0, 0))
            have HOA := Lib.hid (hO.alloc (.cells #[.int .i64 y0, .int .i64 y1, .int .i64 y2, .int .i64 y3] 56 (0, 0)))
            have HXA := Lib.hid (HXB.out.below bya)
            have c0 := HXA.out.cell 0
            have c1 := HXA.out.cell 1
            have c2 := HXA.out.cell 2
            have c3 := HXA.out.cell 3
            simp at c0 c1 c2 c3
            have h0 : (0 : Int) ≤ (k : Int) := by omega
            have h1 : (k : Int) < (s.length : Int) := by omega
            clear q0 q1 q2 q3 hy hst hP hO hbc
            cases bc
            · have HST2 := Lib.hid (HST.out.trans (if_neg (by simp)))
              go_wp2_with (first | (go_at_call 91; refine (contradict_any ⟨x0, x1, x2, x3⟩ ⟨y0, y1, y2, y3⟩ _).mono ?_; rw [HBC.out]; rintro e w2 ⟨rfl, b2⟩; have hO2 := ownsRow_below HOA.out b2; have hb2 := hba.trans (b2.mono hba.size); have hs2 := hb2.size; have HX2 := Lib.hid (HXB.out.below bya |>.below b2); have z0 := HX2.out.cell 0; simp at z0))
              have HO2 := Lib.hid hO2
              clear hO2
              go_roundw
              case rel => exact ⟨k + 1, by omega, by go_num, HX2, HNG, (by rw [HST2.out]; exact HO2.out), hb2⟩
              case measure => simp [intOf]; omega
            · have HST2 := Lib.hid (HST.out.trans (if_pos rfl))
              go_wp2_with (first | (go_at_call 91; refine (contradict_any ⟨x0, x1, x2, x3⟩ ⟨y0, y1, y2, y3⟩ _).mono ?_; rw [HBC.out]; rintro e w2 ⟨rfl, b2⟩; have hO2 := ownsRow_below HOA.out b2; have hb2 := hba.trans (b2.mono hba.size); have hs2 := hb2.size; have HX2 := Lib.hid (HXB.out.below bya |>.below b2); have z0 := HX2.out.cell 0; simp at z0) | (at_builtin; refine wpList_append_own_at _ rfl _ _ 26 rfl w.heap.size 3 i0 (.int .i64 0) 1 8 Try.underlying26 hi hz0 hz1 hz2 rfl (by decide) _ _ _ rfl (hO2.alloc _) ⟨w2.heap.size, 0, none⟩ 1 1 [.int .i64 x0] rfl rfl (cell1_new _ _ _ (by simp)) (by simp [Value.oneCell']) (by unfold maxLen; omega) (by omega) (by simp; omega) ?_; intro v' w4 hown' hgrow _ hat))
              have HOWN := Lib.hid hown'
              have HB2 := Lib.hid (below_app hb2 (Nat.le_refl _) hO2 hgrow)
              have hGl := HX2.out.lt
              have HX4 := Lib.hid ((HX2.out.al _).grown hgrow (fun q => HNG.out G q.symm rfl))
              have HN4 := Lib.hid (show ∀ g, v'.ownBlock = some g → g ≠ G from fun g hg => by rcases hat with q | q; (· exact HNG.out g (q.symm.trans hg)); (· rw [hg] at q; simp at q; omega))
              clear hown' hgrow hO2 hat
              go_wp2_with fail
              go_roundw
              case rel => exact ⟨k + 1, by omega, by go_num, HX4, HN4, (by rw [HST2.out]; simpa [vI] using HOWN.out), HB2.out⟩
              case measure => simp [intOf]; omega
          · obtain rfl : k = s.length := by omega
            have HO := Lib.hid hO
            clear hO
            go_wp2_with fail
            go_roundw
            case rel => exact ⟨n + 1, by omega, by go_num, (by rw [← conAt_next s n hnl]; exact HO.out), hb⟩
            case measure => simp [intOf]; omega
      · obtain rfl : n = s.length := by omega
        rw [conAt_all] at hO
        have hbd := con_bound HS.out (Nat.le_refl s.length) (Nat.zero_le s.length)
        rw [conAt_all] at hbd
        have HC := Lib.hid (compactO_any w.heap.size _ (conL s s) (conF s) wo hO hb.size (by omega) (con_compact HS.out) (dedF_len _))
        clear hO
        go_wp2_with (first | (go_at_call 92; refine HC.out.mono ?_; rintro e w5 ⟨v5, rfl, ho5, b5⟩))
        have HF := Lib.hid ho5
        clear ho5
        go_ret2
        exact ⟨_, rfl, HF.out, hb.trans b5⟩

end Go.Proofs.Ytenjajcknmfhfaa

namespace Go.Proofs.Ytenjajcknmfhfaa
set_option linter.unusedVariables false
open Go.RowKit Go.Sort

set_option maxRecDepth 20000 in
set_option maxHeartbeats 2000000 in
theorem implRulesFor_any (v : Value) (t : List Ru) (x : Int) (w : World) (h : RowR 4 rRu w v t) (hn : t.length ≤ 1048576) (xs : List Ru) (b : Bool) (hres : rufRes t x = (xs, b)) :
    Calls Try.prog 23 #[v, .int .i64 x] w fun e w' => ∃ v', e = .returned (.tuple #[v', .bool b]) ∧ RusO w.heap.size w'.heap.size w' v' xs ∧ Below w.heap.size w w' := by
  obtain ⟨i0, hi, hz0, hz1, hz2⟩ := info_parts Try.info_ru
  have H := Lib.hid h
  have hok := h.rus_ok
  have HOK := Lib.hid hok
  obtain ⟨a1, c1, hv, hl1, hm1, r1⟩ := h.rus
  subst hv
  have R1 := Lib.hid r1
  unfold maxLen at hm1
  obtain ⟨bs, hs⟩ : ∃ b, isSch t = b := ⟨_, rfl⟩
  obtain ⟨bx, hx⟩ : ∃ b, decide (1 ≤ x ∧ x ≤ 99) = b := ⟨_, rfl⟩
  unfold rufRes at hres
  rw [hs, hx] at hres
  have HS := Lib.hid hs
  have HX := Lib.hid hx
  clear h hs hx r1 hok
  cases bs
  · rw [if_neg (by simp)] at hres
    obtain ⟨rfl, rfl⟩ := Prod.mk.inj hres
    clear hres
    go_enter Try.func23, Try.ntmps23
    go_wp2_with (first | (go_at_call 89; refine (implIsSchedule_any _ t _ H.out).mono ?_; rw [HS.out]; rintro e w1 ⟨rfl, b1⟩))
    go_ret2
    exact ⟨_, rfl, RusO.nil _ _ _, b1⟩
  · cases bx
    · rw [if_neg (by simp)] at hres
      obtain ⟨rfl, rfl⟩ := Prod.mk.inj hres
      clear hres
      go_enter Try.func23, Try.ntmps23
      go_wp2_with (first | (go_at_call 89; refine (implIsSchedule_any _ t _ H.out).mono ?_; rw [HS.out]; rintro e w1 ⟨rfl, b1⟩) | (go_at_call 90; refine (implIsSeries_any _ _).mono ?_; rw [HX.out]; rintro e w' ⟨rfl, rfl⟩))
      go_ret2
      exact ⟨_, rfl, RusO.nil _ _ _, b1⟩
    · rw [if_pos (by simp)] at hres
      obtain ⟨rfl, rfl⟩ := Prod.mk.inj hres
      clear hres
      go_enter Try.func23, Try.ntmps23
      go_wp2_with (first | (go_at_call 89; refine (implIsSchedule_any _ t _ H.out).mono ?_; rw [HS.out]; rintro e w1 ⟨rfl, b1⟩) | (go_at_call 90; refine (implIsSeries_any _ _).mono ?_; rw [HX.out]; rintro e w' ⟨rfl, rfl⟩))
      go_loopw [6, 19] (fun o i wr => ∃ k : Nat, k ≤ t.length ∧ i = .int .i64 k ∧ wr.ownsRow w.heap.size 56 4 o (forRu (t.take k) x).length (((forRu (t.take k) x).map ruC).flatten) ∧ Below w.heap.size w wr) (fun _ i _ => t.length - (intOf i).toNat)
      case atStart => exact ⟨0, Nat.zero_le _, rfl, by simpa [forRu] using (RusO.nil w.heap.size w.heap.size _).1.1, b1⟩
      case round =>
        clear b1
        obtain ⟨k, hk, rfl, hO, hb⟩ := hrel
        by_cases hlt : k < t.length
        · obtain ⟨b1, o1, hb1, rfl, e1⟩ := R1.out.resolve_left (fun e => by rw [e] at hlt; simp at hlt)
          obtain ⟨q0, q1, q2, q3, hok⟩ := e1 k hlt
          have hsucc := forRu_succ (s := x) hlt
          obtain ⟨P, hP⟩ : ∃ P, forRu (t.take k) x = P := ⟨_, rfl⟩
          have hPl : P.length ≤ k := by
            rw [← hP]
            have := forRu_len (t.take k) x
            rw [List.length_take] at this
            omega
          rw [hP] at hO hsucc
          obtain ⟨⟨x0, x1, x2, x3⟩, hx⟩ : ∃ s, t.getD k ruD = s := ⟨_, rfl⟩
          rw [hx] at q0 q1 q2 q3 hsucc
          simp only at q0 q1 q2 q3 hsucc
          have f0 := cell_kept q0 hb
          have f1 := cell_kept q1 hb
          have f2 := cell_kept q2 hb
          have f3 := cell_kept q3 hb
          have HSU := Lib.hid hsucc
          have g0 : (0 : Int) ≤ (k : Int) := by omega
          have g1 : (k : Int) < (t.length : Int) := by omega
          have hsz := hb.size
          clear q0 q1 q2 q3 hok e1 hx hsucc hP
          by_cases he : x0 = x
          · have hq : (x0 == x) = true := by simp [he]
            have HSU2 := Lib.hid (HSU.out.trans (if_pos he))
            have hb2 := below_al hb (.cells #[.int .i64 x0, .int .i64 x1, .int .i64 x2, .int .i64 x3] 56 (0, 0))
            have hO2 := hO.alloc (.cells #[.int .i64 x0, .int .i64 x1, .int .i64 x2, .int .i64 x3] 56 (0, 0))
            clear he hO
            go_wp2_with (first | (at_builtin; refine wpList_append_own _ rfl _ _ 40 rfl w.heap.size 56 i0 (.agg #[.int .i64 0, .int .i64 0, .int .i64 0, .int .i64 0]) 4 32 Try.underlying40 hi hz0 hz1 hz2 rfl (by decide) _ _ _ rfl (hO2.alloc _) ⟨wr.heap.size + 1, 0, none⟩ 1 1 [.int .i64 x0, .int .i64 x1, .int .i64 x2, .int .i64 x3] rfl rfl (cells4_new' _ _ _ _ _ _ (by simp)) (by simp [Value.oneCell']) (by unfold maxLen; omega) (by omega) (by simp; omega) ?_; intro v' w4 hown' hgrow _))
            have HOWN := Lib.hid hown'
            have HB := Lib.hid (below_app hb2 (Nat.le_refl _) hO2 hgrow)
            clear hown' hgrow hO2
            go_wp2_with fail
            go_roundw
            case rel => exact ⟨k + 1, by omega, by go_num, (by rw [HSU2.out]; simpa [ruC] using HOWN.out), HB.out⟩
            case measure => simp [intOf]; omega
          · have hq : (x0 == x) = false := by simp [he]
            have HSU2 := Lib.hid (HSU.out.trans (if_neg he))
            have HO := Lib.hid (hO.alloc (.cells #[.int .i64 x0, .int .i64 x1, .int .i64 x2, .int .i64 x3] 56 (0, 0)))
            clear he hO
            go_wp2_with fail
            go_roundw
            case rel => exact ⟨k + 1, by omega, by go_num, (by rw [HSU2.out]; exact HO.out), below_al hb _⟩
            case measure => simp [intOf]; omega
        · obtain rfl : k = t.length := by omega
          rw [List.take_length] at hO
          have HF := Lib.hid (RusO.of_row hO rfl (fun f hf => HOK.out f (forRu_mem hf).1))
          clear hO
          go_wp2_with fail
          go_ret2
          exact ⟨_, rfl, HF.out, hb⟩
end Go.Proofs.Ytenjajcknmfhfaa
