/- The first cycle, the program's: cycleAlong. -/
import Derived.Test.YtedckfbjhhabgaaTgP0
import Derived.Test.YtedckfbjhhabgaaTgR
import Derived.Test.YtedckfbjhhabgaaContains
import Derived.Test.YtedckfbjhhabgaaIntsN
namespace Go.Proofs.Ytedckfbjhhabgaa
set_option linter.unusedVariables false
open Go.RowKit Go.Sort Go.Maps

/-- What one link gives in the program's search. -/
def cycG (f : Nat) (t : List Tg) (hd : Int) (c : List Int) (x : Tg) : Option (List Int) := if x.aft = hd then some c else if x.aft < hd ∨ x.aft ∈ c then none else cycP f t hd (c ++ [x.aft]) x.aft
theorem cycP_eq (f : Nat) (t : List Tg) (hd : Int) (c : List Int) (last : Int) : cycP (f + 1) t hd c last = (folL t last).findSome? (cycG f t hd c) := rfl
theorem findL_none {α β : Type} {g : α → Option β} {d : α} : ∀ (l : List α), (∀ j, j < l.length → g (l.getD j d) = none) → l.findSome? g = none := by
  intro l h
  rw [List.findSome?_eq_none_iff]
  intro x hx
  obtain ⟨i, hi, rfl⟩ := List.getElem_of_mem hx
  have := h i hi
  simpa [List.getD, List.getElem?_eq_getElem hi] using this
theorem findL_at {α β : Type} {g : α → Option β} {d : α} {y : β} : ∀ (l : List α) (k : Nat), k < l.length → (∀ j, j < k → g (l.getD j d) = none) → g (l.getD k d) = some y → l.findSome? g = some y
  | [], k, hk, _, _ => absurd hk (by simp)
  | a :: l, 0, _, _, h1 => by
    rw [List.getD_cons_zero] at h1
    rw [List.findSome?_cons, h1]
  | a :: l, k + 1, hk, h0, h1 => by
    have ha := h0 0 (by omega)
    rw [List.getD_cons_zero] at ha
    rw [List.findSome?_cons, ha]
    rw [List.getD_cons_succ] at h1
    exact findL_at l k (by simpa using hk) (fun j hj => by have := h0 (j + 1) (by omega); rwa [List.getD_cons_succ] at this) h1
/-- What the search leaves: the path found, or nil and the path as it was. -/
def CycD (lo : Nat) (w : World) (v : Value) (c : List Int) (q : Option (List Int)) (e : Ending) (w' : World) : Prop :=
  ∃ v', e = .returned v' ∧ (∀ p, q = some p → (∃ g n cap, v' = .slice (some ⟨g, 0, none⟩) n cap) ∧ w'.ownsRow lo 3 1 v' p.length (p.map vI)) ∧ (q = none → v' = .slice none 0 0 ∧ w'.ownsRow lo 3 1 v c.length (c.map vI)) ∧ w.grownBy w' v.ownBlock
theorem nil_neqT (W : World) : (binOp BinOp.neq 30 (.slice none 0 0) (.slice none 0 0)).run Try.prog W = .ok (.bool false) W := by kernel_rfl
theorem row_neqT (g n c : Nat) (W : World) : (binOp BinOp.neq 30 (.slice (some ⟨g, 0, none⟩) n c) (.slice none 0 0)).run Try.prog W = .ok (.bool true) W := by kernel_rfl
theorem undrew {a b : World} {r : Option Nat} (h : a.drew.grownBy b r) : a.grownBy b r := ⟨h.os, h.tape, h.output, h.size, h.block⟩
theorem own_some {w : World} {base e size n : Nat} {v : Value} {xs : List Value} (h : w.ownsRow base e size v n xs) (hn : 0 < n) : ∃ g cap, v = .slice (some ⟨g, 0, none⟩) n cap := by
  rcases h.2 with ⟨_, h0⟩ | ⟨g, cap, cur, rfl, _⟩
  · omega
  · exact ⟨g, cap, rfl⟩
theorem grown_join {a b c : World} {g : Nat} (h1 : a.grownBy b (some g)) (h2 : b.grownBy c (some g)) : a.grownBy c (some g) := ⟨h2.os.trans h1.os, h2.tape.trans h1.tape, h2.output.trans h1.output, Nat.le_trans h1.size h2.size, fun k hk hn => (h2.block k (Nat.lt_of_lt_of_le hk h1.size) hn).trans (h1.block k hk hn)⟩
theorem cell_of_grown {w w4 : World} {g b j : Nat} (h : ∃ row, w.grownBy w4 row ∧ (∀ x, row = some x → x = g)) (hn : b ≠ g) (hb : b < w.heap.size) : w4.cell? ⟨b, j, none⟩ = w.cell? ⟨b, j, none⟩ := by
  obtain ⟨row, h1, h2⟩ := h
  exact World.cell?_of_block (h1.block b hb (fun e => hn (h2 b e.symm)))
theorem nod_grown {w w4 : World} {o : Obj} {g hi : Nat} {A : List Nat} {t : List Tg} (hn : NodR hi w A t) (h : ∃ row, (w.alloc o).drew.grownBy w4 row ∧ (∀ x, row = some x → x = g)) (hg : hi ≤ g) : NodR hi w4 A t := by
  obtain ⟨row, h1, h2⟩ := h
  refine hn.below ⟨h1.os, h1.tape, h1.output, by have := h1.size; simp at this; omega, fun k hk => ?_⟩
  have hk2 : k < w.heap.size := Nat.lt_of_lt_of_le hk hn.size
  exact (h1.block k (by simp; omega) (fun e => by have := h2 k e.symm; omega)).trans (heap_alloc_old w _ hk2)
/-- The path was appended to and handed on: what has turned. -/
theorem keep_grown {w w1 w2 : World} {g n cap : Nat} {v' : Value} (h : (v' = .slice (some ⟨g, 0, none⟩) n cap ∧ w.grownBy w1 (some g)) ∨ (v'.ownBlock = some w.heap.size ∧ w.grownBy w1 none)) (hg : w1.grownBy w2 v'.ownBlock) : w.grownBy w2 (some g) := by
  rcases h with ⟨rfl, h1⟩ | ⟨hb, h1⟩
  · exact grown_join h1 (by simpa [Value.ownBlock] using hg)
  · rw [hb] at hg
    exact ⟨hg.os.trans h1.os, hg.tape.trans h1.tape, hg.output.trans h1.output, Nat.le_trans h1.size hg.size, fun k hk hn => (hg.block k (Nat.lt_of_lt_of_le hk h1.size) (by simp; omega)).trans (h1.block k hk (by simp))⟩
theorem alloc_grown {w w2 : World} {o : Obj} {g : Nat} (h : (w.alloc o).grownBy w2 (some g)) : w.grownBy w2 (some g) := ⟨h.os, h.tape, h.output, by have := h.size; simp at this; omega, fun k hk hn => (h.block k (by simp; omega) hn).trans (heap_alloc_old w _ hk)⟩
set_option maxRecDepth 20000 in
set_option maxHeartbeats 16000000 in
theorem cycleAlong_any (t : List Tg) (ht : areTg t = true) (A : List Nat) (hi lo : Nat) (hd : Int) (hlo : hi ≤ lo) : ∀ (f : Nat) (c : List Int) (last : Nat) (g cap : Nat) (w : World), NodR hi w A t → c.length + f = 11 → c.Nodup → (∀ x ∈ c, 0 ≤ x ∧ x ≤ 9) → c.getD 0 0 = hd → 0 < c.length → last < 10 → lo ≤ w.heap.size → w.ownsRow lo 3 1 (.slice (some ⟨g, 0, none⟩) c.length cap) c.length (c.map vI) →
    Calls Try.prog 71 #[ptrA A last, .slice (some ⟨g, 0, none⟩) c.length cap] w (CycD lo w (.slice (some ⟨g, 0, none⟩) c.length cap) c (cycP f t hd c (last : Int))) := by
  intro f
  induction f with
  | zero =>
    intro c last g cap w _ hf hn hr _ _ _ _ _
    have := nodup_ten hn hr
    omega
  | succ f ih =>
    intro c last g cap w hnr hf hn hr hhd h0 hla hlw hown
    obtain ⟨i0, hi0, hz0, hz1, hz2⟩ := info_parts Try.info_intN
    have IH := Lib.hid ih
    clear ih
    have HNR := Lib.hid hnr
    have HN := Lib.hid hn
    have HR := Lib.hid hr
    have HHD := Lib.hid hhd
    have hl10 := nodup_ten hn hr
    have HT := Lib.hid ht
    obtain ⟨N, hN⟩ : ∃ N, c.length = N := ⟨_, rfl⟩
    rw [hN] at hf h0 hl10 hown
    rw [hN]
    have HNL := Lib.hid hN
    have HOW := Lib.hid hown
    have hgl := hown.lt g rfl
    obtain ⟨L, hL⟩ : ∃ l, folL t (last : Int) = l := ⟨_, rfl⟩
    have hLm : ∀ x ∈ L, x ∈ t ∧ x.ev = (last : Int) := fun x hx => folL_mem.1 (by rw [hL]; exact hx)
    have HLM := Lib.hid hLm
    obtain ⟨fa, fc, hf1, hf2, hf3, hf4⟩ := hnr.fol last hla
    rw [hL] at hf1 hf2 hf4
    have hLl : L.length ≤ 10 := by rw [← hL]; exact Nat.le_trans (folL_len _) (tg_len ht)
    have HF4 := Lib.hid hf4
    unfold maxLen at hf3
    have HQ : Hid (cycP (f + 1) t hd c (last : Int) = L.findSome? (cycG f t hd c)) := Lib.hid (by rw [cycP_eq, hL])
    have hadr := hnr.adr last hla
    obtain ⟨P, hP⟩ : ∃ p, A.getD last 0 = p := ⟨_, rfl⟩
    unfold ptrA
    rw [hP] at hf1 hadr
    rw [hP]
    clear hnr hn hr hhd hN hown hL hLm hf4 hP ht
    go_enter Try.func71, Try.ntmps71
    go_wp2_with fail
    go_loopw [14] (fun i wr => ∃ k : Nat, k ≤ L.length ∧ i = .int .i64 k ∧ Hid (∀ j, j < k → cycG f t hd c (L.getD j tgD) = none) ∧ Hid (wr.ownsRow lo 3 1 (.slice (some ⟨g, 0, none⟩) N cap) N (c.map vI)) ∧ Hid (w.grownBy wr (some g))) (fun i _ => L.length - (intOf i).toNat)
    case atStart => exact ⟨0, Nat.zero_le _, rfl, Lib.hid (fun j h => absurd h (Nat.not_lt_zero _)), HOW, Lib.hid (World.grownBy.refl _ _)⟩
    case round =>
      clear HOW
      obtain ⟨k, hk, rfl, HJ, HO, HG⟩ := hrel
      have hsw := HG.out.size
      have hbl : Below hi w wr := ⟨HG.out.os, HG.out.tape, HG.out.output, HG.out.size, fun b hb => HG.out.block b (by have := HNR.out.size; omega) (fun e => by cases e; omega)⟩
      have HNW := Lib.hid (HNR.out.below hbl)
      by_cases hlt : k < L.length
      · obtain ⟨fb, fo, hfb, rfl, hfe⟩ := HF4.out.resolve_left (fun e => by rw [e] at hlt; simp at hlt)
        obtain ⟨⟨x0, x1, x2⟩, hx⟩ : ∃ x, L.getD k tgD = x := ⟨_, rfl⟩
        obtain ⟨q0, q1⟩ := hfe k hlt
        rw [hx] at q0 q1
        simp only at q0 q1
        have hxm := HLM.out ⟨x0, x1, x2⟩ (by rw [← hx, getTg_lt hlt]; exact List.getElem_mem hlt)
        have hone := (tgOne_iff.1 (tg_mem HT.out hxm.1)).2.1
        simp only at hone
        obtain ⟨n1, rfl⟩ : ∃ n : Nat, x1 = (n : Int) := ⟨x1.toNat, by omega⟩
        have hn1 : n1 < 10 := by omega
        rw [Int.toNat_natCast] at q0
        have f0 := (hbl.cell (p := ⟨fb, fo + k * 2, none⟩) hfb).trans q0
        have f1 := (hbl.cell (p := ⟨fb, fo + k * 2 + 1, none⟩) hfb).trans q1
        have hkd := HNW.out.kind n1 hn1
        have hka := HNW.out.adr n1 hn1
        unfold ptrA at f0
        obtain ⟨P1, hP1⟩ : ∃ p, A.getD n1 0 = p := ⟨_, rfl⟩
        rw [hP1] at f0 hkd hka
        have HP1 := Lib.hid hP1
        have HX := Lib.hid hx
        have hrow := RowOf.of_owns HO.out
        obtain ⟨ca, cc, hcv, hcl, hcm, hcc⟩ := hrow
        obtain ⟨b0, o0, hb0, e00, e0⟩ := hcc.resolve_left (fun e => by have := HNL.out; rw [e] at this; simp at this; omega)
        have fh := e0 0 (by have := HNL.out; omega)
        rw [← getI_lt (by have := HNL.out; omega), HHD.out] at fh
        simp only [Value.slice.injEq] at hcv
        obtain ⟨rfl, hq9, rfl⟩ := hcv
        clear hq9
        cases e00
        simp only [vI, Nat.add_zero] at fh
        have fha := fun o : Obj => below_al_cell fh o
        have hka2 := fun o : Obj => below_al_cell hkd o
        have g0 : (0 : Int) ≤ (k : Int) := by omega
        have g1 : (k : Int) < (L.length : Int) := by omega
        have gN : (0 : Int) < (N : Int) := by omega
        have HOA := Lib.hid (HO.out.alloc (.cells #[.pointer (some ⟨P1, 0, none⟩), .int .i64 x2] 104 (0, 0)))
        have HGA : Hid (w.grownBy (wr.alloc (.cells #[.pointer (some ⟨P1, 0, none⟩), .int .i64 x2] 104 (0, 0))) (some g)) := Lib.hid ⟨HG.out.os, HG.out.tape, HG.out.output, by have := HG.out.size; simp; omega, fun b hb hn => (heap_alloc_old wr _ (by omega)).trans (HG.out.block b hb hn)⟩
        have hsz := HG.out.size
        clear q0 q1 hfe hxm hone hx hcc e0 hP1
        by_cases he : (n1 : Int) = hd
        · have r0 : ((n1 : Int) == hd) = true := by simp [he]
          have HQ2 : Hid (cycP (f + 1) t hd c (last : Int) = some c) := Lib.hid (by rw [HQ.out]; exact findL_at L k hlt HJ.out (by rw [HX.out]; unfold cycG; rw [if_pos he]))
          clear he
          go_wp2_with fail
          go_ret
          exact ⟨_, rfl, fun p hp => by rw [HQ2.out] at hp; cases hp; exact ⟨⟨_, _, _, rfl⟩, by rw [HNL.out]; exact HOA.out⟩, (fun hp => by rw [HQ2.out] at hp; cases hp), HGA.out⟩
        · have r0 : ((n1 : Int) == hd) = false := by simp [he]
          have HE := Lib.hid he
          clear he
          by_cases hlth : (n1 : Int) < hd
          · have HNX : Hid (cycG f t hd c (L.getD k tgD) = none) := Lib.hid (by rw [HX.out]; unfold cycG; rw [if_neg HE.out, if_pos (.inl hlth)])
            go_wp2_with fail
            go_roundw
            case rel => exact ⟨k + 1, by omega, by go_num, Lib.hid (fun j hj => by by_cases e : j = k; (· rw [e]; exact HNX.out); (· exact HJ.out j (by omega))), HOA, HGA⟩
            case measure => simp [intOf]; omega
          · have HROW := Lib.hid (RowOf.of_owns HOA.out)
            obtain ⟨bm, hbm⟩ : ∃ b, decide ((n1 : Int) ∈ c) = b := ⟨_, rfl⟩
            have HBM := Lib.hid hbm
            have HLTH := Lib.hid hlth
            have dlt : decide ((n1 : Int) < hd) = false := decide_eq_false hlth
            clear hbm hlth
            go_wp2_with fail
            generalize hWB : wr.alloc (.cells #[.pointer (some ⟨P1, 0, none⟩), .int .i64 x2] 104 (0, 0)) = wB at *
            have z0 : wB.cell? ⟨wr.heap.size, 0, none⟩ = some (.pointer (some ⟨P1, 0, none⟩)) := by rw [← hWB]; exact cell_new wr _ _ 0 rfl
            have bB : Below wr.heap.size wr wB := by rw [← hWB]; exact below_al (Below.refl _ _) _
            have hBl : wr.heap.size < wB.heap.size := by rw [← hWB]; simp
            have hBs := bB.size
            clear hWB
            refine (contains_any _ c (n1 : Int) _ HROW.out).mono ?_
            rw [HBM.out]
            rintro e w2 ⟨rfl, b2⟩
            have z2 := cell_kept z0 b2
            have hs2 := b2.size
            have HO2 := Lib.hid (ownsRow_below HOA.out b2)
            have HG2 : Hid (w.grownBy w2 (some g)) := Lib.hid ⟨b2.os.trans HGA.out.os, b2.tape.trans HGA.out.tape, b2.output.trans HGA.out.output, Nat.le_trans HGA.out.size hs2, fun b hb hn => (b2.block b (by have := HGA.out.size; omega)).trans (HGA.out.block b hb hn)⟩
            clear f0 f1 fha hka2 fh z0 HOA HGA HROW
            cases bm
            · obtain ⟨q, hq⟩ : ∃ q, cycP f t hd (c ++ [(n1 : Int)]) (n1 : Int) = q := ⟨_, rfl⟩
              have HCG : Hid (cycG f t hd c (L.getD k tgD) = q) := Lib.hid (by rw [HX.out]; unfold cycG; rw [if_neg HE.out, if_neg (fun z => by rcases z with z | z; (· have z2 : (n1 : Int) < hd := z; have := HLTH.out; omega); (· exact of_decide_eq_false HBM.out z)), ← hq])
              have HQQ := Lib.hid hq
              have IH2 : Hid (∀ (g4 cap4 : Nat) (W : World), NodR hi W A t → lo ≤ W.heap.size → W.ownsRow lo 3 1 (.slice (some ⟨g4, 0, none⟩) (N + 1) cap4) (N + 1) (c.map vI ++ [.int .i64 (n1 : Int)]) → Calls Try.prog 71 #[.pointer (some ⟨P1, 0, none⟩), .slice (some ⟨g4, 0, none⟩) (N + 1) cap4] W (CycD lo W (.slice (some ⟨g4, 0, none⟩) (N + 1) cap4) (c ++ [(n1 : Int)]) q)) := Lib.hid (fun g4 cap4 W h1 h2 h3 => by
                have hl : (c ++ [(n1 : Int)]).length = N + 1 := by simp [HNL.out]
                have := IH.out (c ++ [(n1 : Int)]) n1 g4 cap4 W h1 (by rw [hl]; omega) (by rw [List.nodup_append]; refine ⟨HN.out, by simp, ?_⟩; intro a ha b hb2 e; rw [List.mem_singleton.1 hb2] at e; exact of_decide_eq_false HBM.out (e ▸ ha)) (fun x hx => by rcases List.mem_append.1 hx with q | q; (· exact HR.out x q); (· rw [List.mem_singleton.1 q]; omega)) ((getD0_app (by rw [HNL.out]; omega) _).trans HHD.out) (by rw [hl]; omega) hn1 h2 (by rw [hl]; simpa [vI] using h3)
                rw [hl, hq] at this
                unfold ptrA at this
                rw [HP1.out] at this
                exact this)
              have HNEWS := Lib.hid (cellsL_new w2 [.int .i64 (n1 : Int)] 3 rfl)
              have HLW : Hid (lo ≤ w2.heap.size) := Lib.hid (by omega)
              have HNR2 : Hid (NodR hi w2 A t) := Lib.hid (HNW.out.below ((bB.mono (by have := HNW.out.size; omega)).trans (b2.mono (by have := HNW.out.size; omega))))
              have hnn := nil_neqT
              have hrn := row_neqT
              have hlw2 : lo ≤ w2.heap.size := HLW.out
              have hgl2 : g < wr.heap.size := by omega
              have hlog : lo ≤ g := by have := (HO2.out.lt g rfl).1; omega
              clear hq
              cases q with
              | none =>
                go_wp2_with fail
                go_region_held3 (fun w' => w'.cell? ⟨wr.heap.size, 0, none⟩ = some (.pointer (some ⟨P1, 0, none⟩))) (first | exact z2 | exact hz4 | exact hz5 | go_keep) (first | (rw [if_pos (by rfl)]; refine wp_append_keep _ _ _ _ rfl lo 3 i0 (.int .i64 0) 1 8 Try.underlying30 hi0 hz0 hz1 hz2 rfl (by decide) g N cap (c.map vI) (by rfl) (show (w2.alloc (.cells #[.int .i64 (n1 : Int)] 3 (0, 0))).drew.ownsRow _ _ _ _ _ _ from HO2.out.alloc _) ⟨w2.heap.size, 0, none⟩ 1 1 [.int .i64 (n1 : Int)] (by rfl) rfl HNEWS.out (by simp [Value.oneCell']) (by unfold maxLen; omega) (by omega) (by first | omega | (simp; done) | (simp; omega)) ?_; intro v4 w4 hown4 hor4; obtain ⟨g4, cap4, rfl⟩ := own_some hown4 (by omega); have HOR4 : Hid ((Value.slice (some ⟨g4, 0, none⟩) (N + 1) cap4 = .slice (some ⟨g, 0, none⟩) (N + 1) cap ∧ (w2.alloc (.cells #[.int .i64 (n1 : Int)] 3 (0, 0))).grownBy w4 (some g)) ∨ ((Value.slice (some ⟨g4, 0, none⟩) (N + 1) cap4).ownBlock = some (w2.alloc (.cells #[.int .i64 (n1 : Int)] 3 (0, 0))).heap.size ∧ (w2.alloc (.cells #[.int .i64 (n1 : Int)] 3 (0, 0))).grownBy w4 none)) := Lib.hid (by rcases hor4 with ⟨e, h1⟩ | ⟨e, h1⟩; (· exact .inl ⟨e, undrew h1⟩); (· exact .inr ⟨e, undrew h1⟩)); have HOWN4 := Lib.hid hown4; have HGW4 : Hid (∃ row, (w2.alloc (.cells #[.int .i64 (n1 : Int)] 3 (0, 0))).drew.grownBy w4 row ∧ (∀ b, row = some b → b = g)) := Lib.hid (by rcases hor4 with ⟨_, h1⟩ | ⟨_, h1⟩; (· exact ⟨_, h1, fun b e => by cases e; rfl⟩); (· exact ⟨none, h1, fun b e => by cases e⟩)); have hz4 : w4.cell? ⟨wr.heap.size, 0, none⟩ = some (.pointer (some ⟨P1, 0, none⟩)) := (cell_of_grown HGW4.out (by omega) (by simp; omega)).trans (below_al_cell z2 (.cells #[.int .i64 (n1 : Int)] 3 (0, 0))); have HL4 : Hid (lo ≤ w4.heap.size) := Lib.hid (by obtain ⟨_, h1, _⟩ := HGW4.out; have := h1.size; simp at this; omega); have HNR4 : Hid (NodR hi w4 A t) := Lib.hid (nod_grown HNR2.out HGW4.out (by omega)); have HNE4 : Hid (wr.heap.size ≠ g4) := Lib.hid (by rcases HOR4.out with ⟨e, _⟩ | ⟨e, _⟩; (· simp only [Value.slice.injEq, Option.some.injEq, Addr.mk.injEq, and_true] at e; omega); (· simp [Value.ownBlock] at e; omega)); clear hown4 hor4) | (go_at_call 71; refine (IH2.out _ _ _ HNR4.out HL4.out HOWN4.out).mono ?_; rintro e w5 ⟨v5, rfl, p1, p2, p3⟩; have hz5 : w5.cell? ⟨wr.heap.size, 0, none⟩ = some (.pointer (some ⟨P1, 0, none⟩)) := (cell_of_grown (g := g4) ⟨_, p3, fun x e => by simpa [Value.ownBlock] using e.symm⟩ HNE4.out (by obtain ⟨_, h1, _⟩ := HGW4.out; have := h1.size; simp at this; omega)).trans hz4; obtain ⟨rfl, p4⟩ := p2 rfl; have HK5 := Lib.hid (keep_old (HO2.out.alloc (.cells #[.int .i64 (n1 : Int)] 3 (0, 0))) HOR4.out p3 (by simpa [vI, HNL.out] using p4)); clear p1 p2 p3 p4))
                all_goals
                  go_wp2_with fail
                  go_roundw
                  case rel => exact ⟨k + 1, by omega, by go_num, Lib.hid (fun j hj => by by_cases e : j = k; (· rw [e]; exact HCG.out); (· exact HJ.out j (by omega))), Lib.hid HK5.out.1, Lib.hid (grown_join HG2.out (alloc_grown HK5.out.2))⟩
                  case measure => simp [intOf]; omega
              | some p =>
                have HQ2 : Hid (cycP (f + 1) t hd c (last : Int) = some p) := Lib.hid (by rw [HQ.out]; exact findL_at L k hlt HJ.out HCG.out)
                go_wp2_with fail
                go_region_held3 (fun w' => w'.cell? ⟨wr.heap.size, 0, none⟩ = some (.pointer (some ⟨P1, 0, none⟩))) (first | exact z2 | exact hz4 | exact hz5 | go_keep) (first | (rw [if_pos (by rfl)]; refine wp_append_keep _ _ _ _ rfl lo 3 i0 (.int .i64 0) 1 8 Try.underlying30 hi0 hz0 hz1 hz2 rfl (by decide) g N cap (c.map vI) (by rfl) (show (w2.alloc (.cells #[.int .i64 (n1 : Int)] 3 (0, 0))).drew.ownsRow _ _ _ _ _ _ from HO2.out.alloc _) ⟨w2.heap.size, 0, none⟩ 1 1 [.int .i64 (n1 : Int)] (by rfl) rfl HNEWS.out (by simp [Value.oneCell']) (by unfold maxLen; omega) (by omega) (by first | omega | (simp; done) | (simp; omega)) ?_; intro v4 w4 hown4 hor4; obtain ⟨g4, cap4, rfl⟩ := own_some hown4 (by omega); have HOR4 : Hid ((Value.slice (some ⟨g4, 0, none⟩) (N + 1) cap4 = .slice (some ⟨g, 0, none⟩) (N + 1) cap ∧ (w2.alloc (.cells #[.int .i64 (n1 : Int)] 3 (0, 0))).grownBy w4 (some g)) ∨ ((Value.slice (some ⟨g4, 0, none⟩) (N + 1) cap4).ownBlock = some (w2.alloc (.cells #[.int .i64 (n1 : Int)] 3 (0, 0))).heap.size ∧ (w2.alloc (.cells #[.int .i64 (n1 : Int)] 3 (0, 0))).grownBy w4 none)) := Lib.hid (by rcases hor4 with ⟨e, h1⟩ | ⟨e, h1⟩; (· exact .inl ⟨e, undrew h1⟩); (· exact .inr ⟨e, undrew h1⟩)); have HOWN4 := Lib.hid hown4; have HGW4 : Hid (∃ row, (w2.alloc (.cells #[.int .i64 (n1 : Int)] 3 (0, 0))).drew.grownBy w4 row ∧ (∀ b, row = some b → b = g)) := Lib.hid (by rcases hor4 with ⟨_, h1⟩ | ⟨_, h1⟩; (· exact ⟨_, h1, fun b e => by cases e; rfl⟩); (· exact ⟨none, h1, fun b e => by cases e⟩)); have hz4 : w4.cell? ⟨wr.heap.size, 0, none⟩ = some (.pointer (some ⟨P1, 0, none⟩)) := (cell_of_grown HGW4.out (by omega) (by simp; omega)).trans (below_al_cell z2 (.cells #[.int .i64 (n1 : Int)] 3 (0, 0))); have HL4 : Hid (lo ≤ w4.heap.size) := Lib.hid (by obtain ⟨_, h1, _⟩ := HGW4.out; have := h1.size; simp at this; omega); have HNR4 : Hid (NodR hi w4 A t) := Lib.hid (nod_grown HNR2.out HGW4.out (by omega)); have HNE4 : Hid (wr.heap.size ≠ g4) := Lib.hid (by rcases HOR4.out with ⟨e, _⟩ | ⟨e, _⟩; (· simp only [Value.slice.injEq, Option.some.injEq, Addr.mk.injEq, and_true] at e; omega); (· simp [Value.ownBlock] at e; omega)); clear hown4 hor4) | (go_at_call 71; refine (IH2.out _ _ _ HNR4.out HL4.out HOWN4.out).mono ?_; rintro e w5 ⟨v5, rfl, p1, p2, p3⟩; have hz5 : w5.cell? ⟨wr.heap.size, 0, none⟩ = some (.pointer (some ⟨P1, 0, none⟩)) := (cell_of_grown (g := g4) ⟨_, p3, fun x e => by simpa [Value.ownBlock] using e.symm⟩ HNE4.out (by obtain ⟨_, h1, _⟩ := HGW4.out; have := h1.size; simp at this; omega)).trans hz4; obtain ⟨⟨g5, n5, cap5, rfl⟩, p4⟩ := p1 _ rfl; have HK5 := Lib.hid (keep_grown (w := w2.alloc (.cells #[.int .i64 (n1 : Int)] 3 (0, 0))) HOR4.out p3); have HP5 := Lib.hid p4; clear p1 p2 p3 p4))
                all_goals
                  go_wp2_with fail
                  go_ret
                  exact ⟨_, rfl, (fun p' hp => by rw [HQ2.out] at hp; cases hp; exact ⟨⟨_, _, _, rfl⟩, HP5.out⟩), (fun hp => by rw [HQ2.out] at hp; cases hp), grown_join HG2.out (alloc_grown HK5.out)⟩
            · have HNX : Hid (cycG f t hd c (L.getD k tgD) = none) := Lib.hid (by rw [HX.out]; unfold cycG; rw [if_neg HE.out, if_pos (.inr (of_decide_eq_true HBM.out))])
              go_wp2_with fail
              go_roundw
              case rel => exact ⟨k + 1, by omega, by go_num, Lib.hid (fun j hj => by by_cases e : j = k; (· rw [e]; exact HNX.out); (· exact HJ.out j (by omega))), HO2, HG2⟩
              case measure => simp [intOf]; omega
      · have HQ2 : Hid (cycP (f + 1) t hd c (last : Int) = none) := Lib.hid (by rw [HQ.out]; exact findL_none (d := tgD) L (fun j hj => HJ.out j (by omega)))
        go_wp2_with fail
        go_ret
        exact ⟨_, rfl, (fun p hp => by rw [HQ2.out] at hp; cases hp), fun _ => ⟨rfl, by rw [HNL.out]; exact HO.out⟩, HG.out⟩
end Go.Proofs.Ytedckfbjhhabgaa
