/- The model's ParseRecord. -/
import Derived.Test.YtapbajficopnlaaDoorPRP
import Derived.Test.YtapbajficopnlaaDoorSplitIn
import Derived.Test.YtapbajficopnlaaDoorReadS
import Derived.Maps.AppendAt
namespace Go.Proofs.YtapbajficopnlaaDoor
set_option linter.unusedVariables false
open Go.RowKit Go.Sort

theorem read_anyr (p : ByteArray) (w : World) (hs : p.size ≤ 1099511627776) : Calls Tryd.prog 30 #[.string p] w fun e w' => e = .returned (.tuple #[.int .i64 (numV p.data.toList), .bool (numB p.data.toList)]) ∧ Below w.heap.size w w' := by
  have h := specRead_any p w hs
  rwa [numAns_is] at h
theorem mHead_some {p p0 p1 n0 n1 : ByteArray} (h1 : spAll p 64 = [p0, p1]) (h2 : spAll p0 115 = [n0, n1]) : mHead p = some ⟨numV n0.data.toList, numV n1.data.toList, numV p1.data.toList, []⟩ := by
  unfold mHead two
  rw [h1]
  simp only [Option.bind_some]
  rw [h2]
  rfl
theorem mHead_none {p p0 n0 : ByteArray} {pr nr : List ByteArray} (h1 : spAll p 64 = p0 :: pr) (h2 : spAll p0 115 = n0 :: nr) (h : ¬ ((p0 :: pr).length = 2 ∧ (n0 :: nr).length = 2)) : mHead p = none := by
  unfold mHead two
  rw [h1]
  match pr, h with
  | [], _ => rfl
  | [p1], h =>
    simp only [Option.bind_some]
    rw [h2]
    match nr, h with
    | [], _ => rfl
    | [n1], h => exact absurd ⟨rfl, rfl⟩ h
    | _ :: _ :: _, _ => rfl
  | _ :: _ :: _, _ => rfl
theorem mEvt_some {p a b : ByteArray} (h : spAll p 64 = [a, b]) : mEvt p = some ⟨numV a.data.toList, numV b.data.toList⟩ := by
  unfold mEvt two
  rw [h]
  rfl
theorem mEvt_none {p a : ByteArray} {r : List ByteArray} (h : spAll p 64 = a :: r) (hl : (a :: r).length ≠ 2) : mEvt p = none := by
  unfold mEvt two
  rw [h]
  match r, hl with
  | [], _ => rfl
  | [b], hl => exact absurd rfl hl
  | _ :: _ :: _, _ => rfl
theorem mapM_snoc {l : List ByteArray} {p : ByteArray} {es : List Ev} {e : Ev} (h : l.mapM mEvt = some es) (he : mEvt p = some e) : (l ++ [p]).mapM mEvt = some (es ++ [e]) := by
  rw [List.mapM_append, h]
  simp [he]
theorem mapM_bad {l r : List ByteArray} {p : ByteArray} {es : List Ev} (h : l.mapM mEvt = some es) (he : mEvt p = none) : (l ++ p :: r).mapM mEvt = none := by
  rw [List.mapM_append, h]
  simp [he]
/-- Where the head or a word is none of it, there is none. -/
theorem prRes_none1 {s : ByteArray} (h : mHead (prHead s) = none) : prRes s = (recD, false) := by
  rw [prRes_model, h]
  split <;> rfl
theorem prRes_none2 {s : ByteArray} (h : (prTail s).mapM mEvt = none) : prRes s = (recD, false) := by
  rw [prRes_model, h]
  split
  · split
    · rename_i e; cases e
    · rfl
  · rfl
theorem prRes_some {s : ByteArray} {h : Rec} {es : List Ev} (hs : s.size ≤ 80) (h1 : mHead (prHead s) = some h) (h2 : (prTail s).mapM mEvt = some es) : prRes s = if isRec { h with evs := es } = true ∧ textAt { h with evs := es } es.length = s then ({ h with evs := es }, true) else (recD, false) := by
  rw [prRes_model, if_pos hs, h1, h2]
theorem nos_r {a b : ByteArray} (h : ¬ a = b) : (a.toList == b.toList) = false := beq_bytes_nos h

/-- A record's box: its four cells. -/
def OB (w : World) (G : Nat) (a b d : Int) (s : Value) : Prop := (w.cell? ⟨G, 0, none⟩ = some (.int .i64 a) ∧ w.cell? ⟨G, 1, none⟩ = some (.int .i64 b) ∧ w.cell? ⟨G, 2, none⟩ = some (.int .i64 d) ∧ w.cell? ⟨G, 3, none⟩ = some s) ∧ ∀ j, w.frozen? ⟨G, j, none⟩ = false
section
variable {w W : World} {G : Nat} {a b d : Int} {s : Value}
theorem OB.lt (h : OB w G a b d s) : G < w.heap.size := World.block_lt_of_cell? _ _ h.1.1
theorem OB.of_block (h : w.heap[G]? = some (.cells #[.int .i64 a, .int .i64 b, .int .i64 d, s] 24 (0, 0))) : OB w G a b d s := ⟨⟨box_cell h 0 rfl, box_cell h 1 rfl, box_cell h 2 rfl, box_cell h 3 rfl⟩, fun j => blk_frozen h j⟩
theorem frozen_of_block {w W : World} {g j : Nat} (h : W.heap[g]? = w.heap[g]?) : W.frozen? ⟨g, j, none⟩ = w.frozen? ⟨g, j, none⟩ := by unfold World.frozen?; simp only [h]
theorem OB.block (h : OB w G a b d s) (hb : W.heap[G]? = w.heap[G]?) : OB W G a b d s :=
  ⟨⟨(World.cell?_of_block hb).trans h.1.1, (World.cell?_of_block hb).trans h.1.2.1, (World.cell?_of_block hb).trans h.1.2.2.1, (World.cell?_of_block hb).trans h.1.2.2.2⟩, fun j => (frozen_of_block hb).trans (h.2 j)⟩
theorem OB.kept (h : OB w G a b d s) (hb : Below w.heap.size w W) : OB W G a b d s := h.block (hb.block G h.lt)
theorem OB.far (h : OB w G a b d s) {g j : Nat} {u : Value} (hne : G ≠ g) : OB (w.setCell ⟨g, j, none⟩ u) G a b d s := h.block (Below.heap_setCell w ⟨g, j, none⟩ u G hne)
theorem OB.set0 (h : OB w G a b d s) (x : Int) : OB (w.setCell ⟨G, 0, none⟩ (.int .i64 x)) G x b d s :=
  ⟨⟨cs_same' _ h.1.1, (cs_other' _ (by simp)).trans h.1.2.1, (cs_other' _ (by simp)).trans h.1.2.2.1, (cs_other' _ (by simp)).trans h.1.2.2.2⟩, fun j => by rw [World.frozen?_setCell]; exact h.2 j⟩
theorem OB.set1 (h : OB w G a b d s) (x : Int) : OB (w.setCell ⟨G, 1, none⟩ (.int .i64 x)) G a x d s :=
  ⟨⟨(cs_other' _ (by simp)).trans h.1.1, cs_same' _ h.1.2.1, (cs_other' _ (by simp)).trans h.1.2.2.1, (cs_other' _ (by simp)).trans h.1.2.2.2⟩, fun j => by rw [World.frozen?_setCell]; exact h.2 j⟩
theorem OB.set2 (h : OB w G a b d s) (x : Int) : OB (w.setCell ⟨G, 2, none⟩ (.int .i64 x)) G a b x s :=
  ⟨⟨(cs_other' _ (by simp)).trans h.1.1, (cs_other' _ (by simp)).trans h.1.2.1, cs_same' _ h.1.2.2.1, (cs_other' _ (by simp)).trans h.1.2.2.2⟩, fun j => by rw [World.frozen?_setCell]; exact h.2 j⟩
theorem OB.set3 (h : OB w G a b d s) (x : Value) : OB (w.setCell ⟨G, 3, none⟩ x) G a b d x :=
  ⟨⟨(cs_other' _ (by simp)).trans h.1.1, (cs_other' _ (by simp)).trans h.1.2.1, (cs_other' _ (by simp)).trans h.1.2.2.1, cs_same' _ h.1.2.2.2⟩, fun j => by rw [World.frozen?_setCell]; exact h.2 j⟩
end
/-- An event's box. -/
def EB (w : World) (G : Nat) (a b : Int) : Prop := (w.cell? ⟨G, 0, none⟩ = some (.int .i64 a) ∧ w.cell? ⟨G, 1, none⟩ = some (.int .i64 b)) ∧ ∀ j, w.frozen? ⟨G, j, none⟩ = false
section
variable {w W : World} {G : Nat} {a b : Int}
theorem EB.of_block (h : w.heap[G]? = some (.cells #[.int .i64 a, .int .i64 b] 51 (0, 0))) : EB w G a b := ⟨⟨box_cell h 0 rfl, box_cell h 1 rfl⟩, fun j => blk_frozen h j⟩
theorem EB.kept (h : EB w G a b) (hb : Below w.heap.size w W) : EB W G a b := by
  have hl : G < w.heap.size := World.block_lt_of_cell? _ _ h.1.1
  exact ⟨⟨cell_kept h.1.1 hb, cell_kept h.1.2 hb⟩, fun j => (frozen_of_block (hb.block G hl)).trans (h.2 j)⟩
theorem EB.set0 (h : EB w G a b) (x : Int) : EB (w.setCell ⟨G, 0, none⟩ (.int .i64 x)) G x b :=
  ⟨⟨cs_same' _ h.1.1, (cs_other' _ (by simp)).trans h.1.2⟩, fun j => by rw [World.frozen?_setCell]; exact h.2 j⟩
theorem EB.set1 (h : EB w G a b) (x : Int) : EB (w.setCell ⟨G, 1, none⟩ (.int .i64 x)) G a x :=
  ⟨⟨(cs_other' _ (by simp)).trans h.1.1, cs_same' _ h.1.2⟩, fun j => by rw [World.frozen?_setCell]; exact h.2 j⟩
end
theorem box_kept' {a b : World} {g n : Nat} {o : Obj} (h : a.heap[g]? = some o) (hb : Below n a b) (hn : g < n) : b.heap[g]? = some o := (hb.block g hn).trans h
theorem heap_oldr (w : World) (o : Obj) (g : Nat) (h : g < w.heap.size) : (w.alloc o).heap[g]? = w.heap[g]? := (below_al (Below.refl w.heap.size w) o).block g h
theorem own_form2 {lo e size n : Nat} {w : World} {v : Value} {xs : List Value} (h : w.ownsRow lo e size v n xs) (hn : 0 < n) : ∃ g cap, v = .slice (some ⟨g, 0, none⟩) n cap ∧ lo ≤ g := by
  rcases h.2 with ⟨_, h0⟩ | ⟨g, cap, cur, rfl, hg, _⟩
  · omega
  · exact ⟨g, cap, rfl, hg⟩
theorem setCell_grown2 (w : World) (g j : Nat) (u : Value) : w.grownBy (w.setCell ⟨g, j, none⟩ u) (some g) :=
  ⟨rfl, rfl, rfl, by simp, fun k _ hk => Below.heap_setCell w ⟨g, j, none⟩ u k (fun e => hk (by rw [e]))⟩
theorem row_far {w : World} {base e size n g j : Nat} {v u : Value} {xs : List Value} (h : w.ownsRow base e size v n xs) (hn : v.ownBlock ≠ some g) : (w.setCell ⟨g, j, none⟩ u).ownsRow base e size v n xs := h.kept (setCell_grown2 w g j u) (.inr hn)

set_option maxRecDepth 20000 in
set_option maxHeartbeats 8000000 in
theorem specParseRecord_any (s : ByteArray) (w : World) (hs : s.size ≤ 1099511627) (r : Rec) (b : Bool) (hres : prRes s = (r, b)) :
    Calls Tryd.prog 9 #[.string s] w fun e w' => ∃ v', e = .returned (.tuple #[v', .bool b]) ∧ RecO w.heap.size w'.heap.size w' v' r ∧ Below w.heap.size w w' := by
  have b0 := below_al (Below.refl w.heap.size w) (.cells #[.int .i64 0, .int .i64 0, .int .i64 0, .slice none 0 0] 24 (0, 0))
  by_cases hbig : 80 < s.size
  · have hh := (prRes_long hbig).symm.trans hres
    obtain ⟨rfl, rfl⟩ := Prod.mk.inj hh
    clear hh hres
    have hb' : (80 : Int) < (s.size : Int) := by omega
    go_enter Tryd.func9, Tryd.ntmps9
    go_wp2_with fail
    refine bodyPost_ret (v := .tuple #[.agg #[.int .i64 0, .int .i64 0, .int .i64 0, .slice none 0 0], .bool false]) (by simp [results, Tryd.results9, go_sem]) rfl ⟨_, rfl, rec_zero _ _ _, ?_⟩
    first | exact b0 | exact (((b0.setCell (by simp) _).setCell (by simp) _).setCell (by simp) _).setCell (by simp) _
  · have hsm : ¬ (80 : Int) < (s.size : Int) := by omega
    have hsp := fun W => specSplitIn_any s 32 W (by omega)
    have hle := fun p (hp : p ∈ spAll s 32) => spAll_ler hp
    have hln := spAll_len s 32
    rw [pr_pieces] at hsp hle hln
    have hr1 := fun h => (prRes_none1 (s := s) h).symm.trans hres
    have hr2 := fun h => (prRes_none2 (s := s) h).symm.trans hres
    have hr3 := fun (h : Rec) (es : List Ev) h1 h2 => (prRes_some (s := s) (h := h) (es := es) (by omega) h1 h2).symm.trans hres
    obtain ⟨hd, hhd⟩ : ∃ p, prHead s = p := ⟨_, rfl⟩
    obtain ⟨tl, htl⟩ : ∃ p, prTail s = p := ⟨_, rfl⟩
    rw [hhd, htl] at hsp hle hln
    rw [hhd] at hr1
    rw [htl] at hr2
    rw [hhd, htl] at hr3
    have hhs := hle hd (by simp)
    obtain ⟨p0, pr, hps⟩ : ∃ p0 pr, spAll hd 64 = p0 :: pr := by cases h : spAll hd 64 with | nil => exact absurd h (spAll_ne hd 64) | cons a b => exact ⟨a, b, rfl⟩
    have hsp2 := fun W => specSplitIn_any hd 64 W (by omega)
    have hle2 := fun p (hp : p ∈ spAll hd 64) => spAll_ler hp
    rw [hps] at hsp2 hle2
    have hp0 := hle2 p0 (by simp)
    obtain ⟨n0, nr, hns⟩ : ∃ n0 nr, spAll p0 115 = n0 :: nr := by cases h : spAll p0 115 with | nil => exact absurd h (spAll_ne p0 115) | cons a b => exact ⟨a, b, rfl⟩
    have hsp3 := fun W => specSplitIn_any p0 115 W (by omega)
    have hle3 := fun p (hp : p ∈ spAll p0 115) => spAll_ler hp
    rw [hns] at hsp3 hle3
    obtain ⟨NT, hNT⟩ : ∃ n, tl.length = n := ⟨_, rfl⟩
    obtain ⟨NP, hNP⟩ : ∃ n, (p0 :: pr).length = n := ⟨_, rfl⟩
    obtain ⟨NN, hNN⟩ : ∃ n, (n0 :: nr).length = n := ⟨_, rfl⟩
    have gp : 1 ≤ NP := by rw [← hNP]; simp
    have gn : 1 ≤ NN := by rw [← hNN]; simp
    have gp0 : (0 : Int) < (NP : Int) := by omega
    have gn0 : (0 : Int) < (NN : Int) := by omega
    have gt0 : (0 : Int) < ((NT + 1 : Nat) : Int) := by omega
    have HSP := Lib.hid hsp
    have HSP2 := Lib.hid hsp2
    have HSP3 := Lib.hid hsp3
    have HLE := Lib.hid hle
    have HLE2 := Lib.hid hle2
    have HLE3 := Lib.hid hle3
    have HR1 := Lib.hid hr1
    have HR2 := Lib.hid hr2
    have HR3 := Lib.hid hr3
    have HPS := Lib.hid hps
    have HNS := Lib.hid hns
    have HNT := Lib.hid hNT
    have HNP := Lib.hid hNP
    have HNN := Lib.hid hNN
    simp only [List.length_cons] at hln
    rw [hNT] at hln
    clear hsp hsp2 hsp3 hle hle2 hle3 hr1 hr2 hr3 hhd htl hps hns hNT hNP hNN hres
    by_cases hA : NP = 2 ∧ NN = 2
    · obtain ⟨i0, hi, hz0, hz1, hz2⟩ := info_parts Tryd.info_event
      obtain ⟨rfl, rfl⟩ := hA
      obtain ⟨p1, rfl⟩ : ∃ p1, pr = [p1] := by
        have := HNP.out
        match pr, this with
        | [x], _ => exact ⟨x, rfl⟩
      obtain ⟨n1, rfl⟩ : ∃ n1, nr = [n1] := by
        have := HNN.out
        match nr, this with
        | [x], _ => exact ⟨x, rfl⟩
      have hp1 := HLE2.out p1 (by simp)
      have hn0 := HLE3.out n0 (by simp)
      have hn1 := HLE3.out n1 (by simp)
      clear gp gn gp0 gn0
      have R0 := Lib.hid (fun W => read_anyr n0 W (by omega))
      have R1 := Lib.hid (fun W => read_anyr n1 W (by omega))
      have R2 := Lib.hid (fun W => read_anyr p1 W (by omega))
      have HMH := Lib.hid (mHead_some HPS.out HNS.out)
      have GN := Lib.hid (⟨numV_in n0.data.toList, numV_in n1.data.toList, numV_in p1.data.toList⟩ : inI (numV n0.data.toList) ∧ inI (numV n1.data.toList) ∧ inI (numV p1.data.toList))
      go_enter Tryd.func9, Tryd.ntmps9
      go_wp2_with fail
      refine (HSP.out _).mono ?_
      rintro e w1 ⟨v1, rfl, hown, b1⟩
      have Z := box_kept (heap_alloc_new w _) b1
      replace b1 := below_chain b0 b1
      have s1 := b1.size
      rcases hown.2 with ⟨_, hx⟩ | ⟨g1, cpg1, curg1, rfl, hgg1, hgsg1, hncg1, hcmg1, hxx1, hxx2⟩
      · simp at hx
      have qq := hown.cells (g := g1) rfl
      have HQ := Lib.hid (fun i (h : i < (hd :: tl).length) => qq i (.string (hd :: tl)[i]) (by rw [List.getElem?_map, List.getElem?_eq_getElem h]; rfl))
      have c0 := qq 0 (.string hd) rfl
      simp only [Addr.add_lit, Nat.add_zero] at c0
      rw [(show (hd :: tl).length = NT + 1 by rw [List.length_cons, HNT.out])] at hncg1 ⊢
      unfold maxLen at hcmg1
      clear hown qq hxx1 hxx2 hgsg1
      go_wp2_with fail
      refine (HSP2.out _).mono ?_
      rintro e w2 ⟨v2, rfl, hown, b2⟩
      replace Z := box_kept Z b2
      have bw := below_chain b1 b2
      have s2 := b2.size
      rcases hown.2 with ⟨_, hx⟩ | ⟨g2, cpg2, curg2, rfl, hgg2, hgsg2, hncg2, hcmg2, hxx1, hxx2⟩
      · simp at hx
      have qq := hown.cells (g := g2) rfl
      have d0 := qq 0 (.string p0) rfl
      simp only [Addr.add_lit, Nat.add_zero] at d0
      have d1 := qq 1 (.string p1) rfl
      simp only [Addr.add_lit, Nat.zero_add] at d1
      rw [HNP.out] at hncg2 ⊢
      unfold maxLen at hcmg2
      clear hown qq hxx1 hxx2 hgsg2
      go_wp2_with fail
      refine (HSP3.out _).mono ?_
      rintro e w3 ⟨v3, rfl, hown, b3⟩
      replace Z := box_kept Z b3
      replace bw := below_chain bw b3
      have s3 := b3.size
      replace d1 := cell_kept d1 b3
      rcases hown.2 with ⟨_, hx⟩ | ⟨g3, cpg3, curg3, rfl, hgg3, hgsg3, hncg3, hcmg3, hxx1, hxx2⟩
      · simp at hx
      have qq := hown.cells (g := g3) rfl
      have f0 := qq 0 (.string n0) rfl
      simp only [Addr.add_lit, Nat.add_zero] at f0
      have f1 := qq 1 (.string n1) rfl
      simp only [Addr.add_lit, Nat.zero_add] at f1
      rw [HNN.out] at hncg3 ⊢
      unfold maxLen at hcmg3
      clear hown qq hxx1 hxx2 hgsg3
      have sZ := (Array.getElem?_eq_some_iff.1 Z).1
      have HZ := Lib.hid Z
      have HB12 := Lib.hid (b2.trans (b3.mono s2))
      have HCELL : Hid (∀ i (h : i < (hd :: tl).length), w3.cell? ⟨g1, i, none⟩ = some (.string (hd :: tl)[i])) := Lib.hid (fun i h => by have := HQ.out i h; rw [Addr.add_lit, Nat.zero_add] at this; exact cell_kept this HB12.out)
      have HBW := Lib.hid bw
      clear Z c0 HQ HB12 bw b1 b2 b3
      have RO := Lib.hid ((World.ownsRow_made (base := w3.heap.size) (e := 51) (size := 2) w3 #[] 0 (Nat.le_refl _) (Nat.zero_le _) (by simp)).alloc (.cells #[.int .i64 0, .int .i64 0, .int .i64 0, .slice (some ⟨w3.heap.size, 0, none⟩) 0 0] 24 (0, 0)))
      have B := Lib.hid (OB.of_block (heap_alloc_new' (w3.alloc (.cells #[] 51 (0, 0))) (.cells #[.int .i64 0, .int .i64 0, .int .i64 0, .slice (some ⟨w3.heap.size, 0, none⟩) 0 0] 24 (0, 0)) (k := w3.heap.size + 1) (by simp)))
      have BB := Lib.hid (below_al (below_al (Below.refl w3.heap.size w3) (.cells #[] 51 (0, 0))) (.cells #[.int .i64 0, .int .i64 0, .int .i64 0, .slice (some ⟨w3.heap.size, 0, none⟩) 0 0] 24 (0, 0)))
      have f0s := cell_kept f0 BB.out
      go_wp2_with fail
      generalize (w3.alloc (.cells #[] 51 (0, 0))).alloc (.cells #[.int .i64 0, .int .i64 0, .int .i64 0, .slice (some ⟨w3.heap.size, 0, none⟩) 0 0] 24 (0, 0)) = W at *
      clear f0s
      refine (R0.out _).mono ?_
      rintro e w4 ⟨rfl, bn⟩
      replace RO := Lib.hid (ownsRow_below RO.out bn)
      replace B := Lib.hid (B.out.kept bn)
      replace BB := Lib.hid (BB.out.trans (bn.mono BB.out.size))
      have k := B.out.1.1
      have kf := B.out.2 0
      have szw := BB.out.size
      have gne : w3.heap.size + 1 < w4.heap.size := B.out.lt
      have RO2 := Lib.hid (row_far (g := w3.heap.size + 1) (j := 0) (u := .int .i64 (numV n0.data.toList)) RO.out (by simp [Value.ownBlock]))
      have B2 := Lib.hid (B.out.set0 (numV n0.data.toList))
      have BB2 := Lib.hid (BB.out.setCell (p := ⟨w3.heap.size + 1, 0, none⟩) (by simp) (.int .i64 (numV n0.data.toList)))
      have nx := cell_kept f1 BB2.out
      clear bn RO B BB
      go_wp2_with fail
      generalize w4.setCell ⟨w3.heap.size + 1, 0, none⟩ (.int .i64 (numV n0.data.toList)) = W1 at *
      clear k kf gne szw nx
      have RO := RO2
      have B := B2
      have BB := BB2
      clear RO2 B2 BB2
      refine (R1.out _).mono ?_
      rintro e w5 ⟨rfl, bn⟩
      replace RO := Lib.hid (ownsRow_below RO.out bn)
      replace B := Lib.hid (B.out.kept bn)
      replace BB := Lib.hid (BB.out.trans (bn.mono BB.out.size))
      have k := B.out.1.2.1
      have kf := B.out.2 1
      have szw := BB.out.size
      have gne : w3.heap.size + 1 < w5.heap.size := B.out.lt
      have RO2 := Lib.hid (row_far (g := w3.heap.size + 1) (j := 1) (u := .int .i64 (numV n1.data.toList)) RO.out (by simp [Value.ownBlock]))
      have B2 := Lib.hid (B.out.set1 (numV n1.data.toList))
      have BB2 := Lib.hid (BB.out.setCell (p := ⟨w3.heap.size + 1, 1, none⟩) (by simp) (.int .i64 (numV n1.data.toList)))
      have nx := cell_kept d1 BB2.out
      clear bn RO B BB
      go_wp2_with fail
      generalize w5.setCell ⟨w3.heap.size + 1, 1, none⟩ (.int .i64 (numV n1.data.toList)) = W2 at *
      clear k kf gne szw nx
      have RO := RO2
      have B := B2
      have BB := BB2
      clear RO2 B2 BB2
      refine (R2.out _).mono ?_
      rintro e w6 ⟨rfl, bn⟩
      replace RO := Lib.hid (ownsRow_below RO.out bn)
      replace B := Lib.hid (B.out.kept bn)
      replace BB := Lib.hid (BB.out.trans (bn.mono BB.out.size))
      have k := B.out.1.2.2.1
      have kf := B.out.2 2
      have szw := BB.out.size
      have gne : w3.heap.size + 1 < w6.heap.size := B.out.lt
      have RO2 := Lib.hid (row_far (g := w3.heap.size + 1) (j := 2) (u := .int .i64 (numV p1.data.toList)) RO.out (by simp [Value.ownBlock]))
      have B2 := Lib.hid (B.out.set2 (numV p1.data.toList))
      have BB2 := Lib.hid (BB.out.setCell (p := ⟨w3.heap.size + 1, 2, none⟩) (by simp) (.int .i64 (numV p1.data.toList)))
      clear bn RO B BB
      go_wp2_with fail
      generalize w6.setCell ⟨w3.heap.size + 1, 2, none⟩ (.int .i64 (numV p1.data.toList)) = W3 at *
      clear k kf gne szw
      have RO := RO2
      have B := B2
      have BB := BB2
      clear RO2 B2 BB2
      clear f0 f1 d1 R0 R1 R2
      go_loopw [8] (fun i wr => ∃ (k : Nat) (es : List Ev) (va : Option Addr) (vc : Nat), k ≤ NT ∧ i = .int .i64 ((k + 1 : Nat) : Int) ∧ Hid (((tl.take k).mapM mEvt = some es ∧ es.length = k) ∧ ∀ e ∈ es, e.ok) ∧ Hid (OB wr (w3.heap.size + 1) (numV n0.data.toList) (numV n1.data.toList) (numV p1.data.toList) (.slice va k vc)) ∧ Hid (wr.ownsRow w3.heap.size 51 2 (.slice va k vc) k (es.map evC).flatten) ∧ Hid (Value.ownBlock (.slice va k vc) ≠ some (w3.heap.size + 1)) ∧ Below w3.heap.size w3 wr) (fun i _ => NT + 1 - (intOf i).toNat)
      case atStart => exact ⟨0, [], some ⟨w3.heap.size, 0, none⟩, 0, Nat.zero_le _, rfl, Lib.hid (by simp), B, RO, Lib.hid (by simp [Value.ownBlock]), BB.out⟩
      case round =>
        clear RO B BB
        obtain ⟨k, es, va, vc, hk, rfl, HM, B, RO, HN, bb⟩ := hrel
        have szr := bb.size
        have gB : (w3.heap.size + 1) < wr.heap.size := B.out.lt
        have hve : ∀ g, (Value.slice va k vc).ownBlock = some g → g < wr.heap.size := fun g hg => (RO.out.lt g hg).2
        have HVE := Lib.hid hve
        clear hve
        by_cases hlt : k < NT
        · have hlt' : k < tl.length := by rw [HNT.out]; exact hlt
          have q0 := cell_kept (HCELL.out (k + 1) (by rw [List.length_cons]; omega)) bb
          simp only [List.getElem_cons_succ] at q0
          obtain ⟨p, hp⟩ : ∃ p, tl[k] = p := ⟨_, rfl⟩
          rw [hp] at q0
          have hpz := HLE.out p (by rw [← hp]; exact List.mem_cons_of_mem _ (List.getElem_mem hlt'))
          have htk : tl.take (k + 1) = tl.take k ++ [p] := by rw [take_succ_snoc tl k hlt', hp]
          have hdr : tl = tl.take k ++ p :: tl.drop (k + 1) := by rw [← hp, ← List.drop_eq_getElem_cons hlt', List.take_append_drop]
          obtain ⟨a, rr, hpa⟩ : ∃ a r, spAll p 64 = a :: r := by cases h : spAll p 64 with | nil => exact absurd h (spAll_ne p 64) | cons a b => exact ⟨a, b, rfl⟩
          have hspp := fun W => specSplitIn_any p 64 W (by omega)
          have hlep := fun q (hq : q ∈ spAll p 64) => spAll_ler hq
          rw [hpa] at hspp hlep
          obtain ⟨NQ, hNQ⟩ : ∃ n, (a :: rr).length = n := ⟨_, rfl⟩
          have k0 : (0 : Int) ≤ ((k + 1 : Nat) : Int) := by omega
          have k1 : ((k + 1 : Nat) : Int) < ((NT + 1 : Nat) : Int) := by omega
          have HSPP := Lib.hid hspp
          have HLEP := Lib.hid hlep
          have HNQ := Lib.hid hNQ
          have HPA := Lib.hid hpa
          have HTK := Lib.hid htk
          have HDR := Lib.hid hdr
          clear hspp hlep hNQ hpa htk hdr hp hlt'
          by_cases hq2 : NQ = 2
          · subst hq2
            obtain ⟨c, rfl⟩ : ∃ c, rr = [c] := by
              have := HNQ.out
              match rr, this with
              | [x], _ => exact ⟨x, rfl⟩
            have hza := HLEP.out a (by simp)
            have hzc := HLEP.out c (by simp)
            have RA := Lib.hid (fun W => read_anyr a W (by omega))
            have RC := Lib.hid (fun W => read_anyr c W (by omega))
            have HMM := Lib.hid (by have := mapM_snoc HM.out.1.1 (mEvt_some HPA.out); rwa [← HTK.out] at this : (tl.take (k + 1)).mapM mEvt = some (es ++ [⟨(numV a.data.toList), (numV c.data.toList)⟩]))
            go_wp2_with fail
            refine (HSPP.out _).mono ?_
            rintro e w4 ⟨v4, rfl, hown, b4⟩
            have s4 := b4.size
            rcases hown.2 with ⟨_, hx⟩ | ⟨g4, cpg4, curg4, rfl, hgg4, hgsg4, hncg4, hcmg4, hxx1, hxx2⟩
            · simp at hx
            have qq := hown.cells (g := g4) rfl
            have a0 := qq 0 (.string a) rfl
            simp only [Addr.add_lit, Nat.add_zero] at a0
            have a1 := qq 1 (.string c) rfl
            simp only [Addr.add_lit, Nat.zero_add] at a1
            rw [HNQ.out] at hncg4 ⊢
            unfold maxLen at hcmg4
            clear hown qq hxx1 hxx2 hgsg4
            have gl4 : g4 < w4.heap.size := World.block_lt_of_cell? _ _ a1
            have ro := (ownsRow_below RO.out b4).alloc (.cells #[.int .i64 0, .int .i64 0] 51 (0, 0))
            have ob := (B.out.kept b4).kept (below_al (Below.refl _ _) (.cells #[.int .i64 0, .int .i64 0] 51 (0, 0)))
            have bl := (bb.trans (b4.mono bb.size)).alloc (by omega) (.cells #[.int .i64 0, .int .i64 0] 51 (0, 0))
            have eb := EB.of_block (heap_alloc_new w4 (.cells #[.int .i64 0, .int .i64 0] 51 (0, 0)))
            have a0s := below_al_cell a0 (.cells #[.int .i64 0, .int .i64 0] 51 (0, 0))
            have a1s := below_al_cell a1 (.cells #[.int .i64 0, .int .i64 0] 51 (0, 0))
            have RO0 := Lib.hid ro
            have B0 := Lib.hid ob
            have BB0 := Lib.hid bl
            have E0 := Lib.hid eb
            clear ro ob bl eb b4
            go_wp2_with fail
            generalize w4.alloc (.cells #[.int .i64 0, .int .i64 0] 51 (0, 0)) = V0 at *
            clear a0 a1 a0s q0
            refine (RA.out _).mono ?_
            rintro e w5 ⟨rfl, b5⟩
            have a1t := cell_kept a1s b5
            have e5 := E0.out.kept b5
            have ke := e5.1.1
            have kf := e5.2 0
            have nx := (cs_other' (.int .i64 (numV a.data.toList)) (by simp : (⟨w4.heap.size, 0, none⟩ : Addr) ≠ ⟨g4, 1, none⟩)).trans a1t
            have RO1 := Lib.hid (row_far (g := w4.heap.size) (j := 0) (u := .int .i64 (numV a.data.toList)) (ownsRow_below RO0.out b5) (fun e => by have := HVE.out _ e; omega))
            have B1 := Lib.hid ((B0.out.kept b5).far (g := w4.heap.size) (j := 0) (u := .int .i64 (numV a.data.toList)) (by omega))
            have BB1 := Lib.hid ((BB0.out.trans (b5.mono BB0.out.size)).setCell (p := ⟨w4.heap.size, 0, none⟩) (by simp; omega) (.int .i64 (numV a.data.toList)))
            have E1 := Lib.hid (e5.set0 (numV a.data.toList))
            clear e5 RO0 B0 BB0 E0 a1s a1t b5
            go_wp2_with fail
            generalize w5.setCell ⟨w4.heap.size, 0, none⟩ (.int .i64 (numV a.data.toList)) = V1 at *
            clear ke kf nx
            refine (RC.out _).mono ?_
            rintro e w6 ⟨rfl, b6⟩
            have e6 := E1.out.kept b6
            have ke := e6.1.2
            have kf := e6.2 1
            obtain ⟨V2, hV2⟩ : ∃ V, w6.setCell ⟨w4.heap.size, 1, none⟩ (.int .i64 (numV c.data.toList)) = V := ⟨_, rfl⟩
            have ro := row_far (g := w4.heap.size) (j := 1) (u := .int .i64 (numV c.data.toList)) (ownsRow_below RO1.out b6) (fun e => by have := HVE.out _ e; omega)
            have ob := (B1.out.kept b6).far (g := w4.heap.size) (j := 1) (u := .int .i64 (numV c.data.toList)) (by omega)
            have bl := (BB1.out.trans (b6.mono BB1.out.size)).setCell (p := ⟨w4.heap.size, 1, none⟩) (by simp; omega) (.int .i64 (numV c.data.toList))
            have eb := e6.set1 (numV c.data.toList)
            rw [hV2] at ro ob bl eb
            have e0 := eb.1.1
            have e1 := eb.1.2
            have o3 := ob.1.2.2.2
            have gb2 := ob.lt
            have sb2 := bl.size
            have RO2 := Lib.hid ro
            have B2 := Lib.hid ob
            have BB2 := Lib.hid bl
            clear e6 ro ob bl eb RO1 B1 BB1 E1 b6
            go_wp2_with (first | (at_builtin; refine wpList_append_own_at _ rfl _ _ 22 rfl w3.heap.size 51 i0 (.agg #[.int .i64 0, .int .i64 0]) 2 16 Tryd.underlying22 hi hz0 hz1 hz2 rfl (by decide) (.slice va k vc) _ _ rfl (RO2.out.alloc _) ⟨V2.heap.size, 0, none⟩ 1 1 [.int .i64 (numV a.data.toList), .int .i64 (numV c.data.toList)] rfl rfl (two_newr rfl) (by simp [Value.oneCell']) (by unfold maxLen; omega) (by omega) (by simp; omega) ?_; intro v' w7 hown' hgrow _ hat; obtain ⟨g', c', rfl, _⟩ := own_form2 hown' (by omega); have hG7 := B2.out.block ((hgrow.block (w3.heap.size + 1) (by simp; omega) (fun e => HN.out e.symm)).trans (heap_oldr V2 _ (w3.heap.size + 1) gb2)); have o7 := hG7.1.2.2.2; have f7 := hG7.2 3; have B7 := Lib.hid hG7; have HNE := Lib.hid (fun e => by rcases hat with q | q; exact HN.out (q ▸ e); rw [q] at e; have := Option.some.inj e; simp at this; omega : Value.ownBlock (.slice (some ⟨g', 0, none⟩) (k + 1) c') ≠ some (w3.heap.size + 1)); have BB7 := Lib.hid (below_app BB2.out (Nat.le_refl _) RO2.out hgrow); have HOWN := Lib.hid hown'; clear hown' hgrow hG7 hat))
            go_roundw
            case rel => exact ⟨k + 1, es ++ [⟨(numV a.data.toList), (numV c.data.toList)⟩], some ⟨g', 0, none⟩, c', by omega, by go_num, Lib.hid ⟨⟨HMM.out, by rw [List.length_append, HM.out.1.2]; rfl⟩, fun e he => (List.mem_append.1 he).elim (HM.out.2 e) (fun h => by rw [List.mem_singleton.1 h]; exact ⟨numV_in _, numV_in _⟩)⟩, Lib.hid (B7.out.set3 _), Lib.hid (row_far (by have := HOWN.out; rw [List.map_append, List.flatten_append]; simpa [evC] using this) HNE.out), HNE, BB7.out.setCell (p := ⟨w3.heap.size + 1, 3, none⟩) (by simp) _⟩
            case measure => simp [intOf]; omega
          · have n2 : ((NQ : Int) != 2) = true := by simp; omega
            have hmm := HR2.out (by rw [HDR.out]; exact mapM_bad HM.out.1.1 (mEvt_none HPA.out (by rw [HNQ.out]; exact hq2)))
            obtain ⟨rfl, rfl⟩ := Prod.mk.inj hmm
            clear hmm hq2
            go_wp2_with fail
            refine (HSPP.out _).mono ?_
            rintro e w4 ⟨v4, rfl, hown, b4⟩
            have Z := box_kept (box_kept' HZ.out bb sZ) b4
            have bw := below_chain (HBW.out.trans (bb.mono (by omega))) b4
            rcases hown.2 with ⟨_, hx⟩ | ⟨g4, cpg4, curg4, rfl, hgg4, hgsg4, hncg4, hcmg4, hxx1, hxx2⟩
            · simp at hx
            have qq := hown.cells (g := g4) rfl
            rw [HNQ.out] at hncg4 ⊢
            unfold maxLen at hcmg4
            clear hown qq hxx1 hxx2 hgsg4
            have z0 := box_cell Z 0 rfl
            have z1 := box_cell Z 1 rfl
            have z2 := box_cell Z 2 rfl
            have z3 := box_cell Z 3 rfl
            have y0 := blk_frozen Z 0
            have y1 := blk_frozen Z 1
            have y2 := blk_frozen Z 2
            have y3 := blk_frozen Z 3
            simp at z0 z1 z2 z3 y0 y1 y2 y3
            go_wp2_with fail
            refine bodyPost_ret (v := .tuple #[.agg #[.int .i64 0, .int .i64 0, .int .i64 0, .slice none 0 0], .bool false]) (by simp [results, Tryd.results9, go_sem, z0, z1, z2, z3]) rfl ⟨_, rfl, rec_zero _ _ _, ?_⟩
            exact (((bw.setCell (by simp) _).setCell (by simp) _).setCell (by simp) _).setCell (by simp) _
        · obtain rfl : k = NT := by omega
          have hM := HM.out
          rw [show tl.take k = tl by rw [← HNT.out]; exact List.take_length] at hM
          have hR := HR3.out _ es HMH.out hM.1.1
          simp only at hR
          obtain ⟨br, hbr⟩ : ∃ q, isRec ⟨numV n0.data.toList, numV n1.data.toList, numV p1.data.toList, es⟩ = q := ⟨_, rfl⟩
          have hown : Own w3.heap.size 51 2 wr (.slice va k vc) (es.map evC) := ⟨by rw [List.length_map, hM.1.2]; exact RO.out, by simp [evC]⟩
          have hEV : EvsO w3.heap.size wr.heap.size wr (.slice va k vc) es := ⟨hown, hM.2, hown.under⟩
          have hok : Rec.ok ⟨numV n0.data.toList, numV n1.data.toList, numV p1.data.toList, es⟩ := ⟨GN.out.1, GN.out.2.1, GN.out.2.2⟩
          have hrec : ∀ W', Below wr.heap.size wr W' → RecO w3.heap.size wr.heap.size W' (.agg #[.int .i64 (numV n0.data.toList), .int .i64 (numV n1.data.toList), .int .i64 (numV p1.data.toList), .slice va k vc]) ⟨numV n0.data.toList, numV n1.data.toList, numV p1.data.toList, es⟩ := fun W' hb => ⟨_, rfl, hEV.below hb, hok⟩
          have HREC := Lib.hid hrec
          have HEV := Lib.hid hEV
          have HOK := Lib.hid hok
          have bW : Below w.heap.size w wr := HBW.out.trans (bb.mono (by omega))
          have ZR := box_kept' HZ.out bb sZ
          obtain ⟨g0, g1', g2', g3'⟩ := B.out.1
          rw [hbr] at hR
          have HBR := Lib.hid hbr
          have HRR := Lib.hid hR
          clear hM hR hbr hown hEV hok hrec
          cases br
          · have hh := HRR.out
            rw [if_neg (by simp)] at hh
            obtain ⟨rfl, rfl⟩ := Prod.mk.inj hh
            clear hh
            go_wp2_with fail
            refine (l2Record_any _ ⟨numV n0.data.toList, numV n1.data.toList, numV p1.data.toList, es⟩ _ (HREC.out _ (Below.refl _ _)).toV).mono ?_
            rw [HBR.out]
            rintro e w5 ⟨rfl, b5⟩
            replace ZR := box_kept ZR b5
            replace g0 := cell_kept g0 b5
            replace g1' := cell_kept g1' b5
            replace g2' := cell_kept g2' b5
            replace g3' := cell_kept g3' b5
            have bW5 := below_chain bW b5
            have z0 := box_cell ZR 0 rfl
            have z1 := box_cell ZR 1 rfl
            have z2 := box_cell ZR 2 rfl
            have z3 := box_cell ZR 3 rfl
            have y0 := blk_frozen ZR 0
            have y1 := blk_frozen ZR 1
            have y2 := blk_frozen ZR 2
            have y3 := blk_frozen ZR 3
            simp at z0 z1 z2 z3 y0 y1 y2 y3
            clear ZR
            go_wp2_with fail
            refine bodyPost_ret (v := .tuple #[.agg #[.int .i64 0, .int .i64 0, .int .i64 0, .slice none 0 0], .bool false]) (by simp [results, Tryd.results9, go_sem, z0, z1, z2, z3]) rfl ⟨_, rfl, rec_zero _ _ _, ?_⟩
            exact (((bW5.setCell (by simp) _).setCell (by simp) _).setCell (by simp) _).setCell (by simp) _
          · obtain ⟨TX, hTX⟩ : ∃ q, textAt ⟨numV n0.data.toList, numV n1.data.toList, numV p1.data.toList, es⟩ es.length = q := ⟨_, rfl⟩
            have hcon := fun W (hb : Below wr.heap.size wr W) => l2Text_any _ ⟨numV n0.data.toList, numV n1.data.toList, numV p1.data.toList, es⟩ W (HREC.out W hb).toV HBR.out
            simp only at hcon
            rw [hTX] at hcon
            have hh := HRR.out
            rw [hTX] at hh
            have HTC := Lib.hid hcon
            clear hcon hTX HRR
            by_cases he : TX = s
            · subst he
              rw [if_pos ⟨rfl, rfl⟩] at hh
              obtain ⟨rfl, rfl⟩ := Prod.mk.inj hh
              clear hh
              go_wp2_with fail
              refine (l2Record_any _ ⟨numV n0.data.toList, numV n1.data.toList, numV p1.data.toList, es⟩ _ (HREC.out _ (Below.refl _ _)).toV).mono ?_
              rw [HBR.out]
              rintro e w5 ⟨rfl, b5⟩
              replace ZR := box_kept ZR b5
              replace g0 := cell_kept g0 b5
              replace g1' := cell_kept g1' b5
              replace g2' := cell_kept g2' b5
              replace g3' := cell_kept g3' b5
              have bW5 := below_chain bW b5
              go_wp2_with fail
              refine (HTC.out _ b5).mono ?_
              rintro e w6 ⟨rfl, b6⟩
              replace ZR := box_kept ZR b6
              replace g0 := cell_kept g0 b6
              replace g1' := cell_kept g1' b6
              replace g2' := cell_kept g2' b6
              replace g3' := cell_kept g3' b6
              have bW6 := below_chain bW5 b6
              have z0 := box_cell ZR 0 rfl
              have z1 := box_cell ZR 1 rfl
              have z2 := box_cell ZR 2 rfl
              have z3 := box_cell ZR 3 rfl
              have y0 := blk_frozen ZR 0
              have y1 := blk_frozen ZR 1
              have y2 := blk_frozen ZR 2
              have y3 := blk_frozen ZR 3
              simp at z0 z1 z2 z3 y0 y1 y2 y3
              clear ZR
              go_wp2_with fail
              refine bodyPost_ret (v := .tuple #[.agg #[.int .i64 (numV n0.data.toList), .int .i64 (numV n1.data.toList), .int .i64 (numV p1.data.toList), .slice va k vc], .bool true]) (by simp [results, Tryd.results9, go_sem, z0, z1, z2, z3]) rfl ⟨_, rfl, ?_, ?_⟩
              · refine ⟨.slice va k vc, rfl, ?_, HOK.out⟩
                exact (((((HEV.out.below (below_chain b5 b6)).far (by first | (simp; done) | (simp; omega)) _).far (by first | (simp; done) | (simp; omega)) _).far (by first | (simp; done) | (simp; omega)) _).far (by first | (simp; done) | (simp; omega)) _).wide (by omega) (by simp; exact (below_chain b5 b6).size)
              · exact (((bW6.setCell (by simp) _).setCell (by simp) _).setCell (by simp) _).setCell (by simp) _
            · have hns : (TX.toList == s.toList) = false := beq_bytes_nos he
              rw [if_neg (fun h => he h.2)] at hh
              obtain ⟨rfl, rfl⟩ := Prod.mk.inj hh
              clear hh he
              go_wp2_with fail
              refine (l2Record_any _ ⟨numV n0.data.toList, numV n1.data.toList, numV p1.data.toList, es⟩ _ (HREC.out _ (Below.refl _ _)).toV).mono ?_
              rw [HBR.out]
              rintro e w5 ⟨rfl, b5⟩
              replace ZR := box_kept ZR b5
              replace g0 := cell_kept g0 b5
              replace g1' := cell_kept g1' b5
              replace g2' := cell_kept g2' b5
              replace g3' := cell_kept g3' b5
              have bW5 := below_chain bW b5
              go_wp2_with fail
              refine (HTC.out _ b5).mono ?_
              rintro e w6 ⟨rfl, b6⟩
              replace ZR := box_kept ZR b6
              replace g0 := cell_kept g0 b6
              replace g1' := cell_kept g1' b6
              replace g2' := cell_kept g2' b6
              replace g3' := cell_kept g3' b6
              have bW6 := below_chain bW5 b6
              have z0 := box_cell ZR 0 rfl
              have z1 := box_cell ZR 1 rfl
              have z2 := box_cell ZR 2 rfl
              have z3 := box_cell ZR 3 rfl
              have y0 := blk_frozen ZR 0
              have y1 := blk_frozen ZR 1
              have y2 := blk_frozen ZR 2
              have y3 := blk_frozen ZR 3
              simp at z0 z1 z2 z3 y0 y1 y2 y3
              clear ZR
              go_wp2_with fail
              refine bodyPost_ret (v := .tuple #[.agg #[.int .i64 0, .int .i64 0, .int .i64 0, .slice none 0 0], .bool false]) (by simp [results, Tryd.results9, go_sem, z0, z1, z2, z3]) rfl ⟨_, rfl, rec_zero _ _ _, ?_⟩
              exact (((bW6.setCell (by simp) _).setCell (by simp) _).setCell (by simp) _).setCell (by simp) _
    · have hn := HR1.out (mHead_none HPS.out HNS.out (by rw [HNP.out, HNN.out]; exact hA))
      obtain ⟨rfl, rfl⟩ := Prod.mk.inj hn
      clear hn
      by_cases hB : NP = 2
      · have n2 : ((NP : Int) != 2) = false := by simp; omega
        have n3 : ((NN : Int) != 2) = true := by simp; omega
        clear hA hB
        go_enter Tryd.func9, Tryd.ntmps9
        go_wp2_with fail
        refine (HSP.out _).mono ?_
        rintro e w1 ⟨v1, rfl, hown, b1⟩
        have Z := box_kept (heap_alloc_new w _) b1
        replace b1 := below_chain b0 b1
        have s1 := b1.size
        rcases hown.2 with ⟨_, hx⟩ | ⟨g1, cpg1, curg1, rfl, hgg1, hgsg1, hncg1, hcmg1, hxx1, hxx2⟩
        · simp at hx
        have qq := hown.cells (g := g1) rfl
        have c0 := qq 0 (.string hd) rfl
        simp only [Addr.add_lit, Nat.add_zero] at c0
        rw [(show (hd :: tl).length = NT + 1 by rw [List.length_cons, HNT.out])] at hncg1 ⊢
        unfold maxLen at hcmg1
        clear hown qq hxx1 hxx2 hgsg1
        go_wp2_with fail
        refine (HSP2.out _).mono ?_
        rintro e w2 ⟨v2, rfl, hown, b2⟩
        replace Z := box_kept Z b2
        have bw := below_chain b1 b2
        have s2 := b2.size
        rcases hown.2 with ⟨_, hx⟩ | ⟨g2, cpg2, curg2, rfl, hgg2, hgsg2, hncg2, hcmg2, hxx1, hxx2⟩
        · simp at hx
        have qq := hown.cells (g := g2) rfl
        have d0 := qq 0 (.string p0) rfl
        simp only [Addr.add_lit, Nat.add_zero] at d0
        rw [HNP.out] at hncg2 ⊢
        unfold maxLen at hcmg2
        clear hown qq hxx1 hxx2 hgsg2
        go_wp2_with fail
        refine (HSP3.out _).mono ?_
        rintro e w3 ⟨v3, rfl, hown, b3⟩
        replace Z := box_kept Z b3
        replace bw := below_chain bw b3
        have s3 := b3.size
        rcases hown.2 with ⟨_, hx⟩ | ⟨g3, cpg3, curg3, rfl, hgg3, hgsg3, hncg3, hcmg3, hxx1, hxx2⟩
        · simp at hx
        have qq := hown.cells (g := g3) rfl
        have f0 := qq 0 (.string n0) rfl
        simp only [Addr.add_lit, Nat.add_zero] at f0
        rw [HNN.out] at hncg3 ⊢
        unfold maxLen at hcmg3
        clear hown qq hxx1 hxx2 hgsg3
        have z0 := box_cell Z 0 rfl
        have z1 := box_cell Z 1 rfl
        have z2 := box_cell Z 2 rfl
        have z3 := box_cell Z 3 rfl
        have y0 := blk_frozen Z 0
        have y1 := blk_frozen Z 1
        have y2 := blk_frozen Z 2
        have y3 := blk_frozen Z 3
        simp at z0 z1 z2 z3 y0 y1 y2 y3
        go_wp2_with fail
        refine bodyPost_ret (v := .tuple #[.agg #[.int .i64 0, .int .i64 0, .int .i64 0, .slice none 0 0], .bool false]) (by simp [results, Tryd.results9, go_sem, z0, z1, z2, z3]) rfl ⟨_, rfl, rec_zero _ _ _, ?_⟩
        exact (((bw.setCell (by simp) _).setCell (by simp) _).setCell (by simp) _).setCell (by simp) _
      · have n2 : ((NP : Int) != 2) = true := by simp; omega
        clear hA hB
        go_enter Tryd.func9, Tryd.ntmps9
        go_wp2_with fail
        refine (HSP.out _).mono ?_
        rintro e w1 ⟨v1, rfl, hown, b1⟩
        have Z := box_kept (heap_alloc_new w _) b1
        replace b1 := below_chain b0 b1
        have s1 := b1.size
        rcases hown.2 with ⟨_, hx⟩ | ⟨g1, cpg1, curg1, rfl, hgg1, hgsg1, hncg1, hcmg1, hxx1, hxx2⟩
        · simp at hx
        have qq := hown.cells (g := g1) rfl
        have c0 := qq 0 (.string hd) rfl
        simp only [Addr.add_lit, Nat.add_zero] at c0
        rw [(show (hd :: tl).length = NT + 1 by rw [List.length_cons, HNT.out])] at hncg1 ⊢
        unfold maxLen at hcmg1
        clear hown qq hxx1 hxx2 hgsg1
        go_wp2_with fail
        refine (HSP2.out _).mono ?_
        rintro e w2 ⟨v2, rfl, hown, b2⟩
        replace Z := box_kept Z b2
        have bw := below_chain b1 b2
        have s2 := b2.size
        rcases hown.2 with ⟨_, hx⟩ | ⟨g2, cpg2, curg2, rfl, hgg2, hgsg2, hncg2, hcmg2, hxx1, hxx2⟩
        · simp at hx
        have qq := hown.cells (g := g2) rfl
        have d0 := qq 0 (.string p0) rfl
        simp only [Addr.add_lit, Nat.add_zero] at d0
        rw [HNP.out] at hncg2 ⊢
        unfold maxLen at hcmg2
        clear hown qq hxx1 hxx2 hgsg2
        go_wp2_with fail
        refine (HSP3.out _).mono ?_
        rintro e w3 ⟨v3, rfl, hown, b3⟩
        replace Z := box_kept Z b3
        replace bw := below_chain bw b3
        have s3 := b3.size
        rcases hown.2 with ⟨_, hx⟩ | ⟨g3, cpg3, curg3, rfl, hgg3, hgsg3, hncg3, hcmg3, hxx1, hxx2⟩
        · simp at hx
        have qq := hown.cells (g := g3) rfl
        have f0 := qq 0 (.string n0) rfl
        simp only [Addr.add_lit, Nat.add_zero] at f0
        rw [HNN.out] at hncg3 ⊢
        unfold maxLen at hcmg3
        clear hown qq hxx1 hxx2 hgsg3
        have z0 := box_cell Z 0 rfl
        have z1 := box_cell Z 1 rfl
        have z2 := box_cell Z 2 rfl
        have z3 := box_cell Z 3 rfl
        have y0 := blk_frozen Z 0
        have y1 := blk_frozen Z 1
        have y2 := blk_frozen Z 2
        have y3 := blk_frozen Z 3
        simp at z0 z1 z2 z3 y0 y1 y2 y3
        go_wp2_with fail
        refine bodyPost_ret (v := .tuple #[.agg #[.int .i64 0, .int .i64 0, .int .i64 0, .slice none 0 0], .bool false]) (by simp [results, Tryd.results9, go_sem, z0, z1, z2, z3]) rfl ⟨_, rfl, rec_zero _ _ _, ?_⟩
        exact (((bw.setCell (by simp) _).setCell (by simp) _).setCell (by simp) _).setCell (by simp) _
end Go.Proofs.YtapbajficopnlaaDoor
