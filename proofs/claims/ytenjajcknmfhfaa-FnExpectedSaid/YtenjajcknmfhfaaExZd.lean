/- Box4, PerS, PerD, PerP, EqRec, Recs, AreRec, PerI, in one text. -/
import Derived.Test.YtenjajcknmfhfaaToRec
import Derived.Deep.DeepCutAuto
import Derived.Deep.RegionHeld3
import Derived.Test.YtenjajcknmfhfaaPerM
import Derived.Test.YtenjajcknmfhfaaExZa
import Derived.Test.YtenjajcknmfhfaaExZc
import Derived.Test.YtenjajcknmfhfaaL1In
import Derived.Test.YtenjajcknmfhfaaPuts
import Derived.Lib.QuietBelow
import Derived.BigQuiet
import Derived.Deep.QuietTactic
import Derived.WalkSmall
import Derived.Test.YtenjajcknmfhfaaInSer1
import Derived.Maps.Own
import Derived.Maps.OwnSet
import Derived.Test.YtenjajcknmfhfaaExZb
import Derived.ScopeJumps
import Derived.BigRegion
import Derived.Test.YtenjajcknmfhfaaRecM
import Derived.Test.YtenjajcknmfhfaaDayI
namespace Go.Proofs.Ytenjajcknmfhfaa
set_option linter.unusedVariables false
open Go.RowKit

def Box4 (w : World) (g : Nat) (r : Rec) (s : Value) : Prop := w.cell? ⟨g, 0, none⟩ = some (.int .i64 r.id) ∧ w.cell? ⟨g, 1, none⟩ = some (.int .i64 r.series) ∧ w.cell? ⟨g, 2, none⟩ = some (.int .i64 r.made) ∧ w.cell? ⟨g, 3, none⟩ = some s
theorem Box4.kept {a b : World} {g : Nat} {r : Rec} {s : Value} (h : Box4 a g r s) (hb : Below a.heap.size a b) : Box4 b g r s := ⟨cell_kept h.1 hb, cell_kept h.2.1 hb, cell_kept h.2.2.1 hb, cell_kept h.2.2.2 hb⟩
theorem Box4.only {a b : World} {g lo hi : Nat} {r : Rec} {s : Value} (h : Box4 a g r s) (ho : Only lo hi a b) (hg : g < lo ∨ hi ≤ g) : Box4 b g r s := by
  have hlt := World.block_lt_of_cell? _ _ h.1
  have hb := ho.block g hlt hg
  have key : ∀ j, b.cell? ⟨g, j, none⟩ = a.cell? ⟨g, j, none⟩ := fun j => World.cell?_of_block (w := a) hb
  exact ⟨(key 0).trans h.1, (key 1).trans h.2.1, (key 2).trans h.2.2.1, (key 3).trans h.2.2.2⟩
theorem Box4.new (w : World) (r : Rec) (s : Value) (t : TypeId) : Box4 (w.alloc (.cells #[.int .i64 r.id, .int .i64 r.series, .int .i64 r.made, s] t (0, 0))) w.heap.size r s := ⟨cell_new w _ _ 0 rfl, cell_new w _ _ 1 rfl, cell_new w _ _ 2 rfl, cell_new w _ _ 3 rfl⟩
theorem Box4.lt {a : World} {g : Nat} {r : Rec} {s : Value} (h : Box4 a g r s) : g < a.heap.size := World.block_lt_of_cell? _ _ h.1
def Ev2 (w : World) (g : Nat) (ek ed : Int) : Prop := w.cell? ⟨g, 0, none⟩ = some (.int .i64 ek) ∧ w.cell? ⟨g, 1, none⟩ = some (.int .i64 ed)
theorem Ev2.kept {a b : World} {g : Nat} {ek ed : Int} (h : Ev2 a g ek ed) (hb : Below a.heap.size a b) : Ev2 b g ek ed := ⟨cell_kept h.1 hb, cell_kept h.2 hb⟩
theorem Ev2.only {a b : World} {g lo hi : Nat} {ek ed : Int} (h : Ev2 a g ek ed) (ho : Only lo hi a b) (hg : g < lo ∨ hi ≤ g) : Ev2 b g ek ed := by
  have hb := ho.block g (World.block_lt_of_cell? _ _ h.1) hg
  have key : ∀ j, b.cell? ⟨g, j, none⟩ = a.cell? ⟨g, j, none⟩ := fun j => World.cell?_of_block (w := a) hb
  exact ⟨(key 0).trans h.1, (key 1).trans h.2⟩
theorem RecO.only2 {lo hi lo' hi' : Nat} {w w' : World} {v : Value} {r : Rec} (h : RecO lo hi w v r) (hb : Only lo' hi' w w') (hh : hi ≤ lo') : RecO lo hi w' v r := by
  obtain ⟨s, e, h, k⟩ := h
  exact ⟨s, e, ⟨h.1.only2 hb (h.2.2.up hh), h.2⟩, k⟩
theorem only_set (w : World) (g j : Nat) (u : Value) : Only g (g + 1) w (w.setCell ⟨g, j, none⟩ u) :=
  ⟨rfl, rfl, rfl, by simp, fun k _ hh => Below.heap_setCell w ⟨g, j, none⟩ u k (by simp; omega)⟩
theorem only_put (w : World) (G : Nat) (x y z u : Value) : Only G (G + 1) w ((((w.setCell ⟨G, 0, none⟩ x).setCell ⟨G, 1, none⟩ y).setCell ⟨G, 2, none⟩ z).setCell ⟨G, 3, none⟩ u) :=
  (((only_set _ _ _ _).trans (only_set _ _ _ _)).trans (only_set _ _ _ _)).trans (only_set _ _ _ _)
theorem set_other {w : World} {a b : Addr} (v : Value) (h : a ≠ b) : (w.setCell a v).cell? b = w.cell? b := by
  apply World.cell?_setCell_other
  exact h
theorem set_same {w : World} {a : Addr} {u : Value} (v : Value) (h : w.cell? a = some u) : (w.setCell a v).cell? a = some v := by
  apply World.cell?_setCell_same
  exact h
theorem box4_put {W : World} {G : Nat} {r : Rec} {s a b c d : Value} {t : TypeId} (h : W.heap[G]? = some (.cells #[a, b, c, d] t (0, 0))) :
    Box4 ((((W.setCell ⟨G, 0, none⟩ (.int .i64 r.id)).setCell ⟨G, 1, none⟩ (.int .i64 r.series)).setCell ⟨G, 2, none⟩ (.int .i64 r.made)).setCell ⟨G, 3, none⟩ s) G r s := by
  have c0 := box_cell h 0 rfl
  have c1 := box_cell h 1 rfl
  have c2 := box_cell h 2 rfl
  have c3 := box_cell h 3 rfl
  have n01 : (⟨G, 0, none⟩ : Addr) ≠ ⟨G, 1, none⟩ := by simp
  have n02 : (⟨G, 0, none⟩ : Addr) ≠ ⟨G, 2, none⟩ := by simp
  have n03 : (⟨G, 0, none⟩ : Addr) ≠ ⟨G, 3, none⟩ := by simp
  have n12 : (⟨G, 1, none⟩ : Addr) ≠ ⟨G, 2, none⟩ := by simp
  have n13 : (⟨G, 1, none⟩ : Addr) ≠ ⟨G, 3, none⟩ := by simp
  have n23 : (⟨G, 2, none⟩ : Addr) ≠ ⟨G, 3, none⟩ := by simp
  refine ⟨?_, ?_, ?_, ?_⟩
  · rw [set_other _ n03.symm, set_other _ n02.symm, set_other _ n01.symm]
    exact set_same _ c0
  · rw [set_other _ n13.symm, set_other _ n12.symm]
    exact set_same (u := b) _ (by rw [set_other _ n01]; exact c1)
  · rw [set_other _ n23.symm]
    exact set_same (u := c) _ (by rw [set_other _ n12, set_other _ n02]; exact c2)
  · exact set_same (u := d) _ (by rw [set_other _ n23, set_other _ n13, set_other _ n03]; exact c3)

def Got (B : Nat) (w V : World) (x : Rec) (s : Value) (ek ed : Int) (y : Rec) (sl : Value) (G lo hi : Nat) : Prop :=
  Box4 V B x s ∧ Ev2 V (B + 1) ek ed ∧ RecO lo hi V (.agg #[.int .i64 y.id, .int .i64 y.series, .int .i64 y.made, sl]) y ∧ Box4 V G y sl ∧ Below w.heap.size w V ∧ w.heap.size ≤ G ∧ w.heap.size ≤ lo ∧ hi ≤ V.heap.size ∧ (G < lo ∨ hi ≤ G) ∧ lo ≤ V.heap.size
theorem got_a {B : Nat} {w W : World} {x y : Rec} {s sl a b c d : Value} {ek ed : Int} {G lo hi : Nat} {t : TypeId} (hQ : W.heap[G]? = some (.cells #[a, b, c, d] t (0, 0))) (hA : Box4 W B x s) (hE : Ev2 W (B + 1) ek ed)
    (hR : RecO lo hi W (.agg #[.int .i64 y.id, .int .i64 y.series, .int .i64 y.made, sl]) y) (hB : Below w.heap.size w W) (hG : w.heap.size ≤ G) (hl : G < lo) (hh : hi ≤ W.heap.size) (hw : B + 2 ≤ w.heap.size) (hq : lo ≤ W.heap.size) :
    Got B w ((((W.setCell ⟨G, 0, none⟩ (.int .i64 y.id)).setCell ⟨G, 1, none⟩ (.int .i64 y.series)).setCell ⟨G, 2, none⟩ (.int .i64 y.made)).setCell ⟨G, 3, none⟩ sl) x s ek ed y sl G lo hi := by
  have o := only_put W G (.int .i64 y.id) (.int .i64 y.series) (.int .i64 y.made) sl
  have hB' : Below w.heap.size W ((((W.setCell ⟨G, 0, none⟩ (.int .i64 y.id)).setCell ⟨G, 1, none⟩ (.int .i64 y.series)).setCell ⟨G, 2, none⟩ (.int .i64 y.made)).setCell ⟨G, 3, none⟩ sl) := ⟨o.os, o.tape, o.output, o.size, fun k hk => o.block k (Nat.lt_of_lt_of_le hk hB.size) (.inl (by omega))⟩
  exact ⟨hA.only o (.inl (by omega)), hE.only o (.inl (by omega)), hR.only o hl, box4_put hQ, hB.trans hB', hG, by omega, Nat.le_trans hh o.size, .inl hl, Nat.le_trans hq o.size⟩
theorem got_b {B : Nat} {w W : World} {x y : Rec} {s sl : Value} {ek ed : Int} {lo hi : Nat} {t : TypeId} (hA : Box4 W B x s) (hE : Ev2 W (B + 1) ek ed)
    (hR : RecO lo hi W (.agg #[.int .i64 y.id, .int .i64 y.series, .int .i64 y.made, sl]) y) (hB : Below w.heap.size w W) (hl : w.heap.size ≤ lo) (hh : hi ≤ W.heap.size) (hq : lo ≤ W.heap.size) :
    Got B w (W.alloc (.cells #[.int .i64 y.id, .int .i64 y.series, .int .i64 y.made, sl] t (0, 0))) x s ek ed y sl W.heap.size lo hi := by
  have b := below_al (Below.refl W.heap.size W) (.cells #[.int .i64 y.id, .int .i64 y.series, .int .i64 y.made, sl] t (0, 0))
  exact ⟨hA.kept b, hE.kept b, hR.below b, Box4.new W y sl t, below_al hB _, hB.size, hl, by simp; omega, .inr hh, by simp; omega⟩
theorem cell_drew {W : World} {a : Addr} {u : Value} (h : W.cell? a = some u) : W.drew.cell? a = some u := h
end Go.Proofs.Ytenjajcknmfhfaa

namespace Go.Proofs.Ytenjajcknmfhfaa
set_option linter.unusedVariables false
open Go.RowKit Go.Sort

abbrev RBOX (r : Rec) (s : Value) (t : TypeId) : Obj := .cells #[.int .i64 r.id, .int .i64 r.series, .int .i64 r.made, s] t (0, 0)

theorem l6End_any (v : Value) (r : Rec) (x : Ru) (w : World) (h : RecV w v r) (hr : isRec r = true) (hx : isRu x = true) :
    Calls Try.prog 159 #[v, .agg #[.int .i64 x.series, .int .i64 x.event, .int .i64 x.days, .int .i64 x.act]] w fun e w' => e = .returned (.int .i64 (endR r x)) ∧ Below w.heap.size w w' := by
  obtain ⟨s, rfl, h0, hok⟩ := h
  have HV := Lib.hid (show ∀ W, Below w.heap.size w W → RecV W (.agg #[.int .i64 r.id, .int .i64 r.series, .int .i64 r.made, s]) r from fun W hb => ⟨s, rfl, h0.below rEv_stable hb, hok⟩)
  have hd1 := dayOf_top hr x.event
  have hd2 := dayOf_least hr x.event
  have hx2 := (isRu_iff.1 hx).2.2.1
  obtain ⟨x0, x1, x2, x3⟩ := x
  simp only at hd1 hd2 hx2 ⊢
  obtain ⟨d, hd⟩ : ∃ d, dayOf r x1 = d := ⟨_, rfl⟩
  rw [hd] at hd1 hd2
  have he : endR r ⟨x0, x1, x2, x3⟩ = if d < 0 then -1 else d + x2 := by unfold endR; simp only; rw [hd]
  rw [he]
  have HD := Lib.hid hd
  clear h0 hok hd he hx hr
  have b0 := below_al (below_al (Below.refl w.heap.size w) (RBOX r s 63)) (.cells #[.int .i64 x0, .int .i64 x1, .int .i64 x2, .int .i64 x3] 56 (0, 0))
  have c2 := cell_new (w.alloc (RBOX r s 63)) #[.int .i64 x0, .int .i64 x1, .int .i64 x2, .int .i64 x3] 56 2 (v := .int .i64 x2) rfl
  by_cases hn : d < 0
  · have HN := Lib.hid (if_pos hn : (if d < 0 then -1 else d + x2) = -1)
    rw [HN.out]
    go_enter Try.func159, Try.ntmps159
    go_wp2_with (first | (go_at_call 183; refine (l2DayOf_any _ r x1 _ (HV.out _ b0)).mono ?_; rw [HD.out]; rintro e w1 ⟨rfl, b1⟩))
    go_ret
    exact ⟨rfl, below_chain b0 b1⟩
  · have HN := Lib.hid (if_neg hn : (if d < 0 then -1 else d + x2) = d + x2)
    rw [HN.out]
    have hw : IntKind.i64.wrap (d + x2) = d + x2 := Go.IntWalk.i64_in _ (by omega)
    go_enter Try.func159, Try.ntmps159
    go_wp2_with (first | (go_at_call 183; refine (l2DayOf_any _ r x1 _ (HV.out _ b0)).mono ?_; rw [HD.out]; rintro e w1 ⟨rfl, b1⟩; replace c2 := cell_kept c2 b1; simp at c2))
    go_ret
    exact ⟨rfl, below_chain b0 b1⟩

structure UBox (w : World) (g : Nat) (u : Ru) : Prop where
  c0 : w.cell? ⟨g, 0, none⟩ = some (.int .i64 u.series)
  c1 : w.cell? ⟨g, 1, none⟩ = some (.int .i64 u.event)
  c2 : w.cell? ⟨g, 2, none⟩ = some (.int .i64 u.days)
  c3 : w.cell? ⟨g, 3, none⟩ = some (.int .i64 u.act)
  y0 : w.frozen? ⟨g, 0, none⟩ = false
  y1 : w.frozen? ⟨g, 1, none⟩ = false
  y2 : w.frozen? ⟨g, 2, none⟩ = false
  y3 : w.frozen? ⟨g, 3, none⟩ = false
theorem UBox.lt {w : World} {g : Nat} {u : Ru} (h : UBox w g u) : g < w.heap.size := World.block_lt_of_cell? _ _ h.c0
theorem UBox.under {a b : World} {g n : Nat} {u : Ru} (h : UBox a g u) (hg : g < n) (hb : Below n a b) : UBox b g u :=
  ⟨(hb.cell (p := ⟨g, 0, none⟩) hg).trans h.c0, (hb.cell (p := ⟨g, 1, none⟩) hg).trans h.c1, (hb.cell (p := ⟨g, 2, none⟩) hg).trans h.c2, (hb.cell (p := ⟨g, 3, none⟩) hg).trans h.c3,
   (hb.frozen (p := ⟨g, 0, none⟩) hg).trans h.y0, (hb.frozen (p := ⟨g, 1, none⟩) hg).trans h.y1, (hb.frozen (p := ⟨g, 2, none⟩) hg).trans h.y2, (hb.frozen (p := ⟨g, 3, none⟩) hg).trans h.y3⟩
theorem UBox.kept {a b : World} {g : Nat} {u : Ru} (h : UBox a g u) (hb : Below a.heap.size a b) : UBox b g u := h.under h.lt hb
theorem UBox.new (w : World) (u : Ru) (t : TypeId) : UBox (w.alloc (.cells #[.int .i64 u.series, .int .i64 u.event, .int .i64 u.days, .int .i64 u.act] t (0, 0))) w.heap.size u :=
  ⟨cell_new w _ _ 0 rfl, cell_new w _ _ 1 rfl, cell_new w _ _ 2 rfl, cell_new w _ _ 3 rfl, by simp, by simp, by simp, by simp⟩
theorem UBox.al {w : World} {g : Nat} {u : Ru} (h : UBox w g u) (o : Obj) : UBox (w.alloc o) g u := h.kept (below_al (Below.refl _ _) o)
theorem UBox.drewN {w : World} {g : Nat} {u : Ru} (h : UBox w g u) (n : Nat) : UBox (w.drewN n) g u := ⟨h.c0, h.c1, h.c2, h.c3, h.y0, h.y1, h.y2, h.y3⟩
theorem UBox.drew {w : World} {g : Nat} {u : Ru} (h : UBox w g u) : UBox w.drew g u := ⟨h.c0, h.c1, h.c2, h.c3, h.y0, h.y1, h.y2, h.y3⟩
theorem below_drewN {n : Nat} {a b : World} (h : Below n a b) (k : Nat) : Below n a (b.drewN k) := ⟨h.os, h.tape, h.output, h.size, h.block⟩
theorem UBox.far {w : World} {g g' j : Nat} {u : Ru} (h : UBox w g u) (hn : g' ≠ g) (v : Value) : UBox (w.setCell ⟨g', j, none⟩ v) g u :=
  ⟨(cellset_other _ (by simp)).trans h.c0, (cellset_other _ (by simp)).trans h.c1, (cellset_other _ (by simp)).trans h.c2, (cellset_other _ (by simp)).trans h.c3,
   by rw [World.frozen?_setCell]; exact h.y0, by rw [World.frozen?_setCell]; exact h.y1, by rw [World.frozen?_setCell]; exact h.y2, by rw [World.frozen?_setCell]; exact h.y3⟩
abbrev putU (w : World) (g : Nat) (x : Ru) : World := (((w.setCell ⟨g, 0, none⟩ (.int .i64 x.series)).setCell ⟨g, 1, none⟩ (.int .i64 x.event)).setCell ⟨g, 2, none⟩ (.int .i64 x.days)).setCell ⟨g, 3, none⟩ (.int .i64 x.act)
theorem UBox.put {w : World} {g : Nat} {u : Ru} (h : UBox w g u) (x : Ru) : UBox (putU w g x) g x := by
  have n01 : (⟨g, 1, none⟩ : Addr) ≠ ⟨g, 0, none⟩ := by simp
  have n02 : (⟨g, 2, none⟩ : Addr) ≠ ⟨g, 0, none⟩ := by simp
  have n03 : (⟨g, 3, none⟩ : Addr) ≠ ⟨g, 0, none⟩ := by simp
  have n12 : (⟨g, 2, none⟩ : Addr) ≠ ⟨g, 1, none⟩ := by simp
  have n13 : (⟨g, 3, none⟩ : Addr) ≠ ⟨g, 1, none⟩ := by simp
  have n23 : (⟨g, 3, none⟩ : Addr) ≠ ⟨g, 2, none⟩ := by simp
  refine ⟨?_, ?_, ?_, ?_, ?_, ?_, ?_, ?_⟩
  · unfold putU; rw [cellset_other _ n03, cellset_other _ n02, cellset_other _ n01, cellset_same _ h.c0]
  · unfold putU; rw [cellset_other _ n13, cellset_other _ n12]; exact cellset_same (u := .int .i64 u.event) _ (by rw [cellset_other _ n01.symm]; exact h.c1)
  · unfold putU; rw [cellset_other _ n23]; exact cellset_same (u := .int .i64 u.days) _ (by rw [cellset_other _ n12.symm, cellset_other _ n02.symm]; exact h.c2)
  · unfold putU; exact cellset_same (u := .int .i64 u.act) _ (by rw [cellset_other _ n23.symm, cellset_other _ n13.symm, cellset_other _ n03.symm]; exact h.c3)
  · unfold putU; simp only [World.frozen?_setCell]; exact h.y0
  · unfold putU; simp only [World.frozen?_setCell]; exact h.y1
  · unfold putU; simp only [World.frozen?_setCell]; exact h.y2
  · unfold putU; simp only [World.frozen?_setCell]; exact h.y3
theorem below_putU {n : Nat} {w w' : World} {g : Nat} (hb : Below n w w') (hg : n ≤ g) (x : Ru) : Below n w (putU w' g x) := (((hb.setCell hg _).setCell hg _).setCell hg _).setCell hg _

theorem l6End_grown (v : Value) (r : Rec) (x : Ru) (E : Int) (hE : endR r x = E) (wx : World) (h : ∀ W, Below wx.heap.size wx W → RecV W v r) (hr : isRec r = true) (hx : isRu x = true) (d : Nat) (os : Array Obj) :
    Calls Try.prog 159 #[v, .agg #[.int .i64 x.series, .int .i64 x.event, .int .i64 x.days, .int .i64 x.act]] (grow (redrawn wx d) os) fun e w'' => e = .returned (.int .i64 E) ∧ ∃ p : Regrown, w'' = grow (redrawn wx p.d) p.os := by
  subst hE
  exact Calls.regrown_of (l6End_any v r x _ (h _ (below_regrown wx d os)) hr hx)

set_option maxRecDepth 20000 in
set_option maxHeartbeats 8000000 in
theorem l6Deciding_any (v v1 : Value) (r : Rec) (t : List Ru) (w : World) (h : RecV w v r) (h1 : RowR 4 rRu w v1 t) (hr : isRec r = true) (ht : isSch t = true) (q : Ru) (d : Int) (hres : decR r (forRu t r.series) = (q, d)) :
    Calls Try.prog 123 #[v, v1] w fun e w' => e = .returned (.tuple #[.agg #[.int .i64 q.series, .int .i64 q.event, .int .i64 q.days, .int .i64 q.act], .int .i64 d]) ∧ Below w.heap.size w w' := by
  obtain ⟨s, rfl, h0, hok⟩ := h
  have HV := Lib.hid (show ∀ W, Below w.heap.size w W → RecV W (.agg #[.int .i64 r.id, .int .i64 r.series, .int .i64 r.made, s]) r from fun W hb => ⟨s, rfl, h0.below rEv_stable hb, hok⟩)
  have H1 := Lib.hid h1
  have HR := Lib.hid hr
  have HT := Lib.hid ht
  have hn8 := sch_len ht
  obtain ⟨R, hR⟩ : ∃ R, forRu t r.series = R := ⟨_, rfl⟩
  have hRl : R.length ≤ t.length := by rw [← hR]; exact forRu_len t r.series
  have HRU := Lib.hid (show ∀ u ∈ R, isRu u = true by rw [← hR]; exact forRu_ok ht r.series)
  rw [hR] at hres
  have HRR := Lib.hid hR
  have HRES := Lib.hid hres
  clear h0 hok h1 hr ht hR hres
  have b0 := below_al (below_al (Below.refl w.heap.size w) (RBOX r s 63)) (.cells #[.int .i64 0, .int .i64 0, .int .i64 0, .int .i64 0] 56 (0, 0))
  have HX0 : Hid (UBox ((w.alloc (RBOX r s 63)).alloc (.cells #[.int .i64 0, .int .i64 0, .int .i64 0, .int .i64 0] 56 (0, 0))) (w.heap.size + 1) ruD) := Lib.hid (by rw [← (show (w.alloc (RBOX r s 63)).heap.size = w.heap.size + 1 by simp)]; exact UBox.new (w.alloc (RBOX r s 63)) ruD 56)
  have HC0 : Hid (Box4 ((w.alloc (RBOX r s 63)).alloc (.cells #[.int .i64 0, .int .i64 0, .int .i64 0, .int .i64 0] 56 (0, 0))) w.heap.size r s) := Lib.hid ((Box4.new w r s 63).kept (below_al (Below.refl _ _) _))
  go_enter Try.func123, Try.ntmps123
  go_wp2_with (first | (go_at_call 88; refine (l4For_any _ t r.series _ (H1.out.below rRu_stable b0) (by omega)).mono ?_; rw [HRR.out]; rintro e w1 ⟨v2, rfl, ho1, b1⟩; obtain ⟨a1, cp1, hv, hl1, hm1, r1⟩ := ho1.row.rus; subst hv; have R1 := Lib.hid r1; clear ho1 r1; unfold maxLen at hm1; have HX1 := Lib.hid (HX0.out.kept b1); have HC1 := Lib.hid (HC0.out.kept b1); replace b1 := below_chain b0 b1; clear b0 HX0 HC0))
  have hgw : w.heap.size ≤ w1.heap.size := b1.size
  have HXl : w.heap.size + 1 < w1.heap.size := HX1.out.lt
  have HB0 : Hid (UBox (w1.alloc (.cells #[.int .i64 0, .int .i64 0, .int .i64 0, .int .i64 0] 56 (0, 0))) w1.heap.size ruD) := Lib.hid (UBox.new w1 ruD 56)
  go_loopw [8, 9] (fun due i wr => ∃ (k : Nat) (b : Ru) (dd : Int), k ≤ R.length ∧ i = .int .i64 k ∧ due = .int .i64 dd ∧ Hid (decF r (R.drop k) b dd = decR r R) ∧ Hid (UBox wr w1.heap.size b) ∧ Below w1.heap.size w1 wr) (fun _ i _ => R.length - (intOf i).toNat)
  case atStart => exact ⟨0, ruD, -1, Nat.zero_le _, rfl, rfl, Lib.hid rfl, HB0, below_al (Below.refl _ _) _⟩
  case round =>
    clear HB0
    obtain ⟨k, b, dd, hk, rfl, rfl, HF, HB, hb⟩ := hrel
    have hb2 := hb
    have HX := Lib.hid (HX1.out.kept hb2)
    have HC := Lib.hid (HC1.out.kept hb2)
    have bw := b1.trans (hb2.mono b1.size)
    have hgl := HB.out.lt
    by_cases hlt : k < R.length
    · obtain ⟨bb, o1, hb1, rfl, e1⟩ := R1.out.resolve_left (fun e => by rw [e] at hlt; simp at hlt)
      obtain ⟨q0, q1, q2, q3, hok⟩ := e1 k hlt
      obtain ⟨⟨x0, x1, x2, x3⟩, hx⟩ : ∃ s, R.getD k ruD = s := ⟨_, rfl⟩
      rw [hx] at q0 q1 q2 q3
      simp only at q0 q1 q2 q3
      have f0 := cell_kept q0 hb2
      have f1 := cell_kept q1 hb2
      have f2 := cell_kept q2 hb2
      have f3 := cell_kept q3 hb2
      have hxu : isRu ⟨x0, x1, x2, x3⟩ = true := by rw [← hx, getRu_lt hlt]; exact HRU.out _ (List.getElem_mem hlt)
      have hdrop := drop_ru hlt
      rw [hx] at hdrop
      have HFF := Lib.hid (by rw [← hdrop]; exact HF.out : decF r (⟨x0, x1, x2, x3⟩ :: R.drop (k + 1)) b dd = decR r R)
      obtain ⟨E, hE⟩ : ∃ E, endR r ⟨x0, x1, x2, x3⟩ = E := ⟨_, rfl⟩
      have HE := Lib.hid hE
      have g0 : (0 : Int) ≤ (k : Int) := by omega
      have g1 : (k : Int) < (R.length : Int) := by omega
      have c0 := HC.out.1
      have c1 := HC.out.2.1
      have c2 := HC.out.2.2.1
      have c3 := HC.out.2.2.2
      have k0 := cell_regrown f0
      have k1 := cell_regrown f1
      have k2 := cell_regrown f2
      have k3 := cell_regrown f3
      have m0 := cell_regrown c0
      have m1 := cell_regrown c1
      have m2 := cell_regrown c2
      have m3 := cell_regrown c3
      have hc := l6End_grown (.agg #[.int .i64 r.id, .int .i64 r.series, .int .i64 r.made, s]) r ⟨x0, x1, x2, x3⟩ E hE wr (fun W hW => HV.out W (bw.trans (hW.mono bw.size))) HR.out hxu
      simp only at hc
      clear q0 q1 q2 q3 hok e1 hx hdrop hE hxu HF
      go_wp2_with fail
      refine wp_region_quiet_below (by kernel_rfl) (by kernel_rfl) ?_
      repeat (go_big_quiet_step (first | exact hc _ _))
      refine wpQuiet_nil ?_
      intro _ hw'
      obtain ⟨⟨dq, osq⟩, hw''⟩ := hw'
      subst hw''
      have bq := below_regrown wr dq osq
      have HXq := Lib.hid (HX.out.kept bq)
      have HBq := Lib.hid (HB.out.kept bq)
      have i0 := cell_kept f0 bq
      have i1 := cell_kept f1 bq
      have i2 := cell_kept f2 bq
      have i3 := cell_kept f3 bq
      have bgz : Below w1.heap.size w1 (grow (redrawn wr dq) osq) := hb.trans (bq.mono (by have := hb.size; omega))
      have bwz := bw.trans (bq.mono bw.size)
      generalize grow (redrawn wr dq) osq = wz at *
      clear k0 k1 k2 k3 m0 m1 m2 m3 hc c0 c1 c2 c3 f0 f1 f2 f3 HX HC HB bq hb hb2 bw
      obtain ⟨b0, b1', b2, b3⟩ := b
      obtain ⟨p0, p1, p2, p3, y0, y1, y2, y3⟩ := HBq.out
      simp only at p0 p1 p2 p3
      by_cases hEn : E < 0
      · have HZ := Lib.hid ((decF_stop (by rw [HE.out]; exact hEn)).symm.trans HFF.out)
        obtain ⟨z0, z1, z2, z3, u0, u1, u2, u3⟩ := HXq.out
        simp only [ruD] at z0 z1 z2 z3
        have hq := HRES.out
        rw [← HZ.out] at hq
        obtain ⟨rfl, rfl⟩ := Prod.mk.inj hq
        clear hq
        go_wp2_with fail
        refine bodyPost_ret (v := .tuple #[.agg #[.int .i64 0, .int .i64 0, .int .i64 0, .int .i64 0], .int .i64 (-1)]) (by simp [results, Try.results123 , go_sem, z0, z1, z2, z3]) rfl ⟨rfl, ?_⟩
        exact below_putU bwz (by omega) ruD
      · have HNE := Lib.hid (show ¬ endR r ⟨x0, x1, x2, x3⟩ < 0 by rw [HE.out]; exact hEn)
        by_cases h1 : dd < E
        · have h1d : decide (dd < E) = true := decide_eq_true h1
          have HZ := Lib.hid ((decF_cons HNE.out).symm.trans HFF.out)
          rw [if_pos (.inl (by rw [HE.out]; exact h1)), HE.out] at HZ
          go_wp2_with fail
          go_quiet (fail)
          go_wp2_with fail
          go_roundw
          case rel => exact ⟨k + 1, ⟨x0, x1, x2, x3⟩, E, by omega, by go_num, rfl, HZ, Lib.hid ((HBq.out.drewN _).put ⟨x0, x1, x2, x3⟩), below_putU (below_drewN bgz _) (Nat.le_refl _) ⟨x0, x1, x2, x3⟩⟩
          case measure => simp [intOf]; omega
        · have h1d : decide (dd < E) = false := decide_eq_false h1
          by_cases h2 : E = dd
          · subst h2
            by_cases h3 : x3 < b3
            · have h3d : decide (x3 < b3) = true := decide_eq_true h3
              have HZ := Lib.hid ((decF_cons HNE.out).symm.trans HFF.out)
              rw [if_pos (.inr ⟨HE.out, h3⟩), HE.out] at HZ
              go_wp2_with fail
              go_quiet (fail)
              go_wp2_with fail
              go_roundw
              case rel => exact ⟨k + 1, ⟨x0, x1, x2, x3⟩, E, by omega, by go_num, rfl, HZ, Lib.hid ((HBq.out.drewN _).put ⟨x0, x1, x2, x3⟩), below_putU (below_drewN bgz _) (Nat.le_refl _) ⟨x0, x1, x2, x3⟩⟩
              case measure => simp [intOf]; omega
            · have h3d : decide (x3 < b3) = false := decide_eq_false h3
              have HZ := Lib.hid ((decF_cons HNE.out).symm.trans HFF.out)
              rw [if_neg (by rw [HE.out]; rintro (q | ⟨_, q⟩); exact h1 q; exact h3 q)] at HZ
              go_wp2_with fail
              go_quiet (fail)
              go_wp2_with fail
              go_roundw
              case rel => exact ⟨k + 1, ⟨b0, b1', b2, b3⟩, _, by omega, by go_num, rfl, HZ, Lib.hid (HBq.out.drewN _), below_drewN bgz _⟩
              case measure => simp [intOf]; omega
          · have h2d : (E == dd) = false := by simp [h2]
            have HZ := Lib.hid ((decF_cons HNE.out).symm.trans HFF.out)
            rw [if_neg (by rw [HE.out]; rintro (q | ⟨q, _⟩); exact h1 q; exact h2 q)] at HZ
            go_wp2_with fail
            go_quiet (fail)
            go_wp2_with fail
            go_roundw
            case rel => exact ⟨k + 1, ⟨b0, b1', b2, b3⟩, _, by omega, by go_num, rfl, HZ, Lib.hid (HBq.out.drewN _), below_drewN bgz _⟩
            case measure => simp [intOf]; omega
    · obtain rfl : k = R.length := by omega
      have hfin := HF.out
      rw [List.drop_length, HRES.out] at hfin
      obtain ⟨rfl, rfl⟩ := Prod.mk.inj (show (b, dd) = (q, d) from hfin)
      obtain ⟨b0, b1', b2, b3⟩ := b
      obtain ⟨p0, p1, p2, p3, y0, y1, y2, y3⟩ := HB.out
      obtain ⟨z0, z1, z2, z3, u0, u1, u2, u3⟩ := HX.out
      simp only [ruD] at z0 z1 z2 z3 p0 p1 p2 p3 ⊢
      have hne : w1.heap.size ≠ w.heap.size + 1 := by omega
      clear hfin
      go_wp2_with fail
      refine bodyPost_ret (v := .tuple #[.agg #[.int .i64 b0, .int .i64 b1', .int .i64 b2, .int .i64 b3], .int .i64 dd]) (by simp [results, Try.results123 , go_sem, z0, z1, z2, z3]) rfl ⟨rfl, ?_⟩
      exact below_putU bw (by omega) ⟨b0, b1', b2, b3⟩


end Go.Proofs.Ytenjajcknmfhfaa

namespace Go.Proofs.Ytenjajcknmfhfaa
set_option linter.unusedVariables false
open Go.RowKit Go.Sort Go.Maps

structure LOK (D : DataW Unit) (made : Int) (es : List Ev) : Prop where
  tidy : Tidy D
  has_ : ∀ s : Int, has D (.int .i64 s) = (lookE made es s).isSome
  at_ : ∀ (s d : Int), lookE made es s = some d → D.atKey (.int .i64 s) (.lit (.int .i64 0)) = .lit (.int .i64 d)
theorem LOK.start (made : Int) : LOK (DataW.put (.map []) (.int .i64 0) (.lit (.int .i64 made))) made [] := by
  have hk : WideAt.IsKeyLit (.int .i64 0) := trivial
  have ht : Tidy (.map [] : DataW Unit) := tidy_empty
  refine ⟨ht.put hk _, fun s => ?_, fun s d h => ?_⟩
  · by_cases e : s = 0
    · subst e; rw [has_put_same ht.isMap hk]; rfl
    · rw [has_put_other (by simp; exact fun q => e q), has_eq]; simp [lookE, e]
  · by_cases e : s = 0
    · subst e
      simp [lookE] at h
      subst h
      exact atKey_put_same ht.isMap hk _ _
    · simp [lookE, e] at h
theorem LOK.put {D : DataW Unit} {made : Int} {es : List Ev} (h : LOK D made es) (e : Ev) : LOK (D.put (.int .i64 e.kind) (.lit (.int .i64 e.day))) made (es ++ [e]) := by
  have hk : WideAt.IsKeyLit (.int .i64 e.kind) := trivial
  refine ⟨h.tidy.put hk _, fun s => ?_, fun s d hd => ?_⟩
  · rw [lookE_snoc]
    by_cases q : e.kind = s
    · subst q; rw [has_put_same h.tidy.isMap hk, if_pos rfl]; rfl
    · rw [has_put_other (by simp; exact fun z => q z.symm), h.has_, if_neg q]
  · rw [lookE_snoc] at hd
    by_cases q : e.kind = s
    · subst q
      rw [if_pos rfl] at hd
      cases hd
      exact atKey_put_same h.tidy.isMap hk _ _
    · rw [if_neg q] at hd
      rw [atKey_put_other (by simp; exact fun z => q z.symm)]
      exact h.at_ s d hd
theorem LOK.day {D : DataW Unit} {r : Rec} (h : LOK D r.made r.evs) (hr : isRec r = true) (k : Int) : has D (.int .i64 k) = decide (0 ≤ dayOf r k) ∧ (0 ≤ dayOf r k → D.atKey (.int .i64 k) (.lit (.int .i64 0)) = .lit (.int .i64 (dayOf r k))) := by
  have h1 := lookE_dayOf hr k
  refine ⟨?_, fun h0 => ?_⟩
  · rw [h.has_, h1]
    by_cases q : dayOf r k < 0
    · rw [if_pos q, decide_eq_false (by omega)]; rfl
    · rw [if_neg q, decide_eq_true (by omega)]; rfl
  · exact h.at_ k _ (by rw [h1, if_neg (by omega)])

theorem wf_of_inI {n : Int} (h : inI n) : (Lit.int .i64 n).wf = true := by unfold inI at h; simp [Lit.wf, IntKind.min, IntKind.max, IntKind.signed, IntKind.bits]; omega
theorem key_day (s : Int) (h : inI s) : keyOf Try.prog 3 (.int .i64 s) = some (.int .i64 s) := keyOf_int_mk Try.underlying3 (wf_of_inI h)
abbrev DayS (w : World) (b n : Nat) (D : DataW Unit) : Prop := w.ownsMap Try.prog 3 (plainElem Try.prog 3) b n D
theorem zero_int (w : World) : (zeroValue 3).run Try.prog w = .ok (.int .i64 0) w := by kernel_rfl
theorem wpList_insert_own {H : Type} {P : Program} (w : World) {ops : Array Oper} {rest : List Oper} {o : Oper} {a : Act} {Q : Exit → Act → World → Prop}
    (hg : o.guard = none) (m x v : Operand) (t : TypeId) (hop : o.op = Op.insert t m x v)
    (k e : TypeId) (K : Keyed P k) (ht : P.underlying t = some (.map k e)) (R : Value → Option (DataW H × List MemPlace)) (b n : Nat) (D : DataW H)
    (hm : a.eval m = .map (some b)) (hown : w.ownsMap P k R b n D) (hn : n < maxLen) (key val : Value) (kl : Go.Lit) (hx : a.eval x = key) (hv : a.eval v = val) (hkey : keyOf P k key = some kl)
    (d : DataW H) (ps : List MemPlace) (hval : R val = some (d, ps))
    (hK : ∀ w', w'.ownsMap P k R b (n + 1) (D.put kl d) → w.grownBy w' (some b) → wpList P ops Q rest (a.put o.dst undef) w') :
    wpList P ops Q (o :: rest) a w := by
  refine wpList_plain hg fun K' hK' => ?_
  obtain ⟨w', hrun, r1, r2⟩ := hown.update K ht hn hkey hval
  unfold Oper.wp
  simp [execOp, hop, hm, hx, hv, hrun, Result.andThen]
  exact hK' _ _ (hK w' r1 r2)

def StartD (w : World) (r : Rec) (e : Ending) (w' : World) : Prop := ∃ b D, e = .returned (.map (some b)) ∧ w.heap.size ≤ b ∧ b < w'.heap.size ∧ DayS w' b (r.evs.length + 1) D ∧ LOK D r.made r.evs ∧ Below w.heap.size w w'
set_option maxRecDepth 20000 in
set_option maxHeartbeats 4000000 in
theorem startDays_any (v : Value) (r : Rec) (w : World) (h : RecV w v r) (hn : r.evs.length ≤ 1048576) :
    Calls Try.prog 178 #[v] w (StartD w r) := by
  obtain ⟨s, rfl, h1, hok⟩ := h
  obtain ⟨a1, c1, rfl, hl1, hm1, r1⟩ := h1.evs
  have R1 := Lib.hid r1
  clear h1 r1
  unfold maxLen at hm1
  have hmm := @run_makeMap Try.prog
  have him : inI r.made := hok.2.2
  have HK0 := Lib.hid (key_day 0 (by simp [inI]))
  have HVM := Lib.hid (plainElem_int (H := Unit) Try.underlying3 (wf_of_inI him))
  have M0 : Hid (DayS ((w.alloc (.cells #[.int .i64 r.id, .int .i64 r.series, .int .i64 r.made, .slice a1 r.evs.length c1] 63 (0, 0))).alloc (.map #[] 0)) (w.heap.size + 1) 0 (.map [])) :=
    Lib.hid (by simpa using World.ownsMap_made (w.alloc (.cells #[.int .i64 r.id, .int .i64 r.series, .int .i64 r.made, .slice a1 r.evs.length c1] 63 (0, 0))) Try.prog 3 (plainElem (H := Unit) Try.prog 3))
  have c3 := cell_new w #[.int .i64 r.id, .int .i64 r.series, .int .i64 r.made, .slice a1 r.evs.length c1] 63 3 (v := .slice a1 r.evs.length c1) rfl
  have c2 := cell_new w #[.int .i64 r.id, .int .i64 r.series, .int .i64 r.made, .slice a1 r.evs.length c1] 63 2 (v := .int .i64 r.made) rfl
  clear him hok
  go_enter Try.func178, Try.ntmps178
  go_wp2_with (first | (refine wpList_insert_own _ rfl _ _ _ 115 rfl 3 3 (int_keyed Try.underlying3) Try.underlying115 (plainElem (H := Unit) Try.prog 3) (w.heap.size + 1) 0 (.map []) rfl M0.out (by unfold maxLen; omega) (.int .i64 0) (.int .i64 r.made) (.int .i64 0) rfl rfl HK0.out (.lit (.int .i64 r.made)) [] HVM.out ?_; intro w2 hown2 hg2; have HM2 := Lib.hid hown2; have HG2 := Lib.hid hg2; have s2 := hg2.size; have p3 := hg2.cell (below_al_cell c3 (.map #[] 0)) (by simp); have bw2 := (below_al (below_al (Below.refl w.heap.size w) (.cells #[.int .i64 r.id, .int .i64 r.series, .int .i64 r.made, .slice a1 r.evs.length c1] 63 (0, 0))) (.map #[] 0)).grown hg2 (by simp; omega) (fun g e => by cases e; omega); simp at s2; clear hown2 hg2 M0 c3 c2))
  go_loopw [13] (fun i wr => ∃ (k : Nat) (D : DataW Unit), k ≤ r.evs.length ∧ i = .int .i64 k ∧ Hid (LOK D r.made (r.evs.take k)) ∧ Hid (DayS wr (w.heap.size + 1) (k + 1) D) ∧ Below w.heap.size w wr ∧ w.heap.size + 1 < wr.heap.size) (fun i _ => r.evs.length - (intOf i).toNat)
  case atStart => exact ⟨0, _, Nat.zero_le _, rfl, Lib.hid (by simpa using LOK.start r.made), HM2, bw2, by omega⟩
  case round =>
    clear HM2 HG2 bw2 s2
    obtain ⟨k, D, hk, rfl, HD, HM, hb, hmb⟩ := hrel
    by_cases hlt : k < r.evs.length
    · obtain ⟨b1, o1, hb1, rfl, e1⟩ := R1.out.resolve_left (fun e => by rw [e] at hlt; simp at hlt)
      obtain ⟨⟨x, y⟩, hx⟩ : ∃ s, r.evs.getD k evD = s := ⟨_, rfl⟩
      obtain ⟨q1, q2, hok⟩ := e1 k hlt
      rw [hx] at q1 q2 hok
      have f1 := cell_kept q1 hb
      have f2 := cell_kept q2 hb
      simp only at f1 f2
      have hix : inI x := hok.1
      have hiy : inI y := hok.2
      have htk : r.evs.take (k + 1) = r.evs.take k ++ [⟨x, y⟩] := by rw [List.take_succ_eq_append_getElem hlt, ← getD_lt hlt, hx]
      have HPUT := Lib.hid (HD.out.put ⟨x, y⟩)
      rw [← htk] at HPUT
      have HIN := Lib.hid (key_day x hix)
      have HVY := Lib.hid (plainElem_int (H := Unit) Try.underlying3 (wf_of_inI hiy))
      have g0 : (0 : Int) ≤ (k : Int) := by omega
      have g1 : (k : Int) < (r.evs.length : Int) := by omega
      clear q1 q2 hok e1 hx htk hix hiy
      go_wp2_with (first | (at_mapUpdate; refine wpList_mapUpdate_own _ rfl _ _ _ 115 rfl 3 3 (int_keyed Try.underlying3) Try.underlying115 (plainElem (H := Unit) Try.prog 3) (w.heap.size + 1) (k + 1) D rfl (HM.out.alloc _) (by unfold maxLen; omega) (.int .i64 x) (.int .i64 y) (.int .i64 x) rfl rfl HIN.out (.lit (.int .i64 y)) [] HVY.out ?_; intro w3 hown3 hg3; have HM3 := Lib.hid hown3; have HG3 := Lib.hid hg3; clear hown3 hg3))
      go_roundw
      case rel =>
        have s3 := HG3.out.size
        simp at s3
        exact ⟨k + 1, _, by omega, by go_num, HPUT, HM3, (hb.alloc hb.size _).grown HG3.out (by have := hb.size; simp; omega) (fun g e => by cases e; omega), by omega⟩
      case measure => simp [intOf]; omega
    · obtain rfl : k = r.evs.length := by omega
      have HD2 := Lib.hid (by have := HD.out; rw [List.take_length] at this; exact this : LOK D r.made r.evs)
      clear HD
      go_wp2_with fail
      go_ret
      exact ⟨_, D, rfl, by omega, hmb, HM.out, HD2.out, hb⟩

def perRules (r : Rec) (t : List Ru) : List Ru := if askB r t = true then forRu t r.series else []
def perEnds (r : Rec) (t : List Ru) : List Int := if askB r t = true then endsF r t else []
theorem ruf_ask {r : Rec} {t : List Ru} (hr : isRec r = true) : rufRes t r.series = if isSch t = true then (forRu t r.series, true) else ([], false) := by
  have := (isRec_iff.1 hr).2.1
  unfold rufRes
  simp [this.1, this.2]
def PeriodsD (w : World) (r : Rec) (t : List Ru) (e : Ending) (w' : World) : Prop :=
  ∃ u1 u2, e = .returned (.tuple #[u1, u2, .bool (askB r t)]) ∧ RusO w.heap.size w'.heap.size w' u1 (perRules r t) ∧ IntsO w.heap.size w'.heap.size w' u2 (perEnds r t) ∧ Below w.heap.size w w'
theorem ints_nil (lo hi : Nat) (w : World) : IntsO lo hi w (.slice none 0 0) [] := ⟨World.ownsRow_nil _ _ _ _, Under.nil _ _ _⟩
theorem ints_ofRow {lo n : Nat} {w : World} {v : Value} {xs : List Int} (h : w.ownsRow lo 3 1 v n (xs.map vI)) (hn : n = xs.length) : IntsO lo w.heap.size w v xs := ⟨by rw [← hn]; exact h, fun g hg => (h.lt g hg).2⟩
set_option maxRecDepth 20000 in
set_option maxHeartbeats 8000000 in
theorem periodsOf_any (v v1 : Value) (r : Rec) (t : List Ru) (w : World) (h : RecV w v r) (h1 : RowR 4 rRu w v1 t) (hn : t.length ≤ 1048576) :
    Calls Try.prog 149 #[v, v1] w (PeriodsD w r t) := by
  obtain ⟨i0, hi, hz0, hz1, hz2⟩ := info_parts Try.info_intI
  obtain ⟨s, rfl, h0, hok⟩ := h
  have HV := Lib.hid (show ∀ W, Below w.heap.size w W → RecV W (.agg #[.int .i64 r.id, .int .i64 r.series, .int .i64 r.made, s]) r from fun W hb => ⟨s, rfl, h0.below rEv_stable hb, hok⟩)
  have H1 := Lib.hid h1
  obtain ⟨br, hr⟩ : ∃ b, isRec r = b := ⟨_, rfl⟩
  obtain ⟨R, bR, hR⟩ : ∃ R b, rufRes t r.series = (R, b) := ⟨_, _, rfl⟩
  have HR := Lib.hid hr
  have HRR := Lib.hid hR
  clear h0 hok h1 hr hR
  have b0 := below_al (Below.refl w.heap.size w) (.cells #[.int .i64 r.id, .int .i64 r.series, .int .i64 r.made, s] 63 (0, 0))
  have HC0 := Lib.hid (Box4.new w r s 63)
  cases bR
  · have HA : Hid (askB r t = false) := Lib.hid (by
      rcases ha : askB r t with _ | _
      · rfl
      · have := ask_iff.1 ha
        have hq := HRR.out
        rw [ruf_ask this.1, if_pos this.2] at hq
        cases hq)
    go_enter Try.func149, Try.ntmps149
    go_wp2_with (first | (go_at_call 23; refine (implRulesFor_any _ t r.series _ (H1.out.below rRu_stable b0) hn R false HRR.out).mono ?_; rintro e w1 ⟨u1, rfl, ho1, b1⟩; replace b1 := below_chain b0 b1; clear ho1))
    go_ret3
    exact ⟨_, _, by rw [HA.out]; rfl, by unfold perRules; rw [HA.out]; exact RusO.nil _ _ _, by unfold perEnds; rw [HA.out]; exact ints_nil _ _ _, b1⟩
  · cases br
    · have HA : Hid (askB r t = false) := Lib.hid (by unfold askB; rw [HR.out]; rfl)
      go_enter Try.func149, Try.ntmps149
      go_wp2_with (first | (go_at_call 23; refine (implRulesFor_any _ t r.series _ (H1.out.below rRu_stable b0) hn R true HRR.out).mono ?_; rintro e w1 ⟨u1, rfl, ho1, b1⟩; obtain ⟨c0, c1, c2, c3⟩ := HC0.out.kept b1; obtain ⟨ga, gn, gc, rfl⟩ := ho1.1.slice; replace b1 := below_chain b0 b1; clear ho1) | (go_at_call 128; refine (implIsRecord_any _ r _ (HV.out _ b1)).mono ?_; rw [HR.out]; rintro e w2 ⟨rfl, b2⟩))
      go_ret3
      exact ⟨_, _, by rw [HA.out]; rfl, by unfold perRules; rw [HA.out]; exact RusO.nil _ _ _, by unfold perEnds; rw [HA.out]; exact ints_nil _ _ _, below_chain b1 b2⟩
    · have hq := HRR.out
      rw [ruf_ask HR.out] at hq
      have hs : isSch t = true := by
        rcases hs : isSch t with _ | _
        · rw [hs] at hq; simp at hq
        · rfl
      rw [if_pos hs] at hq
      obtain ⟨hRf, _⟩ := Prod.mk.inj hq
      have ha : askB r t = true := ask_iff.2 ⟨HR.out, hs⟩
      have HA := Lib.hid ha
      have HPR := Lib.hid (show perRules r t = R by unfold perRules; rw [if_pos ha, hRf])
      have HPE := Lib.hid (show perEnds r t = R.map (endR r) by unfold perEnds; rw [if_pos ha]; unfold endsF; rw [hRf])
      have HRU := Lib.hid (show ∀ u ∈ R, isRu u = true by rw [← hRf]; exact forRu_ok hs r.series)
      have hRl : R.length ≤ 8 := by rw [← hRf]; exact Nat.le_trans (forRu_len t r.series) (sch_len hs)
      have hev : r.evs.length ≤ 6 := (isRec_iff.1 HR.out).2.2.2.1
      clear hq hs hRf ha
      go_enter Try.func149, Try.ntmps149
      go_wp2_with (first | (go_at_call 23; refine (implRulesFor_any _ t r.series _ (H1.out.below rRu_stable b0) hn R true HRR.out).mono ?_; rintro e w1 ⟨u1, rfl, ho1, b1⟩; have HC1 := Lib.hid (HC0.out.kept b1); obtain ⟨c0, c1, c2, c3⟩ := HC1.out; obtain ⟨ga, gc, hgv, gl, gm, gr⟩ := ho1.row.rus; subst hgv; have HO1 := Lib.hid ho1; replace b1 := below_chain b0 b1; unfold maxLen at gm; clear ho1 gr b0 HC0) | (go_at_call 128; refine (implIsRecord_any _ r _ (HV.out _ b1)).mono ?_; rw [HR.out]; rintro e w2 ⟨rfl, b2⟩; have HO2 := Lib.hid ((HO1.out.below b2).wide (Nat.le_refl _) b2.size); replace c0 := cell_kept c0 b2; replace c1 := cell_kept c1 b2; replace c2 := cell_kept c2 b2; replace c3 := cell_kept c3 b2; replace b2 := below_chain b1 b2; clear HO1 HC1 b1) | (go_at_call 178; refine (startDays_any _ r _ (HV.out _ b2) (by omega)).mono ?_; rintro e w3 ⟨mb, D, rfl, hm1, hm2, hown3, hlok, b3⟩; have HO3 := Lib.hid ((HO2.out.below b3).wide (Nat.le_refl _) b3.size); have HM3 := Lib.hid hown3; have HL := Lib.hid hlok; replace b3 := below_chain b2 b3; clear hown3 hlok c0 c1 c2 c3 b2 HO2))
      have R3 := Lib.hid (by obtain ⟨a, c, e, _, _, r⟩ := HO3.out.row.rus; cases e; exact r : R = [] ∨ ∃ b off, b < w3.heap.size ∧ ga = some ⟨b, off, none⟩ ∧ ∀ i, i < R.length → w3.cell? ⟨b, off + i * 4, none⟩ = some (.int .i64 (R.getD i ruD).series) ∧ w3.cell? ⟨b, off + i * 4 + 1, none⟩ = some (.int .i64 (R.getD i ruD).event) ∧ w3.cell? ⟨b, off + i * 4 + 2, none⟩ = some (.int .i64 (R.getD i ruD).days) ∧ w3.cell? ⟨b, off + i * 4 + 3, none⟩ = some (.int .i64 (R.getD i ruD).act) ∧ (R.getD i ruD).ok)
      go_loopw [10, 34] (fun o i wr => ∃ k : Nat, k ≤ R.length ∧ i = .int .i64 k ∧ wr.ownsRow w3.heap.size 3 1 o ((R.take k).map (endR r)).length (((R.take k).map (endR r)).map vI) ∧ Below w3.heap.size w3 wr) (fun _ i _ => R.length - (intOf i).toNat)
      case atStart => exact ⟨0, Nat.zero_le _, rfl, by simpa using World.ownsRow_nil _ _ _ _, Below.refl _ _⟩
      case round =>
        obtain ⟨k, hk, rfl, hO, hb⟩ := hrel
        have hsz := hb.size
        by_cases hlt : k < R.length
        · obtain ⟨bb, o1, hb1, rfl, e1⟩ := R3.out.resolve_left (fun e => by rw [e] at hlt; simp at hlt)
          obtain ⟨q0, q1, q2, q3, hok⟩ := e1 k hlt
          obtain ⟨⟨x0, x1, x2, x3⟩, hx⟩ : ∃ s, R.getD k ruD = s := ⟨_, rfl⟩
          rw [hx] at q0 q1 q2 q3
          simp only at q0 q1 q2 q3
          have f0 := cell_kept q0 hb
          have f1 := cell_kept q1 hb
          have f2 := cell_kept q2 hb
          have f3 := cell_kept q3 hb
          have hxu : isRu ⟨x0, x1, x2, x3⟩ = true := by rw [← hx, getRu_lt hlt]; exact HRU.out _ (List.getElem_mem hlt)
          have hxb := isRu_iff.1 hxu
          simp only at hxb
          have htake := ends_take (r := r) hlt
          rw [hx] at htake
          obtain ⟨P, hP⟩ : ∃ P, (R.take k).map (endR r) = P := ⟨_, rfl⟩
          have hPl : P.length ≤ 8 := by rw [← hP, List.length_map, List.length_take]; omega
          rw [hP] at hO htake
          have HT := Lib.hid htake
          have HMr := Lib.hid (HM3.out.kept (grownBy_of_below hb none) (by simp))
          have hin : inI x1 := by unfold inI; omega
          have HKY := Lib.hid (key_day x1 hin)
          obtain ⟨hh, hat0⟩ := HL.out.day HR.out x1
          have hd1 := dayOf_top HR.out x1
          obtain ⟨d, hd⟩ : ∃ d, dayOf r x1 = d := ⟨_, rfl⟩
          rw [hd] at hh hat0 hd1
          have he : endR r ⟨x0, x1, x2, x3⟩ = if d < 0 then -1 else d + x2 := by unfold endR; simp only; rw [hd]
          have HE := Lib.hid he
          have HAT := Lib.hid hat0
          have g0 : (0 : Int) ≤ (k : Int) := by omega
          have g1 : (k : Int) < (R.length : Int) := by omega
          have hx2 := hxb.2.2.1
          clear q0 q1 q2 q3 hok e1 hx htake hP hxu hin hd he hat0 hxb
          by_cases hn : 0 ≤ d
          · have hh2 : Maps.has D (.int .i64 x1) = true := by rw [hh]; exact decide_eq_true hn
            have hw : IntKind.i64.wrap (d + x2) = d + x2 := Go.IntWalk.i64_in _ (by omega)
            have HV2 := Lib.hid (HAT.out hn)
            have HT2 : Hid ((R.take (k + 1)).map (endR r) = P ++ [d + x2]) := Lib.hid (by rw [HT.out, HE.out, if_neg (by omega)])
            clear hh
            go_wp2_with (first | (at_lookup; refine wpList_lookup_own_ok_int _ rfl _ _ 115 rfl 3 3 .i64 (int_keyed Try.underlying3) Try.underlying115 Try.underlying3 (zero_int _) mb (r.evs.length + 1) D rfl (HMr.out.alloc _) _ _ rfl HKY.out ?_; intro c hat hwc; rw [HV2.out] at hat; obtain rfl : d = c := (by simpa using hat); clear hat hwc; rw [hh2]) | (at_builtin; refine wpList_append_own _ rfl _ _ 26 rfl w3.heap.size 3 i0 (.int .i64 0) 1 8 Try.underlying26 hi hz0 hz1 hz2 rfl (by decide) _ _ _ rfl ((hO.alloc _).alloc _) ⟨wr.heap.size + 1, 0, none⟩ 1 1 [.int .i64 (d + x2)] rfl rfl (cell_oneI _ _ _ (by simp)) (by simp [Value.oneCell']) (by unfold maxLen; omega) (by omega) (by simp; omega) ?_; intro v' w4 hown' hgrow _))
            have HOWN := Lib.hid hown'
            have HB := Lib.hid (below_app (below_al hb _) (Nat.le_refl _) (hO.alloc _) hgrow)
            clear hown' hgrow hO
            go_wp2_with fail
            go_roundw
            case rel => exact ⟨k + 1, by omega, by go_num, (by rw [HT2.out]; simpa [vI] using HOWN.out), HB.out⟩
            case measure => simp [intOf]; omega
          · have hh2 : Maps.has D (.int .i64 x1) = false := by rw [hh]; exact decide_eq_false hn
            have HT2 : Hid ((R.take (k + 1)).map (endR r) = P ++ [-1]) := Lib.hid (by rw [HT.out, HE.out, if_pos (by omega)])
            clear hh
            go_wp2_with (first | (at_lookup; refine wpList_lookup_own_ok_int _ rfl _ _ 115 rfl 3 3 .i64 (int_keyed Try.underlying3) Try.underlying115 Try.underlying3 (zero_int _) mb (r.evs.length + 1) D rfl (HMr.out.alloc _) _ _ rfl HKY.out ?_; intro c hat hwc; clear hat hwc; rw [hh2]) | (at_builtin; refine wpList_append_own _ rfl _ _ 26 rfl w3.heap.size 3 i0 (.int .i64 0) 1 8 Try.underlying26 hi hz0 hz1 hz2 rfl (by decide) _ _ _ rfl ((hO.alloc _).alloc _) ⟨wr.heap.size + 1, 0, none⟩ 1 1 [.int .i64 (-1)] rfl rfl (cell_oneI _ _ _ (by simp)) (by simp [Value.oneCell']) (by unfold maxLen; omega) (by omega) (by simp; omega) ?_; intro v' w4 hown' hgrow _))
            have HOWN := Lib.hid hown'
            have HB := Lib.hid (below_app (below_al hb _) (Nat.le_refl _) (hO.alloc _) hgrow)
            clear hown' hgrow hO
            go_wp2_with fail
            go_roundw
            case rel => exact ⟨k + 1, by omega, by go_num, (by rw [HT2.out]; simpa [vI] using HOWN.out), HB.out⟩
            case measure => simp [intOf]; omega
        · obtain rfl : k = R.length := by omega
          rw [List.take_length] at hO
          have HO := Lib.hid hO
          clear hO
          have s3 := b3.size
          go_wp2_with fail
          go_ret3
          refine ⟨_, _, by rw [HA.out]; rfl, ?_, ?_, b3.trans (hb.mono s3)⟩
          · rw [HPR.out]; exact (HO3.out.below hb).wide (by simp) hsz
          · rw [HPE.out]; exact (ints_ofRow HO.out rfl).wide s3 (Nat.le_refl _)
end Go.Proofs.Ytenjajcknmfhfaa

namespace Go.Proofs.Ytenjajcknmfhfaa
set_option linter.unusedVariables false
open Go.RowKit Go.Sort

theorem wp_scope_forward {P : Program} {Q : Exit → Act → World → Prop} {a : Act} {w : World} {c : Code} (l : Nat) (rest : Code) (hf : findLabel c l = some rest)
    (first : c.wp P (Exit.jump l (fun a w => rest.wp P (Exit.noGoto Q) a w) Q) a w) : (Code.scope c).wp P Q a w :=
  wp_scope_jumps l (fun a w => rest.wp P (Exit.noGoto Q) a w) (fun _ _ => 0) hf first (fun a w hJ => wp_mono hJ (by
    intro e a w h
    cases e <;> first | exact h | exact h.elim))
theorem per_nil {r : Rec} {t : List Ru} (h : (perRules r t).length = 0) : setF r t = (ruD, 0, false) := by
  rcases ha : askB r t with _ | _
  · exact setF_no (.inl ha)
  · refine setF_no (.inr ?_)
    unfold perRules at h
    rw [if_pos ha] at h
    have hq := ask_iff.1 ha
    rcases Int.lt_or_le (dueF r t) 0 with h1 | h1
    · exact h1
    · exact absurd (List.length_eq_zero_iff.1 h) ((set_told hq.1 hq.2).1 h1).1
theorem per_open {r : Rec} {t : List Ru} (h : (-1 : Int) ∈ perEnds r t) : setF r t = (ruD, 0, false) := by
  rcases ha : askB r t with _ | _
  · exact setF_no (.inl ha)
  · refine setF_no (.inr ?_)
    unfold perEnds at h
    rw [if_pos ha] at h
    have hq := ask_iff.1 ha
    rcases Int.lt_or_le (dueF r t) 0 with h1 | h1
    · exact h1
    · exact absurd h ((set_told hq.1 hq.2).1 h1).2
theorem per_told {r : Rec} {t : List Ru} (h : (perRules r t).length ≠ 0) (h2 : ¬ (-1 : Int) ∈ perEnds r t) : askB r t = true ∧ perRules r t = forRu t r.series ∧ perEnds r t = endsF r t ∧ setF r t = (ruleF r t, dueF r t, true) := by
  rcases ha : askB r t with _ | _
  · unfold perRules at h; rw [if_neg (by rw [ha]; simp)] at h; simp at h
  · have hq := ask_iff.1 ha
    have e1 : perRules r t = forRu t r.series := by unfold perRules; rw [if_pos ha]
    have e2 : perEnds r t = endsF r t := by unfold perEnds; rw [if_pos ha]
    refine ⟨rfl, e1, e2, setF_yes ha ((set_told hq.1 hq.2).2 ⟨fun e => h (by rw [e1, e]; rfl), by rw [← e2]; exact h2⟩)⟩
theorem per_len (r : Rec) (t : List Ru) : (perEnds r t).length = (perRules r t).length := by
  unfold perEnds perRules
  split
  · unfold endsF; rw [List.length_map]
  · rfl
theorem per_le (r : Rec) (t : List Ru) : (perRules r t).length ≤ t.length := by
  unfold perRules
  split
  · exact forRu_len _ _
  · exact Nat.zero_le _
set_option maxRecDepth 20000 in
set_option maxHeartbeats 8000000 in
theorem settle_any (v v1 : Value) (r : Rec) (t : List Ru) (w : World) (h : RecV w v r) (h1 : RowR 4 rRu w v1 t) (hn : t.length ≤ 1048576) (q : Ru) (d : Int) (b : Bool) (hres : setF r t = (q, d, b)) :
    Calls Try.prog 102 #[v, v1] w fun e w' => e = .returned (.tuple #[.agg #[.int .i64 q.series, .int .i64 q.event, .int .i64 q.days, .int .i64 q.act], .int .i64 d, .bool b]) ∧ Below w.heap.size w w' := by
  obtain ⟨s, rfl, h0, hok⟩ := h
  have HV := Lib.hid (show ∀ W, Below w.heap.size w W → RecV W (.agg #[.int .i64 r.id, .int .i64 r.series, .int .i64 r.made, s]) r from fun W hb => ⟨s, rfl, h0.below rEv_stable hb, hok⟩)
  have H1 := Lib.hid h1
  have HRES := Lib.hid hres
  have hpl := per_len r t
  have hpe := per_le r t
  obtain ⟨R, hR⟩ : ∃ R, perRules r t = R := ⟨_, rfl⟩
  obtain ⟨E, hE⟩ : ∃ E, perEnds r t = E := ⟨_, rfl⟩
  rw [hR] at hpl hpe
  rw [hE] at hpl
  have HPL := Lib.hid hpl
  have HR := Lib.hid hR
  have HE := Lib.hid hE
  clear h0 hok h1 hres hR hE hpl
  have b0 := below_al (below_al (Below.refl w.heap.size w) (RBOX r s 63)) (.cells #[.int .i64 0, .int .i64 0, .int .i64 0, .int .i64 0] 56 (0, 0))
  have HX0 : Hid (UBox ((w.alloc (RBOX r s 63)).alloc (.cells #[.int .i64 0, .int .i64 0, .int .i64 0, .int .i64 0] 56 (0, 0))) (w.heap.size + 1) ruD) := Lib.hid (by rw [← (show (w.alloc (RBOX r s 63)).heap.size = w.heap.size + 1 by simp)]; exact UBox.new (w.alloc (RBOX r s 63)) ruD 56)
  by_cases hz : R.length = 0
  · have hz1 : ((R.length : Int) == 0) = true := by simp [hz]
    have hz2 : decide ((R.length : Int) = 0) = true := decide_eq_true (by omega)
    have hz3 : decide (R.length = 0) = true := decide_eq_true hz
    have hq := HRES.out
    rw [per_nil (by rw [HR.out]; exact hz)] at hq
    cases hq
    have HZ := Lib.hid hz
    clear hz
    go_enter Try.func102, Try.ntmps102
    go_wp2_with (first | (go_at_call 149; refine (periodsOf_any _ _ r t _ (HV.out _ b0) (H1.out.below rRu_stable b0) hn).mono ?_; rintro e w1 ⟨u1, u2, rfl, ho1, ho2, b1⟩; rw [HR.out] at ho1; rw [HE.out] at ho2; have HX1 := Lib.hid (HX0.out.kept b1); obtain ⟨z0, z1, z2, z3, y0, y1, y2, y3⟩ := HX1.out; simp only [ruD] at z0 z1 z2 z3; replace b1 := below_chain b0 b1; obtain ⟨a1, n1, c1, hu1⟩ := ho1.1.slice; obtain ⟨a1', c1', hv, hl1, hm1, r1⟩ := ho1.row.rus; subst hv; unfold maxLen at hm1; clear hu1 r1 ho1 ho2))
    refine bodyPost_ret (v := .tuple #[.agg #[.int .i64 0, .int .i64 0, .int .i64 0, .int .i64 0], .int .i64 0, .bool false]) (by simp [results, Try.results102, go_sem, z0, z1, z2, z3]) rfl ⟨rfl, ?_⟩
    exact below_putU b1 (by omega) ruD
  · have hz1 : ((R.length : Int) == 0) = false := by simp [hz]
    have hz2 : decide ((R.length : Int) = 0) = false := decide_eq_false (by omega)
    have hz3 : decide (R.length = 0) = false := decide_eq_false hz
    have HZ := Lib.hid hz
    have hpos : (0 : Int) < (R.length : Int) := by omega
    clear hz
    by_cases ho : (-1 : Int) ∈ E
    · have hq := HRES.out
      rw [per_open (by rw [HE.out]; exact ho)] at hq
      cases hq
      have HO := Lib.hid (decide_eq_true ho)
      clear ho
      go_enter Try.func102, Try.ntmps102
      go_wp2_with (first | (go_at_call 149; refine (periodsOf_any _ _ r t _ (HV.out _ b0) (H1.out.below rRu_stable b0) hn).mono ?_; rintro e w1 ⟨u1, u2, rfl, ho1, ho2, b1⟩; rw [HR.out] at ho1; rw [HE.out] at ho2; have HX1 := Lib.hid (HX0.out.kept b1); replace b1 := below_chain b0 b1; obtain ⟨a1', c1', hv, hl1, hm1, r1⟩ := ho1.row.rus; subst hv; unfold maxLen at hm1; have HO2 := Lib.hid ho2; clear r1 ho1 ho2) | (go_at_call 85; refine (contains_any _ E _ _ HO2.out.row).mono ?_; rw [HO.out]; rintro e w2 ⟨rfl, b2⟩; have HX2 := Lib.hid (HX1.out.kept b2); obtain ⟨z0, z1, z2, z3, y0, y1, y2, y3⟩ := HX2.out; simp only [ruD] at z0 z1 z2 z3; replace b2 := below_chain b1 b2))
      refine bodyPost_ret (v := .tuple #[.agg #[.int .i64 0, .int .i64 0, .int .i64 0, .int .i64 0], .int .i64 0, .bool false]) (by simp [results, Try.results102, go_sem, z0, z1, z2, z3]) rfl ⟨rfl, ?_⟩
      exact below_putU b2 (by omega) ruD
    · obtain ⟨ha, hRf, hEf, hset⟩ := per_told (by rw [HR.out]; exact HZ.out) (by rw [HE.out]; exact ho)
      rw [HR.out] at hRf
      rw [HE.out] at hEf
      have hq := HRES.out
      rw [hset] at hq
      cases hq
      have HO := Lib.hid (decide_eq_false ho)
      have hask := ask_iff.1 ha
      have hshut : ∀ u ∈ R, 0 ≤ endR r u := fun u hu => by
        rcases Int.lt_or_le (endR r u) 0 with hlt | hlt
        · exact absurd (by rw [hEf]; exact (open_mem hask.1 hask.2).2 ⟨u, by rw [← hRf]; exact hu, hlt⟩) ho
        · exact hlt
      have HSH := Lib.hid hshut
      have HEM := Lib.hid (show E = R.map (endR r) by rw [hEf, hRf]; rfl)
      have hdec : decR r R = (ruleF r t, dueF r t) := by rw [hRf]; rfl
      have HRU := Lib.hid (show ∀ u ∈ R, isRu u = true by rw [hRf]; exact forRu_ok hask.2 r.series)
      have HDEC := Lib.hid hdec
      obtain ⟨Q1, hQ1⟩ : ∃ x, ruleF r t = x := ⟨_, rfl⟩
      obtain ⟨D1, hD1⟩ : ∃ x, dueF r t = x := ⟨_, rfl⟩
      rw [hQ1, hD1] at HDEC ⊢
      clear ho hRf hEf hset ha hask hshut hdec hQ1 hD1
      go_enter Try.func102, Try.ntmps102
      go_wp2_with (first | (go_at_call 149; refine (periodsOf_any _ _ r t _ (HV.out _ b0) (H1.out.below rRu_stable b0) hn).mono ?_; rintro e w1 ⟨u1, u2, rfl, ho1, ho2, b1⟩; rw [HR.out] at ho1; rw [HE.out] at ho2; have HX1 := Lib.hid (HX0.out.kept b1); replace b1 := below_chain b0 b1; obtain ⟨a1', c1', hv, hl1, hm1, r1⟩ := ho1.row.rus; subst hv; unfold maxLen at hm1; have HO1 := Lib.hid ho1; have HO2 := Lib.hid ho2; obtain ⟨a2, c2, hv2, hl2, hm2, r2⟩ := ho2.row; subst hv2; rw [HPL.out] at hl2; unfold maxLen at hm2; clear r1 r2 ho1 ho2) | (go_at_call 85; refine (contains_any _ E _ _ HO2.out.row).mono ?_; rw [HO.out]; rintro e w2 ⟨rfl, b2⟩; have HX2 := Lib.hid (HX1.out.kept b2); have hx2 := HO1.out.row.below rRu_stable b2; have hy2 := (HO2.out.below b2).row; replace b2 := below_chain b1 b2))
      have hEl : E.length = R.length := HPL.out
      have hR0 : 0 < R.length := by omega
      have hE0 : 0 < E.length := by omega
      obtain ⟨_, _, hva, _, _, rA⟩ := hx2.rus
      cases hva
      obtain ⟨bR, oR, hbR, rfl, eR⟩ := rA.resolve_left (fun e => by rw [e] at hR0; simp at hR0)
      obtain ⟨_, _, hvb, _, _, rB⟩ := hy2
      cases hvb
      obtain ⟨bE, oE, hbE, rfl, eE⟩ := rB.resolve_left (fun e => by rw [e] at hE0; simp at hE0)
      have ER := Lib.hid eR
      have EE := Lib.hid eE
      obtain ⟨q0, q1, q2, q3, hok0⟩ := eR 0 hR0
      obtain ⟨⟨x0, x1, x2, x3⟩, hx⟩ : ∃ s, R.getD 0 ruD = s := ⟨_, rfl⟩
      rw [hx] at q0 q1 q2 q3
      have p0 := eE 0 hE0
      obtain ⟨d0, hd0⟩ : ∃ x, E[0] = x := ⟨_, rfl⟩
      rw [hd0] at p0
      simp only [vI, Nat.zero_mul, Nat.add_zero] at q0 q1 q2 q3 p0
      have HXX := Lib.hid hx
      have HD0 := Lib.hid hd0
      have ge : (0 : Int) < (E.length : Int) := by omega
      clear hEl eR eE rA rB hx2 hok0 hx hd0 HO1 HO2 HX1 b1 b0 HX0
      have hd00 : d0 = endR r ⟨x0, x1, x2, x3⟩ := by
        have e1 : E[0]? = some d0 := by rw [List.getElem?_eq_getElem hE0, HD0.out]
        rw [HEM.out, List.getElem?_map, List.getElem?_eq_getElem hR0, ← getRu_lt hR0, HXX.out] at e1
        simpa using e1.symm
      have HF0 : Hid (decF r (R.drop 0) ⟨x0, x1, x2, x3⟩ d0 = (Q1, D1)) := Lib.hid (by
        have e2 := drop_ru hR0
        rw [HXX.out] at e2
        have e3 : R = ⟨x0, x1, x2, x3⟩ :: R.drop 1 := by simpa using e2
        rw [hd00, ← HDEC.out]
        conv => rhs; rw [e3]
        rw [dec_head (by rw [← e3]; intro u hu; have := HSH.out u hu; omega), ← e3, List.drop_zero])
      clear hd00
      go_region
      go_wp2_with fail
      go_loopw [11, 37] (fun due i wr => ∃ (k : Nat) (b : Ru) (dd : Int), k ≤ R.length ∧ i = .int .i64 k ∧ due = .int .i64 dd ∧ Hid (decF r (R.drop k) b dd = (Q1, D1)) ∧ Hid (UBox wr w2.heap.size b) ∧ Below w2.heap.size w2 wr) (fun _ i _ => R.length - (intOf i).toNat)
      case atStart => exact ⟨0, ⟨x0, x1, x2, x3⟩, d0, Nat.zero_le _, rfl, rfl, HF0, Lib.hid ((UBox.new w2 ⟨x0, x1, x2, x3⟩ _).drew), (below_al (Below.refl _ _) _).drew⟩
      case round =>
        clear HF0 q0 q1 q2 q3 p0
        obtain ⟨k, b, dd, hk, rfl, rfl, HF, HB, hb⟩ := hrel
        have bw := b2.trans (hb.mono b2.size)
        have HX := Lib.hid (HX2.out.kept hb)
        have hgl := HB.out.lt
        by_cases hlt : k < R.length
        · have hlE : k < E.length := by have := HPL.out; omega
          obtain ⟨q0, q1, q2, q3, hok⟩ := ER.out k hlt
          obtain ⟨⟨z0, z1, z2, z3⟩, hx⟩ : ∃ s, R.getD k ruD = s := ⟨_, rfl⟩
          rw [hx] at q0 q1 q2 q3
          have p0 := EE.out k hlE
          obtain ⟨e, he⟩ : ∃ x, E[k] = x := ⟨_, rfl⟩
          rw [he] at p0
          simp only [vI] at q0 q1 q2 q3 p0
          have hee : e = endR r ⟨z0, z1, z2, z3⟩ := by
            have e1 : E[k]? = some e := by rw [List.getElem?_eq_getElem hlE, he]
            rw [HEM.out, List.getElem?_map, List.getElem?_eq_getElem hlt, ← getRu_lt hlt, hx] at e1
            simpa using e1.symm
          have hns : ¬ endR r ⟨z0, z1, z2, z3⟩ < 0 := by rw [← hx, getRu_lt hlt]; have := HSH.out _ (List.getElem_mem hlt); omega
          have hdrop := drop_ru hlt
          rw [hx] at hdrop
          have hcons : (if dd < e ∨ (e = dd ∧ z3 < b.act) then decF r (R.drop (k + 1)) ⟨z0, z1, z2, z3⟩ e else decF r (R.drop (k + 1)) b dd) = (Q1, D1) := by
            rw [hee, ← decF_cons hns, ← hdrop]; exact HF.out
          have HCO := Lib.hid hcons
          have f0 := cell_kept q0 hb
          have f1 := cell_kept q1 hb
          have f2 := cell_kept q2 hb
          have f3 := cell_kept q3 hb
          have e0 := cell_kept p0 hb
          have g0 : (0 : Int) ≤ (k : Int) := by omega
          have g1 : (k : Int) < (R.length : Int) := by omega
          have g2 : (k : Int) < (E.length : Int) := by omega
          obtain ⟨b0, b1', b2', b3⟩ := b
          clear q0 q1 q2 q3 p0 hok hx he hee hns hdrop hcons HF
          go_wp2_with fail
          generalize hWE : wr.alloc (.cells #[.int .i64 z0, .int .i64 z1, .int .i64 z2, .int .i64 z3] 56 (0, 0)) = wE
          have bE : Below wr.heap.size wr wE := by rw [← hWE]; exact below_al (Below.refl _ _) _
          have HU : Hid (UBox wE wr.heap.size ⟨z0, z1, z2, z3⟩) := Lib.hid (by rw [← hWE]; exact UBox.new wr ⟨z0, z1, z2, z3⟩ _)
          have e0' := cell_kept e0 bE
          have HB' := Lib.hid (HB.out.kept bE)
          have bg := hb.trans (bE.mono hb.size)
          have hne : wr.heap.size ≠ w2.heap.size := by omega
          clear hWE e0 f0 f1 f2 f3 HX HB
          obtain ⟨c0, c1, c2', c3, y0, y1, y2, y3⟩ := HB'.out
          obtain ⟨u0, u1, u2, u3, t0, t1, t2, t3⟩ := HU.out
          simp only at c0 c1 c2' c3 u0 u1 u2 u3
          clear t0 t1 t2 t3
          by_cases h1 : dd < e
          · have HZ := Lib.hid HCO.out
            rw [if_pos (.inl h1)] at HZ
            refine wp_scope_forward 0 _ rfl ?_
            go_wp2_with fail
            apply wp_goto
            refine And.intro (a := 0 = 0) rfl ?_
            show Code.wp _ _ _ _ _
            go_wp2_with fail
            go_region
            rw [Exit.noGoto_normal]
            go_wp2_with fail
            go_roundw
            case rel => exact ⟨k + 1, ⟨z0, z1, z2, z3⟩, e, by omega, by go_num, rfl, HZ, Lib.hid ((HB'.out.put ⟨z0, z1, z2, z3⟩).drew), (below_putU bg (Nat.le_refl _) ⟨z0, z1, z2, z3⟩).drew⟩
            case measure => simp [intOf]; omega
          · by_cases h2 : e < dd
            · have h2d : decide (e < dd) = true := decide_eq_true h2
              have HZ := Lib.hid HCO.out
              rw [if_neg (by rintro (q | ⟨q, _⟩) <;> omega)] at HZ
              go_step3
              go_wp2_with fail
              try rw [Exit.noGoto_exit]
              go_wp2_with fail
              go_roundw
              case rel => exact ⟨k + 1, ⟨b0, b1', b2', b3⟩, dd, by omega, by go_num, rfl, HZ, HB', bg⟩
              case measure => simp [intOf]; omega
            · have h2d : decide (e < dd) = false := decide_eq_false h2
              by_cases h3 : z3 < b3
              · have h3d : decide (b3 ≤ z3) = false := decide_eq_false (by omega)
                have HZ := Lib.hid HCO.out
                rw [if_pos (.inr ⟨by omega, h3⟩)] at HZ
                go_step3
                go_wp2_with fail
                go_step3
                go_wp2_with fail
                go_region
                rw [Exit.noGoto_normal]
                go_wp2_with fail
                go_roundw
                case rel => exact ⟨k + 1, ⟨z0, z1, z2, z3⟩, e, by omega, by go_num, rfl, HZ, Lib.hid ((HB'.out.put ⟨z0, z1, z2, z3⟩).drew), (below_putU bg (Nat.le_refl _) ⟨z0, z1, z2, z3⟩).drew⟩
                case measure => simp [intOf]; omega
              · have h3d : decide (b3 ≤ z3) = true := decide_eq_true (by omega)
                have HZ := Lib.hid HCO.out
                rw [if_neg (by rintro (q | ⟨_, q⟩); · omega
                               · exact h3 q)] at HZ
                go_step3
                go_wp2_with fail
                try rw [Exit.noGoto_exit]
                go_wp2_with fail
                go_roundw
                case rel => exact ⟨k + 1, ⟨b0, b1', b2', b3⟩, dd, by omega, by go_num, rfl, HZ, HB', bg⟩
                case measure => simp [intOf]; omega
        · obtain rfl : k = R.length := by omega
          have hfin := HF.out
          rw [List.drop_length] at hfin
          obtain ⟨rfl, rfl⟩ := Prod.mk.inj (show (b, dd) = (Q1, D1) from hfin)
          obtain ⟨b0, b1', b2', b3⟩ := b
          obtain ⟨p0, p1, p2, p3, y0, y1, y2, y3⟩ := HB.out
          obtain ⟨z0, z1, z2, z3, u0, u1, u2, u3⟩ := HX.out
          simp only [ruD] at z0 z1 z2 z3 p0 p1 p2 p3 ⊢
          have hXl := HX2.out.lt
          have hne : w2.heap.size ≠ w.heap.size + 1 := by omega
          clear hfin
          go_wp2_with fail
          refine bodyPost_ret (v := .tuple #[.agg #[.int .i64 b0, .int .i64 b1', .int .i64 b2', .int .i64 b3], .int .i64 dd, .bool true]) (by simp [results, Try.results102, go_sem, z0, z1, z2, z3]) rfl ⟨rfl, ?_⟩
          exact below_putU bw (by omega) ⟨b0, b1', b2', b3⟩
end Go.Proofs.Ytenjajcknmfhfaa

namespace Go.Proofs.Ytenjajcknmfhfaa
set_option linter.unusedVariables false
open Go.RowKit





end Go.Proofs.Ytenjajcknmfhfaa

namespace Go.Proofs.Ytenjajcknmfhfaa
set_option linter.unusedVariables false
open Go.RowKit

theorem RowR.recs {w : World} {v : Value} {rs : List Rec} (h : RowR 4 rRec w v rs) : ∃ a cap, v = .slice a rs.length cap ∧ rs.length ≤ cap ∧ cap ≤ maxLen ∧
    (rs = [] ∨ ∃ b off, b < w.heap.size ∧ a = some ⟨b, off, none⟩ ∧ ∀ i, i < rs.length → ∃ s, w.cell? ⟨b, off + i * 4, none⟩ = some (.int .i64 (rs.getD i recD).id) ∧ w.cell? ⟨b, off + i * 4 + 1, none⟩ = some (.int .i64 (rs.getD i recD).series) ∧
      w.cell? ⟨b, off + i * 4 + 2, none⟩ = some (.int .i64 (rs.getD i recD).made) ∧ w.cell? ⟨b, off + i * 4 + 3, none⟩ = some s ∧ RowR 2 rEv w s (rs.getD i recD).evs ∧ (rs.getD i recD).ok) := by
  obtain ⟨a, cap, rfl, h1, h2, h3⟩ := h
  refine ⟨a, cap, rfl, h1, h2, h3.imp id ?_⟩
  rintro ⟨b, off, hlt, rfl, hc⟩
  refine ⟨b, off, hlt, rfl, fun i hi => ?_⟩
  obtain ⟨cs, hl, hcs, s, rfl, hr, hok⟩ := hc i hi
  have f0 := hcs 0 (by omega)
  have f1 := hcs 1 (by omega)
  have f2 := hcs 2 (by omega)
  have f3 := hcs 3 (by omega)
  simp only [List.getElem_cons_zero, List.getElem_cons_succ, Nat.add_zero] at f0 f1 f2 f3
  rw [getDr_lt hi]
  exact ⟨s, f0, f1, f2, f3, hr, hok⟩

def szR (rs : List Rec) : Nat := (rs.map (fun r => r.evs.length)).sum
theorem szR_take_succ (rs : List Rec) (k : Nat) (h : k < rs.length) : szR (rs.take (k + 1)) = szR (rs.take k) + (rs.getD k recD).evs.length := by
  unfold szR
  rw [List.take_add_one, List.getElem?_eq_getElem h, getDr_lt h, List.map_append, List.sum_append]
  simp only [Option.toList_some, List.map_cons, List.map_nil, List.sum_cons, List.sum_nil, Nat.add_zero]
theorem szR_take_le (rs : List Rec) (k : Nat) : szR (rs.take k) ≤ szR rs := by
  have h : szR rs = szR (rs.take k) + szR (rs.drop k) := by
    unfold szR
    rw [← List.sum_append, ← List.map_append, List.take_append_drop]
  omega
theorem szR_at (rs : List Rec) (i : Nat) (h : i < rs.length) : (rs.getD i recD).evs.length ≤ szR rs := by
  have h1 := szR_take_succ rs i h
  have h2 := szR_take_le rs (i + 1)
  omega


theorem Try.info_record : (Try.prog.info? 63).map (fun i => (i.zero, i.size, i.bytes)) = some (some (.agg #[.int .i64 0, .int .i64 0, .int .i64 0, .slice none 0 0]), 4, 48) := by kernel_rfl

def recC (r : Rec) (s : Value) : List Value := [.int .i64 r.id, .int .i64 r.series, .int .i64 r.made, s]
def RecsO (lo hi : Nat) (w : World) (v : Value) (rs : List Rec) : Prop :=
  ∃ (css : List (List Value)) (f : Nat → Nat), css.length = rs.length ∧ Own lo 63 4 w v css ∧ Under (f 0) v ∧ lo ≤ f 0 ∧ (∀ i, i < rs.length → f i ≤ f (i + 1)) ∧ f rs.length ≤ hi ∧
    ∀ i (h1 : i < css.length) (h2 : i < rs.length), ∃ s, css[i] = recC rs[i] s ∧ EvsO (f i) (f (i + 1)) w s rs[i].evs ∧ rs[i].ok
theorem RecsO.row {lo hi : Nat} {w : World} {v : Value} {rs : List Rec} (h : RecsO lo hi w v rs) : RowR 4 rRec w v rs := by
  obtain ⟨css, f, hl, ho, _, _, _, _, he⟩ := h
  refine ho.row hl fun i h1 h2 => ?_
  obtain ⟨s, e, hs, hok⟩ := he i h1 h2
  exact ⟨s, e, hs.row, hok⟩
theorem RecsO.below {lo hi : Nat} {w w' : World} {v : Value} {rs : List Rec} (h : RecsO lo hi w v rs) (hb : Below w.heap.size w w') : RecsO lo hi w' v rs := by
  obtain ⟨css, f, hl, ho, h1, h2, h3, h4, he⟩ := h
  refine ⟨css, f, hl, ho.below hb, h1, h2, h3, h4, fun i a b => ?_⟩
  obtain ⟨s, e, hs, hok⟩ := he i a b
  exact ⟨s, e, hs.below hb, hok⟩

theorem RecsO.only {lo hi lo' hi' : Nat} {w w' : World} {v : Value} {rs : List Rec} (h : RecsO lo hi w v rs) (hb : Only lo' hi' w w') (hh : hi' ≤ lo) : RecsO lo hi w' v rs := by
  obtain ⟨css, f, hl, ho, h1, h2, h3, h4, he⟩ := h
  refine ⟨css, f, hl, ho.only hb hh, h1, h2, h3, h4, fun i a b => ?_⟩
  obtain ⟨s, e, hs, hok⟩ := he i a b
  exact ⟨s, e, hs.only hb (by have := mono_up h3 0 i (Nat.zero_le _) (by omega); omega), hok⟩


end Go.Proofs.Ytenjajcknmfhfaa

namespace Go.Proofs.Ytenjajcknmfhfaa
set_option linter.unusedVariables false
open Go.RowKit Go.Sort

theorem notRecs {rs : List Rec} {k : Nat} (hk : k < rs.length) (h : recAtB rs k = false) : areRecs rs = false := by
  simp only [areRecs]
  rw [upto_false hk h]
  simp



end Go.Proofs.Ytenjajcknmfhfaa

namespace Go.Proofs.Ytenjajcknmfhfaa
set_option linter.unusedVariables false
open Go.RowKit Go.Sort


theorem implDueDay_any (v v1 : Value) (r : Rec) (t : List Ru) (w : World) (h : RecV w v r) (h1 : RowR 4 rRu w v1 t) (hn : t.length ≤ 1048576) (d : Int) (b : Bool) (hres : dueRes r t = (d, b)) :
    Calls Try.prog 130 #[v, v1] w fun e w' => e = .returned (.tuple #[.int .i64 d, .bool b]) ∧ Below w.heap.size w w' := by
  obtain ⟨s, rfl, h0, hok⟩ := h
  have HV := Lib.hid (show ∀ W, Below w.heap.size w W → RecV W (.agg #[.int .i64 r.id, .int .i64 r.series, .int .i64 r.made, s]) r from fun W hb => ⟨s, rfl, h0.below rEv_stable hb, hok⟩)
  have H1 := Lib.hid h1
  have b0 := below_al (Below.refl w.heap.size w) (RBOX r s 63)
  obtain ⟨q, d', b', hs⟩ : ∃ q d' b', setF r t = (q, d', b') := ⟨_, _, _, rfl⟩
  unfold dueRes at hres
  rw [hs] at hres
  obtain ⟨rfl, rfl⟩ := Prod.mk.inj hres
  have HS := Lib.hid hs
  clear h0 hok h1 hres hs
  go_enter Try.func130, Try.ntmps130
  go_wp2_with (first | (go_at_call 102; refine (settle_any _ _ r t _ (HV.out _ b0) (H1.out.below rRu_stable b0) hn q d' b' HS.out).mono ?_; rintro e w1 ⟨rfl, b1⟩; replace b1 := below_chain b0 b1))
  go_ret2
  exact ⟨rfl, below_al b1 _⟩

theorem implDecidingRule_any (v v1 : Value) (r : Rec) (t : List Ru) (w : World) (h : RecV w v r) (h1 : RowR 4 rRu w v1 t) (hn : t.length ≤ 1048576) (q : Ru) (b : Bool) (hres : decRes r t = (q, b)) :
    Calls Try.prog 41 #[v, v1] w fun e w' => e = .returned (.tuple #[.agg #[.int .i64 q.series, .int .i64 q.event, .int .i64 q.days, .int .i64 q.act], .bool b]) ∧ Below w.heap.size w w' := by
  obtain ⟨s, rfl, h0, hok⟩ := h
  have HV := Lib.hid (show ∀ W, Below w.heap.size w W → RecV W (.agg #[.int .i64 r.id, .int .i64 r.series, .int .i64 r.made, s]) r from fun W hb => ⟨s, rfl, h0.below rEv_stable hb, hok⟩)
  have H1 := Lib.hid h1
  have b0 := below_al (Below.refl w.heap.size w) (RBOX r s 63)
  obtain ⟨q', d', b', hs⟩ : ∃ q d' b', setF r t = (q, d', b') := ⟨_, _, _, rfl⟩
  unfold decRes at hres
  rw [hs] at hres
  obtain ⟨rfl, rfl⟩ := Prod.mk.inj hres
  have HS := Lib.hid hs
  replace b0 := below_al b0 (.cells #[.int .i64 0, .int .i64 0, .int .i64 0, .int .i64 0] 56 (0, 0))
  have HX0 : Hid (UBox ((w.alloc (RBOX r s 63)).alloc (.cells #[.int .i64 0, .int .i64 0, .int .i64 0, .int .i64 0] 56 (0, 0))) (w.heap.size + 1) ruD) := Lib.hid (by rw [← (show (w.alloc (RBOX r s 63)).heap.size = w.heap.size + 1 by simp)]; exact UBox.new (w.alloc (RBOX r s 63)) ruD 56)
  clear h0 hok h1 hres hs
  obtain ⟨x0, x1, x2, x3⟩ := q'
  go_enter Try.func41, Try.ntmps41
  go_wp2_with (first | (go_at_call 102; refine (settle_any _ _ r t _ (HV.out _ b0) (H1.out.below rRu_stable b0) hn _ d' b' HS.out).mono ?_; rintro e w1 ⟨rfl, b1⟩; have HX1 := Lib.hid ((HX0.out.kept b1).al (.cells #[.int .i64 x0, .int .i64 x1, .int .i64 x2, .int .i64 x3] 56 (0, 0))); obtain ⟨z0, z1, z2, z3, y0, y1, y2, y3⟩ := HX1.out; simp only [ruD] at z0 z1 z2 z3; replace b1 := below_chain b0 b1; simp only))
  refine bodyPost_ret (v := .tuple #[.agg #[.int .i64 x0, .int .i64 x1, .int .i64 x2, .int .i64 x3], .bool b']) (by simp [results, Try.results41 , go_sem, z0, z1, z2, z3]) rfl ⟨rfl, ?_⟩
  exact below_putU (below_al b1 _) (by omega) ⟨x0, x1, x2, x3⟩

set_option maxRecDepth 20000 in
set_option maxHeartbeats 2000000 in
theorem implIsDue_any (v v1 : Value) (r : Rec) (t : List Ru) (dy : Int) (w : World) (h : RecV w v r) (h1 : RowR 4 rRu w v1 t) (hn : t.length ≤ 1048576) (a b : Bool) (hres : isdRes r t dy = (a, b)) :
    Calls Try.prog 60 #[v, v1, .int .i64 dy] w fun e w' => e = .returned (.tuple #[.bool a, .bool b]) ∧ Below w.heap.size w w' := by
  obtain ⟨s, rfl, h0, hok⟩ := h
  have HV := Lib.hid (show ∀ W, Below w.heap.size w W → RecV W (.agg #[.int .i64 r.id, .int .i64 r.series, .int .i64 r.made, s]) r from fun W hb => ⟨s, rfl, h0.below rEv_stable hb, hok⟩)
  have H1 := Lib.hid h1
  have b0 := below_al (Below.refl w.heap.size w) (RBOX r s 63)
  have HC0 := Lib.hid (Box4.new w r s 63)
  obtain ⟨br, hr⟩ : ∃ b, isRec r = b := ⟨_, rfl⟩
  obtain ⟨bs, hs⟩ : ∃ b, isSch t = b := ⟨_, rfl⟩
  obtain ⟨bd, hd⟩ : ∃ b, decide (0 ≤ dy ∧ dy ≤ 20000) = b := ⟨_, rfl⟩
  have HR := Lib.hid hr
  have HS := Lib.hid hs
  have HD := Lib.hid hd
  have HRES := Lib.hid hres
  clear h0 hok h1 hres hr hs hd
  have NO : ¬ (askB r t = true ∧ (0 ≤ dy ∧ dy ≤ 20000)) → a = false ∧ b = false := fun hn => by
    have := HRES.out
    unfold isdRes at this
    rw [if_neg hn] at this
    obtain ⟨h1, h2⟩ := Prod.mk.inj this
    exact ⟨h1.symm, h2.symm⟩
  have NO := Lib.hid NO
  cases br
  · obtain ⟨rfl, rfl⟩ := NO.out (fun h => by have := ask_iff.1 h.1; rw [HR.out] at this; exact absurd this.1 (by simp))
    go_enter Try.func60, Try.ntmps60
    go_wp2_with (first | (go_at_call 128; refine (implIsRecord_any _ r _ (HV.out _ b0)).mono ?_; rw [HR.out]; rintro e w1 ⟨rfl, b1⟩; replace b1 := below_chain b0 b1))
    go_ret2
    exact ⟨rfl, b1⟩
  · cases bs
    · obtain ⟨rfl, rfl⟩ := NO.out (fun h => by have := ask_iff.1 h.1; rw [HS.out] at this; exact absurd this.2 (by simp))
      go_enter Try.func60, Try.ntmps60
      go_wp2_with (first | (go_at_call 128; refine (implIsRecord_any _ r _ (HV.out _ b0)).mono ?_; rw [HR.out]; rintro e w1 ⟨rfl, b1⟩; replace b1 := below_chain b0 b1) | (go_at_call 89; refine (implIsSchedule_any _ t _ (H1.out.below rRu_stable b1)).mono ?_; rw [HS.out]; rintro e w2 ⟨rfl, b2⟩; replace b2 := below_chain b1 b2))
      go_ret2
      exact ⟨rfl, b2⟩
    · cases bd
      · obtain ⟨rfl, rfl⟩ := NO.out (fun h => of_decide_eq_false HD.out h.2)
        go_enter Try.func60, Try.ntmps60
        go_wp2_with (first | (go_at_call 128; refine (implIsRecord_any _ r _ (HV.out _ b0)).mono ?_; rw [HR.out]; rintro e w1 ⟨rfl, b1⟩; replace b1 := below_chain b0 b1) | (go_at_call 89; refine (implIsSchedule_any _ t _ (H1.out.below rRu_stable b1)).mono ?_; rw [HS.out]; rintro e w2 ⟨rfl, b2⟩; replace b2 := below_chain b1 b2) | (go_at_call 111; refine (isDay_any _ _).mono ?_; rw [HD.out]; rintro e w3 ⟨rfl, rfl⟩))
        go_ret2
        exact ⟨rfl, b2⟩
      · have hask : askB r t = true := ask_iff.2 ⟨HR.out, HS.out⟩
        have hq := HRES.out
        unfold isdRes at hq
        rw [if_pos ⟨hask, of_decide_eq_true HD.out⟩] at hq
        obtain ⟨hqa, rfl⟩ := Prod.mk.inj hq
        obtain ⟨n, k, hdr⟩ : ∃ n k, dueRes r t = (n, k) := ⟨_, _, rfl⟩
        have hA : a = (k && decide (n ≤ dy)) := by
          rw [← hqa]
          unfold dueRes at hdr
          rcases Int.lt_or_le (dueF r t) 0 with hl | hl
          · rw [setF_no (.inr hl)] at hdr
            obtain ⟨rfl, rfl⟩ := Prod.mk.inj hdr
            simp; omega
          · rw [setF_yes hask hl] at hdr
            obtain ⟨rfl, rfl⟩ := Prod.mk.inj hdr
            simp [hl]
        subst hA
        have HDR := Lib.hid hdr
        clear hq hqa hask hdr NO HRES
        have hc := HC0.out
        cases k
        · go_enter Try.func60, Try.ntmps60
          go_wp2_with (first | (go_at_call 128; refine (implIsRecord_any _ r _ (HV.out _ b0)).mono ?_; rw [HR.out]; rintro e w1 ⟨rfl, b1⟩; have HC1 := Lib.hid (HC0.out.kept b1); replace b1 := below_chain b0 b1) | (go_at_call 89; refine (implIsSchedule_any _ t _ (H1.out.below rRu_stable b1)).mono ?_; rw [HS.out]; rintro e w2 ⟨rfl, b2⟩; obtain ⟨c0, c1, c2, c3⟩ := HC1.out.kept b2; replace b2 := below_chain b1 b2) | (go_at_call 111; refine (isDay_any _ _).mono ?_; rw [HD.out]; rintro e w3 ⟨rfl, rfl⟩) | (go_at_call 130; refine (implDueDay_any _ _ r t _ (HV.out _ b2) (H1.out.below rRu_stable b2) hn n false HDR.out).mono ?_; rintro e w4 ⟨rfl, b4⟩; replace b4 := below_chain b2 b4))
          go_ret2
          exact ⟨rfl, b4⟩
        · go_enter Try.func60, Try.ntmps60
          go_wp2_with (first | (go_at_call 128; refine (implIsRecord_any _ r _ (HV.out _ b0)).mono ?_; rw [HR.out]; rintro e w1 ⟨rfl, b1⟩; have HC1 := Lib.hid (HC0.out.kept b1); replace b1 := below_chain b0 b1) | (go_at_call 89; refine (implIsSchedule_any _ t _ (H1.out.below rRu_stable b1)).mono ?_; rw [HS.out]; rintro e w2 ⟨rfl, b2⟩; obtain ⟨c0, c1, c2, c3⟩ := HC1.out.kept b2; replace b2 := below_chain b1 b2) | (go_at_call 111; refine (isDay_any _ _).mono ?_; rw [HD.out]; rintro e w3 ⟨rfl, rfl⟩) | (go_at_call 130; refine (implDueDay_any _ _ r t _ (HV.out _ b2) (H1.out.below rRu_stable b2) hn n true HDR.out).mono ?_; rintro e w4 ⟨rfl, b4⟩; replace b4 := below_chain b2 b4))
          go_ret2
          exact ⟨by simp, b4⟩


theorem perEnds_map (r : Rec) (t : List Ru) : perEnds r t = (perRules r t).map (endR r) := by
  unfold perEnds perRules
  split
  · rfl
  · rfl
theorem per_sign {r : Rec} {t : List Ru} : ∀ u ∈ perRules r t, (endR r u = -1 ↔ endR r u < 0) := by
  intro u hu
  rcases ha : askB r t with _ | _
  · unfold perRules at hu; rw [if_neg (by rw [ha]; simp)] at hu; cases hu
  · have hq := ask_iff.1 ha
    unfold perRules at hu
    rw [if_pos ha] at hu
    exact endR_eq hq.1 (forRu_ok hq.2 _ u hu)

theorem hit_set {r : Rec} {t : List Ru} {d a : Int} {q : Ru} {n : Int} {b : Bool} (ha : askB r t = true) (h : setF r t = (q, n, b)) : hitB t d a r = (b && (decide (n ≤ d) && decide (q.act = a))) := by
  unfold hitB
  rcases Int.lt_or_le (dueF r t) 0 with h1 | h1
  · rw [setF_no (.inr h1)] at h
    cases h
    simp; omega
  · rw [setF_yes ha h1] at h
    cases h
    rw [Bool.eq_iff_iff]
    simp [h1]
    constructor
    · rintro ⟨x, y⟩; exact ⟨y, x⟩
    · rintro ⟨x, y⟩; exact ⟨y, x⟩

theorem none_iff {t : List Ru} {r : Rec} : noneB t r = decide (¬ r.series ∈ serF t) := by
  unfold noneB
  apply decide_eq_decide.2
  rw [serF_iff, List.length_eq_zero_iff]
  unfold forRu
  rw [List.filter_eq_nil_iff]
  constructor
  · rintro h ⟨u, hu, e⟩; exact h u hu (by simp [e])
  · intro h u hu e; exact h ⟨u, hu, by simpa using e⟩

end Go.Proofs.Ytenjajcknmfhfaa
