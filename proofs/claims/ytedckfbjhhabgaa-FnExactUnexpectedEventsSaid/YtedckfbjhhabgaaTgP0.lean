/- The nodes of events in memory: what they hold, how they are read, nodesOf. -/
import Derived.Test.YtedckfbjhhabgaaTgI
import Derived.Test.YtedckfbjhhabgaaTgD
import Derived.Test.YtedckfbjhhabgaaTgN
import Derived.Test.YtedckfbjhhabgaaBx
import Derived.Test.YtedckfbjhhabgaaAppK
import Derived.Maps.Own
import Derived.Maps.OwnSet
import Derived.Deep.RegionLawGrows
import Derived.Deep.RegionHeld3
import Derived.Deep.CutRange
namespace Go.Proofs.Ytedckfbjhhabgaa
set_option linter.unusedVariables false
open Go.RowKit Go.Sort Go.Maps

/-- Each element of a map reads as itself. -/
def heldV (v : Value) : Option (DataW Value × List MemPlace) := some (.held v, [])
abbrev MapN (w : World) (b n : Nat) (D : DataW Value) : Prop := w.ownsMap Try.prog 3 heldV b n D
def ptrA (A : List Nat) (k : Nat) : Value := .pointer (some ⟨A.getD k 0, 0, none⟩)
/-- The datum leads from the first n kinds to their nodes. -/
structure NK (D : DataW Value) (A : List Nat) (n : Nat) : Prop where
  tidy : Tidy D
  has_ : ∀ s : Int, has D (.int .i64 s) = decide (0 ≤ s ∧ s < (n : Int))
  at_ : ∀ (k : Nat) (zd : DataW Value), k < n → D.atKey (.int .i64 (k : Int)) zd = .held (ptrA A k)
theorem NK.start : NK (.map []) [] 0 := ⟨tidy_empty, (fun s => by rw [has_eq]; symm; simp), fun k zd h => absurd h (Nat.not_lt_zero _)⟩
theorem getD_snoc_lt {A : List Nat} {x k : Nat} (h : k < A.length) : (A ++ [x]).getD k 0 = A.getD k 0 := by simp [List.getD, List.getElem?_append_left h]
theorem getD_snoc_eq {A : List Nat} {x : Nat} : (A ++ [x]).getD A.length 0 = x := by simp [List.getD]
theorem NK.put {D : DataW Value} {A : List Nat} (h : NK D A A.length) (x : Nat) : NK (D.put (.int .i64 (A.length : Int)) (.held (.pointer (some ⟨x, 0, none⟩)))) (A ++ [x]) (A.length + 1) := by
  have hk : WideAt.IsKeyLit (.int .i64 (A.length : Int)) := trivial
  refine ⟨h.tidy.put hk _, fun s => ?_, fun k zd hl => ?_⟩
  · by_cases e : s = (A.length : Int)
    · subst e; rw [has_put_same h.tidy.isMap hk]; symm; rw [decide_eq_true_eq]; omega
    · rw [has_put_other (by simp; exact e), h.has_, Bool.eq_iff_iff]; simp; omega
  · by_cases e : k = A.length
    · subst e
      rw [atKey_put_same h.tidy.isMap hk]
      unfold ptrA
      rw [getD_snoc_eq]
    · rw [atKey_put_other (by simp; omega), h.at_ k zd (by omega)]
      unfold ptrA
      rw [getD_snoc_lt (by omega)]
/-- The nodes' addresses: ten, no two the same, within [lo, hi). -/
structure AK (A : List Nat) (lo hi : Nat) : Prop where
  len : A.length = 10
  ne : ∀ i j, i < 10 → j < 10 → i ≠ j → A.getD i 0 ≠ A.getD j 0
  lt : ∀ i, i < 10 → lo ≤ A.getD i 0 ∧ A.getD i 0 < hi
def linkC (A : List Nat) (x : Tg) : List Value := [ptrA A x.aft.toNat, .int .i64 x.days]
/-- The nodes, with the links of a list of triggers. -/
structure NodS (w : World) (LO : Nat) (A : List Nat) (t : List Tg) (sv : Nat → Value) : Prop where
  box : ∀ k, k < 10 → BxV w (A.getD k 0) [.int .i64 (k : Int), sv k]
  row : ∀ k, k < 10 → w.ownsRow LO 104 2 (sv k) (folL t (k : Int)).length (((folL t (k : Int)).map (linkC A)).flatten)
  apart : ∀ k j, k < 10 → j < 10 → k ≠ j → ∀ g, (sv k).ownBlock = some g → (sv j).ownBlock ≠ some g
theorem folL_snoc (t : List Tg) (x : Tg) (k : Int) : folL (t ++ [x]) k = if x.ev = k then folL t k ++ [x] else folL t k := by
  unfold folL
  rw [List.filter_append]
  by_cases h : x.ev = k
  · rw [if_pos h, List.filter_cons_of_pos (by simpa using h), List.filter_nil]
  · rw [if_neg h, List.filter_cons_of_neg (by simpa using h), List.filter_nil, List.append_nil]
section
variable {w w' w3 : World} {LO lo hi : Nat} {A : List Nat} {t : List Tg} {sv : Nat → Value}
theorem NodS.below (h : NodS w LO A t sv) (hb : Below w.heap.size w w') : NodS w' LO A t sv :=
  ⟨fun k hk => (h.box k hk).below hb, fun k hk => (h.row k hk).kept (grownBy_of_below hb none) (by rcases e : (sv k).ownBlock with _ | g; (· exact .inl rfl); (· exact .inr (by simp))), h.apart⟩
theorem NodS.step (h : NodS w LO A t sv) (ha : AK A lo LO) (x : Tg) (k0 : Nat) (hk0 : k0 < 10) (hx : x.ev = (k0 : Int)) (tmp : Obj) (v3 : Value)
    (hg : (w.alloc tmp).grownBy w3 (sv k0).ownBlock) (hor : v3.ownBlock = (sv k0).ownBlock ∨ v3.ownBlock = some (w.alloc tmp).heap.size) (hLO : LO ≤ w.heap.size)
    (hown : w3.ownsRow LO 104 2 v3 ((folL t (k0 : Int)).length + 1) (((folL t (k0 : Int)).map (linkC A)).flatten ++ linkC A x)) :
    NodS (w3.setCell ⟨A.getD k0 0, 1, none⟩ v3) LO A (t ++ [x]) (fun k => if k = k0 then v3 else sv k) := by
  have h1 : NodS (w.alloc tmp) LO A t sv := h.below (below_al (Below.refl _ _) tmp)
  have hne : ∀ k, k < 10 → some (A.getD k 0) ≠ (sv k0).ownBlock := fun k hk e => by
    have := ((h.row k0 hk0).lt _ e.symm).1
    have := (ha.lt k hk).2
    omega
  refine ⟨fun k hk => ?_, fun k hk => ?_, fun k j hk hj hkj g e1 e2 => ?_⟩
  · have hb := (h1.box k hk).grown hg (hne k hk)
    by_cases e : k = k0
    · subst e
      rw [if_pos rfl]
      exact hb.set 1 v3 rfl
    · rw [if_neg e]
      exact hb.other (ha.ne k k0 hk hk0 e)
  · by_cases e : k = k0
    · subst e
      rw [if_pos rfl, folL_snoc, if_pos hx, List.length_append, List.length_singleton, List.map_append, List.flatten_append]
      have := ownsRow_setCell_below hown (a := ⟨A.getD k 0, 1, none⟩) (ha.lt k hk).2 v3
      simpa using this
    · rw [if_neg e, folL_snoc, if_neg (by rw [hx]; omega)]
      have hr := (h1.row k hk).kept hg (by
        rcases q : (sv k).ownBlock with _ | g
        · exact .inl rfl
        · exact .inr (fun z => h.apart k k0 hk hk0 e g q z.symm))
      exact ownsRow_setCell_below hr (a := ⟨A.getD k0 0, 1, none⟩) (ha.lt k0 hk0).2 v3
  · by_cases a1 : k = k0
    · subst a1
      rw [if_pos rfl] at e1
      rw [if_neg (Ne.symm hkj)] at e2
      rcases hor with q | q
      · exact h.apart k j hk hj hkj g (q.symm.trans e1) e2
      · have h3 := ((h1.row j hj).lt _ e2).2
        rw [e1] at q
        cases q
        omega
    · rw [if_neg a1] at e1
      by_cases a2 : j = k0
      · subst a2
        rw [if_pos rfl] at e2
        rcases hor with q | q
        · exact h.apart k j hk hj hkj g e1 (q.symm.trans e2)
        · have h3 := ((h1.row k hk).lt _ e1).2
          rw [e2] at q
          cases q
          omega
      · rw [if_neg a2] at e2
        exact h.apart k j hk hj hkj g e1 e2
end
/-- How the nodes are read: everything lies below hi. -/
structure NodR (hi : Nat) (w : World) (A : List Nat) (t : List Tg) : Prop where
  size : hi ≤ w.heap.size
  adr : ∀ k, k < 10 → A.getD k 0 < hi
  kind : ∀ k, k < 10 → w.cell? ⟨A.getD k 0, 0, none⟩ = some (.int .i64 (k : Int))
  fol : ∀ k, k < 10 → ∃ a c, w.cell? ⟨A.getD k 0, 1, none⟩ = some (.slice a (folL t (k : Int)).length c) ∧ (folL t (k : Int)).length ≤ c ∧ c ≤ maxLen ∧
    (folL t (k : Int) = [] ∨ ∃ b off, b < hi ∧ a = some ⟨b, off, none⟩ ∧ ∀ i, i < (folL t (k : Int)).length → w.cell? ⟨b, off + i * 2, none⟩ = some (ptrA A ((folL t (k : Int)).getD i tgD).aft.toNat) ∧ w.cell? ⟨b, off + i * 2 + 1, none⟩ = some (.int .i64 ((folL t (k : Int)).getD i tgD).days))
theorem NodR.below {hi : Nat} {w w' : World} {A : List Nat} {t : List Tg} (h : NodR hi w A t) (hb : Below hi w w') : NodR hi w' A t := by
  refine ⟨Nat.le_trans h.size hb.size, h.adr, fun k hk => (hb.cell (p := ⟨A.getD k 0, 0, none⟩) (h.adr k hk)).trans (h.kind k hk), fun k hk => ?_⟩
  obtain ⟨a, c, h1, h2, h3, h4⟩ := h.fol k hk
  refine ⟨a, c, (hb.cell (p := ⟨A.getD k 0, 1, none⟩) (h.adr k hk)).trans h1, h2, h3, h4.imp id ?_⟩
  rintro ⟨b, off, hl, rfl, hc⟩
  exact ⟨b, off, hl, rfl, fun i hi => ⟨(hb.cell (p := ⟨b, off + i * 2, none⟩) hl).trans (hc i hi).1, (hb.cell (p := ⟨b, off + i * 2 + 1, none⟩) hl).trans (hc i hi).2⟩⟩
theorem linkC_len (A : List Nat) (x : Tg) : (linkC A x).length = 2 := rfl
theorem flat2_at {α : Type} {f : α → List Value} (hf : ∀ a, (f a).length = 2) : ∀ (l : List α) (d : α) (i j : Nat), i < l.length → j < 2 → (l.map f).flatten[i * 2 + j]? = (f (l.getD i d))[j]?
  | [], _, _, _, h, _ => absurd h (by simp)
  | a :: l, d, 0, j, h, hj => by
    simp only [List.map_cons, List.flatten_cons, Nat.zero_mul, Nat.zero_add, List.getD_cons_zero]
    rw [List.getElem?_append_left (by rw [hf]; exact hj)]
  | a :: l, d, i + 1, j, h, hj => by
    simp only [List.map_cons, List.flatten_cons, List.getD_cons_succ]
    rw [List.getElem?_append_right (by rw [hf]; omega), hf, show (i + 1) * 2 + j - 2 = i * 2 + j by omega]
    exact flat2_at hf l d i j (by simpa using h) hj
theorem own_shape {w : World} {base e size n : Nat} {v : Value} {xs : List Value} (h : w.ownsRow base e size v n xs) : ∃ a c, v = .slice a n c ∧ n ≤ c ∧ c ≤ maxLen := by
  rcases h.2 with ⟨rfl, rfl⟩ | ⟨g, cap, cur, rfl, _, _, h3, h4, _⟩
  · exact ⟨none, 0, rfl, Nat.le_refl _, Nat.zero_le _⟩
  · exact ⟨_, _, rfl, h3, h4⟩
theorem NodS.reads {w : World} {LO lo : Nat} {A : List Nat} {t : List Tg} {sv : Nat → Value} (h : NodS w LO A t sv) (ha : AK A lo LO) : NodR w.heap.size w A t := by
  refine ⟨Nat.le_refl _, fun k hk => (h.box k hk).lt, fun k hk => by have := (h.box k hk).cell 0; simpa using this, fun k hk => ?_⟩
  have hr := h.row k hk
  have hc := (h.box k hk).cell 1
  obtain ⟨a, c, e, h1, h2⟩ := own_shape hr
  rw [e] at hc hr
  refine ⟨a, c, by simpa using hc, h1, h2, ?_⟩
  rcases hr.2 with ⟨_, h0⟩ | ⟨g, cap, cur, e2, _, hg, _⟩
  · exact .inl (List.length_eq_zero_iff.1 h0)
  · simp only [Value.slice.injEq, true_and] at e2
    obtain ⟨rfl, rfl⟩ := e2
    have hcells := hr.cells (g := g) rfl
    refine .inr ⟨g, 0, (hr.lt g rfl).2, rfl, fun i hi => ?_⟩
    have c0 := hcells (i * 2 + 0) (ptrA A ((folL t (k : Int)).getD i tgD).aft.toNat) (by rw [flat2_at (linkC_len A) _ tgD i 0 hi (by omega)]; rfl)
    have c1 := hcells (i * 2 + 1) (.int .i64 ((folL t (k : Int)).getD i tgD).days) (by rw [flat2_at (linkC_len A) _ tgD i 1 hi (by omega)]; rfl)
    rw [Addr.add_lit] at c0 c1
    exact ⟨by simpa using c0, by simpa [Nat.add_assoc] using c1⟩
theorem key_n (s : Int) (h : inI s) : keyOf Try.prog 3 (.int .i64 s) = some (.int .i64 s) :=
  keyOf_int_mk Try.underlying3 (by unfold inI at h; simp [Lit.wf, IntKind.min, IntKind.max, IntKind.signed, IntKind.bits]; omega)
theorem zero_node (w : World) : (zeroValue 83).run Try.prog w = .ok (.pointer none) w := by kernel_rfl
theorem look_node {w : World} {b n m : Nat} {D : DataW Value} {A : List Nat} (h : MapN w b n D) (hk : NK D A m) (k : Nat) (hm : k < m) (h10 : m ≤ 10) :
    (Instr.lookup 81 (.map (some b)) (.int .i64 (k : Int)) false).run Try.prog w = .ok (ptrA A k) w := by
  obtain ⟨u, ps, hr, hu⟩ := h.lookup (int_keyed Try.underlying3) Try.underlying81 (z := .pointer none) (zero_node w) (zd := .held (.pointer none)) (zp := []) rfl (key_n (k : Int) (by simp [inI]; omega))
  rw [hk.at_ k _ hm] at hu
  simp only [heldV, Option.some.injEq, Prod.mk.injEq, DataW.held.injEq] at hu
  rw [← hu.1]; exact hr
/-- What nodesOf leaves. -/
def NodesD (t : List Tg) (w : World) (e : Ending) (w' : World) : Prop := ∃ (mb : Nat) (D : DataW Value) (A : List Nat), e = .returned (.map (some mb)) ∧ MapN w' mb 10 D ∧ NK D A 10 ∧ NodR w'.heap.size w' A t ∧ w.heap.size ≤ mb ∧ Below w.heap.size w w'
theorem Try.info_link : (Try.prog.info? 104).map (fun i => (i.zero, i.size, i.bytes)) = some (some (.agg #[.pointer none, .int .i64 0]), 2, 16) := by kernel_rfl
theorem below_drewD {n : Nat} {a b : World} (h : Below n a.drew b) : Below n a b := ⟨h.os, h.tape, h.output, h.size, h.block⟩
theorem al_frozenT {w : World} {p : Addr} (h : w.frozen? p = false) (o : Obj) (hp : p.block < w.heap.size) : (w.alloc o).frozen? p = false := ((below_al (Below.refl w.heap.size w) o).frozen hp).trans h
theorem mapN_kept {w w' : World} {b n : Nat} {D : DataW Value} {row : Option Nat} (h : MapN w b n D) (hg : w.grownBy w' row) (hn : some b ≠ row) : MapN w' b n D := h.kept hg hn

/-- A round of the links' loop. -/
theorem grownBy_setCellT (w : World) (a : Addr) (u : Value) : w.grownBy (w.setCell a u) (some a.block) := ⟨rfl, rfl, rfl, by simp, fun k hk hn => Below.heap_setCell w a u k (fun e => hn (by rw [e]))⟩
theorem nodes_round {w wo wB w3 : World} {A : List Nat} {t T1 : List Tg} {sv : Nat → Value} {D : DataW Value} {n0 n1 G0 G1 L : Nat} {x2 : Int} {sa va : Option Addr} {sc vc : Nat} {tmp : Obj}
    (hs : NodS wB wo.heap.size A t sv) (ha : AK A (w.heap.size + 1) wo.heap.size) (hm : MapN wB w.heap.size 10 D) (hb : Below w.heap.size w wB) (hn0 : n0 < 10) (hT : T1 = t ++ [⟨(n0 : Int), (n1 : Int), x2⟩])
    (hsx : sv n0 = .slice sa L sc) (hL : (folL t (n0 : Int)).length = L) (hG0 : A.getD n0 0 = G0) (hG1 : A.getD n1 0 = G1) (hsz : wo.heap.size ≤ wB.heap.size)
    (hg : (wB.alloc tmp).drew.grownBy w3 (Value.slice sa L sc).ownBlock) (hor : (Value.slice va (L + 1) vc).ownBlock = (Value.slice sa L sc).ownBlock ∨ (Value.slice va (L + 1) vc).ownBlock = some (wB.alloc tmp).drew.heap.size)
    (hown : w3.ownsRow wo.heap.size 104 2 (.slice va (L + 1) vc) (L + 1) (((folL t (n0 : Int)).map (linkC A)).flatten ++ [.pointer (some ⟨G1, 0, none⟩), .int .i64 x2])) :
    ∃ sv', Hid (NodS (w3.setCell ⟨G0, 1, none⟩ (.slice va (L + 1) vc)) wo.heap.size A T1 sv') ∧ Hid (MapN (w3.setCell ⟨G0, 1, none⟩ (.slice va (L + 1) vc)) w.heap.size 10 D) ∧ Below w.heap.size w (w3.setCell ⟨G0, 1, none⟩ (.slice va (L + 1) vc)) ∧ wo.heap.size ≤ (w3.setCell ⟨G0, 1, none⟩ (.slice va (L + 1) vc)).heap.size := by
  subst hG0 hG1 hT hL
  have hA := ha.lt n0 hn0
  have hrl : ∀ g, (Value.slice sa (folL t (n0 : Int)).length sc).ownBlock = some g → wo.heap.size ≤ g := fun g e => ((hs.row n0 hn0).lt g (by rw [hsx]; exact e)).1
  have hg2 : (wB.alloc tmp).grownBy w3 (Value.slice sa (folL t (n0 : Int)).length sc).ownBlock := ⟨hg.os, hg.tape, hg.output, hg.size, hg.block⟩
  have hs3 : wB.heap.size + 1 ≤ w3.heap.size := by have := hg2.size; simpa using this
  have hbs := hb.size
  refine ⟨_, Lib.hid (hs.step ha ⟨(n0 : Int), (n1 : Int), x2⟩ n0 hn0 rfl tmp (.slice va _ vc) (w3 := w3) (by rw [hsx]; exact hg2) (by rw [hsx]; exact hor) hsz (by unfold linkC ptrA; simp only [Int.toNat_natCast]; exact hown)), Lib.hid ?_, ?_, by simp; omega⟩
  · have h1 : MapN w3 w.heap.size 10 D := mapN_kept (mapN_kept hm (grownBy_of_below (below_al (Below.refl _ _) tmp) none) (by simp)) hg2 (fun e => by have := hrl _ e.symm; omega)
    exact mapN_kept h1 (grownBy_setCellT _ ⟨A.getD n0 0, 1, none⟩ _) (fun q => by have := Option.some.inj q; simp only at this; omega)
  · have h1 : Below w.heap.size w w3 := (hb.alloc hbs tmp).grown hg2 (by simp; omega) (fun g e => by have := hrl g e; omega)
    exact h1.setCell (p := ⟨A.getD n0 0, 1, none⟩) (by show w.heap.size ≤ A.getD n0 0; omega) _

end Go.Proofs.Ytedckfbjhhabgaa
