/- AddEvent, the model's: what its drawn region of nested appends beside a box wants. -/
import Derived.Test.YtenjajcknmfhfaaAdd
import Derived.Maps.AppendAt
namespace Go.Proofs.Ytenjajcknmfhfaa
set_option linter.unusedVariables false
open Go.RowKit Go.Sort

/-- Append onto a row of the call's own, at an operation: with where the new row lies. -/
theorem wp_append_at {P : Program} (w : World) {o : Oper} {a : Act} {K : Act → World → Prop} {Q : Exit → Act → World → Prop} (s x : Operand) (t : TypeId)
    (ho : o.op = .call { callee := .builtin .append, args := #[s, x], argTypes := #[t, t] })
    (base : Nat) (e : TypeId) (i : TypeInfo) (z : Value) (size bytes : Nat) (ht : P.underlying t = some (.slice e)) (hi : P.info? e = some i) (hz : i.zero = some z)
    (hsize : i.size = size) (hby : i.bytes = bytes) (hzs : z.cells.size = size) (hsz : 0 < size)
    (v : Value) (n : Nat) (xs : List Value) (hs : a.eval s = v) (hown : w.ownsRow base e size v n xs)
    (ad : Addr) (m c : Nat) (news : List Value) (hx : a.eval x = .slice (some ad) m c) (hl : news.length = m * size) (hnews : ∀ j u, news[j]? = some u → w.cell? (ad.add j) = some u) (h1 : ∀ u ∈ news, u.oneCell' = true)
    (h63 : n + m ≤ maxLen) (hbytes : (n + m) * bytes ≤ 140737488355328) (hbase : base ≤ w.heap.size)
    (h : ∀ v' w', w'.ownsRow base e size v' (n + m) (xs ++ news) → w.grownBy w' v.ownBlock → (v'.ownBlock = v.ownBlock ∨ v'.ownBlock = some w.heap.size) → K (a.put o.dst v') w') : o.wp P a w K Q := by
  obtain ⟨v', w', hr, h2, h3, _, h5⟩ := run_append_own_at (P := P) w base t o.type e i z size bytes ht hi hz hsize hby hzs hsz v n xs hown ad m c news hl hnews h1 h63 hbytes hbase
  unfold Oper.wp execOp
  simp only [ho, resolve, invoke, builtin, Sem.run_bind, Sem.run_pure, Result.andThen_ok, List.map_toArray, List.map_cons, List.map_nil, hs, hx, hr]
  exact h v' w' h2 h3 h5
theorem own_made {W : World} {base e size h : Nat} (hh : W.heap.size = h) (hb : base ≤ h) : (W.alloc (.cells #[] e (0, 0))).ownsRow base e size (.slice (some ⟨h, 0, none⟩) 0 0) 0 [] := by
  subst hh
  exact World.ownsRow_made W #[] 0 hb (Nat.zero_le _) (by simp)
theorem heap_al0 {W : World} {o : Obj} {h : Nat} (hh : W.heap.size = h) : (W.alloc o).heap[h]? = some o := by
  subst hh
  exact heap_alloc_new W o
theorem heap_al1 {W : World} {o : Obj} {g : Nat} (h : W.heap[g]? = some o) (o' : Obj) : (W.alloc o').heap[g]? = some o :=
  box_al h o'
theorem cells_al {W : World} {ad : Addr} {cs : List Value} (h : ∀ j u, cs[j]? = some u → W.cell? (ad.add j) = some u) (o : Obj) : ∀ j u, cs[j]? = some u → (W.alloc o).cell? (ad.add j) = some u := fun j u hj => below_al_cell (h j u hj) o
theorem two_new {W : World} {a b : Value} {t : TypeId} {h : Nat} (hh : W.heap.size = h) : ∀ j u, [a, b][j]? = some u → (W.alloc (.cells #[a, b] t (0, 0))).cell? ((⟨h, 0, none⟩ : Addr).add j) = some u := by
  subst hh
  intro j u hj
  rw [Addr.add_lit]
  exact (blk_cell (box_new W _) _).trans (by simpa using hj)
theorem own_drew {W : World} {base e size n : Nat} {v : Value} {xs : List Value} (h : W.ownsRow base e size v n xs) : W.drew.ownsRow base e size v n xs := h
theorem heap_drew {W : World} {g : Nat} {o : Obj} (h : W.heap[g]? = some o) : W.drew.heap[g]? = some o := h
theorem drew_cell {W : World} {a : Addr} {u : Value} (h : W.cell? a = some u) : W.drew.cell? a = some u := h
/-- A box beside a row. -/
def Off (w : World) (v : Value) (G : Nat) (O : Obj) : Prop := w.heap[G]? = some O ∧ v.ownBlock ≠ some G
theorem off_new {W : World} {v : Value} {O : Obj} {h : Nat} (hh : W.heap.size = h) (hv : ∀ k, v.ownBlock = some k → k < h) : Off (W.alloc O) v h O :=
  ⟨heap_al0 hh, fun e => absurd (hv h e) (Nat.lt_irrefl _)⟩
theorem off_al {W : World} {v : Value} {G : Nat} {O : Obj} (h : Off W v G O) (o : Obj) : Off (W.alloc o) v G O := ⟨heap_al1 h.1 o, h.2⟩
theorem off_row {W : World} {L n c G : Nat} {O : Obj} (h : W.heap[G]? = some O) (hn : L ≠ G) : Off W (.slice (some ⟨L, 0, none⟩) n c) G O := ⟨h, fun e => hn (by simpa [Value.ownBlock] using e)⟩
theorem off_app {W w' : World} {v v' : Value} {G : Nat} {O : Obj} (h : Off W v G O) (hg : W.grownBy w' v.ownBlock) (hat : v'.ownBlock = v.ownBlock ∨ v'.ownBlock = some W.heap.size) : Off w' v' G O := by
  have hlt := (Array.getElem?_eq_some_iff.1 h.1).1
  refine ⟨(hg.block G hlt (fun e => h.2 e.symm)).trans h.1, fun e => ?_⟩
  rcases hat with a | a
  · exact h.2 (a ▸ e)
  · rw [a] at e
    have := Option.some.inj e
    omega
theorem off_cells2 {W : World} {v a b : Value} {t : TypeId} {G : Nat} (h : Off W v G (.cells #[a, b] t (0, 0))) : ∀ j u, [a, b][j]? = some u → W.cell? ((⟨G, 0, none⟩ : Addr).add j) = some u := by
  intro j u hj
  rw [Addr.add_lit]
  exact (blk_cell h.1 _).trans (by simpa using hj)
theorem setCell_grown' (w : World) (g j : Nat) (u : Value) : w.grownBy (w.setCell ⟨g, j, none⟩ u) (some g) :=
  ⟨rfl, rfl, rfl, by simp, fun k hk hne => Below.heap_setCell w ⟨g, j, none⟩ u k (fun e => hne (by rw [e]))⟩
theorem EvsO.off {lo hi G j : Nat} {w : World} {v u : Value} {xs : List Ev} (h : EvsO lo hi w v xs) (hn : v.ownBlock ≠ some G) : EvsO lo hi (w.setCell ⟨G, j, none⟩ u) v xs :=
  ⟨⟨h.1.1.kept (setCell_grown' w G j u) (.inr hn), h.1.2⟩, h.2⟩
/-- The events with one more, out of the row that the three appends leave. -/
theorem evs_ins {W : World} {lo B k n : Nat} {v : Value} {xs : List Ev} {ek ed : Int} {N1 N2 : List Value} (h : W.ownsRow B 174 2 v n ([] ++ N1 ++ [.int .i64 ek, .int .i64 ed] ++ N2)) (hn : n = xs.length + 1)
    (h1 : ((xs.take k).map evC).flatten = N1) (h2 : ((xs.drop k).map evC).flatten = N2) (hp : placeK xs ek = k) (hl : lo ≤ B) (hok : ∀ a ∈ xs, a.ok) (he : Ev.ok ⟨ek, ed⟩) : EvsO lo W.heap.size W v (insEv xs ⟨ek, ed⟩) := by
  have hown : Own lo 174 2 W v ((insEv xs ⟨ek, ed⟩).map evC) := by
    refine ⟨?_, by simp [evC]⟩
    have e : ((insEv xs ⟨ek, ed⟩).map evC).flatten = [] ++ N1 ++ [.int .i64 ek, .int .i64 ed] ++ N2 := by
      unfold insEv
      rw [hp, List.map_append, List.flatten_append, List.map_cons, List.flatten_cons, h1, h2]
      simp [evC]
    rw [e, List.length_map, insEv_len, ← hn]
    exact ownsRow_base_a' h hl
  exact ⟨hown, ins_all hok he, hown.under⟩
/-- What the cut behind the composite literal says. -/
def Lit (w V : World) (G n g cap : Nat) (xs : List Ev) (x y z : Value) (zb : Nat) (O : Obj) : Prop :=
  EvsO (w.heap.size + 3) V.heap.size V (.slice (some ⟨g, 0, none⟩) n cap) xs ∧ Below w.heap.size w V ∧ V.heap[zb]? = some O ∧ w.heap.size + 3 ≤ V.heap.size ∧
  V.cell? ⟨G, 0, none⟩ = some x ∧ V.cell? ⟨G, 1, none⟩ = some y ∧ V.cell? ⟨G, 2, none⟩ = some z ∧ V.cell? ⟨G, 3, none⟩ = some (.slice (some ⟨g, 0, none⟩) n cap)
theorem lit_a {w W : World} {G n g cap zb : Nat} {xs : List Ev} {a b c d x y z : Value} {t : TypeId} {O : Obj} (hE : EvsO (w.heap.size + 3) W.heap.size W (.slice (some ⟨g, 0, none⟩) n cap) xs) (hO : Off W (.slice (some ⟨g, 0, none⟩) n cap) G (.cells #[a, b, c, d] t (0, 0)))
    (hB : Below w.heap.size w W) (hG : w.heap.size ≤ G) (hz : W.heap[zb]? = some O) (hne : zb ≠ G) (hs : w.heap.size + 3 ≤ W.heap.size) :
    Lit w ((((W.setCell ⟨G, 0, none⟩ x).setCell ⟨G, 1, none⟩ y).setCell ⟨G, 2, none⟩ z).setCell ⟨G, 3, none⟩ (.slice (some ⟨g, 0, none⟩) n cap)) G n g cap xs x y z zb O := by
  have c0 := box_cell hO.1 0 rfl
  have c1 := box_cell hO.1 1 rfl
  have c2 := box_cell hO.1 2 rfl
  have c3 := box_cell hO.1 3 rfl
  have n01 : (⟨G, 0, none⟩ : Addr) ≠ ⟨G, 1, none⟩ := by simp
  have n02 : (⟨G, 0, none⟩ : Addr) ≠ ⟨G, 2, none⟩ := by simp
  have n03 : (⟨G, 0, none⟩ : Addr) ≠ ⟨G, 3, none⟩ := by simp
  have n12 : (⟨G, 1, none⟩ : Addr) ≠ ⟨G, 2, none⟩ := by simp
  have n13 : (⟨G, 1, none⟩ : Addr) ≠ ⟨G, 3, none⟩ := by simp
  have n23 : (⟨G, 2, none⟩ : Addr) ≠ ⟨G, 3, none⟩ := by simp
  refine ⟨((((hE.off hO.2).off hO.2).off hO.2).off hO.2).wide (Nat.le_refl _) (by simp), (((hB.setCell hG _).setCell hG _).setCell hG _).setCell hG _, ?_, by simp; omega, ?_, ?_, ?_, ?_⟩
  · rw [Below.heap_setCell _ _ _ _ hne, Below.heap_setCell _ _ _ _ hne, Below.heap_setCell _ _ _ _ hne, Below.heap_setCell _ _ _ _ hne]
    exact hz
  · rw [setCell_other _ n03.symm, setCell_other _ n02.symm, setCell_other _ n01.symm]
    exact setCell_same _ c0
  · rw [setCell_other _ n13.symm, setCell_other _ n12.symm]
    exact setCell_same (u := b) _ (by rw [setCell_other _ n01]; exact c1)
  · rw [setCell_other _ n23.symm]
    exact setCell_same (u := c) _ (by rw [setCell_other _ n12, setCell_other _ n02]; exact c2)
  · exact setCell_same (u := d) _ (by rw [setCell_other _ n23, setCell_other _ n13, setCell_other _ n03]; exact c3)
theorem lit_b {w W : World} {n g cap zb : Nat} {xs : List Ev} {x y z : Value} {t : TypeId} {O : Obj} (hE : EvsO (w.heap.size + 3) W.heap.size W (.slice (some ⟨g, 0, none⟩) n cap) xs)
    (hB : Below w.heap.size w W) (hz : W.heap[zb]? = some O) (hs : w.heap.size + 3 ≤ W.heap.size) :
    Lit w (W.alloc (.cells #[x, y, z, .slice (some ⟨g, 0, none⟩) n cap] t (0, 0))) W.heap.size n g cap xs x y z zb O :=
  ⟨(hE.alloc _).wide (Nat.le_refl _) (by simp), below_al hB _, heap_al1 hz _, by simp; omega, cell_new W _ _ 0 rfl, cell_new W _ _ 1 rfl, cell_new W _ _ 2 rfl, cell_new W _ _ 3 rfl⟩
end Go.Proofs.Ytenjajcknmfhfaa
