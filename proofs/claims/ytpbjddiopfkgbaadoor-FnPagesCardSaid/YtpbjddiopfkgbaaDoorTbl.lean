/- Tables of integers, rows of rows of the call's own: compared, marked, and the marks found again. -/
import Derived.Test.YtpbjddiopfkgbaaDoorInts
import Derived.Lib.QuietBelow
import Derived.BigQuiet
namespace Go.Proofs.YtpbjddiopfkgbaaDoor
set_option linter.unusedVariables false
open Go.RowKit Go.Sort

/-- The value v reads as the rows xss. -/
def TabR (w : World) (v : Value) (xss : List (List Int)) : Prop := ∃ a cap, v = .slice a xss.length cap ∧ xss.length ≤ cap ∧ cap ≤ maxLen ∧
  (xss = [] ∨ ∃ b off, b < w.heap.size ∧ a = some ⟨b, off, none⟩ ∧ ∀ i (h : i < xss.length), ∃ sv, w.cell? ⟨b, off + i, none⟩ = some sv ∧ RowOf vI w sv xss[i])
theorem TabR.below {w w' : World} {v : Value} {xss : List (List Int)} (h : TabR w v xss) (hb : Below w.heap.size w w') : TabR w' v xss := by
  obtain ⟨a, cap, rfl, h1, h2, h3⟩ := h
  refine ⟨a, cap, rfl, h1, h2, h3.imp id ?_⟩
  rintro ⟨b, off, hlt, rfl, hc⟩
  refine ⟨b, off, Nat.lt_of_lt_of_le hlt hb.size, rfl, fun i hi => ?_⟩
  obtain ⟨sv, h4, h5⟩ := hc i hi
  exact ⟨sv, (hb.cell (p := ⟨b, off + i, none⟩) hlt).trans h4, h5.below hb⟩
theorem TabR.cap {w : World} {v : Value} {xss : List (List Int)} (h : TabR w v xss) : xss.length ≤ 9223372036854775807 := by
  obtain ⟨a, cap, rfl, h1, h2, h3⟩ := h; unfold maxLen at h2; omega

/-- Two slices in different blocks. -/
def Apart (a b : Value) : Prop := ∀ g, a.ownBlock = some g → b.ownBlock ≠ some g
theorem Apart.symm {a b : Value} (h : Apart a b) : Apart b a := fun g h1 h2 => h g h2 h1
def TabO (lo hi : Nat) (w : World) (v : Value) (xss : List (List Int)) : Prop := ∃ svs : List Value, svs.length = xss.length ∧ w.ownsRow lo 31 1 v xss.length svs ∧ Under hi v ∧
  (∀ i (h1 : i < svs.length) (h2 : i < xss.length), IntsO lo hi w svs[i] xss[i] ∧ Apart v svs[i]) ∧ ∀ i j (h1 : i < svs.length) (h2 : j < svs.length), i ≠ j → Apart svs[i] svs[j]

theorem ownsRow_apart {w w' : World} {lo hi base e size n : Nat} {v : Value} {xs : List Value} (h : w.ownsRow base e size v n xs) (ho : Only lo hi w w') (hn : ∀ g, v.ownBlock = some g → g < lo ∨ hi ≤ g) : w'.ownsRow base e size v n xs :=
  ⟨h.1, h.2.imp id fun ⟨g, cap, cur, e, hg, hbk, r⟩ => ⟨g, cap, cur, e, hg, (ho.block g (Array.getElem?_eq_some_iff.1 hbk).1 (hn g (by rw [e]; rfl))).trans hbk, r⟩⟩
theorem ownsRow_base {w : World} {base base' e size n : Nat} {v : Value} {xs : List Value} (h : w.ownsRow base e size v n xs) (hn : ∀ g, v.ownBlock = some g → base' ≤ g) : w.ownsRow base' e size v n xs :=
  ⟨h.1, h.2.imp id fun ⟨g, cap, cur, e, hg, hbk, r⟩ => ⟨g, cap, cur, e, hn g (by rw [e]; rfl), hbk, r⟩⟩
/-- A row lies in its own block alone. -/
theorem IntsO.tight {lo hi : Nat} {w : World} {v : Value} {xs : List Int} (h : IntsO lo hi w v xs) : ∃ l u, IntsO l u w v xs ∧ (∀ g, l ≤ g → g < u → v.ownBlock = some g) ∧ (l < u → lo ≤ l ∧ u ≤ hi) := by
  rcases hv : v.ownBlock with _ | g
  · exact ⟨0, 0, ⟨ownsRow_base h.1 (fun g e => by rw [hv] at e; cases e), fun g e => by rw [hv] at e; cases e⟩, fun g _ h2 => by omega, fun h => by omega⟩
  · exact ⟨g, g + 1, ⟨ownsRow_base h.1 (fun k e => by rw [hv] at e; cases e; exact Nat.le_refl _), fun k e => by rw [hv] at e; cases e; omega⟩, fun k h1 h2 => by rw [show k = g by omega], fun _ => ⟨(h.1.lt g hv).1, by have := h.2 g hv; omega⟩⟩

section
variable {lo hi lo' hi' : Nat} {w w' : World} {v : Value} {xss : List (List Int)}
theorem TabO.row (h : TabO lo hi w v xss) : TabR w v xss := by
  obtain ⟨svs, hl, ho, hu, hr, _⟩ := h
  obtain ⟨a, cap, rfl, h1, h2, h3⟩ := RowOf.of_owns (enc := id) (by rw [List.map_id]; rw [← hl] at ho; exact ho)
  rw [hl] at h1 ⊢
  refine ⟨a, cap, rfl, h1, h2, ?_⟩
  rcases h3 with rfl | ⟨b, off, hb, rfl, hc⟩
  · exact .inl (List.length_eq_zero_iff.1 hl.symm)
  · exact .inr ⟨b, off, hb, rfl, fun i hi => ⟨svs[i], hc i (by omega), (hr i (by omega) hi).1.row⟩⟩
theorem TabO.below (h : TabO lo hi w v xss) (hb : Below w.heap.size w w') : TabO lo hi w' v xss := by
  obtain ⟨svs, hl, ho, hu, hr, hd⟩ := h
  exact ⟨svs, hl, ownsRow_below ho hb, hu, fun i h1 h2 => ⟨(hr i h1 h2).1.below hb, (hr i h1 h2).2⟩, hd⟩
theorem TabO.only (h : TabO lo hi w v xss) (hb : Only lo' hi' w w') (hh : hi' ≤ lo) : TabO lo hi w' v xss := by
  obtain ⟨svs, hl, ho, hu, hr, hd⟩ := h
  exact ⟨svs, hl, ownsRow_apart ho hb (fun g e => .inr (by have := (ho.lt g e).1; omega)), hu, fun i h1 h2 => ⟨(hr i h1 h2).1.only hb hh, (hr i h1 h2).2⟩, hd⟩
theorem TabO.only2 (h : TabO lo hi w v xss) (hb : Only lo' hi' w w') (hh : hi ≤ lo') : TabO lo hi w' v xss := by
  obtain ⟨svs, hl, ho, hu, hr, hd⟩ := h
  exact ⟨svs, hl, ownsRow_apart ho hb (fun g e => .inl (by have := hu g e; omega)), hu, fun i h1 h2 => ⟨(hr i h1 h2).1.only2 hb hh, (hr i h1 h2).2⟩, hd⟩
theorem TabO.wide (h : TabO lo hi w v xss) (hl : lo' ≤ lo) (hh : hi ≤ hi') : TabO lo' hi' w v xss := by
  obtain ⟨svs, hl', ho, hu, hr, hd⟩ := h
  exact ⟨svs, hl', ownsRow_base ho (fun g e => Nat.le_trans hl (ho.lt g e).1), hu.up hh, fun i h1 h2 => ⟨(hr i h1 h2).1.wide hl hh, (hr i h1 h2).2⟩, hd⟩
theorem TabO.nil (lo hi : Nat) (w : World) : TabO lo hi w (.slice none 0 0) [] := ⟨[], rfl, World.ownsRow_nil _ _ _ _, Under.nil _ _ _, fun i h => by simp at h, fun i j h => by simp at h⟩
end


/-- How many numbers stand ahead of a row. -/
def off (xss : List (List Int)) (j : Nat) : Nat := ((xss.take j).map List.length).sum
theorem off_succ {xss : List (List Int)} {j : Nat} (h : j < xss.length) : off xss (j + 1) = off xss j + xss[j].length := by
  unfold off
  rw [List.take_succ_eq_append_getElem h, List.map_append, List.sum_append]
  simp
theorem off_le (xss : List (List Int)) : ∀ d j, j + d ≤ xss.length → off xss j ≤ off xss (j + d)
  | 0, j, _ => Nat.le_refl _
  | d + 1, j, h => by
    have := off_le xss d j (by omega)
    rw [← Nat.add_assoc, off_succ (by omega)]
    omega
theorem off_all {xss : List (List Int)} {j : Nat} (h : j ≤ xss.length) : off xss j ≤ off xss xss.length := by
  have := off_le xss (xss.length - j) j (by omega)
  rwa [show j + (xss.length - j) = xss.length by omega] at this
def mTab (xss : List (List Int)) (k0 : Nat) : List (List Int) := (List.range xss.length).map fun j => mInts (k0 + off xss j) (xss.getD j []).length
theorem mTab_len (xss : List (List Int)) (k0 : Nat) : (mTab xss k0).length = xss.length := by simp [mTab]
theorem mTab_at {xss : List (List Int)} {k0 j : Nat} (h : j < xss.length) (h' : j < (mTab xss k0).length) : (mTab xss k0)[j] = mInts (k0 + off xss j) xss[j].length := by
  simp [mTab, List.getD, List.getElem?_eq_getElem h]


/-- A table of which the rows' own values are known. -/
def TabS (lo hi : Nat) (w : World) (v : Value) (svs : List Value) (xss : List (List Int)) : Prop := svs.length = xss.length ∧ w.ownsRow lo 31 1 v xss.length svs ∧ Under hi v ∧
  (∀ i (h1 : i < svs.length) (h2 : i < xss.length), IntsO lo hi w svs[i] xss[i] ∧ Apart v svs[i]) ∧ ∀ i j (h1 : i < svs.length) (h2 : j < svs.length), i ≠ j → Apart svs[i] svs[j]
theorem TabS.tab {lo hi : Nat} {w : World} {v : Value} {svs : List Value} {xss : List (List Int)} (h : TabS lo hi w v svs xss) : TabO lo hi w v xss := ⟨svs, h⟩
theorem TabS.below {lo hi : Nat} {w w' : World} {v : Value} {svs : List Value} {xss : List (List Int)} (h : TabS lo hi w v svs xss) (hb : Below w.heap.size w w') : TabS lo hi w' v svs xss :=
  ⟨h.1, ownsRow_below h.2.1 hb, h.2.2.1, fun i h1 h2 => ⟨(h.2.2.2.1 i h1 h2).1.below hb, (h.2.2.2.1 i h1 h2).2⟩, h.2.2.2.2⟩
theorem TabS.wide {lo hi hi' : Nat} {w : World} {v : Value} {svs : List Value} {xss : List (List Int)} (h : TabS lo hi w v svs xss) (hh : hi ≤ hi') : TabS lo hi' w v svs xss :=
  ⟨h.1, h.2.1, h.2.2.1.up hh, fun i h1 h2 => ⟨(h.2.2.2.1 i h1 h2).1.wide (Nat.le_refl _) hh, (h.2.2.2.1 i h1 h2).2⟩, h.2.2.2.2⟩
/-- A table without rows, just made. -/
theorem TabS.made (w : World) {lo : Nat} (h : lo ≤ w.heap.size) : TabS lo (w.heap.size + 1) (w.alloc (.cells #[] 31 (0, 0))) (.slice (some ⟨w.heap.size, 0, none⟩) 0 0) [] [] :=
  ⟨rfl, World.ownsRow_made w #[] 0 h (Nat.zero_le _) rfl, fun g e => by simp [Value.ownBlock] at e; omega, fun i h => by simp at h, fun i j h => by simp at h⟩
/-- A row of new numbers is appended: their block at w's end, then the block of the one slice that is appended. -/
theorem TabS.push {lo : Nat} {w w3 : World} {v v' : Value} {svs : List Value} {xss : List (List Int)} {row : List Int} {A B : Obj} (h : TabS lo w.heap.size w v svs xss) (hlo : lo ≤ w.heap.size) (hrow : row.length ≤ maxLen)
    (hA : A = .cells (row.map vI).toArray 3 (0, 0)) (hown : w3.ownsRow lo 31 1 v' (xss.length + 1) (svs ++ [.slice (some ⟨w.heap.size, 0, none⟩) row.length row.length]))
    (hg : ((w.alloc A).alloc B).grownBy w3 v.ownBlock) (hat : v'.ownBlock = v.ownBlock ∨ v'.ownBlock = some ((w.alloc A).alloc B).heap.size) :
    TabS lo w3.heap.size w3 v' (svs ++ [.slice (some ⟨w.heap.size, 0, none⟩) row.length row.length]) (xss ++ [row]) := by
  obtain ⟨hl, ho, hu, hr, hd⟩ := h
  subst hA
  have hsz : ((w.alloc (.cells (row.map vI).toArray 3 (0, 0))).alloc B).heap.size = w.heap.size + 2 := by simp
  have hs3 : w.heap.size + 2 ≤ w3.heap.size := by have := hg.size; omega
  have hold : ∀ i (h1 : i < svs.length) (h2 : i < xss.length), IntsO lo w3.heap.size w3 svs[i] xss[i] ∧ Apart v' svs[i] := fun i h1 h2 => by
    obtain ⟨⟨a1, a2⟩, a3⟩ := hr i h1 h2
    refine ⟨⟨((a1.alloc _).alloc B).kept hg ?_, a2.up (by omega)⟩, fun g e1 e2 => ?_⟩
    · rcases hv : svs[i].ownBlock with _ | g
      · exact .inl rfl
      · exact .inr fun e => a3 g e.symm hv
    · rcases hat with q | q
      · exact a3 g (q ▸ e1) e2
      · rw [q, hsz] at e1
        have := Option.some.inj e1
        have := a2 g e2
        omega
  have hnew : IntsO lo w3.heap.size w3 (.slice (some ⟨w.heap.size, 0, none⟩) row.length row.length) row := by
    have h1 : (w.alloc (.cells (row.map vI).toArray 3 (0, 0))).ownsRow lo 3 1 (.slice (some ⟨w.heap.size, 0, none⟩) row.length row.length) row.length (row.map vI) := by
      have := World.ownsRow_lit (base := lo) (e := 3) (size := 1) w (row.map vI).toArray row.length hlo hrow (by simp)
      simpa using this
    refine ⟨(h1.alloc B).kept hg (.inr fun e => ?_), fun g e => by simp [Value.ownBlock] at e; omega⟩
    have := hu w.heap.size (by rw [← e]; rfl)
    omega
  have hsv : ∀ i (h1 : i < svs.length), Apart svs[i] (.slice (some ⟨w.heap.size, 0, none⟩) row.length row.length) := fun i h1 g e1 e2 => by
    have := (hr i h1 (by omega)).1.2 g e1
    simp [Value.ownBlock] at e2
    omega
  refine ⟨by simp [hl], by rw [List.length_append]; exact hown, fun g e => (hown.lt g e).2, fun i h1 h2 => ?_, fun i j h1 h2 hne => ?_⟩
  · by_cases hi : i < svs.length
    · rw [List.getElem_append_left hi, List.getElem_append_left (by omega)]
      exact hold i hi (by omega)
    · have hi2 : i = svs.length := by simp at h1; omega
      subst hi2
      rw [List.getElem_append_right (Nat.le_refl _), List.getElem_append_right (by omega)]
      simp only [hl, Nat.sub_self, List.getElem_cons_zero]
      refine ⟨hnew, fun g e1 e2 => ?_⟩
      simp [Value.ownBlock] at e2
      subst e2
      rcases hat with q | q
      · have := hu w.heap.size (by rw [← q]; exact e1)
        omega
      · rw [q, hsz] at e1
        have := Option.some.inj e1
        omega
  · by_cases hi : i < svs.length
    · by_cases hj : j < svs.length
      · rw [List.getElem_append_left hi, List.getElem_append_left hj]
        exact hd i j hi hj hne
      · rw [List.getElem_append_left hi, List.getElem_append_right (by omega)]
        simp only [show j - svs.length = 0 by simp at h2; omega, List.getElem_cons_zero]
        exact hsv i hi
    · by_cases hj : j < svs.length
      · rw [List.getElem_append_right (by omega), List.getElem_append_left hj]
        simp only [show i - svs.length = 0 by simp at h1; omega, List.getElem_cons_zero]
        exact (hsv j hj).symm
      · simp at h1 h2; omega
theorem own_sliceT {lo e size n : Nat} {w : World} {v : Value} {xs : List Value} (h : w.ownsRow lo e size v n xs) : ∃ a m c, v = .slice a m c := by
  rcases h.2 with ⟨rfl, _⟩ | ⟨g, cap, cur, rfl, _⟩
  · exact ⟨_, _, _, rfl⟩
  · exact ⟨_, _, _, rfl⟩
theorem below_app2 {B e size : Nat} {w wr w1 : World} {v : Value} {n : Nat} {xs : List Value} {t1 t2 : Obj} (hb : Below B w wr) (hB : B ≤ w.heap.size) (hO : wr.ownsRow B e size v n xs) (hg : ((wr.alloc t1).alloc t2).grownBy w1 v.ownBlock) : Below B w w1 :=
  ((hb.alloc (Nat.le_trans hB hb.size) t1).alloc (by have := hb.size; simp; omega) t2).grown hg (by have := hb.size; simp; omega) (fun k hk => (hO.lt k hk).1)
end Go.Proofs.YtpbjddiopfkgbaaDoor
