/- Lists of versions that a call makes; the model's l8Own. -/
import Derived.Test.YtmjeaciacgeioaaTyVe
import Derived.Test.YtmjeaciacgeioaaBox4
import Derived.Test.YtmjeaciacgeioaaPerS
import Derived.Test.YtmjeaciacgeioaaSlRu
import Derived.Test.YtmjeaciacgeioaaPuts
import Derived.Maps.AppendAt
import Derived.Deep.RegionHeld3
namespace Go.Proofs.Ytmjeaciacgeioaa
set_option linter.unusedVariables false
open Go.RowKit Go.Sort

/-- Nothing appended: the source is nil. -/
theorem run_append_nil0 {P : Program} (w : World) (base : Nat) (t ty e : TypeId) (i : TypeInfo) (size : Nat) (ht : P.underlying t = some (.slice e)) (hi : P.info? e = some i)
    (v : Value) (n : Nat) (xs : List Value) (hown : w.ownsRow base e size v n xs) (c : Nat) : (Builtin.append_ #[t, t] ty #[v, .slice none 0 c]).run P w = .ok v w := by
  rcases hown.2 with ⟨rfl, rfl⟩ | ⟨g, cap, cur, rfl, _, _, hnc, _⟩
  · simp [Builtin.append_, run_underlying ht, sizeOf, typeInfo, hi, Builtin.lenOf, Builtin.firstCells]
  · simp [Builtin.append_, run_underlying ht, sizeOf, typeInfo, hi, Builtin.lenOf, Builtin.firstCells, hnc, storeCells]
theorem wp_append_nil0 {P : Program} {w : World} {o : Oper} {a : Act} {K : Act → World → Prop} {Q : Exit → Act → World → Prop} (s x : Operand) (t : TypeId)
    (ho : o.op = .call { callee := .builtin .append, args := #[s, x], argTypes := #[t, t] }) (base : Nat) (e : TypeId) (i : TypeInfo) (size : Nat) (ht : P.underlying t = some (.slice e)) (hi : P.info? e = some i)
    (v : Value) (n : Nat) (xs : List Value) (hs : a.eval s = v) (hown : w.ownsRow base e size v n xs) (c : Nat) (hx : a.eval x = .slice none 0 c) (h : K (a.put o.dst v) w) : o.wp P a w K Q := by
  unfold Oper.wp execOp
  simp only [ho, resolve, invoke, builtin, Sem.run_bind, Sem.run_pure, Result.andThen_ok, List.map_toArray, List.map_cons, List.map_nil, hs, hx, run_append_nil0 w base t o.type e i size ht hi v n xs hown c]
  exact h

theorem own_slice {lo e size n : Nat} {w : World} {v : Value} {xs : List Value} (h : w.ownsRow lo e size v n xs) : ∃ a c, v = .slice a n c := by
  rcases h.2 with ⟨rfl, h0⟩ | ⟨g, cap, cur, e, _⟩
  · exact ⟨none, 0, by rw [h0]⟩
  · exact ⟨_, _, e⟩
/-- The cells of a version. -/
def veX (r : Ve) (s : Value) : List Value := [.int .i64 r.frm, s]
/-- The cells of a list of versions, each with the slice of its rules. -/
def vesC (es : List (Ve × Value)) : List Value := (es.map (fun p => veX p.1 p.2)).flatten
theorem vesC_snoc (es : List (Ve × Value)) (r : Ve) (s : Value) : vesC (es ++ [(r, s)]) = vesC es ++ veX r s := by simp [vesC]
/-- Such a list while it is made. -/
structure VesD (lo : Nat) (w : World) (v : Value) (es : List (Ve × Value)) : Prop where
  row : w.ownsRow lo 27 2 v es.length (vesC es)
  each : ∀ p ∈ es, RusO lo w.heap.size w p.2 p.1.rules ∧ p.1.ok ∧ ∀ g, p.2.ownBlock = some g → v.ownBlock ≠ some g
theorem VesD.below {lo : Nat} {w w' : World} {v : Value} {es : List (Ve × Value)} (h : VesD lo w v es) (hb : Below w.heap.size w w') : VesD lo w' v es :=
  ⟨ownsRow_below h.row hb, fun p hp => ⟨((h.each p hp).1.below hb).wide (Nat.le_refl _) hb.size, (h.each p hp).2⟩⟩
theorem VesD.alloc {lo : Nat} {w : World} {v : Value} {es : List (Ve × Value)} (h : VesD lo w v es) (o : Obj) : VesD lo (w.alloc o) v es := h.below (below_al (Below.refl _ _) o)
theorem VesD.lt {lo : Nat} {w : World} {v : Value} {es : List (Ve × Value)} (h : VesD lo w v es) : ∀ g, v.ownBlock = some g → g < w.heap.size := fun g hg => (h.row.lt g hg).2
theorem VesD.slice {lo : Nat} {w : World} {v : Value} {es : List (Ve × Value)} (h : VesD lo w v es) : ∃ a c, v = .slice a es.length c := by
  rcases h.row.2 with ⟨rfl, h0⟩ | ⟨g, cap, cur, e, _⟩
  · exact ⟨none, 0, by rw [h0]⟩
  · exact ⟨_, _, e⟩
theorem RusO.offr {lo hi : Nat} {w w' : World} {v u : Value} {t : List Ru} (h : RusO lo hi w v t) (hg : w.grownBy w' u.ownBlock) (hn : ∀ k, v.ownBlock = some k → u.ownBlock ≠ some k) : RusO lo hi w' v t := by
  refine ⟨⟨h.1.1.kept hg ?_, h.1.2⟩, h.2⟩
  rcases hv : v.ownBlock with _ | k
  · exact .inl rfl
  · exact .inr fun e => hn k hv e.symm
theorem VesD.app {lo : Nat} {w w' : World} {v v' : Value} {es : List (Ve × Value)} {r : Ve} {s : Value} (h : VesD lo w v es) (he : RusO lo w.heap.size w s r.rules) (hok : r.ok) (ha : ∀ g, s.ownBlock = some g → v.ownBlock ≠ some g)
    (hown : w'.ownsRow lo 27 2 v' (es.length + 1) (vesC es ++ veX r s)) (hg : w.grownBy w' v.ownBlock) (hat : v'.ownBlock = v.ownBlock ∨ v'.ownBlock = some w.heap.size) : VesD lo w' v' (es ++ [(r, s)]) := by
  have key : ∀ (q : Ve) (u : Value), RusO lo w.heap.size w u q.rules → (∀ g, u.ownBlock = some g → v.ownBlock ≠ some g) → RusO lo w'.heap.size w' u q.rules ∧ ∀ g, u.ownBlock = some g → v'.ownBlock ≠ some g := by
    intro q u h1 h2
    refine ⟨(h1.offr hg h2).wide (Nat.le_refl _) hg.size, fun g e1 e2 => ?_⟩
    rcases hat with e | e
    · exact h2 g e1 (by rw [← e]; exact e2)
    · rw [e] at e2; cases e2
      have := h1.2.2 _ e1
      omega
  refine ⟨by rw [vesC_snoc, List.length_append]; exact hown, fun p hp => ?_⟩
  rcases List.mem_append.1 hp with hp | hp
  · obtain ⟨a, b⟩ := key p.1 p.2 (h.each p hp).1 (h.each p hp).2.2
    exact ⟨a, (h.each p hp).2.1, b⟩
  · rw [List.mem_singleton.1 hp]
    obtain ⟨a, b⟩ := key r s he ha
    exact ⟨a, hok, b⟩
/-- It reads as its versions. -/
theorem VesD.reads {lo : Nat} {w : World} {v : Value} {es : List (Ve × Value)} (h : VesD lo w v es) : RowR 2 rVe w v (es.map Prod.fst) := by
  refine RowR.of_owns (css := es.map (fun p => veX p.1 p.2)) (by rw [List.length_map]; exact h.row) (by simp) (fun cs hc => ?_) (fun i h1 h2 => ?_)
  · obtain ⟨p, _, rfl⟩ := List.mem_map.1 hc; rfl
  · have hi : i < es.length := by simpa using h1
    have hm := h.each es[i] (List.getElem_mem hi)
    rw [List.getElem_map, List.getElem_map]
    exact ⟨es[i].2, rfl, hm.1.row, hm.2.1⟩
theorem VesD.start {L : Nat} {w : World} (hL : w.heap.size = L) : VesD L (w.alloc (.cells #[] 27 (0, 0))) (.slice (some ⟨L, 0, none⟩) 0 0) [] := by
  subst hL
  exact ⟨World.ownsRow_made w #[] 0 (Nat.le_refl _) (Nat.zero_le _) rfl, fun p hp => by cases hp⟩
theorem VesD.start' {lo L : Nat} {w : World} (hL : w.heap.size = L) (h : lo ≤ L) : VesD lo (w.alloc (.cells #[] 27 (0, 0))) (.slice (some ⟨L, 0, none⟩) 0 0) [] := by
  subst hL
  exact ⟨World.ownsRow_made w #[] 0 h (Nat.zero_le _) rfl, fun p hp => by cases hp⟩
theorem cells2_new' (w : World) (a b : Value) (t : TypeId) {k : Nat} (hk : k = w.heap.size) : ∀ j u, [a, b][j]? = some u → (w.alloc (.cells #[a, b] t (0, 0))).cell? ((⟨k, 0, none⟩ : Addr).add j) = some u := by
  subst hk
  intro j u hj
  rw [Addr.add_lit]
  simp only [Nat.zero_add]
  match j, hj with
  | 0, h => cases h; exact cell_new w _ _ 0 rfl
  | 1, h => cases h; exact cell_new w _ _ 1 rfl
theorem veC_one (r : Ve) (a : Option Addr) (n c : Nat) : ∀ u ∈ veX r (.slice a n c), u.oneCell' = true := by
  intro u hu
  simp [veX] at hu
  rcases hu with rfl | rfl <;> simp [Value.oneCell']

set_option maxRecDepth 20000 in
set_option maxHeartbeats 4000000 in
theorem l8Own_any (v : Value) (x : Ve) (w : World) (h : VeV w v x) (hn : x.rules.length ≤ 1048576) :
    Calls Try.prog 55 #[v] w fun e w' => ∃ a' c', e = .returned (.agg #[.int .i64 x.frm, .slice a' x.rules.length c']) ∧ RusO w.heap.size w'.heap.size w' (.slice a' x.rules.length c') x.rules ∧ Below w.heap.size w w' := by
  obtain ⟨s, rfl, h1, hok⟩ := h
  obtain ⟨xf, xr⟩ := x
  simp only at h1 hn
  obtain ⟨i0, hi, hz0, hz1, hz2⟩ := info_parts Try.info_ru
  have HOKS := Lib.hid h1.rus_ok
  obtain ⟨a, c, rfl, hl1, hm1, _⟩ := h1.rus
  unfold maxLen at hm1
  have HR := Lib.hid h1
  simp only
  clear h1 hok
  go_enter Try.func55, Try.ntmps55
  go_wp2_with fail
  generalize hW2 : (w.alloc (.cells #[.int .i64 xf, .slice a xr.length c] 27 (0, 0))).alloc (.cells #[.int .i64 0, .slice none 0 0] 27 (0, 0)) = W2
  have b0 : Below w.heap.size w W2 := by rw [← hW2]; exact below_al (below_al (Below.refl _ _) _) _
  have hw1 : w.heap.size + 1 < W2.heap.size := by rw [← hW2]; simp
  have hw0 : w.heap.size < W2.heap.size := by omega
  have f0 : W2.cell? ⟨w.heap.size, 0, none⟩ = some (.int .i64 xf) := by rw [← hW2]; exact below_al_cell (cell_new w _ _ 0 rfl) _
  have f1 : W2.cell? ⟨w.heap.size, 1, none⟩ = some (.slice a xr.length c) := by rw [← hW2]; exact below_al_cell (cell_new w _ _ 1 rfl) _
  have Z0 : Hid (W2.cell? ⟨w.heap.size + 1, 0, none⟩ = some (.int .i64 0)) := Lib.hid (by rw [← hW2, ← (show (w.alloc (.cells #[.int .i64 xf, .slice a xr.length c] 27 (0, 0))).heap.size = w.heap.size + 1 by simp)]; exact cell_new _ _ _ 0 rfl)
  have Z1 : Hid (W2.cell? ⟨w.heap.size + 1, 1, none⟩ = some (.slice none 0 0)) := Lib.hid (by rw [← hW2, ← (show (w.alloc (.cells #[.int .i64 xf, .slice a xr.length c] 27 (0, 0))).heap.size = w.heap.size + 1 by simp)]; exact cell_new _ _ _ 1 rfl)
  have Y0 : Hid (W2.frozen? ⟨w.heap.size + 1, 0, none⟩ = false) := Lib.hid (by rw [← hW2]; simp)
  have Y1 : Hid (W2.frozen? ⟨w.heap.size + 1, 1, none⟩ = false) := Lib.hid (by rw [← hW2]; simp)
  have HR2 := Lib.hid (HR.out.below rRu_stable b0)
  clear hW2
  rcases a with _ | ad
  · obtain ⟨rfl, h0⟩ := HR.out.none_nil
    simp only [List.length_nil] at f1 ⊢
    go_region_held3 (fun w' => w'.cell? ⟨w.heap.size, 0, none⟩ = some (.int .i64 xf) ∧ w'.cell? ⟨w.heap.size, 1, none⟩ = some (.slice none 0 c))
      (first | with_reducible exact ⟨f0, f1⟩ | with_reducible exact ⟨cell_drew f0, cell_drew f1⟩ | with_reducible exact ⟨below_al_cell f0 _, below_al_cell f1 _⟩ | with_reducible exact ⟨cell_drew (below_al_cell f0 _), cell_drew (below_al_cell f1 _)⟩ | with_reducible exact ⟨below_al_cell (cell_drew f0) _, below_al_cell (cell_drew f1) _⟩ | (refine ⟨?_, ?_⟩ <;> (repeat rw [World.cell?_setCell_far _ _ _ _ (by first | (simp; done) | (simp; omega))]) <;> first | assumption | go_keep))
      (first | (rw [if_pos (by rfl)]; refine wp_append_nil0 _ _ _ rfl W2.heap.size 91 i0 4 Try.underlying25 hi (.slice (some ⟨W2.heap.size, 0, none⟩) 0 0) 0 [] (by rfl) (by first | exact World.ownsRow_made W2.drew #[] 0 (Nat.le_refl _) (Nat.zero_le _) rfl | exact World.ownsRow_made W2 #[] 0 (Nat.le_refl _) (Nat.zero_le _) rfl) c (by rfl) ?_; have z0 := Z0.out; have z1 := Z1.out; have y0 := Y0.out; have y1 := Y1.out; have z0d := cell_kept Z0.out (show Below W2.heap.size W2 (W2.alloc (.cells #[] 91 (0, 0))) from below_al (Below.refl _ _) _); have z1d := cell_kept Z1.out (show Below W2.heap.size W2 (W2.alloc (.cells #[] 91 (0, 0))) from below_al (Below.refl _ _) _); have y0d := frozen_kept Y0.out hw1 (show Below W2.heap.size W2 (W2.alloc (.cells #[] 91 (0, 0))) from below_al (Below.refl _ _) _); have y1d := frozen_kept Y1.out hw1 (show Below W2.heap.size W2 (W2.alloc (.cells #[] 91 (0, 0))) from below_al (Below.refl _ _) _)))
    go_wp2_with fail
    have r0 := cell_drew (below_al_cell (show ((W2.setCell ⟨w.heap.size + 1, 0, none⟩ (.int .i64 xf)).setCell ⟨w.heap.size + 1, 1, none⟩ (.slice (some ⟨W2.heap.size, 0, none⟩) 0 0)).cell? ⟨w.heap.size + 1, 0, none⟩ = some (.int .i64 xf) by rw [cellset_other _ (by simp), cellset_same _ z0]) (.cells #[] 91 (0, 0)))
    have r1 := cell_drew (below_al_cell (show ((W2.setCell ⟨w.heap.size + 1, 0, none⟩ (.int .i64 xf)).setCell ⟨w.heap.size + 1, 1, none⟩ (.slice (some ⟨W2.heap.size, 0, none⟩) 0 0)).cell? ⟨w.heap.size + 1, 1, none⟩ = some (.slice (some ⟨W2.heap.size, 0, none⟩) 0 0) from cellset_same (u := .slice none 0 0) _ (by rw [cellset_other _ (by simp)]; exact z1)) (.cells #[] 91 (0, 0)))
    refine bodyPost_ret (v := .agg #[.int .i64 xf, .slice (some ⟨W2.heap.size, 0, none⟩) 0 0]) (by first | (simp [results, Try.results55 , go_sem, r0, r1]; done) | (simp only [results, Try.results55]; simp [go_sem] at r0 r1 ⊢; simp [r0, r1])) rfl ⟨some ⟨W2.heap.size, 0, none⟩, 0, rfl, ?_, ?_⟩
    · have he := RusO.empty (lo := w.heap.size) ((W2.setCell ⟨w.heap.size + 1, 0, none⟩ (.int .i64 xf)).setCell ⟨w.heap.size + 1, 1, none⟩ (.slice (some ⟨W2.heap.size, 0, none⟩) 0 0)) (by simpa using b0.size)
      rw [show ((W2.setCell ⟨w.heap.size + 1, 0, none⟩ (.int .i64 xf)).setCell ⟨w.heap.size + 1, 1, none⟩ (.slice (some ⟨W2.heap.size, 0, none⟩) 0 0)).heap.size = W2.heap.size by simp] at he
      exact he.below (Below.refl _ _).drew
    · exact (below_al ((b0.setCell (p := ⟨w.heap.size + 1, 0, none⟩) (by simp) _).setCell (p := ⟨w.heap.size + 1, 1, none⟩) (by simp) _) _).drew
  · have HC := Lib.hid (show ∀ W, Below W2.heap.size W2 W → ∀ j u, (xr.map ruC).flatten[j]? = some u → W.cell? (ad.add j) = some u from fun W hW => rus_cells HR2.out W hW)
    have HONE := Lib.hid (flat_one ruC_one xr)
    have HLEN := Lib.hid (flat_map_len ruC_len xr)
    obtain ⟨NEWS, hN⟩ : ∃ N, (xr.map ruC).flatten = N := ⟨_, rfl⟩
    rw [hN] at HC HONE HLEN
    have HN := Lib.hid hN
    clear hN
    go_region_held3 (fun w' => w'.cell? ⟨w.heap.size, 0, none⟩ = some (.int .i64 xf) ∧ w'.cell? ⟨w.heap.size, 1, none⟩ = some (.slice (some ad) xr.length c))
      (first | with_reducible exact ⟨f0, f1⟩ | with_reducible exact ⟨cell_drew f0, cell_drew f1⟩ | with_reducible exact ⟨below_al_cell f0 _, below_al_cell f1 _⟩ | with_reducible exact ⟨cell_drew (below_al_cell f0 _), cell_drew (below_al_cell f1 _)⟩ | with_reducible exact ⟨below_al_cell (cell_drew f0) _, below_al_cell (cell_drew f1) _⟩ | (refine ⟨?_, ?_⟩ <;> (repeat rw [World.cell?_setCell_far _ _ _ _ (by first | (simp; done) | (simp; omega))]) <;> first | assumption | go_keep))
      (first | (rw [if_pos (by rfl)]; refine wp_append_own _ _ _ _ rfl W2.heap.size 91 i0 (.agg #[.int .i64 0, .int .i64 0, .int .i64 0, .int .i64 0]) 4 32 Try.underlying25 hi hz0 hz1 hz2 rfl (by decide) (.slice (some ⟨W2.heap.size, 0, none⟩) 0 0) 0 [] (by rfl) (by first | exact World.ownsRow_made W2.drew #[] 0 (Nat.le_refl _) (Nat.zero_le _) rfl | exact World.ownsRow_made W2 #[] 0 (Nat.le_refl _) (Nat.zero_le _) rfl) ad xr.length c NEWS (by rfl) HLEN.out (by exact HC.out _ (by first | exact (below_al (Below.refl _ _) _).drew | exact below_al (Below.refl _ _).drew _)) HONE.out (by unfold maxLen; omega) (by omega) (by (first | omega | (simp; done) | (simp; omega))) ?_; intro v5 w5 hown5 hg5 _; obtain ⟨a5, c5, hv5⟩ := own_slice hown5; rw [Nat.zero_add] at hv5; subst hv5; have b5 : Below W2.heap.size W2 w5 := Below.grown (by first | exact (below_al (Below.refl _ _) _).drew | exact below_al (Below.refl _ _).drew _) hg5 (by (first | omega | (simp; done) | (simp; omega))) (fun kk hk => by simp [Value.ownBlock] at hk; omega); replace f0 := cell_kept f0 b5; replace f1 := cell_kept f1 b5; have z0 := cell_kept Z0.out b5; have z1 := cell_kept Z1.out b5; have y0 := frozen_kept Y0.out hw1 b5; have y1 := frozen_kept Y1.out hw1 b5; have s5 := b5.size))
    go_wp2_with fail
    refine bodyPost_ret (v := .agg #[.int .i64 xf, .slice a5 xr.length c5]) (by simp [results, Try.results55 , go_sem, z0, z1]) rfl ⟨a5, c5, rfl, ?_, ?_⟩
    · refine (((RusO.of_row (by rw [HN.out]; simpa using hown5) rfl HOKS.out : RusO W2.heap.size w5.heap.size w5 (.slice a5 xr.length c5) xr).far (a := ⟨w.heap.size + 1, 0, none⟩) hw1 _).far (a := ⟨w.heap.size + 1, 1, none⟩) hw1 _).wide b0.size (by simp)
    · exact ((b0.trans (b5.mono b0.size)).setCell (by simp) _).setCell (by simp) _
end Go.Proofs.Ytmjeaciacgeioaa
