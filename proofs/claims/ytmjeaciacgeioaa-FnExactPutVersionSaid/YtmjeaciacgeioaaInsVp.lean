/- slices.Clone and slices.Insert of one at versions. -/
import Derived.Test.YtmjeaciacgeioaaVpC
import Derived.Test.YtmjeaciacgeioaaCopyRun
import Derived.Test.YtmjeaciacgeioaaSlRu
import Derived.ArgAppend
import Derived.Deep.RegionLaw
import Derived.Lib.SliceRun
import Derived.Lib.AppendZerosOnto
import Derived.Lib.Overlaps
import Derived.Laws.Externs
namespace Go.Proofs.Ytmjeaciacgeioaa
set_option linter.unusedVariables false
open Go.RowKit

set_option maxRecDepth 20000 in
set_option maxHeartbeats 2000000 in
theorem cloneVp_any (v : Value) (es : List Vp) (w : World) (h : VpL w v es) (hn : es.length ≤ 1048576) :
    Calls Try.prog 51 #[v] w fun e w' => ∃ v', e = .returned v' ∧ Own w.heap.size 27 2 w' v' (es.map vpC) ∧ Below w.heap.size w w' := by
  obtain ⟨i0, hi, hz0, hz1, hz2⟩ := info_parts Try.info_ve
  have q22 : ∀ (w : World) (a : Option Addr) (n c n' c' : Nat), (binOp .eql 24 (.slice a n c) (.slice none n' c')).run Try.prog w = .ok (.bool a.isNone) w := fun w a n c n' c' => Lib.run_eql_slice_nil w _ _ a n c n' c' Try.underlying24
  have H := Lib.hid h
  obtain ⟨a1, c1, hv, hl1, hm1, h3⟩ := h
  subst hv
  rcases a1 with _ | ⟨b, off, spot⟩
  · have hnil : es = [] := by
      rcases h3 with rfl | ⟨b, off, _, e, _⟩
      · rfl
      · cases e
    subst hnil
    clear H h3
    go_enter Try.func51, Try.ntmps51
    go_wp2
    go_ret
    exact ⟨_, rfl, Own.nil _ _ _ _, Below.refl _ _⟩
  · have HCC := Lib.hid (fun (o : Obj) => H.out.flat (w.alloc o) (below_al (Below.refl _ _) o))
    have HONE := Lib.hid (flat_one vpC_one es)
    have HLEN := Lib.hid (flat_map_len vpC_len es)
    clear H h3
    go_enter Try.func51, Try.ntmps51
    go_wp2_with (first | (at_builtin; refine wpList_append_own _ rfl _ _ 24 rfl w.heap.size 27 i0 (.agg #[.int .i64 0, .slice none 0 0]) 2 32 Try.underlying24 hi hz0 hz1 hz2 rfl (by decide) (.slice (some ⟨w.heap.size, 0, none⟩) 0 0) 0 [] rfl (World.ownsRow_made w #[] 0 (Nat.le_refl _) (Nat.zero_le _) rfl) ⟨b, off, spot⟩ es.length c1 ((es.map vpC).flatten) rfl HLEN.out (HCC.out _) HONE.out (by unfold maxLen; omega) (by omega) (by simp) ?_; intro v' w1 hown' hgrow hnil))
    have HB : Hid (Below w.heap.size w w1) := Lib.hid ((below_al (Below.refl _ w) _).grown hgrow (by simp) (fun k hk => Nat.le_of_eq (by simpa [Value.ownBlock] using hk)))
    have HOWN := Lib.hid hown'
    clear hown' hgrow hnil
    go_wp2_with fail
    go_ret
    exact ⟨_, rfl, ⟨by simpa using HOWN.out, fun cs hcs => by obtain ⟨x, _, rfl⟩ := List.mem_map.1 hcs; rfl⟩, HB.out⟩

set_option maxRecDepth 20000 in
set_option maxHeartbeats 4000000 in
theorem insertVp_any (v : Value) (t : List Vp) (r : Vp) (p g2 : Nat) (lo : Nat) (w : World) (h : Own lo 27 2 w v (t.map vpC)) (hlo : lo ≤ w.heap.size) (hn : t.length ≤ 1048576) (hp : p ≤ t.length) (hb2 : w.heap[g2]? = some (.cells (vpC r).toArray 27 (0, 0))) (hne : v.ownBlock ≠ some g2) :
    Calls Try.prog 53 #[v, .int .i64 p, .slice (some ⟨g2, 0, none⟩) 1 1] w fun e w' => ∃ v', e = .returned v' ∧ Own lo 27 2 w' v' ((t.take p ++ r :: t.drop p).map vpC) ∧ w.grownBy w' v.ownBlock := by
  obtain ⟨i0, hi, hz0, hz1, hz2⟩ := info_parts Try.info_ve
  have hlen : (t.map vpC).length = t.length := List.length_map _
  have hr2 : ∀ j u, (vpC r)[j]? = some u → w.cell? ((⟨g2, 0, none⟩ : Addr).add j) = some u := fun j u hj => by
    rw [Addr.add_lit, Nat.zero_add]
    exact box_cell hb2 j (by simpa using hj)
  have hrow : w.ownsRow lo 27 2 v t.length ((t.map vpC).flatten) := by have := h.1; rwa [hlen] at this
  by_cases hpe : p = t.length
  · subst hpe
    have hft : ((t.map vpC).flatten).length = t.length * 2 := flat_map_len vpC_len t
    have HR2 := Lib.hid hr2
    have e1 : ((t.length : Int) == (t.length : Int)) = true := by simp
    have hcapv : ∃ a c, v = .slice a t.length c ∧ t.length ≤ c := by
      rcases h.form with ⟨rfl, h0⟩ | ⟨g, cap, hv, _, _, h4, _⟩
      · rw [List.map_eq_nil_iff] at h0; subst h0; exact ⟨_, _, rfl, Nat.le_refl _⟩
      · rw [hlen] at hv h4; exact ⟨_, _, hv, h4⟩
    obtain ⟨a, c, hv, hcl⟩ := hcapv
    subst hv
    have HFIN : Hid (∀ (w' : World) (v' : Value), w'.ownsRow lo 27 2 v' (t.length + 1) ((t.map vpC).flatten ++ vpC r) → Own lo 27 2 w' v' ((t.take t.length ++ r :: t.drop t.length).map vpC)) := Lib.hid (fun w' v' hh => by
      rw [List.take_length, List.drop_length]
      refine ⟨?_, fun cs hc => by obtain ⟨x, _, rfl⟩ := List.mem_map.1 hc; rfl⟩
      rw [List.length_map, List.length_append, List.map_append, List.flatten_append]
      simpa using hh)
    clear h hr2 hb2 hne hft hlen hp
    go_enter Try.func53, Try.ntmps53
    go_wp2_with (first | (at_builtin; refine wpList_append_own _ rfl _ _ 24 rfl lo 27 i0 (.agg #[.int .i64 0, .slice none 0 0]) 2 32 Try.underlying24 hi hz0 hz1 hz2 rfl (by decide) _ _ _ rfl hrow ⟨g2, 0, none⟩ 1 1 (vpC r) rfl rfl HR2.out (vpC_one r) (by unfold maxLen; omega) (by omega) (by omega) ?_; intro v' w4 hown' hgrow _))
    all_goals
      go_ret
      exact ⟨_, rfl, by simpa using HFIN.out _ _ hown', (by first | exact hgrow | exact (show (Value.slice a t.length t.length).ownBlock = (Value.slice a t.length c).ownBlock by cases a <;> rfl) ▸ hgrow)⟩
  · obtain ⟨g, cap, hv, hg, hgl, hnc, hcm⟩ := h.some_at (by omega)
    rw [hlen] at hv hnc
    subst hv
    unfold maxLen at hcm
    have hg2 : g2 ≠ g := fun e => hne (by rw [e]; rfl)
    have hsz : (Try.prog.info? 27).map (·.size) = some 2 := by rw [hi]; simp [hz1]
    have hb2l : g2 < w.heap.size := (Array.getElem?_eq_some_iff.1 hb2).1
    obtain ⟨news, hnews⟩ : ∃ news, news = ((t.drop p).map vpC).flatten := ⟨_, rfl⟩
    have hnl : news.length = (t.length - p) * 2 := by rw [hnews, flat_map_len vpC_len, List.length_drop]
    have hft : ((t.map vpC).flatten).length = t.length * 2 := flat_map_len vpC_len t
    have hnone : ∀ u ∈ news, u.oneCell' = true := by rw [hnews]; exact flat_one vpC_one _
    have hsrc : ∀ j u, news[j]? = some u → w.cell? ⟨g, p * 2 + j, none⟩ = some u := fun j u hj => by
      have hk := (List.getElem?_eq_some_iff.1 hj).1
      rw [hnl] at hk
      rw [hrow.cellAt (p * 2 + j) (by omega), ← dropC_at vpC_len hp, ← hnews]
      exact hj
    have ep : ((p : Int) == (t.length : Int)) = false := by simp; omega
    have hpi : IntKind.i64.wrap ((p : Int) + 1) = (p : Int) + 1 := Go.IntWalk.i64_in _ (by omega)
    have hp0 : (0 : Int) ≤ (p : Int) + 1 := by omega
    have hpt : ((p : Int) + 1).toNat = p + 1 := by omega
    have HSRC := Lib.hid hsrc
    have HNONE := Lib.hid hnone
    have HNL := Lib.hid hnl
    have HP := Lib.hid hpe
    by_cases hroom : t.length + 1 ≤ cap
    · obtain ⟨ys, hyl, hwide⟩ := row_wide hrow hroom
      have hcw : ∀ k, k < (t.length + 1) * 2 → (w.cell? ⟨g, k, none⟩).isSome = true ∧ w.frozen? ⟨g, k, none⟩ = false := fun k hk => by
        refine ⟨?_, hwide.frozenAt k⟩
        rw [hwide.cellAt k hk, List.getElem?_eq_getElem (by rw [List.length_append, hft, hyl]; omega)]; rfl
      have hov : ∀ o lb cb, (callFunc 99 #[.slice (some ⟨g2, 0, none⟩) 1 1, .slice (some ⟨g, o, none⟩) lb cb]).run Try.prog w = .ok (.value (.bool false)) w := fun o lb cb => by
        obtain ⟨g', cap', cur, e, _, hgb, _, _, hcs, _⟩ := hrow.2.resolve_left (fun e => by cases e.1)
        cases e
        rw [run_callFunc_extern Try.func99 (by kernel_rfl) (by kernel_rfl) (by kernel_rfl) (e := Extern.SlicesOverlaps.overlaps #[24, 24] #[4]) (by kernel_rfl),
          Lib.run_overlaps_apart w 24 4 27 Try.underlying24 2 (fun w => Try.sizeOf27 w) ⟨g2, 0, none⟩ ⟨g, o, none⟩ 1 1 lb cb hg2 27 27 2 (cap * 2) (by simp [World.shape?, hb2, vpC]) (by simp [World.shape?, hgb, hcs]) (by omega) (blk_frozen hb2 0) (blk_frozen hb2 _)]
        rfl
      have hcp1 : ∀ ty dc sc, (Builtin.copy_ #[24, 24] ty #[.slice (some ⟨g, (p + 1) * 2, none⟩) (t.length - p) dc, .slice (some ⟨g, p * 2, none⟩) (t.length + 1 - p) sc]).run Try.prog w.drew = .ok (goInt (Nat.min (t.length + 1 - p) (t.length - p))) (w.drew.setCells g ((p + 1) * 2) news) := fun ty dc sc =>
        run_copy_cellsK w.drew _ _ ty 27 2 g ((p + 1) * 2) (t.length - p) dc ⟨g, p * 2, none⟩ (t.length + 1 - p) sc news Try.underlying24 hsz (by rw [hnl]; congr 1; simp only [Nat.min_def]; split <;> omega)
          (fun j u hj => by rw [Addr.add_lit]; exact hsrc j u hj) (fun j hj => by rw [hnl] at hj; exact (hcw _ (by omega)).1) (fun j hj => by rw [hnl] at hj; exact (hcw _ (by omega)).2) hnone
      obtain ⟨W1, hW1⟩ : ∃ W1, W1 = w.drew.setCells g ((p + 1) * 2) news := ⟨_, rfl⟩
      rw [← hW1] at hcp1
      have hcp2 : ∀ (W : World), (∀ x, W.cell? x = W1.cell? x) → (∀ x, W.frozen? x = W1.frozen? x) → ∀ ty dc, (Builtin.copy_ #[24, 24] ty #[.slice (some ⟨g, p * 2, none⟩) (t.length + 1 - p) dc, .slice (some ⟨g2, 0, none⟩) 1 1]).run Try.prog W = .ok (goInt (Nat.min 1 (t.length + 1 - p))) (W.setCells g (p * 2) (vpC r)) := fun W hWc hWf ty dc =>
        run_copy_cellsK W _ _ ty 27 2 g (p * 2) (t.length + 1 - p) dc ⟨g2, 0, none⟩ 1 1 (vpC r) Try.underlying24 hsz (by rw [vpC_len, show Nat.min 1 (t.length + 1 - p) = 1 by simp only [Nat.min_def]; split <;> omega])
          (fun j u hj => by rw [hWc, hW1, Addr.add_lit, World.cell?_setCells_out g _ _ _ _ (fun e _ => absurd e hg2)]; have := hr2 j u hj; rwa [Addr.add_lit] at this)
          (fun j hj => by rw [vpC_len] at hj; rw [hWc, hW1]; exact isSome_puts g news ((p + 1) * 2) w.drew (fun k hk => (hcw ((p + 1) * 2 + k) (by rw [hnl] at hk; omega)).1) _ (hcw (p * 2 + j) (by omega)).1)
          (fun j hj => by rw [vpC_len] at hj; rw [hWf, hW1, World.frozen?_setCells]; exact (hcw (p * 2 + j) (by omega)).2) (vpC_one r)
      obtain ⟨o1, gr1⟩ := row_puts news w.drew _ ((p + 1) * 2) hwide.drew
      rw [← hW1] at o1 gr1
      obtain ⟨o2, gr2⟩ := row_puts (vpC r) W1 _ (p * 2) o1
      rw [hnews, insC_cells vpC_len hp r ys hyl] at o2
      have hl2 : ((t.take p ++ r :: t.drop p).map vpC).length = t.length + 1 := by
        rw [List.length_map, List.length_append, List.length_cons, List.length_take, List.length_drop]; omega
      have O3 : Hid (Own lo 27 2 (W1.setCells g (p * 2) (vpC r)) (.slice (some ⟨g, 0, none⟩) (t.length + 1) cap) ((t.take p ++ r :: t.drop p).map vpC)) := Lib.hid ⟨by rw [hl2]; exact o2, fun cs hc => by obtain ⟨x, _, rfl⟩ := List.mem_map.1 hc; rfl⟩
      have G3 : Hid (w.grownBy (W1.setCells g (p * 2) (vpC r)) (some g)) := Lib.hid (grownBy_trans (grownBy_trans (grownBy_of_below (Below.refl _ _).drew _) gr1) gr2)
      have hW := Lib.hid hW1
      have hc1 : ¬ (cap = p + 1) := by omega
      have hc0 : ¬ (cap = p) := by omega
      have hpn : p ≤ t.length + 1 := by omega
      have hpI : (p : Int) ≤ (t.length : Int) + 1 := by omega
      have hpI0 : (0 : Int) ≤ (p : Int) := by omega
      have hroomI : ¬ ((cap : Int) < (t.length : Int) + 1) := by omega
      have HC1 := Lib.hid hcp1
      have HC2 := Lib.hid hcp2
      clear hW1 o1 o2 gr1 gr2 hcp1 hcp2 hnl hft hnews hrow h hwide hcw hsrc hnone hl2 hr2 hb2 hlen hpe hne
      go_enter Try.func53, Try.ntmps53
      go_wp2_with (simp only [hov])
      go_region_law (refine copy_step rfl (.tmp 73) (.tmp 76) 24 24 rfl (.slice (some ⟨g, (p + 1) * 2, none⟩) (t.length - p) (cap - (p + 1))) (.slice (some ⟨g, p * 2, none⟩) (t.length + 1 - p) (cap - p)) (by simp [Act.eval, Act.put]) (by simp [Act.eval, Act.put]) (HC1.out _ _ _) ?_)
      go_wp2_with (refine copy_wpList _ rfl _ _ 24 24 rfl _ _ rfl rfl (HC2.out _ (fun _ => rfl) (fun _ => rfl) _ _) ?_)
      go_ret
      exact ⟨_, rfl, by simpa using O3.out, G3.out⟩
    · obtain rfl : cap = t.length := by omega
      have hbw : g < w.heap.size := hg
      have hkk : (t.length : Int) + 1 - (p : Int) = ((t.length + 1 - p : Nat) : Int) := by omega
      have hik : p + (t.length + 1 - p) = t.length + 1 := by omega
      have hold : (Builtin.firstCells i0.size p (.slice (some ⟨g, 0, none⟩) p t.length)).run Try.prog w.drew = .ok (((t.map vpC).flatten.take (p * 2)).toArray) w.drew := by
        rw [hz1]
        refine run_firstCells_some w.drew 2 p ⟨g, 0, none⟩ p t.length _ (by rw [List.length_take, hft]; omega) (fun j u hj => ?_)
        rw [Addr.add_lit, Nat.zero_add]
        rw [List.getElem?_take] at hj
        split at hj
        · exact (hrow.cellAt j (by omega)).trans hj
        · cases hj
      have hrz : ∀ ty, (Builtin.append_ #[24, 3] ty #[.slice (some ⟨g, 0, none⟩) p t.length, .int .i64 ((t.length : Int) + 1 - (p : Int))]).run Try.prog w = .ok (.slice (some ⟨w.heap.size, 0, none⟩) (t.length + 1) (grownCap w (t.length + 1) t.length 27))
          (w.drew.alloc (.cells (((t.map vpC).flatten.take (p * 2)).toArray ++ Builtin.zeroCells (Value.agg #[.int .i64 0, .slice none 0 0]).cells (t.length + 1 - p) ++ Builtin.zeroCells (Value.agg #[.int .i64 0, .slice none 0 0]).cells (grownCap w (t.length + 1) t.length 27 - (t.length + 1))) 27)) := fun ty => by
        have h := Lib.run_append_grow_zeros w 24 3 ty 27 i0 (.agg #[.int .i64 0, .slice none 0 0]) .i64 .i64 Try.underlying24 Try.underlying3 hi hz0 (some ⟨g, 0, none⟩) p t.length _ hold (t.length + 1 - p) (by omega) (by simp [hz1]) (by omega) (by omega) (by rw [hz2]; omega) (by rw [hz2, hik]; exact growslice_fits (by omega) (by omega))
        rw [hik] at h
        rw [hkk]
        exact h
      obtain ⟨G, hG⟩ : ∃ G, G = grownCap w (t.length + 1) t.length 27 := ⟨_, rfl⟩
      obtain ⟨ROW, hROW⟩ : ∃ ROW : Array Value, ROW = ((t.map vpC).flatten.take (p * 2)).toArray ++ Builtin.zeroCells (Value.agg #[.int .i64 0, .slice none 0 0]).cells (t.length + 1 - p) ++ Builtin.zeroCells (Value.agg #[.int .i64 0, .slice none 0 0]).cells (G - (t.length + 1)) := ⟨_, rfl⟩
      rw [← hG] at hrz
      rw [← hROW] at hrz
      have hGn : t.length + 1 ≤ G := by rw [hG]; exact grownCap_ge w _ _ _
      have hGm : G ≤ maxLen := by rw [hG]; exact grownCap_le_maxLen w _ _ _ (by unfold maxLen; omega)
      have hzl : ∀ m, (Builtin.zeroCells (Value.agg #[.int .i64 0, .slice none 0 0]).cells m).size = m * 2 := fun m => by simp [Builtin.zeroCells, Value.cells]
      have hRs : ROW.size = G * 2 := by
        rw [hROW]
        simp only [Array.size_append, hzl, List.size_toArray, List.length_take, hft]
        omega
      have hRt : (ROW.toList.take ((t.length + 1) * 2)).take (p * 2) = ((t.take p).map vpC).flatten := by
        rw [List.take_take, Nat.min_eq_left (by omega), hROW, Array.toList_append, Array.toList_append, List.append_assoc, List.take_append_of_le_length (by simp only [List.length_take, hft]; omega), List.take_take, Nat.min_self]
        exact flatC_take vpC_len t p
      obtain ⟨W1, hW1⟩ : ∃ W1, W1 = w.drew.alloc (.cells ROW 27) := ⟨_, rfl⟩
      rw [← hW1] at hrz
      have hblk : W1.heap[w.heap.size]? = some (.cells ROW 27 (0, 0)) := by rw [hW1]; exact heap_alloc_new w.drew _
      have hW1b : Below w.heap.size w W1 := by rw [hW1]; exact below_al (Below.refl _ _).drew _
      have hN : ∀ j, j < (t.length + 1) * 2 → (W1.cell? ⟨w.heap.size, j, none⟩).isSome = true := fun j hj => by
        rw [blk_cell hblk, Array.getElem?_eq_getElem (by rw [hRs]; omega)]; rfl
      have hNf : ∀ j, W1.frozen? ⟨w.heap.size, j, none⟩ = false := fun j => blk_frozen hblk j
      have hown1 : W1.ownsRow lo 27 2 (.slice (some ⟨w.heap.size, 0, none⟩) (t.length + 1) G) (t.length + 1) (ROW.toList.take ((t.length + 1) * 2)) :=
        ⟨by rw [List.length_take, Array.length_toList (xs := ROW), hRs]; omega, .inr ⟨w.heap.size, G, ROW, rfl, hlo, hblk, hGn, hGm, hRs, rfl⟩⟩
      have hcpA : ∀ (W : World), (∀ x, W.cell? x = W1.cell? x) → (∀ x, W.frozen? x = W1.frozen? x) → ∀ ty dc, (Builtin.copy_ #[24, 24] ty #[.slice (some ⟨w.heap.size, p * 2, none⟩) (t.length + 1 - p) dc, .slice (some ⟨g2, 0, none⟩) 1 1]).run Try.prog W = .ok (goInt (Nat.min 1 (t.length + 1 - p))) (W.setCells w.heap.size (p * 2) (vpC r)) := fun W hWc hWf ty dc =>
        run_copy_cellsK W _ _ ty 27 2 w.heap.size (p * 2) (t.length + 1 - p) dc ⟨g2, 0, none⟩ 1 1 (vpC r) Try.underlying24 hsz (by rw [vpC_len, show Nat.min 1 (t.length + 1 - p) = 1 by simp only [Nat.min_def]; split <;> omega])
          (fun j u hj => by rw [hWc]; exact cell_kept (hr2 j u hj) hW1b)
          (fun j hj => by rw [vpC_len] at hj; rw [hWc]; exact hN (p * 2 + j) (by omega))
          (fun j hj => by rw [hWf]; exact hNf _) (vpC_one r)
      obtain ⟨o1, gr1⟩ := row_puts (vpC r) W1 _ (p * 2) hown1
      obtain ⟨W2, hW2⟩ : ∃ W2, W2 = W1.setCells w.heap.size (p * 2) (vpC r) := ⟨_, rfl⟩
      have hcpB : ∀ ty dc sc, (Builtin.copy_ #[24, 24] ty #[.slice (some ⟨w.heap.size, (p + 1) * 2, none⟩) (t.length - p) dc, .slice (some ⟨g, p * 2, none⟩) (t.length - p) sc]).run Try.prog W2.drew = .ok (goInt (Nat.min (t.length - p) (t.length - p))) (W2.drew.setCells w.heap.size ((p + 1) * 2) news) := fun ty dc sc =>
        run_copy_cellsK W2.drew _ _ ty 27 2 w.heap.size ((p + 1) * 2) (t.length - p) dc ⟨g, p * 2, none⟩ (t.length - p) sc news Try.underlying24 hsz (by rw [hnl]; congr 1; simp only [Nat.min_def]; split <;> omega)
          (fun j u hj => by rw [Addr.add_lit]; show W2.cell? _ = _; rw [hW2, World.cell?_setCells_out _ _ _ _ _ (fun e _ => absurd e (by show g ≠ w.heap.size; omega))]; exact cell_kept (hsrc j u hj) hW1b)
          (fun j hj => by rw [hnl] at hj; show (W2.cell? _).isSome = true; rw [hW2]; exact isSome_puts _ _ _ _ (fun k hk => hN (p * 2 + k) (by rw [vpC_len] at hk; omega)) _ (hN ((p + 1) * 2 + j) (by omega)))
          (fun j hj => by show W2.frozen? _ = false; rw [hW2, World.frozen?_setCells]; exact hNf _) hnone
      rw [← hW2] at o1 gr1
      obtain ⟨o2, gr2⟩ := row_puts news W2.drew _ ((p + 1) * 2) o1.drew
      rw [hnews, insC_cells2 vpC_len hp r _ (by rw [List.length_take, Array.length_toList (xs := ROW), hRs]; omega) hRt] at o2
      have hl2 : ((t.take p ++ r :: t.drop p).map vpC).length = t.length + 1 := by
        rw [List.length_map, List.length_append, List.length_cons, List.length_take, List.length_drop]; omega
      have O3 : Hid (Own lo 27 2 (W2.drew.setCells w.heap.size ((p + 1) * 2) news) (.slice (some ⟨w.heap.size, 0, none⟩) (t.length + 1) G) ((t.take p ++ r :: t.drop p).map vpC)) := Lib.hid ⟨by rw [hl2, hnews]; exact o2, fun cs hc => by obtain ⟨x, _, rfl⟩ := List.mem_map.1 hc; rfl⟩
      have G3 : Hid (w.grownBy (W2.drew.setCells w.heap.size ((p + 1) * 2) news) (some g)) := Lib.hid (grownBy_of_below (hW1b.grown (grownBy_trans (grownBy_trans gr1 (grownBy_of_below (Below.refl _ _).drew _)) gr2) hW1b.size (fun k e => by cases e; exact Nat.le_refl _)) _)
      have HA := Lib.hid hcpA
      have HB := Lib.hid hcpB
      have HW1 := Lib.hid hW1
      have HW2 := Lib.hid hW2
      have HRZ := Lib.hid hrz
      have hgp : ¬ (G = p) := by omega
      have hgp1 : ¬ (G = p + 1) := by omega
      have hcp : ¬ (t.length = p) := by omega
      have hpn : p ≤ t.length := hp
      have hpn1 : p ≤ t.length + 1 := by omega
      have hpI : (p : Int) ≤ (t.length : Int) := by omega
      have hpI0 : (0 : Int) ≤ (p : Int) := by omega
      have hpI1 : (p : Int) + 1 ≤ (t.length : Int) + 1 := by omega
      have hG63 : G ≤ 9223372036854775807 := by unfold maxLen at hGm; omega
      clear hcpA hcpB hW1 hW2 hrz hG hROW o1 o2 gr1 gr2 hblk hN hNf hown1 hRs hRt hold hkk hik hnl hft hnews hrow h hsrc hnone hl2 hr2 hb2 hlen hpe hne hW1b hzl hGm
      go_enter Try.func53, Try.ntmps53
      go_wp2_with (first
        | (at_builtin; refine Lib.wpList_append_run _ rfl _ _ _ _ rfl _ _ rfl rfl _ _ (HRZ.out _) ?_)
        | (refine copy_wpList _ rfl _ _ 24 24 rfl _ _ rfl rfl (HA.out _ (fun _ => rfl) (fun _ => rfl) _ _) ?_; rw [← HW2.out]))
      go_region_law (refine copy_step rfl (.tmp 50) (.tmp 53) 24 24 rfl (.slice (some ⟨w.heap.size, (p + 1) * 2, none⟩) (t.length - p) (G - (p + 1))) (.slice (some ⟨g, p * 2, none⟩) (t.length - p) (t.length - p)) (by simp [Act.eval, Act.put]) (by simp [Act.eval, Act.put]) (HB.out _ _ _) ?_)
      go_wp2
      go_ret
      exact ⟨_, rfl, by simpa using O3.out, G3.out⟩
end Go.Proofs.Ytmjeaciacgeioaa
