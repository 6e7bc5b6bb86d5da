/- slices.Insert of one Rule, at a row of the call's own. -/
import Derived.Test.YtpcdjpkcalbpkaaDoorSlRu
import Derived.Test.YtpcdjpkcalbpkaaDoorCopyRun
import Derived.Deep.RegionLaw
import Derived.Lib.SliceRun
import Derived.Lib.AppendZerosOnto
import Derived.Lib.Overlaps
import Derived.Laws.Externs
namespace Go.Proofs.YtpcdjpkcalbpkaaDoor
set_option linter.unusedVariables false
open Go.RowKit

set_option maxRecDepth 20000 in
set_option maxHeartbeats 4000000 in
theorem insertRu_any (v : Value) (t : List Ru) (r : Ru) (p g2 : Nat) (lo : Nat) (w : World) (h : Own lo 30 4 w v (t.map ruC)) (hlo : lo ≤ w.heap.size) (hn : t.length ≤ 1048576) (hp : p ≤ t.length) (hb2 : w.heap[g2]? = some (.cells (ruC r).toArray 30 (0, 0))) (hne : v.ownBlock ≠ some g2) :
    Calls Tryd.prog 29 #[v, .int .i64 p, .slice (some ⟨g2, 0, none⟩) 1 1] w fun e w' => ∃ v', e = .returned v' ∧ Own lo 30 4 w' v' ((t.take p ++ r :: t.drop p).map ruC) ∧ w.grownBy w' v.ownBlock := by
  obtain ⟨i0, hi, hz0, hz1, hz2⟩ := info_parts Tryd.info_ru
  have hlen : (t.map ruC).length = t.length := List.length_map _
  have hr2 : ∀ j u, (ruC r)[j]? = some u → w.cell? ((⟨g2, 0, none⟩ : Addr).add j) = some u := fun j u hj => by
    rw [Addr.add_lit, Nat.zero_add]
    exact box_cell hb2 j (by simpa using hj)
  have hrow : w.ownsRow lo 30 4 v t.length ((t.map ruC).flatten) := by have := h.1; rwa [hlen] at this
  by_cases hpe : p = t.length
  · subst hpe
    have hft : ((t.map ruC).flatten).length = t.length * 4 := flat_map_len ruC_len t
    have HR2 := Lib.hid hr2
    have e1 : ((t.length : Int) == (t.length : Int)) = true := by simp
    have hcapv : ∃ a c, v = .slice a t.length c ∧ t.length ≤ c := by
      rcases h.form with ⟨rfl, h0⟩ | ⟨g, cap, hv, _, _, h4, _⟩
      · rw [List.map_eq_nil_iff] at h0; subst h0; exact ⟨_, _, rfl, Nat.le_refl _⟩
      · rw [hlen] at hv h4; exact ⟨_, _, hv, h4⟩
    obtain ⟨a, c, hv, hcl⟩ := hcapv
    subst hv
    have HFIN : Hid (∀ (w' : World) (v' : Value), w'.ownsRow lo 30 4 v' (t.length + 1) ((t.map ruC).flatten ++ ruC r) → Own lo 30 4 w' v' ((t.take t.length ++ r :: t.drop t.length).map ruC)) := Lib.hid (fun w' v' hh => by
      rw [List.take_length, List.drop_length]
      refine ⟨?_, fun cs hc => by obtain ⟨x, _, rfl⟩ := List.mem_map.1 hc; rfl⟩
      rw [List.length_map, List.length_append, List.map_append, List.flatten_append]
      simpa using hh)
    clear h hr2 hb2 hne hft hlen hp
    go_enter Tryd.func29, Tryd.ntmps29
    go_wp2_with (first | (at_builtin; refine wpList_append_own _ rfl _ _ 26 rfl lo 30 i0 (.agg #[.int .i64 0, .int .i64 0, .int .i64 0, .int .i64 0]) 4 32 Tryd.underlying26 hi hz0 hz1 hz2 rfl (by decide) _ _ _ rfl hrow ⟨g2, 0, none⟩ 1 1 (ruC r) rfl rfl HR2.out (ruC_one r) (by unfold maxLen; omega) (by omega) (by omega) ?_; intro v' w4 hown' hgrow _))
    all_goals
      go_ret
      exact ⟨_, rfl, by simpa using HFIN.out _ _ hown', (by first | exact hgrow | exact (show (Value.slice a t.length t.length).ownBlock = (Value.slice a t.length c).ownBlock by cases a <;> rfl) ▸ hgrow)⟩
  · obtain ⟨g, cap, hv, hg, hgl, hnc, hcm⟩ := h.some_at (by omega)
    rw [hlen] at hv hnc
    subst hv
    unfold maxLen at hcm
    have hg2 : g2 ≠ g := fun e => hne (by rw [e]; rfl)
    have hsz : (Tryd.prog.info? 30).map (·.size) = some 4 := by rw [hi]; simp [hz1]
    have hb2l : g2 < w.heap.size := (Array.getElem?_eq_some_iff.1 hb2).1
    obtain ⟨news, hnews⟩ : ∃ news, news = ((t.drop p).map ruC).flatten := ⟨_, rfl⟩
    have hnl : news.length = (t.length - p) * 4 := by rw [hnews, flat_map_len ruC_len, List.length_drop]
    have hft : ((t.map ruC).flatten).length = t.length * 4 := flat_map_len ruC_len t
    have hnone : ∀ u ∈ news, u.oneCell' = true := by rw [hnews]; exact flat_one ruC_one _
    have hsrc : ∀ j u, news[j]? = some u → w.cell? ⟨g, p * 4 + j, none⟩ = some u := fun j u hj => by
      have hk := (List.getElem?_eq_some_iff.1 hj).1
      rw [hnl] at hk
      rw [hrow.cellAt (p * 4 + j) (by omega), ← dropC_at ruC_len hp, ← hnews]
      exact hj
    have ep : ((p : Int) == (t.length : Int)) = false := by simp; omega
    have hpi : IntKind.i64.wrap ((p : Int) + 1) = (p : Int) + 1 := Go.IntWalk.i64_in _ (by omega)
    have hp0 : (0 : Int) ≤ (p : Int) + 1 := by omega
    have hpt : ((p : Int) + 1).toNat = p + 1 := by omega
    have HSRC := Lib.hid hsrc
    have HNONE := Lib.hid hnone
    have HNL := Lib.hid hnl
    have HP := Lib.hid hpe
    by_cases hroom : t.length + 1 ≤ cap
    · obtain ⟨ys, hyl, hwide⟩ := row_wide hrow hroom
      have hcw : ∀ k, k < (t.length + 1) * 4 → (w.cell? ⟨g, k, none⟩).isSome = true ∧ w.frozen? ⟨g, k, none⟩ = false := fun k hk => by
        refine ⟨?_, hwide.frozenAt k⟩
        rw [hwide.cellAt k hk, List.getElem?_eq_getElem (by rw [List.length_append, hft, hyl]; omega)]; rfl
      have hov : ∀ o lb cb, (callFunc 44 #[.slice (some ⟨g2, 0, none⟩) 1 1, .slice (some ⟨g, o, none⟩) lb cb]).run Tryd.prog w = .ok (.value (.bool false)) w := fun o lb cb => by
        obtain ⟨g', cap', cur, e, _, hgb, _, _, hcs, _⟩ := hrow.2.resolve_left (fun e => by cases e.1)
        cases e
        rw [run_callFunc_extern Tryd.func44 (by kernel_rfl) (by kernel_rfl) (by kernel_rfl) (e := Extern.SlicesOverlaps.overlaps #[26, 26] #[4]) (by kernel_rfl),
          Lib.run_overlaps_apart w 26 4 30 Tryd.underlying26 4 (fun w => Tryd.sizeOf30 w) ⟨g2, 0, none⟩ ⟨g, o, none⟩ 1 1 lb cb hg2 30 30 4 (cap * 4) (by simp [World.shape?, hb2, ruC]) (by simp [World.shape?, hgb, hcs]) (by omega) (blk_frozen hb2 0) (blk_frozen hb2 _)]
        rfl
      have hcp1 : ∀ ty dc sc, (Builtin.copy_ #[26, 26] ty #[.slice (some ⟨g, (p + 1) * 4, none⟩) (t.length - p) dc, .slice (some ⟨g, p * 4, none⟩) (t.length + 1 - p) sc]).run Tryd.prog w.drew = .ok (goInt (Nat.min (t.length + 1 - p) (t.length - p))) (w.drew.setCells g ((p + 1) * 4) news) := fun ty dc sc =>
        run_copy_cellsK w.drew _ _ ty 30 4 g ((p + 1) * 4) (t.length - p) dc ⟨g, p * 4, none⟩ (t.length + 1 - p) sc news Tryd.underlying26 hsz (by rw [hnl]; congr 1; simp only [Nat.min_def]; split <;> omega)
          (fun j u hj => by rw [Addr.add_lit]; exact hsrc j u hj) (fun j hj => by rw [hnl] at hj; exact (hcw _ (by omega)).1) (fun j hj => by rw [hnl] at hj; exact (hcw _ (by omega)).2) hnone
      obtain ⟨W1, hW1⟩ : ∃ W1, W1 = w.drew.setCells g ((p + 1) * 4) news := ⟨_, rfl⟩
      rw [← hW1] at hcp1
      have hcp2 : ∀ (W : World), (∀ x, W.cell? x = W1.cell? x) → (∀ x, W.frozen? x = W1.frozen? x) → ∀ ty dc, (Builtin.copy_ #[26, 26] ty #[.slice (some ⟨g, p * 4, none⟩) (t.length + 1 - p) dc, .slice (some ⟨g2, 0, none⟩) 1 1]).run Tryd.prog W = .ok (goInt (Nat.min 1 (t.length + 1 - p))) (W.setCells g (p * 4) (ruC r)) := fun W hWc hWf ty dc =>
        run_copy_cellsK W _ _ ty 30 4 g (p * 4) (t.length + 1 - p) dc ⟨g2, 0, none⟩ 1 1 (ruC r) Tryd.underlying26 hsz (by rw [ruC_len, show Nat.min 1 (t.length + 1 - p) = 1 by simp only [Nat.min_def]; split <;> omega])
          (fun j u hj => by rw [hWc, hW1, Addr.add_lit, World.cell?_setCells_out g _ _ _ _ (fun e _ => absurd e hg2)]; have := hr2 j u hj; rwa [Addr.add_lit] at this)
          (fun j hj => by rw [ruC_len] at hj; rw [hWc, hW1]; exact isSome_puts g news ((p + 1) * 4) w.drew (fun k hk => (hcw ((p + 1) * 4 + k) (by rw [hnl] at hk; omega)).1) _ (hcw (p * 4 + j) (by omega)).1)
          (fun j hj => by rw [ruC_len] at hj; rw [hWf, hW1, World.frozen?_setCells]; exact (hcw (p * 4 + j) (by omega)).2) (ruC_one r)
      obtain ⟨o1, gr1⟩ := row_puts news w.drew _ ((p + 1) * 4) hwide.drew
      rw [← hW1] at o1 gr1
      obtain ⟨o2, gr2⟩ := row_puts (ruC r) W1 _ (p * 4) o1
      rw [hnews, insC_cells ruC_len hp r ys hyl] at o2
      have hl2 : ((t.take p ++ r :: t.drop p).map ruC).length = t.length + 1 := by
        rw [List.length_map, List.length_append, List.length_cons, List.length_take, List.length_drop]; omega
      have O3 : Hid (Own lo 30 4 (W1.setCells g (p * 4) (ruC r)) (.slice (some ⟨g, 0, none⟩) (t.length + 1) cap) ((t.take p ++ r :: t.drop p).map ruC)) := Lib.hid ⟨by rw [hl2]; exact o2, fun cs hc => by obtain ⟨x, _, rfl⟩ := List.mem_map.1 hc; rfl⟩
      have G3 : Hid (w.grownBy (W1.setCells g (p * 4) (ruC r)) (some g)) := Lib.hid (grownBy_trans (grownBy_trans (grownBy_of_below (Below.refl _ _).drew _) gr1) gr2)
      have hW := Lib.hid hW1
      have hc1 : ¬ (cap = p + 1) := by omega
      have hc0 : ¬ (cap = p) := by omega
      have hpn : p ≤ t.length + 1 := by omega
      have hpI : (p : Int) ≤ (t.length : Int) + 1 := by omega
      have hpI0 : (0 : Int) ≤ (p : Int) := by omega
      have hroomI : ¬ ((cap : Int) < (t.length : Int) + 1) := by omega
      have HC1 := Lib.hid hcp1
      have HC2 := Lib.hid hcp2
      clear hW1 o1 o2 gr1 gr2 hcp1 hcp2 hnl hft hnews hrow h hwide hcw hsrc hnone hl2 hr2 hb2 hlen hpe hne
      go_enter Tryd.func29, Tryd.ntmps29
      go_wp2_with (simp only [hov])
      go_region_law (refine copy_step rfl (.tmp 73) (.tmp 76) 26 26 rfl (.slice (some ⟨g, (p + 1) * 4, none⟩) (t.length - p) (cap - (p + 1))) (.slice (some ⟨g, p * 4, none⟩) (t.length + 1 - p) (cap - p)) (by simp [Act.eval, Act.put]) (by simp [Act.eval, Act.put]) (HC1.out _ _ _) ?_)
      go_wp2_with (refine copy_wpList _ rfl _ _ 26 26 rfl _ _ rfl rfl (HC2.out _ (fun _ => rfl) (fun _ => rfl) _ _) ?_)
      go_ret
      exact ⟨_, rfl, by simpa using O3.out, G3.out⟩
    · obtain rfl : cap = t.length := by omega
      have hbw : g < w.heap.size := hg
      have hkk : (t.length : Int) + 1 - (p : Int) = ((t.length + 1 - p : Nat) : Int) := by omega
      have hik : p + (t.length + 1 - p) = t.length + 1 := by omega
      have hold : (Builtin.firstCells i0.size p (.slice (some ⟨g, 0, none⟩) p t.length)).run Tryd.prog w.drew = .ok (((t.map ruC).flatten.take (p * 4)).toArray) w.drew := by
        rw [hz1]
        refine run_firstCells_some w.drew 4 p ⟨g, 0, none⟩ p t.length _ (by rw [List.length_take, hft]; omega) (fun j u hj => ?_)
        rw [Addr.add_lit, Nat.zero_add]
        rw [List.getElem?_take] at hj
        split at hj
        · exact (hrow.cellAt j (by omega)).trans hj
        · cases hj
      have hrz : ∀ ty, (Builtin.append_ #[26, 3] ty #[.slice (some ⟨g, 0, none⟩) p t.length, .int .i64 ((t.length : Int) + 1 - (p : Int))]).run Tryd.prog w = .ok (.slice (some ⟨w.heap.size, 0, none⟩) (t.length + 1) (grownCap w (t.length + 1) t.length 30))
          (w.drew.alloc (.cells (((t.map ruC).flatten.take (p * 4)).toArray ++ Builtin.zeroCells (Value.agg #[.int .i64 0, .int .i64 0, .int .i64 0, .int .i64 0]).cells (t.length + 1 - p) ++ Builtin.zeroCells (Value.agg #[.int .i64 0, .int .i64 0, .int .i64 0, .int .i64 0]).cells (grownCap w (t.length + 1) t.length 30 - (t.length + 1))) 30)) := fun ty => by
        have h := Lib.run_append_grow_zeros w 26 3 ty 30 i0 (.agg #[.int .i64 0, .int .i64 0, .int .i64 0, .int .i64 0]) .i64 .i64 Tryd.underlying26 Tryd.underlying3 hi hz0 (some ⟨g, 0, none⟩) p t.length _ hold (t.length + 1 - p) (by omega) (by simp [hz1]) (by omega) (by omega) (by rw [hz2]; omega) (by rw [hz2, hik]; exact growslice_fits (by omega) (by omega))
        rw [hik] at h
        rw [hkk]
        exact h
      obtain ⟨G, hG⟩ : ∃ G, G = grownCap w (t.length + 1) t.length 30 := ⟨_, rfl⟩
      obtain ⟨ROW, hROW⟩ : ∃ ROW : Array Value, ROW = ((t.map ruC).flatten.take (p * 4)).toArray ++ Builtin.zeroCells (Value.agg #[.int .i64 0, .int .i64 0, .int .i64 0, .int .i64 0]).cells (t.length + 1 - p) ++ Builtin.zeroCells (Value.agg #[.int .i64 0, .int .i64 0, .int .i64 0, .int .i64 0]).cells (G - (t.length + 1)) := ⟨_, rfl⟩
      rw [← hG] at hrz
      rw [← hROW] at hrz
      have hGn : t.length + 1 ≤ G := by rw [hG]; exact grownCap_ge w _ _ _
      have hGm : G ≤ maxLen := by rw [hG]; exact grownCap_le_maxLen w _ _ _ (by unfold maxLen; omega)
      have hzl : ∀ m, (Builtin.zeroCells (Value.agg #[.int .i64 0, .int .i64 0, .int .i64 0, .int .i64 0]).cells m).size = m * 4 := fun m => by simp [Builtin.zeroCells, Value.cells]
      have hRs : ROW.size = G * 4 := by
        rw [hROW]
        simp only [Array.size_append, hzl, List.size_toArray, List.length_take, hft]
        omega
      have hRt : (ROW.toList.take ((t.length + 1) * 4)).take (p * 4) = ((t.take p).map ruC).flatten := by
        rw [List.take_take, Nat.min_eq_left (by omega), hROW, Array.toList_append, Array.toList_append, List.append_assoc, List.take_append_of_le_length (by simp only [List.length_take, hft]; omega), List.take_take, Nat.min_self]
        exact flatC_take ruC_len t p
      obtain ⟨W1, hW1⟩ : ∃ W1, W1 = w.drew.alloc (.cells ROW 30) := ⟨_, rfl⟩
      rw [← hW1] at hrz
      have hblk : W1.heap[w.heap.size]? = some (.cells ROW 30 (0, 0)) := by rw [hW1]; exact heap_alloc_new w.drew _
      have hW1b : Below w.heap.size w W1 := by rw [hW1]; exact below_al (Below.refl _ _).drew _
      have hN : ∀ j, j < (t.length + 1) * 4 → (W1.cell? ⟨w.heap.size, j, none⟩).isSome = true := fun j hj => by
        rw [blk_cell hblk, Array.getElem?_eq_getElem (by rw [hRs]; omega)]; rfl
      have hNf : ∀ j, W1.frozen? ⟨w.heap.size, j, none⟩ = false := fun j => blk_frozen hblk j
      have hown1 : W1.ownsRow lo 30 4 (.slice (some ⟨w.heap.size, 0, none⟩) (t.length + 1) G) (t.length + 1) (ROW.toList.take ((t.length + 1) * 4)) :=
        ⟨by rw [List.length_take, Array.length_toList (xs := ROW), hRs]; omega, .inr ⟨w.heap.size, G, ROW, rfl, hlo, hblk, hGn, hGm, hRs, rfl⟩⟩
      have hcpA : ∀ (W : World), (∀ x, W.cell? x = W1.cell? x) → (∀ x, W.frozen? x = W1.frozen? x) → ∀ ty dc, (Builtin.copy_ #[26, 26] ty #[.slice (some ⟨w.heap.size, p * 4, none⟩) (t.length + 1 - p) dc, .slice (some ⟨g2, 0, none⟩) 1 1]).run Tryd.prog W = .ok (goInt (Nat.min 1 (t.length + 1 - p))) (W.setCells w.heap.size (p * 4) (ruC r)) := fun W hWc hWf ty dc =>
        run_copy_cellsK W _ _ ty 30 4 w.heap.size (p * 4) (t.length + 1 - p) dc ⟨g2, 0, none⟩ 1 1 (ruC r) Tryd.underlying26 hsz (by rw [ruC_len, show Nat.min 1 (t.length + 1 - p) = 1 by simp only [Nat.min_def]; split <;> omega])
          (fun j u hj => by rw [hWc]; exact cell_kept (hr2 j u hj) hW1b)
          (fun j hj => by rw [ruC_len] at hj; rw [hWc]; exact hN (p * 4 + j) (by omega))
          (fun j hj => by rw [hWf]; exact hNf _) (ruC_one r)
      obtain ⟨o1, gr1⟩ := row_puts (ruC r) W1 _ (p * 4) hown1
      obtain ⟨W2, hW2⟩ : ∃ W2, W2 = W1.setCells w.heap.size (p * 4) (ruC r) := ⟨_, rfl⟩
      have hcpB : ∀ ty dc sc, (Builtin.copy_ #[26, 26] ty #[.slice (some ⟨w.heap.size, (p + 1) * 4, none⟩) (t.length - p) dc, .slice (some ⟨g, p * 4, none⟩) (t.length - p) sc]).run Tryd.prog W2.drew = .ok (goInt (Nat.min (t.length - p) (t.length - p))) (W2.drew.setCells w.heap.size ((p + 1) * 4) news) := fun ty dc sc =>
        run_copy_cellsK W2.drew _ _ ty 30 4 w.heap.size ((p + 1) * 4) (t.length - p) dc ⟨g, p * 4, none⟩ (t.length - p) sc news Tryd.underlying26 hsz (by rw [hnl]; congr 1; simp only [Nat.min_def]; split <;> omega)
          (fun j u hj => by rw [Addr.add_lit]; show W2.cell? _ = _; rw [hW2, World.cell?_setCells_out _ _ _ _ _ (fun e _ => absurd e (by show g ≠ w.heap.size; omega))]; exact cell_kept (hsrc j u hj) hW1b)
          (fun j hj => by rw [hnl] at hj; show (W2.cell? _).isSome = true; rw [hW2]; exact isSome_puts _ _ _ _ (fun k hk => hN (p * 4 + k) (by rw [ruC_len] at hk; omega)) _ (hN ((p + 1) * 4 + j) (by omega)))
          (fun j hj => by show W2.frozen? _ = false; rw [hW2, World.frozen?_setCells]; exact hNf _) hnone
      rw [← hW2] at o1 gr1
      obtain ⟨o2, gr2⟩ := row_puts news W2.drew _ ((p + 1) * 4) o1.drew
      rw [hnews, insC_cells2 ruC_len hp r _ (by rw [List.length_take, Array.length_toList (xs := ROW), hRs]; omega) hRt] at o2
      have hl2 : ((t.take p ++ r :: t.drop p).map ruC).length = t.length + 1 := by
        rw [List.length_map, List.length_append, List.length_cons, List.length_take, List.length_drop]; omega
      have O3 : Hid (Own lo 30 4 (W2.drew.setCells w.heap.size ((p + 1) * 4) news) (.slice (some ⟨w.heap.size, 0, none⟩) (t.length + 1) G) ((t.take p ++ r :: t.drop p).map ruC)) := Lib.hid ⟨by rw [hl2, hnews]; exact o2, fun cs hc => by obtain ⟨x, _, rfl⟩ := List.mem_map.1 hc; rfl⟩
      have G3 : Hid (w.grownBy (W2.drew.setCells w.heap.size ((p + 1) * 4) news) (some g)) := Lib.hid (grownBy_of_below (hW1b.grown (grownBy_trans (grownBy_trans gr1 (grownBy_of_below (Below.refl _ _).drew _)) gr2) hW1b.size (fun k e => by cases e; exact Nat.le_refl _)) _)
      have HA := Lib.hid hcpA
      have HB := Lib.hid hcpB
      have HW1 := Lib.hid hW1
      have HW2 := Lib.hid hW2
      have HRZ := Lib.hid hrz
      have hgp : ¬ (G = p) := by omega
      have hgp1 : ¬ (G = p + 1) := by omega
      have hcp : ¬ (t.length = p) := by omega
      have hpn : p ≤ t.length := hp
      have hpn1 : p ≤ t.length + 1 := by omega
      have hpI : (p : Int) ≤ (t.length : Int) := by omega
      have hpI0 : (0 : Int) ≤ (p : Int) := by omega
      have hpI1 : (p : Int) + 1 ≤ (t.length : Int) + 1 := by omega
      have hG63 : G ≤ 9223372036854775807 := by unfold maxLen at hGm; omega
      clear hcpA hcpB hW1 hW2 hrz hG hROW o1 o2 gr1 gr2 hblk hN hNf hown1 hRs hRt hold hkk hik hnl hft hnews hrow h hsrc hnone hl2 hr2 hb2 hlen hpe hne hW1b hzl hGm
      go_enter Tryd.func29, Tryd.ntmps29
      go_wp2_with (first
        | (at_builtin; refine Lib.wpList_append_run _ rfl _ _ _ _ rfl _ _ rfl rfl _ _ (HRZ.out _) ?_)
        | (refine copy_wpList _ rfl _ _ 26 26 rfl _ _ rfl rfl (HA.out _ (fun _ => rfl) (fun _ => rfl) _ _) ?_; rw [← HW2.out]))
      go_region_law (refine copy_step rfl (.tmp 50) (.tmp 53) 26 26 rfl (.slice (some ⟨w.heap.size, (p + 1) * 4, none⟩) (t.length - p) (G - (p + 1))) (.slice (some ⟨g, p * 4, none⟩) (t.length - p) (t.length - p)) (by simp [Act.eval, Act.put]) (by simp [Act.eval, Act.put]) (HB.out _ _ _) ?_)
      go_wp2
      go_ret
      exact ⟨_, rfl, by simpa using O3.out, G3.out⟩
end Go.Proofs.YtpcdjpkcalbpkaaDoor
