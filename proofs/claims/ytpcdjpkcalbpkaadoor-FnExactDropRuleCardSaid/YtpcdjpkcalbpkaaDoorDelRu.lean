/- slices.Delete of one Rule, at a row of the call's own. -/
import Derived.Test.YtpcdjpkcalbpkaaDoorSlRu
import Derived.Deep.RegionLaw
import Derived.Lib.SliceRun
namespace Go.Proofs.YtpcdjpkcalbpkaaDoor
set_option linter.unusedVariables false
open Go.RowKit

theorem run_clear_ru (w : World) (ty : TypeId) (g o c : Nat) (hc : ∀ j, j < 4 → (w.cell? ⟨g, o + j, none⟩).isSome = true) (hf : ∀ j, j < 4 → w.frozen? ⟨g, o + j, none⟩ = false) :
    (Builtin.clear_ #[26] ty #[.slice (some ⟨g, o, none⟩) 1 c]).run Tryd.prog w = .ok (.tuple #[]) (w.setCells g o [.int .i64 0, .int .i64 0, .int .i64 0, .int .i64 0]) := by
  have hst := run_storeCells_cells (P := Tryd.prog) g o [.int .i64 0, .int .i64 0, .int .i64 0, .int .i64 0] 0 w (by simpa using hc) (by simpa using hf) (fun v hv' => ruC_one ruD v hv')
  simp only [Nat.add_zero] at hst
  have hv : ∀ w, (zeroValue 30).run Tryd.prog w = .ok (.agg #[.int .i64 0, .int .i64 0, .int .i64 0, .int .i64 0]) w := Tryd.zeroValue30
  have hzc : (Builtin.zeroCells (Value.agg #[.int .i64 0, .int .i64 0, .int .i64 0, .int .i64 0]).cells 1).toList = [.int .i64 0, .int .i64 0, .int .i64 0, .int .i64 0] := by
    simp [Builtin.zeroCells, Value.cells, List.range, List.range.loop]
  simp [Builtin.clear_, run_underlying Tryd.underlying26, hv, hzc, hst]

set_option maxRecDepth 20000 in
set_option maxHeartbeats 4000000 in
theorem deleteRu_any (v : Value) (t : List Ru) (p j : Nat) (J : Int) (lo : Nat) (w : World) (h : Own lo 30 4 w v (t.map ruC)) (hn : t.length ≤ 1048576) (hp : p < t.length) (hj : j = p + 1) (hJ : J = (j : Int)) :
    Calls Tryd.prog 32 #[v, .int .i64 p, .int .i64 J] w fun e w' => ∃ v', e = .returned v' ∧ Own lo 30 4 w' v' ((t.take p ++ t.drop (p + 1)).map ruC) ∧ w.grownBy w' v.ownBlock := by
  subst hJ
  obtain ⟨i0, hi, hz0, hz1, hz2⟩ := info_parts Tryd.info_ru
  have hlen : (t.map ruC).length = t.length := List.length_map _
  obtain ⟨g, cap, hv, hg, hgl, _, _⟩ := h.some_at (by omega)
  rw [hlen] at hv
  subst hv
  have hcl := h.form
  rw [hlen] at hcl
  obtain ⟨hnc, hcm⟩ : t.length ≤ cap ∧ cap ≤ maxLen := by
    rcases hcl with ⟨e, _⟩ | ⟨g', cap', e, _, _, e1, e2⟩
    · cases e
    · simp only [Value.slice.injEq] at e; rw [e.2.2]; exact ⟨e1, e2⟩
  clear hcl
  unfold maxLen at hcm
  have hrow : w.ownsRow lo 30 4 (.slice (some ⟨g, 0, none⟩) t.length cap) t.length ((t.map ruC).flatten) := by have := h.1; rwa [hlen] at this
  obtain ⟨news, hnews⟩ : ∃ news, news = ((t.drop (p + 1)).map ruC).flatten := ⟨_, rfl⟩
  have hnl : news.length = (t.length - (p + 1)) * 4 := by rw [hnews, flat_map_len ruC_len, List.length_drop]
  have hft : ((t.map ruC).flatten).length = t.length * 4 := flat_map_len ruC_len t
  have hcell : ∀ k, k < t.length * 4 → (w.drew.cell? ⟨g, k, none⟩).isSome = true ∧ w.drew.frozen? ⟨g, k, none⟩ = false := by
    intro k hk
    refine ⟨?_, hrow.frozenAt k⟩
    have := hrow.cellAt k hk
    show (w.cell? _).isSome = true
    rw [this, List.getElem?_eq_getElem (by omega)]; rfl
  obtain ⟨A, hA, hsrc⟩ : ∃ A : Addr, (if cap = j then some (⟨g, 0, none⟩ : Addr) else some ⟨g, j * 4, none⟩) = some A ∧ Hid (∀ k u, news[k]? = some u → w.drew.cell? (A.add k) = some u) := by
    by_cases hc : cap = j
    · refine ⟨⟨g, 0, none⟩, by simp [hc], fun k u hu => ?_⟩
      have h0 : news.length = 0 := by rw [hnl]; omega
      rw [List.length_eq_zero_iff.1 h0] at hu
      simp at hu
    · refine ⟨⟨g, j * 4, none⟩, by simp [hc], fun k u hu => ?_⟩
      have hk := (List.getElem?_eq_some_iff.1 hu).1
      rw [hnl] at hk
      rw [Addr.add_lit]
      refine (hrow.cellAt (j * 4 + k) (by omega)).trans ?_
      rw [hj, ← dropC_at ruC_len (by omega), ← hnews]
      exact hu
  have s1 : Hid (news.length = (t.length - j) * 4) := by rw [hnl, hj]; exact rfl
  have s2 : Hid (∀ u ∈ news, u.oneCell' = true) := by rw [hnews]; exact flat_one ruC_one _
  have s3 : Hid (∀ k, k < news.length → (w.drew.cell? ⟨g, 0 + p * 4 + k, none⟩).isSome = true ∧ w.drew.frozen? ⟨g, 0 + p * 4 + k, none⟩ = false) := by
    intro k hk
    rw [hnl] at hk
    exact hcell _ (by omega)
  obtain ⟨W1, hW1⟩ : ∃ W1, W1 = w.drew.setCells g (0 + p * 4) news := ⟨_, rfl⟩
  obtain ⟨o1, gr1⟩ := row_puts news w.drew _ (0 + p * 4) hrow.drew
  rw [← hW1] at o1 gr1
  have hcell1 : ∀ k, k < t.length * 4 → (W1.cell? ⟨g, k, none⟩).isSome = true ∧ W1.frozen? ⟨g, k, none⟩ = false := by
    intro k hk
    refine ⟨?_, o1.frozenAt k⟩
    rw [o1.cellAt k hk, List.getElem?_eq_getElem (by rw [setFrom_len, hft]; omega)]; rfl
  have hcl : ∀ ty c, (Builtin.clear_ #[26] ty #[.slice (some ⟨g, (t.length - 1) * 4, none⟩) (t.length - (t.length - 1)) c]).run Tryd.prog W1 = .ok (.tuple #[]) (W1.setCells g ((t.length - 1) * 4) [.int .i64 0, .int .i64 0, .int .i64 0, .int .i64 0]) :=
    fun ty c => by rw [show t.length - (t.length - 1) = 1 by omega]; exact run_clear_ru W1 ty g _ c (fun k hk => (hcell1 _ (by omega)).1) (fun k hk => (hcell1 _ (by omega)).2)
  obtain ⟨o2, gr2⟩ := row_puts [.int .i64 0, .int .i64 0, .int .i64 0, .int .i64 0] W1 _ ((t.length - 1) * 4) o1
  have o3 := row_cut o2 (m := t.length - 1) (by omega)
  rw [Nat.zero_add, hnews, delC_cells ruC_len hp _ rfl] at o3
  have hl2 : ((t.take p ++ t.drop (p + 1)).map ruC).length = t.length - 1 := by
    rw [List.length_map, List.length_append, List.length_take, List.length_drop]; omega
  have O3 : Hid (Own lo 30 4 (W1.setCells g ((t.length - 1) * 4) [.int .i64 0, .int .i64 0, .int .i64 0, .int .i64 0]) (.slice (some ⟨g, 0, none⟩) (t.length - 1) cap) ((t.take p ++ t.drop (p + 1)).map ruC)) := Lib.hid ⟨by rw [hl2]; exact o3, fun cs hc => by obtain ⟨x, _, rfl⟩ := List.mem_map.1 hc; rfl⟩
  have G3 : Hid (w.grownBy (W1.setCells g ((t.length - 1) * 4) [.int .i64 0, .int .i64 0, .int .i64 0, .int .i64 0]) (some g)) := Lib.hid (grownBy_trans (grownBy_trans (grownBy_of_below (Below.refl _ _).drew _) gr1) gr2)
  have hW := Lib.hid hW1
  have hic : p ≤ cap := by omega
  have hjc : j ≤ cap := by omega
  have hpj : p < j := by omega
  have hjn : j ≤ t.length := by omega
  have hne : ¬ p = j := by omega
  have hm1 : p + (t.length - j) = t.length - 1 := by omega
  have HJ := Lib.hid hj
  clear hW1 o1 o2 o3 gr1 gr2 hcell hcell1 hnl hft hnews hrow h hj hlen hl2
  go_enter Tryd.func32, Tryd.ntmps32
  go_wp2_with fail
  go_region_law (refine step_append_room rfl (.tmp 22) (.tmp 25) 26 rfl 30 i0 4 Tryd.underlying26 hi hz1 g 0 p cap (by simp [Act.eval, Act.put]) A (t.length - j) (cap - j) news (by simp [Act.eval, Act.put]) s1.out hsrc.out s2.out (by omega) s3.out ?_; rw [← hW.out])
  go_wp2
  go_ret
  exact ⟨_, rfl, O3.out, G3.out⟩
end Go.Proofs.YtpcdjpkcalbpkaaDoor
