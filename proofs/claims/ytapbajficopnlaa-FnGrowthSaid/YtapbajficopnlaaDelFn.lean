/- slices.Delete of one function, at functions in memory of the call's own. -/
import Derived.Test.YtapbajficopnlaaCloneFn
import Derived.Test.YtapbajficopnlaaPlace
import Derived.Deep.RegionLaw
import Derived.Lib.SliceRun
namespace Go.Proofs.Ytapbajficopnlaa
set_option linter.unusedVariables false
open Go.RowKit Go.Sort

theorem ownsRow_puts {base e size g n cap : Nat} : ∀ (r : List Value) (w : World) (xs : List Value) (j : Nat), w.ownsRow base e size (.slice (some ⟨g, 0, none⟩) n cap) n xs →
    (w.setCells g j r).ownsRow base e size (.slice (some ⟨g, 0, none⟩) n cap) n (setFrom xs j r) ∧ w.grownBy (w.setCells g j r) (some g)
  | [], w, xs, j, h => ⟨h, World.grownBy.refl _ _⟩
  | u :: r, w, xs, j, h => by
    obtain ⟨h1, h2⟩ := h.stored j u
    obtain ⟨h3, h4⟩ := ownsRow_puts r _ _ (j + 1) h1
    rw [World.setCells, setFrom]
    exact ⟨h3, ⟨h4.os.trans h2.os, h4.tape.trans h2.tape, h4.output.trans h2.output, Nat.le_trans h2.size h4.size, fun k hk hr => (h4.block k (Nat.lt_of_lt_of_le hk h2.size) hr).trans (h2.block k hk hr)⟩⟩
theorem ownsRow_cut {base e size g n cap m : Nat} {w : World} {xs : List Value} (h : w.ownsRow base e size (.slice (some ⟨g, 0, none⟩) n cap) n xs) (hm : m ≤ n) :
    w.ownsRow base e size (.slice (some ⟨g, 0, none⟩) m cap) m (xs.take (m * size)) := by
  have hle : m * size ≤ n * size := Nat.mul_le_mul_right _ hm
  refine ⟨by rw [List.length_take, h.1]; omega, .inr ?_⟩
  rcases h.2 with ⟨h', _⟩ | ⟨g', cap', cur, h', hb, hg, hnc, hcm, hcs, htake⟩
  · cases h'
  · simp only [Value.slice.injEq, Option.some.injEq, Addr.mk.injEq, and_true, true_and] at h'
    obtain ⟨rfl, rfl⟩ := h'
    refine ⟨g, cap, cur, rfl, hb, hg, by omega, hcm, hcs, ?_⟩
    rw [← htake, List.take_take, Nat.min_eq_left hle]
theorem flat_split {t : List Fn} {p : Nat} : (t.map fnC).flatten = ((t.take p).map fnC).flatten ++ ((t.drop p).map fnC).flatten := by
  rw [← List.flatten_append, ← List.map_append, List.take_append_drop]
/-- What is left when the cells behind are laid one place ahead and the last element is emptied. -/
theorem del_cells {t : List Fn} {p : Nat} (hp : p < t.length) (z : List Value) (hz : z.length = 3) :
    (setFrom (setFrom (t.map fnC).flatten (p * 3) ((t.drop (p + 1)).map fnC).flatten) ((t.length - 1) * 3) z).take ((t.length - 1) * 3) = ((t.take p ++ t.drop (p + 1)).map fnC).flatten := by
  have l0 : ((t.map fnC).flatten).length = t.length * 3 := flat_map_len fnC_len t
  have l1 : ((t.drop (p + 1)).map fnC).flatten.length = (t.length - (p + 1)) * 3 := by rw [flat_map_len fnC_len, List.length_drop]
  have l2 : ((t.take p).map fnC).flatten.length = p * 3 := by rw [flat_map_len fnC_len, List.length_take, Nat.min_eq_left (by omega)]
  rw [setFrom_eq z _ _ (by rw [setFrom_len, l0, hz]; omega), setFrom_eq _ _ _ (by rw [l0, l1]; omega)]
  rw [List.append_assoc, List.take_append_of_le_length (by simp only [List.length_take, List.length_append, List.length_drop, l0, l1]; omega), List.take_take, Nat.min_self]
  rw [List.take_left' (by rw [List.length_append, List.length_take, l0, l1]; omega)]
  rw [List.map_append, List.flatten_append]
  congr 1
  rw [flat_split (p := p), List.take_left' l2]

theorem run_clear_fn (w : World) (ty : TypeId) (g o c : Nat) (hc : ∀ j, j < 3 → (w.cell? ⟨g, o + j, none⟩).isSome = true) (hf : ∀ j, j < 3 → w.frozen? ⟨g, o + j, none⟩ = false) :
    (Builtin.clear_ #[24] ty #[.slice (some ⟨g, o, none⟩) 1 c]).run Try.prog w = .ok (.tuple #[]) (w.setCells g o [.int .i64 0, .int .i64 0, .string ⟨#[]⟩]) := by
  have hst := run_storeCells_cells (P := Try.prog) g o [.int .i64 0, .int .i64 0, .string ⟨#[]⟩] 0 w (by simpa using hc) (by simpa using hf) (fun v hv' => fnC_one fnD v hv')
  simp only [Nat.add_zero] at hst
  have hv : ∀ w, (zeroValue 36).run Try.prog w = .ok (.agg #[.int .i64 0, .int .i64 0, .string ⟨#[]⟩]) w := Try.zeroValue36
  have hzc : (Builtin.zeroCells (Value.agg #[.int .i64 0, .int .i64 0, .string ⟨#[]⟩]).cells 1).toList = [.int .i64 0, .int .i64 0, .string ⟨#[]⟩] := by
    simp [Builtin.zeroCells, Value.cells, List.range, List.range.loop]
  simp [Builtin.clear_, run_underlying Try.underlying24, hv, hzc, hst]

set_option maxRecDepth 20000 in
set_option maxHeartbeats 4000000 in
theorem deleteFn_any (v : Value) (t : List Fn) (p j : Nat) (J : Int) (lo : Nat) (w : World) (h : Own lo 36 3 w v (t.map fnC)) (hn : t.length ≤ 1048576) (hp : p < t.length) (hj : j = p + 1) (hJ : J = (j : Int)) :
    Calls Try.prog 74 #[v, .int .i64 p, .int .i64 J] w fun e w' => ∃ v', e = .returned v' ∧ Own lo 36 3 w' v' ((t.take p ++ t.drop (p + 1)).map fnC) ∧ w.grownBy w' v.ownBlock := by
  subst hJ
  obtain ⟨i0, hi, hz0, hz1, hz2⟩ := info_parts Try.info_fn
  have hlen : (t.map fnC).length = t.length := List.length_map _
  obtain ⟨g, cap, hv, hg, hgl⟩ := h.at_some (by omega)
  rw [hlen] at hv
  subst hv
  have hcl := h.form
  rw [hlen] at hcl
  obtain ⟨hnc, hcm⟩ : t.length ≤ cap ∧ cap ≤ maxLen := by
    rcases hcl with ⟨e, _⟩ | ⟨g', cap', e, _, _, e1, e2⟩
    · cases e
    · simp only [Value.slice.injEq] at e; rw [e.2.2]; exact ⟨e1, e2⟩
  clear hcl
  unfold maxLen at hcm
  have hrow : w.ownsRow lo 36 3 (.slice (some ⟨g, 0, none⟩) t.length cap) t.length ((t.map fnC).flatten) := by have := h.1; rwa [hlen] at this
  obtain ⟨news, hnews⟩ : ∃ news, news = ((t.drop (p + 1)).map fnC).flatten := ⟨_, rfl⟩
  have hnl : news.length = (t.length - (p + 1)) * 3 := by rw [hnews, flat_map_len fnC_len, List.length_drop]
  have hft : ((t.map fnC).flatten).length = t.length * 3 := flat_map_len fnC_len t
  have hcell : ∀ k, k < t.length * 3 → (w.drew.cell? ⟨g, k, none⟩).isSome = true ∧ w.drew.frozen? ⟨g, k, none⟩ = false := by
    intro k hk
    refine ⟨?_, hrow.frozenAt k⟩
    have := hrow.cellAt k hk
    show (w.cell? _).isSome = true
    rw [this, List.getElem?_eq_getElem (by omega)]; rfl
  obtain ⟨A, hA, hsrc⟩ : ∃ A : Addr, (if cap = j then some (⟨g, 0, none⟩ : Addr) else some ⟨g, j * 3, none⟩) = some A ∧ Hid (∀ k u, news[k]? = some u → w.drew.cell? (A.add k) = some u) := by
    by_cases hc : cap = j
    · refine ⟨⟨g, 0, none⟩, by simp [hc], fun k u hu => ?_⟩
      have h0 : news.length = 0 := by rw [hnl]; omega
      rw [List.length_eq_zero_iff.1 h0] at hu
      simp at hu
    · refine ⟨⟨g, j * 3, none⟩, by simp [hc], fun k u hu => ?_⟩
      have hk := (List.getElem?_eq_some_iff.1 hu).1
      rw [hnl] at hk
      rw [Addr.add_lit]
      refine (hrow.cellAt (j * 3 + k) (by omega)).trans ?_
      have hs := flat_split (t := t) (p := p + 1)
      have l2 : ((t.take (p + 1)).map fnC).flatten.length = (p + 1) * 3 := by rw [flat_map_len fnC_len, List.length_take, Nat.min_eq_left (by omega)]
      rw [hs, List.getElem?_append_right (by rw [l2]; omega), l2, hj, Nat.add_sub_cancel_left, ← hnews]
      exact hu
  have s1 : Hid (news.length = (t.length - j) * 3) := by rw [hnl, hj]; exact rfl
  have s2 : Hid (∀ u ∈ news, u.oneCell' = true) := by rw [hnews]; exact flat_one fnC_one _
  have s3 : Hid (∀ k, k < news.length → (w.drew.cell? ⟨g, 0 + p * 3 + k, none⟩).isSome = true ∧ w.drew.frozen? ⟨g, 0 + p * 3 + k, none⟩ = false) := by
    intro k hk
    rw [hnl] at hk
    exact hcell _ (by omega)
  obtain ⟨W1, hW1⟩ : ∃ W1, W1 = w.drew.setCells g (0 + p * 3) news := ⟨_, rfl⟩
  obtain ⟨o1, gr1⟩ := ownsRow_puts news w.drew _ (0 + p * 3) hrow.drew
  rw [← hW1] at o1 gr1
  have hcell1 : ∀ k, k < t.length * 3 → (W1.cell? ⟨g, k, none⟩).isSome = true ∧ W1.frozen? ⟨g, k, none⟩ = false := by
    intro k hk
    refine ⟨?_, o1.frozenAt k⟩
    rw [o1.cellAt k hk, List.getElem?_eq_getElem (by rw [setFrom_len, hft]; omega)]; rfl
  have hcl : ∀ ty c, (Builtin.clear_ #[24] ty #[.slice (some ⟨g, (t.length - 1) * 3, none⟩) (t.length - (t.length - 1)) c]).run Try.prog W1 = .ok (.tuple #[]) (W1.setCells g ((t.length - 1) * 3) [.int .i64 0, .int .i64 0, .string ⟨#[]⟩]) :=
    fun ty c => by rw [show t.length - (t.length - 1) = 1 by omega]; exact run_clear_fn W1 ty g _ c (fun k hk => (hcell1 _ (by omega)).1) (fun k hk => (hcell1 _ (by omega)).2)
  obtain ⟨o2, gr2⟩ := ownsRow_puts [.int .i64 0, .int .i64 0, .string ⟨#[]⟩] W1 _ ((t.length - 1) * 3) o1
  have o3 := ownsRow_cut o2 (m := t.length - 1) (by omega)
  rw [Nat.zero_add, hnews, del_cells hp _ rfl] at o3
  have hl2 : ((t.take p ++ t.drop (p + 1)).map fnC).length = t.length - 1 := by
    rw [List.length_map, List.length_append, List.length_take, List.length_drop]; omega
  have O3 : Hid (Own lo 36 3 (W1.setCells g ((t.length - 1) * 3) [.int .i64 0, .int .i64 0, .string ⟨#[]⟩]) (.slice (some ⟨g, 0, none⟩) (t.length - 1) cap) ((t.take p ++ t.drop (p + 1)).map fnC)) := Lib.hid ⟨by rw [hl2]; exact o3, fun cs hc => by obtain ⟨x, _, rfl⟩ := List.mem_map.1 hc; rfl⟩
  have G3 : Hid (w.grownBy (W1.setCells g ((t.length - 1) * 3) [.int .i64 0, .int .i64 0, .string ⟨#[]⟩]) (some g)) := Lib.hid (grownBy_trans (grownBy_trans (grownBy_of_below (Below.refl _ _).drew _) gr1) gr2)
  have hW := Lib.hid hW1
  have hic : p ≤ cap := by omega
  have hjc : j ≤ cap := by omega
  have hpj : p < j := by omega
  have hjn : j ≤ t.length := by omega
  have hne : ¬ p = j := by omega
  have hm1 : p + (t.length - j) = t.length - 1 := by omega
  have HJ := Lib.hid hj
  clear hW1 o1 o2 o3 gr1 gr2 hcell hcell1 hnl hft hnews hrow h hj hlen hl2
  go_enter Try.func74, Try.ntmps74
  go_wp2_with fail
  go_region_law (refine step_append_room rfl (.tmp 22) (.tmp 25) 24 rfl 36 i0 3 Try.underlying24 hi hz1 g 0 p cap (by simp [Act.eval, Act.put]) A (t.length - j) (cap - j) news (by simp [Act.eval, Act.put]) s1.out hsrc.out s2.out (by omega) s3.out ?_; rw [← hW.out])
  go_wp2
  go_ret
  exact ⟨_, rfl, O3.out, G3.out⟩
end Go.Proofs.Ytapbajficopnlaa
