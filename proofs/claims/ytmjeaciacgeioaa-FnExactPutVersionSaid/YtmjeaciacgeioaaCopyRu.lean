/- copy of a list of rules onto a row that was made for it. -/
import Derived.Test.YtmjeaciacgeioaaSlRu
import Derived.Test.YtmjeaciacgeioaaCopyRun
namespace Go.Proofs.Ytmjeaciacgeioaa
set_option linter.unusedVariables false
open Go.RowKit

theorem run_copy_nil {P : Program} (w : World) (dT sT ty elem : TypeId) (i : TypeInfo) (b o dLen dCap sCap : Nat) (hu : P.underlying dT = some (.slice elem)) (hi : P.info? elem = some i) :
    (Builtin.copy_ #[dT, sT] ty #[.slice (some ⟨b, o, none⟩) dLen dCap, .slice none 0 sCap]).run P w = .ok (goInt 0) w := by
  simp [Builtin.copy_, run_underlying hu, Builtin.lenOf, Builtin.firstCells, sizeOf, typeInfo, hi, storeCells]
theorem copyRu_ex {lo G n c : Nat} {sa : Option Addr} {w : World} {cur : List Value} {xs : List Ru} (hown : w.ownsRow lo 91 4 (.slice (some ⟨G, 0, none⟩) n n) n cur) (h : RowR 4 rRu w (.slice sa n c) xs) :
    ∃ w6, (∀ ty, (Builtin.copy_ #[25, 25] ty #[.slice (some ⟨G, 0, none⟩) n n, .slice sa n c]).run Try.prog w = .ok (goInt n) w6) ∧ RusO lo w6.heap.size w6 (.slice (some ⟨G, 0, none⟩) n n) xs ∧ w.grownBy w6 (some G) := by
  obtain ⟨i0, hi, hz0, hz1, hz2⟩ := info_parts Try.info_ru
  have hok := h.rus_ok
  have hlen : n = xs.length := by obtain ⟨a, c, e, _⟩ := id h; cases e; rfl
  have hfl : ((xs.map ruC).flatten).length = n * 4 := by rw [hlen]; exact flat_map_len ruC_len xs
  have hcl : cur.length = n * 4 := hown.1
  obtain ⟨o1, g1⟩ := row_puts ((xs.map ruC).flatten) w _ 0 hown
  rw [setFrom_all _ _ (by rw [hfl, hcl])] at o1
  refine ⟨w.setCells G 0 ((xs.map ruC).flatten), fun ty => ?_, RusO.of_row o1 hlen hok, g1⟩
  rcases sa with _ | ad
  · obtain ⟨rfl, rfl⟩ := h.none_nil
    exact run_copy_nil w _ _ ty 91 i0 G 0 0 0 c Try.underlying25 hi
  · have := run_copy_cellsK (P := Try.prog) w 25 25 ty 91 4 G 0 n n ad n c ((xs.map ruC).flatten) Try.underlying25 (by rw [hi]; simp [hz1]) (by rw [hfl]; simp)
      (fun j u hj => rus_cells h w (Below.refl _ _) j u hj) (fun j hj => by rw [Nat.zero_add, hown.cellAt j (by omega), List.getElem?_eq_getElem (by omega)]; rfl) (fun j hj => by rw [Nat.zero_add]; exact hown.frozenAt j) (flat_one ruC_one xs)
    rw [this]
    simp
end Go.Proofs.Ytmjeaciacgeioaa
