/- slices.Clone at Rule. -/
import Derived.Test.YtpcdjpkcalbpkaaDoorSlRu
import Derived.Shelf.SlicesE.Clone
namespace Go.Proofs.YtpcdjpkcalbpkaaDoor
set_option linter.unusedVariables false
open Go.RowKit

set_option maxRecDepth 20000 in
set_option maxHeartbeats 2000000 in
theorem cloneRu_any (v : Value) (t : List Ru) (w : World) (h : RowR 4 rRu w v t) (hn : t.length ≤ 1048576) :
    Calls Tryd.prog 28 #[v] w fun e w' => ∃ v', e = .returned v' ∧ RusO w.heap.size w'.heap.size w' v' t ∧ Below w.heap.size w w' := by
  obtain ⟨i0, hi, hz0, hz1, hz2⟩ := info_parts Tryd.info_ru
  have q22 : ∀ (w : World) (a : Option Addr) (n c n' c' : Nat), (binOp .eql 26 (.slice a n c) (.slice none n' c')).run Tryd.prog w = .ok (.bool a.isNone) w := fun w a n c n' c' => Lib.run_eql_slice_nil w _ _ a n c n' c' Tryd.underlying26
  have hok := h.rus_ok
  obtain ⟨a1, c1, hv, hl1, hm1, _⟩ := h.rus
  subst hv
  rcases a1 with _ | ⟨b, off, spot⟩
  · obtain ⟨rfl, h0⟩ := h.none_nil
    clear h hok
    go_enter Tryd.func28, Tryd.ntmps28
    go_wp2
    go_ret
    exact ⟨_, rfl, RusO.nil _ _ _, Below.refl _ _⟩
  · have hcells := fun (o : Obj) => rus_cells h (w.alloc o) (below_al (Below.refl _ _) o)
    have HC := Lib.hid hcells
    have HONE := Lib.hid (flat_one ruC_one t)
    have HLEN := Lib.hid (flat_map_len ruC_len t)
    have HOK := Lib.hid hok
    clear h hok hcells
    go_enter Tryd.func28, Tryd.ntmps28
    go_wp2_with (first | (at_builtin; refine wpList_append_own _ rfl _ _ 26 rfl w.heap.size 30 i0 (.agg #[.int .i64 0, .int .i64 0, .int .i64 0, .int .i64 0]) 4 32 Tryd.underlying26 hi hz0 hz1 hz2 rfl (by decide) (.slice (some ⟨w.heap.size, 0, none⟩) 0 0) 0 [] rfl (World.ownsRow_made w #[] 0 (Nat.le_refl _) (Nat.zero_le _) rfl) ⟨b, off, spot⟩ t.length c1 ((t.map ruC).flatten) rfl HLEN.out (HC.out _) HONE.out (by unfold maxLen; omega) (by omega) (by simp) ?_; intro v' w1 hown' hgrow hnil))
    have HB : Hid (Below w.heap.size w w1) := Lib.hid ((below_al (Below.refl _ w) _).grown hgrow (by simp) (fun k hk => Nat.le_of_eq (by simpa [Value.ownBlock] using hk)))
    have HOWN := Lib.hid hown'
    clear hown' hgrow hnil
    go_wp2_with fail
    go_ret
    exact ⟨_, rfl, RusO.of_row (by simpa using HOWN.out) rfl HOK.out, HB.out⟩
end Go.Proofs.YtpcdjpkcalbpkaaDoor
