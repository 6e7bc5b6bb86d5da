/- slices.Clone at Clerk. -/
import Derived.Test.YtalaegkfkjpmoaaSlCk
import Derived.Shelf.SlicesE.Clone
namespace Go.Proofs.Ytalaegkfkjpmoaa
set_option linter.unusedVariables false
open Go.RowKit

set_option maxRecDepth 20000 in
set_option maxHeartbeats 2000000 in
theorem cloneCk_any (v : Value) (t : List Ck) (w : World) (h : RowR 6 rCk w v t) (hn : t.length ≤ 1048576) :
    Calls Try.prog 140 #[v] w fun e w' => ∃ v', e = .returned v' ∧ CksO w.heap.size w'.heap.size w' v' t ∧ Below w.heap.size w w' := by
  obtain ⟨i0, hi, hz0, hz1, hz2⟩ := info_parts Try.info_ck
  have q22 : ∀ (w : World) (a : Option Addr) (n c n' c' : Nat), (binOp .eql 59 (.slice a n c) (.slice none n' c')).run Try.prog w = .ok (.bool a.isNone) w := fun w a n c n' c' => Lib.run_eql_slice_nil w _ _ a n c n' c' Try.underlying59
  have hok := h.cks_ok
  obtain ⟨a1, c1, hv, hl1, hm1, _⟩ := h.cks
  subst hv
  rcases a1 with _ | ⟨b, off, spot⟩
  · obtain ⟨rfl, h0⟩ := h.none_nil
    clear h hok
    go_enter Try.func140, Try.ntmps140
    go_wp2
    go_ret
    exact ⟨_, rfl, CksO.nil _ _ _, Below.refl _ _⟩
  · have hcells := fun (o : Obj) => cks_cells h (w.alloc o) (below_al (Below.refl _ _) o)
    have HC := Lib.hid hcells
    have HONE := Lib.hid (flat_one ckC_one t)
    have HLEN := Lib.hid (flat_map_len ckC_len t)
    have HOK := Lib.hid hok
    clear h hok hcells
    go_enter Try.func140, Try.ntmps140
    go_wp2_with (first | (at_builtin; refine wpList_append_own _ rfl _ _ 59 rfl w.heap.size 65 i0 (.agg #[.int .i64 0, .string ⟨#[]⟩, .int .i64 0, .int .i64 0, .int .i64 0, .int .i64 0]) 6 56 Try.underlying59 hi hz0 hz1 hz2 rfl (by decide) (.slice (some ⟨w.heap.size, 0, none⟩) 0 0) 0 [] rfl (World.ownsRow_made w #[] 0 (Nat.le_refl _) (Nat.zero_le _) rfl) ⟨b, off, spot⟩ t.length c1 ((t.map ckC).flatten) rfl HLEN.out (HC.out _) HONE.out (by unfold maxLen; omega) (by omega) (by simp) ?_; intro v' w1 hown' hgrow hnil))
    have HB : Hid (Below w.heap.size w w1) := Lib.hid ((below_al (Below.refl _ w) _).grown hgrow (by simp) (fun k hk => Nat.le_of_eq (by simpa [Value.ownBlock] using hk)))
    have HOWN := Lib.hid hown'
    clear hown' hgrow hnil
    go_wp2_with fail
    go_ret
    exact ⟨_, rfl, CksO.of_row (by simpa using HOWN.out) rfl HOK.out, HB.out⟩
end Go.Proofs.Ytalaegkfkjpmoaa
