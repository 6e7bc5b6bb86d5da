/- slices.Clone at functions. -/
import Derived.Test.YtapbajficopnlaaToFn
import Derived.Test.YtapbajficopnlaaFlat
import Derived.ArgAppend
import Derived.Shelf.SlicesE.Clone
namespace Go.Proofs.Ytapbajficopnlaa
set_option linter.unusedVariables false
open Go.RowKit

theorem fnC_len (f : Fn) : (fnC f).length = 3 := rfl
theorem fnC_one (f : Fn) : ∀ u ∈ fnC f, u.oneCell' = true := by
  intro u hu
  simp [fnC] at hu
  rcases hu with rfl | rfl | rfl <;> rfl
theorem FnsO.of_row {lo n : Nat} {w : World} {v : Value} {t : List Fn} (h : w.ownsRow lo 36 3 v n ((t.map fnC).flatten)) (hn : n = t.length) (hok : ∀ f ∈ t, f.ok) : FnsO lo w.heap.size w v t :=
  ⟨⟨by rw [List.length_map, ← hn]; exact h, fun cs hc => by obtain ⟨x, _, rfl⟩ := List.mem_map.1 hc; rfl⟩, hok, fun g hg => (h.lt g hg).2⟩

set_option maxRecDepth 20000 in
set_option maxHeartbeats 2000000 in
theorem cloneFn_any (v : Value) (t : List Fn) (w : World) (h : RowR 3 rFn w v t) (hn : t.length ≤ 1048576) :
    Calls Try.prog 72 #[v] w fun e w' => ∃ v', e = .returned v' ∧ FnsO w.heap.size w'.heap.size w' v' t ∧ Below w.heap.size w w' := by
  obtain ⟨i0, hi, hz0, hz1, hz2⟩ := info_parts Try.info_fn
  have q22 : ∀ (w : World) (a : Option Addr) (n c n' c' : Nat), (binOp .eql 24 (.slice a n c) (.slice none n' c')).run Try.prog w = .ok (.bool a.isNone) w := fun w a n c n' c' => Lib.run_eql_slice_nil w _ _ a n c n' c' Try.underlying24
  have hok := h.fns_ok
  obtain ⟨a1, c1, hv, hl1, hm1, _⟩ := h.fns
  subst hv
  rcases a1 with _ | ⟨b, off, spot⟩
  · obtain ⟨rfl, h0⟩ := h.none_nil
    clear h hok
    go_enter Try.func72, Try.ntmps72
    go_wp2
    go_ret
    exact ⟨_, rfl, FnsO.nil _ _ _, Below.refl _ _⟩
  · have hcells : ∀ j u, (t.map fnC).flatten[j]? = some u → (w.alloc (.cells #[] 36 (0, 0))).cell? ((⟨b, off, spot⟩ : Addr).add j) = some u := by
      obtain ⟨a, cap, e, h1, h2, h3⟩ := h
      cases e
      rcases h3 with rfl | ⟨b', off', hb, e, hc⟩
      · intro j u hj; simp at hj
      · cases e
        intro j u hj
        rw [Addr.add_lit]
        exact below_al_cell (RowR.flat (R := rFn) (fun _ _ _ h => h.1) fnC_len (by decide) (⟨_, _, rfl, h1, h2, .inr ⟨b, off, hb, rfl, hc⟩⟩ : RowR 3 rFn w _ t) j u hj) _
    have HC := Lib.hid hcells
    have HONE := Lib.hid (flat_one fnC_one t)
    have HLEN := Lib.hid (flat_map_len fnC_len t)
    have HOK := Lib.hid hok
    clear h hok hcells
    go_enter Try.func72, Try.ntmps72
    go_wp2_with (first | (at_builtin; refine wpList_append_own _ rfl _ _ 24 rfl w.heap.size 36 i0 (.agg #[.int .i64 0, .int .i64 0, .string ⟨#[]⟩]) 3 32 Try.underlying24 hi hz0 hz1 hz2 rfl (by decide) (.slice (some ⟨w.heap.size, 0, none⟩) 0 0) 0 [] rfl (World.ownsRow_made w #[] 0 (Nat.le_refl _) (Nat.zero_le _) rfl) ⟨b, off, spot⟩ t.length c1 ((t.map fnC).flatten) rfl HLEN.out HC.out HONE.out (by unfold maxLen; omega) (by omega) (by simp) ?_; intro v' w1 hown' hgrow hnil))
    have HB : Hid (Below w.heap.size w w1) := Lib.hid ((below_al (Below.refl _ w) _).grown hgrow (by simp) (fun k hk => Nat.le_of_eq (by simpa [Value.ownBlock] using hk)))
    have HOWN := Lib.hid hown'
    clear hown' hgrow hnil
    go_wp2_with fail
    go_ret
    exact ⟨_, rfl, FnsO.of_row (by simpa using HOWN.out) rfl HOK.out, HB.out⟩
end Go.Proofs.Ytapbajficopnlaa
