/- slices of Trigger: rows of the call's own, their cells, slices.Clone. -/
import Derived.Test.YtenjajcknmfhfaaToTg
import Derived.Test.YtenjajcknmfhfaaPuts
import Derived.ArgAppend
namespace Go.Proofs.Ytenjajcknmfhfaa
set_option linter.unusedVariables false
open Go.RowKit

theorem tgC_len (f : Tg) : (tgC f).length = 3 := rfl
theorem tgC_one (f : Tg) : ∀ u ∈ tgC f, u.oneCell' = true := by
  intro u hu
  simp [tgC] at hu
  rcases hu with rfl | rfl | rfl <;> rfl
theorem TgsO.of_row {lo n : Nat} {w : World} {v : Value} {t : List Tg} (h : w.ownsRow lo 34 3 v n ((t.map tgC).flatten)) (hn : n = t.length) (hok : ∀ f ∈ t, f.ok) : TgsO lo w.heap.size w v t :=
  ⟨⟨by rw [List.length_map, ← hn]; exact h, fun cs hc => by obtain ⟨x, _, rfl⟩ := List.mem_map.1 hc; rfl⟩, hok, fun g hg => (h.lt g hg).2⟩
/-- Where the cells of a list lie that is not nil. -/
theorem tgs_cells {w : World} {ad : Addr} {n c : Nat} {t : List Tg} (h : RowR 3 rTg w (.slice (some ad) n c) t) : ∀ W, Below w.heap.size w W → ∀ j u, (t.map tgC).flatten[j]? = some u → W.cell? (ad.add j) = some u := by
  obtain ⟨b, off, spot⟩ := ad
  obtain ⟨a, cap, e, h1, h2, h3⟩ := h
  cases e
  rcases h3 with rfl | ⟨b', off', hb, e, hc⟩
  · intro W _ j u hj; simp at hj
  · cases e
    intro W hW j u hj
    rw [Addr.add_lit]
    exact cell_kept (RowR.flat (R := rTg) (fun _ _ _ h => h.1) tgC_len (by decide) (⟨_, _, rfl, h1, h2, .inr ⟨b, off, hb, rfl, hc⟩⟩ : RowR 3 rTg w _ t) j u hj) hW
theorem TgsO.empty {lo : Nat} (w : World) (h : lo ≤ w.heap.size) : TgsO lo (w.alloc (.cells #[] 34 (0, 0))).heap.size (w.alloc (.cells #[] 34 (0, 0))) (.slice (some ⟨w.heap.size, 0, none⟩) 0 0) [] :=
  TgsO.of_row (n := 0) (World.ownsRow_made w #[] 0 h (Nat.zero_le _) rfl) rfl (by simp)
/-- A row's own cells, read off what is owned. -/
theorem TgsO.cells {lo hi : Nat} {w : World} {g n c : Nat} {t : List Tg} (h : TgsO lo hi w (.slice (some ⟨g, 0, none⟩) n c) t) : ∀ j u, (t.map tgC).flatten[j]? = some u → w.cell? ((⟨g, 0, none⟩ : Addr).add j) = some u := by
  rcases Nat.eq_zero_or_pos t.length with h0 | h0
  · intro j u hj; rw [List.length_eq_zero_iff.1 h0] at hj; simp at hj
  · intro j u hj
    have := h.row
    exact tgs_cells this w (Below.refl _ _) j u hj

end Go.Proofs.Ytenjajcknmfhfaa
