/- Slices of integers of the call's own: compared, marked, and the marks found again. -/
import Derived.Test.YtenjajcknmfhfaaOwn
import Derived.Test.YtenjajcknmfhfaaProg
import Derived.BigQuiet
import Derived.Deep.QuietTactic
import Derived.WalkSpells
import Derived.WalkLawsBesides
import Derived.Outline
import Derived.WalkSmall
namespace Go.Proofs.Ytenjajcknmfhfaa
set_option linter.unusedVariables false
open Go.RowKit

def vI : Int → Value := Value.int .i64
/-- Integers in memory of the call's own. -/
def IntsO (lo hi : Nat) (w : World) (v : Value) (xs : List Int) : Prop := w.ownsRow lo 3 1 v xs.length (xs.map vI) ∧ Under hi v
section
variable {lo hi lo' hi' : Nat} {w w' : World} {v : Value} {xs : List Int}
theorem IntsO.row (h : IntsO lo hi w v xs) : RowOf vI w v xs := RowOf.of_owns h.1
theorem IntsO.only (h : IntsO lo hi w v xs) (hb : Only lo' hi' w w') (hh : hi' ≤ lo) : IntsO lo hi w' v xs :=
  ⟨⟨h.1.1, h.1.2.imp id fun ⟨g, cap, cur, e, hg, hbk, r⟩ => ⟨g, cap, cur, e, hg, (hb.block g (Array.getElem?_eq_some_iff.1 hbk).1 (.inr (by omega))).trans hbk, r⟩⟩, h.2⟩
theorem IntsO.below (h : IntsO lo hi w v xs) (hb : Below w.heap.size w w') : IntsO lo hi w' v xs := ⟨ownsRow_below h.1 hb, h.2⟩
theorem IntsO.only2 (h : IntsO lo hi w v xs) (hb : Only lo' hi' w w') (hh : hi ≤ lo') : IntsO lo hi w' v xs := ⟨ownsRow_only2 h.1 hb (h.2.up hh), h.2⟩
theorem IntsO.wide (h : IntsO lo hi w v xs) (hl : lo' ≤ lo) (hh : hi ≤ hi') : IntsO lo' hi' w v xs := ⟨ownsRow_base_a' h.1 hl, h.2.up hh⟩
theorem RowOf.only (h : RowOf vI w v xs) (hb : Only lo' hi' w w') (hu : hi' ≤ lo ∧ ∀ g, v.ownBlock = some g → g < lo' ∨ hi' ≤ g) (hv : ∀ a n c, v = .slice (some a) n c → v.ownBlock = some a.block) : RowOf vI w' v xs := by
  obtain ⟨a, cap, rfl, h1, h2, h3⟩ := h
  refine ⟨a, cap, rfl, h1, h2, h3.imp id ?_⟩
  rintro ⟨b, off, hlt, rfl, hc⟩
  have hk := hb.block b hlt (hu.2 b (hv _ _ _ rfl))
  refine ⟨b, off, Nat.lt_of_lt_of_le hlt hb.size, rfl, fun i hi => ?_⟩
  rw [← hc i hi]
  simp [World.cell?, hk]
end


/-- The marks of n places from number k on. -/
def mInts (k n : Nat) : List Int := (List.range n).map (fun i => ((k + i : Nat) : Int))
theorem mInts_len (k n : Nat) : (mInts k n).length = n := by simp [mInts]
theorem mInts_at (k n i : Nat) (h : i < (mInts k n).length) : (mInts k n)[i] = ((k + i : Nat) : Int) := by simp [mInts]


end Go.Proofs.Ytenjajcknmfhfaa
