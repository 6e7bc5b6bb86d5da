/- What draws carry beside the cursor. -/
import Derived.Test.YtenjajcknmfhfaaPick
import Derived.Test.YtenjajcknmfhfaaCurNew
import Derived.Test.YtenjajcknmfhfaaCells
import Derived.Test.YtenjajcknmfhfaaBx
import Derived.Deep.DeepCutAuto
import Derived.Deep.CutBlock
import Derived.Deep.RegionHeld3
namespace Go.Proofs.Ytenjajcknmfhfaa
set_option linter.unusedVariables false
open Go.RowKit

set_option maxHeartbeats 1000000 in
theorem amongZ_any (B K g off cap n : Nat) (xs : List Int) (w : World) (h : Cur w B K) (hK : K ≤ 549755813888) (hn : n = xs.length) (h0 : 0 < n) (hn1 : n ≤ 1099511627776) (hgB : g ≠ B)
    (hc : ∀ i (hi : i < xs.length), w.cell? ⟨g, off + i, none⟩ = some (.int .i64 xs[i])) :
    Calls Try.prog 77 #[.pointer (some ⟨B, 0, none⟩), .slice (some ⟨g, off, none⟩) n cap] w (CurNum w B (K + 2) xs) := by
  have H := Lib.hid h
  have HC := Lib.hid hc
  have HN := Lib.hid hn
  clear h hc hn
  go_enter Try.func77, Try.ntmps77
  go_wp2_with fail
  refine (pick_any B K n _ H.out hK (by omega) (by omega)).mono ?_
  rintro e w1 ⟨r, rfl, hr0, hr1, hc1, hg1⟩
  obtain ⟨k, rfl⟩ := Int.eq_ofNat_of_zero_le hr0
  have hk : k < xs.length := by have := HN.out; omega
  have f1 := hg1.cell (HC.out k hk) (by simpa using hgB)
  have HC1 := Lib.hid hc1
  have HG1 := Lib.hid hg1
  clear hc1 hg1
  go_wp2
  go_ret
  exact ⟨_, rfl, List.getElem_mem hk, HC1.out, HG1.out⟩

/-- The cursor, behind w0. -/
structure Dk (w0 w : World) (B K : Nat) : Prop where
  cur : Cur w B K
  gr : w0.grownBy w (some B)
theorem Dk.start {w : World} {B K : Nat} (h : Cur w B K) : Dk w w B K := ⟨h, World.grownBy.refl _ _⟩
theorem Dk.step {w0 w w' : World} {B K K' : Nat} (h : Dk w0 w B K) (hc : Cur w' B K') (hg : w.grownBy w' (some B)) : Dk w0 w' B K' := ⟨hc, grownBy_trans h.gr hg⟩
theorem Dk.below {w0 w w' : World} {B K : Nat} (h : Dk w0 w B K) (hb : Below w.heap.size w w') : Dk w0 w' B K :=
  h.step (h.cur.later (hb.mono h.cur.lt)) (grownBy_of_below hb _)
theorem Dk.al {w0 w : World} {B K : Nat} (h : Dk w0 w B K) (ob : Obj) : Dk w0 (w.alloc ob) B K := h.below (below_al (Below.refl _ _) ob)
theorem Dk.drew {w0 w : World} {B K : Nat} (h : Dk w0 w B K) : Dk w0 w.drew B K := h.below (Below.refl _ _).drew
theorem Dk.le {w0 w : World} {B K K' : Nat} (h : Dk w0 w B K) (hk : K ≤ K') : Dk w0 w B K' := ⟨h.cur.le_K hk, h.gr⟩
theorem Dk.set {w0 w : World} {B K F j : Nat} {u : Value} (h : Dk w0 w B K) (hF : w0.heap.size ≤ F) (hB : B < F) : Dk w0 (w.setCell ⟨F, j, none⟩ u) B K := by
  refine ⟨h.cur.later ((Below.refl (B + 1) w).setCell (p := ⟨F, j, none⟩) hB u), h.gr.os, h.gr.tape, h.gr.output, by simpa using h.gr.size, fun k hk hr => ?_⟩
  exact (Below.heap_setCell w ⟨F, j, none⟩ u k (by simp; omega)).trans (h.gr.block k hk hr)
theorem Dk.app {w0 w w' : World} {B K : Nat} {v : Value} (h : Dk w0 w B K) (hg : w.grownBy w' v.ownBlock) (hv : ∀ k, v.ownBlock = some k → w0.heap.size ≤ k) (hB : B < w0.heap.size) : Dk w0 w' B K := by
  have hs := h.gr.size
  have hb : Below (B + 1) w w' := (Below.refl (B + 1) w).grown hg h.cur.lt (fun k hk => by have := hv k hk; omega)
  refine ⟨h.cur.later hb, hg.os.trans h.gr.os, hg.tape.trans h.gr.tape, hg.output.trans h.gr.output, Nat.le_trans hs hg.size, fun k hk hr => ?_⟩
  exact (hg.block k (Nat.lt_of_lt_of_le hk hs) (fun e => by have := hv k e.symm; omega)).trans (h.gr.block k hk hr)
theorem Dk.sz {w0 w : World} {B K : Nat} (h : Dk w0 w B K) : w0.heap.size ≤ w.heap.size := h.gr.size

/-- Rows of the call's own under the cursor's steps. -/
theorem own_grown {lo e size n B : Nat} {w w' : World} {v : Value} {xs : List Value} (h : w.ownsRow lo e size v n xs) (hg : w.grownBy w' (some B)) (hB : B < lo) : w'.ownsRow lo e size v n xs := by
  refine h.kept hg ?_
  rcases hv : v.ownBlock with _ | k
  · exact .inl rfl
  · exact .inr fun e => by have := (h.lt k hv).1; cases e; omega
theorem own_off {lo e size n : Nat} {w w' : World} {v u : Value} {xs : List Value} (h : w.ownsRow lo e size v n xs) (hg : w.grownBy w' u.ownBlock) (hn : ∀ k, v.ownBlock = some k → u.ownBlock ≠ some k) : w'.ownsRow lo e size v n xs := by
  refine h.kept hg ?_
  rcases hv : v.ownBlock with _ | k
  · exact .inl rfl
  · exact .inr fun e => hn k hv e.symm
theorem mem_in {r : Int} {xs : List Int} (h : r ∈ xs) (hb : ∀ x ∈ xs, -9223372036854775808 ≤ x ∧ x ≤ 9223372036854775807) : inI r := hb r h
end Go.Proofs.Ytenjajcknmfhfaa
