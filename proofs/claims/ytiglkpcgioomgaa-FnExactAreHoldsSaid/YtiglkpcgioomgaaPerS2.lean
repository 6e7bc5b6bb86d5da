/- The model's functions of periods. -/
import Derived.Test.YtiglkpcgioomgaaPerS
import Derived.Test.YtiglkpcgioomgaaAreRec
import Derived.Test.YtiglkpcgioomgaaRecs
import Derived.Test.YtiglkpcgioomgaaDayI
import Derived.Test.YtiglkpcgioomgaaInSer1
import Derived.Test.YtiglkpcgioomgaaAddS
import Derived.Deep.RegionHeld3
namespace Go.Proofs.Ytiglkpcgioomgaa
set_option linter.unusedVariables false
open Go.RowKit Go.Sort

theorem ints_rowS {lo n : Nat} {w : World} {v : Value} {xs : List Int} (h : w.ownsRow lo 3 1 v n (xs.map vI)) (hn : n = xs.length) : IntsO lo w.heap.size w v xs := ⟨by rw [← hn]; exact h, fun g hg => (h.lt g hg).2⟩
theorem ints_new (w : World) : IntsO w.heap.size (w.alloc (.cells #[] 3 (0, 0))).heap.size (w.alloc (.cells #[] 3 (0, 0))) (.slice (some ⟨w.heap.size, 0, none⟩) 0 0) [] := ints_rowS (World.ownsRow_made w #[] 0 (Nat.le_refl _) (Nat.zero_le _) rfl) rfl

/-- A list of numbers that was made ahead of the world w2, in block g, and is appended to: where it lies, and what has turned. -/
structure OutS (g : Nat) (w2 wr : World) (o : Value) (xs : List Int) : Prop where
  own : wr.ownsRow g 3 1 o xs.length (xs.map vI)
  at_ : ∀ k, o.ownBlock = some k → k = g ∨ w2.heap.size ≤ k
  only : Only g (g + 1) w2 wr
  lt : g < w2.heap.size
theorem OutS.start {g : Nat} {w2 : World} (h : w2.ownsRow g 3 1 (.slice (some ⟨g, 0, none⟩) 0 0) 0 []) (hl : g < w2.heap.size) : OutS g w2 w2 (.slice (some ⟨g, 0, none⟩) 0 0) [] :=
  ⟨h, fun k hk => .inl (by simpa [Value.ownBlock] using hk.symm), Only.refl _ _ _, hl⟩
theorem OutS.below {g : Nat} {w2 wr w' : World} {o : Value} {xs : List Int} (h : OutS g w2 wr o xs) (hb : Below wr.heap.size wr w') : OutS g w2 w' o xs :=
  ⟨ownsRow_below h.own hb, h.at_, h.only.trans (Only.of_below hb), h.lt⟩
theorem OutS.app {g : Nat} {w2 w5 w7 : World} {o v' : Value} {xs : List Int} {x : Int} (h : OutS g w2 w5 o xs) (hown : w7.ownsRow g 3 1 v' (xs.length + 1) (xs.map vI ++ [.int .i64 x])) (hg : w5.grownBy w7 o.ownBlock) (hat : v'.ownBlock = o.ownBlock ∨ v'.ownBlock = some w5.heap.size) : OutS g w2 w7 v' (xs ++ [x]) := by
  have hs := h.only.size
  refine ⟨by simpa [vI] using hown, fun k hk => ?_, ⟨hg.os.trans h.only.os, hg.tape.trans h.only.tape, hg.output.trans h.only.output, Nat.le_trans hs hg.size, fun k hk hn => ?_⟩, h.lt⟩
  · rcases hat with e | e
    · exact h.at_ k (by rw [← e]; exact hk)
    · rw [e] at hk; cases hk; exact .inr hs
  · refine (hg.block k (by omega) (fun e => ?_)).trans (h.only.block k hk hn)
    rcases h.at_ k e.symm with h1 | h1 <;> omega










end Go.Proofs.Ytiglkpcgioomgaa
