/- The model's functions of periods. -/
import Derived.Test.YtkjpehpodlpdhaaPerS
import Derived.Test.YtkjpehpodlpdhaaAreRec
import Derived.Test.YtkjpehpodlpdhaaRecs
import Derived.Test.YtkjpehpodlpdhaaDayI
import Derived.Test.YtkjpehpodlpdhaaInSer1
import Derived.Test.YtkjpehpodlpdhaaAddS
import Derived.Deep.RegionHeld3
namespace Go.Proofs.Ytkjpehpodlpdhaa
set_option linter.unusedVariables false
open Go.RowKit Go.Sort

theorem ints_rowS {lo n : Nat} {w : World} {v : Value} {xs : List Int} (h : w.ownsRow lo 3 1 v n (xs.map vI)) (hn : n = xs.length) : IntsO lo w.heap.size w v xs := ⟨by rw [← hn]; exact h, fun g hg => (h.lt g hg).2⟩
theorem ints_new (w : World) : IntsO w.heap.size (w.alloc (.cells #[] 3 (0, 0))).heap.size (w.alloc (.cells #[] 3 (0, 0))) (.slice (some ⟨w.heap.size, 0, none⟩) 0 0) [] := ints_rowS (World.ownsRow_made w #[] 0 (Nat.le_refl _) (Nat.zero_le _) rfl) rfl

/-- A list of numbers that was made ahead of the world w2, in block g, and is appended to: where it lies, and what has turned. -/
structure OutS (g : Nat) (w2 wr : World) (o : Value) (xs : List Int) : Prop where
  own : wr.ownsRow g 3 1 o xs.length (xs.map vI)
  at_ : ∀ k, o.ownBlock = some k → k = g ∨ w2.heap.size ≤ k
  only : Only g (g + 1) w2 wr
  lt : g < w2.heap.size
theorem OutS.start {g : Nat} {w2 : World} (h : w2.ownsRow g 3 1 (.slice (some ⟨g, 0, none⟩) 0 0) 0 []) (hl : g < w2.heap.size) : OutS g w2 w2 (.slice (some ⟨g, 0, none⟩) 0 0) [] :=
  ⟨h, fun k hk => .inl (by simpa [Value.ownBlock] using hk.symm), Only.refl _ _ _, hl⟩
theorem OutS.below {g : Nat} {w2 wr w' : World} {o : Value} {xs : List Int} (h : OutS g w2 wr o xs) (hb : Below wr.heap.size wr w') : OutS g w2 w' o xs :=
  ⟨ownsRow_below h.own hb, h.at_, h.only.trans (Only.of_below hb), h.lt⟩
theorem OutS.app {g : Nat} {w2 w5 w7 : World} {o v' : Value} {xs : List Int} {x : Int} (h : OutS g w2 w5 o xs) (hown : w7.ownsRow g 3 1 v' (xs.length + 1) (xs.map vI ++ [.int .i64 x])) (hg : w5.grownBy w7 o.ownBlock) (hat : v'.ownBlock = o.ownBlock ∨ v'.ownBlock = some w5.heap.size) : OutS g w2 w7 v' (xs ++ [x]) := by
  have hs := h.only.size
  refine ⟨by simpa [vI] using hown, fun k hk => ?_, ⟨hg.os.trans h.only.os, hg.tape.trans h.only.tape, hg.output.trans h.only.output, Nat.le_trans hs hg.size, fun k hk hn => ?_⟩, h.lt⟩
  · rcases hat with e | e
    · exact h.at_ k (by rw [← e]; exact hk)
    · rw [e] at hk; cases hk; exact .inr hs
  · refine (hg.block k (by omega) (fun e => ?_)).trans (h.only.block k hk hn)
    rcases h.at_ k e.symm with h1 | h1 <;> omega
theorem OutS.cell {g b j : Nat} {w2 wr : World} {o v : Value} {xs : List Int} (h : OutS g w2 wr o xs) (hc : w2.cell? ⟨b, j, none⟩ = some v) (hb : b ≠ g) : wr.cell? ⟨b, j, none⟩ = some v :=
  (World.cell?_of_block (h.only.block b (World.block_lt_of_cell? _ _ hc) (by omega))).trans hc
theorem OutS.bel {g n : Nat} {w2 wr : World} {o : Value} {xs : List Int} (h : OutS g w2 wr o xs) (hn : n ≤ g) : Below n w2 wr := (h.only.below (Nat.le_of_lt h.lt)).mono hn



theorem l6Due_any (v v1 : Value) (r : Rec) (t : List Ru) (dy : Int) (w : World) (h : RecV w v r) (h1 : RowR 4 rRu w v1 t) (ha' : askB r t = true) :
    Calls Try.prog 104 #[v, v1, .int .i64 dy] w fun e w' => e = .returned (.bool (decide (0 ≤ dueF r t ∧ dueF r t ≤ dy))) ∧ Below w.heap.size w w' := by
  obtain ⟨s, rfl, h0, hok⟩ := h
  have HV := Lib.hid (show ∀ W, Below w.heap.size w W → RecV W (.agg #[.int .i64 r.id, .int .i64 r.series, .int .i64 r.made, s]) r from fun W hb => ⟨s, rfl, h0.below rEv_stable hb, hok⟩)
  have H1 := Lib.hid h1
  obtain ⟨ba, ha⟩ : ∃ b, askB r t = b := ⟨_, rfl⟩
  have HA := Lib.hid ha
  have b1 := below_al (Below.refl w.heap.size w) (RBOX r s 38)
  obtain ⟨Q, D, hdec⟩ : ∃ q d, decR r (forRu t r.series) = (q, d) := ⟨_, _, rfl⟩
  have hrf : ruleF r t = Q := by unfold ruleF; rw [hdec]
  have hdf : dueF r t = D := by unfold dueF; rw [hdec]
  have HDEC := Lib.hid hdec
  have HRF := Lib.hid hrf
  have HDF := Lib.hid hdf
  rw [hdf]
  obtain rfl : ba = true := ha.symm.trans ha'
  clear h0 hok h1 ha hdec hrf hdf
  go_enter Try.func104, Try.ntmps104
  go_wp2_with (first | (go_at_call 103; refine (l6Deciding_any _ _ r t _ (HV.out _ b1) (H1.out.below rRu_stable b1) (ask_iff.1 HA.out).1 (ask_iff.1 HA.out).2 _ _ HDEC.out).mono ?_; rintro e w2 ⟨rfl, b2⟩; replace b2 := below_chain b1 b2; simp only) | (go_at_call 94; refine (l1In_any _ _ _ _).mono ?_; rintro e w3 ⟨rfl, h3⟩; subst w3))
  go_ret
  exact ⟨ret_bool (by first | rfl | simp), below_al b2 _⟩







end Go.Proofs.Ytkjpehpodlpdhaa
