/- Paths between formats, the program's: WaysTo. -/
import Derived.Test.YtcfghigmijibeaaPathI
namespace Go.Proofs.Ytcfghigmijibeaa
set_option linter.unusedVariables false
open Go.RowKit Go.Sort Go.Maps Go.Shelf


set_option maxRecDepth 20000 in
set_option maxHeartbeats 4000000 in
theorem implWaysTo_any (v : Value) (t : List Fo) (x d : Int) (w : World) (h : RowR 4 rFo w v t) (xs : List Int) (b : Bool) (hres : wayRes t x d = (xs, b)) :
    Calls Try.prog 33 #[v, .int .i64 x, .int .i64 d] w fun e w' => ∃ v', e = .returned (.tuple #[v', .bool b]) ∧ IntsO w.heap.size w'.heap.size w' v' xs ∧ Below w.heap.size w w' := by
  have H := Lib.hid h
  by_cases hn : areFo t = true ∧ hasId t x = true ∧ dayB d = true
  · obtain ⟨rfl, rfl⟩ := wayRes_yes hres hn
    have HN := Lib.hid hn
    clear h hres hn
    go_enter Try.func33, Try.ntmps33
    go_wp2_with (first | (go_at_call 65; refine (pathsFrom_any _ t x d _ H.out HN.out).mono ?_; rintro e w1 ⟨M, nn, D, rfl, hMs, hM, ⟨no, hP⟩, b1⟩; have HM := Lib.hid hM; have HP := Lib.hid hP; have s1 := b1.size; clear hM hP) | (go_at_call 66; refine (keysP_any _ _).mono ?_; rintro e w2 ⟨rfl, h2⟩; subst h2))
    have hF := paths_fin d HN.out.1 HN.out.2.1
    have hsz : Maps.size D ≤ 10 := Nat.le_trans HP.out.size_ (Nat.le_trans (keys_le HN.out.2.1 hF.nd hF.walk) (fo_iff.1 HN.out.1).1)
    clear hF
    refine (sortedP_any M nn D _ HM.out (by omega)).mono ?_
    rintro e w5 ⟨vs, ss, rfl, hp, hrow, b5⟩
    have hso := HP.out.ik.sorted hp
    have hE := rising_same _ _ hso.1 (wayF_rising HN.out.1 x d) (fun y => by rw [hso.2 y, wayF_mem HN.out.1 HN.out.2.1])
    rw [hE] at hrow
    have hln : ss.length = (wayF t x d).length := by rw [← hE]; exact (List.mergeSort_perm ss _).length_eq.symm
    rw [hln] at hrow
    have HO := Lib.hid (IntsO.wide (lo' := w.heap.size) (ints_rowN hrow rfl) (by omega) (Nat.le_refl _))
    have B5 := Lib.hid (b1.trans (((below_al (Below.refl w1.heap.size w1) _).trans (b5.mono (Nat.le_succ _))).mono s1))
    clear hp hso hE hrow hln b5
    go_wp2_with fail
    go_ret2
    exact ⟨_, rfl, HO.out, B5.out⟩
  · obtain ⟨rfl, rfl⟩ := wayRes_no hres hn
    have HN := Lib.hid hn
    clear h hres hn
    go_enter Try.func33, Try.ntmps33
    go_wp2_with (first | (go_at_call 65; refine (pathsFrom_no _ t x d _ H.out HN.out).mono ?_; rintro e w1 ⟨rfl, b1⟩; have s1 := b1.size) | (go_at_call 66; refine (keysP_any _ _).mono ?_; rintro e w2 ⟨rfl, h2⟩; subst h2))
    refine (sortedP_nil _).mono ?_
    rintro e w5 ⟨vs, rfl, hrow, b5⟩
    have HO := Lib.hid (IntsO.wide (lo' := w.heap.size) (ints_rowN (xs := []) hrow rfl) (by omega) (Nat.le_refl _))
    have B5 := Lib.hid (b1.trans (((below_al (Below.refl w1.heap.size w1) _).trans (b5.mono (Nat.le_succ _))).mono s1))
    clear hrow b5
    go_wp2_with fail
    go_ret2
    exact ⟨_, rfl, HO.out, B5.out⟩
end Go.Proofs.Ytcfghigmijibeaa
