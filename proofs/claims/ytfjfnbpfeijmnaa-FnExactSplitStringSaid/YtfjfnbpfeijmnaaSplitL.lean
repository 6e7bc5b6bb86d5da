/- The law FnExactSplitString: at every text and every separator the call answers true. No condition. -/
import Derived.Test.YtfjfnbpfeijmnaaSplitImpl
import Derived.Test.YtfjfnbpfeijmnaaEqStr
import Derived.Test.YtfjfnbpfeijmnaaMarkStr
namespace Go.Proofs.Ytfjfnbpfeijmnaa
set_option linter.unusedVariables false
open Go.ChangeShapes Go.WideShapes Go.ChangeAt Go.RowKit
open Go.ChangeMaps (open_string shut_string)

/-- Both functions hand back the same texts and the same bool. -/
theorem split_both (s sep : ByteArray) (hs : s.size ≤ maxLen) (hp : sep.size ≤ maxLen) : ∃ (ss : List ByteArray) (b : Bool), ss.length ≤ 4001 ∧
    (∀ w, Calls Try.prog 17 #[.string s, .string sep] w (SplitGives ss b w)) ∧
    (∀ w, Calls Try.prog 10 #[.string s, .string sep] w (SplitGives ss b w)) := by
  by_cases h : 4000 < s.size ∨ sep.size ≠ 1
  · exact ⟨[], false, by simp, fun w => specSplit_bad s sep w hs hp h, fun w => implSplit_bad s sep w hs hp h⟩
  · have h1 : sep.size = 1 := Decidable.byContradiction fun e => h (.inr e)
    have h2 : s.size ≤ 4000 := by have := fun e => h (.inl e); omega
    obtain ⟨c, rfl⟩ : ∃ c, sep = ⟨#[c]⟩ := by
      obtain ⟨⟨l⟩⟩ := sep
      match l, h1 with
      | [c], _ => exact ⟨c, rfl⟩
    exact ⟨spAll s c, true, by have := spAll_len s c; omega, fun w => specSplit_one s c w h2, fun w => implSplit_one s c w h2⟩

set_option maxHeartbeats 2000000 in
theorem walkSplit (s sep : ByteArray) (w : World) (hs : s.size ≤ maxLen) (hp : sep.size ≤ maxLen) :
    Calls Try.prog 4 #[.string s, .string sep] w fun e w' => e = .returned (.bool true) ∧ Below w.heap.size w w' := by
  by_cases h1 : s.size ≤ 1048576
  · by_cases h2 : sep.size ≤ 1048576
    · obtain ⟨ss, b, hlen, hS, hI⟩ := split_both s sep hs hp
      have HS := Lib.hid hS
      have HI := Lib.hid hI
      clear hS hI
      go_enter Try.func4, Try.ntmps4
      go_wp2_with fail
      refine (HS.out _).mono ?_
      rintro e w1 ⟨v1, rfl, ho1, hb1⟩
      have R1 := RowOf.of_owns ho1
      go_wp2_with fail
      refine (HI.out _).mono ?_
      rintro e w2 ⟨v2, rfl, ho2, hb2⟩
      have R2 := RowOf.of_owns ho2
      have R1b := R1.below hb2
      go_wp2_with fail
      refine (eqStringS_any _ _ ss ss _ R2 R1b).mono ?_
      rintro e w3 ⟨rfl, hb3⟩
      rw [decide_eq_true (rfl : ss = ss)]
      have ho3 := ownsRow_below ho2 hb3
      go_wp2_with fail
      refine (markStringS_any v2 ss _ 1 _ (by omega) (by omega) ho3).mono ?_
      rintro e w4 ⟨rfl, ho4, hg4⟩
      have z1 := hb1.size; have z2 := hb2.size; have z3 := hb3.size
      have hb4 : Below w1.heap.size w3 w4 := below_of_grownBy hg4 (by omega) (fun k hk => (ho3.lt k hk).1)
      have z4 := hb4.size
      have hlm : (marks 1 ss.length).length = ss.length := marks_length 1 ss.length
      have R4 := RowOf.of_owns ho4
      have hr1 : RowOf Value.string w4 v1 ss := R1.below (hb2.trans ((hb3.mono z2).trans hb4))
      go_wp2_with fail
      refine (heldStringS_any v2 1 ss.length _ (by omega) (by omega) R4).mono ?_
      rintro e w5 ⟨rfl, hb5⟩
      have R5 := R4.below hb5
      have R15 := hr1.below hb5
      have z5 := hb5.size
      go_wp2_with fail
      refine (HI.out _).mono ?_
      rintro e w6 ⟨v6, rfl, ho6, hb6⟩
      have R6 := RowOf.of_owns ho6
      have R16 := R15.below hb6
      have R56 := R5.below hb6
      have z6 := hb6.size
      go_wp2_with fail
      refine (eqStringS_any _ _ ss ss _ R6 R16).mono ?_
      rintro e w7 ⟨rfl, hb7⟩
      rw [decide_eq_true (rfl : ss = ss)]
      have R57 := R56.below hb7
      have z7 := hb7.size
      go_wp2_with fail
      refine (heldStringS_any v2 1 ss.length _ (by omega) (by omega) R57).mono ?_
      rintro e w8 ⟨rfl, hb8⟩
      go_wp2
      go_ret
      exact ⟨rfl, hb1.trans ((hb2.mono z1).trans ((hb3.mono (by omega)).trans ((hb4.mono (by omega)).trans ((hb5.mono (by omega)).trans ((hb6.mono (by omega)).trans ((hb7.mono (by omega)).trans (hb8.mono (by omega))))))))⟩
    · unfold maxLen at hp hs
      go_enter Try.func4, Try.ntmps4
      go_wp2_with fail
      go_ret
      exact ⟨rfl, Below.refl _ _⟩
  · unfold maxLen at hs
    go_enter Try.func4, Try.ntmps4
    go_wp2_with fail
    go_ret
    exact ⟨rfl, Below.refl _ _⟩

set_option maxRecDepth 100000 in
theorem fnExactSplitString_lifted (os : Os) (started : os.Started) (H : Type) (enc : TypeId × Value → H) :
    ReturnsInHanded {} Try.checked os 4 .any (Rows.fnExactSplitStringSpec.pre6 enc Try.prog Try.f4 Rows.fnExactSplitStringRow.domain false) (Rows.fnExactSplitStringSpec.post enc Try.prog Try.f4 false true false false) := by
  refine returnsInHanded_of_change (C := Try.checked) Try.own started (by kernel_rfl) Try.func4
    (ChangeSpec.witness6 (enc := enc) (C := Try.checked) false ⟨#[], #[.string ByteArray.empty, .string ByteArray.empty], []⟩ 8 (by kernel_rfl) (by kernel_rfl) (by kernel_rfl) (by kernel_rfl)) ?_
  intro W base args ds gs before hval0 hW hcnd _
  have hval : ∀ (j : Nat) t v, Try.f4.params[j]? = some t → args[j]? = some v → Value.okWide Try.prog W .any base t v := hval0
  have hW' := hW
  obtain ⟨p, q, hA0, hV, rfl, hfz, hnd⟩ := hW
  have hA : DataW.TrodAll enc Try.prog W 0 (fun _ => true) true Try.f4.params.toList args.toList ds p := hA0
  rw [Try.params4] at hA hval
  obtain ⟨v0, vs0, d0, ds0, p0, q0, hargs, rfl, rfl, h0, r0⟩ := trodAll_cons hA
  obtain ⟨v1, vs1, d1, ds1, p1, q1, rfl, rfl, rfl, h1, r1⟩ := trodAll_cons r0
  obtain ⟨rfl, rfl, rfl⟩ := trodAll_nil r1
  obtain rfl : args = #[v0, v1] := by cases args; simp_all
  obtain ⟨rfl, rfl⟩ := trodVars_none hV
  obtain ⟨s0, rfl, rfl, rfl, w0⟩ := open_string Try.underlying9 (hval 0 9 v0 rfl rfl) h0
  obtain ⟨s1, rfl, rfl, rfl, w1⟩ := open_string Try.underlying9 (hval 1 9 v1 rfl rfl) h1
  clear hA0 hval0
  refine (walkSplit s0 s1 W w0 w1).mono fun e W' ⟨he, bel⟩ => ?_
  subst he
  exact ⟨_, rfl, _, _, _, [], _, [], hW', trodAll_mk1 (shut_bool Try.underlying4 _), (trodAll_cons_mk (shut_string Try.underlying9 w0) (trodAll_cons_mk (shut_string Try.underlying9 w1) trodAll_mk0)), rfl, bel.frame _, fun h => by cases h⟩

/-- THE STATEMENT. -/
theorem fnExactSplitString_proved : Rows.FnExactSplitStringSaid :=
  OpenClaim.holds_of_wide 4 Try.f4 rfl rfl rfl rfl rfl rfl rfl ⟨rfl, rfl, rfl, rfl, rfl⟩ rfl rfl rfl rfl rfl (by kernel_rfl) Try.func4 (by kernel_rfl)
    (of_decide_eq_true (by kernel_rfl)) (by unfold Func.isWrapper; first | (rw [if_pos (by decide +kernel)]; kernel_rfl) | (rw [if_neg (by decide +kernel)]; exact ⟨rfl, rfl⟩))
    (fun os started H enc _ => fnExactSplitString_lifted os started H enc)
end Go.Proofs.Ytfjfnbpfeijmnaa
