/- The law FnExactJoinStrings: at every list of texts and every separator the call answers true. No condition. -/
import Derived.Test.YtfjfnbpfeijmnaaJoinImpl
import Derived.Test.YtfjfnbpfeijmnaaToStr
import Derived.Test.YtfjfnbpfeijmnaaEqStr
namespace Go.Proofs.Ytfjfnbpfeijmnaa
set_option linter.unusedVariables false
open Go.ChangeShapes Go.WideShapes Go.ChangeAt Go.RowKit
open Go.ChangeMaps (open_string shut_string)

/-- Both functions answer the same. -/
theorem join_both (ss : List ByteArray) (sep : ByteArray) (hz : ∀ s ∈ ss, s.size ≤ 1099511627776) (hl : ss.length ≤ 1099511627776) (hsep : sep.size ≤ maxLen) : ∃ (J : ByteArray) (b : Bool),
    (∀ (v : Value) (w : World), RowOf Value.string w v ss → Calls Try.prog 13 #[v, .string sep] w fun e w' => e = .returned (.tuple #[.string J, .bool b]) ∧ Below w.heap.size w w') ∧
    (∀ (v : Value) (w : World), RowOf Value.string w v ss → Calls Try.prog 12 #[v, .string sep] w fun e w' => e = .returned (.tuple #[.string J, .bool b]) ∧ Below w.heap.size w w') := by
  by_cases hb : sep.size ≠ 1 ∨ ss = []
  · exact ⟨⟨#[]⟩, false, fun v w h => specJoin_bad v ss sep w h hsep hb, fun v w h => implJoin_bad v ss sep w h hsep hb⟩
  · have h1 : sep.size = 1 := Decidable.byContradiction fun h => hb (.inl h)
    have h0 : ss ≠ [] := fun h => hb (.inr h)
    obtain ⟨c, rfl⟩ : ∃ c, sep = ⟨#[c]⟩ := by
      obtain ⟨⟨l⟩⟩ := sep
      match l, h1 with
      | [c], _ => exact ⟨c, rfl⟩
    by_cases hg : joinGood ss c
    · refine ⟨⟨(sj ss c).toArray⟩, true, fun v w h => ?_, fun v w h => ?_⟩
      · have := specJoin_one v ss c w h hz h0
        rw [joinAns_yes hg] at this
        exact this
      · have := implJoin_one v ss c w h hz h0 hl
        rw [joinAns_yes hg] at this
        exact this
    · refine ⟨⟨#[]⟩, false, fun v w h => ?_, fun v w h => ?_⟩
      · have := specJoin_one v ss c w h hz h0
        rw [joinAns_no hg] at this
        exact this
      · have := implJoin_one v ss c w h hz h0 hl
        rw [joinAns_no hg] at this
        exact this

set_option maxHeartbeats 2000000 in
theorem walkJoin (a : Option Addr) (len cap : Nat) (z : List ByteArray) (sep : ByteArray) (w : World) (hi : IsStrs w a len cap z) (hsep : sep.size ≤ maxLen) :
    Calls Try.prog 5 #[.slice a len cap, .string sep] w fun e w' => e = .returned (.bool true) ∧ Below w.heap.size w w' := by
  obtain ⟨ss, hlen, hR0, hz⟩ := hi.rowOf
  subst hlen
  have Z := Lib.hid hz
  clear hi hz
  by_cases h1 : sep.size ≤ 1048576
  · by_cases h2 : ss.length + sz ss ≤ 1048576
    · have hz2 : ∀ s ∈ ss, s.size ≤ 1099511627776 := fun s hs => by
        have : s.size ≤ sz ss := size_le_sz hs
        omega
      obtain ⟨J, b, hS, hI⟩ := join_both ss sep hz2 (by omega) hsep
      have HS := Lib.hid hS
      have HI := Lib.hid hI
      clear hS hI hz2
      go_enter Try.func5, Try.ntmps5
      go_wp2_with fail
      refine (szStringS_fits _ ss _ _ hR0 (by omega) (by omega) (by omega)).mono ?_
      rintro e w1 ⟨rfl, hb1⟩
      have hR1 := hR0.below hb1
      go_wp2_with fail
      refine (toStringS_any _ ss _ hR1 (by omega)).mono ?_
      rintro e w2 ⟨v2, rfl, ho2, hb2⟩
      have hR2 := hR1.below hb2
      have hc2 := RowOf.of_owns ho2
      go_wp2_with fail
      refine (HS.out v2 _ hc2).mono ?_
      rintro e w3 ⟨rfl, hb3⟩
      have hR3 := hR2.below hb3
      go_wp2_with fail
      refine (toStringS_any _ ss _ hR3 (by omega)).mono ?_
      rintro e w4 ⟨v4, rfl, ho4, hb4⟩
      have hR4 := hR3.below hb4
      have hc4 := RowOf.of_owns ho4
      go_wp2_with fail
      refine (HI.out v4 _ hc4).mono ?_
      rintro e w5 ⟨rfl, hb5⟩
      have hR5 := hR4.below hb5
      have hc5 := hc4.below hb5
      go_wp2_with fail
      refine (toStringS_any _ ss _ hR5 (by omega)).mono ?_
      rintro e w6 ⟨v6, rfl, ho6, hb6⟩
      have hc6 := hc5.below hb6
      have hd6 := RowOf.of_owns ho6
      go_wp2_with fail
      refine (eqStringS_any _ _ ss ss _ hc6 hd6).mono ?_
      rintro e w7 ⟨rfl, hb7⟩
      rw [decide_eq_true (rfl : ss = ss)]
      have z1 := hb1.size; have z2 := hb2.size; have z3 := hb3.size; have z4 := hb4.size; have z5 := hb5.size; have z6 := hb6.size
      go_wp2
      go_ret
      exact ⟨rfl, hb1.trans ((hb2.mono z1).trans ((hb3.mono (by omega)).trans ((hb4.mono (by omega)).trans ((hb5.mono (by omega)).trans ((hb6.mono (by omega)).trans (hb7.mono (by omega)))))))⟩
    · go_enter Try.func5, Try.ntmps5
      go_wp2_with fail
      refine (szStringS_over _ ss _ _ hR0 Z.out (by omega) (by omega) (by omega)).mono ?_
      rintro e w1 ⟨rfl, hb1⟩
      go_wp2
      go_ret
      exact ⟨rfl, hb1⟩
  · unfold maxLen at hsep
    go_enter Try.func5, Try.ntmps5
    go_wp2_with fail
    go_ret
    exact ⟨rfl, Below.refl _ _⟩

set_option maxRecDepth 100000 in
theorem fnExactJoinStrings_lifted (os : Os) (started : os.Started) (H : Type) (enc : TypeId × Value → H) :
    ReturnsInHanded {} Try.checked os 5 .any (Rows.fnExactJoinStringsSpec.pre6 enc Try.prog Try.f5 Rows.fnExactJoinStringsRow.domain false) (Rows.fnExactJoinStringsSpec.post enc Try.prog Try.f5 false true false false) := by
  refine returnsInHanded_of_change (C := Try.checked) Try.own started (by kernel_rfl) Try.func5
    (ChangeSpec.witness6 (enc := enc) (C := Try.checked) false ⟨#[], #[.slice none 0 0, .string ByteArray.empty], []⟩ 8 (by kernel_rfl) (by kernel_rfl) (by kernel_rfl) (by kernel_rfl)) ?_
  intro W base args ds gs before hval0 hW hcnd _
  have hval : ∀ (j : Nat) t v, Try.f5.params[j]? = some t → args[j]? = some v → Value.okWide Try.prog W .any base t v := hval0
  have hW' := hW
  obtain ⟨p, q, hA0, hV, rfl, hfz, hnd⟩ := hW
  have hA : DataW.TrodAll enc Try.prog W 0 (fun _ => true) true Try.f5.params.toList args.toList ds p := hA0
  rw [Try.params5] at hA hval
  obtain ⟨v0, vs0, d0, ds0, p0, q0, hargs, rfl, rfl, h0, r0⟩ := trodAll_cons hA
  obtain ⟨v1, vs1, d1, ds1, p1, q1, rfl, rfl, rfl, h1, r1⟩ := trodAll_cons r0
  obtain ⟨rfl, rfl, rfl⟩ := trodAll_nil r1
  obtain rfl : args = #[v0, v1] := by cases args; simp_all
  obtain ⟨rfl, rfl⟩ := trodVars_none hV
  obtain ⟨a0, len0, cap0, rfl⟩ := okWide_slice Try.underlying26 (hval 0 26 v0 rfl rfl)
  have k0 := h0
  have lt0 : ∀ x ∈ p0, x.block < W.heap.size := by obtain ⟨m, hm⟩ := k0; exact DataW.trod_lt m _ _ _ hm
  obtain ⟨z0, w0⟩ : ∃ zs, IsStrs W a0 len0 cap0 zs := by
    obtain ⟨fuel, hf⟩ := h0
    rcases open_strings Try.underlying26 Try.underlying9 (by kernel_rfl) hf with ⟨hcs, _⟩ | ⟨x, l, c, zs, hcs, _, hl, hm, hz, _, hcell, hwz⟩
    · simp [Value.cells] at hcs
      obtain ⟨rfl, rfl, rfl⟩ := hcs
      exact ⟨[], .inl ⟨rfl, rfl, rfl, rfl⟩⟩
    · simp [Value.cells] at hcs
      obtain ⟨rfl, rfl, rfl⟩ := hcs
      exact ⟨zs, .inr ⟨_, rfl, hl, hm, by simpa using hz, hcell, hwz⟩⟩
  obtain ⟨s1, rfl, rfl, rfl, w1⟩ := open_string Try.underlying9 (hval 1 9 v1 rfl rfl) h1
  clear hA0 hval0
  refine (walkJoin a0 len0 cap0 z0 s1 W w0 w1).mono fun e W' ⟨he, bel⟩ => ?_
  subst he
  exact ⟨_, rfl, _, _, _, [], _, [], hW', trodAll_mk1 (shut_bool Try.underlying4 _), (trodAll_cons_mk (Below.trod Try.laidOut (by kernel_rfl) (of_decide_eq_true (by kernel_rfl)) k0 bel lt0) (trodAll_cons_mk (shut_string Try.underlying9 w1) trodAll_mk0)), rfl, bel.frame _, fun h => by cases h⟩

/-- THE STATEMENT. -/
theorem fnExactJoinStrings_proved : Rows.FnExactJoinStringsSaid :=
  OpenClaim.holds_of_wide 5 Try.f5 rfl rfl rfl rfl rfl rfl rfl ⟨rfl, rfl, rfl, rfl, rfl⟩ rfl rfl rfl rfl rfl (by kernel_rfl) Try.func5 (by kernel_rfl)
    (of_decide_eq_true (by kernel_rfl)) (by unfold Func.isWrapper; first | (rw [if_pos (by decide +kernel)]; kernel_rfl) | (rw [if_neg (by decide +kernel)]; exact ⟨rfl, rfl⟩))
    (fun os started H enc _ => fnExactJoinStrings_lifted os started H enc)
end Go.Proofs.Ytfjfnbpfeijmnaa
