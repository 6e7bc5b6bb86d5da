/- The law FnExactIsEvent: at every event the call answers true. No condition. -/
import Derived.Test.YtkhhkgjjhnplcaaIsEv
import Derived.Test.YtkhhkgjjhnplcaaToRec
import Derived.Test.YtkhhkgjjhnplcaaFrame
namespace Go.Proofs.Ytkhhkgjjhnplcaa
set_option linter.unusedVariables false
open Go.ChangeShapes Go.WideShapes Go.ChangeAt Go.RowKit

theorem walkIsEvent (v : Value) (x : Ev) (w : World) (h : EvV w v x) :
    Calls Try.prog 3 #[v] w fun e w' => e = .returned (.bool true) ∧ Below w.heap.size w w' := by
  obtain ⟨rfl, _⟩ := h
  obtain ⟨b, hb⟩ : ∃ b, isEv x = b := ⟨_, rfl⟩
  have HS := fun W => specIsEvent_any x W
  have HI := fun W => implIsEvent_any x W
  rw [hb] at HS HI
  cases b
  all_goals
    go_enter Try.func3, Try.ntmps3
    go_wp2_with fail
    refine (toEvent_any x _).mono ?_
    rintro e w1 ⟨rfl, b1⟩
    have c0 := cell_kept (cell_new w _ _ 0 rfl) b1
    have c1 := cell_kept (cell_new w _ _ 1 rfl) b1
    go_wp2_with fail
    refine (HS _).mono ?_
    rintro e w2 ⟨rfl, b2⟩
    replace c0 := cell_kept c0 b2
    replace c1 := cell_kept c1 b2
    go_wp2_with fail
    refine (toEvent_any x _).mono ?_
    rintro e w3 ⟨rfl, b3⟩
    go_wp2_with fail
    refine (HI _).mono ?_
    rintro e w4 ⟨rfl, b4⟩
    go_wp2_with fail
    go_ret
    exact ⟨rfl, below_chain (below_chain (below_chain (below_chain (below_al (Below.refl _ _) _) b1) b2) b3) b4⟩

set_option maxRecDepth 100000 in
theorem fnExactIsEvent_lifted (os : Os) (started : os.Started) (H : Type) (enc : TypeId × Value → H) :
    ReturnsInHanded {} Try.checked os 3 .any (Rows.fnExactIsEventSpec.pre6 enc Try.prog Try.f3 Rows.fnExactIsEventRow.domain false) (Rows.fnExactIsEventSpec.post enc Try.prog Try.f3 false true false false) := by
  refine returnsInHanded_of_change (C := Try.checked) Try.own started (by kernel_rfl) Try.func3
    (ChangeSpec.witness6 (enc := enc) (C := Try.checked) false ⟨#[], #[.agg #[.int .i64 0, .int .i64 0]], []⟩ 8 (by kernel_rfl) (by kernel_rfl) (by kernel_rfl) (by kernel_rfl)) ?_
  intro W base args ds gs before hval0 hW hcnd _
  have hval : ∀ (j : Nat) t v, Try.f3.params[j]? = some t → args[j]? = some v → Value.okWide Try.prog W .any base t v := hval0
  have hW' := hW
  obtain ⟨p, q, hA0, hV, rfl, hfz, hnd⟩ := hW
  have hA : DataW.TrodAll enc Try.prog W 0 (fun _ => true) true Try.f3.params.toList args.toList ds p := hA0
  rw [Try.params3] at hA hval
  obtain ⟨v0, vs0, d0, ds0, p0, q0, hargs, rfl, rfl, h0, r0⟩ := trodAll_cons hA
  obtain ⟨rfl, rfl, rfl⟩ := trodAll_nil r0
  obtain rfl : args = #[v0] := by cases args; simp_all
  obtain ⟨rfl, rfl⟩ := trodVars_none hV
  obtain ⟨x0, w0⟩ := arg_ev (hval 0 23 v0 rfl rfl) h0
  have lt0 : ∀ x ∈ p0, x.block < W.heap.size := by obtain ⟨m, hm⟩ := h0; exact DataW.trod_lt m _ _ _ hm
  clear hA0 hval0
  refine (walkIsEvent v0 x0 W w0).mono fun e W' ⟨he, bel⟩ => ?_
  subst he
  exact ⟨_, rfl, _, _, _, [], _, [], hW', trodAll_mk1 (shut_bool Try.underlying4 _), (trodAll_cons_mk (Below.trod Try.laidOut (by kernel_rfl) (of_decide_eq_true (by kernel_rfl)) h0 bel lt0) trodAll_mk0), rfl, bel.frame _, fun h => by cases h⟩

/-- THE STATEMENT. -/
theorem fnExactIsEvent_proved : Rows.FnExactIsEventSaid :=
  OpenClaim.holds_of_wide 3 Try.f3 rfl rfl rfl rfl rfl rfl rfl ⟨rfl, rfl, rfl, rfl, rfl⟩ rfl rfl rfl rfl rfl (by kernel_rfl) Try.func3 (by kernel_rfl)
    (of_decide_eq_true (by kernel_rfl)) (by unfold Func.isWrapper; first | (rw [if_pos (by decide +kernel)]; kernel_rfl) | (rw [if_neg (by decide +kernel)]; exact ⟨rfl, rfl⟩))
    (fun os started H enc _ => fnExactIsEvent_lifted os started H enc)
end Go.Proofs.Ytkhhkgjjhnplcaa
