/- The law FnExactIsRule: at every rule the call answers true. No condition. -/
import Derived.Test.YtpcdjpkcalbpkaaRuS
import Derived.Test.YtpcdjpkcalbpkaaRuI
import Derived.Test.YtpcdjpkcalbpkaaFrame
namespace Go.Proofs.Ytpcdjpkcalbpkaa
set_option linter.unusedVariables false
open Go.ChangeShapes Go.WideShapes Go.ChangeAt Go.RowKit

theorem walkIsRule (v : Value) (x : Ru) (w : World) (h : RuV w v x) :
    Calls Try.prog 3 #[v] w fun e w' => e = .returned (.bool true) ∧ Below w.heap.size w w' := by
  obtain ⟨rfl, hok⟩ := h
  obtain ⟨b, hb⟩ : ∃ b, isRu x = b := ⟨_, rfl⟩
  have HS := fun W => specIsRule_any x W
  have HI := fun W => implIsRule_any x W
  rw [hb] at HS HI
  clear hok
  cases b
  all_goals
    go_enter Try.func3, Try.ntmps3
    go_wp2_with fail
    have c0 := cell_new w #[.int .i64 x.series, .int .i64 x.event, .int .i64 x.days, .int .i64 x.act] 23 0 rfl
    have c1 := cell_new w #[.int .i64 x.series, .int .i64 x.event, .int .i64 x.days, .int .i64 x.act] 23 1 rfl
    have c2 := cell_new w #[.int .i64 x.series, .int .i64 x.event, .int .i64 x.days, .int .i64 x.act] 23 2 rfl
    have c3 := cell_new w #[.int .i64 x.series, .int .i64 x.event, .int .i64 x.days, .int .i64 x.act] 23 3 rfl
    refine (toRu_any x _).mono ?_
    rintro e w1 ⟨rfl, b1⟩
    replace c0 := cell_kept c0 b1
    replace c1 := cell_kept c1 b1
    replace c2 := cell_kept c2 b1
    replace c3 := cell_kept c3 b1
    go_wp2_with fail
    refine (HS _).mono ?_
    rintro e w2 ⟨rfl, b2⟩
    replace c0 := cell_kept c0 b2
    replace c1 := cell_kept c1 b2
    replace c2 := cell_kept c2 b2
    replace c3 := cell_kept c3 b2
    go_wp2_with fail
    refine (toRu_any x _).mono ?_
    rintro e w3 ⟨rfl, b3⟩
    go_wp2_with fail
    refine (HI _).mono ?_
    rintro e w4 ⟨rfl, b4⟩
    go_wp2_with fail
    go_ret
    exact ⟨rfl, below_chain (below_chain (below_chain (below_chain (below_al (Below.refl _ _) _) b1) b2) b3) b4⟩

set_option maxRecDepth 100000 in
theorem fnExactIsRule_lifted (os : Os) (started : os.Started) (H : Type) (enc : TypeId × Value → H) :
    ReturnsInHanded {} Try.checked os 3 .any (Rows.fnExactIsRuleSpec.pre6 enc Try.prog Try.f3 Rows.fnExactIsRuleRow.domain false) (Rows.fnExactIsRuleSpec.post enc Try.prog Try.f3 false true false false) := by
  refine returnsInHanded_of_change (C := Try.checked) Try.own started (by kernel_rfl) Try.func3
    (ChangeSpec.witness6 (enc := enc) (C := Try.checked) false ⟨#[], #[.agg #[.int .i64 0, .int .i64 0, .int .i64 0, .int .i64 0]], []⟩ 8 (by kernel_rfl) (by kernel_rfl) (by kernel_rfl) (by kernel_rfl)) ?_
  intro W base args ds gs before hval0 hW hcnd _
  have hval : ∀ (j : Nat) t v, Try.f3.params[j]? = some t → args[j]? = some v → Value.okWide Try.prog W .any base t v := hval0
  have hW' := hW
  obtain ⟨p, q, hA0, hV, rfl, hfz, hnd⟩ := hW
  have hA : DataW.TrodAll enc Try.prog W 0 (fun _ => true) true Try.f3.params.toList args.toList ds p := hA0
  rw [Try.params3] at hA hval
  obtain ⟨v0, vs0, d0, ds0, p0, q0, hargs, rfl, rfl, h0, r0⟩ := trodAll_cons hA
  obtain ⟨rfl, rfl, rfl⟩ := trodAll_nil r0
  obtain rfl : args = #[v0] := by cases args; simp_all
  obtain ⟨rfl, rfl⟩ := trodVars_none hV
  obtain ⟨x0, w0⟩ := arg_ru (hval 0 23 v0 rfl rfl) h0
  have lt0 : ∀ x ∈ p0, x.block < W.heap.size := by obtain ⟨m, hm⟩ := h0; exact DataW.trod_lt m _ _ _ hm
  clear hA0 hval0
  refine (walkIsRule v0 x0 W w0).mono fun e W' ⟨he, bel⟩ => ?_
  subst he
  exact ⟨_, rfl, _, _, _, [], _, [], hW', trodAll_mk1 (shut_bool Try.underlying4 _), (trodAll_cons_mk (Below.trod Try.laidOut (by kernel_rfl) (of_decide_eq_true (by kernel_rfl)) h0 bel lt0) trodAll_mk0), rfl, bel.frame _, fun h => by cases h⟩

/-- THE STATEMENT. -/
theorem fnExactIsRule_proved : Rows.FnExactIsRuleSaid :=
  OpenClaim.holds_of_wide 3 Try.f3 rfl rfl rfl rfl rfl rfl rfl ⟨rfl, rfl, rfl, rfl, rfl⟩ rfl rfl rfl rfl rfl (by kernel_rfl) Try.func3 (by kernel_rfl)
    (of_decide_eq_true (by kernel_rfl)) (by unfold Func.isWrapper; first | (rw [if_pos (by decide +kernel)]; kernel_rfl) | (rw [if_neg (by decide +kernel)]; exact ⟨rfl, rfl⟩))
    (fun os started H enc _ => fnExactIsRule_lifted os started H enc)
end Go.Proofs.Ytpcdjpkcalbpkaa
