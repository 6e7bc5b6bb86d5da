/- The law FnExactIsClerk: at every clerk the call answers true. No condition. -/
import Derived.Test.YtdlbmoeogdjnkaaCkI
import Derived.Test.YtdlbmoeogdjnkaaCkS
import Derived.Test.YtdlbmoeogdjnkaaToCk
import Derived.Test.YtdlbmoeogdjnkaaEqCk
import Derived.Test.YtdlbmoeogdjnkaaFrame
namespace Go.Proofs.Ytdlbmoeogdjnkaa
set_option linter.unusedVariables false
open Go.ChangeShapes Go.WideShapes Go.ChangeAt Go.RowKit

theorem walkIsClerk (v : Value) (x : Ck) (w : World) (h : CkV w v x) :
    Calls Try.prog 3 #[v] w fun e w' => e = .returned (.bool true) ∧ Below w.heap.size w w' := by
  obtain ⟨rfl, hok⟩ := h
  have HOK := Lib.hid hok
  by_cases hz : (1048576 : Int) < sz1Ck x
  · go_enter Try.func3, Try.ntmps3
    go_wp2_with fail
    refine (szCk_one _ x 1048576 _ ⟨rfl, HOK.out⟩ (by omega) (by omega)).mono ?_
    rw [if_pos hz]
    rintro e w1 ⟨rfl, b1⟩
    go_wp2_with fail
    go_ret
    exact ⟨rfl, below_chain (below_al (Below.refl _ _) _) b1⟩
  · obtain ⟨b, hb⟩ : ∃ b, ckOne x = b := ⟨_, rfl⟩
    have HS := fun W => specIsClerk_any x W hok.2.1
    have HI := fun W => implCk_any x W hok.2.1
    rw [hb] at HS HI
    clear hok
    cases b
    all_goals
      go_enter Try.func3, Try.ntmps3
      go_wp2_with fail
      refine (szCk_one _ x 1048576 _ ⟨rfl, HOK.out⟩ (by omega) (by omega)).mono ?_
      rw [if_neg (by omega)]
      rintro e w0 ⟨rfl, b0⟩
      have c0 := cell_kept (cell_new w _ _ 0 rfl) b0
      have c1 := cell_kept (cell_new w _ _ 1 rfl) b0
      have c2 := cell_kept (cell_new w _ _ 2 rfl) b0
      have c3 := cell_kept (cell_new w _ _ 3 rfl) b0
      have c4 := cell_kept (cell_new w _ _ 4 rfl) b0
      have c5 := cell_kept (cell_new w _ _ 5 rfl) b0
      go_wp2_with fail
      refine (toCk_any x _).mono ?_
      rintro e w1 ⟨rfl, b1⟩
      replace c0 := cell_kept c0 b1
      replace c1 := cell_kept c1 b1
      replace c2 := cell_kept c2 b1
      replace c3 := cell_kept c3 b1
      replace c4 := cell_kept c4 b1
      replace c5 := cell_kept c5 b1
      go_wp2_with fail
      refine (HS _).mono ?_
      rintro e w2 ⟨rfl, b2⟩
      replace c0 := cell_kept c0 b2
      replace c1 := cell_kept c1 b2
      replace c2 := cell_kept c2 b2
      replace c3 := cell_kept c3 b2
      replace c4 := cell_kept c4 b2
      replace c5 := cell_kept c5 b2
      go_wp2_with fail
      refine (toCk_any x _).mono ?_
      rintro e w3 ⟨rfl, b3⟩
      go_wp2_with fail
      refine (HI _).mono ?_
      rintro e w4 ⟨rfl, b4⟩
      go_wp2_with fail
      go_ret
      exact ⟨rfl, below_chain (below_chain (below_chain (below_chain (below_chain (below_al (Below.refl _ _) _) b0) b1) b2) b3) b4⟩

set_option maxRecDepth 100000 in
theorem fnExactIsClerk_lifted (os : Os) (started : os.Started) (H : Type) (enc : TypeId × Value → H) :
    ReturnsInHanded {} Try.checked os 3 .any (Rows.fnExactIsClerkSpec.pre6 enc Try.prog Try.f3 Rows.fnExactIsClerkRow.domain false) (Rows.fnExactIsClerkSpec.post enc Try.prog Try.f3 false true false false) := by
  refine returnsInHanded_of_change (C := Try.checked) Try.own started (by kernel_rfl) Try.func3
    (ChangeSpec.witness6 (enc := enc) (C := Try.checked) false ⟨#[], #[.agg #[.int .i64 0, .string ByteArray.empty, .int .i64 0, .int .i64 0, .int .i64 0, .int .i64 0]], []⟩ 8 (by kernel_rfl) (by kernel_rfl) (by kernel_rfl) (by kernel_rfl)) ?_
  intro W base args ds gs before hval0 hW hcnd _
  have hval : ∀ (j : Nat) t v, Try.f3.params[j]? = some t → args[j]? = some v → Value.okWide Try.prog W .any base t v := hval0
  have hW' := hW
  obtain ⟨p, q, hA0, hV, rfl, hfz, hnd⟩ := hW
  have hA : DataW.TrodAll enc Try.prog W 0 (fun _ => true) true Try.f3.params.toList args.toList ds p := hA0
  rw [Try.params3] at hA hval
  obtain ⟨v0, vs0, d0, ds0, p0, q0, hargs, rfl, rfl, h0, r0⟩ := trodAll_cons hA
  obtain ⟨rfl, rfl, rfl⟩ := trodAll_nil r0
  obtain rfl : args = #[v0] := by cases args; simp_all
  obtain ⟨rfl, rfl⟩ := trodVars_none hV
  obtain ⟨x0, w0⟩ := arg_ck (hval 0 23 v0 rfl rfl) h0
  have lt0 : ∀ x ∈ p0, x.block < W.heap.size := by obtain ⟨m, hm⟩ := h0; exact DataW.trod_lt m _ _ _ hm
  clear hA0 hval0
  refine (walkIsClerk v0 x0 W w0).mono fun e W' ⟨he, bel⟩ => ?_
  subst he
  exact ⟨_, rfl, _, _, _, [], _, [], hW', trodAll_mk1 (shut_bool Try.underlying4 _), (trodAll_cons_mk (Below.trod Try.laidOut (by kernel_rfl) (of_decide_eq_true (by kernel_rfl)) h0 bel lt0) trodAll_mk0), rfl, bel.frame _, fun h => by cases h⟩

/-- THE STATEMENT. -/
theorem fnExactIsClerk_proved : Rows.FnExactIsClerkSaid :=
  OpenClaim.holds_of_wide 3 Try.f3 rfl rfl rfl rfl rfl rfl rfl ⟨rfl, rfl, rfl, rfl, rfl⟩ rfl rfl rfl rfl rfl (by kernel_rfl) Try.func3 (by kernel_rfl)
    (of_decide_eq_true (by kernel_rfl)) (by unfold Func.isWrapper; first | (rw [if_pos (by decide +kernel)]; kernel_rfl) | (rw [if_neg (by decide +kernel)]; exact ⟨rfl, rfl⟩))
    (fun os started H enc _ => fnExactIsClerk_lifted os started H enc)
end Go.Proofs.Ytdlbmoeogdjnkaa
