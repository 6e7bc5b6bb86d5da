/- The law FnExactLongestPeriod: at every argument the call answers true. No condition. -/
import Derived.Test.YtpcdjpkcalbpkaaRuAct
import Derived.Test.YtpcdjpkcalbpkaaEqRu
namespace Go.Proofs.Ytpcdjpkcalbpkaa
set_option linter.unusedVariables false
open Go.ChangeShapes Go.WideShapes Go.ChangeAt Go.RowKit

set_option maxHeartbeats 4000000 in
theorem walkLongestPeriod (v : Value) (x : List Ru) (v1 : Value) (sr : Int) (W : World) (h : RowR 4 rRu W v x) (h1 : v1 = .int .i64 sr ∧ inI sr) :
    Calls Try.prog 7 #[v, v1] W fun e w' => e = .returned (.bool true) ∧ Below W.heap.size W w' := by
  obtain ⟨rfl, k1⟩ := h1
  have H := Lib.hid h
  clear h
  obtain ⟨c, b, hb⟩ : ∃ c b, lonRes x sr = (c, b) := ⟨_, _, rfl⟩
  have HB := Lib.hid hb
  clear hb
  have eb_c : (c != c) = false := by simp
  have eb_b : (b != b) = false := by simp
  go_enter Try.func7, Try.ntmps7
  go_wp2_with fail
  refine (szRuS_any _ x 1048576 _ H.out (by omega) (by omega)).mono ?_
  rintro e w1 ⟨n, rfl, hfit, hn, hnl, b1⟩
  have HN := Lib.hid hn
  have HFIT := Lib.hid hfit
  clear hn hfit
  by_cases hneg : n < 0
  · go_wp2_with fail
    go_ret
    exact ⟨rfl, b1⟩
  · have hsz : x.length ≤ 1048576 := by have := HFIT.out; omega
    go_wp2_with fail
    refine (toRuS_some _ x _ (H.out.below rRu_stable b1) (by omega)).mono ?_
    rintro e w2 ⟨v2, rfl, ho2, b2, hsm2⟩
    replace b1 := below_chain b1 b2
    have hsm : ∃ ad c, v2 = .slice (some ad) x.length c := by obtain ⟨g, c, e⟩ := hsm2; exact ⟨_, _, e⟩
    clear hsm2
    go_wp2_with fail
    refine (specLongestPeriod_any _ x sr _ ho2.row (by omega) c b HB.out).mono ?_
    rintro e w3 ⟨rfl, b3⟩
    replace b1 := below_chain b1 b3
    have b3' := b1.size
    clear ho2 b2 b3 hsm
    go_wp2_with fail
    refine (toRuS_any _ x _ (H.out.below rRu_stable b1) (by omega)).mono ?_
    rintro e w4 ⟨v4, rfl, ho4, b4⟩
    replace b1 := below_chain b1 b4
    have s34 := b4.size
    clear b4
    go_wp2_with fail
    refine (implLongestPeriod_any _ x sr _ ho4.row (by omega) c b HB.out).mono ?_
    rintro e w5 ⟨rfl, b5⟩
    replace b1 := below_chain b1 b5
    have hx4 := ho4.row.below rRu_stable b5
    have HX4 := Lib.hid hx4
    have HO4 := Lib.hid ho4
    clear ho4 hx4
    go_wp2_with fail
    refine (toRuS_any _ x _ (H.out.below rRu_stable b1) (by omega)).mono ?_
    rintro e w7 ⟨v7, rfl, ho7, b67⟩
    go_wp2_with fail
    refine (eqRuS_any _ _ x x _ (HX4.out.below rRu_stable b67) ho7.row).mono ?_
    rw [decide_eq_true rfl]
    rintro e w8 ⟨rfl, b8⟩
    go_wp2_with fail
    go_ret
    exact ⟨rfl, below_chain b1 (below_chain b67 b8)⟩

set_option maxRecDepth 100000 in
theorem fnExactLongestPeriod_lifted (os : Os) (started : os.Started) (H : Type) (enc : TypeId × Value → H) :
    ReturnsInHanded {} Try.checked os 7 .any (Rows.fnExactLongestPeriodSpec.pre6 enc Try.prog Try.f7 Rows.fnExactLongestPeriodRow.domain false) (Rows.fnExactLongestPeriodSpec.post enc Try.prog Try.f7 false true false false) := by
  refine returnsInHanded_of_change (C := Try.checked) Try.own started (by kernel_rfl) Try.func7
    (ChangeSpec.witness6 (enc := enc) (C := Try.checked) false ⟨#[], #[.slice none 0 0, .int .i64 0], []⟩ 8 (by kernel_rfl) (by kernel_rfl) (by kernel_rfl) (by kernel_rfl)) ?_
  intro W base args ds gs before hval0 hW hcnd _
  have hval : ∀ (j : Nat) t v, Try.f7.params[j]? = some t → args[j]? = some v → Value.okWide Try.prog W .any base t v := hval0
  have hW' := hW
  obtain ⟨p, q, hA0, hV, rfl, hfz, hnd⟩ := hW
  have hA : DataW.TrodAll enc Try.prog W 0 (fun _ => true) true Try.f7.params.toList args.toList ds p := hA0
  rw [Try.params7] at hA hval
  obtain ⟨v0, vs0, d0, ds0, p0, q0, hargs, rfl, rfl, h0, r0⟩ := trodAll_cons hA
  obtain ⟨v1, vs1, d1, ds1, p1, q1, rfl, rfl, rfl, h1, r1⟩ := trodAll_cons r0
  obtain ⟨rfl, rfl, rfl⟩ := trodAll_nil r1
  obtain rfl : args = #[v0, v1] := by cases args; simp_all
  obtain ⟨rfl, rfl⟩ := trodVars_none hV
  obtain ⟨x0, w0⟩ := arg_rus (hval 0 28 v0 rfl rfl) h0
  have lt0 : ∀ x ∈ p0, x.block < W.heap.size := by obtain ⟨m, hm⟩ := h0; exact DataW.trod_lt m _ _ _ hm
  obtain ⟨x1, w1⟩ := arg_int (hval 1 3 v1 rfl rfl) h1
  have lt1 : ∀ x ∈ p1, x.block < W.heap.size := by obtain ⟨m, hm⟩ := h1; exact DataW.trod_lt m _ _ _ hm
  clear hA0 hval0
  refine (walkLongestPeriod v0 x0 v1 x1 W w0 w1).mono fun e W' ⟨he, bel⟩ => ?_
  subst he
  exact ⟨_, rfl, _, _, _, [], _, [], hW', trodAll_mk1 (shut_bool Try.underlying4 _), (trodAll_cons_mk (Below.trod Try.laidOut (by kernel_rfl) (of_decide_eq_true (by kernel_rfl)) h0 bel lt0) (trodAll_cons_mk (Below.trod Try.laidOut (by kernel_rfl) (of_decide_eq_true (by kernel_rfl)) h1 bel lt1) trodAll_mk0)), rfl, bel.frame _, fun h => by cases h⟩

/-- THE STATEMENT. -/
theorem fnExactLongestPeriod_proved : Rows.FnExactLongestPeriodSaid :=
  OpenClaim.holds_of_wide 7 Try.f7 rfl rfl rfl rfl rfl rfl rfl ⟨rfl, rfl, rfl, rfl, rfl⟩ rfl rfl rfl rfl rfl (by kernel_rfl) Try.func7 (by kernel_rfl)
    (of_decide_eq_true (by kernel_rfl)) (by unfold Func.isWrapper; first | (rw [if_pos (by decide +kernel)]; kernel_rfl) | (rw [if_neg (by decide +kernel)]; exact ⟨rfl, rfl⟩))
    (fun os started H enc _ => fnExactLongestPeriod_lifted os started H enc)
end Go.Proofs.Ytpcdjpkcalbpkaa
