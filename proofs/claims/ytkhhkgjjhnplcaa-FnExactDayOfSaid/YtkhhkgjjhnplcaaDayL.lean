/- The law FnExactDayOf: at every record the call answers true. No condition. -/
import Derived.Test.YtkhhkgjjhnplcaaDayOf
import Derived.Test.YtkhhkgjjhnplcaaEqRec
import Derived.Test.YtkhhkgjjhnplcaaFrame
namespace Go.Proofs.Ytkhhkgjjhnplcaa
set_option linter.unusedVariables false
open Go.ChangeShapes Go.WideShapes Go.ChangeAt Go.RowKit

set_option maxHeartbeats 2000000 in
theorem walkDayOf (v : Value) (x : Rec) (v1 : Value) (kd : Int) (W : World) (h : RecV W v x) (hk : v1 = .int .i64 kd ∧ inI kd) :
    Calls Try.prog 6 #[v, v1] W fun e w' => e = .returned (.bool true) ∧ Below W.heap.size W w' := by
  obtain ⟨rfl, hkd⟩ := hk
  obtain ⟨s, rfl, h1, hok⟩ := h
  have hV : ∀ W', Below W.heap.size W W' → RecV W' (.agg #[.int .i64 x.id, .int .i64 x.series, .int .i64 x.made, s]) x := fun W' hb => ⟨s, rfl, h1.below rEv_stable hb, hok⟩
  have HV := Lib.hid hV
  clear hV h1 hok
  by_cases hsz : (1048576 : Int) < x.evs.length
  · go_enter Try.func6, Try.ntmps6
    go_wp2_with fail
    have b1 := below_al (Below.refl W.heap.size W) (.cells #[.int .i64 x.id, .int .i64 x.series, .int .i64 x.made, s] 30 (0, 0))
    refine (szRecord_any _ x 1048576 _ (HV.out _ b1) (by omega) (by omega)).mono ?_
    rw [if_pos (by omega)]
    rintro e w1 ⟨rfl, b2⟩
    go_wp2_with fail
    go_ret
    exact ⟨rfl, below_chain b1 b2⟩
  · obtain ⟨n, b, hb⟩ : ∃ n b, dayRes x kd = (n, b) := ⟨_, _, rfl⟩
    have HB := Lib.hid hb
    clear hb
    go_enter Try.func6, Try.ntmps6
    go_wp2_with fail
    have b1 := below_al (Below.refl W.heap.size W) (.cells #[.int .i64 x.id, .int .i64 x.series, .int .i64 x.made, s] 30 (0, 0))
    refine (szRecord_any _ x 1048576 _ (HV.out _ b1) (by omega) (by omega)).mono ?_
    rw [if_neg (by omega)]
    rintro e w1 ⟨rfl, b2⟩
    have c0 := cell_kept (cell_new W _ _ 0 rfl) b2
    have c1 := cell_kept (cell_new W _ _ 1 rfl) b2
    have c2 := cell_kept (cell_new W _ _ 2 rfl) b2
    have c3 := cell_kept (cell_new W _ _ 3 rfl) b2
    replace b1 := below_chain b1 b2
    go_wp2_with fail
    refine (toRecord_any _ x _ (HV.out _ b1) (by omega)).mono ?_
    rintro e w2 ⟨v2, rfl, ho, b3⟩
    go_wp2_with fail
    refine (specDayOf_any _ x kd _ ho.toV n b HB.out).mono ?_
    rintro e w3 ⟨rfl, b4⟩
    have bb := below_chain b3 b4
    replace c0 := cell_kept c0 bb
    replace c1 := cell_kept c1 bb
    replace c2 := cell_kept c2 bb
    replace c3 := cell_kept c3 bb
    replace b1 := below_chain b1 bb
    clear ho b3 b4 bb b2
    go_wp2_with fail
    refine (toRecord_any _ x _ (HV.out _ b1) (by omega)).mono ?_
    rintro e w4 ⟨v4, rfl, ho, b3⟩
    obtain ⟨sx, rfl, hox, hokx⟩ := ho
    obtain ⟨sa, sn, sc, rfl⟩ := hox.1.slice
    have HOX := Lib.hid hox
    have HOKX := Lib.hid hokx
    clear hox hokx
    replace c0 := cell_kept c0 b3
    replace c1 := cell_kept c1 b3
    replace c2 := cell_kept c2 b3
    replace c3 := cell_kept c3 b3
    replace b1 := below_chain b1 b3
    go_wp2_with fail
    have hX : ∀ W', Below w4.heap.size w4 W' → RecV W' (.agg #[.int .i64 x.id, .int .i64 x.series, .int .i64 x.made, .slice sa sn sc]) x := fun W' hb => ⟨_, rfl, HOX.out.row.below rEv_stable hb, HOKX.out⟩
    have HX := Lib.hid hX
    clear hX
    have b4 := below_al (Below.refl w4.heap.size w4) (.cells #[.int .i64 x.id, .int .i64 x.series, .int .i64 x.made, .slice sa sn sc] 35 (0, 0))
    refine (implDayOf_any _ x kd _ (HX.out _ b4) n b hkd (by omega) HB.out).mono ?_
    rintro e w5 ⟨rfl, b5⟩
    have d0 := cell_kept (cell_new w4 _ _ 0 rfl) b5
    have d1 := cell_kept (cell_new w4 _ _ 1 rfl) b5
    have d2 := cell_kept (cell_new w4 _ _ 2 rfl) b5
    have d3 := cell_kept (cell_new w4 _ _ 3 rfl) b5
    replace b4 := below_chain b4 b5
    replace c0 := cell_kept c0 b4
    replace c1 := cell_kept c1 b4
    replace c2 := cell_kept c2 b4
    replace c3 := cell_kept c3 b4
    replace b1 := below_chain b1 b4
    have en : (n != n) = false := by simp
    have eb : (b != b) = false := by simp
    go_wp2_with fail
    go_region_held3 (fun w' => w'.cell? ⟨w4.heap.size, 0, none⟩ = some (.int .i64 x.id) ∧ w'.cell? ⟨w4.heap.size, 1, none⟩ = some (.int .i64 x.series) ∧ w'.cell? ⟨w4.heap.size, 2, none⟩ = some (.int .i64 x.made) ∧ w'.cell? ⟨w4.heap.size, 3, none⟩ = some (.slice sa sn sc) ∧ w'.cell? ⟨W.heap.size, 0, none⟩ = some (.int .i64 x.id) ∧ w'.cell? ⟨W.heap.size, 1, none⟩ = some (.int .i64 x.series) ∧ w'.cell? ⟨W.heap.size, 2, none⟩ = some (.int .i64 x.made) ∧ w'.cell? ⟨W.heap.size, 3, none⟩ = some s)
      (first | exact ⟨d0, d1, d2, d3, c0, c1, c2, c3⟩ | exact ⟨cell_keptd d0 b6, cell_keptd d1 b6, cell_keptd d2 b6, cell_keptd d3 b6, cell_keptd c0 b6, cell_keptd c1 b6, cell_keptd c2 b6, cell_keptd c3 b6⟩ | exact ⟨cell_kept (cell_keptd d0 b6) b7, cell_kept (cell_keptd d1 b6) b7, cell_kept (cell_keptd d2 b6) b7, cell_kept (cell_keptd d3 b6) b7, cell_kept (cell_keptd c0 b6) b7, cell_kept (cell_keptd c1 b6) b7, cell_kept (cell_keptd c2 b6) b7, cell_kept (cell_keptd c3 b6) b7⟩)
      (first | (go_at_call 16; refine (toRecord_any _ x _ (HV.out _ b1.drew) (by omega)).mono ?_; rintro e w6 ⟨v6, rfl, ho6, b6⟩; have HO6 := Lib.hid ho6; clear ho6) | (go_at_call 18; refine (eqRecord_any _ _ x x _ (HX.out _ (below_chain b4.drew b6)) HO6.out.toV).mono ?_; rw [decide_eq_true rfl]; rintro e w7 ⟨rfl, b7⟩))
    go_wp2_with fail
    go_ret
    exact ⟨rfl, below_chain (below_chain b1.drew b6) b7⟩

set_option maxRecDepth 100000 in
theorem fnExactDayOf_lifted (os : Os) (started : os.Started) (H : Type) (enc : TypeId × Value → H) :
    ReturnsInHanded {} Try.checked os 6 .any (Rows.fnExactDayOfSpec.pre6 enc Try.prog Try.f6 Rows.fnExactDayOfRow.domain false) (Rows.fnExactDayOfSpec.post enc Try.prog Try.f6 false true false false) := by
  refine returnsInHanded_of_change (C := Try.checked) Try.own started (by kernel_rfl) Try.func6
    (ChangeSpec.witness6 (enc := enc) (C := Try.checked) false ⟨#[], #[.agg #[.int .i64 0, .int .i64 0, .int .i64 0, .slice none 0 0], .int .i64 0], []⟩ 8 (by kernel_rfl) (by kernel_rfl) (by kernel_rfl) (by kernel_rfl)) ?_
  intro W base args ds gs before hval0 hW hcnd _
  have hval : ∀ (j : Nat) t v, Try.f6.params[j]? = some t → args[j]? = some v → Value.okWide Try.prog W .any base t v := hval0
  have hW' := hW
  obtain ⟨p, q, hA0, hV, rfl, hfz, hnd⟩ := hW
  have hA : DataW.TrodAll enc Try.prog W 0 (fun _ => true) true Try.f6.params.toList args.toList ds p := hA0
  rw [Try.params6] at hA hval
  obtain ⟨v0, vs0, d0, ds0, p0, q0, hargs, rfl, rfl, h0, r0⟩ := trodAll_cons hA
  obtain ⟨v1, vs1, d1, ds1, p1, q1, rfl, rfl, rfl, h1, r1⟩ := trodAll_cons r0
  obtain ⟨rfl, rfl, rfl⟩ := trodAll_nil r1
  obtain rfl : args = #[v0, v1] := by cases args; simp_all
  obtain ⟨rfl, rfl⟩ := trodVars_none hV
  obtain ⟨x0, w0⟩ := arg_rec (hval 0 30 v0 rfl rfl) h0
  have lt0 : ∀ x ∈ p0, x.block < W.heap.size := by obtain ⟨m, hm⟩ := h0; exact DataW.trod_lt m _ _ _ hm
  obtain ⟨x1, w1⟩ := arg_int (hval 1 3 v1 rfl rfl) h1
  have lt1 : ∀ x ∈ p1, x.block < W.heap.size := by obtain ⟨m, hm⟩ := h1; exact DataW.trod_lt m _ _ _ hm
  clear hA0 hval0
  refine (walkDayOf v0 x0 v1 x1 W w0 w1).mono fun e W' ⟨he, bel⟩ => ?_
  subst he
  exact ⟨_, rfl, _, _, _, [], _, [], hW', trodAll_mk1 (shut_bool Try.underlying4 _), (trodAll_cons_mk (Below.trod Try.laidOut (by kernel_rfl) (of_decide_eq_true (by kernel_rfl)) h0 bel lt0) (trodAll_cons_mk (Below.trod Try.laidOut (by kernel_rfl) (of_decide_eq_true (by kernel_rfl)) h1 bel lt1) trodAll_mk0)), rfl, bel.frame _, fun h => by cases h⟩

/-- THE STATEMENT. -/
theorem fnExactDayOf_proved : Rows.FnExactDayOfSaid :=
  OpenClaim.holds_of_wide 6 Try.f6 rfl rfl rfl rfl rfl rfl rfl ⟨rfl, rfl, rfl, rfl, rfl⟩ rfl rfl rfl rfl rfl (by kernel_rfl) Try.func6 (by kernel_rfl)
    (of_decide_eq_true (by kernel_rfl)) (by unfold Func.isWrapper; first | (rw [if_pos (by decide +kernel)]; kernel_rfl) | (rw [if_neg (by decide +kernel)]; exact ⟨rfl, rfl⟩))
    (fun os started H enc _ => fnExactDayOf_lifted os started H enc)
end Go.Proofs.Ytkhhkgjjhnplcaa
