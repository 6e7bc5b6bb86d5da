/- The table of steps out of what a row's list says of it. -/
import Derived.Test.YtpbjddiopfkgbaaDoorStepFi
import Derived.Test.YtpbjddiopfkgbaaDoorFrame
import Derived.Test.YtpbjddiopfkgbaaDoorArg
import Derived.Lib.LaidTab
import Derived.OpenVars
namespace Go.Proofs.YtpbjddiopfkgbaaDoor
set_option linter.unusedVariables false
open Go.RowKit Go.ChangeShapes Go.WideShapes Go.Deep

/-- An array of pairs of integers that reads as a table of pairs holds the table's numbers, cell for cell. -/
theorem cells_of_pairs {H : Type} {enc : TypeId × Value → H} {P : Program} {w : World} {base : Nat} {sp : Nat → Bool} {held : Bool} {fuel : Nat} {t e ti : TypeId} {n : Nat} {f0 f1 : Field} {cs : List Value} {zs : List (Int × Int)} {p : List MemPlace}
    (ht : P.underlying t = some (.array n e)) (he : P.underlying e = some (.struct #[f0, f1])) (o0 : f0.offset = 0) (o1 : f1.offset = 1) (t0 : f0.type = ti) (t1 : f1.type = ti) (hi : P.underlying ti = some (.int .i64)) (hci : P.cellsOf ti = 1) (hce : P.cellsOf e = 2) (hct : P.cellsOf t = n * 2)
    (h : DataW.trod enc P w base sp held fuel t cs = some (.agg (zs.map fun z => .agg [.lit (.int .i64 z.1), .lit (.int .i64 z.2)]), p)) :
    zs.length = n ∧ ∀ i (hl : i < zs.length), cs[i * 2]? = some (.int .i64 zs[i].1) ∧ cs[i * 2 + 1]? = some (.int .i64 zs[i].2) := by
  cases fuel with
  | zero => simp [DataW.trod] at h
  | succ fuel =>
    simp only [DataW.trod, ht, hce, hct] at h
    split at h
    · rename_i hl
      obtain ⟨xs, hm, hx⟩ := Option.map_eq_some_iff.1 h
      have hxs : xs.map (·.1) = zs.map fun z => (DataW.agg [.lit (.int .i64 z.1), .lit (.int .i64 z.2)] : DataW H) := by
        have := congrArg Prod.fst hx
        simpa using this
      have hxl : xs.length = n := by simpa using Lib.mapM_length hm
      have hzl : zs.length = n := by
        have := congrArg List.length hxs
        simp at this
        omega
      refine ⟨hzl, fun i hi' => ?_⟩
      have hr : (List.range n)[i]? = some i := by rw [List.getElem?_range (by omega)]
      obtain ⟨b, hb, hf⟩ := Lib.mapM_at hm i i hr
      have h2 : (xs.map (·.1))[i]? = some b.1 := by simp [hb]
      rw [hxs, List.getElem?_map, List.getElem?_eq_getElem hi', Option.map_some, Option.some.injEq] at h2
      cases fuel with
      | zero => simp [DataW.trod] at hf
      | succ fuel =>
        simp only [DataW.trod, he, hce] at hf
        split at hf
        · obtain ⟨ys, hy, hz⟩ := Option.map_eq_some_iff.1 hf
          have hys : ys.map (·.1) = [DataW.lit (.int .i64 zs[i].1), DataW.lit (.int .i64 zs[i].2)] := by
            have := congrArg Prod.fst hz
            simp only at this
            rw [← h2] at this
            simpa using this
          obtain ⟨c0, hc0, hg0⟩ := Lib.mapM_at hy 0 f0 rfl
          obtain ⟨c1, hc1, hg1⟩ := Lib.mapM_at hy 1 f1 rfl
          rw [o0, t0, hci] at hg0
          rw [o1, t1, hci] at hg1
          obtain ⟨a0, e0, r0, _⟩ := DataW.trod_int hi hg0
          obtain ⟨a1, e1, r1, _⟩ := DataW.trod_int hi hg1
          have k0 : (ys.map (·.1))[0]? = some c0.1 := by simp [hc0]
          have k1 : (ys.map (·.1))[1]? = some c1.1 := by simp [hc1]
          rw [hys, r0] at k0
          rw [hys, r1] at k1
          simp at k0 k1
          subst k0 k1
          have d0 := congrArg (·[0]?) e0
          have d1 := congrArg (·[0]?) e1
          simp [List.getElem?_drop] at d0 d1
          exact ⟨d0, d1⟩
        · cases hf
    · cases h

abbrev stepPairs : List (Int × Int) := [(0, 0), (0, 1), (1, 0), (1, 2), (2, 1)]
theorem gSteps : Tryd.prog.globalNamed "loop.example/g01035/impl.fileSteps" = some 0 := by kernel_rfl
theorem steps_met {W : World} (h : laidMet Tryd.prog [("loop.example/g01035/impl.fileSteps", .agg [.agg [.lit (.int .i64 0), .lit (.int .i64 0)], .agg [.lit (.int .i64 0), .lit (.int .i64 1)], .agg [.lit (.int .i64 1), .lit (.int .i64 0)], .agg [.lit (.int .i64 1), .lit (.int .i64 2)], .agg [.lit (.int .i64 2), .lit (.int .i64 1)]])] W) : Steps W := by
  obtain ⟨ps, ⟨g', t', cs, fuel, p, q, hg', ht', hvar, hd, _, _⟩, _⟩ := h
  obtain rfl := Option.some.inj (gSteps.symm.trans hg')
  obtain rfl := Option.some.inj ((show (Tryd.prog.globals[0]?).map (·.type) = some 100 by kernel_rfl).symm.trans ht')
  obtain ⟨hl, hc⟩ := cells_of_pairs (zs := stepPairs) Tryd.underlying100 Tryd.underlying99 rfl rfl rfl rfl Tryd.underlying3 (by kernel_rfl) (by kernel_rfl) (by kernel_rfl) hd
  have key : ∀ i, W.cell? ⟨0, i, none⟩ = cs.toList[i]? := fun i => by rw [World.var?_cell gSteps hvar i]; simp
  intro i hi
  rw [key]
  have h0 := hc 0 (by decide)
  have h1 := hc 1 (by decide)
  have h2 := hc 2 (by decide)
  have h3 := hc 3 (by decide)
  have h4 := hc 4 (by decide)
  have hlt : i < 10 := hi
  have : i = 0 ∨ i = 1 ∨ i = 2 ∨ i = 3 ∨ i = 4 ∨ i = 5 ∨ i = 6 ∨ i = 7 ∨ i = 8 ∨ i = 9 := by omega
  rcases this with rfl | rfl | rfl | rfl | rfl | rfl | rfl | rfl | rfl | rfl
  · exact h0.1
  · exact h0.2
  · exact h1.1
  · exact h1.2
  · exact h2.1
  · exact h2.2
  · exact h3.1
  · exact h3.2
  · exact h4.1
  · exact h4.2
end Go.Proofs.YtpbjddiopfkgbaaDoor
