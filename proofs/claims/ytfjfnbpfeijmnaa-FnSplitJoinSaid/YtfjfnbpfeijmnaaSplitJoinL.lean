/- The law FnSplitJoin: whatever bytes it is handed, the call answers true. No condition. -/
import Derived.Test.YtfjfnbpfeijmnaaSplitJoin
namespace Go.Proofs.Ytfjfnbpfeijmnaa
set_option linter.unusedVariables false
open Go.ChangeShapes Go.WideShapes Go.ChangeAt Go.RowKit
open Go.ChangeMaps (open_string shut_string)

theorem vBig_any (a : Option Addr) (len cap : Nat) (w : World) (b : Bool) (hb : decide ((65536 : Int) < (len : Int)) = b) (hl : len ≤ 9223372036854775807) :
    Calls Try.prog 8 #[.slice a len cap] w fun e w' => e = .returned (.bool b) ∧ w = w' := by
  have HB := Lib.hid hb
  clear hb
  go_enter Try.func8, Try.ntmps8
  go_wp2
  go_ret
  exact ⟨ret_bool HB.out, rfl⟩

/-- What came in is still there in every later world. -/
theorem IsRow.later {k : IntKind} {w w' : World} {a : Option Addr} {len cap : Nat} {zs : List Int} (h : IsRow k w a len cap zs) (hb : Below w.heap.size w w') : IsRow k w' a len cap zs := by
  refine h.imp id ?_
  rintro ⟨x, rfl, hl, hm, hz, hc, hw⟩
  refine ⟨x, rfl, hl, hm, hz, fun i hi => ?_, hw⟩
  have := hc i hi
  exact (hb.cell (World.block_lt_of_cell? w _ this)).trans this
theorem IsRow.len_le {k : IntKind} {w : World} {a : Option Addr} {len cap : Nat} {zs : List Int} (h : IsRow k w a len cap zs) : len ≤ 9223372036854775807 := by
  rcases h with ⟨rfl, rfl, rfl, rfl⟩ | ⟨x, rfl, hl, hm, _⟩
  · omega
  · unfold maxLen at hm; omega

set_option maxHeartbeats 4000000 in
theorem walkSplitJoin (a : Option Addr) (len cap : Nat) (zs : List Int) (w : World) (hi : IsRow .u8 w a len cap zs) :
    Calls Try.prog 3 #[.slice a len cap] w fun e w' => e = .returned (.bool true) ∧ Below w.heap.size w w' := by
  have HI := Lib.hid hi
  have hll := hi.len_le
  clear hi
  by_cases hbig : 65536 < len
  · go_enter Try.func3, Try.ntmps3
    go_wp2_with fail
    refine (vBig_any a len cap _ true (by simp; omega) hll).mono ?_
    rintro e w' ⟨rfl, rfl⟩
    go_wp2
    go_ret
    exact ⟨rfl, Below.refl _ _⟩
  · go_enter Try.func3, Try.ntmps3
    go_wp2_with fail
    refine (vBig_any a len cap _ false (by simp; omega) hll).mono ?_
    rintro e w' ⟨rfl, rfl⟩
    go_wp2_with fail
    refine (drawSplit_any a len cap zs _ HI.out (by omega)).mono ?_
    rintro e w1 ⟨s, sep, rfl, hs, hsep, hb1⟩
    have hsj := split_join s sep hs hsep
    have HI1 := Lib.hid (HI.out.later hb1)
    have z1 := hb1.size
    have hjoin : ∀ (w2 : World) (l : Value) (b : Bool), (∃ (n : Nat) (ss : List ByteArray), ss.length ≤ 4001 ∧ w2.ownsRow w1.heap.size 9 1 l ss.length (ss.map Value.string)) → True := fun _ _ _ _ => trivial
    clear hjoin
    rcases hsj with ⟨h1, ss, hsl, hSp, hJn⟩ | ⟨h1, hSp⟩
    · have hx : ((sep.size : Int) != 1) = false := by simp [h1]
      have HSP := Lib.hid hSp
      have HJN := Lib.hid hJn
      clear hSp hJn h1
      go_wp2_with fail
      refine (HSP.out _).mono ?_
      rintro e w2 ⟨l, rfl, ho2, hb2⟩
      have z2 := hb2.size
      have R2 := RowOf.of_owns ho2
      have HI2 := Lib.hid (HI1.out.later hb2)
      clear ho2
      go_wp2_with fail
      refine (drawJoin_any a len cap zs _ HI2.out (by omega)).mono ?_
      rintro e w3 ⟨v, kk, mark, rfl, hkl, hks, hmk, ho3, hb3⟩
      have z3 := hb3.size
      have R3 := RowOf.of_owns ho3
      have R23 := R2.below hb3
      have HI3 := Lib.hid (HI2.out.later hb3)
      clear ho3
      obtain ⟨J, b, hS, hI⟩ := join_both kk mark (fun x hx => Nat.le_trans (hks x hx) (by omega)) (by omega) (by unfold maxLen; omega)
      have HS := Lib.hid hS
      have HIm := Lib.hid hI
      clear hS hI hks
      go_wp2_with fail
      refine (HIm.out v _ R3).mono ?_
      rintro e w4 ⟨rfl, hb4⟩
      have z4 := hb4.size
      have R4 := R3.below hb4
      have R24 := R23.below hb4
      have HI4 := Lib.hid (HI3.out.later hb4)
      go_wp2_with fail
      refine (HS.out v _ R4).mono ?_
      rintro e w5 ⟨rfl, hb5⟩
      have z5 := hb5.size
      have R25 := R24.below hb5
      have HI5 := Lib.hid (HI4.out.later hb5)
      go_wp2_with fail
      refine (drawLess_any a len cap zs _ HI5.out (by omega)).mono ?_
      rintro e w6 ⟨x, y, rfl, _, _, hb6⟩
      have z6 := hb6.size
      have R26 := R25.below hb6
      obtain ⟨p, hp⟩ : ∃ p, lessB x y = p := ⟨_, rfl⟩
      obtain ⟨q, hq⟩ : ∃ q, lessB y x = q := ⟨_, rfl⟩
      have HP := Lib.hid hp
      have HQ := Lib.hid hq
      have hpq : p = true → q = false := fun h => by rw [← hq]; exact bytesLess_asymm _ _ (by have := hp; rw [h] at this; exact this)
      clear hp hq
      have hfin : ∀ w7, Below w6.heap.size w6 w7 → Below w.heap.size w w7 := fun w7 h7 => hb1.trans ((hb2.mono z1).trans ((hb3.mono (by omega)).trans ((hb4.mono (by omega)).trans ((hb5.mono (by omega)).trans ((hb6.mono (by omega)).trans (h7.mono (by omega)))))))
      have HF := Lib.hid hfin
      clear hfin hb1 hb2 hb3 hb4 hb5 hb6
      go_wp2_with fail
      refine (less_impl x y p HP.out _).mono ?_
      rintro e w' ⟨rfl, rfl⟩
      go_wp2_with fail
      refine (less_specs x y p HP.out _).mono ?_
      rintro e w' ⟨rfl, rfl⟩
      go_wp2_with fail
      refine (less_impl x y p HP.out _).mono ?_
      rintro e w' ⟨rfl, rfl⟩
      cases p with
      | true =>
        have HQ0 := Lib.hid ((HQ.out).trans (hpq rfl))
        go_wp2_with fail
        refine (less_impl y x false HQ0.out _).mono ?_
        rintro e w' ⟨rfl, rfl⟩
        go_wp2_with fail
        refine (HJN.out l _ R26).mono ?_
        rintro e w7 ⟨rfl, hb7⟩
        go_wp2
        go_ret
        exact ⟨rfl, HF.out _ hb7⟩
      | false =>
        go_wp2_with fail
        refine (HJN.out l _ R26).mono ?_
        rintro e w7 ⟨rfl, hb7⟩
        go_wp2
        go_ret
        exact ⟨rfl, HF.out _ hb7⟩
    · have hx : ((sep.size : Int) != 1) = true := by simp; omega
      have HSP := Lib.hid hSp
      clear hSp h1
      go_wp2_with fail
      refine (HSP.out _).mono ?_
      rintro e w2 ⟨l, rfl, ho2, hb2⟩
      have z2 := hb2.size
      obtain ⟨a2, c2, rfl, _, _, _⟩ := RowOf.of_owns ho2
      have HI2 := Lib.hid (HI1.out.later hb2)
      clear ho2
      go_wp2_with fail
      refine (drawJoin_any a len cap zs _ HI2.out (by omega)).mono ?_
      rintro e w3 ⟨v, kk, mark, rfl, hkl, hks, hmk, ho3, hb3⟩
      have z3 := hb3.size
      have R3 := RowOf.of_owns ho3
      have HI3 := Lib.hid (HI2.out.later hb3)
      clear ho3
      obtain ⟨J, b, hS, hI⟩ := join_both kk mark (fun x hx => Nat.le_trans (hks x hx) (by omega)) (by omega) (by unfold maxLen; omega)
      have HS := Lib.hid hS
      have HIm := Lib.hid hI
      clear hS hI hks
      go_wp2_with fail
      refine (HIm.out v _ R3).mono ?_
      rintro e w4 ⟨rfl, hb4⟩
      have z4 := hb4.size
      have R4 := R3.below hb4
      have HI4 := Lib.hid (HI3.out.later hb4)
      go_wp2_with fail
      refine (HS.out v _ R4).mono ?_
      rintro e w5 ⟨rfl, hb5⟩
      have z5 := hb5.size
      have HI5 := Lib.hid (HI4.out.later hb5)
      go_wp2_with fail
      refine (drawLess_any a len cap zs _ HI5.out (by omega)).mono ?_
      rintro e w6 ⟨x, y, rfl, _, _, hb6⟩
      have z6 := hb6.size
      obtain ⟨p, hp⟩ : ∃ p, lessB x y = p := ⟨_, rfl⟩
      obtain ⟨q, hq⟩ : ∃ q, lessB y x = q := ⟨_, rfl⟩
      have HP := Lib.hid hp
      have HQ := Lib.hid hq
      have hpq : p = true → q = false := fun h => by rw [← hq]; exact bytesLess_asymm _ _ (by have := hp; rw [h] at this; exact this)
      clear hp hq
      have hfin : ∀ w7, Below w6.heap.size w6 w7 → Below w.heap.size w w7 := fun w7 h7 => hb1.trans ((hb2.mono z1).trans ((hb3.mono (by omega)).trans ((hb4.mono (by omega)).trans ((hb5.mono (by omega)).trans ((hb6.mono (by omega)).trans (h7.mono (by omega)))))))
      have HF := Lib.hid hfin
      clear hfin hb1 hb2 hb3 hb4 hb5 hb6
      go_wp2_with fail
      refine (less_impl x y p HP.out _).mono ?_
      rintro e w' ⟨rfl, rfl⟩
      go_wp2_with fail
      refine (less_specs x y p HP.out _).mono ?_
      rintro e w' ⟨rfl, rfl⟩
      go_wp2_with fail
      refine (less_impl x y p HP.out _).mono ?_
      rintro e w' ⟨rfl, rfl⟩
      cases p with
      | true =>
        have HQ0 := Lib.hid ((HQ.out).trans (hpq rfl))
        go_wp2_with fail
        refine (less_impl y x false HQ0.out _).mono ?_
        rintro e w' ⟨rfl, rfl⟩
        go_wp2
        go_ret
        exact ⟨rfl, HF.out _ (Below.refl _ _)⟩
      | false =>
        go_wp2
        go_ret
        exact ⟨rfl, HF.out _ (Below.refl _ _)⟩

set_option maxRecDepth 100000 in
theorem fnSplitJoin_lifted (os : Os) (started : os.Started) (H : Type) (enc : TypeId × Value → H) :
    ReturnsInHanded {} Try.checked os 3 .any (Rows.fnSplitJoinSpec.pre6 enc Try.prog Try.f3 Rows.fnSplitJoinRow.domain false) (Rows.fnSplitJoinSpec.post enc Try.prog Try.f3 false true false false) := by
  refine returnsInHanded_of_change (C := Try.checked) Try.own started (by kernel_rfl) Try.func3
    (ChangeSpec.witness6 (enc := enc) (C := Try.checked) false ⟨#[], #[.slice none 0 0], []⟩ 8 (by kernel_rfl) (by kernel_rfl) (by kernel_rfl) (by kernel_rfl)) ?_
  intro W base args ds gs before hval0 hW hcnd _
  have hval : ∀ (j : Nat) t v, Try.f3.params[j]? = some t → args[j]? = some v → Value.okWide Try.prog W .any base t v := hval0
  have hW' := hW
  obtain ⟨p, q, hA0, hV, rfl, hfz, hnd⟩ := hW
  have hA : DataW.TrodAll enc Try.prog W 0 (fun _ => true) true Try.f3.params.toList args.toList ds p := hA0
  rw [Try.params3] at hA hval
  obtain ⟨v0, vs0, d0, ds0, p0, q0, hargs, rfl, rfl, h0, r0⟩ := trodAll_cons hA
  obtain ⟨rfl, rfl, rfl⟩ := trodAll_nil r0
  obtain rfl : args = #[v0] := by cases args; simp_all
  obtain ⟨rfl, rfl⟩ := trodVars_none hV
  obtain ⟨a0, len0, cap0, rfl⟩ := okWide_slice Try.underlying22 (hval 0 22 v0 rfl rfl)
  have k0 := h0
  have lt0 : ∀ x ∈ p0, x.block < W.heap.size := by obtain ⟨m, hm⟩ := k0; exact DataW.trod_lt m _ _ _ hm
  obtain ⟨z0, w0⟩ : ∃ zs, IsRow .u8 W a0 len0 cap0 zs := by
    obtain ⟨fuel, hf⟩ := h0
    rcases open_ints Try.underlying22 Try.underlying5 (by kernel_rfl) hf with ⟨hcs, _⟩ | ⟨x, l, c, zs, hcs, _, hl, hm, hz, _, hcell, hwz⟩
    · simp [Value.cells] at hcs
      obtain ⟨rfl, rfl, rfl⟩ := hcs
      exact ⟨[], .inl ⟨rfl, rfl, rfl, rfl⟩⟩
    · simp [Value.cells] at hcs
      obtain ⟨rfl, rfl, rfl⟩ := hcs
      exact ⟨zs, .inr ⟨_, rfl, hl, hm, by simpa using hz, hcell, hwz⟩⟩
  clear hA0 hval0
  refine (walkSplitJoin a0 len0 cap0 z0 W w0).mono fun e W' ⟨he, bel⟩ => ?_
  subst he
  exact ⟨_, rfl, _, _, _, [], _, [], hW', trodAll_mk1 (shut_bool Try.underlying4 _), (trodAll_cons_mk (Below.trod Try.laidOut (by kernel_rfl) (of_decide_eq_true (by kernel_rfl)) k0 bel lt0) trodAll_mk0), rfl, bel.frame _, fun h => by cases h⟩

/-- THE STATEMENT. -/
theorem fnSplitJoin_proved : Rows.FnSplitJoinSaid :=
  OpenClaim.holds_of_wide 3 Try.f3 rfl rfl rfl rfl rfl rfl rfl ⟨rfl, rfl, rfl, rfl, rfl⟩ rfl rfl rfl rfl rfl (by kernel_rfl) Try.func3 (by kernel_rfl)
    (of_decide_eq_true (by kernel_rfl)) (by unfold Func.isWrapper; first | (rw [if_pos (by decide +kernel)]; kernel_rfl) | (rw [if_neg (by decide +kernel)]; exact ⟨rfl, rfl⟩))
    (fun os started H enc _ => fnSplitJoin_lifted os started H enc)
end Go.Proofs.Ytfjfnbpfeijmnaa
