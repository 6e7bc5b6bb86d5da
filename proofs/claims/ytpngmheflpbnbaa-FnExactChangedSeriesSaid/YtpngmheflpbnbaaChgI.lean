/- ChangedSeries, the program's. -/
import Derived.Test.YtpngmheflpbnbaaVerOn
import Derived.Test.YtpngmheflpbnbaaRuSame
import Derived.Test.YtpngmheflpbnbaaRuForI
import Derived.Test.YtpngmheflpbnbaaPerS2
import Derived.Test.YtpngmheflpbnbaaPerD
import Derived.Test.YtpngmheflpbnbaaInSer1
namespace Go.Proofs.Ytpngmheflpbnbaa
set_option linter.unusedVariables false
open Go.RowKit Go.Sort

theorem ruf_yes {t : List Ru} {s : Int} (h : isSch t = true) (h1 : 1 ≤ s ∧ s ≤ 99) : rufRes t s = (forRu t s, true) := by
  unfold rufRes
  rw [h, if_pos (by simpa using h1)]
set_option maxRecDepth 20000 in
set_option maxHeartbeats 4000000 in
theorem implChangedSeries_any (v : Value) (t : List Ve) (k : Int) (w : World) (h : RowR 2 rVe w v t) (xs : List Int) (b : Bool) (hres : chgRes t k = (xs, b)) :
    Calls Try.prog 37 #[v, .int .i64 k] w fun e w' => ∃ v', e = .returned (.tuple #[v', .bool b]) ∧ IntsO w.heap.size w'.heap.size w' v' xs ∧ Below w.heap.size w w' := by
  obtain ⟨i0, hi, hz0, hz1, hz2⟩ := info_parts Try.info_intI
  have H := Lib.hid (show ∀ W, Below w.heap.size w W → RowR 2 rVe W v t from fun W hb => h.below rVe_stable hb)
  obtain ⟨a1, c1, rfl, hl1, hm1, r1⟩ := h.ves
  have R1 := Lib.hid r1
  unfold maxLen at hm1
  obtain ⟨bA, hA⟩ : ∃ b, areVe t = b := ⟨_, rfl⟩
  have HA := Lib.hid hA
  unfold chgRes at hres
  rw [hA] at hres
  cases bA
  · rw [if_neg (by simp)] at hres
    cases hres
    clear h r1 hA
    go_enter Try.func37, Try.ntmps37
    go_wp2_with (first | (go_at_call 15; refine (implAreVersions_any _ t _ (H.out _ (Below.refl _ _))).mono ?_; rw [HA.out]; rintro e w1 ⟨rfl, b1⟩))
    go_ret2
    exact ⟨_, rfl, ints_nil _ _ _, b1⟩
  · by_cases hk1 : 1 ≤ k
    · by_cases hk2 : k < (t.length : Int)
      · rw [if_pos ⟨rfl, hk1, hk2⟩] at hres
        obtain ⟨ver, hver⟩ : ∃ n : Nat, (n : Int) = k := ⟨k.toNat, by omega⟩
        subst hver
        obtain ⟨j, hj⟩ : ∃ j, ver = j + 1 := ⟨ver - 1, by omega⟩
        have h5 := ve_len hA
        have hkt : ver < t.length := by omega
        have hjt : j < t.length := by omega
        obtain ⟨A, hAA⟩ : ∃ x, (t.getD j veD).rules = x := ⟨_, rfl⟩
        obtain ⟨B, hBB⟩ : ∃ x, (t.getD ver veD).rules = x := ⟨_, rfl⟩
        have hrA : rulesAt t ((ver : Int) - 1) = A := by rw [show (ver : Int) - 1 = (j : Int) by omega, rulesAt_nat, hAA]
        have hrB : rulesAt t (ver : Int) = B := by rw [rulesAt_nat, hBB]
        rw [hrA, hrB] at hres
        cases hres
        have hsA : isSch A = true := by rw [← hAA]; exact (ve_at hA hjt).2.1
        have hsB : isSch B = true := by rw [← hBB]; exact (ve_at hA hkt).2.1
        have hlA := sch_len hsA
        have hlB := sch_len hsB
        obtain ⟨bL, oL, hbL, rfl, e1⟩ := r1.resolve_left (fun e => by rw [e] at hkt; simp at hkt)
        obtain ⟨sA, _, qA, hrA', _⟩ := e1 j hjt
        obtain ⟨sB, _, qB, hrB', _⟩ := e1 ver hkt
        rw [hAA] at hrA'
        rw [hBB] at hrB'
        have HRA := Lib.hid (show ∀ W, Below w.heap.size w W → RowR 4 rRu W sA A from fun W hb => hrA'.below rRu_stable hb)
        have HRB := Lib.hid (show ∀ W, Below w.heap.size w W → RowR 4 rRu W sB B from fun W hb => hrB'.below rRu_stable hb)
        have HSA := Lib.hid hsA
        have HSB := Lib.hid hsB
        have gl : (ver : Int) - 1 = (j : Int) := by omega
        have gl0 : (0 : Int) ≤ (j : Int) := by omega
        have gl1 : (j : Int) < (t.length : Int) := by omega
        have g0 : (0 : Int) ≤ (ver : Int) := by omega
        have g1 : (ver : Int) < (t.length : Int) := by omega
        have gv1 : (1 : Int) ≤ (ver : Int) := by omega
        have GL := Lib.hid gl
        have HWJ : Hid (IntKind.i64.wrap (j : Int) = (j : Int)) := Lib.hid (Go.IntWalk.i64_in _ (by omega))
        have gv2 : (ver : Int) ≤ (t.length : Int) - 1 := by omega
        have gv3 : decide ((1 : Int) ≤ (ver : Int) ∧ (ver : Int) ≤ (t.length : Int) - 1) = true := decide_eq_true ⟨gv1, gv2⟩
        clear r1 e1 hrA' hrB' hrA hrB hAA hBB hsA hsB hj gl
        have gw1 : decide ((ver : Int) < 1) = false := decide_eq_false (by omega)
        have gw2 : decide (t.length ≤ ver) = false := decide_eq_false (by omega)
        have gw3 : decide ((t.length : Int) ≤ (ver : Int)) = false := decide_eq_false (by omega)
        clear h hA
        go_enter Try.func37, Try.ntmps37
        go_wp2_with (first | (go_at_call 15; refine (implAreVersions_any _ t _ (H.out _ (Below.refl _ _))).mono ?_; rw [HA.out]; rintro e w1 ⟨rfl, b1⟩))
        have hs0 := b1.size
        go_loopw [6, 7] (fun o i wr => ∃ n : Nat, n ≤ 99 ∧ i = .int .i64 ((n : Int) + 1) ∧ wr.ownsRow w1.heap.size 3 1 o (chgN A B n).length ((chgN A B n).map vI) ∧ Below w1.heap.size w1 wr) (fun _ i _ => 101 - (intOf i).toNat)
        case atStart => exact ⟨0, by omega, rfl, by simpa [chgN] using World.ownsRow_nil _ _ _ _, Below.refl _ _⟩
        case round =>
          obtain ⟨n, hn, rfl, hO, hb⟩ := hrel
          have hbw := b1.trans (hb.mono hs0)
          have HO := Lib.hid hO
          by_cases hlt : n < 99
          · have gn : (n : Int) + 1 ≤ 99 := by omega
            have fA := cell_kept qA hbw
            have fB := cell_kept qB hbw
            have FB := Lib.hid fB
            have hlen := chgN_len A B n
            obtain ⟨Pp, hP⟩ : ∃ P, chgN A B n = P := ⟨_, rfl⟩
            have hnx : chgN A B (n + 1) = if forRu A ((n : Int) + 1) = forRu B ((n : Int) + 1) then Pp else Pp ++ [(n : Int) + 1] := by
              rw [← hP]
              show (if forRu A ((n + 1 : Nat) : Int) = forRu B ((n + 1 : Nat) : Int) then chgN A B n else chgN A B n ++ [((n + 1 : Nat) : Int)]) = _
              rw [show ((n + 1 : Nat) : Int) = (n : Int) + 1 by omega]
            rw [hP] at hO HO hlen
            obtain ⟨bE, hbE⟩ : ∃ b, decide (forRu A ((n : Int) + 1) = forRu B ((n : Int) + 1)) = b := ⟨_, rfl⟩
            have HNX := Lib.hid hnx
            have HBE := Lib.hid hbE
            have HUA := Lib.hid (ruf_yes HSA.out (show 1 ≤ (n : Int) + 1 ∧ (n : Int) + 1 ≤ 99 by omega))
            have HUB := Lib.hid (ruf_yes HSB.out (show 1 ≤ (n : Int) + 1 ∧ (n : Int) + 1 ≤ 99 by omega))
            have hsz := hb.size
            clear hO hP hnx hbE
            cases bE
            · have HN2 := Lib.hid (HNX.out.trans (if_neg (of_decide_eq_false HBE.out)))
              have gl := GL.out
              have hwj := HWJ.out
              go_wp2_with fail
              refine (implRulesFor_any sA A _ _ (HRA.out _ hbw) (by omega) _ true HUA.out).mono ?_
              rintro e wA ⟨vA, rfl, hoA, bA⟩
              have HOA := Lib.hid hoA
              have fB2 := cell_kept fB bA
              have bA2 := below_chain hbw bA
              clear hoA
              go_wp2_with fail
              refine (implRulesFor_any sB B _ _ (HRB.out _ bA2) (by omega) _ true HUB.out).mono ?_
              rintro e wB ⟨vB, rfl, hoB, bB⟩
              have HOB := Lib.hid hoB
              have HOA2 := Lib.hid (HOA.out.below bB)
              have bAB := below_chain bA bB
              clear hoB fA fB fB2
              go_wp2_with fail
              refine (equalRu_any _ _ _ _ _ HOA2.out.row HOB.out.row).mono ?_
              rw [HBE.out]
              rintro e V ⟨rfl, bC⟩
              have bR5 := below_chain bAB bC
              have HO5 := Lib.hid (ownsRow_below HO.out bR5)
              have hbV := hb.trans (bR5.mono hsz)
              have hsV := hbV.size
              clear gl hwj
              go_wp2_with (first | (at_builtin; refine wpList_append_own _ rfl _ _ 49 rfl w1.heap.size 3 i0 (.int .i64 0) 1 8 Try.underlying49 hi hz0 hz1 hz2 rfl (by decide) _ Pp.length (Pp.map vI) rfl (HO5.out.alloc _) ⟨V.heap.size, 0, none⟩ 1 1 [.int .i64 ((n : Int) + 1)] rfl rfl (cell_oneI _ _ _ (by simp)) (by simp [Value.oneCell']) (by unfold maxLen; omega) (by omega) (by first | (simp; done) | (simp; omega)) ?_; intro v' w7 hown' hgrow _))
              have HOWN := Lib.hid hown'
              have HB := Lib.hid (below_app hbV (Nat.le_refl _) HO5.out hgrow)
              clear hown' hgrow
              go_wp2_with fail
              go_roundw
              case rel => exact ⟨n + 1, by omega, by first | rfl | go_num, (by rw [HN2.out]; simpa [vI] using HOWN.out), HB.out⟩
              case measure => simp [intOf]; omega
            · have HN2 := Lib.hid (HNX.out.trans (if_pos (of_decide_eq_true HBE.out)))
              have gl := GL.out
              have hwj := HWJ.out
              go_wp2_with fail
              refine (implRulesFor_any sA A _ _ (HRA.out _ hbw) (by omega) _ true HUA.out).mono ?_
              rintro e wA ⟨vA, rfl, hoA, bA⟩
              have HOA := Lib.hid hoA
              have fB2 := cell_kept fB bA
              have bA2 := below_chain hbw bA
              clear hoA
              go_wp2_with fail
              refine (implRulesFor_any sB B _ _ (HRB.out _ bA2) (by omega) _ true HUB.out).mono ?_
              rintro e wB ⟨vB, rfl, hoB, bB⟩
              have HOB := Lib.hid hoB
              have HOA2 := Lib.hid (HOA.out.below bB)
              have bAB := below_chain bA bB
              clear hoB fA fB fB2
              go_wp2_with fail
              refine (equalRu_any _ _ _ _ _ HOA2.out.row HOB.out.row).mono ?_
              rw [HBE.out]
              rintro e V ⟨rfl, bC⟩
              have bR5 := below_chain bAB bC
              have HO5 := Lib.hid (ownsRow_below HO.out bR5)
              have hbV := hb.trans (bR5.mono hsz)
              have hsV := hbV.size
              clear gl hwj
              go_wp2_with fail
              go_roundw
              case rel => exact ⟨n + 1, by omega, by first | rfl | go_num, (by rw [HN2.out]; exact HO5.out), hbV⟩
              case measure => simp [intOf]; omega
          · obtain rfl : n = 99 := by omega
            clear hO
            go_wp2_with fail
            go_ret2
            exact ⟨_, rfl, (ints_rowS HO.out rfl).wide hs0 (Nat.le_refl _), hbw⟩
      · rw [if_neg (fun e => hk2 e.2.2)] at hres
        cases hres
        clear h r1 hA
        go_enter Try.func37, Try.ntmps37
        go_wp2_with (first | (go_at_call 15; refine (implAreVersions_any _ t _ (H.out _ (Below.refl _ _))).mono ?_; rw [HA.out]; rintro e w1 ⟨rfl, b1⟩))
        go_ret2
        exact ⟨_, rfl, ints_nil _ _ _, b1⟩
    · rw [if_neg (fun e => hk1 e.2.1)] at hres
      cases hres
      clear h r1 hA
      go_enter Try.func37, Try.ntmps37
      go_wp2_with (first | (go_at_call 15; refine (implAreVersions_any _ t _ (H.out _ (Below.refl _ _))).mono ?_; rw [HA.out]; rintro e w1 ⟨rfl, b1⟩))
      go_ret2
      exact ⟨_, rfl, ints_nil _ _ _, b1⟩
end Go.Proofs.Ytpngmheflpbnbaa
