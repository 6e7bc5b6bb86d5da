/- ChangedSeries, the model's. -/
import Derived.Test.YtpngmheflpbnbaaVeS
import Derived.Test.YtpngmheflpbnbaaRuSame
import Derived.Test.YtpngmheflpbnbaaRuFor
import Derived.Test.YtpngmheflpbnbaaPerS2
namespace Go.Proofs.Ytpngmheflpbnbaa
set_option linter.unusedVariables false
open Go.RowKit Go.Sort

set_option maxRecDepth 20000 in
set_option maxHeartbeats 4000000 in
theorem specChangedSeries_any (v : Value) (t : List Ve) (k : Int) (w : World) (h : RowR 2 rVe w v t) (xs : List Int) (b : Bool) (hres : chgRes t k = (xs, b)) :
    Calls Try.prog 36 #[v, .int .i64 k] w fun e w' => ∃ v', e = .returned (.tuple #[v', .bool b]) ∧ IntsO w.heap.size w'.heap.size w' v' xs ∧ Below w.heap.size w w' := by
  obtain ⟨i0, hi, hz0, hz1, hz2⟩ := info_parts Try.info_intI
  have H := Lib.hid (show ∀ W, Below w.heap.size w W → RowR 2 rVe W v t from fun W hb => h.below rVe_stable hb)
  obtain ⟨a1, c1, rfl, hl1, hm1, r1⟩ := h.ves
  have R1 := Lib.hid r1
  unfold maxLen at hm1
  obtain ⟨bA, hA⟩ : ∃ b, areVe t = b := ⟨_, rfl⟩
  have HA := Lib.hid hA
  unfold chgRes at hres
  rw [hA] at hres
  have HI0 := Lib.hid (ints_new w)
  have b0 := below_al (Below.refl w.heap.size w) (.cells #[] 3 (0, 0))
  have hk2 : (1 ≤ k ∧ k < (t.length : Int)) ↔ (1 ≤ k ∧ k ≤ (t.length : Int) - 1) := by omega
  cases bA
  · rw [if_neg (by simp)] at hres
    cases hres
    clear h r1 hA
    go_enter Try.func36, Try.ntmps36
    go_wp2_with (first | (go_at_call 47; refine (l8Good_any _ t _ (H.out _ b0)).mono ?_; rw [HA.out]; rintro e w1 ⟨rfl, b1⟩; have HI1 := Lib.hid ((HI0.out.below b1).wide (Nat.le_refl _) b1.size); replace b1 := below_chain b0 b1))
    go_ret2
    exact ⟨_, rfl, HI1.out, b1⟩
  · by_cases hin : 1 ≤ k ∧ k < (t.length : Int)
    · rw [if_pos ⟨rfl, hin⟩] at hres
      obtain ⟨ver, hver⟩ : ∃ n : Nat, (n : Int) = k := ⟨k.toNat, by omega⟩
      subst hver
      obtain ⟨j, hj⟩ : ∃ j, ver = j + 1 := ⟨ver - 1, by omega⟩
      have h5 := ve_len hA
      have hkt : ver < t.length := by omega
      have hjt : j < t.length := by omega
      obtain ⟨A, hAA⟩ : ∃ x, (t.getD j veD).rules = x := ⟨_, rfl⟩
      obtain ⟨B, hBB⟩ : ∃ x, (t.getD ver veD).rules = x := ⟨_, rfl⟩
      have hrA : rulesAt t ((ver : Int) - 1) = A := by rw [show (ver : Int) - 1 = (j : Int) by omega, rulesAt_nat, hAA]
      have hrB : rulesAt t (ver : Int) = B := by rw [rulesAt_nat, hBB]
      rw [hrA, hrB] at hres
      cases hres
      have hsA : isSch A = true := by rw [← hAA]; exact (ve_at hA hjt).2.1
      have hsB : isSch B = true := by rw [← hBB]; exact (ve_at hA hkt).2.1
      have hlA := sch_len hsA
      have hlB := sch_len hsB
      obtain ⟨bL, oL, hbL, rfl, e1⟩ := r1.resolve_left (fun e => by rw [e] at hkt; simp at hkt)
      obtain ⟨sA, _, qA, hrA', _⟩ := e1 j hjt
      obtain ⟨sB, _, qB, hrB', _⟩ := e1 ver hkt
      rw [hAA] at hrA'
      rw [hBB] at hrB'
      have HRA := Lib.hid (show ∀ W, Below w.heap.size w W → RowR 4 rRu W sA A from fun W hb => hrA'.below rRu_stable hb)
      have HRB := Lib.hid (show ∀ W, Below w.heap.size w W → RowR 4 rRu W sB B from fun W hb => hrB'.below rRu_stable hb)
      have HSA := Lib.hid hsA
      have HSB := Lib.hid hsB
      have gl : (ver : Int) - 1 = (j : Int) := by omega
      have gl0 : (0 : Int) ≤ (j : Int) := by omega
      have gl1 : (j : Int) < (t.length : Int) := by omega
      have g0 : (0 : Int) ≤ (ver : Int) := by omega
      have g1 : (ver : Int) < (t.length : Int) := by omega
      have gv1 : (1 : Int) ≤ (ver : Int) := by omega
      have GL := Lib.hid gl
      have HWJ : Hid (IntKind.i64.wrap (j : Int) = (j : Int)) := Lib.hid (Go.IntWalk.i64_in _ (by omega))
      have gv2 : (ver : Int) ≤ (t.length : Int) - 1 := by omega
      have gv3 : decide ((1 : Int) ≤ (ver : Int) ∧ (ver : Int) ≤ (t.length : Int) - 1) = true := decide_eq_true ⟨gv1, gv2⟩
      clear r1 e1 hrA' hrB' hrA hrB hAA hBB hsA hsB hj gl
      clear h hA hin hk2
      go_enter Try.func36, Try.ntmps36
      go_wp2_with (first | (go_at_call 47; refine (l8Good_any _ t _ (H.out _ b0)).mono ?_; rw [HA.out]; rintro e w1 ⟨rfl, b1⟩; have HI1 := Lib.hid ((HI0.out.below b1).wide (Nat.le_refl _) b1.size); replace b1 := below_chain b0 b1; clear HI0 b0) | (go_at_call 65; refine (l1In_any _ _ _ _).mono ?_; rw [gv3]; rintro e w2 ⟨rfl, h2⟩; subst w2))
      have hs0 := b1.size
      go_loopw [6, 7] (fun o i wr => ∃ n : Nat, n ≤ 99 ∧ i = .int .i64 ((n : Int) + 1) ∧ wr.ownsRow w.heap.size 3 1 o (chgN A B n).length ((chgN A B n).map vI) ∧ Below w.heap.size w wr) (fun _ i _ => 101 - (intOf i).toNat)
      case atStart => exact ⟨0, by omega, rfl, by simpa [chgN] using HI1.out.1, b1⟩
      case round =>
        clear HI1 b1
        obtain ⟨n, hn, rfl, hO, hb⟩ := hrel
        have HO := Lib.hid hO
        by_cases hlt : n < 99
        · have gn : (n : Int) + 1 ≤ 99 := by omega
          have fA := cell_kept qA hb
          have fB := cell_kept qB hb
          have FA := Lib.hid fA
          have FB := Lib.hid fB
          have hlen := chgN_len A B n
          obtain ⟨Pp, hP⟩ : ∃ P, chgN A B n = P := ⟨_, rfl⟩
          have hnx : chgN A B (n + 1) = if forRu A ((n : Int) + 1) = forRu B ((n : Int) + 1) then Pp else Pp ++ [(n : Int) + 1] := by
            rw [← hP]
            show (if forRu A ((n + 1 : Nat) : Int) = forRu B ((n + 1 : Nat) : Int) then chgN A B n else chgN A B n ++ [((n + 1 : Nat) : Int)]) = _
            rw [show ((n + 1 : Nat) : Int) = (n : Int) + 1 by omega]
          rw [hP] at hO HO hlen
          obtain ⟨bE, hbE⟩ : ∃ b, decide (forRu A ((n : Int) + 1) = forRu B ((n : Int) + 1)) = b := ⟨_, rfl⟩
          have HNX := Lib.hid hnx
          have HBE := Lib.hid hbE
          have HBW : Hid (Below wr.heap.size wr wr.drew) := Lib.hid (Below.refl _ _).drew
          have hsz := hb.size
          clear hO hP hnx hbE
          have gl := GL.out
          have hwj := HWJ.out
          go_wp2_with fail
          go_region_held3 (fun w' => w'.cell? ⟨bL, oL + j * 2 + 1, none⟩ = some sA ∧ w'.cell? ⟨bL, oL + ver * 2 + 1, none⟩ = some sB)
            (first | with_reducible exact ⟨fA, fB⟩ | with_reducible exact ⟨cell_drew fA, cell_drew fB⟩ | go_keep)
            (first | (go_at_call 67; (with_reducible refine (l4For_any sA A ((n : Int) + 1) _ (HRA.out _ (hb.trans (HBW.out.mono hsz))) (by omega)).mono ?_); rintro e wA ⟨vA, rfl, hoA, bA⟩; (try replace HOB := Lib.hid (HOB.out.below bA)); have HOA := Lib.hid hoA; replace HBW := Lib.hid (HBW.out.trans (bA.mono HBW.out.size)); replace fA := cell_kept FA.out HBW.out; replace fB := cell_kept FB.out HBW.out; clear hoA bA) | (go_at_call 67; (with_reducible refine (l4For_any sB B ((n : Int) + 1) _ (HRB.out _ (hb.trans (HBW.out.mono hsz))) (by omega)).mono ?_); rintro e wB ⟨vB, rfl, hoB, bB⟩; (try replace HOA := Lib.hid (HOA.out.below bB)); have HOB := Lib.hid hoB; replace HBW := Lib.hid (HBW.out.trans (bB.mono HBW.out.size)); replace fA := cell_kept FA.out HBW.out; replace fB := cell_kept FB.out HBW.out; clear hoB bB) | (go_at_call 66; (with_reducible refine (l8Same_any _ _ _ _ _ HOA.out.row HOB.out.row).mono ?_); rw [HBE.out]; rintro e V ⟨rfl, bC⟩; replace HBW := Lib.hid (HBW.out.trans (bC.mono HBW.out.size)); replace fA := cell_kept FA.out HBW.out; replace fB := cell_kept FB.out HBW.out; clear bC))
          all_goals
            have HO5 := Lib.hid (ownsRow_below HO.out HBW.out)
            have hbV := hb.trans (HBW.out.mono hsz)
            have hsV := hbV.size
            clear fA fB HBW gl hwj
            cases bE
            · have HN2 := Lib.hid (HNX.out.trans (if_neg (of_decide_eq_false HBE.out)))
              go_wp2_with (first | (at_builtin; refine wpList_append_own _ rfl _ _ 49 rfl w.heap.size 3 i0 (.int .i64 0) 1 8 Try.underlying49 hi hz0 hz1 hz2 rfl (by decide) _ Pp.length (Pp.map vI) rfl (HO5.out.alloc _) ⟨V.heap.size, 0, none⟩ 1 1 [.int .i64 ((n : Int) + 1)] rfl rfl (cell_oneI _ _ _ (by simp)) (by simp [Value.oneCell']) (by unfold maxLen; omega) (by omega) (by first | (simp; done) | (simp; omega)) ?_; intro v' w7 hown' hgrow _))
              have HOWN := Lib.hid hown'
              have HB := Lib.hid (below_app hbV (Nat.le_refl _) HO5.out hgrow)
              clear hown' hgrow
              go_wp2_with fail
              go_roundw
              case rel => exact ⟨n + 1, by omega, by first | rfl | go_num, (by rw [HN2.out]; simpa [vI] using HOWN.out), HB.out⟩
              case measure => simp [intOf]; omega
            · have HN2 := Lib.hid (HNX.out.trans (if_pos (of_decide_eq_true HBE.out)))
              go_wp2_with fail
              go_roundw
              case rel => exact ⟨n + 1, by omega, by first | rfl | go_num, (by rw [HN2.out]; exact HO5.out), hbV⟩
              case measure => simp [intOf]; omega
        · obtain rfl : n = 99 := by omega
          clear hO
          go_wp2_with fail
          go_ret2
          exact ⟨_, rfl, ints_rowS HO.out rfl, hb⟩
    · rw [if_neg (fun e => hin e.2)] at hres
      cases hres
      have gv3 : decide ((1 : Int) ≤ k ∧ k ≤ (t.length : Int) - 1) = false := decide_eq_false (fun e => hin (hk2.2 e))
      have hkI : (t.length : Int) - 1 = (t.length : Int) - 1 := rfl
      clear h r1 hA hin hk2 hkI
      go_enter Try.func36, Try.ntmps36
      go_wp2_with (first | (go_at_call 47; refine (l8Good_any _ t _ (H.out _ b0)).mono ?_; rw [HA.out]; rintro e w1 ⟨rfl, b1⟩; have HI1 := Lib.hid ((HI0.out.below b1).wide (Nat.le_refl _) b1.size); replace b1 := below_chain b0 b1) | (go_at_call 65; refine (l1In_any _ _ _ _).mono ?_; rw [gv3]; rintro e w2 ⟨rfl, h2⟩; subst w2))
      go_ret2
      exact ⟨_, rfl, HI1.out, b1⟩
end Go.Proofs.Ytpngmheflpbnbaa
