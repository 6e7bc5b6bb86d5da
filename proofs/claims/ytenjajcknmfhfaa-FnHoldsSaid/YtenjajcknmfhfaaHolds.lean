/- The draw of a list of holds. -/
import Derived.Test.YtenjajcknmfhfaaHoldsD
namespace Go.Proofs.Ytenjajcknmfhfaa
set_option linter.unusedVariables false
open Go.RowKit

set_option maxRecDepth 20000 in
set_option maxHeartbeats 8000000 in
theorem holds_any (B K : Nat) (w : World) (h : Cur w B K) (hK : K ≤ 30000) :
    Calls Try.prog 118 #[.pointer (some ⟨B, 0, none⟩)] w (HosDrawn w B (K + 400)) := by
  obtain ⟨i0, hi, hz0, hz1, hz2⟩ := info_parts Try.info_hoD
  have hlt := h.lt
  have HD0 : Hid (Dk w (w.alloc (.cells #[] 140 (0, 0))) B K) := Lib.hid ((Dk.start h).al _)
  have HO0 : Hid (HosW w.heap.size (w.alloc (.cells #[] 140 (0, 0))) (.slice (some ⟨w.heap.size, 0, none⟩) 0 0) []) := Lib.hid (HosW.start rfl)
  clear h
  go_enter Try.func118, Try.ntmps118
  go_wp2_with fail
  go_loopw [3, 4] (fun l n wr => ∃ (k : Nat) (a : Option Addr) (c : Nat) (es : List (Ho × Value)), 1 ≤ k ∧ k ≤ 7 ∧ n = .int .i64 k ∧ l = .slice a es.length c ∧ es.length + 1 ≤ k ∧ Hid (HosW w.heap.size wr (.slice a es.length c) es) ∧ Hid (Dk w wr B (K + 20 * k))) (fun _ n _ => 7 - (intOf n).toNat)
  case atStart => exact ⟨1, _, _, [], Nat.le_refl _, by omega, rfl, rfl, by simp, HO0, Lib.hid (HD0.out.le (by omega))⟩
  case round =>
    clear HO0 HD0
    obtain ⟨k, a, c, es, hk1, hk7, rfl, rfl, hel, HO, HD⟩ := hrel
    by_cases hpos : k < 7
    · have gk : (k : Int) < 7 := by omega
      obtain ⟨I, hI⟩ : ∃ I, 6 * (k : Int) = I := ⟨_, rfl⟩
      have hkw : IntKind.i64.wrap (6 * (k : Int)) = I := by rw [Go.IntWalk.i64_in _ (by omega)]; exact hI
      have hII : inI I := by unfold inI; omega
      have HI := Lib.hid hI
      clear hI
      have hkw2 : IntKind.i64.wrap ((k : Int) + 1) = ((k + 1 : Nat) : Int) := by rw [Go.IntWalk.i64_in _ (by omega)]; omega
      obtain ⟨M, hM⟩ : ∃ M, K + 20 * k = M := ⟨_, rfl⟩
      rw [hM] at HD
      have hM1 : M ≤ 31000 := by omega
      have HM := Lib.hid hM
      clear hM
      go_wp2_with fail
      refine (one_any B M 2 _ HD.out.cur (by omega) (by omega) (by omega)).mono ?_
      rintro e w2 ⟨b, rfl, hc, hg⟩
      have HD2 := Lib.hid (HD.out.step hc hg)
      have HO2 := Lib.hid (HO.out.grown hg hlt)
      clear hc hg HD HO
      cases b
      case true =>
        go_wp2_with fail
        go_roundw
        case rel => exact ⟨k + 1, a, c, es, by omega, by omega, by first | rfl | go_num, rfl, by omega, HO2, Lib.hid (HD2.out.le (by have := HM.out; omega))⟩
        case measure => simp [intOf]; omega
      case false =>
        have HD := HD2
        have HO := HO2
        clear HD2 HO2
        go_wp2_with fail
        refine (amongZ_any B (M + 2) _ 0 5 5 [0, 100, 400, 1000, 3000] _ (HD.out.al (.cells (([0, 100, 400, 1000, 3000] : List Int).map (Value.int .i64)).toArray 3)).cur (by omega) rfl (by omega) (by omega) (by have := HD.out.cur.lt; omega) (new_nums w2 [0, 100, 400, 1000, 3000] 3 _ rfl)).mono ?_
        rintro e w3 ⟨x1, rfl, mx1, hc, hg⟩
        have bx1 : 0 ≤ x1 ∧ x1 ≤ 20001 := by simp at mx1; omega
        have ix1 : inI x1 := by unfold inI; omega
        have HDn := Lib.hid ((HD.out.al (.cells (([0, 100, 400, 1000, 3000] : List Int).map (Value.int .i64)).toArray 3)).step hc hg)
        have HOn := Lib.hid ((HO.out.alloc (.cells (([0, 100, 400, 1000, 3000] : List Int).map (Value.int .i64)).toArray 3)).grown hg hlt)
        clear hc hg mx1 HD HO
        have HD := HDn
        have HO := HOn
        clear HDn HOn
        obtain ⟨E, hE⟩ : ∃ E, w3.heap.size = E := ⟨_, rfl⟩
        have HE : Hid (SerW w.heap.size (w3.alloc (.cells #[] 3 (0, 0))) (.slice (some ⟨E, 0, none⟩) 0 0) []) := Lib.hid (by rw [← hE]; exact SerW.empty w3 HD.out.sz _)
        have hs3 : (w3.alloc (.cells #[] 3 (0, 0))).heap.size = E + 1 := by simp; exact hE
        have HNE : Hid (∀ g, Value.ownBlock (.slice (some ⟨E, 0, none⟩) 0 0) = some g → Value.ownBlock (.slice a es.length c) ≠ some g) := Lib.hid (fun g h1 h2 => by simp [Value.ownBlock] at h1; have := HO.out.lt g h2; omega)
        replace HD := Lib.hid (HD.out.al (.cells #[] 3 (0, 0)))
        replace HO := Lib.hid (HO.out.alloc (.cells #[] 3 (0, 0)))
        go_wp2_with fail
        try clear hE
        generalize hW3 : w3.alloc (.cells #[] 3 (0, 0)) = W3 at *
        have HW3 := Lib.hid hW3
        clear hW3
        refine (amongZ_any B (M + 4) (E + 1) 0 4 4 [0, 0, 100, 450] _ (HD.out.al (.cells (([0, 0, 100, 450] : List Int).map (Value.int .i64)).toArray 3)).cur (by omega) rfl (by omega) (by omega) (by have := HD.out.cur.lt; omega) (by rw [← hs3]; exact new_nums W3 [0, 0, 100, 450] 3 _ rfl)).mono ?_
        rintro e w4 ⟨x2, rfl, mx2, hc, hg⟩
        have bx2 : 0 ≤ x2 ∧ x2 ≤ 20001 := by simp at mx2; omega
        have ix2 : inI x2 := by unfold inI; omega
        have HDn := Lib.hid ((HD.out.al (.cells (([0, 0, 100, 450] : List Int).map (Value.int .i64)).toArray 3)).step hc hg)
        have HOn := Lib.hid ((HO.out.alloc (.cells (([0, 0, 100, 450] : List Int).map (Value.int .i64)).toArray 3)).grown hg hlt)
        replace HE := Lib.hid ((HE.out.alloc (.cells (([0, 0, 100, 450] : List Int).map (Value.int .i64)).toArray 3)).grown hg hlt)
        clear hc hg mx2 HD HO
        have HD := HDn
        have HO := HOn
        clear HDn HOn
        go_wp2_with fail
        refine (amongZ_any B (M + 6) _ 0 3 3 [500, 3000, 20000] _ (HD.out.al (.cells (([500, 3000, 20000] : List Int).map (Value.int .i64)).toArray 3)).cur (by omega) rfl (by omega) (by omega) (by have := HD.out.cur.lt; omega) (new_nums w4 [500, 3000, 20000] 3 _ rfl)).mono ?_
        rintro e w5 ⟨x3, rfl, mx3, hc, hg⟩
        have bx3 : 0 ≤ x3 ∧ x3 ≤ 20001 := by simp at mx3; omega
        have ix3 : inI x3 := by unfold inI; omega
        have HDn := Lib.hid ((HD.out.al (.cells (([500, 3000, 20000] : List Int).map (Value.int .i64)).toArray 3)).step hc hg)
        have HOn := Lib.hid ((HO.out.alloc (.cells (([500, 3000, 20000] : List Int).map (Value.int .i64)).toArray 3)).grown hg hlt)
        replace HE := Lib.hid ((HE.out.alloc (.cells (([500, 3000, 20000] : List Int).map (Value.int .i64)).toArray 3)).grown hg hlt)
        clear hc hg mx3 HD HO
        have HD := HDn
        have HO := HOn
        clear HDn HOn
        obtain ⟨F, hF⟩ : ∃ F, w5.heap.size = F := ⟨_, rfl⟩
        have HB : Hid (BxV (w5.alloc (.cells #[.int .i64 I, .int .i64 x1, .int .i64 (-1), .slice (some ⟨E, 0, none⟩) 0 0, .int .i64 x2, .int .i64 x3] 140 (0, 0))) F [.int .i64 I, .int .i64 x1, .int .i64 (-1), .slice (some ⟨E, 0, none⟩) 0 0, .int .i64 x2, .int .i64 x3]) := Lib.hid (BxV.new' hF _ _)
        have hFB : B < F := by have := HD.out.cur.lt; omega
        have hFw : w.heap.size ≤ F := by have := HD.out.sz; omega
        have HNF : Hid (∀ g, Value.ownBlock (.slice a es.length c) = some g → g ≠ F) := Lib.hid (fun g h1 => by have := HO.out.lt g h1; omega)
        have HEB : Hid (∀ p ∈ es, ∀ g, p.2.ownBlock = some g → g ≠ F) := Lib.hid (fun p hp g h1 => by have := ((HO.out.each p hp).1.2 g h1).2; omega)
        have HEF : Hid (E ≠ F) := Lib.hid (by have := (HE.out.2 E rfl).2; omega)
        replace HE := Lib.hid (HE.out.alloc (.cells #[.int .i64 I, .int .i64 x1, .int .i64 (-1), .slice (some ⟨E, 0, none⟩) 0 0, .int .i64 x2, .int .i64 x3] 140 (0, 0)))
        replace HD := Lib.hid (HD.out.al (.cells #[.int .i64 I, .int .i64 x1, .int .i64 (-1), .slice (some ⟨E, 0, none⟩) 0 0, .int .i64 x2, .int .i64 x3] 140 (0, 0)))
        replace HO := Lib.hid (HO.out.alloc (.cells #[.int .i64 I, .int .i64 x1, .int .i64 (-1), .slice (some ⟨E, 0, none⟩) 0 0, .int .i64 x2, .int .i64 x3] 140 (0, 0)))
        go_upto_region 7 with fail
        try rw [hF]
        have HFE := Lib.hid hF
        clear hF
        generalize hW5 : w5.alloc (.cells #[.int .i64 I, .int .i64 x1, .int .i64 (-1), .slice (some ⟨E, 0, none⟩) 0 0, .int .i64 x2, .int .i64 x3] 140 (0, 0)) = W5 at *
        have HW5 := Lib.hid hW5
        clear hW5
        go_wp2_with fail
        refine (one_any B (M + 8) 3 _ HD.out.cur (by omega) (by omega) (by omega)).mono ?_
        rintro e w6 ⟨b, rfl, hc, hg⟩
        replace HE := Lib.hid (HE.out.grown hg hlt)
        replace HB := Lib.hid (HB.out.grown hg (by simp; omega))
        replace HO := Lib.hid (HO.out.grown hg hlt)
        replace HD := Lib.hid (HD.out.step hc hg)
        clear hc hg
        go_upto_if 28 with fail
        go_cut [5] from 7 to 46 (fun q wx => q = .pointer (some ⟨F, 0, none⟩) ∧ ∃ u : Int, inI u ∧ Hid (Dk w wx B (M + 12)) ∧ Hid (HosW w.heap.size wx (.slice a es.length c) es) ∧ Hid (SerW w.heap.size wx (.slice (some ⟨E, 0, none⟩) 0 0) []) ∧ Hid (BxV wx F [.int .i64 I, .int .i64 x1, .int .i64 u, .slice (some ⟨E, 0, none⟩) 0 0, .int .i64 x2, .int .i64 x3]))
        case first =>
          cases b
          case true =>
            go_wp2_with fail
            go_meet
            exact ⟨rfl, -1, by simp [inI], Lib.hid (HD.out.le (by omega)), HO, HE, HB⟩
          case false =>
            have HDd : Hid (Dk w w6.drew B (M + 10)) := Lib.hid HD.out.drew
            have HOd : Hid (HosW w.heap.size w6.drew (.slice a es.length c) es) := Lib.hid HO.out.drew
            have HEd : Hid (SerW w.heap.size w6.drew (.slice (some ⟨E, 0, none⟩) 0 0) []) := HE
            have HBd : Hid (BxV w6.drew F [.int .i64 I, .int .i64 x1, .int .i64 (-1), .slice (some ⟨E, 0, none⟩) 0 0, .int .i64 x2, .int .i64 x3]) := HB
            have f1 : w6.drew.cell? ⟨F, 1, none⟩ = some (.int .i64 x1) := HBd.out.cell 1
            have lB := HDd.out.cur.lt
            go_upto_region 8 with fail
            go_region_held3 (fun w' => w'.cell? ⟨F, 1, none⟩ = some (.int .i64 x1)) (first | exact f1 | exact g1 | exact below_al_cell f1 _ | exact (cellset_other _ (by simp)).trans g1 | go_keep) (first | (go_at_call 77; refine (amongZ_any B (M + 10) w6.drew.heap.size 0 4 4 [1, 100, 600, 5000] _ (HDd.out.al (.cells (([1, 100, 600, 5000] : List Int).map (Value.int .i64)).toArray 3)).cur (by omega) rfl (by omega) (by omega) (by omega) (new_nums w6.drew [1, 100, 600, 5000] 3 _ rfl)).mono ?_; rintro e wa ⟨r, rfl, mr, hc, hg⟩; have HDa := Lib.hid ((HDd.out.al (.cells (([1, 100, 600, 5000] : List Int).map (Value.int .i64)).toArray 3)).step hc hg); have HOa := Lib.hid ((HOd.out.alloc (.cells (([1, 100, 600, 5000] : List Int).map (Value.int .i64)).toArray 3)).grown hg hlt); have HEa := Lib.hid ((HEd.out.alloc (.cells (([1, 100, 600, 5000] : List Int).map (Value.int .i64)).toArray 3)).grown hg hlt); have HBa := Lib.hid ((HBd.out.al (.cells (([1, 100, 600, 5000] : List Int).map (Value.int .i64)).toArray 3)).grown hg (by simp; omega)); have g1 : wa.cell? ⟨F, 1, none⟩ = some (.int .i64 x1) := HBa.out.cell 1; have g2 : wa.cell? ⟨F, 2, none⟩ = some (.int .i64 (-1)) := HBa.out.cell 2; have gf := HBa.out.frozen 2; have br : 0 ≤ r ∧ r ≤ 5000 := (by simp at mr; omega); have hwr : IntKind.i64.wrap (x1 + r) = x1 + r := Go.IntWalk.i64_in _ (by omega); clear hc hg))
            all_goals
              go_wp2_with fail
              go_meet
              exact ⟨rfl, x1 + r, by unfold inI; omega, Lib.hid (HDa.out.set hFw hFB), Lib.hid (HOa.out.put HNF.out HEB.out), Lib.hid (HEa.out.put (fun g hg => by simp [Value.ownBlock] at hg; have := HEF.out; omega)), Lib.hid (HBa.out.set 2 _ rfl)⟩
        case rest =>
          clear HD HO HE HB
          obtain ⟨rfl, u, iu, HD, HO, HE, HB⟩ := hcut
          obtain ⟨W10, hW10⟩ : ∃ x, x = wc := ⟨_, rfl⟩
          subst hW10
          clear hpos
          go_wp2_with fail
          refine (one_any B (M + 12) 2 _ HD.out.cur (by omega) (by omega) (by omega)).mono ?_
          rintro e w11 ⟨b2, rfl, hc, hg⟩
          replace HE := Lib.hid (HE.out.grown hg hlt)
          replace HB := Lib.hid (HB.out.grown hg (by simp; omega))
          replace HO := Lib.hid (HO.out.grown hg hlt)
          replace HD := Lib.hid (HD.out.step hc hg)
          clear hc hg
          cases b2
          case false =>
            go_upto_region 11 with fail
            have c0 := HB.out.cell 0
            have c1 := HB.out.cell 1
            have c2 := HB.out.cell 2
            have c3 := HB.out.cell 3
            have c4 := HB.out.cell 4
            have c5 := HB.out.cell 5
            simp at c0 c1 c2 c3 c4 c5
            have hsz := HD.out.sz
            go_wp2_with (first | (at_builtin; refine wpList_append_own_at _ rfl _ _ 82 rfl w.heap.size 140 i0 (.agg #[.int .i64 0, .int .i64 0, .int .i64 0, .slice none 0 0, .int .i64 0, .int .i64 0]) 6 64 Try.underlying82 hi hz0 hz1 hz2 rfl (by decide) (.slice a es.length c) es.length (hosC es) rfl (HO.out.row.alloc _) ⟨w11.heap.size, 0, none⟩ 1 1 [.int .i64 I, .int .i64 x1, .int .i64 u, .slice (some ⟨E, 0, none⟩) 0 0, .int .i64 x2, .int .i64 x3] rfl rfl (cells6_newW _ _ _ _ _ _ _ _ (by simp)) (by simp [Value.oneCell']) (by unfold maxLen; omega) (by omega) (by simp; omega) ?_; intro v' wz hown' hgrow _ hat))
            have HX := Lib.hid ((HO.out.alloc (.cells #[.int .i64 I, .int .i64 x1, .int .i64 u, .slice (some ⟨E, 0, none⟩) 0 0, .int .i64 x2, .int .i64 x3] 140 (0, 0))).app (r := ⟨I, x1, u, [], x2, x3⟩) (s := .slice (some ⟨E, 0, none⟩) 0 0) (HE.out.alloc _) ⟨hII, ix1, iu, ix2, ix3⟩ HNE.out hown' hgrow hat)
            have HDz := Lib.hid ((HD.out.al (.cells #[.int .i64 I, .int .i64 x1, .int .i64 u, .slice (some ⟨E, 0, none⟩) 0 0, .int .i64 x2, .int .i64 x3] 140 (0, 0))).app hgrow (fun k hk => (HO.out.row.lt k hk).1) hlt)
            obtain ⟨na, nc, rfl⟩ := HX.out.slice
            clear hown' hgrow hat hsz HO HD HE
            go_wp2_with fail
            go_roundw
            case rel => exact ⟨k + 1, na, nc, es ++ [(⟨I, x1, u, [], x2, x3⟩, .slice (some ⟨E, 0, none⟩) 0 0)], by omega, by omega, by first | rfl | go_num, by simp, by simp; omega, by simpa using HX, Lib.hid (HDz.out.le (by have := HM.out; omega))⟩
            case measure => simp [intOf]; omega
          case true =>
            obtain ⟨G, hG⟩ : ∃ G, w11.heap.size = G := ⟨_, rfl⟩
            have HL : Hid (∀ j (hj : j < ([1, 3, 7] : List Int).length), (w11.alloc (.cells (([1, 3, 7] : List Int).map (Value.int .i64)).toArray 3)).cell? ⟨G, 0 + j, none⟩ = some (.int .i64 ([1, 3, 7] : List Int)[j])) := Lib.hid (by rw [← hG]; exact new_nums w11 [1, 3, 7] 3 _ rfl)
            have hGF : F < G := by have := HB.out.lt; omega
            have hGw : w.heap.size ≤ G := by have := HD.out.sz; omega
            have hGs : G < (w11.alloc (.cells (([1, 3, 7] : List Int).map (Value.int .i64)).toArray 3)).heap.size := by simp; omega
            have HNG : Hid (∀ g, Value.ownBlock (.slice a es.length c) = some g → g ≠ G) := Lib.hid (fun g h1 => by have := HO.out.lt g h1; omega)
            have HGE := Lib.hid hG
            go_wp2_with fail
            try rw [hG]
            clear hG
            refine (pick_any B (M + 14) 2 _ (HD.out.al (.cells (([1, 3, 7] : List Int).map (Value.int .i64)).toArray 3)).cur (by omega) (by omega) (by omega)).mono ?_
            rintro e w12 ⟨r, rfl, hr0, hr1, hc, hg⟩
            replace HL : Hid (∀ j (hj : j < ([1, 3, 7] : List Int).length), w12.cell? ⟨G, 0 + j, none⟩ = some (.int .i64 ([1, 3, 7] : List Int)[j])) := Lib.hid (fun j hj => hg.cell (HL.out j hj) (by simp; omega))
            replace HB := Lib.hid ((HB.out.al (.cells (([1, 3, 7] : List Int).map (Value.int .i64)).toArray 3)).grown hg (by simp; omega))
            replace HO := Lib.hid ((HO.out.alloc (.cells (([1, 3, 7] : List Int).map (Value.int .i64)).toArray 3)).grown hg hlt)
            replace HD := Lib.hid ((HD.out.al (.cells (([1, 3, 7] : List Int).map (Value.int .i64)).toArray 3)).step hc hg)
            have hGs2 : G < w12.heap.size := Nat.lt_of_lt_of_le hGs hg.size
            clear hc hg HE hGs
            have c3 := HB.out.cell 3
            have z3 := HB.out.frozen 3
            simp at c3
            obtain rfl | rfl : r = 0 ∨ r = 1 := by omega
            · have HS : Hid (SerW w.heap.size w12 (.slice (some ⟨G, 0, none⟩) 3 3) [1, 3, 7]) := Lib.hid (by simpa using SerW.from (n := 3) (i := 0) hGw hGs2 rfl (by omega) (by omega) HL.out)
              have HNS : Hid (∀ g, Value.ownBlock (.slice (some ⟨G, 0, none⟩) 3 3) = some g → Value.ownBlock (.slice a es.length c) ≠ some g) := Lib.hid (fun g h1 h2 => by simp [Value.ownBlock] at h1; exact HNG.out g h2 h1.symm)
              replace HS := Lib.hid (HS.out.put (F := F) (j := 3) (u := .slice (some ⟨G, 0, none⟩) 3 3) (fun g hg => by simp [Value.ownBlock] at hg; omega))
              replace HB := Lib.hid (HB.out.set 3 (.slice (some ⟨G, 0, none⟩) 3 3) rfl)
              replace HO := Lib.hid (HO.out.put (j := 3) (u := .slice (some ⟨G, 0, none⟩) 3 3) HNF.out HEB.out)
              replace HD := Lib.hid (HD.out.set (j := 3) (u := .slice (some ⟨G, 0, none⟩) 3 3) hFw hFB)
              go_upto_region 11 with fail
              generalize hWs : w12.setCell ⟨F, 3, none⟩ (.slice (some ⟨G, 0, none⟩) 3 3) = W13 at *
              have HWs := Lib.hid hWs
              clear hWs c3 z3
              have c0 := HB.out.cell 0
              have c1 := HB.out.cell 1
              have c2 := HB.out.cell 2
              have c3 := HB.out.cell 3
              have c4 := HB.out.cell 4
              have c5 := HB.out.cell 5
              simp at c0 c1 c2 c3 c4 c5
              have hsz := HD.out.sz
              go_wp2_with (first | (at_builtin; refine wpList_append_own_at _ rfl _ _ 82 rfl w.heap.size 140 i0 (.agg #[.int .i64 0, .int .i64 0, .int .i64 0, .slice none 0 0, .int .i64 0, .int .i64 0]) 6 64 Try.underlying82 hi hz0 hz1 hz2 rfl (by decide) (.slice a es.length c) es.length (hosC es) rfl (HO.out.row.alloc _) ⟨W13.heap.size, 0, none⟩ 1 1 [.int .i64 I, .int .i64 x1, .int .i64 u, .slice (some ⟨G, 0, none⟩) 3 3, .int .i64 x2, .int .i64 x3] rfl rfl (cells6_newW _ _ _ _ _ _ _ _ (by simp)) (by simp [Value.oneCell']) (by unfold maxLen; omega) (by omega) (by simp; omega) ?_; intro v' wz hown' hgrow _ hat))
              have HX := Lib.hid ((HO.out.alloc (.cells #[.int .i64 I, .int .i64 x1, .int .i64 u, .slice (some ⟨G, 0, none⟩) 3 3, .int .i64 x2, .int .i64 x3] 140 (0, 0))).app (r := ⟨I, x1, u, [1, 3, 7], x2, x3⟩) (s := .slice (some ⟨G, 0, none⟩) 3 3) (HS.out.alloc _) ⟨hII, ix1, iu, ix2, ix3⟩ HNS.out hown' hgrow hat)
              have HDz := Lib.hid ((HD.out.al (.cells #[.int .i64 I, .int .i64 x1, .int .i64 u, .slice (some ⟨G, 0, none⟩) 3 3, .int .i64 x2, .int .i64 x3] 140 (0, 0))).app hgrow (fun k hk => (HO.out.row.lt k hk).1) hlt)
              obtain ⟨na, nc, rfl⟩ := HX.out.slice
              clear hown' hgrow hat hsz HO HD HS
              go_wp2_with fail
              go_roundw
              case rel => exact ⟨k + 1, na, nc, es ++ [(⟨I, x1, u, [1, 3, 7], x2, x3⟩, .slice (some ⟨G, 0, none⟩) 3 3)], by omega, by omega, by first | rfl | go_num, by simp, by simp; omega, by simpa using HX, Lib.hid (HDz.out.le (by have := HM.out; omega))⟩
              case measure => simp [intOf]; omega
            · have HS : Hid (SerW w.heap.size w12 (.slice (some ⟨G, 1, none⟩) 2 2) [3, 7]) := Lib.hid (by simpa using SerW.from (n := 3) (i := 1) hGw hGs2 rfl (by omega) (by omega) HL.out)
              have HNS : Hid (∀ g, Value.ownBlock (.slice (some ⟨G, 1, none⟩) 2 2) = some g → Value.ownBlock (.slice a es.length c) ≠ some g) := Lib.hid (fun g h1 h2 => by simp [Value.ownBlock] at h1; exact HNG.out g h2 h1.symm)
              replace HS := Lib.hid (HS.out.put (F := F) (j := 3) (u := .slice (some ⟨G, 1, none⟩) 2 2) (fun g hg => by simp [Value.ownBlock] at hg; omega))
              replace HB := Lib.hid (HB.out.set 3 (.slice (some ⟨G, 1, none⟩) 2 2) rfl)
              replace HO := Lib.hid (HO.out.put (j := 3) (u := .slice (some ⟨G, 1, none⟩) 2 2) HNF.out HEB.out)
              replace HD := Lib.hid (HD.out.set (j := 3) (u := .slice (some ⟨G, 1, none⟩) 2 2) hFw hFB)
              go_upto_region 11 with fail
              generalize hWs : w12.setCell ⟨F, 3, none⟩ (.slice (some ⟨G, 1, none⟩) 2 2) = W13 at *
              have HWs := Lib.hid hWs
              clear hWs c3 z3
              have c0 := HB.out.cell 0
              have c1 := HB.out.cell 1
              have c2 := HB.out.cell 2
              have c3 := HB.out.cell 3
              have c4 := HB.out.cell 4
              have c5 := HB.out.cell 5
              simp at c0 c1 c2 c3 c4 c5
              have hsz := HD.out.sz
              go_wp2_with (first | (at_builtin; refine wpList_append_own_at _ rfl _ _ 82 rfl w.heap.size 140 i0 (.agg #[.int .i64 0, .int .i64 0, .int .i64 0, .slice none 0 0, .int .i64 0, .int .i64 0]) 6 64 Try.underlying82 hi hz0 hz1 hz2 rfl (by decide) (.slice a es.length c) es.length (hosC es) rfl (HO.out.row.alloc _) ⟨W13.heap.size, 0, none⟩ 1 1 [.int .i64 I, .int .i64 x1, .int .i64 u, .slice (some ⟨G, 1, none⟩) 2 2, .int .i64 x2, .int .i64 x3] rfl rfl (cells6_newW _ _ _ _ _ _ _ _ (by simp)) (by simp [Value.oneCell']) (by unfold maxLen; omega) (by omega) (by simp; omega) ?_; intro v' wz hown' hgrow _ hat))
              have HX := Lib.hid ((HO.out.alloc (.cells #[.int .i64 I, .int .i64 x1, .int .i64 u, .slice (some ⟨G, 1, none⟩) 2 2, .int .i64 x2, .int .i64 x3] 140 (0, 0))).app (r := ⟨I, x1, u, [3, 7], x2, x3⟩) (s := .slice (some ⟨G, 1, none⟩) 2 2) (HS.out.alloc _) ⟨hII, ix1, iu, ix2, ix3⟩ HNS.out hown' hgrow hat)
              have HDz := Lib.hid ((HD.out.al (.cells #[.int .i64 I, .int .i64 x1, .int .i64 u, .slice (some ⟨G, 1, none⟩) 2 2, .int .i64 x2, .int .i64 x3] 140 (0, 0))).app hgrow (fun k hk => (HO.out.row.lt k hk).1) hlt)
              obtain ⟨na, nc, rfl⟩ := HX.out.slice
              clear hown' hgrow hat hsz HO HD HS
              go_wp2_with fail
              go_roundw
              case rel => exact ⟨k + 1, na, nc, es ++ [(⟨I, x1, u, [3, 7], x2, x3⟩, .slice (some ⟨G, 1, none⟩) 2 2)], by omega, by omega, by first | rfl | go_num, by simp, by simp; omega, by simpa using HX, Lib.hid (HDz.out.le (by have := HM.out; omega))⟩
              case measure => simp [intOf]; omega
    · have gk : decide ((k : Int) < 7) = false := decide_eq_false (by omega)
      obtain ⟨M, hM⟩ : ∃ M, K + 20 * k = M := ⟨_, rfl⟩
      have hM1 : M ≤ K + 140 := by omega
      rw [hM] at HD
      have hel6 : es.length ≤ 6 := by omega
      clear hM hel hk1 hk7 hpos
      go_wp2_with fail
      refine (pick_any B M 32 _ HD.out.cur (by omega) (by omega) (by omega)).mono ?_
      rintro e w1 ⟨m, rfl, hm0, hm1, hc, hg⟩
      replace HD := Lib.hid (HD.out.step hc hg)
      replace HO := Lib.hid (HO.out.grown hg hlt)
      clear hc hg
      by_cases e0 : m = 0
      · subst e0
        go_wp2_with fail
        refine (amongZ_any B (M + 2) _ 0 4 4 [0, 6, 99, 100] _ (HD.out.al (.cells (([0, 6, 99, 100] : List Int).map (Value.int .i64)).toArray 3)).cur (by omega) rfl (by omega) (by omega) (by have := HD.out.cur.lt; omega) (new_nums w1 [0, 6, 99, 100] 3 _ rfl)).mono ?_
        rintro e w20 ⟨y1, rfl, my1, hc, hg⟩
        have by1 : 0 ≤ y1 ∧ y1 ≤ 20001 := by simp at my1; omega
        have iy1 : inI y1 := by unfold inI; omega
        have HDn := Lib.hid ((HD.out.al (.cells (([0, 6, 99, 100] : List Int).map (Value.int .i64)).toArray 3)).step hc hg)
        have HOn := Lib.hid ((HO.out.alloc (.cells (([0, 6, 99, 100] : List Int).map (Value.int .i64)).toArray 3)).grown hg hlt)
        clear hc hg my1 HD HO
        have HD := HDn
        have HO := HOn
        clear HDn HOn
        go_wp2_with fail
        refine (amongZ_any B (M + 4) _ 0 3 3 [0, 20000, 20001] _ (HD.out.al (.cells (([0, 20000, 20001] : List Int).map (Value.int .i64)).toArray 3)).cur (by omega) rfl (by omega) (by omega) (by have := HD.out.cur.lt; omega) (new_nums w20 [0, 20000, 20001] 3 _ rfl)).mono ?_
        rintro e w21 ⟨y2, rfl, my2, hc, hg⟩
        have by2 : 0 ≤ y2 ∧ y2 ≤ 20001 := by simp at my2; omega
        have iy2 : inI y2 := by unfold inI; omega
        have HDn := Lib.hid ((HD.out.al (.cells (([0, 20000, 20001] : List Int).map (Value.int .i64)).toArray 3)).step hc hg)
        have HOn := Lib.hid ((HO.out.alloc (.cells (([0, 20000, 20001] : List Int).map (Value.int .i64)).toArray 3)).grown hg hlt)
        clear hc hg my2 HD HO
        have HD := HDn
        have HO := HOn
        clear HDn HOn
        go_wp2_with fail
        refine (amongZ_any B (M + 6) _ 0 3 3 [-1, 0, 20001] _ (HD.out.al (.cells (([-1, 0, 20001] : List Int).map (Value.int .i64)).toArray 3)).cur (by omega) rfl (by omega) (by omega) (by have := HD.out.cur.lt; omega) (new_nums w21 [-1, 0, 20001] 3 _ rfl)).mono ?_
        rintro e w22 ⟨y3, rfl, my3, hc, hg⟩
        have by3 : -1 ≤ y3 ∧ y3 ≤ 20001 := by simp at my3; omega
        have iy3 : inI y3 := by unfold inI; omega
        have HDn := Lib.hid ((HD.out.al (.cells (([-1, 0, 20001] : List Int).map (Value.int .i64)).toArray 3)).step hc hg)
        have HOn := Lib.hid ((HO.out.alloc (.cells (([-1, 0, 20001] : List Int).map (Value.int .i64)).toArray 3)).grown hg hlt)
        clear hc hg my3 HD HO
        have HD := HDn
        have HO := HOn
        clear HDn HOn
        obtain ⟨E, hE⟩ : ∃ E, w22.heap.size = E := ⟨_, rfl⟩
        have HE : Hid (SerW w.heap.size (w22.alloc (.cells #[] 3 (0, 0))) (.slice (some ⟨E, 0, none⟩) 0 0) []) := Lib.hid (by rw [← hE]; exact SerW.empty w22 HD.out.sz _)
        have hs3 : (w22.alloc (.cells #[] 3 (0, 0))).heap.size = E + 1 := by simp; exact hE
        have HNE : Hid (∀ g, Value.ownBlock (.slice (some ⟨E, 0, none⟩) 0 0) = some g → Value.ownBlock (.slice a es.length c) ≠ some g) := Lib.hid (fun g h1 h2 => by simp [Value.ownBlock] at h1; have := HO.out.lt g h2; omega)
        replace HD := Lib.hid (HD.out.al (.cells #[] 3 (0, 0)))
        replace HO := Lib.hid (HO.out.alloc (.cells #[] 3 (0, 0)))
        go_wp2_with fail
        try clear hE
        generalize hW3 : w22.alloc (.cells #[] 3 (0, 0)) = W3 at *
        have HW3 := Lib.hid hW3
        clear hW3
        refine (amongZ_any B (M + 8) (E + 1) 0 2 2 [0, 20001] _ (HD.out.al (.cells (([0, 20001] : List Int).map (Value.int .i64)).toArray 3)).cur (by omega) rfl (by omega) (by omega) (by have := HD.out.cur.lt; omega) (by rw [← hs3]; exact new_nums W3 [0, 20001] 3 _ rfl)).mono ?_
        rintro e w23 ⟨y4, rfl, my4, hc, hg⟩
        have by4 : 0 ≤ y4 ∧ y4 ≤ 20001 := by simp at my4; omega
        have iy4 : inI y4 := by unfold inI; omega
        have i0' : inI 0 := by simp [inI]
        replace HD := Lib.hid ((HD.out.al (.cells (([0, 20001] : List Int).map (Value.int .i64)).toArray 3)).step hc hg)
        replace HO := Lib.hid ((HO.out.alloc (.cells (([0, 20001] : List Int).map (Value.int .i64)).toArray 3)).grown hg hlt)
        replace HE := Lib.hid ((HE.out.alloc (.cells (([0, 20001] : List Int).map (Value.int .i64)).toArray 3)).grown hg hlt)
        clear hc hg my4
        have hsz := HD.out.sz
        go_wp2_with (first | (at_builtin; refine wpList_append_own_at _ rfl _ _ 82 rfl w.heap.size 140 i0 (.agg #[.int .i64 0, .int .i64 0, .int .i64 0, .slice none 0 0, .int .i64 0, .int .i64 0]) 6 64 Try.underlying82 hi hz0 hz1 hz2 rfl (by decide) (.slice a es.length c) es.length (hosC es) rfl (HO.out.row.alloc _) ⟨w23.heap.size, 0, none⟩ 1 1 [.int .i64 y1, .int .i64 y2, .int .i64 y3, .slice (some ⟨E, 0, none⟩) 0 0, .int .i64 0, .int .i64 y4] rfl rfl (cells6_newW _ _ _ _ _ _ _ _ (by simp)) (by simp [Value.oneCell']) (by unfold maxLen; omega) (by omega) (by simp; omega) ?_; intro v' wz hown' hgrow _ hat))
        have HX := Lib.hid ((HO.out.alloc (.cells #[.int .i64 y1, .int .i64 y2, .int .i64 y3, .slice (some ⟨E, 0, none⟩) 0 0, .int .i64 0, .int .i64 y4] 140 (0, 0))).app (r := ⟨y1, y2, y3, [], 0, y4⟩) (s := .slice (some ⟨E, 0, none⟩) 0 0) (HE.out.alloc _) ⟨iy1, iy2, iy3, i0', iy4⟩ HNE.out hown' hgrow hat)
        have HDz := Lib.hid ((HD.out.al (.cells #[.int .i64 y1, .int .i64 y2, .int .i64 y3, .slice (some ⟨E, 0, none⟩) 0 0, .int .i64 0, .int .i64 y4] 140 (0, 0))).app hgrow (fun k hk => (HO.out.row.lt k hk).1) hlt)
        obtain ⟨na, nc, rfl⟩ := HX.out.slice
        clear hown' hgrow hat hsz HO HD HE
        go_wp2_with fail
        go_ret
        exact ⟨_, es ++ [(⟨y1, y2, y3, [], 0, y4⟩, .slice (some ⟨E, 0, none⟩) 0 0)], rfl, by simp; omega, by simpa using HX.out, (HDz.out.le (by omega)).cur, HDz.out.gr⟩
      · have b0 : (m == 0) = false := beq_eq_false_iff_ne.2 e0
        by_cases e1 : m = 1
        · subst e1
          replace HD : Hid (Dk w w1 B (M + 2 + 2 * es.length)) := Lib.hid (HD.out.le (by omega))
          go_wp2_with fail
          obtain ⟨wo, hwo⟩ : ∃ x, x = wr := ⟨_, rfl⟩
          subst hwo
          go_loopw [3] (fun l wr => ∃ (a : Option Addr) (c : Nat) (es : List (Ho × Value)), l = .slice a es.length c ∧ es.length ≤ 9 ∧ Hid (HosW w.heap.size wr (.slice a es.length c) es) ∧ Hid (Dk w wr B (M + 2 + 2 * es.length))) (fun l _ => 10 - lenOfH l)
          case atStart => exact ⟨a, c, es, rfl, by omega, HO, HD⟩
          case round =>
            clear HO HD hel6
            obtain ⟨a, c, es, rfl, hel, HO, HD⟩ := hrel
            obtain ⟨L, hL⟩ : ∃ L, M + 2 + 2 * es.length = L := ⟨_, rfl⟩
            rw [hL] at HD
            have hL1 : L ≤ M + 2 + 2 * es.length := by omega
            have hL2 : M + 2 + 2 * es.length ≤ L := by omega
            clear hL
            go_wp2_with fail
            refine (pick_any B L 2 _ HD.out.cur (by omega) (by omega) (by omega)).mono ?_
            rintro e w30 ⟨d, rfl, hd0, hd1, hc, hg⟩
            replace HD := Lib.hid (HD.out.step hc hg)
            replace HO := Lib.hid (HO.out.grown hg hlt)
            clear hc hg
            have hwd : IntKind.i64.wrap (8 + d) = 8 + d := Go.IntWalk.i64_in _ (by omega)
            by_cases hq : (es.length : Int) < 8 + d
            · have hlt2 : decide ((es.length : Int) < 8 + d) = true := decide_eq_true hq
              obtain ⟨y, hy⟩ : ∃ y : Int, 50 + (es.length : Int) = y := ⟨_, rfl⟩
              have hwy : IntKind.i64.wrap (50 + (es.length : Int)) = y := by rw [Go.IntWalk.i64_in _ (by omega)]; exact hy
              have iy : inI y := by unfold inI; omega
              have i0' : inI 0 := by simp [inI]
              have i1' : inI (-1) := by simp [inI]
              have HY := Lib.hid hy
              clear hy
              obtain ⟨E, hE⟩ : ∃ E, w30.heap.size = E := ⟨_, rfl⟩
              have HE : Hid (SerW w.heap.size (w30.alloc (.cells #[] 3 (0, 0))) (.slice (some ⟨E, 0, none⟩) 0 0) []) := Lib.hid (by rw [← hE]; exact SerW.empty w30 HD.out.sz _)
              have hs3 : (w30.alloc (.cells #[] 3 (0, 0))).heap.size = E + 1 := by simp; exact hE
              have HNE : Hid (∀ g, Value.ownBlock (.slice (some ⟨E, 0, none⟩) 0 0) = some g → Value.ownBlock (.slice a es.length c) ≠ some g) := Lib.hid (fun g h1 h2 => by simp [Value.ownBlock] at h1; have := HO.out.lt g h2; omega)
              replace HD := Lib.hid (HD.out.al (.cells #[] 3 (0, 0)))
              replace HO := Lib.hid (HO.out.alloc (.cells #[] 3 (0, 0)))
              have hsz := HD.out.sz
              go_wp2_with (first | (at_builtin; refine wpList_append_own_at _ rfl _ _ 82 rfl w.heap.size 140 i0 (.agg #[.int .i64 0, .int .i64 0, .int .i64 0, .slice none 0 0, .int .i64 0, .int .i64 0]) 6 64 Try.underlying82 hi hz0 hz1 hz2 rfl (by decide) (.slice a es.length c) es.length (hosC es) rfl (HO.out.row.alloc _) ⟨E + 1, 0, none⟩ 1 1 [.int .i64 y, .int .i64 0, .int .i64 (-1), .slice (some ⟨E, 0, none⟩) 0 0, .int .i64 0, .int .i64 0] rfl rfl (cells6_newW _ _ _ _ _ _ _ _ (by rw [hs3])) (by simp [Value.oneCell']) (by unfold maxLen; omega) (by omega) (by simp; omega) ?_; intro v' wz hown' hgrow _ hat))
              have HX := Lib.hid ((HO.out.alloc (.cells #[.int .i64 y, .int .i64 0, .int .i64 (-1), .slice (some ⟨E, 0, none⟩) 0 0, .int .i64 0, .int .i64 0] 140 (0, 0))).app (r := ⟨y, 0, (-1), [], 0, 0⟩) (s := .slice (some ⟨E, 0, none⟩) 0 0) (HE.out.alloc _) ⟨iy, i0', i1', i0', i0'⟩ HNE.out hown' hgrow hat)
              have HDz := Lib.hid ((HD.out.al (.cells #[.int .i64 y, .int .i64 0, .int .i64 (-1), .slice (some ⟨E, 0, none⟩) 0 0, .int .i64 0, .int .i64 0] 140 (0, 0))).app hgrow (fun k hk => (HO.out.row.lt k hk).1) hlt)
              obtain ⟨na, nc, rfl⟩ := HX.out.slice
              clear hown' hgrow hat hsz HO HD HE
              go_wp2_with fail
              go_roundw
              case rel => exact ⟨na, nc, es ++ [(⟨y, 0, (-1), [], 0, 0⟩, .slice (some ⟨E, 0, none⟩) 0 0)], by first | rfl | simp, by simp; omega, by simpa using HX, Lib.hid (HDz.out.le (by simp; omega))⟩
              case measure => simp [lenOfH]; omega
            · have hlt2 : decide ((es.length : Int) < 8 + d) = false := decide_eq_false hq
              have HQ := Lib.hid hq
              clear hq
              go_wp2_with fail
              go_ret
              exact ⟨_, es, rfl, by omega, HO.out, (HD.out.le (by omega)).cur, HD.out.gr⟩
        · have b1 : (m == 1) = false := beq_eq_false_iff_ne.2 e1
          by_cases e2 : m = 2
          · subst e2
            obtain ⟨G, hG⟩ : ∃ G, w1.heap.size = G := ⟨_, rfl⟩
            have HL : Hid (∀ j (hj : j < ([1, 2, 3, 4, 5, 6] : List Int).length), (w1.alloc (.cells (([1, 2, 3, 4, 5, 6] : List Int).map (Value.int .i64)).toArray 3)).cell? ⟨G, 0 + j, none⟩ = some (.int .i64 ([1, 2, 3, 4, 5, 6] : List Int)[j])) := Lib.hid (by rw [← hG]; exact new_nums w1 [1, 2, 3, 4, 5, 6] 3 _ rfl)
            have hGB : B < G := by have := HD.out.cur.lt; omega
            have hGw : w.heap.size ≤ G := by have := HD.out.sz; omega
            have hGs : G < (w1.alloc (.cells (([1, 2, 3, 4, 5, 6] : List Int).map (Value.int .i64)).toArray 3)).heap.size := by simp; omega
            have HNG : Hid (∀ g, Value.ownBlock (.slice a es.length c) = some g → g ≠ G) := Lib.hid (fun g h1 => by have := HO.out.lt g h1; omega)
            have HGE := Lib.hid hG
            go_wp2_with fail
            try rw [hG]
            clear hG
            refine (pick_any B (M + 2) 2 _ (HD.out.al (.cells (([1, 2, 3, 4, 5, 6] : List Int).map (Value.int .i64)).toArray 3)).cur (by omega) (by omega) (by omega)).mono ?_
            rintro e w20 ⟨r, rfl, hr0, hr1, hc, hg⟩
            replace HL : Hid (∀ j (hj : j < ([1, 2, 3, 4, 5, 6] : List Int).length), w20.cell? ⟨G, 0 + j, none⟩ = some (.int .i64 ([1, 2, 3, 4, 5, 6] : List Int)[j])) := Lib.hid (fun j hj => hg.cell (HL.out j hj) (by simp; omega))
            replace HO := Lib.hid ((HO.out.alloc (.cells (([1, 2, 3, 4, 5, 6] : List Int).map (Value.int .i64)).toArray 3)).grown hg hlt)
            replace HD := Lib.hid ((HD.out.al (.cells (([1, 2, 3, 4, 5, 6] : List Int).map (Value.int .i64)).toArray 3)).step hc hg)
            have hGs2 : G < w20.heap.size := Nat.lt_of_lt_of_le hGs hg.size
            have i0' : inI 0 := by simp [inI]
            have i1' : inI (-1) := by simp [inI]
            have i9' : inI 9 := by simp [inI]
            have i98 : inI 98 := by simp [inI]
            clear hc hg hGs
            obtain rfl | rfl : r = 0 ∨ r = 1 := by omega
            · have HS : Hid (SerW w.heap.size w20 (.slice (some ⟨G, 0, none⟩) 6 6) [1, 2, 3, 4, 5, 6]) := Lib.hid (by simpa using SerW.from (n := 6) (i := 0) hGw hGs2 rfl (by omega) (by omega) HL.out)
              have HNS : Hid (∀ g, Value.ownBlock (.slice (some ⟨G, 0, none⟩) 6 6) = some g → Value.ownBlock (.slice a es.length c) ≠ some g) := Lib.hid (fun g h1 h2 => by simp [Value.ownBlock] at h1; exact HNG.out g h2 h1.symm)
              have hsz := HD.out.sz
              go_wp2_with (first | (at_builtin; refine wpList_append_own_at _ rfl _ _ 82 rfl w.heap.size 140 i0 (.agg #[.int .i64 0, .int .i64 0, .int .i64 0, .slice none 0 0, .int .i64 0, .int .i64 0]) 6 64 Try.underlying82 hi hz0 hz1 hz2 rfl (by decide) (.slice a es.length c) es.length (hosC es) rfl (HO.out.row.alloc _) ⟨w20.heap.size, 0, none⟩ 1 1 [.int .i64 98, .int .i64 0, .int .i64 (-1), .slice (some ⟨G, 0, none⟩) 6 6, .int .i64 0, .int .i64 9] rfl rfl (cells6_newW _ _ _ _ _ _ _ _ (by simp)) (by simp [Value.oneCell']) (by unfold maxLen; omega) (by omega) (by simp; omega) ?_; intro v' wz hown' hgrow _ hat))
              have HX := Lib.hid ((HO.out.alloc (.cells #[.int .i64 98, .int .i64 0, .int .i64 (-1), .slice (some ⟨G, 0, none⟩) 6 6, .int .i64 0, .int .i64 9] 140 (0, 0))).app (r := ⟨98, 0, (-1), [1, 2, 3, 4, 5, 6], 0, 9⟩) (s := .slice (some ⟨G, 0, none⟩) 6 6) (HS.out.alloc _) ⟨i98, i0', i1', i0', i9'⟩ HNS.out hown' hgrow hat)
              have HDz := Lib.hid ((HD.out.al (.cells #[.int .i64 98, .int .i64 0, .int .i64 (-1), .slice (some ⟨G, 0, none⟩) 6 6, .int .i64 0, .int .i64 9] 140 (0, 0))).app hgrow (fun k hk => (HO.out.row.lt k hk).1) hlt)
              obtain ⟨na, nc, rfl⟩ := HX.out.slice
              clear hown' hgrow hat hsz HO HD HS
              go_wp2_with fail
              go_ret
              exact ⟨_, es ++ [(⟨98, 0, (-1), [1, 2, 3, 4, 5, 6], 0, 9⟩, .slice (some ⟨G, 0, none⟩) 6 6)], rfl, by simp; omega, by simpa using HX.out, (HDz.out.le (by omega)).cur, HDz.out.gr⟩
            · have HS : Hid (SerW w.heap.size w20 (.slice (some ⟨G, 1, none⟩) 5 5) [2, 3, 4, 5, 6]) := Lib.hid (by simpa using SerW.from (n := 6) (i := 1) hGw hGs2 rfl (by omega) (by omega) HL.out)
              have HNS : Hid (∀ g, Value.ownBlock (.slice (some ⟨G, 1, none⟩) 5 5) = some g → Value.ownBlock (.slice a es.length c) ≠ some g) := Lib.hid (fun g h1 h2 => by simp [Value.ownBlock] at h1; exact HNG.out g h2 h1.symm)
              have hsz := HD.out.sz
              go_wp2_with (first | (at_builtin; refine wpList_append_own_at _ rfl _ _ 82 rfl w.heap.size 140 i0 (.agg #[.int .i64 0, .int .i64 0, .int .i64 0, .slice none 0 0, .int .i64 0, .int .i64 0]) 6 64 Try.underlying82 hi hz0 hz1 hz2 rfl (by decide) (.slice a es.length c) es.length (hosC es) rfl (HO.out.row.alloc _) ⟨w20.heap.size, 0, none⟩ 1 1 [.int .i64 98, .int .i64 0, .int .i64 (-1), .slice (some ⟨G, 1, none⟩) 5 5, .int .i64 0, .int .i64 9] rfl rfl (cells6_newW _ _ _ _ _ _ _ _ (by simp)) (by simp [Value.oneCell']) (by unfold maxLen; omega) (by omega) (by simp; omega) ?_; intro v' wz hown' hgrow _ hat))
              have HX := Lib.hid ((HO.out.alloc (.cells #[.int .i64 98, .int .i64 0, .int .i64 (-1), .slice (some ⟨G, 1, none⟩) 5 5, .int .i64 0, .int .i64 9] 140 (0, 0))).app (r := ⟨98, 0, (-1), [2, 3, 4, 5, 6], 0, 9⟩) (s := .slice (some ⟨G, 1, none⟩) 5 5) (HS.out.alloc _) ⟨i98, i0', i1', i0', i9'⟩ HNS.out hown' hgrow hat)
              have HDz := Lib.hid ((HD.out.al (.cells #[.int .i64 98, .int .i64 0, .int .i64 (-1), .slice (some ⟨G, 1, none⟩) 5 5, .int .i64 0, .int .i64 9] 140 (0, 0))).app hgrow (fun k hk => (HO.out.row.lt k hk).1) hlt)
              obtain ⟨na, nc, rfl⟩ := HX.out.slice
              clear hown' hgrow hat hsz HO HD HS
              go_wp2_with fail
              go_ret
              exact ⟨_, es ++ [(⟨98, 0, (-1), [2, 3, 4, 5, 6], 0, 9⟩, .slice (some ⟨G, 1, none⟩) 5 5)], rfl, by simp; omega, by simpa using HX.out, (HDz.out.le (by omega)).cur, HDz.out.gr⟩
          · have b2 : (m == 2) = false := beq_eq_false_iff_ne.2 e2
            go_wp2_with fail
            go_ret
            exact ⟨_, es, rfl, by omega, HO.out, (HD.out.le (by omega)).cur, HD.out.gr⟩
end Go.Proofs.Ytenjajcknmfhfaa
