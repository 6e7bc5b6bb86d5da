/- The nodes of events: nodesOf. -/
import Derived.Test.YtedckfbjhhabgaaTgP0
namespace Go.Proofs.Ytedckfbjhhabgaa
set_option linter.unusedVariables false
open Go.RowKit Go.Sort Go.Maps

set_option maxRecDepth 20000 in
set_option maxHeartbeats 8000000 in
theorem nodesOf_any (v : Value) (t : List Tg) (w : World) (h : RowR 3 rTg w v t) (ht : areTg t = true) :
    Calls Try.prog 70 #[v] w (NodesD t w) := by
  obtain ⟨i0, hi, hz0, hz1, hz2⟩ := info_parts Try.info_link
  have H := Lib.hid h
  obtain ⟨a1, c1, hv, hl1, hm1, r1⟩ := h.tgs
  subst hv
  have R1 := Lib.hid r1
  have HT := Lib.hid ht
  have h10 := tg_len ht
  unfold maxLen at hm1
  clear h r1 ht
  have hmm := @run_makeMap Try.prog
  have M0 : Hid (MapN (w.alloc (.map #[] 0)) w.heap.size 0 (.map [])) := Lib.hid (by simpa using World.ownsMap_made w Try.prog 3 heldV)
  go_enter Try.func70, Try.ntmps70
  go_wp2_with fail
  go_loopw [9] (fun i wr => ∃ (k : Nat) (A : List Nat) (D : DataW Value), k ≤ 10 ∧ i = .int .i64 k ∧ A.length = k ∧ Hid (MapN wr w.heap.size k D) ∧ Hid (NK D A k) ∧ Hid (∀ j, j < k → BxV wr (A.getD j 0) [.int .i64 (j : Int), .slice none 0 0] ∧ w.heap.size < A.getD j 0) ∧ Hid (∀ i j, i < k → j < k → i ≠ j → A.getD i 0 ≠ A.getD j 0) ∧ Below w.heap.size w wr ∧ w.heap.size < wr.heap.size) (fun i _ => 10 - (intOf i).toNat)
  case atStart => exact ⟨0, [], .map [], by omega, rfl, rfl, M0, Lib.hid NK.start, Lib.hid (fun j h => absurd h (Nat.not_lt_zero _)), Lib.hid (fun i j h => absurd h (Nat.not_lt_zero _)), below_al (Below.refl _ _) _, by simp⟩
  case round =>
    clear M0
    obtain ⟨k, A, D, hk, rfl, hA, HM, HK, HB, HN, hb, hs⟩ := hrel
    by_cases hlt : k < 10
    · have HIN := Lib.hid (key_n (k : Int) (by simp [inI]; omega))
      have g0 : (k : Int) < 10 := by omega
      have HPUT := Lib.hid (by have := HK.out; rw [← hA] at this; have := this.put wr.heap.size; rwa [hA] at this : NK (D.put (.int .i64 (k : Int)) (.held (.pointer (some ⟨wr.heap.size, 0, none⟩)))) (A ++ [wr.heap.size]) (k + 1))
      go_wp2_with (first | (at_mapUpdate; refine wpList_mapUpdate_own _ rfl _ _ _ 81 rfl 3 83 (int_keyed Try.underlying3) Try.underlying81 heldV w.heap.size k D rfl (HM.out.alloc _) (by unfold maxLen; omega) (.int .i64 (k : Int)) (.pointer (some ⟨wr.heap.size, 0, none⟩)) (.int .i64 (k : Int)) rfl rfl HIN.out (.held (.pointer (some ⟨wr.heap.size, 0, none⟩))) [] rfl ?_; intro w3 hown3 hg3; have HM3 := Lib.hid hown3; have HG3 := Lib.hid hg3; clear hown3 hg3))
      go_roundw
      case rel =>
        have s3 := HG3.out.size
        simp at s3
        refine ⟨k + 1, A ++ [wr.heap.size], _, by omega, by go_num, by simp [hA], HM3, HPUT, Lib.hid (fun j hj => ?_), Lib.hid (fun i j hi hj hij => ?_), (hb.alloc hb.size _).grown HG3.out (by have := hb.size; simp; omega) (fun g e => by cases e; exact Nat.le_refl _), by omega⟩
        · by_cases e : j = k
          · rw [e, ← hA, getD_snoc_eq, hA]
            exact ⟨(BxV.new wr [.int .i64 (k : Int), .slice none 0 0] 102).grown HG3.out (by simp; omega), hs⟩
          · obtain ⟨q1, q2⟩ := HB.out j (by omega)
            rw [getD_snoc_lt (by omega)]
            exact ⟨(q1.al _).grown HG3.out (by intro q; have := Option.some.inj q; omega), q2⟩
        · by_cases e1 : i = k
          · by_cases e2 : j = k
            · omega
            · rw [e1, ← hA, getD_snoc_eq, getD_snoc_lt (by omega)]
              have := (HB.out j (by omega)).1.lt
              omega
          · by_cases e2 : j = k
            · rw [e2, ← hA, getD_snoc_eq, getD_snoc_lt (by omega)]
              have := (HB.out i (by omega)).1.lt
              omega
            · rw [getD_snoc_lt (by omega), getD_snoc_lt (by omega)]
              exact HN.out i j (by omega) (by omega) hij
      case measure => simp [intOf]; omega
    · have hk10 : k = 10 := by omega
      have gk : ¬ ((k : Int) < 10) := by omega
      rw [hk10] at HM HK HB HN hA
      clear hk10 hk hlt
      obtain ⟨wo, hwo⟩ : ∃ x, x = wr := ⟨_, rfl⟩
      subst hwo
      have HAK : Hid (AK A (w.heap.size + 1) wo.heap.size) := Lib.hid ⟨hA, HN.out, fun i hi => ⟨(HB.out i hi).2, (HB.out i hi).1.lt⟩⟩
      have HS0 : Hid (NodS wo wo.heap.size A [] (fun _ => .slice none 0 0)) := Lib.hid ⟨fun k hk => (HB.out k hk).1, fun k hk => by simpa [folL] using World.ownsRow_nil wo wo.heap.size 104 2, fun k j hk hj hkj g e => by simp [Value.ownBlock] at e⟩
      clear HB HN hA
      go_wp2_with fail
      go_loopw [20] (fun i wr => ∃ (k : Nat) (sv : Nat → Value), k ≤ t.length ∧ i = .int .i64 k ∧ Hid (NodS wr wo.heap.size A (t.take k) sv) ∧ Hid (MapN wr w.heap.size 10 D) ∧ Below w.heap.size w wr ∧ wo.heap.size ≤ wr.heap.size) (fun i _ => t.length - (intOf i).toNat)
      case atStart => exact ⟨0, _, Nat.zero_le _, rfl, HS0, HM, hb, Nat.le_refl _⟩
      case round =>
        clear HS0 HM hb
        obtain ⟨k, sv, hk, rfl, HS, HM, hbw, hsz⟩ := hrel
        by_cases hlt : k < t.length
        · obtain ⟨b1, o1, hb1, rfl, e1⟩ := R1.out.resolve_left (fun e => by rw [e] at hlt; simp at hlt)
          obtain ⟨⟨x0, x1, x2⟩, hx⟩ : ∃ s, t.getD k tgD = s := ⟨_, rfl⟩
          obtain ⟨q0, q1, q2, hok⟩ := e1 k hlt
          rw [hx] at q0 q1 q2
          simp only at q0 q1 q2
          have f0 := cell_kept q0 hbw
          have f1 := cell_kept q1 hbw
          have f2 := cell_kept q2 hbw
          have htk : t.take (k + 1) = t.take k ++ [⟨x0, x1, x2⟩] := by rw [List.take_succ_eq_append_getElem hlt, ← getTg_lt hlt, hx]
          have hone := tgOne_iff.1 (tg_at HT.out hlt)
          rw [hx] at hone
          simp only at hone
          obtain ⟨n0, rfl⟩ : ∃ n : Nat, x0 = (n : Int) := ⟨x0.toNat, by omega⟩
          obtain ⟨n1, rfl⟩ : ∃ n : Nat, x1 = (n : Int) := ⟨x1.toNat, by omega⟩
          have hn0 : n0 < 10 := by omega
          have hn1 : n1 < 10 := by omega
          have HTK := Lib.hid htk
          have g0 : (0 : Int) ≤ (k : Int) := by omega
          have g1 : (k : Int) < (t.length : Int) := by omega
          obtain ⟨sx, hsx⟩ : ∃ s, sv n0 = s := ⟨_, rfl⟩
          have hrow := HS.out.row n0 hn0
          rw [hsx] at hrow
          obtain ⟨L, hL⟩ : ∃ L, (folL (t.take k) (n0 : Int)).length = L := ⟨_, rfl⟩
          have hLl : L ≤ 10 := by rw [← hL]; have := folL_len (t := t.take k) (n0 : Int); rw [List.length_take] at this; omega
          rw [hL] at hrow
          obtain ⟨sa, sc, hss, _, _⟩ := own_shape hrow
          subst hss
          have hbox := HS.out.box n0 hn0
          rw [hsx] at hbox
          have HSX := Lib.hid hsx
          have HLL := Lib.hid hL
          have HROW := Lib.hid hrow
          obtain ⟨G0, hG0⟩ : ∃ g, A.getD n0 0 = g := ⟨_, rfl⟩
          obtain ⟨G1, hG1⟩ : ∃ g, A.getD n1 0 = g := ⟨_, rfl⟩
          have hMW : MapN wr w.heap.size 10 D := HM.out
          have hlkA := fun (W : World) (hW : MapN W w.heap.size 10 D) => look_node hW HK.out n0 hn0 (Nat.le_refl _)
          have hlkB := fun (W : World) (hW : MapN W w.heap.size 10 D) => look_node hW HK.out n1 hn1 (Nat.le_refl _)
          unfold ptrA at hlkA hlkB
          rw [hG0] at hlkA hbox
          rw [hG1] at hlkB
          clear q0 q1 q2 hok e1 hx htk hone hsx hL hrow
          have hl10 := hlkA (wr.alloc (.cells #[.int .i64 (n0 : Int), .int .i64 (n1 : Int), .int .i64 x2] 63 (0, 0))) (mapN_kept hMW (grownBy_of_below (below_al (Below.refl _ _) _) none) (by simp))
          go_wp2_with fail
          generalize hWB : wr.alloc (.cells #[.int .i64 (n0 : Int), .int .i64 (n1 : Int), .int .i64 x2] 63 (0, 0)) = wB
          have bB : Below wr.heap.size wr wB := by rw [← hWB]; exact below_al (Below.refl _ _) _
          have hBs : wB.heap.size = wr.heap.size + 1 := by rw [← hWB]; simp
          have z0 : wB.cell? ⟨wr.heap.size, 0, none⟩ = some (.int .i64 (n0 : Int)) := by rw [← hWB]; exact cell_new wr _ _ 0 rfl
          have z1 : wB.cell? ⟨wr.heap.size, 1, none⟩ = some (.int .i64 (n1 : Int)) := by rw [← hWB]; exact cell_new wr _ _ 1 rfl
          have z2 : wB.cell? ⟨wr.heap.size, 2, none⟩ = some (.int .i64 x2) := by rw [← hWB]; exact cell_new wr _ _ 2 rfl
          have HSB := Lib.hid (HS.out.below bB)
          have hMB : MapN wB w.heap.size 10 D := mapN_kept hMW (grownBy_of_below bB none) (by simp)
          have hlB := hlkB wB.drew (mapN_kept hMB (grownBy_of_below ((Below.refl _ _).drew) none) (by simp))
          have HBX := Lib.hid (hbox.below bB)
          have y1 := HBX.out.cell 1
          have u1 := HBX.out.frozen 1
          simp at y1
          have hGl := HBX.out.lt
          have hG0l := (HAK.out.lt n0 hn0).2
          rw [hG0] at hG0l
          have HRB := Lib.hid (HROW.out.kept (grownBy_of_below bB none) (by rcases e : (Value.slice sa L sc).ownBlock with _ | g; (· exact .inl rfl); (· exact .inr (by simp))))
          have HNEWS := Lib.hid (cellsL_new wB [.pointer (some ⟨G1, 0, none⟩), .int .i64 x2] 104 hBs.symm)
          have y1a := below_al_cell y1 (.cells #[.pointer (some ⟨G1, 0, none⟩), .int .i64 x2] 104 (0, 0))
          clear hWB hl10 hlkA hlkB hbox hMW HROW f0 f1 f2
          have HMB := Lib.hid hMB
          have HBW := Lib.hid (hbw.trans (bB.mono hbw.size))
          have HSZ : Hid (wo.heap.size ≤ wB.heap.size) := Lib.hid (by omega)
          have HG0 := Lib.hid hG0
          have HG1 := Lib.hid hG1
          clear hMB hG0 hG1
          go_region_law (first | (rw [if_pos (by rfl)]; refine wp_append_atK _ _ _ _ rfl wo.heap.size 104 i0 (.agg #[.pointer none, .int .i64 0]) 2 16 Try.underlying100 hi hz0 hz1 hz2 rfl (by decide) (.slice sa L sc) L _ (by rfl) (show (wB.alloc (.cells #[.pointer (some ⟨G1, 0, none⟩), .int .i64 x2] 104 (0, 0))).drew.ownsRow _ _ _ _ _ _ from HRB.out.alloc _) ⟨wr.heap.size + 1, 0, none⟩ 1 1 [.pointer (some ⟨G1, 0, none⟩), .int .i64 x2] (by rfl) rfl HNEWS.out (by simp [Value.oneCell']) (by unfold maxLen; omega) (by omega) (by first | omega | (simp; done) | (simp; omega)) ?_; intro v3 w3 hown hgrow hor; have b3 : Below wo.heap.size (wB.alloc (.cells #[.pointer (some ⟨G1, 0, none⟩), .int .i64 x2] 104 (0, 0))).drew w3 := below_of_grow hgrow (by first | omega | (simp; done) | (simp; omega)) (fun k h => (HRB.out.lt k h).1); have l3 := (b3.cell (p := ⟨G0, 1, none⟩) hG0l).trans (below_al_cell y1 (.cells #[.pointer (some ⟨G1, 0, none⟩), .int .i64 x2] 104 (0, 0))); have fr3 := (b3.frozen (p := ⟨G0, 1, none⟩) hG0l).trans (al_frozenT u1 (.cells #[.pointer (some ⟨G1, 0, none⟩), .int .i64 x2] 104 (0, 0)) hGl); obtain ⟨va, vc, rfl, _, _⟩ := own_shape hown; have HOWN := Lib.hid hown; have HGR := Lib.hid hgrow; have HOR := Lib.hid hor; have HB3 := Lib.hid b3; clear hown hgrow hor b3))
          have HBS := Lib.hid hBs
          clear hlB z0 z1 z2 y1 y1a u1 l3 fr3 hBs
          all_goals
            go_wp2_with fail
            go_roundw
            case rel =>
              obtain ⟨sv', p1, p2, p3, p4⟩ := nodes_round HSB.out HAK.out HMB.out HBW.out hn0 HTK.out HSX.out HLL.out HG0.out HG1.out HSZ.out HGR.out HOR.out HOWN.out
              exact ⟨k + 1, sv', by omega, by go_num, p1, p2, p3, p4⟩
            case measure => simp [intOf]; omega
        · obtain rfl : k = t.length := by omega
          have HF := Lib.hid (by have h1 := HS.out; rw [List.take_length] at h1; exact h1.reads HAK.out : NodR wr.heap.size wr A t)
          clear HS
          go_wp2_with fail
          go_ret
          exact ⟨_, D, A, rfl, HM.out, HK.out, HF.out, Nat.le_refl _, hbw⟩
end Go.Proofs.Ytedckfbjhhabgaa
