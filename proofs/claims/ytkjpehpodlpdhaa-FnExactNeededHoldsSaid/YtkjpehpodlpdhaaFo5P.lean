/- The model's l1Put: a number into a rising list of numbers. -/
import Derived.Test.YtkjpehpodlpdhaaIntsN
import Derived.Test.YtkjpehpodlpdhaaPutI
import Derived.Test.YtkjpehpodlpdhaaFoM
import Derived.Deep.RegionLaw
import Derived.Deep.RegionHeld3
namespace Go.Proofs.Ytkjpehpodlpdhaa
set_option linter.unusedVariables false
open Go.RowKit

theorem cells_grownI {W W' : World} {row : Option Nat} {ad : Addr} {cs : List Value} (hg : W.grownBy W' row) (hc : ∀ j u, cs[j]? = some u → W.cell? (ad.add j) = some u) (hne : some ad.block ≠ row) : ∀ j u, cs[j]? = some u → W'.cell? (ad.add j) = some u := fun j u hj =>
  (World.cell?_of_block (w := W) (hg.block _ (World.block_lt_of_cell? _ _ (hc j u hj)) (by show some (ad.add j).block ≠ row; rw [show (ad.add j).block = ad.block by unfold Addr.add; split <;> rfl]; exact hne))).trans (hc j u hj)

set_option maxRecDepth 20000 in
set_option maxHeartbeats 8000000 in
theorem l1PutA_any (v : Value) (l : List Int) (n : Int) (w : World) (h : RowOf vI w v l) (hp : l.Pairwise (· < ·)) (hne : 0 < l.length ∨ ∃ g o c, v = .slice (some ⟨g, o, none⟩) l.length c ∧ g < w.heap.size) (hl : l.length ≤ 1048576) (hm : n ∉ l) :
    Calls Try.prog 110 #[v, .int .i64 n] w fun e w' => ∃ v', e = .returned v' ∧ w'.ownsRow w.heap.size 3 1 v' (putI l n).length ((putI l n).map vI) ∧ Below w.heap.size w w' := by
  obtain ⟨i0, hi, hz0, hz1, hz2⟩ := info_parts Try.info_intN
  obtain ⟨a, c, rfl, hl1, hm1, r⟩ := h
  unfold maxLen at hm1
  obtain ⟨g, o, hg, rfl, e1⟩ : ∃ g o, g < w.heap.size ∧ a = some ⟨g, o, none⟩ ∧ ∀ i (h : i < l.length), w.cell? ⟨g, o + i, none⟩ = some (vI l[i]) := by
    rcases r with rfl | r
    · rcases hne with h | ⟨g, o, c', e, hg⟩
      · simp at h
      · cases e
        exact ⟨g, o, hg, rfl, fun i h => absurd h (by simp)⟩
    · exact r
  clear hne
  have E1 := Lib.hid e1
  have HP := Lib.hid hp
  have HM := Lib.hid hm
  clear e1 hp hm r
  go_enter Try.func110, Try.ntmps110
  go_wp2_with fail
  go_loopw [5] (fun i wr => ∃ k : Nat, k ≤ l.length ∧ i = .int .i64 k ∧ w = wr ∧ Hid (∀ j, j < k → l.getD j 0 < n)) (fun i _ => l.length - (Go.RowKit.intOf i).toNat)
  case atStart => exact ⟨0, Nat.zero_le _, rfl, by trivial, Lib.hid (fun j hj => absurd hj (Nat.not_lt_zero _))⟩
  case round =>
    obtain ⟨k, hk, rfl, hww, HK⟩ := hrel
    subst hww
    by_cases hgo : k < l.length ∧ l.getD k 0 < n
    · obtain ⟨hlt, hx⟩ := hgo
      obtain ⟨x, hs⟩ : ∃ s, l[k] = s := ⟨_, rfl⟩
      have f0 := E1.out k hlt
      rw [hs] at f0
      simp only [vI] at f0
      rw [getI_lt hlt, hs] at hx
      have hd : decide (x < n) = true := decide_eq_true hx
      have HS := Lib.hid hs
      have HX := Lib.hid hx
      have g0 : (0 : Int) ≤ (k : Int) := by omega
      have g1 : (k : Int) < (l.length : Int) := by omega
      clear hs hx
      go_wp2_with fail
      go_roundw
      case rel => exact ⟨k + 1, by omega, by go_num, by trivial, Lib.hid (fun j hj => by
        rcases Nat.lt_or_ge j k with q | q
        · exact HK.out j q
        · have : j = k := by omega
          subst this
          rw [getI_lt hlt, HS.out]; exact HX.out)⟩
      case measure => simp [Go.RowKit.intOf]; omega
    · have HT : Hid (putI l n = l.take k ++ n :: l.drop k) := Lib.hid (up_less HP.out hk (fun i hi => by rw [← getI_lt]; exact HK.out i hi) (fun h => by
        have h1 : ¬ l.getD k 0 < n := fun q => hgo ⟨h, q⟩
        rw [getI_lt h] at h1
        have h2 : l[k] ≠ n := fun e => HM.out (by rw [← e]; exact List.getElem_mem h)
        omega))
      obtain ⟨NEWS1, hN1⟩ : ∃ N, (l.take k).map vI = N := ⟨_, rfl⟩
      obtain ⟨NEWS2, hN2⟩ : ∃ N, (l.drop k).map vI = N := ⟨_, rfl⟩
      have HL1 : Hid (NEWS1.length = k * 1) := Lib.hid (by rw [← hN1, List.length_map, List.length_take, Nat.min_eq_left hk, Nat.mul_one])
      have HL2 : Hid (NEWS2.length = (l.length - k) * 1) := Lib.hid (by rw [← hN2, List.length_map, List.length_drop, Nat.mul_one])
      have HO1 : Hid (∀ u ∈ NEWS1, u.oneCell' = true) := Lib.hid (by rw [← hN1]; intro u hu; obtain ⟨z, _, rfl⟩ := List.mem_map.1 hu; rfl)
      have HO2 : Hid (∀ u ∈ NEWS2, u.oneCell' = true) := Lib.hid (by rw [← hN2]; intro u hu; obtain ⟨z, _, rfl⟩ := List.mem_map.1 hu; rfl)
      have hall : ∀ W, Below w.heap.size w W → ∀ (j : Nat) (hj : j < l.length), W.cell? ⟨g, o + j, none⟩ = some (vI l[j]) := fun W hW j hj => cell_kept (E1.out j hj) hW
      have HN1 : Hid (∀ W, Below w.heap.size w W → ∀ j u, NEWS1[j]? = some u → W.cell? ((⟨g, o, none⟩ : Addr).add j) = some u) := Lib.hid (fun W hW j u hj => by
        rw [← hN1, List.getElem?_map] at hj
        obtain ⟨z, hz, rfl⟩ := Option.map_eq_some_iff.1 hj
        obtain ⟨h1, h2⟩ := List.getElem?_eq_some_iff.1 hz
        rw [List.length_take] at h1
        rw [List.getElem_take] at h2
        rw [Addr.add_lit, ← h2]
        exact hall W hW j (by omega))
      obtain ⟨adr, hA, hN2c⟩ : ∃ A : Addr, (if c = k then some (⟨g, o, none⟩ : Addr) else some ⟨g, o + k, none⟩) = some A ∧ Hid (∀ W, Below w.heap.size w W → ∀ j u, NEWS2[j]? = some u → W.cell? (A.add j) = some u) := by
        by_cases hc : c = k
        · refine ⟨⟨g, o, none⟩, by simp [hc], Lib.hid (fun W hW j u hj => ?_)⟩
          have h0 : NEWS2.length = 0 := by rw [HL2.out]; omega
          rw [List.length_eq_zero_iff.1 h0] at hj
          simp at hj
        · refine ⟨⟨g, o + k, none⟩, by simp [hc], Lib.hid (fun W hW j u hj => ?_)⟩
          rw [← hN2, List.getElem?_map] at hj
          obtain ⟨z, hz, rfl⟩ := Option.map_eq_some_iff.1 hj
          obtain ⟨h1, h2⟩ := List.getElem?_eq_some_iff.1 hz
          rw [List.length_drop] at h1
          rw [List.getElem_drop] at h2
          rw [Addr.add_lit, ← h2, Nat.add_assoc]
          exact hall W hW (k + j) (by omega)
      have HN2 := hN2c
      have HN1E := Lib.hid hN1
      have HN2E := Lib.hid hN2
      have b0 : Below w.heap.size w w.drew := (Below.refl _ _).drew
      have kI0 : (0 : Int) ≤ (k : Int) := by omega
      have kI1 : (k : Int) ≤ (l.length : Int) := by omega
      have kc : k ≤ c := by omega
      clear hN1 hN2 hN2c
      have hcell : k < l.length → ∃ x : Int, w.cell? ⟨g, o + k, none⟩ = some (.int .i64 x) ∧ decide (x < n) = false ∧ (x == n) = false := fun hlt => by
        have h1 : ¬ l.getD k 0 < n := fun q => hgo ⟨hlt, q⟩
        rw [getI_lt hlt] at h1
        exact ⟨l[k], E1.out k hlt, decide_eq_false h1, by simp; exact fun e => HM.out (by rw [← e]; exact List.getElem_mem hlt)⟩
      clear hall
      have HE : Hid (((l.take k ++ n :: l.drop k).map vI : List Value) = ([] ++ NEWS1 ++ [.int .i64 n] ++ NEWS2 : List Value)) := Lib.hid (by
        rw [List.map_append, List.map_cons, HN1E.out, HN2E.out]
        simp [vI])
      have HLE : Hid ((l.take k ++ n :: l.drop k).length = 0 + k + 1 + (l.length - k)) := Lib.hid (by rw [List.length_append, List.length_cons, List.length_take, List.length_drop]; omega)
      rcases Nat.lt_or_ge k l.length with hlt | hge
      · obtain ⟨x, f0, hd1, hd2⟩ := hcell hlt
        have g1 : (k : Int) < (l.length : Int) := by omega
        clear hcell hgo
        go_wp2_with fail
        go_region_held3 (fun _ => True) (exact trivial) (first | (rw [if_pos (by rfl)]; refine wp_append_own _ _ _ _ rfl w.heap.size 3 i0 (.int .i64 0) 1 8 Try.underlying33 hi hz0 hz1 hz2 rfl (by decide) (.slice (some ⟨w.heap.size, 0, none⟩) 0 0) 0 [] (by rfl) (by first | exact World.ownsRow_made w.drew #[] 0 (Nat.le_refl _) (Nat.zero_le _) rfl | exact World.ownsRow.alloc (World.ownsRow_made w.drew #[] 0 (Nat.le_refl _) (Nat.zero_le _) rfl) _) ⟨g, o, none⟩ k c NEWS1 (by rfl) HL1.out (by exact HN1.out _ (by first | exact below_al b0 _ | exact below_al (below_al b0 _) _)) HO1.out (by unfold maxLen; omega) (by omega) (by (first | omega | (simp; done) | (simp; omega))) ?_; intro v5 w5 hown5 hg5 _; have b5 : Below w.heap.size w w5 := Below.grown (by first | exact below_al b0 _ | exact below_al (below_al b0 _) _) hg5 (by (first | omega | (simp; done) | (simp; omega))) (by intro kk hk; cases hk; exact Nat.le_refl _); have s5 := b5.size) | (rw [if_pos (by rfl)]; refine wp_append_own _ _ _ _ rfl w.heap.size 3 i0 (.int .i64 0) 1 8 Try.underlying33 hi hz0 hz1 hz2 rfl (by decide) (.slice (some ⟨w.heap.size + 1, 0, none⟩) 0 0) 0 [] (by rfl) (by have hh := World.ownsRow_made (base := w.heap.size) (e := 3) (size := 1) (w.drew.alloc (.cells #[.int .i64 n] 3 (0, 0))) #[] 0 (by simp) (Nat.zero_le _) rfl; rw [show (w.drew.alloc (.cells #[.int .i64 n] 3 (0, 0))).heap.size = w.heap.size + 1 by simp] at hh; exact hh) ⟨g, o, none⟩ k c NEWS1 (by rfl) HL1.out (by exact HN1.out _ (by first | exact below_al b0 _ | exact below_al (below_al b0 _) _)) HO1.out (by unfold maxLen; omega) (by omega) (by (first | omega | (simp; done) | (simp; omega))) ?_; intro v5 w5 hown5 hg5 _; have b5 : Below w.heap.size w w5 := Below.grown (by first | exact below_al b0 _ | exact below_al (below_al b0 _) _) hg5 (by (first | omega | (simp; done) | (simp; omega))) (by intro kk hk; cases hk; exact Nat.le_succ _); have s5 := b5.size) | (rw [if_pos (by rfl)]; refine wp_append_own _ _ _ _ rfl w.heap.size 3 i0 (.int .i64 0) 1 8 Try.underlying33 hi hz0 hz1 hz2 rfl (by decide) v5 (0 + k) ([] ++ NEWS1) (by rfl) (by exact hown5.alloc _) ⟨w5.heap.size, 0, none⟩ 1 1 [.int .i64 n] (by rfl) rfl (by exact cell_oneN _ _ _ rfl) (by simp [Value.oneCell']) (by unfold maxLen; omega) (by omega) (by (first | omega | (simp; done) | (simp; omega))) ?_; intro v6 w6 hown6 hg6 _; have b6 : Below w.heap.size w w6 := Below.grown (by first | exact b5 | exact below_al b5 _) hg6 (by (first | omega | (simp; done) | (simp; omega))) (by exact fun kk hk => (hown5.lt kk hk).1); have s6 := b6.size) | (rw [if_pos (by rfl)]; refine wp_append_own _ _ _ _ rfl w.heap.size 3 i0 (.int .i64 0) 1 8 Try.underlying33 hi hz0 hz1 hz2 rfl (by decide) v5 (0 + k) ([] ++ NEWS1) (by rfl) (by exact hown5) ⟨w.heap.size + 1, 0, none⟩ 1 1 [.int .i64 n] (by rfl) rfl (by exact cells_grownI hg5 (cell_oneN _ _ _ (by simp)) (by simp [Value.ownBlock])) (by simp [Value.oneCell']) (by unfold maxLen; omega) (by omega) (by (first | omega | (simp; done) | (simp; omega))) ?_; intro v6 w6 hown6 hg6 _; have b6 : Below w.heap.size w w6 := Below.grown (by first | exact b5 | exact below_al b5 _) hg6 (by (first | omega | (simp; done) | (simp; omega))) (by exact fun kk hk => (hown5.lt kk hk).1); have s6 := b6.size) | (rw [if_pos (by rfl)]; refine wp_append_own _ _ _ _ rfl w.heap.size 3 i0 (.int .i64 0) 1 8 Try.underlying33 hi hz0 hz1 hz2 rfl (by decide) v5 (0 + k) ([] ++ NEWS1) (by rfl) (by exact hown5) ⟨w.heap.size, 0, none⟩ 1 1 [.int .i64 n] (by rfl) rfl (by exact cells_grownI hg5 (fun j u hj => below_al_cell (cell_oneN w.drew _ _ rfl j u hj) _) (by simp [Value.ownBlock])) (by simp [Value.oneCell']) (by unfold maxLen; omega) (by omega) (by (first | omega | (simp; done) | (simp; omega))) ?_; intro v6 w6 hown6 hg6 _; have b6 : Below w.heap.size w w6 := Below.grown (by first | exact b5 | exact below_al b5 _) hg6 (by (first | omega | (simp; done) | (simp; omega))) (by exact fun kk hk => (hown5.lt kk hk).1); have s6 := b6.size) | (rw [if_pos (by rfl)]; refine wp_append_own _ _ _ _ rfl w.heap.size 3 i0 (.int .i64 0) 1 8 Try.underlying33 hi hz0 hz1 hz2 rfl (by decide) v6 (0 + k + 1) ([] ++ NEWS1 ++ [.int .i64 n]) (by rfl) (by exact hown6) adr (l.length - k) (c - k) NEWS2 (by rfl) HL2.out (by exact HN2.out _ b6) HO2.out (by unfold maxLen; omega) (by omega) (by (first | omega | (simp; done) | (simp; omega))) ?_; intro v7 w7 hown7 hg7 _; have b7 : Below w.heap.size w w7 := Below.grown (by exact b6) hg7 (by (first | omega | (simp; done) | (simp; omega))) (by exact fun kk hk => (hown6.lt kk hk).1); have s7 := b7.size))
        all_goals
          go_wp2_with fail
          go_ret
          refine ⟨_, rfl, ?_, b7⟩
          rw [HT.out, HE.out, HLE.out]
          exact hown7
      · have g1 : ¬ (k : Int) < (l.length : Int) := by omega
        have d0 : decide ((k : Int) < (l.length : Int)) = false := decide_eq_false g1
        have d1 : decide (k < l.length) = false := decide_eq_false (by omega)
        have HLZ : Hid (NEWS2.length = 0 * 1) := Lib.hid (by rw [HL2.out]; omega)
        have HLF : Hid ((l.take k ++ n :: l.drop k).length = 0 + k + 1 + 0) := Lib.hid (by rw [HLE.out]; omega)
        clear hcell hgo
        go_wp2_with fail
        go_region_held3 (fun _ => True) (exact trivial) (first | (rw [if_pos (by rfl)]; refine wp_append_own _ _ _ _ rfl w.heap.size 3 i0 (.int .i64 0) 1 8 Try.underlying33 hi hz0 hz1 hz2 rfl (by decide) (.slice (some ⟨w.heap.size, 0, none⟩) 0 0) 0 [] (by rfl) (by first | exact World.ownsRow_made w.drew #[] 0 (Nat.le_refl _) (Nat.zero_le _) rfl | exact World.ownsRow.alloc (World.ownsRow_made w.drew #[] 0 (Nat.le_refl _) (Nat.zero_le _) rfl) _) ⟨g, o, none⟩ k c NEWS1 (by rfl) HL1.out (by exact HN1.out _ (by first | exact below_al b0 _ | exact below_al (below_al b0 _) _)) HO1.out (by unfold maxLen; omega) (by omega) (by (first | omega | (simp; done) | (simp; omega))) ?_; intro v5 w5 hown5 hg5 _; have b5 : Below w.heap.size w w5 := Below.grown (by first | exact below_al b0 _ | exact below_al (below_al b0 _) _) hg5 (by (first | omega | (simp; done) | (simp; omega))) (by intro kk hk; cases hk; exact Nat.le_refl _); have s5 := b5.size) | (rw [if_pos (by rfl)]; refine wp_append_own _ _ _ _ rfl w.heap.size 3 i0 (.int .i64 0) 1 8 Try.underlying33 hi hz0 hz1 hz2 rfl (by decide) (.slice (some ⟨w.heap.size + 1, 0, none⟩) 0 0) 0 [] (by rfl) (by have hh := World.ownsRow_made (base := w.heap.size) (e := 3) (size := 1) (w.drew.alloc (.cells #[.int .i64 n] 3 (0, 0))) #[] 0 (by simp) (Nat.zero_le _) rfl; rw [show (w.drew.alloc (.cells #[.int .i64 n] 3 (0, 0))).heap.size = w.heap.size + 1 by simp] at hh; exact hh) ⟨g, o, none⟩ k c NEWS1 (by rfl) HL1.out (by exact HN1.out _ (by first | exact below_al b0 _ | exact below_al (below_al b0 _) _)) HO1.out (by unfold maxLen; omega) (by omega) (by (first | omega | (simp; done) | (simp; omega))) ?_; intro v5 w5 hown5 hg5 _; have b5 : Below w.heap.size w w5 := Below.grown (by first | exact below_al b0 _ | exact below_al (below_al b0 _) _) hg5 (by (first | omega | (simp; done) | (simp; omega))) (by intro kk hk; cases hk; exact Nat.le_succ _); have s5 := b5.size) | (rw [if_pos (by rfl)]; refine wp_append_own _ _ _ _ rfl w.heap.size 3 i0 (.int .i64 0) 1 8 Try.underlying33 hi hz0 hz1 hz2 rfl (by decide) v5 (0 + k) ([] ++ NEWS1) (by rfl) (by exact hown5.alloc _) ⟨w5.heap.size, 0, none⟩ 1 1 [.int .i64 n] (by rfl) rfl (by exact cell_oneN _ _ _ rfl) (by simp [Value.oneCell']) (by unfold maxLen; omega) (by omega) (by (first | omega | (simp; done) | (simp; omega))) ?_; intro v6 w6 hown6 hg6 _; have b6 : Below w.heap.size w w6 := Below.grown (by first | exact b5 | exact below_al b5 _) hg6 (by (first | omega | (simp; done) | (simp; omega))) (by exact fun kk hk => (hown5.lt kk hk).1); have s6 := b6.size) | (rw [if_pos (by rfl)]; refine wp_append_own _ _ _ _ rfl w.heap.size 3 i0 (.int .i64 0) 1 8 Try.underlying33 hi hz0 hz1 hz2 rfl (by decide) v5 (0 + k) ([] ++ NEWS1) (by rfl) (by exact hown5) ⟨w.heap.size + 1, 0, none⟩ 1 1 [.int .i64 n] (by rfl) rfl (by exact cells_grownI hg5 (cell_oneN _ _ _ (by simp)) (by simp [Value.ownBlock])) (by simp [Value.oneCell']) (by unfold maxLen; omega) (by omega) (by (first | omega | (simp; done) | (simp; omega))) ?_; intro v6 w6 hown6 hg6 _; have b6 : Below w.heap.size w w6 := Below.grown (by first | exact b5 | exact below_al b5 _) hg6 (by (first | omega | (simp; done) | (simp; omega))) (by exact fun kk hk => (hown5.lt kk hk).1); have s6 := b6.size) | (rw [if_pos (by rfl)]; refine wp_append_own _ _ _ _ rfl w.heap.size 3 i0 (.int .i64 0) 1 8 Try.underlying33 hi hz0 hz1 hz2 rfl (by decide) v5 (0 + k) ([] ++ NEWS1) (by rfl) (by exact hown5) ⟨w.heap.size, 0, none⟩ 1 1 [.int .i64 n] (by rfl) rfl (by exact cells_grownI hg5 (fun j u hj => below_al_cell (cell_oneN w.drew _ _ rfl j u hj) _) (by simp [Value.ownBlock])) (by simp [Value.oneCell']) (by unfold maxLen; omega) (by omega) (by (first | omega | (simp; done) | (simp; omega))) ?_; intro v6 w6 hown6 hg6 _; have b6 : Below w.heap.size w w6 := Below.grown (by first | exact b5 | exact below_al b5 _) hg6 (by (first | omega | (simp; done) | (simp; omega))) (by exact fun kk hk => (hown5.lt kk hk).1); have s6 := b6.size) | (rw [if_pos (by rfl)]; refine wp_append_own _ _ _ _ rfl w.heap.size 3 i0 (.int .i64 0) 1 8 Try.underlying33 hi hz0 hz1 hz2 rfl (by decide) v6 (0 + k + 1) ([] ++ NEWS1 ++ [.int .i64 n]) (by rfl) (by exact hown6) adr 0 (c - k) NEWS2 (by rfl) HLZ.out (by exact HN2.out _ b6) HO2.out (by unfold maxLen; omega) (by omega) (by (first | omega | (simp; done) | (simp; omega))) ?_; intro v7 w7 hown7 hg7 _; have b7 : Below w.heap.size w w7 := Below.grown (by exact b6) hg7 (by (first | omega | (simp; done) | (simp; omega))) (by exact fun kk hk => (hown6.lt kk hk).1); have s7 := b7.size))
        all_goals
          go_wp2_with fail
          go_ret
          refine ⟨_, rfl, ?_, b7⟩
          rw [HT.out, HE.out, HLF.out]
          exact hown7
theorem l1Put_any (v : Value) (l : List Int) (n : Int) (w : World) (h : RowOf vI w v l) (hp : l.Pairwise (· < ·)) (hne : 0 < l.length) (hl : l.length ≤ 1048576) (hm : n ∉ l) :
    Calls Try.prog 110 #[v, .int .i64 n] w fun e w' => ∃ v', e = .returned v' ∧ w'.ownsRow w.heap.size 3 1 v' (putI l n).length ((putI l n).map vI) ∧ Below w.heap.size w w' := l1PutA_any v l n w h hp (.inl hne) hl hm
end Go.Proofs.Ytkjpehpodlpdhaa
