/- The draw of triggers. -/
import Derived.Test.YtenjajcknmfhfaaSlTg
import Derived.Test.YtenjajcknmfhfaaDrwZ
import Derived.Test.YtenjajcknmfhfaaInSer1
namespace Go.Proofs.Ytenjajcknmfhfaa
set_option linter.unusedVariables false
open Go.RowKit

theorem TgsO.grown {lo hi B : Nat} {w w' : World} {v : Value} {t : List Tg} (h : TgsO lo hi w v t) (hg : w.grownBy w' (some B)) (hB : B < lo) : TgsO lo hi w' v t := ⟨⟨own_grown h.1.1 hg hB, h.1.2⟩, h.2⟩
theorem TgsO.ofO {lo hi : Nat} {w : World} {v : Value} {t : List Tg} (h : TgsO lo hi w v t) : w.ownsRow lo 34 3 v t.length ((t.map tgC).flatten) := by
  have := h.1.1
  rwa [List.length_map] at this
theorem cells3T_new (w : World) (a b c : Value) (t : TypeId) {k : Nat} (hk : k = w.heap.size) : ∀ j u, [a, b, c][j]? = some u → (w.alloc (.cells #[a, b, c] t (0, 0))).cell? ((⟨k, 0, none⟩ : Addr).add j) = some u := by
  subst hk
  intro j u hj
  rw [Addr.add_lit, Nat.zero_add]
  exact cell_new w _ _ j (by simpa using hj)
def lenOf : Value → Nat
  | .slice _ n _ => n
  | _ => 0
theorem TgsO.lenS {lo hi : Nat} {w : World} {v : Value} {t : List Tg} (h : TgsO lo hi w v t) : ∃ a c, v = .slice a t.length c := by
  obtain ⟨a, c, h1, _⟩ := h.row
  exact ⟨a, c, h1⟩
theorem quo_natT (R d : Nat) : Int.tdiv (R : Int) (d : Int) = ((R / d : Nat) : Int) := by simp [Int.tdiv]
theorem rem_natT (R d : Nat) : Int.tmod (R : Int) (d : Int) = ((R % d : Nat) : Int) := by simp [Int.tmod]
/-- Triggers that are drawn: the call's own. -/
def TgDrawn (w : World) (B K : Nat) (e : Ending) (w' : World) : Prop := ∃ v t, e = .returned v ∧ t.length ≤ 12 ∧ TgsO w.heap.size w'.heap.size w' v t ∧ Dk w w' B K

set_option maxRecDepth 20000 in
set_option maxHeartbeats 4000000 in
theorem triggers_any (B K : Nat) (w : World) (h : Cur w B K) (hK : K ≤ 50000) :
    Calls Try.prog 76 #[.pointer (some ⟨B, 0, none⟩)] w (TgDrawn w B (K + 400)) := by
  obtain ⟨i0, hi, hz0, hz1, hz2⟩ := info_parts Try.info_tg
  have hlt := h.lt
  have hBw : B < w.heap.size := hlt
  have HD : Hid (Dk w (w.alloc (.cells #[] 34 (0, 0))) B K) := Lib.hid ((Dk.start h).al _)
  have HO : Hid (TgsO w.heap.size (w.alloc (.cells #[] 34 (0, 0))).heap.size (w.alloc (.cells #[] 34 (0, 0))) (.slice (some ⟨w.heap.size, 0, none⟩) 0 0) []) := Lib.hid (TgsO.empty w (Nat.le_refl _))
  clear h
  go_enter Try.func76, Try.ntmps76
  go_wp2_with fail
  go_loopw [3, 4] (fun o i wr => ∃ (v : Value) (t : List Tg) (k : Nat), k ≤ 6 ∧ i = .int .i64 ((k : Int) + 1) ∧ o = v ∧ t.length ≤ 10 ∧ Hid (Dk w wr B (K + 50 * k)) ∧ Hid (TgsO w.heap.size wr.heap.size wr v t)) (fun _ i _ => 7 - (intOf i).toNat)
  case atStart => exact ⟨_, [], 0, by omega, rfl, rfl, by simp, HD, HO⟩
  case round =>
    clear HD HO
    obtain ⟨v, t, k, hk, rfl, rfl, htl, HD, HO⟩ := hrel
    obtain ⟨va, vc, hv⟩ := HO.out.lenS
    subst hv
    by_cases hk6 : k < 6
    · have g6 : (k : Int) + 1 ≤ 6 := by omega
      have hw1 : IntKind.i64.wrap ((k : Int) + 1 + 1) = (k : Int) + 1 + 1 := Go.IntWalk.i64_in _ (by omega)
      go_wp2_with fail
      obtain ⟨wo, hwo⟩ : ∃ x, x = wr := ⟨_, rfl⟩
      subst hwo
      go_loopw [3, 5] (fun o i wr => ∃ (v : Value) (t : List Tg) (j : Nat), j ≤ 7 ∧ i = .int .i64 j ∧ o = v ∧ t.length ≤ 10 ∧ Hid (Dk w wr B (K + 50 * k + 7 * j)) ∧ Hid (TgsO w.heap.size wr.heap.size wr v t)) (fun _ i _ => 7 - (intOf i).toNat)
      case atStart => exact ⟨_, t, 0, by omega, rfl, rfl, htl, Lib.hid (HD.out.le (by omega)), HO⟩
      case round =>
        clear HD HO htl
        obtain ⟨v, t, j, hj, rfl, rfl, htl, HD, HO⟩ := hrel
        obtain ⟨va, vc, hv⟩ := HO.out.lenS
        subst hv
        obtain ⟨M, hM⟩ : ∃ M, K + 50 * k + 7 * j = M := ⟨_, rfl⟩
        rw [hM] at HD
        have hM1 : M ≤ K + 50 * k + 7 * j := by omega
        have hM2 : K + 50 * k + 7 * j ≤ M := by omega
        clear hM
        by_cases hj7 : j < 7
        · have g7 : (j : Int) ≤ 6 := by omega
          have hwj : IntKind.i64.wrap ((j : Int) + 1) = (j : Int) + 1 := Go.IntWalk.i64_in _ (by omega)
          by_cases hjk : (j : Int) = (k : Int) + 1
          · have ejk : ((j : Int) == (k : Int) + 1) = true := by simp [hjk]
            have HJK := Lib.hid hjk
            clear hjk
            go_wp2_with fail
            go_roundw
            case rel => exact ⟨_, t, j + 1, by omega, by go_num, rfl, htl, Lib.hid (HD.out.le (by omega)), HO⟩
            case measure => simp [intOf]; omega
          · have ejk : ((j : Int) == (k : Int) + 1) = false := by simp [hjk]
            have HJK := Lib.hid hjk
            clear hjk
            by_cases hgt : (k : Int) + 1 < (j : Int)
            · have dgt : decide ((k : Int) + 1 < (j : Int)) = true := decide_eq_true hgt
              go_wp2_with fail
              refine (one_any B (M) 16 _ HD.out.cur (by omega) (by omega) (by omega)).mono ?_
              rintro e w1 ⟨r0, rfl, hc, hg⟩
              have HD2 := Lib.hid (HD.out.step hc hg)
              have HO2 := Lib.hid ((HO.out.grown hg (by omega)).wide (Nat.le_refl _) hg.size)
              clear hc hg HD HO
              cases r0
              · go_wp2_with fail
                go_roundw
                case rel => exact ⟨_, t, j + 1, by omega, by go_num, rfl, htl, Lib.hid (HD2.out.le (by omega)), HO2⟩
                case measure => simp [intOf]; omega
              · go_wp2_with fail
                refine (one_any B (M + 2) 4 _ HD2.out.cur (by omega) (by omega) (by omega)).mono ?_
                rintro e w3 ⟨r, rfl, hc, hg⟩
                have HD4 := Lib.hid (HD2.out.step hc hg)
                have HO4 := Lib.hid ((HO2.out.grown hg (by omega)).wide (Nat.le_refl _) hg.size)
                clear hc hg HD2 HO2
                cases r
                · go_wp2_with fail
                  go_roundw
                  case rel => exact ⟨_, t, j + 1, by omega, by go_num, rfl, htl, Lib.hid (HD4.out.le (by omega)), HO4⟩
                  case measure => simp [intOf]; omega
                · by_cases h10 : t.length = 10
                  · have e10 : ((t.length : Int) == 10) = true := by simp; omega
                    have HT10 := Lib.hid h10
                    clear h10
                    go_wp2_with fail
                    go_roundw
                    case rel => exact ⟨_, t, j + 1, by omega, by go_num, rfl, htl, Lib.hid (HD4.out.le (by omega)), HO4⟩
                    case measure => simp [intOf]; omega
                  · have e10 : ((t.length : Int) == 10) = false := by simp; omega
                    go_wp2_with fail
                    refine (amongZ_any B (M + 2 + 2) w3.heap.size 0 5 5 [0, 1, 30, 365, 10000] _ (HD4.out.al (.cells (([0, 1, 30, 365, 10000] : List Int).map (Value.int .i64)).toArray 3)).cur (by omega) rfl (by omega) (by omega) (by have := HD4.out.cur.lt; omega) (new_nums w3 [0, 1, 30, 365, 10000] 3 _ rfl)).mono ?_
                    rintro e w5 ⟨x, rfl, mx, hc, hg⟩
                    have ix : inI x := by simp at mx; unfold inI; omega
                    have HD6 := Lib.hid ((HD4.out.al (.cells (([0, 1, 30, 365, 10000] : List Int).map (Value.int .i64)).toArray 3)).step hc hg)
                    have HO6 := Lib.hid (((HO4.out.alloc (.cells (([0, 1, 30, 365, 10000] : List Int).map (Value.int .i64)).toArray 3)).grown hg (by omega)).wide (Nat.le_refl _) (Nat.le_trans (by simp) hg.size))
                    clear hc hg HD4 HO4 mx
                    have hsz := HD6.out.sz
                    have hOr := HO6.out.ofO
                    go_wp2_with (first | (at_builtin; refine wpList_append_own _ rfl _ _ 24 rfl w.heap.size 34 i0 (.agg #[.int .i64 0, .int .i64 0, .int .i64 0]) 3 24 Try.underlying24 hi hz0 hz1 hz2 rfl (by decide) (.slice va t.length vc) t.length ((t.map tgC).flatten) rfl (hOr.alloc _) ⟨w5.heap.size, 0, none⟩ 1 1 [.int .i64 ((k : Int) + 1), .int .i64 (j : Int), .int .i64 x] rfl rfl (cells3T_new _ _ _ _ _ rfl) (by simp [Value.oneCell']) (by unfold maxLen; omega) (by omega) (by simp; omega) ?_; intro v' w' hown hgr _))
                    have HDa := Lib.hid ((HD6.out.al _).app hgr (fun k hk => (hOr.lt k hk).1) hBw)
                    have HOa : Hid (TgsO w.heap.size w'.heap.size w' v' (t ++ [⟨(k : Int) + 1, (j : Int), x⟩])) := Lib.hid (TgsO.of_row (n := t.length + 1) (by
                      have e : ((t ++ [(⟨(k : Int) + 1, (j : Int), x⟩ : Tg)]).map tgC).flatten = ((t.map tgC).flatten ++ [.int .i64 ((k : Int) + 1), .int .i64 (j : Int), .int .i64 x] : List Value) := by
                        rw [List.map_append, List.flatten_append]
                        simp [tgC]
                      rw [e]; exact hown) (by simp) (fun f hf => by
                      rcases List.mem_append.1 hf with h | h
                      · exact HO6.out.2.1 f h
                      · rw [List.mem_singleton.1 h]; exact ⟨by simp only [inI]; omega, by simp only [inI]; omega, ix⟩))
                    clear hown hgr hOr hsz HD6 HO6
                    go_wp2_with fail
                    go_roundw
                    case rel => exact ⟨_, t ++ [⟨(k : Int) + 1, (j : Int), x⟩], j + 1, by omega, by go_num, rfl, by simp; omega, Lib.hid (HDa.out.le (by omega)), HOa⟩
                    case measure => simp [intOf]; omega
            · have dgt : decide ((k : Int) + 1 < (j : Int)) = false := decide_eq_false hgt
              go_wp2_with fail
              refine (one_any B (M) 4 _ HD.out.cur (by omega) (by omega) (by omega)).mono ?_
              rintro e w7 ⟨r, rfl, hc, hg⟩
              have HD8 := Lib.hid (HD.out.step hc hg)
              have HO8 := Lib.hid ((HO.out.grown hg (by omega)).wide (Nat.le_refl _) hg.size)
              clear hc hg HD HO
              cases r
              · go_wp2_with fail
                go_roundw
                case rel => exact ⟨_, t, j + 1, by omega, by go_num, rfl, htl, Lib.hid (HD8.out.le (by omega)), HO8⟩
                case measure => simp [intOf]; omega
              · by_cases h10 : t.length = 10
                · have e10 : ((t.length : Int) == 10) = true := by simp; omega
                  have HT10 := Lib.hid h10
                  clear h10
                  go_wp2_with fail
                  go_roundw
                  case rel => exact ⟨_, t, j + 1, by omega, by go_num, rfl, htl, Lib.hid (HD8.out.le (by omega)), HO8⟩
                  case measure => simp [intOf]; omega
                · have e10 : ((t.length : Int) == 10) = false := by simp; omega
                  go_wp2_with fail
                  refine (amongZ_any B (M + 2) w7.heap.size 0 5 5 [0, 1, 30, 365, 10000] _ (HD8.out.al (.cells (([0, 1, 30, 365, 10000] : List Int).map (Value.int .i64)).toArray 3)).cur (by omega) rfl (by omega) (by omega) (by have := HD8.out.cur.lt; omega) (new_nums w7 [0, 1, 30, 365, 10000] 3 _ rfl)).mono ?_
                  rintro e w9 ⟨x, rfl, mx, hc, hg⟩
                  have ix : inI x := by simp at mx; unfold inI; omega
                  have HD10 := Lib.hid ((HD8.out.al (.cells (([0, 1, 30, 365, 10000] : List Int).map (Value.int .i64)).toArray 3)).step hc hg)
                  have HO10 := Lib.hid (((HO8.out.alloc (.cells (([0, 1, 30, 365, 10000] : List Int).map (Value.int .i64)).toArray 3)).grown hg (by omega)).wide (Nat.le_refl _) (Nat.le_trans (by simp) hg.size))
                  clear hc hg HD8 HO8 mx
                  have hsz := HD10.out.sz
                  have hOr := HO10.out.ofO
                  go_wp2_with (first | (at_builtin; refine wpList_append_own _ rfl _ _ 24 rfl w.heap.size 34 i0 (.agg #[.int .i64 0, .int .i64 0, .int .i64 0]) 3 24 Try.underlying24 hi hz0 hz1 hz2 rfl (by decide) (.slice va t.length vc) t.length ((t.map tgC).flatten) rfl (hOr.alloc _) ⟨w9.heap.size, 0, none⟩ 1 1 [.int .i64 ((k : Int) + 1), .int .i64 (j : Int), .int .i64 x] rfl rfl (cells3T_new _ _ _ _ _ rfl) (by simp [Value.oneCell']) (by unfold maxLen; omega) (by omega) (by simp; omega) ?_; intro v' w' hown hgr _))
                  have HDa := Lib.hid ((HD10.out.al _).app hgr (fun k hk => (hOr.lt k hk).1) hBw)
                  have HOa : Hid (TgsO w.heap.size w'.heap.size w' v' (t ++ [⟨(k : Int) + 1, (j : Int), x⟩])) := Lib.hid (TgsO.of_row (n := t.length + 1) (by
                    have e : ((t ++ [(⟨(k : Int) + 1, (j : Int), x⟩ : Tg)]).map tgC).flatten = ((t.map tgC).flatten ++ [.int .i64 ((k : Int) + 1), .int .i64 (j : Int), .int .i64 x] : List Value) := by
                      rw [List.map_append, List.flatten_append]
                      simp [tgC]
                    rw [e]; exact hown) (by simp) (fun f hf => by
                    rcases List.mem_append.1 hf with h | h
                    · exact HO10.out.2.1 f h
                    · rw [List.mem_singleton.1 h]; exact ⟨by simp only [inI]; omega, by simp only [inI]; omega, ix⟩))
                  clear hown hgr hOr hsz HD10 HO10
                  go_wp2_with fail
                  go_roundw
                  case rel => exact ⟨_, t ++ [⟨(k : Int) + 1, (j : Int), x⟩], j + 1, by omega, by go_num, rfl, by simp; omega, Lib.hid (HDa.out.le (by omega)), HOa⟩
                  case measure => simp [intOf]; omega
        · have g7 : ¬ (j : Int) ≤ 6 := by omega
          have hj77 : j = 7 := by omega
          clear hj7
          subst hj77
          go_wp2_with fail
          go_roundw
          case rel => exact ⟨_, t, k + 1, by omega, by go_num, rfl, htl, Lib.hid (HD.out.le (by omega)), HO⟩
          case measure => simp [intOf]; omega
    · have g6 : ¬ (k : Int) + 1 ≤ 6 := by omega
      have hk66 : k = 6 := by omega
      clear hk6
      subst hk66
      obtain ⟨M, hM⟩ : ∃ M, K + 50 * 6 = M := ⟨_, rfl⟩
      rw [hM] at HD
      have hM1 : M ≤ K + 300 := by omega
      have hM2 : K + 300 ≤ M := by omega
      clear hM
      go_wp2_with fail
      refine (pick_any B (M) 32 _ HD.out.cur (by omega) (by omega) (by omega)).mono ?_
      rintro e w11 ⟨m, rfl, m0, m1, hc, hg⟩
      have HD12 := Lib.hid (HD.out.step hc hg)
      have HO12 := Lib.hid ((HO.out.grown hg (by omega)).wide (Nat.le_refl _) hg.size)
      clear hc hg HD HO
      by_cases e0 : m = 0
      · subst e0
        go_wp2_with fail
        refine (amongZ_any B (M + 2) w11.heap.size 0 4 4 [0, 1, 9, 10] _ (HD12.out.al (.cells (([0, 1, 9, 10] : List Int).map (Value.int .i64)).toArray 3)).cur (by omega) rfl (by omega) (by omega) (by have := HD12.out.cur.lt; omega) (new_nums w11 [0, 1, 9, 10] 3 _ rfl)).mono ?_
        rintro e w13 ⟨x, rfl, mx, hc, hg⟩
        have ix : inI x := by simp at mx; unfold inI; omega
        have HD14 := Lib.hid ((HD12.out.al (.cells (([0, 1, 9, 10] : List Int).map (Value.int .i64)).toArray 3)).step hc hg)
        have HO14 := Lib.hid (((HO12.out.alloc (.cells (([0, 1, 9, 10] : List Int).map (Value.int .i64)).toArray 3)).grown hg (by omega)).wide (Nat.le_refl _) (Nat.le_trans (by simp) hg.size))
        clear hc hg HD12 HO12 mx
        go_wp2_with fail
        refine (amongZ_any B (M + 2 + 2) w13.heap.size 0 3 3 [0, 9, 10] _ (HD14.out.al (.cells (([0, 9, 10] : List Int).map (Value.int .i64)).toArray 3)).cur (by omega) rfl (by omega) (by omega) (by have := HD14.out.cur.lt; omega) (new_nums w13 [0, 9, 10] 3 _ rfl)).mono ?_
        rintro e w15 ⟨y, rfl, my, hc, hg⟩
        have iy : inI y := by simp at my; unfold inI; omega
        have HD16 := Lib.hid ((HD14.out.al (.cells (([0, 9, 10] : List Int).map (Value.int .i64)).toArray 3)).step hc hg)
        have HO16 := Lib.hid (((HO14.out.alloc (.cells (([0, 9, 10] : List Int).map (Value.int .i64)).toArray 3)).grown hg (by omega)).wide (Nat.le_refl _) (Nat.le_trans (by simp) hg.size))
        clear hc hg HD14 HO14 my
        go_wp2_with fail
        refine (amongZ_any B (M + 2 + 2 + 2) w15.heap.size 0 2 2 [0, 10001] _ (HD16.out.al (.cells (([0, 10001] : List Int).map (Value.int .i64)).toArray 3)).cur (by omega) rfl (by omega) (by omega) (by have := HD16.out.cur.lt; omega) (new_nums w15 [0, 10001] 3 _ rfl)).mono ?_
        rintro e w17 ⟨z, rfl, mz, hc, hg⟩
        have iz : inI z := by simp at mz; unfold inI; omega
        have HD18 := Lib.hid ((HD16.out.al (.cells (([0, 10001] : List Int).map (Value.int .i64)).toArray 3)).step hc hg)
        have HO18 := Lib.hid (((HO16.out.alloc (.cells (([0, 10001] : List Int).map (Value.int .i64)).toArray 3)).grown hg (by omega)).wide (Nat.le_refl _) (Nat.le_trans (by simp) hg.size))
        clear hc hg HD16 HO16 mz
        have hsz := HD18.out.sz
        have hOr := HO18.out.ofO
        go_wp2_with (first | (at_builtin; refine wpList_append_own _ rfl _ _ 24 rfl w.heap.size 34 i0 (.agg #[.int .i64 0, .int .i64 0, .int .i64 0]) 3 24 Try.underlying24 hi hz0 hz1 hz2 rfl (by decide) (.slice va t.length vc) t.length ((t.map tgC).flatten) rfl (hOr.alloc _) ⟨w17.heap.size, 0, none⟩ 1 1 [.int .i64 x, .int .i64 y, .int .i64 z] rfl rfl (cells3T_new _ _ _ _ _ rfl) (by simp [Value.oneCell']) (by unfold maxLen; omega) (by omega) (by simp; omega) ?_; intro v' w' hown hgr _))
        have HDa := Lib.hid ((HD18.out.al _).app hgr (fun k hk => (hOr.lt k hk).1) hBw)
        have HOa : Hid (TgsO w.heap.size w'.heap.size w' v' (t ++ [⟨x, y, z⟩])) := Lib.hid (TgsO.of_row (n := t.length + 1) (by
          have e : ((t ++ [(⟨x, y, z⟩ : Tg)]).map tgC).flatten = ((t.map tgC).flatten ++ [.int .i64 x, .int .i64 y, .int .i64 z] : List Value) := by
            rw [List.map_append, List.flatten_append]
            simp [tgC]
          rw [e]; exact hown) (by simp) (fun f hf => by
          rcases List.mem_append.1 hf with h | h
          · exact HO18.out.2.1 f h
          · rw [List.mem_singleton.1 h]; exact ⟨ix, iy, iz⟩))
        clear hown hgr hOr hsz HD18 HO18
        go_wp2_with fail
        go_ret
        exact ⟨_, t ++ [(⟨x, y, z⟩ : Tg)], rfl, by simp; omega, HOa.out, HDa.out.le (by omega)⟩
      · have b0 : (m == 0) = false := beq_eq_false_iff_ne.2 e0
        by_cases e1 : m = 1
        · subst e1
          have HDn := Lib.hid (HD12.out.al (.cells #[] 34 (0, 0)))
          have HOn : Hid (TgsO w.heap.size (w11.alloc (.cells #[] 34 (0, 0))).heap.size (w11.alloc (.cells #[] 34 (0, 0))) (.slice (some ⟨w11.heap.size, 0, none⟩) 0 0) []) := Lib.hid (TgsO.empty w11 HD12.out.sz)
          clear HD12 HO12 htl
          go_wp2_with fail
          obtain ⟨wo, hwo⟩ : ∃ x, x = wr := ⟨_, rfl⟩
          subst hwo
          go_loopw [3] (fun o wr => ∃ (v : Value) (t : List Tg), o = v ∧ t.length ≤ 11 ∧ Hid (Dk w wr B (M + 2 + 2 * t.length)) ∧ Hid (TgsO w.heap.size wr.heap.size wr v t)) (fun o _ => 12 - (lenOf o))
          case atStart => exact ⟨_, [], rfl, by simp, HDn, HOn⟩
          case round =>
            clear HDn HOn
            obtain ⟨v, t, rfl, htl, HD, HO⟩ := hrel
            obtain ⟨L, hL⟩ : ∃ L, M + 2 + 2 * t.length = L := ⟨_, rfl⟩
            rw [hL] at HD
            have hL1 : L ≤ M + 2 + 2 * t.length := by omega
            have hL2 : M + 2 + 2 * t.length ≤ L := by omega
            clear hL
            obtain ⟨va, vc, hv⟩ := HO.out.lenS
            subst hv
            go_wp2_with fail
            refine (pick_any B (L) 2 _ HD.out.cur (by omega) (by omega) (by omega)).mono ?_
            rintro e w19 ⟨d, rfl, d0, d1, hc, hg⟩
            have HD20 := Lib.hid (HD.out.step hc hg)
            have HO20 := Lib.hid ((HO.out.grown hg (by omega)).wide (Nat.le_refl _) hg.size)
            clear hc hg HD HO
            have hwd : IntKind.i64.wrap (10 + d) = 10 + d := Go.IntWalk.i64_in _ (by omega)
            by_cases hq : (t.length : Int) < 10 + d
            · have hlt2 : decide ((t.length : Int) < 10 + d) = true := decide_eq_true hq
              obtain ⟨qd, hqd⟩ : ∃ q, t.length / 2 = q := ⟨_, rfl⟩
              obtain ⟨rd, hrd⟩ : ∃ q, t.length % 2 = q := ⟨_, rfl⟩
              have td : Int.tdiv (t.length : Int) 2 = (qd : Int) := by rw [← hqd]; exact quo_natT t.length 2
              have tm : Int.tmod (t.length : Int) 2 = (rd : Int) := by rw [← hrd]; exact rem_natT t.length 2
              have hq5 : qd ≤ 6 := by omega
              have hr5 : rd ≤ 1 := by omega
              have hw1 : IntKind.i64.wrap (qd : Int) = (qd : Int) := Go.IntWalk.i64_in _ (by omega)
              have hw2 : IntKind.i64.wrap (1 + (qd : Int)) = 1 + (qd : Int) := Go.IntWalk.i64_in _ (by omega)
              have hw3 : IntKind.i64.wrap (8 + (rd : Int)) = 8 + (rd : Int) := Go.IntWalk.i64_in _ (by omega)
              clear hqd hrd
              have hsz := HD20.out.sz
              have hOr := HO20.out.ofO
              go_wp2_with (first | (at_builtin; refine wpList_append_own _ rfl _ _ 24 rfl w.heap.size 34 i0 (.agg #[.int .i64 0, .int .i64 0, .int .i64 0]) 3 24 Try.underlying24 hi hz0 hz1 hz2 rfl (by decide) (.slice va t.length vc) t.length ((t.map tgC).flatten) rfl (hOr.alloc _) ⟨w19.heap.size, 0, none⟩ 1 1 [.int .i64 (1 + (qd : Int)), .int .i64 (8 + (rd : Int)), .int .i64 1] rfl rfl (cells3T_new _ _ _ _ _ rfl) (by simp [Value.oneCell']) (by unfold maxLen; omega) (by omega) (by simp; omega) ?_; intro v' w' hown hgr _))
              have HDa := Lib.hid ((HD20.out.al _).app hgr (fun k hk => (hOr.lt k hk).1) hBw)
              have HOa : Hid (TgsO w.heap.size w'.heap.size w' v' (t ++ [⟨1 + (qd : Int), 8 + (rd : Int), 1⟩])) := Lib.hid (TgsO.of_row (n := t.length + 1) (by
                have e : ((t ++ [(⟨1 + (qd : Int), 8 + (rd : Int), 1⟩ : Tg)]).map tgC).flatten = ((t.map tgC).flatten ++ [.int .i64 (1 + (qd : Int)), .int .i64 (8 + (rd : Int)), .int .i64 1] : List Value) := by
                  rw [List.map_append, List.flatten_append]
                  simp [tgC]
                rw [e]; exact hown) (by simp) (fun f hf => by
                rcases List.mem_append.1 hf with h | h
                · exact HO20.out.2.1 f h
                · rw [List.mem_singleton.1 h]; exact ⟨by simp only [inI]; omega, by simp only [inI]; omega, by simp [inI]⟩))
              obtain ⟨vb, vd, hv2⟩ := HOa.out.lenS
              subst hv2
              clear hown hgr hOr hsz HD20 HO20
              go_wp2_with fail
              go_roundw
              case rel => exact ⟨_, t ++ [⟨1 + (qd : Int), 8 + (rd : Int), 1⟩], by first | rfl | simp, by simp; omega, Lib.hid (HDa.out.le (by simp; omega)), by simpa using HOa⟩
              case measure => simp [lenOf]; omega
            · have hlt2 : decide ((t.length : Int) < 10 + d) = false := decide_eq_false hq
              have HQ := Lib.hid hq
              clear hq
              go_wp2_with fail
              go_ret
              exact ⟨_, t, rfl, by omega, HO20.out, HD20.out.le (by omega)⟩
        · have b1 : (m == 1) = false := beq_eq_false_iff_ne.2 e1
          go_wp2_with fail
          go_ret
          exact ⟨_, t, rfl, by omega, HO12.out, HD12.out.le (by omega)⟩
end Go.Proofs.Ytenjajcknmfhfaa
