/- The draw of a schedule. -/
import Derived.Test.YtenjajcknmfhfaaDrawRu
import Derived.Test.YtenjajcknmfhfaaPutRuS
import Derived.Test.YtenjajcknmfhfaaSlRu
namespace Go.Proofs.Ytenjajcknmfhfaa
set_option linter.unusedVariables false
open Go.RowKit Go.Sort

def SchDrawn (w : World) (B K : Nat) (e : Ending) (w' : World) : Prop := ∃ v t, e = .returned v ∧ t.length ≤ 16 ∧ RusO w.heap.size w'.heap.size w' v t ∧ Cur w' B K ∧ w.grownBy w' (some B)
theorem put_eight {t xs : List Ru} {u : Ru} (h : putRes t u = (xs, true)) : xs.length ≤ 8 := by
  unfold putRes at h
  split at h
  · rename_i hc; cases h; exact sch_len hc.2
  · cases h
theorem RusO.ofO {lo hi n : Nat} {w : World} {v : Value} {t : List Ru} (h : RusO lo hi w v t) : w.ownsRow lo 56 4 v t.length ((t.map ruC).flatten) := by
  have := h.1.1
  rwa [List.length_map] at this
theorem lit_ru (k : Nat) (h : k ≤ 16) : (⟨1, (k : Int), 5, 3⟩ : Ru).ok := ⟨by simp [inI], by simp only [inI]; omega, by simp [inI], by simp [inI]⟩
set_option maxRecDepth 20000 in
set_option maxHeartbeats 4000000 in
theorem schedule_any (B K : Nat) (w : World) (h : Cur w B K) (hK : K ≤ 50000) :
    Calls Try.prog 82 #[.pointer (some ⟨B, 0, none⟩)] w (SchDrawn w B (K + 400)) := by
  obtain ⟨i0, hi, hz0, hz1, hz2⟩ := info_parts Try.info_ru
  have hlt := h.lt
  have HD0 : Hid (Dk w (w.alloc (.cells #[] 56 (0, 0))) B K) := Lib.hid ((Dk.start h).al _)
  have HO0 : Hid (RusO w.heap.size (w.alloc (.cells #[] 56 (0, 0))).heap.size (w.alloc (.cells #[] 56 (0, 0))) (.slice (some ⟨w.heap.size, 0, none⟩) 0 0) []) := Lib.hid (RusO.empty w (Nat.le_refl _))
  clear h
  go_enter Try.func82, Try.ntmps82
  go_wp2_with fail
  refine (pick_any B K 7 _ HD0.out.cur (by omega) (by omega) (by omega)).mono ?_
  rintro e w1 ⟨n0, rfl, hn0, hn1, hc, hg⟩
  obtain ⟨N, rfl⟩ := Int.eq_ofNat_of_zero_le hn0
  have hN : N ≤ 6 := by omega
  have HD1 := Lib.hid (HD0.out.step hc hg)
  have HO1 := Lib.hid ((HO0.out.grown hg hlt).wide (Nat.le_refl _) hg.size)
  clear hc hg hn0 hn1 HD0 HO0
  go_wp2_with fail
  go_loopw [3, 4] (fun l n wr => ∃ (k : Nat) (t : List Ru), k ≤ N ∧ n = .int .i64 k ∧ t.length ≤ 8 ∧ Hid (RusO w.heap.size wr.heap.size wr l t) ∧ Hid (Dk w wr B (K + 2 + 30 * (N - k)))) (fun _ n _ => (intOf n).toNat)
  case atStart => exact ⟨N, [], Nat.le_refl _, rfl, by simp, HO1, Lib.hid (HD1.out.le (by omega))⟩
  case round =>
    clear HO1 HD1
    obtain ⟨k, t, hk, rfl, htl, HO, HD⟩ := hrel
    obtain ⟨M, hM⟩ : ∃ M, K + 2 + 30 * (N - k) = M := ⟨_, rfl⟩
    rw [hM] at HD
    by_cases hpos : 0 < k
    · have gk : (0 : Int) < (k : Int) := by omega
      have gk2 : decide ((0 : Int) < (k : Int)) = true := decide_eq_true gk
      have hkw : IntKind.i64.wrap ((k : Int) - 1) = ((k - 1 : Nat) : Int) := by
        rw [Go.IntWalk.i64_in _ (by omega)]
        omega
      go_wp2_with fail
      refine (rule_any B M _ HD.out.cur (by omega)).mono ?_
      rintro e w2 ⟨u, rfl, hok, hc, hg⟩
      have HD2 := Lib.hid (HD.out.step hc hg)
      have HO2 := Lib.hid ((HO.out.grown hg hlt).wide (Nat.le_refl _) hg.size)
      obtain ⟨xs, b, hres⟩ : ∃ xs b, putRes t u = (xs, b) := ⟨_, _, rfl⟩
      have HRES := Lib.hid hres
      clear hc hg HD HO hres
      go_wp2_with fail
      refine (specPutRule_any _ t u _ HO2.out.row hok (by omega) xs b HRES.out).mono ?_
      rintro e w3 ⟨v3, rfl, ho3, b3⟩
      have HD3 := Lib.hid (HD2.out.below b3)
      have HO3 := Lib.hid ((HO2.out.below b3).wide (Nat.le_refl _) b3.size)
      have HX3 := Lib.hid (ho3.wide HD2.out.sz (Nat.le_refl _))
      clear ho3 b3 HD2 HO2
      cases b
      · go_wp2_with fail
        go_roundw
        case rel => exact ⟨k - 1, t, by omega, rfl, htl, HO3, Lib.hid (HD3.out.le (by omega))⟩
        case measure => simp [intOf]; omega
      · have hxl := put_eight HRES.out
        go_wp2_with fail
        go_roundw
        case rel => exact ⟨k - 1, xs, by omega, rfl, hxl, HX3, Lib.hid (HD3.out.le (by omega))⟩
        case measure => simp [intOf]; omega
    · obtain rfl : k = 0 := by omega
      clear hpos hk
      go_wp2_with fail
      refine (pick_any B M 32 _ HD.out.cur (by omega) (by omega) (by omega)).mono ?_
      rintro e w2 ⟨m, rfl, hm0, hm1, hc, hg⟩
      have HD2 := Lib.hid (HD.out.step hc hg)
      have HO2 := Lib.hid ((HO.out.grown hg hlt).wide (Nat.le_refl _) hg.size)
      have hM2 : M ≤ K + 182 := by omega
      clear hc hg HD HO hM
      by_cases e0 : m = 0
      · subst e0
        go_wp2_with fail
        refine (rule_any B (M + 2) _ HD2.out.cur (by omega)).mono ?_
        rintro e w3 ⟨⟨x0, x1, x2, x3⟩, rfl, hok, hc, hg⟩
        have HD3 := Lib.hid (HD2.out.step hc hg)
        have HO3 := Lib.hid ((HO2.out.grown hg hlt).wide (Nat.le_refl _) hg.size)
        have HOK := Lib.hid hok
        have HOK3 := Lib.hid HO3.out.2.1
        have hsz := HD3.out.sz
        clear hc hg HD2 HO2 hok
        simp only
        go_wp2_with (first | (at_builtin; refine wpList_append_own _ rfl _ _ 40 rfl w.heap.size 56 i0 (.agg #[.int .i64 0, .int .i64 0, .int .i64 0, .int .i64 0]) 4 32 Try.underlying40 hi hz0 hz1 hz2 rfl (by decide) u3 t.length ((t.map ruC).flatten) rfl (HO3.out.ofO (n := 0) |>.alloc _) ⟨w3.heap.size, 0, none⟩ 1 1 [.int .i64 x0, .int .i64 x1, .int .i64 x2, .int .i64 x3] rfl rfl (cells4_new' _ _ _ _ _ _ (by simp)) (by simp [Value.oneCell']) (by unfold maxLen; omega) (by omega) (by simp; omega) ?_; intro v' w4 hown' hgrow _))
        have HX4 : Hid (RusO w.heap.size w4.heap.size w4 v' (t ++ [⟨x0, x1, x2, x3⟩])) := Lib.hid (RusO.of_row (n := t.length + 1) (by
          have e : ((t ++ [(⟨x0, x1, x2, x3⟩ : Ru)]).map ruC).flatten = ((t.map ruC).flatten ++ [.int .i64 x0, .int .i64 x1, .int .i64 x2, .int .i64 x3] : List Value) := by
            rw [List.map_append, List.flatten_append]
            simp [ruC]
          rw [e]; exact hown') (by simp) (fun f hf => by
          rcases List.mem_append.1 hf with h | h
          · exact HOK3.out f h
          · rw [List.mem_singleton.1 h]; exact HOK.out))
        have HD4 := Lib.hid ((HD3.out.al (.cells #[.int .i64 x0, .int .i64 x1, .int .i64 x2, .int .i64 x3] 56 (0, 0))).app hgrow (fun k hk => (HO3.out.1.1.lt k hk).1) hlt)
        clear hown' hgrow
        go_wp2_with fail
        go_ret
        exact ⟨_, _, rfl, by simp; omega, HX4.out, HD4.out.cur.le_K (by omega), HD4.out.gr⟩
      · have b0 : (m == 0) = false := beq_eq_false_iff_ne.2 e0
        by_cases e1 : m = 1
        · subst e1
          clear HO2
          have HD3 : Hid (Dk w (w2.alloc (.cells #[] 56 (0, 0))) B (M + 2)) := Lib.hid (HD2.out.al _)
          have HO3 : Hid (RusO w.heap.size (w2.alloc (.cells #[] 56 (0, 0))).heap.size (w2.alloc (.cells #[] 56 (0, 0))) (.slice (some ⟨w2.heap.size, 0, none⟩) 0 0) []) := Lib.hid (RusO.empty w2 HD2.out.sz)
          clear HD2
          go_wp2_with fail
          go_loopw [3] (fun l wr => ∃ (a : Option Addr) (c : Nat) (t : List Ru), t.length ≤ 9 ∧ l = .slice a t.length c ∧ Hid (RusO w.heap.size wr.heap.size wr (.slice a t.length c) t) ∧ Hid (Dk w wr B (M + 2 + 2 * t.length))) (fun l _ => match l with | .slice _ n _ => 12 - n | _ => 0)
          case atStart => exact ⟨_, _, [], by simp, rfl, HO3, HD3⟩
          case round =>
            clear HO3 HD3
            obtain ⟨a, c, t, ht, rfl, HO, HD⟩ := hrel
            go_wp2_with fail
            refine (pick_any B (M + 2 + 2 * t.length) 2 _ HD.out.cur (by omega) (by omega) (by omega)).mono ?_
            rintro e w3 ⟨d, rfl, hd0, hd1, hc, hg⟩
            have HD3 := Lib.hid (HD.out.step hc hg)
            have HO3 := Lib.hid ((HO.out.grown hg hlt).wide (Nat.le_refl _) hg.size)
            have HOK3 := Lib.hid HO3.out.2.1
            have hsz := HD3.out.sz
            clear hc hg HD HO
            have hw : IntKind.i64.wrap (8 + d) = 8 + d := Go.IntWalk.i64_in _ (by omega)
            by_cases hq : (t.length : Int) < 8 + d
            · have hq2 : decide ((t.length : Int) < 8 + d) = true := decide_eq_true hq
              go_wp2_with (first | (at_builtin; refine wpList_append_own _ rfl _ _ 40 rfl w.heap.size 56 i0 (.agg #[.int .i64 0, .int .i64 0, .int .i64 0, .int .i64 0]) 4 32 Try.underlying40 hi hz0 hz1 hz2 rfl (by decide) (.slice a t.length c) t.length ((t.map ruC).flatten) rfl (HO3.out.ofO (n := 0) |>.alloc _) ⟨w3.heap.size, 0, none⟩ 1 1 [.int .i64 1, .int .i64 (t.length : Int), .int .i64 5, .int .i64 3] rfl rfl (cells4_new' _ _ _ _ _ _ (by simp)) (by simp [Value.oneCell']) (by unfold maxLen; omega) (by omega) (by simp; omega) ?_; intro v' w4 hown' hgrow _))
              have HX4 : Hid (RusO w.heap.size w4.heap.size w4 v' (t ++ [⟨1, (t.length : Int), 5, 3⟩])) := Lib.hid (RusO.of_row (n := t.length + 1) (by
                have e : ((t ++ [(⟨1, (t.length : Int), 5, 3⟩ : Ru)]).map ruC).flatten = ((t.map ruC).flatten ++ [.int .i64 1, .int .i64 (t.length : Int), .int .i64 5, .int .i64 3] : List Value) := by
                  rw [List.map_append, List.flatten_append]
                  simp [ruC]
                rw [e]; exact hown') (by simp) (fun f hf => by
                rcases List.mem_append.1 hf with h | h
                · exact HOK3.out f h
                · rw [List.mem_singleton.1 h]; exact lit_ru t.length (by omega)))
              have HD4 := Lib.hid ((HD3.out.al (.cells #[.int .i64 1, .int .i64 (t.length : Int), .int .i64 5, .int .i64 3] 56 (0, 0))).app hgrow (fun k hk => (HO3.out.1.1.lt k hk).1) hlt)
              obtain ⟨na, nn, nc, rfl⟩ := HX4.out.1.slice
              obtain rfl : nn = t.length + 1 := by
                rcases hown'.2 with ⟨e, _⟩ | ⟨g, cap, cur, e, _⟩ <;> cases e <;> first | rfl | omega
              clear hown' hgrow
              go_wp2_with fail
              go_roundw
              case rel => exact ⟨na, nc, t ++ [⟨1, (t.length : Int), 5, 3⟩], by simp; omega, by simp, by simpa using HX4, Lib.hid (HD4.out.le (by simp; omega))⟩
              case measure => simp; omega
            · have hq2 : decide ((t.length : Int) < 8 + d) = false := decide_eq_false hq
              go_wp2_with fail
              go_ret
              exact ⟨_, t, rfl, by omega, HO3.out, HD3.out.cur.le_K (by omega), HD3.out.gr⟩
        · have b1 : (m == 1) = false := beq_eq_false_iff_ne.2 e1
          go_wp2_with fail
          go_ret
          exact ⟨_, t, rfl, by omega, HO2.out, HD2.out.cur.le_K (by omega), HD2.out.gr⟩
end Go.Proofs.Ytenjajcknmfhfaa
