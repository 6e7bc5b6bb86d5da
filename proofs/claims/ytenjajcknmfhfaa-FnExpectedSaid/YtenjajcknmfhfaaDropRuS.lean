/- A schedule without a rule: the model's l4Without and DropRule. -/
import Derived.Test.YtenjajcknmfhfaaRuS
import Derived.Test.YtenjajcknmfhfaaRuCells
namespace Go.Proofs.Ytenjajcknmfhfaa
set_option linter.unusedVariables false
open Go.RowKit Go.Sort

set_option maxRecDepth 20000 in
set_option maxHeartbeats 2000000 in
theorem l4Without_any (v : Value) (t : List Ru) (q : Ru) (w : World) (h : RowR 4 rRu w v t) (hn : t.length ≤ 1048576) :
    Calls Try.prog 165 #[v, .int .i64 q.series, .int .i64 q.event] w fun e w' => ∃ v', e = .returned v' ∧ RusO w.heap.size w'.heap.size w' v' (delRu t q) ∧ Below w.heap.size w w' ∧ ∃ ad n c, v' = .slice (some ad) n c := by
  obtain ⟨i0, hi, hz0, hz1, hz2⟩ := info_parts Try.info_ru
  have hok := h.rus_ok
  have HOK := Lib.hid hok
  obtain ⟨qs, qe, qd, qa⟩ := q
  obtain ⟨a1, c1, hv, hl1, hm1, r1⟩ := h.rus
  subst hv
  have R1 := Lib.hid r1
  clear h r1 hok
  unfold maxLen at hm1
  go_enter Try.func165, Try.ntmps165
  go_wp2_with fail
  go_loopw [7, 8] (fun o i wr => ∃ k : Nat, k ≤ t.length ∧ i = .int .i64 k ∧ wr.ownsRow w.heap.size 56 4 o (delRu (t.take k) ⟨qs, qe, qd, qa⟩).length (((delRu (t.take k) ⟨qs, qe, qd, qa⟩).map ruC).flatten) ∧ Below w.heap.size w wr ∧ o ≠ .slice none 0 0) (fun _ i _ => t.length - (intOf i).toNat)
  case atStart => exact ⟨0, Nat.zero_le _, rfl, by simpa [delRu] using World.ownsRow_made w #[] 0 (Nat.le_refl _) (Nat.zero_le _) rfl, below_al (Below.refl _ _) _, by simp⟩
  case round =>
    obtain ⟨k, hk, rfl, hO, hb, hnn⟩ := hrel
    by_cases hlt : k < t.length
    · obtain ⟨b1, o1, hb1, rfl, e1⟩ := R1.out.resolve_left (fun e => by rw [e] at hlt; simp at hlt)
      obtain ⟨q0, q1, q2, q3, hok⟩ := e1 k hlt
      have hsucc := delRu_succ (q := ⟨qs, qe, qd, qa⟩) hlt
      obtain ⟨P, hP⟩ : ∃ P, delRu (t.take k) ⟨qs, qe, qd, qa⟩ = P := ⟨_, rfl⟩
      have hPl : P.length ≤ k := by
        rw [← hP]
        have := delRu_len (t.take k) ⟨qs, qe, qd, qa⟩
        rw [List.length_take] at this
        omega
      rw [hP] at hO hsucc
      obtain ⟨⟨x0, x1, x2, x3⟩, hx⟩ : ∃ s, t.getD k ruD = s := ⟨_, rfl⟩
      rw [hx] at q0 q1 q2 q3 hsucc
      simp only at q0 q1 q2 q3
      have f0 := cell_kept q0 hb
      have f1 := cell_kept q1 hb
      have f2 := cell_kept q2 hb
      have f3 := cell_kept q3 hb
      have HSU := Lib.hid hsucc
      have HNN := Lib.hid hnn
      have g0 : (0 : Int) ≤ (k : Int) := by omega
      have g1 : (k : Int) < (t.length : Int) := by omega
      have hsz := hb.size
      clear q0 q1 q2 q3 hok e1 hx hsucc hP hnn
      by_cases hs : x0 = qs
      · have d0 : (x0 != qs) = false := by simp [hs]
        by_cases he : x1 = qe
        · have d1 : (x1 != qe) = false := by simp [he]
          have HSU2 := Lib.hid (HSU.out.trans (if_pos (keyB_iff.2 ⟨hs, he⟩)))
          have HO := Lib.hid hO
          clear hs he hO
          go_wp2_with fail
          go_roundw
          case rel => exact ⟨k + 1, by omega, by go_num, (by rw [HSU2.out]; exact HO.out), hb, HNN.out⟩
          case measure => simp [intOf]; omega
        · have d1 : (x1 != qe) = true := by simp [he]
          have HSU2 := Lib.hid (HSU.out.trans (if_neg (fun e => he (keyB_iff.1 e).2)))
          clear hs he
          go_wp2_with (first | (at_builtin; refine wpList_append_own _ rfl _ _ 40 rfl w.heap.size 56 i0 (.agg #[.int .i64 0, .int .i64 0, .int .i64 0, .int .i64 0]) 4 32 Try.underlying40 hi hz0 hz1 hz2 rfl (by decide) _ _ _ rfl (hO.alloc _) ⟨wr.heap.size, 0, none⟩ 1 1 [.int .i64 x0, .int .i64 x1, .int .i64 x2, .int .i64 x3] rfl rfl (cells4_new' _ _ _ _ _ _ (by simp)) (by simp [Value.oneCell']) (by unfold maxLen; omega) (by omega) (by simp; omega) ?_; intro v' w4 hown' hgrow _))
          have HOWN := Lib.hid hown'
          have HB := Lib.hid (below_app hb (Nat.le_refl _) hO hgrow)
          clear hown' hgrow hO
          go_wp2_with fail
          go_roundw
          case rel => exact ⟨k + 1, by omega, by go_num, (by rw [HSU2.out]; simpa [ruC] using HOWN.out), HB.out, (by rintro rfl; rcases HOWN.out.2 with ⟨_, e⟩ | ⟨_, _, _, e, _⟩; (· omega); cases e)⟩
          case measure => simp [intOf]; omega
      · have d0 : (x0 != qs) = true := by simp [hs]
        have HSU2 := Lib.hid (HSU.out.trans (if_neg (fun e => hs (keyB_iff.1 e).1)))
        clear hs
        go_wp2_with (first | (at_builtin; refine wpList_append_own _ rfl _ _ 40 rfl w.heap.size 56 i0 (.agg #[.int .i64 0, .int .i64 0, .int .i64 0, .int .i64 0]) 4 32 Try.underlying40 hi hz0 hz1 hz2 rfl (by decide) _ _ _ rfl (hO.alloc _) ⟨wr.heap.size, 0, none⟩ 1 1 [.int .i64 x0, .int .i64 x1, .int .i64 x2, .int .i64 x3] rfl rfl (cells4_new' _ _ _ _ _ _ (by simp)) (by simp [Value.oneCell']) (by unfold maxLen; omega) (by omega) (by simp; omega) ?_; intro v' w4 hown' hgrow _))
        have HOWN := Lib.hid hown'
        have HB := Lib.hid (below_app hb (Nat.le_refl _) hO hgrow)
        clear hown' hgrow hO
        go_wp2_with fail
        go_roundw
        case rel => exact ⟨k + 1, by omega, by go_num, (by rw [HSU2.out]; simpa [ruC] using HOWN.out), HB.out, (by rintro rfl; rcases HOWN.out.2 with ⟨_, e⟩ | ⟨_, _, _, e, _⟩; (· omega); cases e)⟩
        case measure => simp [intOf]; omega
    · obtain rfl : k = t.length := by omega
      rw [List.take_length] at hO
      have HF := Lib.hid (RusO.of_row hO rfl (fun f hf => HOK.out f (List.mem_filter.1 hf).1))
      have HN : Hid (∃ ad n c, u7 = .slice (some ad) n c) := Lib.hid (by
        rcases hO.2 with ⟨e, _⟩ | ⟨g, cap, _, e, _⟩
        · exact absurd e hnn
        · exact ⟨_, _, _, e⟩)
      clear hO hnn
      go_wp2_with fail
      go_ret
      exact ⟨_, rfl, HF.out, hb, HN.out⟩

theorem dropRes_no {t : List Ru} {q : Ru} {xs : List Ru} {b : Bool} (h : dropRes t q = (xs, b)) (hn : isSch t = false ∨ (delRu t q).length = t.length) : xs = [] ∧ b = false := by
  unfold dropRes at h
  rw [if_neg (by rcases hn with e | e <;> simp [e])] at h
  obtain ⟨h1, h2⟩ := Prod.mk.inj h
  exact ⟨h1.symm, h2.symm⟩
theorem dropRes_yes {t : List Ru} {q : Ru} {xs : List Ru} {b : Bool} (h : dropRes t q = (xs, b)) (hs : isSch t = true) (hl : (delRu t q).length ≠ t.length) : xs = delRu t q ∧ b = true := by
  unfold dropRes at h
  rw [if_pos ⟨hs, hl⟩] at h
  obtain ⟨h1, h2⟩ := Prod.mk.inj h
  exact ⟨h1.symm, h2.symm⟩

end Go.Proofs.Ytenjajcknmfhfaa
