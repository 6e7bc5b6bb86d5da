/- The laws' own eqStringS: it compares two slices of strings. -/
import Derived.Test.YtfjfnbpfeijmnaaFrame
import Derived.Test.YtfjfnbpfeijmnaaRowOf
import Derived.BigQuiet
import Derived.Deep.QuietTactic
import Derived.WalkSpells
import Derived.WalkLawsBesides
import Derived.Outline
import Derived.WalkSmall
namespace Go.Proofs.Ytfjfnbpfeijmnaa
set_option linter.unusedVariables false
open Go.RowKit

theorem beq_bytes_ne {a b : ByteArray} (h : ¬ a = b) : (a.toList == b.toList) = false := by
  rw [beq_eq_false_iff_ne]
  intro e
  rw [ByteArray.toList_eq, ByteArray.toList_eq] at e
  exact h (ByteArray.ext (Array.ext' e))

set_option maxHeartbeats 1000000 in
theorem eqStringS_any (v1 v2 : Value) (xs ys : List ByteArray) (w : World) (h1 : RowOf Value.string w v1 xs) (h2 : RowOf Value.string w v2 ys) :
    Calls Try.prog 18 #[v1, v2] w fun e w' => e = .returned (.bool (decide (xs = ys))) ∧ Below w.heap.size w w' := by
  have hx := h1.cap
  have hy := h2.cap
  obtain ⟨a1, c1, rfl, hl1, hm1, r1⟩ := h1
  obtain ⟨a2, c2, rfl, hl2, hm2, r2⟩ := h2
  by_cases hlen : xs.length = ys.length
  · have hLen := Lib.hid hlen
    have hne : (((xs.length : Nat) : Int) != (xs.length : Int)) = false := by simp
    rw [← hlen]
    clear hlen
    by_cases h0 : xs.length = 0
    · have he : xs = ys := by rw [List.length_eq_zero_iff.1 h0]; have := hLen.out; rw [h0] at this; exact (List.length_eq_zero_iff.1 this.symm).symm
      rw [decide_eq_true he, h0]
      clear r1 r2 hx hy he
      go_enter Try.func18, Try.ntmps18
      go_wp2
      refine wp_loop_rounds 1 ?_
      rw [rounds_succ]
      go_wp2
      go_ret
      exact ⟨rfl, Below.refl _ _⟩
    · obtain ⟨b1, o1, hb1, rfl, e1⟩ := r1.resolve_left (fun e => h0 (by simp [e]))
      obtain ⟨b2, o2, hb2, rfl, e2⟩ := r2.resolve_left (fun e => h0 (by have := hLen.out; simp [e] at this; simp [this]))
      go_enter Try.func18, Try.ntmps18
      go_wp2
      go_loopw [5] (fun i wr => ∃ k : Nat, k ≤ xs.length ∧ i = .int .i64 k ∧ (∀ j (h : j < k) (h1 : j < xs.length) (h2 : j < ys.length), xs[j] = ys[j]) ∧ Below w.heap.size w wr) (fun i _ => xs.length - (intOf i).toNat)
      case atStart => exact ⟨0, Nat.zero_le _, rfl, fun j h => by omega, Below.refl _ _⟩
      case round =>
        obtain ⟨k, hk, rfl, hj, hb⟩ := hrel
        have HJ := Lib.hid hj
        clear hj
        by_cases hlt : k < xs.length
        · have f1 := (hb.cell (p := ⟨b1, o1 + k, none⟩) hb1).trans (e1 k hlt)
          have f2 := (hb.cell (p := ⟨b2, o2 + k, none⟩) hb2).trans (e2 k (by have := hLen.out; omega))
          have E1 := Lib.hid e1
          have E2 := Lib.hid e2
          clear e1 e2
          have g0 : (0 : Int) ≤ (k : Int) := by omega
          have g1 : (k : Int) < (xs.length : Int) := by omega
          by_cases he : xs[k] = ys[k]'(by have := hLen.out; omega)
          · have HE := Lib.hid he
            rw [he] at f1
            clear he
            go_wp2
            go_quiet (fail)
            go_wp2
            go_roundw
            case rel => exact ⟨k + 1, by omega, by go_num, fun j h a b => (by rcases Nat.lt_or_ge j k with h' | h'; · exact HJ.out j h' a b
                                                                              · obtain rfl : j = k := by omega
                                                                                exact HE.out), below_drewN hb _⟩
            case measure => simp [intOf]; omega
          · have hns := beq_bytes_ne he
            go_wp2
            go_quiet (fail)
            go_wp2
            go_ret
            exact ⟨ret_bool (Eq.symm (decide_eq_false (fun e => he (by simp [e])))), below_drewN hb _⟩
        · go_wp2
          go_ret
          refine ⟨ret_bool (Eq.symm (decide_eq_true ?_)), hb⟩
          exact List.ext_getElem hLen.out fun i a b => HJ.out i (by omega) a b
  · have hne : (((xs.length : Nat) : Int) != (ys.length : Int)) = true := by simp; omega
    rw [decide_eq_false (fun e => hlen (by rw [e]))]
    go_enter Try.func18, Try.ntmps18
    go_wp2
    go_ret
    exact ⟨rfl, Below.refl _ _⟩
end Go.Proofs.Ytfjfnbpfeijmnaa
