/- The laws' own small reading: two lists of triggers. -/
import Derived.Test.YtenjajcknmfhfaaToTg
import Derived.Test.YtenjajcknmfhfaaReadV
namespace Go.Proofs.Ytenjajcknmfhfaa
set_option linter.unusedVariables false
open Go.RowKit Go.Sort

set_option maxRecDepth 20000 in
set_option maxHeartbeats 1000000 in
theorem vTriggers_same (v1 v2 : Value) (xs : List Tg) (w : World) (h1 : RowR 3 rTg w v1 xs) (h2 : RowR 3 rTg w v2 xs) :
    Calls Try.prog 19 #[v1, v2] w fun e w' => e = .returned (.bool true) ∧ Below w.heap.size w w' := by
  have hx := h1.cap
  have hy := h2.cap
  obtain ⟨a1, c1, rfl, hl1, hm1, r1⟩ := h1
  obtain ⟨a2, c2, rfl, hl2, hm2, r2⟩ := h2
  have hne : (((xs.length : Nat) : Int) != (xs.length : Int)) = false := by simp
  have R1 := Lib.hid r1
  have R2 := Lib.hid r2
  clear r1 r2
  go_enter Try.func19, Try.ntmps19
  go_wp2
  go_loopw [5] (fun i wr => ∃ k : Nat, k ≤ xs.length ∧ i = .int .i64 k ∧ Below w.heap.size w wr) (fun i _ => xs.length - (intOf i).toNat)
  case atStart => exact ⟨0, Nat.zero_le _, rfl, Below.refl _ _⟩
  case round =>
    obtain ⟨k, hk, rfl, hb⟩ := hrel
    by_cases hlt : k < xs.length
    · obtain ⟨b1, o1, hb1, rfl, e1⟩ := R1.out.resolve_left (fun e => by rw [e] at hlt; simp at hlt)
      obtain ⟨b2, o2, hb2, rfl, e2⟩ := R2.out.resolve_left (fun e => by rw [e] at hlt; simp at hlt)
      obtain ⟨⟨x0, x1, x2⟩, hx⟩ : ∃ s, xs[k] = s := ⟨_, rfl⟩
      obtain ⟨cs1, hcl1, hcs1, hre1⟩ := e1 k hlt
      obtain ⟨cs2, hcl2, hcs2, hre2⟩ := e2 k hlt
      rw [hx] at hre1 hre2
      obtain ⟨rfl, hok1⟩ := hre1
      obtain ⟨rfl, hok2⟩ := hre2
      have fa0 := (hb.cell (p := ⟨b1, o1 + k * 3, none⟩) hb1).trans (hcs1 0 (by simp only [tgC, List.length_cons, List.length_nil]; omega))
      have fa1 := (hb.cell (p := ⟨b1, o1 + k * 3 + 1, none⟩) hb1).trans (hcs1 1 (by simp only [tgC, List.length_cons, List.length_nil]; omega))
      have fa2 := (hb.cell (p := ⟨b1, o1 + k * 3 + 2, none⟩) hb1).trans (hcs1 2 (by simp only [tgC, List.length_cons, List.length_nil]; omega))
      have fb0 := (hb.cell (p := ⟨b2, o2 + k * 3, none⟩) hb2).trans (hcs2 0 (by simp only [tgC, List.length_cons, List.length_nil]; omega))
      have fb1 := (hb.cell (p := ⟨b2, o2 + k * 3 + 1, none⟩) hb2).trans (hcs2 1 (by simp only [tgC, List.length_cons, List.length_nil]; omega))
      have fb2 := (hb.cell (p := ⟨b2, o2 + k * 3 + 2, none⟩) hb2).trans (hcs2 2 (by simp only [tgC, List.length_cons, List.length_nil]; omega))
      simp [tgC] at fa0 fa1 fa2 fb0 fb1 fb2
      have g0 : (0 : Int) ≤ (k : Int) := by omega
      have g1 : (k : Int) < (xs.length : Int) := by omega
      clear hcs1 hcs2 hcl1 hcl2 e1 e2 hx R1 R2 hok1 hok2
      go_wp2_with fail
      go_quiet (fail)
      go_wp2
      go_roundw
      case rel => exact ⟨k + 1, by omega, by go_num, below_drewN hb _⟩
      case measure => simp [intOf]; omega
    · go_wp2
      go_ret
      exact ⟨rfl, hb⟩
end Go.Proofs.Ytenjajcknmfhfaa
