/- The model's cursor over bytes: each choice lies within its bounds; nothing but the cursor's own block is written. -/
import Derived.Test.YtenjajcknmfhfaaFrame
import Derived.Test.YtenjajcknmfhfaaRowOf
import Derived.BigQuiet
import Derived.Deep.QuietTactic
import Derived.WalkSmall
import Derived.WalkSpells
import Derived.WalkLawsBesides
import Derived.Laws.Bits64
import Derived.Outline
namespace Go.Proofs.Ytenjajcknmfhfaa
set_option linter.unusedVariables false
open Go.RowKit

/-- The bytes that a cursor goes over. -/
def CodeOf (w : World) (a : Option Addr) (len : Nat) : Prop :=
  len = 0 ∨ ∃ b off, a = some ⟨b, off, none⟩ ∧ b < w.heap.size ∧ ∀ i, i < len → ∃ z : Int, 0 ≤ z ∧ z ≤ 255 ∧ w.cell? ⟨b, off + i, none⟩ = some (.int .u8 z)
/-- Block B holds a cursor that has made at most K choices. -/
structure CurAt (w : World) (B K : Nat) (a : Option Addr) (len cap : Nat) (at_ : Nat) (seed : Int) : Prop where
  code : w.cell? ⟨B, 0, none⟩ = some (.slice a len cap)
  at1 : w.cell? ⟨B, 1, none⟩ = some (.int .i64 at_)
  seed2 : w.cell? ⟨B, 2, none⟩ = some (.int .u64 seed)
  f1 : w.frozen? ⟨B, 1, none⟩ = false
  f2 : w.frozen? ⟨B, 2, none⟩ = false
  le : at_ ≤ K
  lt : B < w.heap.size
  small : len ≤ 1099511627776

theorem CurAt.step {w : World} {B K : Nat} {a : Option Addr} {len cap at_ : Nat} {seed : Int} (h : CurAt w B K a len cap at_ seed) (m n : Nat) (s : Int) :
    CurAt ((((w.drewN m).setCell ⟨B, 1, none⟩ (.int .i64 ((at_ : Int) + 1))).setCell ⟨B, 2, none⟩ (.int .u64 s)).drewN n) B (K + 1) a len cap (at_ + 1) s ∧
    w.grownBy ((((w.drewN m).setCell ⟨B, 1, none⟩ (.int .i64 ((at_ : Int) + 1))).setCell ⟨B, 2, none⟩ (.int .u64 s)).drewN n) (some B) := by
  obtain ⟨hc0, hc1, hc2, hf1, hf2, hle, hlt, hsm⟩ := h
  refine ⟨⟨?_, ?_, ?_, ?_, ?_, by omega, ?_, hsm⟩, ?_⟩
  · go_simp
  · go_simp
  · go_simp
  · go_simp
  · go_simp
  · simpa using hlt
  · exact ⟨rfl, rfl, rfl, by simp, fun k _ hk => by
      have : k ≠ B := fun e => hk (by rw [e])
      show (((w.drewN m).setCell ⟨B, 1, none⟩ (.int .i64 ((at_ : Int) + 1))).setCell ⟨B, 2, none⟩ (.int .u64 s)).heap[k]? = _
      rw [Below.heap_setCell _ _ _ _ this, Below.heap_setCell _ _ _ _ this]
      rfl⟩

theorem and255 (Y : Int) : 0 ≤ wrap64 (bits BinOp.and IntKind.u64 (IntKind.u64.wrap Y / 1099511627776) 255) ∧ wrap64 (bits BinOp.and IntKind.u64 (IntKind.u64.wrap Y / 1099511627776) 255) ≤ 255 := by
  have h1 : 0 ≤ IntKind.u64.wrap Y / 1099511627776 ∧ IntKind.u64.wrap Y / 1099511627776 < 18446744073709551616 := by
    rw [IntKind.wrap_u64]; omega
  obtain ⟨x, hx⟩ := Int.eq_ofNat_of_zero_le h1.1
  rw [hx] at h1 ⊢
  have h2 := bits_and_u64_nat x 255 (by omega) (by omega)
  have h3 : x &&& 255 ≤ 255 := Nat.and_le_right
  have h4 : bits BinOp.and IntKind.u64 (x : Int) 255 = ((x &&& 255 : Nat) : Int) := h2
  rw [h4, IntWalk.wrap64_in _ ⟨by omega, by omega⟩]
  omega

/-- What a step of the cursor leaves. -/
def NextPost (w : World) (B K : Nat) (a : Option Addr) (len cap at_ : Nat) (e : Ending) (w' : World) : Prop :=
  ∃ (r s : Int), e = .returned (.int .i64 r) ∧ 0 ≤ r ∧ r ≤ 255 ∧ CurAt w' B (K + 1) a len cap (at_ + 1) s ∧ w.grownBy w' (some B)

set_option maxHeartbeats 1000000 in
theorem next_in (B K : Nat) (a : Option Addr) (len cap at_ : Nat) (seed : Int) (w : World) (h : CurAt w B K a len cap at_ seed) (hK : K ≤ 1099511627776) (z : Int) (hz : at_ < len → ∃ b off, a = some ⟨b, off, none⟩ ∧ b ≠ B ∧ 0 ≤ z ∧ z ≤ 255 ∧ w.cell? ⟨b, off + at_, none⟩ = some (.int .u8 z)) :
    Calls Try.prog 137 #[.pointer (some ⟨B, 0, none⟩)] w (NextPost w B K a len cap at_) := by
  have H := Lib.hid h
  obtain ⟨hc0, hc1, hc2, hf1, hf2, hle, hlt, hsm⟩ := h
  by_cases hin : at_ < len
  · obtain ⟨b, off, rfl, hbB, hz0, hz1, hcz⟩ := hz hin
    have g0 : (0 : Int) ≤ (at_ : Int) := by omega
    have g1 : (at_ : Int) < (len : Int) := by omega
    clear hz
    go_enter Try.func137, Try.ntmps137
    go_wp2
    go_quiet (fail)
    go_wp2
    go_quiet (fail)
    go_wp2
    go_quiet (fail)
    go_wp2
    go_ret
    exact ⟨z, _, rfl, hz0, hz1, (H.out.step _ _ _).1, (H.out.step _ _ _).2⟩
  · clear hz
    go_enter Try.func137, Try.ntmps137
    go_wp2
    go_quiet (fail)
    go_wp2
    go_quiet (fail)
    go_wp2
    go_ret
    exact ⟨_, _, rfl, (and255 _).1, (and255 _).2, (H.out.step _ _ _).1, (H.out.step _ _ _).2⟩
end Go.Proofs.Ytenjajcknmfhfaa
