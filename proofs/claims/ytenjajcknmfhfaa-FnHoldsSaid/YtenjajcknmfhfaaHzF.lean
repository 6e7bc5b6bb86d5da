/- BytesNe, ReadV, ArgBytes, in one text. -/
import Derived.Test.YtenjajcknmfhfaaRowOf
import Derived.Test.YtenjajcknmfhfaaInts
import Derived.Test.YtenjajcknmfhfaaPick
import Derived.BigQuiet
import Derived.Lib.QuietBelow
import Derived.Test.YtenjajcknmfhfaaArg
namespace Go.Proofs.Ytenjajcknmfhfaa
set_option linter.unusedVariables false
open Go.RowKit

theorem beq_bytes_ne {a b : ByteArray} (h : ¬ a = b) : (a.toList == b.toList) = false := by
  rw [beq_eq_false_iff_ne]
  intro e
  rw [ByteArray.toList_eq, ByteArray.toList_eq] at e
  exact h (ByteArray.ext (Array.ext' e))

end Go.Proofs.Ytenjajcknmfhfaa

namespace Go.Proofs.Ytenjajcknmfhfaa
set_option linter.unusedVariables false
open Go.RowKit Go.Sort

theorem vHas_any (v : Value) (xs : List Int) (x : Int) (w : World) (h : RowOf vI w v xs) :
    Calls Try.prog 35 #[v, .int .i64 x] w fun e w' => e = .returned (.bool (decide (x ∈ xs))) ∧ Below w.heap.size w w' := by
  have hcap := h.cap
  obtain ⟨a1, c1, rfl, hl1, hm1, r1⟩ := h
  have R1 := Lib.hid r1
  clear r1
  unfold maxLen at hm1
  go_enter Try.func35, Try.ntmps35
  go_wp2
  go_loopw [5] (fun i wr => ∃ k : Nat, k ≤ xs.length ∧ i = .int .i64 k ∧ Hid (¬ x ∈ xs.take k) ∧ Below w.heap.size w wr) (fun i _ => xs.length - (intOf i).toNat)
  case atStart => exact ⟨0, Nat.zero_le _, rfl, Lib.hid (by simp), Below.refl _ _⟩
  case round =>
    obtain ⟨k, hk, rfl, HN, hb⟩ := hrel
    by_cases hlt : k < xs.length
    · obtain ⟨b1, o1, hb1, rfl, e1⟩ := R1.out.resolve_left (fun e => by rw [e] at hlt; simp at hlt)
      obtain ⟨y, hy⟩ : ∃ s, xs[k] = s := ⟨_, rfl⟩
      have f1 := (hb.cell (p := ⟨b1, o1 + k, none⟩) hb1).trans (e1 k hlt)
      rw [hy] at f1
      simp only [vI] at f1
      have HY := Lib.hid hy
      have g0 : (0 : Int) ≤ (k : Int) := by omega
      have g1 : (k : Int) < (xs.length : Int) := by omega
      clear e1 hy
      by_cases he : y = x
      · have hq : (y == x) = true := by simp [he]
        have HE : Hid (x ∈ xs) := by rw [← he, ← HY.out]; exact List.getElem_mem hlt
        clear he
        go_wp2
        go_ret
        exact ⟨ret_bool (Eq.symm (decide_eq_true HE.out)), hb⟩
      · have hq : (y == x) = false := by simp [he]
        have HE : Hid (¬ x ∈ xs.take (k + 1)) := fun h => by
          rw [List.take_succ_eq_append_getElem hlt, List.mem_append, List.mem_singleton, HY.out] at h
          exact h.elim HN.out (fun h => he h.symm)
        clear he
        go_wp2
        go_roundw
        case rel => exact ⟨k + 1, by omega, by go_num, HE, hb⟩
        case measure => simp [intOf]; omega
    · have hkl : k = xs.length := by omega
      have HE : Hid (¬ x ∈ xs) := by have := HN.out; rwa [hkl, List.take_length] at this
      clear hkl
      go_wp2
      go_ret
      exact ⟨ret_bool (Eq.symm (decide_eq_false HE.out)), hb⟩

set_option maxHeartbeats 1000000 in
theorem vInts_any (v1 v2 : Value) (xs ys : List Int) (w : World) (h1 : RowOf vI w v1 xs) (h2 : RowOf vI w v2 ys) :
    Calls Try.prog 11 #[v1, v2] w fun e w' => e = .returned (.bool (decide (xs = ys))) ∧ Below w.heap.size w w' := by
  have hx := h1.cap
  have hy := h2.cap
  obtain ⟨a1, c1, rfl, hl1, hm1, r1⟩ := h1
  obtain ⟨a2, c2, rfl, hl2, hm2, r2⟩ := h2
  by_cases hlen : xs.length = ys.length
  · have hLen := Lib.hid hlen
    have hne : (((xs.length : Nat) : Int) != (xs.length : Int)) = false := by simp
    rw [← hlen]
    clear hlen
    have R1 := Lib.hid r1
    have R2 := Lib.hid r2
    clear r1 r2
    go_enter Try.func11, Try.ntmps11
    go_wp2
    go_loopw [5] (fun i wr => ∃ k : Nat, k ≤ xs.length ∧ i = .int .i64 k ∧ Hid (∀ j (h : j < k) (h1 : j < xs.length) (h2 : j < ys.length), xs[j] = ys[j]) ∧ Below w.heap.size w wr) (fun i _ => xs.length - (intOf i).toNat)
    case atStart => exact ⟨0, Nat.zero_le _, rfl, Lib.hid (fun j h => by omega), Below.refl _ _⟩
    case round =>
      obtain ⟨k, hk, rfl, HJ, hb⟩ := hrel
      by_cases hlt : k < xs.length
      · obtain ⟨b1, o1, hb1, rfl, e1⟩ := R1.out.resolve_left (fun e => by rw [e] at hlt; simp at hlt)
        obtain ⟨b2, o2, hb2, rfl, e2⟩ := R2.out.resolve_left (fun e => by have := hLen.out; rw [e] at this; simp at this; rw [this] at hlt; simp at hlt)
        obtain ⟨x, hx⟩ : ∃ s, xs[k] = s := ⟨_, rfl⟩
        obtain ⟨y, hy⟩ : ∃ s, ys[k]'(by have := hLen.out; omega) = s := ⟨_, rfl⟩
        have f1 := (hb.cell (p := ⟨b1, o1 + k, none⟩) hb1).trans (e1 k hlt)
        have f2 := (hb.cell (p := ⟨b2, o2 + k, none⟩) hb2).trans (e2 k (by have := hLen.out; omega))
        rw [hx] at f1
        rw [hy] at f2
        simp only [vI] at f1 f2
        have HX := Lib.hid hx
        have HY := Lib.hid hy
        have g0 : (0 : Int) ≤ (k : Int) := by omega
        have g1 : (k : Int) < (xs.length : Int) := by omega
        clear e1 e2 hx hy
        by_cases he : x = y
        · have hq : (x != y) = false := by simp [he]
          have HE := Lib.hid he
          clear he
          go_wp2
          go_quiet (fail)
          go_wp2
          go_roundw
          case rel =>
            refine ⟨k + 1, by omega, by go_num, Lib.hid (fun j h a b => ?_), below_drewN hb _⟩
            rcases Nat.lt_or_ge j k with h' | h'
            · exact HJ.out j h' a b
            · obtain rfl : j = k := by omega
              rw [HX.out, HY.out]
              exact HE.out
          case measure => simp [intOf]; omega
        · have hq : (x != y) = true := by simp [he]
          have HE := Lib.hid he
          clear he
          go_wp2
          go_quiet (fail)
          go_wp2
          go_ret
          exact ⟨ret_bool (Eq.symm (decide_eq_false (fun e => HE.out (by subst e; exact HX.out.symm.trans HY.out)))), below_drewN hb _⟩
      · go_wp2
        go_ret
        refine ⟨ret_bool (Eq.symm (decide_eq_true ?_)), hb⟩
        exact List.ext_getElem hLen.out fun i a b => HJ.out i (by omega) a b
  · have hne : (((xs.length : Nat) : Int) != (ys.length : Int)) = true := by simp; omega
    rw [decide_eq_false (fun e => hlen (by rw [e]))]
    go_enter Try.func11, Try.ntmps11
    go_wp2
    go_ret
    exact ⟨rfl, Below.refl _ _⟩

set_option maxRecDepth 20000 in
set_option maxHeartbeats 1000000 in
theorem vBig_any (a : Option Addr) (len cap : Nat) (w : World) (b : Bool) (hb : decide ((65536 : Int) < (len : Int)) = b) (hl : len ≤ 9223372036854775807) :
    Calls Try.prog 7 #[.slice a len cap] w fun e w' => e = .returned (.bool b) ∧ w = w' := by
  have HB := Lib.hid hb
  clear hb
  go_enter Try.func7, Try.ntmps7
  go_wp2
  go_ret
  exact ⟨ret_bool HB.out, rfl⟩
theorem isRow_len {k : IntKind} {w : World} {a : Option Addr} {len cap : Nat} {zs : List Int} (h : IsRow k w a len cap zs) : len ≤ 9223372036854775807 := by
  rcases h with ⟨rfl, rfl, rfl, rfl⟩ | ⟨x, rfl, hl, hm, _⟩
  · omega
  · unfold maxLen at hm; omega
theorem vInts_same (v1 v2 : Value) (xs : List Int) (w : World) (h1 : RowOf vI w v1 xs) (h2 : RowOf vI w v2 xs) :
    Calls Try.prog 11 #[v1, v2] w fun e w' => e = .returned (.bool true) ∧ Below w.heap.size w w' :=
  (vInts_any v1 v2 xs xs w h1 h2).mono fun e w' ⟨h, b⟩ => ⟨by rw [h, decide_eq_true rfl], b⟩
end Go.Proofs.Ytenjajcknmfhfaa

namespace Go.Proofs.Ytenjajcknmfhfaa
set_option linter.unusedVariables false
set_option maxRecDepth 20000
open Go.RowKit Go.ChangeShapes Go.WideShapes Go.Deep

structure By8 where
  a : Option Addr
  len : Nat
  cap : Nat
  zs : List Int
def ByV (w : World) (v : Value) (x : By8) : Prop := v = .slice x.a x.len x.cap ∧ IsRow .u8 w x.a x.len x.cap x.zs
section
variable {H : Type} {enc : TypeId × Value → H} {w : World} {base b0 : Nat} {held : Bool} {r : Reach} {v : Value} {d : DataW H} {p : List MemPlace}
theorem arg_code (hv : Value.okWide Try.prog w r b0 22 v) (h : DataW.Trod enc Try.prog w base (fun _ => true) held 22 v d p) : ∃ x, ByV w v x := by
  obtain ⟨a0, len0, cap0, rfl⟩ := okWide_slice Try.underlying22 hv
  obtain ⟨fuel, hf⟩ := h
  rcases open_ints Try.underlying22 Try.underlying5 (by kernel_rfl) hf with ⟨hcs, _⟩ | ⟨x, l, c, zs, hcs, _, hl, hm, hz, _, hcell, hwz⟩
  · simp [Value.cells] at hcs
    obtain ⟨rfl, rfl, rfl⟩ := hcs
    exact ⟨⟨none, 0, 0, []⟩, rfl, .inl ⟨rfl, rfl, rfl, rfl⟩⟩
  · simp [Value.cells] at hcs
    obtain ⟨rfl, rfl, rfl⟩ := hcs
    exact ⟨⟨some x, len0, cap0, zs⟩, rfl, .inr ⟨_, rfl, hl, hm, by simpa using hz, hcell, hwz⟩⟩
end
end Go.Proofs.Ytenjajcknmfhfaa
