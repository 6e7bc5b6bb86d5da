/- The laws' own marks of Trigger: what is written, and that it is found again. -/
import Derived.Test.YtedckfbjhhabgaaToTg
import Derived.WalkSmall
namespace Go.Proofs.Ytedckfbjhhabgaa
set_option linter.unusedVariables false
open Go.RowKit

/-- The i-th one's marks from number k on. -/
def mTg (k i : Nat) : Tg := ⟨((k + i * 3 : Nat) : Int), ((k + i * 3 + 1 : Nat) : Int), ((k + i * 3 + 2 : Nat) : Int)⟩
def mTgs (k n : Nat) : List Tg := (List.range n).map (mTg k)
theorem mTgs_len (k n : Nat) : (mTgs k n).length = n := by simp [mTgs]
theorem mTg_ok (k i : Nat) (h : k + i * 3 + 3 ≤ 1099511627777) : (mTg k i).ok := ⟨by simp only [mTg, inI]; omega, by simp only [mTg, inI]; omega, by simp only [mTg, inI]; omega⟩
theorem mTg_mkd_ok {k0 : Nat} {xs : List Tg} (h : ∀ e ∈ xs, e.ok) (k : Nat) (hk : k ≤ xs.length) (hb : k0 + xs.length * 3 ≤ 1099511627776) : ∀ e ∈ mkd (mTg k0) xs k, e.ok := by
  intro e he
  unfold mkd at he
  rcases List.mem_append.1 he with h1 | h1
  · obtain ⟨i, hi, rfl⟩ := List.mem_map.1 h1
    exact mTg_ok _ _ (by have := List.mem_range.1 hi; omega)
  · exact h e (List.mem_of_mem_drop h1)

set_option maxHeartbeats 2000000 in
theorem markTgS_any (v : Value) (xs : List Tg) (lo hi k0 : Nat) (w : World) (hk0 : 1 ≤ k0) (hk1 : k0 + xs.length * 3 ≤ 1099511627776) (hown : TgsO lo hi w v xs) :
    Calls Try.prog 39 #[v, .int .i64 k0] w fun e w' => e = .returned (.int .i64 (k0 + xs.length * 3 : Nat)) ∧ TgsO lo hi w' v (mTgs k0 xs.length) ∧ Only lo hi w w' := by
  obtain ⟨ho, hok, hun⟩ := hown
  have HGE := Lib.hid ho.ge
  have HUN := Lib.hid hun
  clear hun
  have hlen : (xs.map tgC).length = xs.length := List.length_map _
  have HOK := Lib.hid hok
  clear hok
  rcases ho.form with ⟨rfl, h0⟩ | ⟨g, cap, hv, hg, hgl, hn, hm⟩
  · have hx : xs = [] := List.map_eq_nil_iff.1 h0
    subst hx
    clear h0 hlen
    have HO := Lib.hid ho
    clear ho
    go_enter Try.func39, Try.ntmps39
    go_wp2
    refine wp_loop_rounds 1 ?_
    rw [rounds_succ]
    go_wp2
    go_ret
    exact ⟨by simp, ⟨HO.out, by simp [mTgs], HUN.out⟩, Only.refl _ _ _⟩
  · rw [hlen] at hv hn
    subst hv
    unfold maxLen at hm
    have HO0 := Lib.hid ho
    clear ho
    go_enter Try.func39, Try.ntmps39
    go_wp2
    go_loopw [1, 5] (fun q i wr => ∃ k : Nat, k ≤ xs.length ∧ i = .int .i64 k ∧ q = .int .i64 ((k0 : Int) + k * 3) ∧
        Own lo 63 3 wr (.slice (some ⟨g, 0, none⟩) xs.length cap) ((mkd (mTg k0) xs k).map tgC) ∧ w.grownBy wr (some g)) (fun _ i _ => xs.length - (intOf i).toNat)
    case atStart => exact ⟨0, Nat.zero_le _, rfl, by simp, by simpa [mkd_zero] using HO0.out, World.grownBy.refl _ _⟩
    case round =>
      obtain ⟨k, hk, rfl, rfl, hO, hG⟩ := hrel
      have HO := Lib.hid hO
      by_cases hlt : k < xs.length
      · have hml : ((mkd (mTg k0) xs k).map tgC).length = xs.length := by rw [List.length_map, mkd_len _ _ _ (by omega)]
        have hat : ((mkd (mTg k0) xs k).map tgC)[k]'(by omega) = tgC xs[k] := by
          have h1 := mkd_at (mTg k0) xs k hlt
          rw [List.getElem?_eq_getElem (by rw [mkd_len _ _ _ (by omega)]; exact hlt)] at h1
          rw [List.getElem_map, Option.some.inj h1]
        obtain ⟨⟨x0, x1, x2⟩, hs⟩ : ∃ s, xs[k] = s := ⟨_, rfl⟩
        rw [hs] at hat
        have HAT := Lib.hid hat
        have HML := Lib.hid hml
        have c0 := hO.cell k 0 (by omega) (by omega)
        have c1 := hO.cell k 1 (by omega) (by omega)
        have c2 := hO.cell k 2 (by omega) (by omega)
        rw [hat] at c0 c1 c2
        simp [tgC] at c0 c1 c2
        have fr0 := hO.frozen (k * 3)
        have fr1 := hO.frozen (k * 3 + 1)
        have fr2 := hO.frozen (k * 3 + 2)
        have g0 : (0 : Int) ≤ (k : Int) := by omega
        have g1 : (k : Int) < (xs.length : Int) := by omega
        clear hO hat hs HAT hml
        go_wp2
        go_roundw
        case rel =>
          obtain ⟨p1, p2⟩ := HO.out.put k (by rw [HML.out]; exact hlt) (tgC (mTg k0 k)) rfl
          rw [← List.map_set, mkd_set _ _ _ hlt] at p1
          refine ⟨k + 1, by omega, by go_num, by go_num, p1, grownBy_trans hG p2⟩
        case measure => simp [intOf]; omega
      · clear hO
        go_wp2
        go_ret
        obtain rfl : k = xs.length := by omega
        have h1 := HO.out
        have h2 := mTg_mkd_ok (k0 := k0) HOK.out xs.length (Nat.le_refl _) hk1
        rw [mkd_all] at h1 h2
        exact ⟨ret_int (by omega), ⟨h1, h2, HUN.out⟩, Only.of_grown (v := .slice (some ⟨g, 0, none⟩) xs.length cap) hG HGE.out HUN.out⟩

theorem mTgs_get (k0 n i : Nat) (h : i < n) : (mTgs k0 n)[i]'(by rw [mTgs_len]; exact h) = mTg k0 i := by simp [mTgs]

set_option maxHeartbeats 2000000 in
theorem heldTgS_any (v : Value) (k0 n : Nat) (w : World) (hk0 : 1 ≤ k0) (hk1 : k0 + n * 3 ≤ 1099511627776) (h1 : RowR 3 rTg w v (mTgs k0 n)) :
    Calls Try.prog 48 #[v, .int .i64 k0] w fun e w' => e = .returned (.int .i64 (k0 + n * 3 : Nat)) ∧ Below w.heap.size w w' := by
  obtain ⟨a1, c1, rfl, hl1, hm1, r1⟩ := h1
  rw [mTgs_len]
  rw [mTgs_len] at hl1
  have R1 := Lib.hid r1
  clear r1
  go_enter Try.func48, Try.ntmps48
  go_wp2
  go_loopw [1, 5] (fun q i wr => ∃ k : Nat, k ≤ n ∧ i = .int .i64 k ∧ q = .int .i64 ((k0 : Int) + k * 3) ∧ Below w.heap.size w wr) (fun _ i _ => n - (intOf i).toNat)
  case atStart => exact ⟨0, Nat.zero_le _, rfl, by simp, Below.refl _ _⟩
  case round =>
    obtain ⟨k, hk, rfl, rfl, hb⟩ := hrel
    by_cases hlt : k < n
    · obtain ⟨b1, o1, hb1, rfl, e1⟩ := R1.out.resolve_left (fun e => by have := mTgs_len k0 n; rw [e] at this; simp at this; omega)
      obtain ⟨cs, hcl, hcs, hre⟩ := e1 k (by rw [mTgs_len]; exact hlt)
      rw [mTgs_get k0 n k hlt] at hre
      obtain ⟨rfl, _⟩ := hre
      have f0 := (hb.cell (p := ⟨b1, o1 + k * 3, none⟩) hb1).trans (hcs 0 (by simp only [tgC, List.length_cons, List.length_nil]; omega))
      have f1 := (hb.cell (p := ⟨b1, o1 + k * 3 + 1, none⟩) hb1).trans (hcs 1 (by simp only [tgC, List.length_cons, List.length_nil]; omega))
      have f2 := (hb.cell (p := ⟨b1, o1 + k * 3 + 2, none⟩) hb1).trans (hcs 2 (by simp only [tgC, List.length_cons, List.length_nil]; omega))
      have q0 : ((k0 + k * 3 : Nat) : Int) = (k0 : Int) + k * 3 := by omega
      have q1 : ((k0 + k * 3 + 1 : Nat) : Int) = (k0 : Int) + k * 3 + 1 := by omega
      have q2 : ((k0 + k * 3 + 2 : Nat) : Int) = (k0 : Int) + k * 3 + 1 + 1 := by omega
      simp only [tgC, mTg, List.getElem_cons_zero, List.getElem_cons_succ, q0, q1, q2] at f0 f1 f2
      have g0 : (0 : Int) ≤ (k : Int) := by omega
      have g1 : (k : Int) < (n : Int) := by omega
      have hsz := hb.size
      have n0 : (((k0 : Int) + k * 3) != ((k0 : Int) + k * 3)) = false := by simp
      have n1 : (((k0 : Int) + k * 3 + 1) != ((k0 : Int) + k * 3 + 1)) = false := by simp
      have n2 : (((k0 : Int) + k * 3 + 1 + 1) != ((k0 : Int) + k * 3 + 1 + 1)) = false := by simp
      clear hcs hcl e1 q0 q1 q2
      go_wp2
      go_roundw
      case rel => exact ⟨k + 1, by omega, by go_num, by go_num, hb⟩
      case measure => simp [intOf]; omega
    · go_wp2
      go_ret
      exact ⟨ret_int (by omega), hb⟩
end Go.Proofs.Ytedckfbjhhabgaa
