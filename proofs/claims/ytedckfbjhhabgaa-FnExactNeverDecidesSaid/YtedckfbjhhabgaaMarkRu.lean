/- The laws' own marks of Rule: what is written, and that it is found again. -/
import Derived.Test.YtedckfbjhhabgaaToRu
import Derived.WalkSmall
namespace Go.Proofs.Ytedckfbjhhabgaa
set_option linter.unusedVariables false
open Go.RowKit

/-- The i-th one's marks from number k on. -/
def mRu (k i : Nat) : Ru := ⟨((k + i * 4 : Nat) : Int), ((k + i * 4 + 1 : Nat) : Int), ((k + i * 4 + 2 : Nat) : Int), ((k + i * 4 + 3 : Nat) : Int)⟩
def mRus (k n : Nat) : List Ru := (List.range n).map (mRu k)
theorem mRus_len (k n : Nat) : (mRus k n).length = n := by simp [mRus]
theorem mRu_ok (k i : Nat) (h : k + i * 4 + 4 ≤ 1099511627777) : (mRu k i).ok := ⟨by simp only [mRu, inI]; omega, by simp only [mRu, inI]; omega, by simp only [mRu, inI]; omega, by simp only [mRu, inI]; omega⟩
theorem mRu_mkd_ok {k0 : Nat} {xs : List Ru} (h : ∀ e ∈ xs, e.ok) (k : Nat) (hk : k ≤ xs.length) (hb : k0 + xs.length * 4 ≤ 1099511627776) : ∀ e ∈ mkd (mRu k0) xs k, e.ok := by
  intro e he
  unfold mkd at he
  rcases List.mem_append.1 he with h1 | h1
  · obtain ⟨i, hi, rfl⟩ := List.mem_map.1 h1
    exact mRu_ok _ _ (by have := List.mem_range.1 hi; omega)
  · exact h e (List.mem_of_mem_drop h1)

set_option maxHeartbeats 2000000 in
theorem markRuS_any (v : Value) (xs : List Ru) (lo hi k0 : Nat) (w : World) (hk0 : 1 ≤ k0) (hk1 : k0 + xs.length * 4 ≤ 1099511627776) (hown : RusO lo hi w v xs) :
    Calls Try.prog 25 #[v, .int .i64 k0] w fun e w' => e = .returned (.int .i64 (k0 + xs.length * 4 : Nat)) ∧ RusO lo hi w' v (mRus k0 xs.length) ∧ Only lo hi w w' := by
  obtain ⟨ho, hok, hun⟩ := hown
  have HGE := Lib.hid ho.ge
  have HUN := Lib.hid hun
  clear hun
  have hlen : (xs.map ruC).length = xs.length := List.length_map _
  have HOK := Lib.hid hok
  clear hok
  rcases ho.form with ⟨rfl, h0⟩ | ⟨g, cap, hv, hg, hgl, hn, hm⟩
  · have hx : xs = [] := List.map_eq_nil_iff.1 h0
    subst hx
    clear h0 hlen
    have HO := Lib.hid ho
    clear ho
    go_enter Try.func25, Try.ntmps25
    go_wp2
    refine wp_loop_rounds 1 ?_
    rw [rounds_succ]
    go_wp2
    go_ret
    exact ⟨by simp, ⟨HO.out, by simp [mRus], HUN.out⟩, Only.refl _ _ _⟩
  · rw [hlen] at hv hn
    subst hv
    unfold maxLen at hm
    have HO0 := Lib.hid ho
    clear ho
    go_enter Try.func25, Try.ntmps25
    go_wp2
    go_loopw [1, 5] (fun q i wr => ∃ k : Nat, k ≤ xs.length ∧ i = .int .i64 k ∧ q = .int .i64 ((k0 : Int) + k * 4) ∧
        Own lo 73 4 wr (.slice (some ⟨g, 0, none⟩) xs.length cap) ((mkd (mRu k0) xs k).map ruC) ∧ w.grownBy wr (some g)) (fun _ i _ => xs.length - (intOf i).toNat)
    case atStart => exact ⟨0, Nat.zero_le _, rfl, by simp, by simpa [mkd_zero] using HO0.out, World.grownBy.refl _ _⟩
    case round =>
      obtain ⟨k, hk, rfl, rfl, hO, hG⟩ := hrel
      have HO := Lib.hid hO
      by_cases hlt : k < xs.length
      · have hml : ((mkd (mRu k0) xs k).map ruC).length = xs.length := by rw [List.length_map, mkd_len _ _ _ (by omega)]
        have hat : ((mkd (mRu k0) xs k).map ruC)[k]'(by omega) = ruC xs[k] := by
          have h1 := mkd_at (mRu k0) xs k hlt
          rw [List.getElem?_eq_getElem (by rw [mkd_len _ _ _ (by omega)]; exact hlt)] at h1
          rw [List.getElem_map, Option.some.inj h1]
        obtain ⟨⟨x0, x1, x2, x3⟩, hs⟩ : ∃ s, xs[k] = s := ⟨_, rfl⟩
        rw [hs] at hat
        have HAT := Lib.hid hat
        have HML := Lib.hid hml
        have c0 := hO.cell k 0 (by omega) (by omega)
        have c1 := hO.cell k 1 (by omega) (by omega)
        have c2 := hO.cell k 2 (by omega) (by omega)
        have c3 := hO.cell k 3 (by omega) (by omega)
        rw [hat] at c0 c1 c2 c3
        simp [ruC] at c0 c1 c2 c3
        have fr0 := hO.frozen (k * 4)
        have fr1 := hO.frozen (k * 4 + 1)
        have fr2 := hO.frozen (k * 4 + 2)
        have fr3 := hO.frozen (k * 4 + 3)
        have g0 : (0 : Int) ≤ (k : Int) := by omega
        have g1 : (k : Int) < (xs.length : Int) := by omega
        clear hO hat hs HAT hml
        go_wp2
        go_roundw
        case rel =>
          obtain ⟨p1, p2⟩ := HO.out.put k (by rw [HML.out]; exact hlt) (ruC (mRu k0 k)) rfl
          rw [← List.map_set, mkd_set _ _ _ hlt] at p1
          refine ⟨k + 1, by omega, by go_num, by go_num, p1, grownBy_trans hG p2⟩
        case measure => simp [intOf]; omega
      · clear hO
        go_wp2
        go_ret
        obtain rfl : k = xs.length := by omega
        have h1 := HO.out
        have h2 := mRu_mkd_ok (k0 := k0) HOK.out xs.length (Nat.le_refl _) hk1
        rw [mkd_all] at h1 h2
        exact ⟨ret_int (by omega), ⟨h1, h2, HUN.out⟩, Only.of_grown (v := .slice (some ⟨g, 0, none⟩) xs.length cap) hG HGE.out HUN.out⟩

theorem mRus_get (k0 n i : Nat) (h : i < n) : (mRus k0 n)[i]'(by rw [mRus_len]; exact h) = mRu k0 i := by simp [mRus]

end Go.Proofs.Ytedckfbjhhabgaa
