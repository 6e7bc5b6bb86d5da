/- The laws' own marks of File: what is written, and that it is found again. -/
import Derived.Test.YtpbjddiopfkgbaaToFi
import Derived.Test.YtpbjddiopfkgbaaMarkInt
import Derived.Deep.RegionHeld3
import Derived.WalkSmall
namespace Go.Proofs.Ytpbjddiopfkgbaa
set_option linter.unusedVariables false
open Go.RowKit

/-- The i-th one's marks from number k on. -/
def mFi (k i : Nat) : Fi := ⟨((k + i * 7 : Nat) : Int), ((k + i * 7 + 1 : Nat) : Int), ⟨(mt (k + i * 7 + 2)).toArray⟩, ((k + i * 7 + 3 : Nat) : Int), ((k + i * 7 + 4 : Nat) : Int), ((k + i * 7 + 5 : Nat) : Int), ((k + i * 7 + 6 : Nat) : Int)⟩
def mFis (k n : Nat) : List Fi := (List.range n).map (mFi k)
theorem mFis_len (k n : Nat) : (mFis k n).length = n := by simp [mFis]
theorem mFi_ok (k i : Nat) (h : k + i * 7 + 7 ≤ 1099511627777) : (mFi k i).ok := ⟨by simp only [mFi, inI]; omega, by simp only [mFi, inI]; omega, mt_size_ok _ (by omega), by simp only [mFi, inI]; omega, by simp only [mFi, inI]; omega, by simp only [mFi, inI]; omega, by simp only [mFi, inI]; omega⟩
theorem mFi_mkd_ok {k0 : Nat} {xs : List Fi} (h : ∀ e ∈ xs, e.ok) (k : Nat) (hk : k ≤ xs.length) (hb : k0 + xs.length * 7 ≤ 1099511627776) : ∀ e ∈ mkd (mFi k0) xs k, e.ok := by
  intro e he
  unfold mkd at he
  rcases List.mem_append.1 he with h1 | h1
  · obtain ⟨i, hi, rfl⟩ := List.mem_map.1 h1
    exact mFi_ok _ _ (by have := List.mem_range.1 hi; omega)
  · exact h e (List.mem_of_mem_drop h1)

set_option maxHeartbeats 2000000 in
theorem markFiS_any (v : Value) (xs : List Fi) (lo hi k0 : Nat) (w : World) (hk0 : 1 ≤ k0) (hk1 : k0 + xs.length * 7 ≤ 1099511627776) (hown : FisO lo hi w v xs) :
    Calls Try.prog 37 #[v, .int .i64 k0] w fun e w' => e = .returned (.int .i64 (k0 + xs.length * 7 : Nat)) ∧ FisO lo hi w' v (mFis k0 xs.length) ∧ Only lo hi w w' := by
  obtain ⟨ho, hok, hun⟩ := hown
  have HGE := Lib.hid ho.ge
  have HUN := Lib.hid hun
  clear hun
  have hlen : (xs.map fiC).length = xs.length := List.length_map _
  have HOK := Lib.hid hok
  clear hok
  rcases ho.form with ⟨rfl, h0⟩ | ⟨g, cap, hv, hg, hgl, hn, hm⟩
  · have hx : xs = [] := List.map_eq_nil_iff.1 h0
    subst hx
    clear h0 hlen
    have HO := Lib.hid ho
    clear ho
    go_enter Try.func37, Try.ntmps37
    go_wp2
    refine wp_loop_rounds 1 ?_
    rw [rounds_succ]
    go_wp2
    go_ret
    exact ⟨by simp, ⟨HO.out, by simp [mFis], HUN.out⟩, Only.refl _ _ _⟩
  · rw [hlen] at hv hn
    subst hv
    unfold maxLen at hm
    have HO0 := Lib.hid ho
    clear ho
    go_enter Try.func37, Try.ntmps37
    go_wp2
    go_loopw [1, 5] (fun q i wr => ∃ k : Nat, k ≤ xs.length ∧ i = .int .i64 k ∧ q = .int .i64 ((k0 : Int) + k * 7) ∧
        Own lo 48 7 wr (.slice (some ⟨g, 0, none⟩) xs.length cap) ((mkd (mFi k0) xs k).map fiC) ∧ w.grownBy wr (some g)) (fun _ i _ => xs.length - (intOf i).toNat)
    case atStart => exact ⟨0, Nat.zero_le _, rfl, by simp, by simpa [mkd_zero] using HO0.out, World.grownBy.refl _ _⟩
    case round =>
      obtain ⟨k, hk, rfl, rfl, hO, hG⟩ := hrel
      have HO := Lib.hid hO
      by_cases hlt : k < xs.length
      · have hml : ((mkd (mFi k0) xs k).map fiC).length = xs.length := by rw [List.length_map, mkd_len _ _ _ (by omega)]
        have hat : ((mkd (mFi k0) xs k).map fiC)[k]'(by omega) = fiC xs[k] := by
          have h1 := mkd_at (mFi k0) xs k hlt
          rw [List.getElem?_eq_getElem (by rw [mkd_len _ _ _ (by omega)]; exact hlt)] at h1
          rw [List.getElem_map, Option.some.inj h1]
        obtain ⟨⟨x0, x1, x2, x3, x4, x5, x6⟩, hs⟩ : ∃ s, xs[k] = s := ⟨_, rfl⟩
        rw [hs] at hat
        have HAT := Lib.hid hat
        have HML := Lib.hid hml
        have c0 := hO.cell k 0 (by omega) (by omega)
        have c1 := hO.cell k 1 (by omega) (by omega)
        have c2 := hO.cell k 2 (by omega) (by omega)
        have c3 := hO.cell k 3 (by omega) (by omega)
        have c4 := hO.cell k 4 (by omega) (by omega)
        have c5 := hO.cell k 5 (by omega) (by omega)
        have c6 := hO.cell k 6 (by omega) (by omega)
        rw [hat] at c0 c1 c2 c3 c4 c5 c6
        simp [fiC] at c0 c1 c2 c3 c4 c5 c6
        have fr0 := hO.frozen (k * 7)
        have fr1 := hO.frozen (k * 7 + 1)
        have fr2 := hO.frozen (k * 7 + 2)
        have fr3 := hO.frozen (k * 7 + 3)
        have fr4 := hO.frozen (k * 7 + 4)
        have fr5 := hO.frozen (k * 7 + 5)
        have fr6 := hO.frozen (k * 7 + 6)
        have g0 : (0 : Int) ≤ (k : Int) := by omega
        have g1 : (k : Int) < (xs.length : Int) := by omega
        clear hO hat hs
        have hkc : k < ((mkd (mFi k0) xs k).map fiC).length := by rw [HML.out]; exact hlt
        obtain ⟨css, hcss⟩ : ∃ css, (mkd (mFi k0) xs k).map fiC = css := ⟨_, rfl⟩
        have HCSS := Lib.hid hcss
        have HI : Hid (Own lo 48 7 wr (.slice (some ⟨g, 0, none⟩) xs.length cap) css ∧ ∃ h : k < css.length, css[k] = fiC ⟨x0, x1, x2, x3, x4, x5, x6⟩) := by
          subst hcss
          exact ⟨HO.out, hkc, HAT.out⟩
        have HG := Lib.hid hG
        clear hcss HO HAT HML hG hml
        go_wp2_with fail
        obtain ⟨p1, p2⟩ := Own.puts [.int .i64 ((k0 : Int) + k * 7), .int .i64 ((k0 : Int) + k * 7 + 1)] _ css k 0 HI.out.2.1 (by simp) HI.out.1
        rw [HI.out.2.2] at p1
        simp only [fiC, setFrom, List.set_cons_zero, List.set_cons_succ, Nat.add_zero, Nat.zero_add] at p1 p2
        replace HI : Hid (Own lo 48 7 _ (.slice (some ⟨g, 0, none⟩) xs.length cap) (css.set k [.int .i64 ((k0 : Int) + k * 7), .int .i64 ((k0 : Int) + k * 7 + 1), .string x2, .int .i64 x3, .int .i64 x4, .int .i64 x5, .int .i64 x6]) ∧ ∃ h : k < (css.set k [.int .i64 ((k0 : Int) + k * 7), .int .i64 ((k0 : Int) + k * 7 + 1), .string x2, .int .i64 x3, .int .i64 x4, .int .i64 x5, .int .i64 x6]).length, (css.set k [.int .i64 ((k0 : Int) + k * 7), .int .i64 ((k0 : Int) + k * 7 + 1), .string x2, .int .i64 x3, .int .i64 x4, .int .i64 x5, .int .i64 x6])[k] = [.int .i64 ((k0 : Int) + k * 7), .int .i64 ((k0 : Int) + k * 7 + 1), .string x2, .int .i64 x3, .int .i64 x4, .int .i64 x5, .int .i64 x6]) := ⟨p1, by rw [List.length_set]; exact HI.out.2.1, by rw [List.getElem_set_self]⟩
        replace HG := Lib.hid (grownBy_trans HG.out p2)
        clear p1 p2
        refine (markText_int _ _ (by omega) (by omega)).mono ?_
        rw [show ((k0 : Int) + k * 7 + 1 + 1).toNat = k0 + k * 7 + 2 by omega]
        rintro e w11 ⟨rfl, hb11⟩
        replace HI : Hid (_ ∧ _) := ⟨HI.out.1.below hb11, HI.out.2⟩
        replace HG := Lib.hid (grownBy_trans HG.out (grownBy_of_below hb11 _))
        have c0 := HI.out.1.cell k 0 HI.out.2.1 (by omega)
        have c1 := HI.out.1.cell k 1 HI.out.2.1 (by omega)
        have c2 := HI.out.1.cell k 2 HI.out.2.1 (by omega)
        have c3 := HI.out.1.cell k 3 HI.out.2.1 (by omega)
        have c4 := HI.out.1.cell k 4 HI.out.2.1 (by omega)
        have c5 := HI.out.1.cell k 5 HI.out.2.1 (by omega)
        have c6 := HI.out.1.cell k 6 HI.out.2.1 (by omega)
        rw [HI.out.2.2] at c0 c1 c2 c3 c4 c5 c6
        simp at c0 c1 c2 c3 c4 c5 c6
        have fr0 := HI.out.1.frozen (k * 7)
        have fr1 := HI.out.1.frozen (k * 7 + 1)
        have fr2 := HI.out.1.frozen (k * 7 + 2)
        have fr3 := HI.out.1.frozen (k * 7 + 3)
        have fr4 := HI.out.1.frozen (k * 7 + 4)
        have fr5 := HI.out.1.frozen (k * 7 + 5)
        have fr6 := HI.out.1.frozen (k * 7 + 6)
        clear hb11
        go_wp2_with fail
        go_roundw
        case rel =>
          obtain ⟨p1, p2⟩ := Own.puts [.string ⟨(mt (k0 + k * 7 + 2)).toArray⟩, .int .i64 ((k0 : Int) + k * 7 + 1 + 1 + 1), .int .i64 ((k0 : Int) + k * 7 + 1 + 1 + 1 + 1), .int .i64 ((k0 : Int) + k * 7 + 1 + 1 + 1 + 1 + 1), .int .i64 ((k0 : Int) + k * 7 + 1 + 1 + 1 + 1 + 1 + 1)] _ _ k 2 HI.out.2.1 (by simp) HI.out.1
          rw [HI.out.2.2] at p1
          simp only [setFrom, List.set_cons_zero, List.set_cons_succ, List.set_set] at p1 p2
          have hfin : css.set k [.int .i64 ((k0 : Int) + k * 7), .int .i64 ((k0 : Int) + k * 7 + 1), .string ⟨(mt (k0 + k * 7 + 2)).toArray⟩, .int .i64 ((k0 : Int) + k * 7 + 1 + 1 + 1), .int .i64 ((k0 : Int) + k * 7 + 1 + 1 + 1 + 1), .int .i64 ((k0 : Int) + k * 7 + 1 + 1 + 1 + 1 + 1), .int .i64 ((k0 : Int) + k * 7 + 1 + 1 + 1 + 1 + 1 + 1)] = (mkd (mFi k0) xs (k + 1)).map fiC := by
            rw [← HCSS.out, ← mkd_set _ _ _ hlt, List.map_set]
            congr 1
            all_goals simp [fiC, mFi, Int.natCast_add, Int.natCast_mul, Int.add_assoc]
          rw [hfin] at p1
          refine ⟨k + 1, by omega, by go_num, by go_num, p1, grownBy_trans HG.out p2⟩
        case measure => simp [intOf]; omega
      · clear hO
        go_wp2
        go_ret
        obtain rfl : k = xs.length := by omega
        have h1 := HO.out
        have h2 := mFi_mkd_ok (k0 := k0) HOK.out xs.length (Nat.le_refl _) hk1
        rw [mkd_all] at h1 h2
        exact ⟨ret_int (by omega), ⟨h1, h2, HUN.out⟩, Only.of_grown (v := .slice (some ⟨g, 0, none⟩) xs.length cap) hG HGE.out HUN.out⟩

theorem mFis_get (k0 n i : Nat) (h : i < n) : (mFis k0 n)[i]'(by rw [mFis_len]; exact h) = mFi k0 i := by simp [mFis]

end Go.Proofs.Ytpbjddiopfkgbaa
