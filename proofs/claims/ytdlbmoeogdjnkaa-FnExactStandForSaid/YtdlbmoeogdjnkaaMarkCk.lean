/- The laws' own marks of Clerk: what is written, and that it is found again. -/
import Derived.Test.YtdlbmoeogdjnkaaToCk
import Derived.Test.YtdlbmoeogdjnkaaMarkInt
import Derived.Deep.RegionHeld3
import Derived.WalkSmall
namespace Go.Proofs.Ytdlbmoeogdjnkaa
set_option linter.unusedVariables false
open Go.RowKit

/-- The i-th one's marks from number k on. -/
def mCk (k i : Nat) : Ck := ⟨((k + i * 6 : Nat) : Int), ⟨(mt (k + i * 6 + 1)).toArray⟩, ((k + i * 6 + 2 : Nat) : Int), ((k + i * 6 + 3 : Nat) : Int), ((k + i * 6 + 4 : Nat) : Int), ((k + i * 6 + 5 : Nat) : Int)⟩
def mCks (k n : Nat) : List Ck := (List.range n).map (mCk k)
theorem mCks_len (k n : Nat) : (mCks k n).length = n := by simp [mCks]
theorem mCk_ok (k i : Nat) (h : k + i * 6 + 6 ≤ 1099511627777) : (mCk k i).ok := ⟨by simp only [mCk, inI]; omega, mt_size_ok _ (by omega), by simp only [mCk, inI]; omega, by simp only [mCk, inI]; omega, by simp only [mCk, inI]; omega, by simp only [mCk, inI]; omega⟩
theorem mCk_mkd_ok {k0 : Nat} {xs : List Ck} (h : ∀ e ∈ xs, e.ok) (k : Nat) (hk : k ≤ xs.length) (hb : k0 + xs.length * 6 ≤ 1099511627776) : ∀ e ∈ mkd (mCk k0) xs k, e.ok := by
  intro e he
  unfold mkd at he
  rcases List.mem_append.1 he with h1 | h1
  · obtain ⟨i, hi, rfl⟩ := List.mem_map.1 h1
    exact mCk_ok _ _ (by have := List.mem_range.1 hi; omega)
  · exact h e (List.mem_of_mem_drop h1)

set_option maxHeartbeats 2000000 in
theorem markCkS_any (v : Value) (xs : List Ck) (lo hi k0 : Nat) (w : World) (hk0 : 1 ≤ k0) (hk1 : k0 + xs.length * 6 ≤ 1099511627776) (hown : CksO lo hi w v xs) :
    Calls Try.prog 29 #[v, .int .i64 k0] w fun e w' => e = .returned (.int .i64 (k0 + xs.length * 6 : Nat)) ∧ CksO lo hi w' v (mCks k0 xs.length) ∧ Only lo hi w w' := by
  obtain ⟨ho, hok, hun⟩ := hown
  have HGE := Lib.hid ho.ge
  have HUN := Lib.hid hun
  clear hun
  have hlen : (xs.map ckC).length = xs.length := List.length_map _
  have HOK := Lib.hid hok
  clear hok
  rcases ho.form with ⟨rfl, h0⟩ | ⟨g, cap, hv, hg, hgl, hn, hm⟩
  · have hx : xs = [] := List.map_eq_nil_iff.1 h0
    subst hx
    clear h0 hlen
    have HO := Lib.hid ho
    clear ho
    go_enter Try.func29, Try.ntmps29
    go_wp2
    refine wp_loop_rounds 1 ?_
    rw [rounds_succ]
    go_wp2
    go_ret
    exact ⟨by simp, ⟨HO.out, by simp [mCks], HUN.out⟩, Only.refl _ _ _⟩
  · rw [hlen] at hv hn
    subst hv
    unfold maxLen at hm
    have HO0 := Lib.hid ho
    clear ho
    go_enter Try.func29, Try.ntmps29
    go_wp2
    go_loopw [1, 5] (fun q i wr => ∃ k : Nat, k ≤ xs.length ∧ i = .int .i64 k ∧ q = .int .i64 ((k0 : Int) + k * 6) ∧
        Own lo 26 6 wr (.slice (some ⟨g, 0, none⟩) xs.length cap) ((mkd (mCk k0) xs k).map ckC) ∧ w.grownBy wr (some g)) (fun _ i _ => xs.length - (intOf i).toNat)
    case atStart => exact ⟨0, Nat.zero_le _, rfl, by simp, by simpa [mkd_zero] using HO0.out, World.grownBy.refl _ _⟩
    case round =>
      obtain ⟨k, hk, rfl, rfl, hO, hG⟩ := hrel
      have HO := Lib.hid hO
      by_cases hlt : k < xs.length
      · have hml : ((mkd (mCk k0) xs k).map ckC).length = xs.length := by rw [List.length_map, mkd_len _ _ _ (by omega)]
        have hat : ((mkd (mCk k0) xs k).map ckC)[k]'(by omega) = ckC xs[k] := by
          have h1 := mkd_at (mCk k0) xs k hlt
          rw [List.getElem?_eq_getElem (by rw [mkd_len _ _ _ (by omega)]; exact hlt)] at h1
          rw [List.getElem_map, Option.some.inj h1]
        obtain ⟨⟨x0, x1, x2, x3, x4, x5⟩, hs⟩ : ∃ s, xs[k] = s := ⟨_, rfl⟩
        rw [hs] at hat
        have HAT := Lib.hid hat
        have HML := Lib.hid hml
        have c0 := hO.cell k 0 (by omega) (by omega)
        have c1 := hO.cell k 1 (by omega) (by omega)
        have c2 := hO.cell k 2 (by omega) (by omega)
        have c3 := hO.cell k 3 (by omega) (by omega)
        have c4 := hO.cell k 4 (by omega) (by omega)
        have c5 := hO.cell k 5 (by omega) (by omega)
        rw [hat] at c0 c1 c2 c3 c4 c5
        simp [ckC] at c0 c1 c2 c3 c4 c5
        have fr0 := hO.frozen (k * 6)
        have fr1 := hO.frozen (k * 6 + 1)
        have fr2 := hO.frozen (k * 6 + 2)
        have fr3 := hO.frozen (k * 6 + 3)
        have fr4 := hO.frozen (k * 6 + 4)
        have fr5 := hO.frozen (k * 6 + 5)
        have g0 : (0 : Int) ≤ (k : Int) := by omega
        have g1 : (k : Int) < (xs.length : Int) := by omega
        clear hO hat hs
        have hkc : k < ((mkd (mCk k0) xs k).map ckC).length := by rw [HML.out]; exact hlt
        obtain ⟨css, hcss⟩ : ∃ css, (mkd (mCk k0) xs k).map ckC = css := ⟨_, rfl⟩
        have HCSS := Lib.hid hcss
        have HI : Hid (Own lo 26 6 wr (.slice (some ⟨g, 0, none⟩) xs.length cap) css ∧ ∃ h : k < css.length, css[k] = ckC ⟨x0, x1, x2, x3, x4, x5⟩) := by
          subst hcss
          exact ⟨HO.out, hkc, HAT.out⟩
        have HG := Lib.hid hG
        clear hcss HO HAT HML hG hml
        go_wp2_with fail
        obtain ⟨p1, p2⟩ := Own.puts [.int .i64 ((k0 : Int) + k * 6)] _ css k 0 HI.out.2.1 (by simp) HI.out.1
        rw [HI.out.2.2] at p1
        simp only [ckC, setFrom, List.set_cons_zero, Nat.add_zero] at p1 p2
        replace HI : Hid (Own lo 26 6 _ (.slice (some ⟨g, 0, none⟩) xs.length cap) (css.set k [.int .i64 ((k0 : Int) + k * 6), .string x1, .int .i64 x2, .int .i64 x3, .int .i64 x4, .int .i64 x5]) ∧ ∃ h : k < (css.set k [.int .i64 ((k0 : Int) + k * 6), .string x1, .int .i64 x2, .int .i64 x3, .int .i64 x4, .int .i64 x5]).length, (css.set k [.int .i64 ((k0 : Int) + k * 6), .string x1, .int .i64 x2, .int .i64 x3, .int .i64 x4, .int .i64 x5])[k] = [.int .i64 ((k0 : Int) + k * 6), .string x1, .int .i64 x2, .int .i64 x3, .int .i64 x4, .int .i64 x5]) := ⟨p1, by rw [List.length_set]; exact HI.out.2.1, by rw [List.getElem_set_self]⟩
        replace HG := Lib.hid (grownBy_trans HG.out p2)
        clear p1 p2
        refine (markText_int _ _ (by omega) (by omega)).mono ?_
        rw [show ((k0 : Int) + k * 6 + 1).toNat = k0 + k * 6 + 1 by omega]
        rintro e w11 ⟨rfl, hb11⟩
        replace HI : Hid (_ ∧ _) := ⟨HI.out.1.below hb11, HI.out.2⟩
        replace HG := Lib.hid (grownBy_trans HG.out (grownBy_of_below hb11 _))
        have c0 := HI.out.1.cell k 0 HI.out.2.1 (by omega)
        have c1 := HI.out.1.cell k 1 HI.out.2.1 (by omega)
        have c2 := HI.out.1.cell k 2 HI.out.2.1 (by omega)
        have c3 := HI.out.1.cell k 3 HI.out.2.1 (by omega)
        have c4 := HI.out.1.cell k 4 HI.out.2.1 (by omega)
        have c5 := HI.out.1.cell k 5 HI.out.2.1 (by omega)
        rw [HI.out.2.2] at c0 c1 c2 c3 c4 c5
        simp at c0 c1 c2 c3 c4 c5
        have fr0 := HI.out.1.frozen (k * 6)
        have fr1 := HI.out.1.frozen (k * 6 + 1)
        have fr2 := HI.out.1.frozen (k * 6 + 2)
        have fr3 := HI.out.1.frozen (k * 6 + 3)
        have fr4 := HI.out.1.frozen (k * 6 + 4)
        have fr5 := HI.out.1.frozen (k * 6 + 5)
        clear hb11
        go_wp2_with fail
        go_roundw
        case rel =>
          obtain ⟨p1, p2⟩ := Own.puts [.string ⟨(mt (k0 + k * 6 + 1)).toArray⟩, .int .i64 ((k0 : Int) + k * 6 + 1 + 1), .int .i64 ((k0 : Int) + k * 6 + 1 + 1 + 1), .int .i64 ((k0 : Int) + k * 6 + 1 + 1 + 1 + 1), .int .i64 ((k0 : Int) + k * 6 + 1 + 1 + 1 + 1 + 1)] _ _ k 1 HI.out.2.1 (by simp) HI.out.1
          rw [HI.out.2.2] at p1
          simp only [setFrom, List.set_cons_zero, List.set_cons_succ, List.set_set] at p1 p2
          have hfin : css.set k [.int .i64 ((k0 : Int) + k * 6), .string ⟨(mt (k0 + k * 6 + 1)).toArray⟩, .int .i64 ((k0 : Int) + k * 6 + 1 + 1), .int .i64 ((k0 : Int) + k * 6 + 1 + 1 + 1), .int .i64 ((k0 : Int) + k * 6 + 1 + 1 + 1 + 1), .int .i64 ((k0 : Int) + k * 6 + 1 + 1 + 1 + 1 + 1)] = (mkd (mCk k0) xs (k + 1)).map ckC := by
            rw [← HCSS.out, ← mkd_set _ _ _ hlt, List.map_set]
            congr 1
            all_goals simp [ckC, mCk, Int.natCast_add, Int.natCast_mul, Int.add_assoc]
          rw [hfin] at p1
          refine ⟨k + 1, by omega, by go_num, by go_num, p1, grownBy_trans HG.out p2⟩
        case measure => simp [intOf]; omega
      · clear hO
        go_wp2
        go_ret
        obtain rfl : k = xs.length := by omega
        have h1 := HO.out
        have h2 := mCk_mkd_ok (k0 := k0) HOK.out xs.length (Nat.le_refl _) hk1
        rw [mkd_all] at h1 h2
        exact ⟨ret_int (by omega), ⟨h1, h2, HUN.out⟩, Only.of_grown (v := .slice (some ⟨g, 0, none⟩) xs.length cap) hG HGE.out HUN.out⟩

theorem mCks_get (k0 n i : Nat) (h : i < n) : (mCks k0 n)[i]'(by rw [mCks_len]; exact h) = mCk k0 i := by simp [mCks]

set_option maxHeartbeats 2000000 in
theorem heldCkS_any (v : Value) (k0 n : Nat) (w : World) (hk0 : 1 ≤ k0) (hk1 : k0 + n * 6 ≤ 1099511627776) (h1 : RowR 6 rCk w v (mCks k0 n)) :
    Calls Try.prog 36 #[v, .int .i64 k0] w fun e w' => e = .returned (.int .i64 (k0 + n * 6 : Nat)) ∧ Below w.heap.size w w' := by
  obtain ⟨a1, c1, rfl, hl1, hm1, r1⟩ := h1
  rw [mCks_len]
  rw [mCks_len] at hl1
  have R1 := Lib.hid r1
  clear r1
  go_enter Try.func36, Try.ntmps36
  go_wp2
  go_loopw [1, 5] (fun q i wr => ∃ k : Nat, k ≤ n ∧ i = .int .i64 k ∧ q = .int .i64 ((k0 : Int) + k * 6) ∧ Below w.heap.size w wr) (fun _ i _ => n - (intOf i).toNat)
  case atStart => exact ⟨0, Nat.zero_le _, rfl, by simp, Below.refl _ _⟩
  case round =>
    obtain ⟨k, hk, rfl, rfl, hb⟩ := hrel
    by_cases hlt : k < n
    · obtain ⟨b1, o1, hb1, rfl, e1⟩ := R1.out.resolve_left (fun e => by have := mCks_len k0 n; rw [e] at this; simp at this; omega)
      obtain ⟨cs, hcl, hcs, hre⟩ := e1 k (by rw [mCks_len]; exact hlt)
      rw [mCks_get k0 n k hlt] at hre
      obtain ⟨rfl, _⟩ := hre
      have f0 := (hb.cell (p := ⟨b1, o1 + k * 6, none⟩) hb1).trans (hcs 0 (by simp only [ckC, List.length_cons, List.length_nil]; omega))
      have f1 := (hb.cell (p := ⟨b1, o1 + k * 6 + 1, none⟩) hb1).trans (hcs 1 (by simp only [ckC, List.length_cons, List.length_nil]; omega))
      have f2 := (hb.cell (p := ⟨b1, o1 + k * 6 + 2, none⟩) hb1).trans (hcs 2 (by simp only [ckC, List.length_cons, List.length_nil]; omega))
      have f3 := (hb.cell (p := ⟨b1, o1 + k * 6 + 3, none⟩) hb1).trans (hcs 3 (by simp only [ckC, List.length_cons, List.length_nil]; omega))
      have f4 := (hb.cell (p := ⟨b1, o1 + k * 6 + 4, none⟩) hb1).trans (hcs 4 (by simp only [ckC, List.length_cons, List.length_nil]; omega))
      have f5 := (hb.cell (p := ⟨b1, o1 + k * 6 + 5, none⟩) hb1).trans (hcs 5 (by simp only [ckC, List.length_cons, List.length_nil]; omega))
      have q0 : ((k0 + k * 6 : Nat) : Int) = (k0 : Int) + k * 6 := by omega
      have q2 : ((k0 + k * 6 + 2 : Nat) : Int) = (k0 : Int) + k * 6 + 1 + 1 := by omega
      have q3 : ((k0 + k * 6 + 3 : Nat) : Int) = (k0 : Int) + k * 6 + 1 + 1 + 1 := by omega
      have q4 : ((k0 + k * 6 + 4 : Nat) : Int) = (k0 : Int) + k * 6 + 1 + 1 + 1 + 1 := by omega
      have q5 : ((k0 + k * 6 + 5 : Nat) : Int) = (k0 : Int) + k * 6 + 1 + 1 + 1 + 1 + 1 := by omega
      simp only [ckC, mCk, List.getElem_cons_zero, List.getElem_cons_succ, q0, q2, q3, q4, q5] at f0 f1 f2 f3 f4 f5
      have g0 : (0 : Int) ≤ (k : Int) := by omega
      have g1 : (k : Int) < (n : Int) := by omega
      have hsz := hb.size
      have n0 : (((k0 : Int) + k * 6) != ((k0 : Int) + k * 6)) = false := by simp
      have n2 : (((k0 : Int) + k * 6 + 1 + 1) != ((k0 : Int) + k * 6 + 1 + 1)) = false := by simp
      have n3 : (((k0 : Int) + k * 6 + 1 + 1 + 1) != ((k0 : Int) + k * 6 + 1 + 1 + 1)) = false := by simp
      have n4 : (((k0 : Int) + k * 6 + 1 + 1 + 1 + 1) != ((k0 : Int) + k * 6 + 1 + 1 + 1 + 1)) = false := by simp
      have n5 : (((k0 : Int) + k * 6 + 1 + 1 + 1 + 1 + 1) != ((k0 : Int) + k * 6 + 1 + 1 + 1 + 1 + 1)) = false := by simp
      have t1 : ((k0 : Int) + k * 6 + 1).toNat = k0 + k * 6 + 1 := by omega
      clear hcs hcl e1 q0 q2 q3 q4 q5
      go_wp2_with fail
      go_region_held3 (fun w' => w'.cell? ⟨b1, o1 + k * 6 + 1, none⟩ = some (.string ⟨(mt (k0 + k * 6 + 1)).toArray⟩)) (first | go_keep | ((rw [hb'.cell (by simp; omega)]; assumption)))
        (first | (go_at_call 60; refine (markText_int _ _ (by omega) (by omega)).mono ?_; rw [t1]; rintro e w' ⟨rfl, hb'⟩))
      replace hb := hb.drew.trans (hb'.mono hsz)
      replace hsz := hb.size
      replace f1 := cell_keptd f1 hb'
      replace f2 := cell_keptd f2 hb'
      replace f3 := cell_keptd f3 hb'
      replace f4 := cell_keptd f4 hb'
      replace f5 := cell_keptd f5 hb'
      clear hb'
      go_wp2_with fail
      go_roundw
      case rel => exact ⟨k + 1, by omega, by go_num, by go_num, hb⟩
      case measure => simp [intOf]; omega
    · go_wp2
      go_ret
      exact ⟨ret_int (by omega), hb⟩
end Go.Proofs.Ytdlbmoeogdjnkaa
