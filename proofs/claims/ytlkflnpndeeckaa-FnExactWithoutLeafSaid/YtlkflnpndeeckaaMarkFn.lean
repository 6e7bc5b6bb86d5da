/- The laws' own marks of Function: what is written, and that it is found again. -/
import Derived.Test.YtlkflnpndeeckaaToFn
import Derived.Test.YtlkflnpndeeckaaMarkInt
import Derived.Deep.RegionHeld3
import Derived.WalkSmall
namespace Go.Proofs.Ytlkflnpndeeckaa
set_option linter.unusedVariables false
open Go.RowKit

/-- The i-th one's marks from number k on. -/
def mFn (k i : Nat) : Fn := ⟨((k + i * 3 : Nat) : Int), ((k + i * 3 + 1 : Nat) : Int), ⟨(mt (k + i * 3 + 2)).toArray⟩⟩
def mFns (k n : Nat) : List Fn := (List.range n).map (mFn k)
theorem mFns_len (k n : Nat) : (mFns k n).length = n := by simp [mFns]
theorem mFn_ok (k i : Nat) (h : k + i * 3 + 3 ≤ 1099511627777) : (mFn k i).ok := ⟨by simp only [mFn, inI]; omega, by simp only [mFn, inI]; omega, mt_size_ok _ (by omega)⟩
theorem mFn_mkd_ok {k0 : Nat} {xs : List Fn} (h : ∀ e ∈ xs, e.ok) (k : Nat) (hk : k ≤ xs.length) (hb : k0 + xs.length * 3 ≤ 1099511627776) : ∀ e ∈ mkd (mFn k0) xs k, e.ok := by
  intro e he
  unfold mkd at he
  rcases List.mem_append.1 he with h1 | h1
  · obtain ⟨i, hi, rfl⟩ := List.mem_map.1 h1
    exact mFn_ok _ _ (by have := List.mem_range.1 hi; omega)
  · exact h e (List.mem_of_mem_drop h1)

set_option maxHeartbeats 2000000 in
theorem markFnS_any (v : Value) (xs : List Fn) (lo hi k0 : Nat) (w : World) (hk0 : 1 ≤ k0) (hk1 : k0 + xs.length * 3 ≤ 1099511627776) (hown : FnsO lo hi w v xs) :
    Calls Try.prog 65 #[v, .int .i64 k0] w fun e w' => e = .returned (.int .i64 (k0 + xs.length * 3 : Nat)) ∧ FnsO lo hi w' v (mFns k0 xs.length) ∧ Only lo hi w w' := by
  obtain ⟨ho, hok, hun⟩ := hown
  have HGE := Lib.hid ho.ge
  have HUN := Lib.hid hun
  clear hun
  have hlen : (xs.map fnC).length = xs.length := List.length_map _
  have HOK := Lib.hid hok
  clear hok
  rcases ho.form with ⟨rfl, h0⟩ | ⟨g, cap, hv, hg, hgl, hn, hm⟩
  · have hx : xs = [] := List.map_eq_nil_iff.1 h0
    subst hx
    clear h0 hlen
    have HO := Lib.hid ho
    clear ho
    go_enter Try.func65, Try.ntmps65
    go_wp2
    refine wp_loop_rounds 1 ?_
    rw [rounds_succ]
    go_wp2
    go_ret
    exact ⟨by simp, ⟨HO.out, by simp [mFns], HUN.out⟩, Only.refl _ _ _⟩
  · rw [hlen] at hv hn
    subst hv
    unfold maxLen at hm
    have HO0 := Lib.hid ho
    clear ho
    go_enter Try.func65, Try.ntmps65
    go_wp2
    go_loopw [1, 5] (fun q i wr => ∃ k : Nat, k ≤ xs.length ∧ i = .int .i64 k ∧ q = .int .i64 ((k0 : Int) + k * 3) ∧
        Own lo 53 3 wr (.slice (some ⟨g, 0, none⟩) xs.length cap) ((mkd (mFn k0) xs k).map fnC) ∧ w.grownBy wr (some g)) (fun _ i _ => xs.length - (intOf i).toNat)
    case atStart => exact ⟨0, Nat.zero_le _, rfl, by simp, by simpa [mkd_zero] using HO0.out, World.grownBy.refl _ _⟩
    case round =>
      obtain ⟨k, hk, rfl, rfl, hO, hG⟩ := hrel
      have HO := Lib.hid hO
      by_cases hlt : k < xs.length
      · have hml : ((mkd (mFn k0) xs k).map fnC).length = xs.length := by rw [List.length_map, mkd_len _ _ _ (by omega)]
        have hat : ((mkd (mFn k0) xs k).map fnC)[k]'(by omega) = fnC xs[k] := by
          have h1 := mkd_at (mFn k0) xs k hlt
          rw [List.getElem?_eq_getElem (by rw [mkd_len _ _ _ (by omega)]; exact hlt)] at h1
          rw [List.getElem_map, Option.some.inj h1]
        obtain ⟨⟨x0, x1, x2⟩, hs⟩ : ∃ s, xs[k] = s := ⟨_, rfl⟩
        rw [hs] at hat
        have HAT := Lib.hid hat
        have HML := Lib.hid hml
        have c0 := hO.cell k 0 (by omega) (by omega)
        have c1 := hO.cell k 1 (by omega) (by omega)
        have c2 := hO.cell k 2 (by omega) (by omega)
        rw [hat] at c0 c1 c2
        simp [fnC] at c0 c1 c2
        have fr0 := hO.frozen (k * 3)
        have fr1 := hO.frozen (k * 3 + 1)
        have fr2 := hO.frozen (k * 3 + 2)
        have g0 : (0 : Int) ≤ (k : Int) := by omega
        have g1 : (k : Int) < (xs.length : Int) := by omega
        clear hO hat hs
        have hkc : k < ((mkd (mFn k0) xs k).map fnC).length := by rw [HML.out]; exact hlt
        obtain ⟨css, hcss⟩ : ∃ css, (mkd (mFn k0) xs k).map fnC = css := ⟨_, rfl⟩
        have HCSS := Lib.hid hcss
        have HI : Hid (Own lo 53 3 wr (.slice (some ⟨g, 0, none⟩) xs.length cap) css ∧ ∃ h : k < css.length, css[k] = fnC ⟨x0, x1, x2⟩) := by
          subst hcss
          exact ⟨HO.out, hkc, HAT.out⟩
        have HG := Lib.hid hG
        clear hcss HO HAT HML hG hml
        go_wp2_with fail
        obtain ⟨p1, p2⟩ := Own.puts [.int .i64 ((k0 : Int) + k * 3), .int .i64 ((k0 : Int) + k * 3 + 1)] _ css k 0 HI.out.2.1 (by simp) HI.out.1
        rw [HI.out.2.2] at p1
        simp only [fnC, setFrom, List.set_cons_zero, List.set_cons_succ, Nat.add_zero, Nat.zero_add] at p1 p2
        replace HI : Hid (Own lo 53 3 _ (.slice (some ⟨g, 0, none⟩) xs.length cap) (css.set k [.int .i64 ((k0 : Int) + k * 3), .int .i64 ((k0 : Int) + k * 3 + 1), .string x2]) ∧ ∃ h : k < (css.set k [.int .i64 ((k0 : Int) + k * 3), .int .i64 ((k0 : Int) + k * 3 + 1), .string x2]).length, (css.set k [.int .i64 ((k0 : Int) + k * 3), .int .i64 ((k0 : Int) + k * 3 + 1), .string x2])[k] = [.int .i64 ((k0 : Int) + k * 3), .int .i64 ((k0 : Int) + k * 3 + 1), .string x2]) := ⟨p1, by rw [List.length_set]; exact HI.out.2.1, by rw [List.getElem_set_self]⟩
        replace HG := Lib.hid (grownBy_trans HG.out p2)
        clear p1 p2
        refine (markText_int _ _ (by omega) (by omega)).mono ?_
        rw [show ((k0 : Int) + k * 3 + 1 + 1).toNat = k0 + k * 3 + 2 by omega]
        rintro e w11 ⟨rfl, hb11⟩
        replace HI : Hid (_ ∧ _) := ⟨HI.out.1.below hb11, HI.out.2⟩
        replace HG := Lib.hid (grownBy_trans HG.out (grownBy_of_below hb11 _))
        have c0 := HI.out.1.cell k 0 HI.out.2.1 (by omega)
        have c1 := HI.out.1.cell k 1 HI.out.2.1 (by omega)
        have c2 := HI.out.1.cell k 2 HI.out.2.1 (by omega)
        rw [HI.out.2.2] at c0 c1 c2
        simp at c0 c1 c2
        have fr0 := HI.out.1.frozen (k * 3)
        have fr1 := HI.out.1.frozen (k * 3 + 1)
        have fr2 := HI.out.1.frozen (k * 3 + 2)
        clear hb11
        go_wp2_with fail
        go_roundw
        case rel =>
          obtain ⟨p1, p2⟩ := Own.puts [.string ⟨(mt (k0 + k * 3 + 2)).toArray⟩] _ _ k 2 HI.out.2.1 (by simp) HI.out.1
          rw [HI.out.2.2] at p1
          simp only [setFrom, List.set_cons_zero, List.set_cons_succ, List.set_set] at p1 p2
          have hfin : css.set k [.int .i64 ((k0 : Int) + k * 3), .int .i64 ((k0 : Int) + k * 3 + 1), .string ⟨(mt (k0 + k * 3 + 2)).toArray⟩] = (mkd (mFn k0) xs (k + 1)).map fnC := by
            rw [← HCSS.out, ← mkd_set _ _ _ hlt, List.map_set]
            congr 1
            all_goals simp [fnC, mFn, Int.natCast_add, Int.natCast_mul, Int.add_assoc]
          rw [hfin] at p1
          refine ⟨k + 1, by omega, by go_num, by go_num, p1, grownBy_trans HG.out p2⟩
        case measure => simp [intOf]; omega
      · clear hO
        go_wp2
        go_ret
        obtain rfl : k = xs.length := by omega
        have h1 := HO.out
        have h2 := mFn_mkd_ok (k0 := k0) HOK.out xs.length (Nat.le_refl _) hk1
        rw [mkd_all] at h1 h2
        exact ⟨ret_int (by omega), ⟨h1, h2, HUN.out⟩, Only.of_grown (v := .slice (some ⟨g, 0, none⟩) xs.length cap) hG HGE.out HUN.out⟩

theorem mFns_get (k0 n i : Nat) (h : i < n) : (mFns k0 n)[i]'(by rw [mFns_len]; exact h) = mFn k0 i := by simp [mFns]

set_option maxHeartbeats 2000000 in
theorem heldFnS_any (v : Value) (k0 n : Nat) (w : World) (hk0 : 1 ≤ k0) (hk1 : k0 + n * 3 ≤ 1099511627776) (h1 : RowR 3 rFn w v (mFns k0 n)) :
    Calls Try.prog 68 #[v, .int .i64 k0] w fun e w' => e = .returned (.int .i64 (k0 + n * 3 : Nat)) ∧ Below w.heap.size w w' := by
  obtain ⟨a1, c1, rfl, hl1, hm1, r1⟩ := h1
  rw [mFns_len]
  rw [mFns_len] at hl1
  have R1 := Lib.hid r1
  clear r1
  go_enter Try.func68, Try.ntmps68
  go_wp2
  go_loopw [1, 5] (fun q i wr => ∃ k : Nat, k ≤ n ∧ i = .int .i64 k ∧ q = .int .i64 ((k0 : Int) + k * 3) ∧ Below w.heap.size w wr) (fun _ i _ => n - (intOf i).toNat)
  case atStart => exact ⟨0, Nat.zero_le _, rfl, by simp, Below.refl _ _⟩
  case round =>
    obtain ⟨k, hk, rfl, rfl, hb⟩ := hrel
    by_cases hlt : k < n
    · obtain ⟨b1, o1, hb1, rfl, e1⟩ := R1.out.resolve_left (fun e => by have := mFns_len k0 n; rw [e] at this; simp at this; omega)
      obtain ⟨cs, hcl, hcs, hre⟩ := e1 k (by rw [mFns_len]; exact hlt)
      rw [mFns_get k0 n k hlt] at hre
      obtain ⟨rfl, _⟩ := hre
      have f0 := (hb.cell (p := ⟨b1, o1 + k * 3, none⟩) hb1).trans (hcs 0 (by simp only [fnC, List.length_cons, List.length_nil]; omega))
      have f1 := (hb.cell (p := ⟨b1, o1 + k * 3 + 1, none⟩) hb1).trans (hcs 1 (by simp only [fnC, List.length_cons, List.length_nil]; omega))
      have f2 := (hb.cell (p := ⟨b1, o1 + k * 3 + 2, none⟩) hb1).trans (hcs 2 (by simp only [fnC, List.length_cons, List.length_nil]; omega))
      have q0 : ((k0 + k * 3 : Nat) : Int) = (k0 : Int) + k * 3 := by omega
      have q1 : ((k0 + k * 3 + 1 : Nat) : Int) = (k0 : Int) + k * 3 + 1 := by omega
      simp only [fnC, mFn, List.getElem_cons_zero, List.getElem_cons_succ, q0, q1] at f0 f1 f2
      have g0 : (0 : Int) ≤ (k : Int) := by omega
      have g1 : (k : Int) < (n : Int) := by omega
      have hsz := hb.size
      have n0 : (((k0 : Int) + k * 3) != ((k0 : Int) + k * 3)) = false := by simp
      have n1 : (((k0 : Int) + k * 3 + 1) != ((k0 : Int) + k * 3 + 1)) = false := by simp
      have t2 : ((k0 : Int) + k * 3 + 1 + 1).toNat = k0 + k * 3 + 2 := by omega
      clear hcs hcl e1 q0 q1
      go_wp2_with fail
      go_region_held3 (fun w' => w'.cell? ⟨b1, o1 + k * 3 + 2, none⟩ = some (.string ⟨(mt (k0 + k * 3 + 2)).toArray⟩)) (first | go_keep | ((rw [hb'.cell (by simp; omega)]; assumption)))
        (first | (go_at_call 105; refine (markText_int _ _ (by omega) (by omega)).mono ?_; rw [t2]; rintro e w' ⟨rfl, hb'⟩))
      replace hb := hb.drew.trans (hb'.mono hsz)
      replace hsz := hb.size
      replace f2 := cell_keptd f2 hb'
      clear hb'
      go_wp2_with fail
      go_roundw
      case rel => exact ⟨k + 1, by omega, by go_num, by go_num, hb⟩
      case measure => simp [intOf]; omega
    · go_wp2
      go_ret
      exact ⟨ret_int (by omega), hb⟩
end Go.Proofs.Ytlkflnpndeeckaa
