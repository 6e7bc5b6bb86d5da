/- The draw for JoinStrings: few texts, each of a bounded length. -/
import Derived.Test.YtfjfnbpfeijmnaaDrawA
import Derived.Test.YtfjfnbpfeijmnaaToStr
import Derived.Maps.AppendAt
import Derived.Laws.IdiomStrings
namespace Go.Proofs.Ytfjfnbpfeijmnaa
set_option linter.unusedVariables false
open Go.RowKit

def markList : List ByteArray := [⟨#[44]⟩, ⟨#[59]⟩, ⟨#[59]⟩, ⟨#[]⟩, ⟨#[97, 98]⟩]
theorem mark_short {s : ByteArray} (h : s ∈ markList) : s.size ≤ 2 := by
  have : ∀ x ∈ markList, x.size ≤ 2 := by decide
  exact this s h

/-- A list of texts and a text that are drawn. -/
def ListDrawn (w : World) (e : Ending) (w' : World) : Prop :=
  ∃ (v : Value) (ss : List ByteArray) (t : ByteArray), e = .returned (.tuple #[v, .string t]) ∧ ss.length ≤ 5 ∧ (∀ s ∈ ss, s.size ≤ 5000) ∧ t.size ≤ 2 ∧ w'.ownsRow w.heap.size 9 1 v ss.length (ss.map Value.string) ∧ Below w.heap.size w w'

theorem kept_cur {w w' : World} {B base e size : Nat} {v : Value} {n : Nat} {xs : List Value} (h : w.ownsRow base e size v n xs) (hg : w.grownBy w' (some B)) (hB : B < base) : w'.ownsRow base e size v n xs :=
  h.kept hg (by
    rcases hv : v.ownBlock with _ | k
    · exact .inl rfl
    · refine .inr fun e => ?_
      have := (h.lt k hv).1
      cases e; omega)

theorem kept_none {w w' : World} {base e size : Nat} {v : Value} {n : Nat} {xs : List Value} (h : w.ownsRow base e size v n xs) (hg : w.grownBy w' none) : w'.ownsRow base e size v n xs :=
  h.kept hg (by
    rcases hv : v.ownBlock with _ | k
    · exact .inl rfl
    · exact .inr (by simp))

theorem Try.info_uint8 : (Try.prog.info? 5).map (fun i => (i.zero, i.size, i.bytes)) = some (some (.int .u8 0), 1, 1) := by kernel_rfl

/-- 'string(b)' of n zero bytes that have just been made. -/
theorem conv_zeros (w : World) (g n : Nat) (base : Nat) (h : w.ownsRow base 5 1 (.slice (some ⟨g, 0, none⟩) n n) n (madeCells #[.int .u8 0] (n * 1)).toList) :
    (convert 22 9 (.slice (some ⟨g, 0, none⟩) n n)).run Try.prog w = .ok (.string ⟨(List.replicate n (0 : UInt8)).toArray⟩) w := by
  have := run_convert_bytes_back (P := Try.prog) w 22 9 5 ⟨g, 0, none⟩ n (List.replicate n (0 : UInt8)) Try.underlying22 Try.underlying5 Try.underlying9 (fun j hj => by
    have hj' : j < n := by simpa using hj
    rw [addr_add, Nat.zero_add, h.cellAt j (by omega), Nat.mul_one, toList_madeCells_one]
    simp [hj'])
  simpa using this

set_option maxHeartbeats 2000000 in
theorem drawJoin_any (a : Option Addr) (len cap : Nat) (zs : List Int) (w : World) (h : IsRow .u8 w a len cap zs) (hl : len ≤ 1099511627776) :
    Calls Try.prog 11 #[.slice a len cap] w (ListDrawn w) := by
  obtain ⟨i0, hi, hz0, hz1, hz2⟩ := info_parts Try.info_string
  obtain ⟨j0, hi', hy0, hy1, hy2⟩ := info_parts Try.info_uint8
  have hC := cur_new h hl 44
  have HC := Lib.hid (hC.later (Below.alloc (Below.refl (w.heap.size + 1) _) (by simp) (.cells #[] 9)))
  clear h hC
  go_enter Try.func11, Try.ntmps11
  go_wp2_with fail
  refine (pick_any w.heap.size 0 4 _ HC.out (by omega) (by omega) (by omega)).mono ?_
  rintro e w1 ⟨r, rfl, hr0, hr1, hc1, hg1⟩
  have HC1 := Lib.hid hc1
  have hB1 : Below w.heap.size w w1 := (((Below.refl w.heap.size w).alloc (Nat.le_refl _) _).alloc (by simp) _).trans (below_of_cur hg1 (by simp only [World.size_alloc]; omega))
  have hO1 : w1.ownsRow (w.heap.size + 1) 9 1 (.slice (some ⟨w.heap.size + 1, 0, none⟩) 0 0) 0 [] := by
    have := World.ownsRow_made (base := w.heap.size + 1) (e := 9) (size := 1) (w.alloc (.cells #[.slice a len cap, .int .i64 0, .int .u64 0] 44)) #[] 0 (by simp) (Nat.zero_le _) rfl
    rw [World.size_alloc] at this
    exact kept_cur this hg1 (by omega)
  have HB1 := Lib.hid hB1
  have HO1 := Lib.hid hO1
  clear hc1 hg1 hB1 hO1
  go_wp2_with fail
  go_loopw [5, 7] (fun l i wr => ∃ (k : Nat) (ss : List ByteArray), (k : Int) ≤ r ∧ i = .int .i64 k ∧ ss.length = k ∧ (∀ s ∈ ss, s.size ≤ 10) ∧ wr.ownsRow (w.heap.size + 1) 9 1 l ss.length (ss.map Value.string) ∧ Cur wr w.heap.size (2 + 2 * k) ∧ Below w.heap.size w wr) (fun _ i _ => (r - intOf i).toNat)
  case atStart => exact ⟨0, [], hr0, rfl, rfl, (fun s h => by cases h), HO1.out, HC1.out, HB1.out⟩
  case round =>
    obtain ⟨k, ss, hk, rfl, hss, hsz, hO, hcur, hb⟩ := hrel
    have HSS := Lib.hid hss
    have HSZ := Lib.hid hsz
    have HO := Lib.hid hO
    have HCR := Lib.hid hcur
    have hk3 : k ≤ 3 := by omega
    have hlt0 := hcur.lt
    clear hss hsz hO hcur
    by_cases hlt : (k : Int) < r
    · go_wp2_with fail
      refine (any1_any w.heap.size (2 + 2 * k) _ HCR.out (by omega)).mono ?_
      rintro e w2 ⟨s, rfl, hm, hc2, hg2⟩
      have hO2 := kept_cur HO.out hg2 (by omega)
      have hb2 : Below w.heap.size w w2 := hb.trans (below_of_cur hg2 (by omega))
      have hz2' := hg2.size
      have hlen : ss.length ≤ 3 := by rw [HSS.out]; exact hk3
      have HC2 := Lib.hid hc2
      clear hc2 hg2
      go_wp2_with (first | (at_builtin; refine wpList_append_own _ rfl _ _ 26 rfl (w.heap.size + 1) 9 i0 (.string ⟨#[]⟩) 1 16 Try.underlying26 hi hz0 hz1 hz2 rfl (by decide) _ _ _ rfl (hO2.alloc _) ⟨w2.heap.size, 0, none⟩ 1 1 [.string s] rfl rfl (cell_one_new _ _ _) (by simp [Value.oneCell']) (by unfold maxLen; omega) (by omega) (by simp; omega) ?_; intro v' w3 hown' hgrow _))
      have hb3 : Below (w.heap.size + 1) w2 w3 := below_app (Below.refl _ _) (by omega) hO2 hgrow
      have HOWN := Lib.hid hown'
      have HB3 := Lib.hid (hb2.trans (hb3.mono (by omega)))
      have HC3 := Lib.hid (HC2.out.later hb3)
      clear hown' hgrow hO2 hb3
      go_wp2
      go_roundw
      case rel =>
        refine ⟨k + 1, ss ++ [s], by omega, by go_num, by rw [List.length_append, HSS.out]; rfl, fun x hx => ?_, ?_, by rw [show 2 + 2 * (k + 1) = 2 + 2 * k + 2 by omega]; exact HC3.out, HB3.out⟩
        · rcases List.mem_append.1 hx with h | h
          · exact HSZ.out x h
          · rw [List.mem_singleton.1 h]; exact any1_short hm
        · simpa using HOWN.out
      case measure => simp [intOf]; omega
    · go_wp2_with fail
      refine (one_any w.heap.size (2 + 2 * k) 20 _ HCR.out (by omega) (by omega) (by omega)).mono ?_
      rintro e w2 ⟨b, rfl, hc2, hg2⟩
      have hO2 := kept_cur HO.out hg2 (by omega)
      have hb2 : Below w.heap.size w w2 := hb.trans (below_of_cur hg2 (by omega))
      have hz2' := hg2.size
      have hlen : ss.length ≤ 3 := by rw [HSS.out]; exact hk3
      have HC2 := Lib.hid hc2
      have HO2 := Lib.hid hO2
      have HB2 := Lib.hid hb2
      have hs2 := hc2.lt
      clear hc2 hg2 hO2 hb2
      cases b with
      | false =>
        have HC2' := Lib.hid (HC2.out.later (Below.alloc (Below.refl (w.heap.size + 1) w2) hs2 (.cells (markList.map Value.string).toArray 9)))
        go_wp2_with fail
        refine (of_any w.heap.size (2 + 2 * k + 2) w2.heap.size 0 5 5 markList _ HC2'.out (by omega) rfl (by omega) (by omega) (by omega) (new_cells w2 markList 9 _ rfl)).mono ?_
        rintro e w3 ⟨t, rfl, hm2, hc3, hg3⟩
        have HO3 := Lib.hid (kept_cur (HO2.out.alloc _) hg3 (by omega))
        have HB3 := Lib.hid ((HB2.out.alloc (by omega) _).trans (below_of_cur hg3 (by simp; omega)))
        clear hc3 hg3
        go_wp2
        go_ret2
        exact ⟨_, ss, t, rfl, by omega, fun x hx => Nat.le_trans (HSZ.out x hx) (by omega), mark_short hm2, ownsRow_base_a' HO3.out (by omega), HB3.out⟩
      | true =>
        go_wp2_with fail
        refine (pick_any w.heap.size (2 + 2 * k + 2) 20 _ HC2.out (by omega) (by omega) (by omega)).mono ?_
        rintro e w3 ⟨r3, rfl, hr30, hr31, hc3, hg3⟩
        obtain ⟨q, rfl⟩ := Int.eq_ofNat_of_zero_le hr30
        have hO3 := kept_cur HO2.out hg3 (by omega)
        have hb3 : Below w.heap.size w w3 := HB2.out.trans (below_of_cur hg3 (by omega))
        have hz3 := hg3.size
        have HO3 := Lib.hid hO3
        have HB3 := Lib.hid hb3
        have HC3 := Lib.hid hc3
        have hs3 := hc3.lt
        clear hO3 hb3 hc3 hg3
        go_wp2_with (first | (at_make; refine wpList_make_full _ rfl _ _ 22 rfl (w.heap.size + 1) 5 j0 _ 1 Try.underlying22 hi' hy0 hy1 .i64 .i64 _ _ (3990 + q) rfl rfl (by omega) (by omega) (by rw [hy2]; omega) (by unfold maxLen; omega) (by omega) ?_; intro w4 ho4 hg4; have kc := conv_zeros w4 _ _ _ ho4; have hO4 := kept_none HO3.out hg4; have hB4 := below_of_grownBy (B := w3.heap.size) hg4 (Nat.le_refl _) (fun k h => by cases h); have hz4 := hB4.size; have HB4 := Lib.hid hB4; clear ho4 hg4 hB4) | (at_builtin; refine wpList_append_own _ rfl _ _ 26 rfl (w.heap.size + 1) 9 i0 (.string ⟨#[]⟩) 1 16 Try.underlying26 hi hz0 hz1 hz2 rfl (by decide) _ _ _ rfl (hO4.alloc _) ⟨w4.heap.size, 0, none⟩ 1 1 [.string ⟨(List.replicate (3990 + q) (0 : UInt8)).toArray⟩] rfl rfl (cell_one_new _ _ _) (by simp [Value.oneCell']) (by unfold maxLen; omega) (by omega) (by simp; omega) ?_; intro v' w5 hown' hgrow _))
        have hb5 : Below (w.heap.size + 1) w4 w5 := below_app (Below.refl _ _) (by omega) hO4 hgrow
        have hb35 : Below (w.heap.size + 1) w3 w5 := (HB4.out.mono (by omega)).trans hb5
        have hC5 := HC3.out.later hb35
        have hs5 := hC5.lt
        have HC5 := Lib.hid (hC5.later (Below.alloc (Below.refl (w.heap.size + 1) w5) hs5 (.cells (markList.map Value.string).toArray 9)))
        refine (of_any w.heap.size (2 + 2 * k + 2 + 2) w5.heap.size 0 5 5 markList _ HC5.out (by omega) rfl (by omega) (by omega) (by omega) (new_cells w5 markList 9 _ rfl)).mono ?_
        rintro e w6 ⟨t, rfl, hm2, hc6, hg6⟩
        have HO6 := Lib.hid (kept_cur (hown'.alloc _) hg6 (by omega))
        have HB6 := Lib.hid (((HB3.out.trans (hb35.mono (by omega))).alloc (by omega) _).trans (below_of_cur hg6 (by simp; omega)))
        clear hc6 hg6 hown' hgrow hb5 hb35 hC5 hO4 kc
        go_wp2
        go_ret2
        refine ⟨_, ss ++ [⟨(List.replicate (3990 + q) (0 : UInt8)).toArray⟩], t, rfl, by simp; omega, fun x hx => ?_, mark_short hm2, ?_, HB6.out⟩
        · rcases List.mem_append.1 hx with h | h
          · exact Nat.le_trans (HSZ.out x h) (by omega)
          · rw [List.mem_singleton.1 h]; simp [ByteArray.size]; omega
        · have := ownsRow_base_a' (base' := w.heap.size) HO6.out (by omega)
          simpa using this
end Go.Proofs.Ytfjfnbpfeijmnaa
