/- AppendChecksum, the model's and the program's: both answer the same at every text. -/
import Derived.Test.YtfjfnbpfeijmnaaDoorSum
import Derived.Test.YtfjfnbpfeijmnaaDoorStands
import Derived.Test.YtfjfnbpfeijmnaaDoorTab
import Derived.Test.YtfjfnbpfeijmnaaDoorSealPlain
namespace Go.Proofs.YtfjfnbpfeijmnaaDoor
set_option linter.unusedVariables false
open Go.RowKit

def sealOf (s : ByteArray) : ByteArray := ⟨(sealL s.data.toList).toArray⟩
theorem itoa_short (l : List UInt8) : (Lib.itoa (csum l)).length ≤ 21 := by
  have := csum_bd l
  exact Lib.itoa_length_le _ (by omega) (by omega)
theorem sealOf_size (s : ByteArray) : (sealOf s).size = s.size + 1 + (Lib.itoa (csum s.data.toList)).length := by
  show (sealL s.data.toList).toArray.size = _
  have e : s.data.size = s.size := rfl
  rw [List.size_toArray, sealL, List.length_append, List.length_cons, Array.length_toList]
  omega
/-- The text can be sealed. -/
def SealGood (s : ByteArray) : Prop := s.size ≤ 4000 ∧ ¬ (35 : UInt8) ∈ s.data.toList ∧ (sealOf s).size ≤ 4000
open Classical in
noncomputable def sealAns (s : ByteArray) : Value := if SealGood s then .tuple #[.string (sealOf s), .bool true] else .tuple #[.string ⟨#[]⟩, .bool false]
theorem sealAns_yes {s : ByteArray} (h : SealGood s) : sealAns s = .tuple #[.string (sealOf s), .bool true] := if_pos h
theorem sealAns_no {s : ByteArray} (h : ¬ SealGood s) : sealAns s = .tuple #[.string ⟨#[]⟩, .bool false] := if_neg h
theorem seal_cat (s : ByteArray) (d : List UInt8) (h : Lib.itoa (csum s.data.toList) = d) : s ++ ⟨#[35]⟩ ++ ⟨d.toArray⟩ = sealOf s := by
  apply ByteArray.ext
  simp [sealOf, sealL, h]

set_option maxHeartbeats 1000000 in
theorem specSeal_any (s : ByteArray) (w : World) (hs : s.size ≤ 1099511627776) :
    Calls Tryd.prog 34 #[.string s] w fun e w' => e = .returned (.string (sealOf s)) ∧ Below w.heap.size w w' := by
  have hbd := csum_bd s.data.toList
  have hd := itoa_short s.data.toList
  obtain ⟨d, he⟩ : ∃ d, Lib.itoa (csum s.data.toList) = d := ⟨_, rfl⟩
  rw [he] at hd
  have HE := Lib.hid he
  have hn := fun w => num_any (csum s.data.toList) w (by omega) (by omega)
  rw [he] at hn
  have HN := Lib.hid hn
  clear he hn hbd
  go_enter Tryd.func34, Tryd.ntmps34
  go_wp2_with (first | (go_at_call 41; refine (specSum_any _ _ (by unfold maxLen; omega)).mono ?_; rintro e w' ⟨rfl, rfl⟩) | (go_at_call 25; refine (HN.out _).mono ?_; rintro e w' ⟨rfl, k, rfl⟩))
  go_ret
  exact ⟨ret_str (seal_cat s d HE.out), below_drewN (Below.refl _ _) _⟩

theorem stands35 (s : ByteArray) (w : World) (hs : s.size ≤ maxLen) (b : Bool) (hb : stands s.data.toList 35 = b) :
    Calls Tryd.prog 33 #[.string s, .int .u8 35] w fun e w' => e = .returned (.bool b) ∧ w = w' :=
  (stands_any s 35 w hs).mono fun _ _ ⟨x, y⟩ => ⟨hb ▸ x, y⟩
theorem contains35 (s : ByteArray) (w : World) (b : Bool) (hb : stands s.data.toList 35 = b) :
    Calls Tryd.prog 32 #[.string s, .string ⟨#[35]⟩] w fun e w' => e = .returned (.bool b) ∧ w = w' :=
  (Tryd.strings_Contains_one s 35 w).mono fun _ _ ⟨x, y⟩ => ⟨by rw [x, indexByte_stands, hb], y.symm⟩

set_option maxHeartbeats 1000000 in
theorem specAppend_any (s : ByteArray) (w : World) (hs : s.size ≤ 1099511627776) :
    Calls Tryd.prog 17 #[.string s] w fun e w' => e = .returned (sealAns s) ∧ Below w.heap.size w w' := by
  by_cases h1 : s.size ≤ 4000
  · by_cases h2 : stands s.data.toList 35 = true
    · rw [sealAns_no (fun g => g.2.1 ((stands_iff _ _).1 h2))]
      have H2 := Lib.hid h2
      clear h2
      go_enter Tryd.func17, Tryd.ntmps17
      go_wp2_with (first | (go_at_call 33; refine (stands35 _ _ (by unfold maxLen; omega) _ H2.out).mono ?_; rintro e w' ⟨rfl, rfl⟩))
      go_ret2
      exact ⟨rfl, Below.refl _ _⟩
    · have h2' : stands s.data.toList 35 = false := by simpa using h2
      have H2 := Lib.hid h2'
      have hsz := sealOf_size s
      have hd := itoa_short s.data.toList
      by_cases h3 : (sealOf s).size ≤ 4000
      · rw [sealAns_yes ⟨h1, (stands_no _ _).1 h2', h3⟩]
        have hx : (sealOf s).size ≤ 9223372036854775807 := by omega
        clear h2 h2' hsz hd
        go_enter Tryd.func17, Tryd.ntmps17
        go_wp2_with fail
        refine (stands35 _ _ (by unfold maxLen; omega) _ H2.out).mono ?_
        rintro e w' ⟨rfl, rfl⟩
        go_wp2_with fail
        refine (specSeal_any s _ (by omega)).mono ?_
        rintro e w1 ⟨rfl, hb1⟩
        have z1 := hb1.size
        go_wp2_with fail
        refine (specSeal_any s _ (by omega)).mono ?_
        rintro e w2 ⟨rfl, hb2⟩
        go_wp2
        go_ret2
        exact ⟨rfl, hb1.trans (hb2.mono z1)⟩
      · rw [sealAns_no (fun g => h3 g.2.2)]
        have hx : (sealOf s).size ≤ 9223372036854775807 := by omega
        clear h2 h2' hsz hd
        go_enter Tryd.func17, Tryd.ntmps17
        go_wp2_with fail
        refine (stands35 _ _ (by unfold maxLen; omega) _ H2.out).mono ?_
        rintro e w' ⟨rfl, rfl⟩
        go_wp2_with fail
        refine (specSeal_any s _ (by omega)).mono ?_
        rintro e w1 ⟨rfl, hb1⟩
        go_wp2
        go_ret2
        exact ⟨rfl, hb1⟩
  · rw [sealAns_no (fun g => h1 g.1)]
    go_enter Tryd.func17, Tryd.ntmps17
    go_wp2_with fail
    go_ret2
    exact ⟨rfl, Below.refl _ _⟩

set_option maxHeartbeats 1000000 in
theorem implAppend_any (s : ByteArray) (w : World) (hs : s.size ≤ 1099511627776) (ht : Tab w) :
    Calls Tryd.prog 16 #[.string s] w fun e w' => e = .returned (sealAns s) ∧ Below w.heap.size w w' := by
  have HT := Lib.hid ht
  clear ht
  have hml : s.size ≤ maxLen := by unfold maxLen; omega
  by_cases h1 : s.size ≤ 4000
  · by_cases h2 : stands s.data.toList 35 = true
    · rw [sealAns_no (fun g => g.2.1 ((stands_iff _ _).1 h2))]
      have H2 := Lib.hid h2
      clear h2
      go_enter Tryd.func16, Tryd.ntmps16
      go_wp2_with (first | (go_at_call 31; refine (implChecksum_any _ _ hml).mono ?_; rintro e w' ⟨rfl, rfl⟩; rw [sumOf_yes h1]) | (go_at_call 32; refine (contains35 _ _ _ H2.out).mono ?_; rintro e w' ⟨rfl, rfl⟩))
      go_ret2
      exact ⟨rfl, Below.refl _ _⟩
    · have h2' : stands s.data.toList 35 = false := by simpa using h2
      have H2 := Lib.hid h2'
      have hsz := sealOf_size s
      have hbd := csum_bd s.data.toList
      have hd := itoa_short s.data.toList
      obtain ⟨d, he⟩ : ∃ d, Lib.itoa (csum s.data.toList) = d := ⟨_, rfl⟩
      rw [he] at hd hsz
      have HE := Lib.hid he
      have hn := fun w h => itoa_any (csum s.data.toList) w (by omega) (by omega) h
      rw [he] at hn
      have HN := Lib.hid hn
      have hgood := fun (h : (sealOf s).size ≤ 4000) => sealAns_yes ⟨h1, (stands_no _ _).1 h2', h⟩
      have HG := Lib.hid hgood
      have HZ := Lib.hid hsz
      clear he hn hbd h2 h2' hgood hsz
      by_cases h3 : s.size + 1 + d.length ≤ 4000
      · go_enter Tryd.func16, Tryd.ntmps16
        go_wp2_with (first | (go_at_call 31; refine (implChecksum_any _ _ hml).mono ?_; rintro e w' ⟨rfl, rfl⟩; rw [sumOf_yes h1]) | (go_at_call 32; refine (contains35 _ _ _ H2.out).mono ?_; rintro e w' ⟨rfl, rfl⟩) | (go_at_call 23; refine (HN.out _ HT.out).mono ?_; rintro e w' ⟨rfl, hb⟩))
        go_ret2
        refine ⟨ret_val (Eq.symm ?_), hb⟩
        rw [HG.out (by rw [HZ.out]; exact h3), ← seal_cat s d HE.out]
        rfl
      · go_enter Tryd.func16, Tryd.ntmps16
        go_wp2_with (first | (go_at_call 31; refine (implChecksum_any _ _ hml).mono ?_; rintro e w' ⟨rfl, rfl⟩; rw [sumOf_yes h1]) | (go_at_call 32; refine (contains35 _ _ _ H2.out).mono ?_; rintro e w' ⟨rfl, rfl⟩) | (go_at_call 23; refine (HN.out _ HT.out).mono ?_; rintro e w' ⟨rfl, hb⟩))
        go_ret2
        exact ⟨ret_val (Eq.symm (sealAns_no (fun g => h3 (by have := g.2.2; rw [HZ.out] at this; exact this)))), hb⟩
  · rw [sealAns_no (fun g => h1 g.1)]
    go_enter Tryd.func16, Tryd.ntmps16
    go_wp2_with (first | (go_at_call 31; refine (implChecksum_any _ _ hml).mono ?_; rintro e w' ⟨rfl, rfl⟩; rw [sumOf_no h1]))
    go_ret2
    exact ⟨rfl, Below.refl _ _⟩

theorem seal_shape (s : ByteArray) : ∃ t b, sealAns s = .tuple #[.string t, .bool b] := by
  unfold sealAns
  split
  · exact ⟨_, _, rfl⟩
  · exact ⟨_, _, rfl⟩
end Go.Proofs.YtfjfnbpfeijmnaaDoor
