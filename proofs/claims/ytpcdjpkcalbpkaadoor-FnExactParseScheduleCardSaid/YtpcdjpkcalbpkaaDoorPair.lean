/- Two numbers with a mark between them, and the head of a record's text: the program's parsePair and parseRecordHead. -/
import Derived.Test.YtpcdjpkcalbpkaaDoorParseI
import Derived.Test.YtpcdjpkcalbpkaaDoorToRec
namespace Go.Proofs.YtpcdjpkcalbpkaaDoor
set_option linter.unusedVariables false
open Go.RowKit Go.Sort

/-- The table of the powers of ten, and that the library's MaxLen holds some number. -/
def EnvR (w : World) : Prop := Tab w ∧ ∃ m, w.cell? ⟨2, 0, none⟩ = some (.int .i64 m)
theorem EnvR.later {w w' : World} (h : EnvR w) (hb : Below w.heap.size w w') : EnvR w' := by
  obtain ⟨h1, m, h2⟩ := h
  exact ⟨h1.later hb, m, cell_kept h2 hb⟩

/-- What stands ahead of a mark, and behind it. -/
noncomputable def cutL (l : List UInt8) (c : UInt8) : List UInt8 := (Lib.cut l [c]).1
noncomputable def cutR (l : List UInt8) (c : UInt8) : List UInt8 := (Lib.cut l [c]).2.1
noncomputable def cutB (l : List UInt8) (c : UInt8) : Bool := (Lib.cut l [c]).2.2
theorem cutL_len (l : List UInt8) (c : UInt8) : (cutL l c).length ≤ l.length := by
  unfold cutL Lib.cut
  split
  · simp only; rw [List.length_take]; omega
  · exact Nat.le_refl _
theorem cutR_len (l : List UInt8) (c : UInt8) : (cutR l c).length ≤ l.length := by
  unfold cutR Lib.cut
  split
  · simp only; rw [List.length_drop]; omega
  · simp
theorem cut_any (s : ByteArray) (c : UInt8) (w : World) (hs : s.size < 4294967281) (he : EnvR w) :
    Calls Tryd.prog 55 #[.string s, .string ⟨#[c]⟩] w fun e w' => e = .returned (.tuple #[.string ⟨(cutL s.data.toList c).toArray⟩, .string ⟨(cutR s.data.toList c).toArray⟩, .bool (cutB s.data.toList c)]) ∧ Below w.heap.size w w' := by
  obtain ⟨_, m, hm⟩ := he
  refine (Tryd.strings_Cut s ⟨#[c]⟩ m w hs hm).mono ?_
  rintro e w' ⟨h, n, rfl⟩
  exact ⟨h, below_drewN (Below.refl _ _) _⟩

/-- What ParseInt answers. -/
noncomputable def numV (l : List UInt8) : Int := by
  classical
  exact if NumGood l then readN l else 0
noncomputable def numB (l : List UInt8) : Bool := by
  classical
  exact decide (NumGood l)
theorem numAns_is (l : List UInt8) : numAns l = .tuple #[.int .i64 (numV l), .bool (numB l)] := by
  unfold numV numB
  by_cases h : NumGood l
  · rw [numAns_yes h]; simp [h]
  · rw [numAns_no h]; simp [h]
theorem numV_in (l : List UInt8) : inI (numV l) := by
  unfold numV inI
  split
  · have := readN_lt l; omega
  · omega

set_option maxHeartbeats 1000000 in
theorem parsePair_any (s : ByteArray) (c : UInt8) (w : World) (hs : s.size ≤ 1099511627) (he : EnvR w) :
    Calls Tryd.prog 57 #[.string s, .string ⟨#[c]⟩] w fun e w' =>
      e = .returned (.tuple #[.int .i64 (numV (cutL s.data.toList c)), .int .i64 (numV (cutR s.data.toList c)), .bool (numB (cutL s.data.toList c) && numB (cutR s.data.toList c))]) ∧ Below w.heap.size w w' := by
  have hl := cutL_len s.data.toList c
  have hr := cutR_len s.data.toList c
  have hsz : s.data.toList.length = s.size := Array.length_toList
  have HC := Lib.hid (fun W (hW : EnvR W) => cut_any s c W (by omega) hW)
  have HE := Lib.hid he
  obtain ⟨L, hL⟩ : ∃ L, cutL s.data.toList c = L := ⟨_, rfl⟩
  obtain ⟨R, hR⟩ : ∃ R, cutR s.data.toList c = R := ⟨_, rfl⟩
  have hl' : L.length ≤ s.size := by rw [← hL]; omega
  have hr' : R.length ≤ s.size := by rw [← hR]; omega
  rw [hL, hR]
  have pl : ∀ W, EnvR W → Calls Tryd.prog 56 #[.string ⟨L.toArray⟩] W fun e w' => e = .returned (.tuple #[.int .i64 (numV L), .bool (numB L)]) ∧ Below W.heap.size W w' := fun W hW => by
    have := implParse_any ⟨L.toArray⟩ W (by rw [show (⟨L.toArray⟩ : ByteArray).size = L.length from List.size_toArray]; omega) hW.1
    rwa [show (⟨L.toArray⟩ : ByteArray).data.toList = L from rfl, numAns_is] at this
  have pr : ∀ W, EnvR W → Calls Tryd.prog 56 #[.string ⟨R.toArray⟩] W fun e w' => e = .returned (.tuple #[.int .i64 (numV R), .bool (numB R)]) ∧ Below W.heap.size W w' := fun W hW => by
    have := implParse_any ⟨R.toArray⟩ W (by rw [show (⟨R.toArray⟩ : ByteArray).size = R.length from List.size_toArray]; omega) hW.1
    rwa [show (⟨R.toArray⟩ : ByteArray).data.toList = R from rfl, numAns_is] at this
  have HL := Lib.hid pl
  have HR := Lib.hid pr
  obtain ⟨bl, hbl⟩ : ∃ b, numB L = b := ⟨_, rfl⟩
  obtain ⟨br, hbr⟩ : ∃ b, numB R = b := ⟨_, rfl⟩
  rw [hbl] at HL ⊢
  rw [hbr] at HR ⊢
  have HCC : Hid (∀ W, EnvR W → Calls Tryd.prog 55 #[.string s, .string ⟨#[c]⟩] W fun e w' => e = .returned (.tuple #[.string ⟨L.toArray⟩, .string ⟨R.toArray⟩, .bool (cutB s.data.toList c)]) ∧ Below W.heap.size W w') := by
    have := HC.out
    rw [hL, hR] at this
    exact this
  clear hL hR HC pl pr hbl hbr he hl hr hl' hr' hsz
  cases bl
  all_goals
    go_enter Tryd.func57, Tryd.ntmps57
    go_wp2_with fail
    refine (HCC.out _ HE.out).mono ?_
    rintro e w1 ⟨rfl, b1⟩
    go_wp2_with fail
    refine (HL.out _ (HE.out.later b1)).mono ?_
    rintro e w2 ⟨rfl, b2⟩
    replace b1 := below_chain b1 b2
    go_wp2_with fail
    refine (HR.out _ (HE.out.later b1)).mono ?_
    rintro e w3 ⟨rfl, b3⟩
    replace b1 := below_chain b1 b3
    go_wp2_with fail
    refine bodyPost_ret (v := .tuple #[.int .i64 (numV L), .int .i64 (numV R), .bool _]) (by simp [results, Tryd.results57, go_sem]; rfl) rfl ⟨by simp, b1⟩

/-- What parseRecordHead reads: the record without events, and whether all its numbers are numbers. -/
noncomputable def headR (l : List UInt8) : Rec := ⟨numV (cutL l 115), numV (cutL (cutR l 115) 64), numV (cutR (cutR l 115) 64), []⟩
noncomputable def headB (l : List UInt8) : Bool := numB (cutL l 115) && (numB (cutL (cutR l 115) 64) && numB (cutR (cutR l 115) 64))

end Go.Proofs.YtpcdjpkcalbpkaaDoor
