/- Two numbers with a mark between them, and the head of a record's text: the program's parsePair and parseRecordHead. -/
import Derived.Test.YtapbajficopnlaaDoorParseI
import Derived.Test.YtapbajficopnlaaDoorToRec
namespace Go.Proofs.YtapbajficopnlaaDoor
set_option linter.unusedVariables false
open Go.RowKit Go.Sort

/-- The table of the powers of ten, and that the library's MaxLen holds some number. -/
def EnvR (w : World) : Prop := Tab w ∧ ∃ m, w.cell? ⟨1, 0, none⟩ = some (.int .i64 m)
theorem EnvR.later {w w' : World} (h : EnvR w) (hb : Below w.heap.size w w') : EnvR w' := by
  obtain ⟨h1, m, h2⟩ := h
  exact ⟨h1.later hb, m, cell_kept h2 hb⟩

/-- What stands ahead of a mark, and behind it. -/
noncomputable def cutL (l : List UInt8) (c : UInt8) : List UInt8 := (Lib.cut l [c]).1
noncomputable def cutR (l : List UInt8) (c : UInt8) : List UInt8 := (Lib.cut l [c]).2.1
noncomputable def cutB (l : List UInt8) (c : UInt8) : Bool := (Lib.cut l [c]).2.2
theorem cutL_len (l : List UInt8) (c : UInt8) : (cutL l c).length ≤ l.length := by
  unfold cutL Lib.cut
  split
  · simp only; rw [List.length_take]; omega
  · exact Nat.le_refl _
theorem cutR_len (l : List UInt8) (c : UInt8) : (cutR l c).length ≤ l.length := by
  unfold cutR Lib.cut
  split
  · simp only; rw [List.length_drop]; omega
  · simp
theorem cut_any (s : ByteArray) (c : UInt8) (w : World) (hs : s.size < 4294967281) (he : EnvR w) :
    Calls Tryd.prog 55 #[.string s, .string ⟨#[c]⟩] w fun e w' => e = .returned (.tuple #[.string ⟨(cutL s.data.toList c).toArray⟩, .string ⟨(cutR s.data.toList c).toArray⟩, .bool (cutB s.data.toList c)]) ∧ Below w.heap.size w w' := by
  obtain ⟨_, m, hm⟩ := he
  refine (Tryd.strings_Cut s ⟨#[c]⟩ m w hs hm).mono ?_
  rintro e w' ⟨h, n, rfl⟩
  exact ⟨h, below_drewN (Below.refl _ _) _⟩

/-- What ParseInt answers. -/
noncomputable def numV (l : List UInt8) : Int := by
  classical
  exact if NumGood l then readN l else 0
noncomputable def numB (l : List UInt8) : Bool := by
  classical
  exact decide (NumGood l)
theorem numAns_is (l : List UInt8) : numAns l = .tuple #[.int .i64 (numV l), .bool (numB l)] := by
  unfold numV numB
  by_cases h : NumGood l
  · rw [numAns_yes h]; simp [h]
  · rw [numAns_no h]; simp [h]
theorem numV_in (l : List UInt8) : inI (numV l) := by
  unfold numV inI
  split
  · have := readN_lt l; omega
  · omega

set_option maxHeartbeats 1000000 in
theorem parsePair_any (s : ByteArray) (c : UInt8) (w : World) (hs : s.size ≤ 1099511627) (he : EnvR w) :
    Calls Tryd.prog 35 #[.string s, .string ⟨#[c]⟩] w fun e w' =>
      e = .returned (.tuple #[.int .i64 (numV (cutL s.data.toList c)), .int .i64 (numV (cutR s.data.toList c)), .bool (numB (cutL s.data.toList c) && numB (cutR s.data.toList c))]) ∧ Below w.heap.size w w' := by
  have hl := cutL_len s.data.toList c
  have hr := cutR_len s.data.toList c
  have hsz : s.data.toList.length = s.size := Array.length_toList
  have HC := Lib.hid (fun W (hW : EnvR W) => cut_any s c W (by omega) hW)
  have HE := Lib.hid he
  obtain ⟨L, hL⟩ : ∃ L, cutL s.data.toList c = L := ⟨_, rfl⟩
  obtain ⟨R, hR⟩ : ∃ R, cutR s.data.toList c = R := ⟨_, rfl⟩
  have hl' : L.length ≤ s.size := by rw [← hL]; omega
  have hr' : R.length ≤ s.size := by rw [← hR]; omega
  rw [hL, hR]
  have pl : ∀ W, EnvR W → Calls Tryd.prog 56 #[.string ⟨L.toArray⟩] W fun e w' => e = .returned (.tuple #[.int .i64 (numV L), .bool (numB L)]) ∧ Below W.heap.size W w' := fun W hW => by
    have := implParse_any ⟨L.toArray⟩ W (by rw [show (⟨L.toArray⟩ : ByteArray).size = L.length from List.size_toArray]; omega) hW.1
    rwa [show (⟨L.toArray⟩ : ByteArray).data.toList = L from rfl, numAns_is] at this
  have pr : ∀ W, EnvR W → Calls Tryd.prog 56 #[.string ⟨R.toArray⟩] W fun e w' => e = .returned (.tuple #[.int .i64 (numV R), .bool (numB R)]) ∧ Below W.heap.size W w' := fun W hW => by
    have := implParse_any ⟨R.toArray⟩ W (by rw [show (⟨R.toArray⟩ : ByteArray).size = R.length from List.size_toArray]; omega) hW.1
    rwa [show (⟨R.toArray⟩ : ByteArray).data.toList = R from rfl, numAns_is] at this
  have HL := Lib.hid pl
  have HR := Lib.hid pr
  obtain ⟨bl, hbl⟩ : ∃ b, numB L = b := ⟨_, rfl⟩
  obtain ⟨br, hbr⟩ : ∃ b, numB R = b := ⟨_, rfl⟩
  rw [hbl] at HL ⊢
  rw [hbr] at HR ⊢
  have HCC : Hid (∀ W, EnvR W → Calls Tryd.prog 55 #[.string s, .string ⟨#[c]⟩] W fun e w' => e = .returned (.tuple #[.string ⟨L.toArray⟩, .string ⟨R.toArray⟩, .bool (cutB s.data.toList c)]) ∧ Below W.heap.size W w') := by
    have := HC.out
    rw [hL, hR] at this
    exact this
  clear hL hR HC pl pr hbl hbr he hl hr hl' hr' hsz
  cases bl
  all_goals
    go_enter Tryd.func35, Tryd.ntmps35
    go_wp2_with fail
    refine (HCC.out _ HE.out).mono ?_
    rintro e w1 ⟨rfl, b1⟩
    go_wp2_with fail
    refine (HL.out _ (HE.out.later b1)).mono ?_
    rintro e w2 ⟨rfl, b2⟩
    replace b1 := below_chain b1 b2
    go_wp2_with fail
    refine (HR.out _ (HE.out.later b1)).mono ?_
    rintro e w3 ⟨rfl, b3⟩
    replace b1 := below_chain b1 b3
    go_wp2_with fail
    refine bodyPost_ret (v := .tuple #[.int .i64 (numV L), .int .i64 (numV R), .bool _]) (by simp [results, Tryd.results35, go_sem]; rfl) rfl ⟨by simp, b1⟩

/-- What parseRecordHead reads: the record without events, and whether all its numbers are numbers. -/
noncomputable def headR (l : List UInt8) : Rec := ⟨numV (cutL l 115), numV (cutL (cutR l 115) 64), numV (cutR (cutR l 115) 64), []⟩
noncomputable def headB (l : List UInt8) : Bool := numB (cutL l 115) && (numB (cutL (cutR l 115) 64) && numB (cutR (cutR l 115) 64))

set_option maxHeartbeats 1000000 in
theorem parseHead_any (s : ByteArray) (w : World) (hs : s.size ≤ 1099511627) (he : EnvR w) :
    Calls Tryd.prog 34 #[.string s] w fun e w' =>
      e = .returned (.tuple #[.agg #[.int .i64 (headR s.data.toList).id, .int .i64 (headR s.data.toList).series, .int .i64 (headR s.data.toList).made, .slice none 0 0], .bool (headB s.data.toList)]) ∧ Below w.heap.size w w' := by
  have hl := cutL_len s.data.toList 115
  have hr := cutR_len s.data.toList 115
  have hsz : s.data.toList.length = s.size := Array.length_toList
  have hc := fun W (hW : EnvR W) => cut_any s 115 W (by omega) hW
  have HE := Lib.hid he
  unfold headR headB
  simp only
  obtain ⟨L, hL⟩ : ∃ L, cutL s.data.toList 115 = L := ⟨_, rfl⟩
  obtain ⟨R, hR⟩ : ∃ R, cutR s.data.toList 115 = R := ⟨_, rfl⟩
  rw [hL, hR] at hc ⊢
  rw [hL] at hl
  rw [hR] at hr
  have pl : ∀ W, EnvR W → Calls Tryd.prog 56 #[.string ⟨L.toArray⟩] W fun e w' => e = .returned (.tuple #[.int .i64 (numV L), .bool (numB L)]) ∧ Below W.heap.size W w' := fun W hW => by
    have := implParse_any ⟨L.toArray⟩ W (by rw [show (⟨L.toArray⟩ : ByteArray).size = L.length from List.size_toArray]; omega) hW.1
    rwa [show (⟨L.toArray⟩ : ByteArray).data.toList = L from rfl, numAns_is] at this
  have pr : ∀ W, EnvR W → Calls Tryd.prog 35 #[.string ⟨R.toArray⟩, .string ⟨#[64]⟩] W fun e w' => e = .returned (.tuple #[.int .i64 (numV (cutL R 64)), .int .i64 (numV (cutR R 64)), .bool (numB (cutL R 64) && numB (cutR R 64))]) ∧ Below W.heap.size W w' := fun W hW =>
    parsePair_any ⟨R.toArray⟩ 64 W (by rw [show (⟨R.toArray⟩ : ByteArray).size = R.length from List.size_toArray]; omega) hW
  have HC := Lib.hid hc
  have HL := Lib.hid pl
  have HR := Lib.hid pr
  clear hL hR hc pl pr he hl hr hsz
  obtain ⟨bl, hbl⟩ : ∃ b, numB L = b := ⟨_, rfl⟩
  obtain ⟨br, hbr⟩ : ∃ b, (numB (cutL R 64) && numB (cutR R 64)) = b := ⟨_, rfl⟩
  rw [hbl] at HL ⊢
  rw [hbr] at HR ⊢
  clear hbl hbr
  cases bl
  all_goals
    go_enter Tryd.func34, Tryd.ntmps34
    go_wp2_with fail
    have b0 := below_al (Below.refl w.heap.size w) (.cells #[.int .i64 0, .int .i64 0, .int .i64 0, .slice none 0 0] 24 (0, 0))
    refine (HC.out _ (HE.out.later b0)).mono ?_
    rintro e w1 ⟨rfl, b1⟩
    have z := box_kept (heap_alloc_new w _) b1
    replace b1 := below_chain b0 b1
    go_wp2_with fail
    refine (HL.out _ (HE.out.later b1)).mono ?_
    rintro e w2 ⟨rfl, b2⟩
    replace z := box_kept z b2
    replace b1 := below_chain b1 b2
    go_wp2_with fail
    refine (HR.out _ (HE.out.later b1)).mono ?_
    rintro e w3 ⟨rfl, b3⟩
    replace z := box_kept z b3
    replace b1 := below_chain b1 b3
    have z0 := box_cell z 0 rfl
    have y0 := blk_frozen z 0
    have z1 := box_cell z 1 rfl
    have y1 := blk_frozen z 1
    have z2 := box_cell z 2 rfl
    have y2 := blk_frozen z 2
    have z3 := box_cell z 3 rfl
    have y3 := blk_frozen z 3
    simp at z0 z1 z2 z3 y0 y1 y2 y3
    clear z
    go_wp2_with fail
    refine bodyPost_ret (v := .tuple #[.agg #[.int .i64 (numV L), .int .i64 (numV (cutL R 64)), .int .i64 (numV (cutR R 64)), .slice none 0 0], .bool _]) (by simp [results, Tryd.results34, go_sem, z0, z1, z2, z3]; rfl) rfl ⟨by simp, ?_⟩
    exact (((b1.setCell (by simp) _).setCell (by simp) _).setCell (by simp) _).setCell (by simp) _
end Go.Proofs.YtapbajficopnlaaDoor
