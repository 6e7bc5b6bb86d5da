/- VerifyChecksum, the model's and the program's: both answer the same at every text. -/
import Derived.Test.YtfjfnbpfeijmnaaDoorSeal
import Derived.Test.YtfjfnbpfeijmnaaDoorSplitIn
import Derived.Test.YtfjfnbpfeijmnaaDoorCutPlain
import Derived.Shelf.Vars
namespace Go.Proofs.YtfjfnbpfeijmnaaDoor
set_option linter.unusedVariables false
open Go.RowKit

/-- What the library's functions ask of the world: the table, and that MaxLen holds some number. -/
def Env (w : World) : Prop := Tab w ∧ ∃ m, w.cell? ⟨0, 0, none⟩ = some (.int .i64 m)
theorem Env.later {w w' : World} (h : Env w) (hb : Below w.heap.size w w') : Env w' := by
  obtain ⟨ht, m, hm⟩ := h
  exact ⟨ht.later hb, m, (hb.cell (World.block_lt_of_cell? w _ hm)).trans hm⟩
theorem maxSome {w : World} (h : w.ShapedOpen Tryd.prog) : ∃ m, w.cell? ⟨0, 0, none⟩ = some (.int .i64 m) :=
  cell_of_shapedOpen_int (t := 3) (zero := #[.int .i64 0]) h (of_decide_eq_true (by kernel_rfl)) (by kernel_rfl) rfl (by kernel_rfl) (by kernel_rfl) Tryd.underlying3

/-- What stands ahead of the first '#'. -/
def headOf (s : ByteArray) : ByteArray := ⟨(ahead s.data.toList 35).toArray⟩
theorem headOf_size (s : ByteArray) : (headOf s).size ≤ s.size := by
  have h := ahead_len s.data.toList 35
  show (ahead s.data.toList 35).toArray.size ≤ s.size
  have e : s.data.toList.length = s.size := by simp
  rw [List.size_toArray]; omega
open Classical in
noncomputable def verAns (s : ByteArray) : Value := if s.size ≤ 4000 ∧ sealOf (headOf s) = s then .tuple #[.string (headOf s), .bool true] else .tuple #[.string ⟨#[]⟩, .bool false]
theorem verAns_yes {s : ByteArray} (h : s.size ≤ 4000) (h2 : sealOf (headOf s) = s) : verAns s = .tuple #[.string (headOf s), .bool true] := if_pos ⟨h, h2⟩
theorem verAns_no {s : ByteArray} (h : ¬ (s.size ≤ 4000 ∧ sealOf (headOf s) = s)) : verAns s = .tuple #[.string ⟨#[]⟩, .bool false] := if_neg h
theorem head_good {s : ByteArray} (h : s.size ≤ 4000) (h2 : sealOf (headOf s) = s) : SealGood (headOf s) := by
  refine ⟨Nat.le_trans (headOf_size s) h, ?_, by rw [h2]; exact h⟩
  show ¬ (35 : UInt8) ∈ (ahead s.data.toList 35).toArray.toList
  exact ahead_no _ _
theorem beq_bytes_no {a b : ByteArray} (h : ¬ a = b) : (a.toList == b.toList) = false := by
  rw [beq_eq_false_iff_ne]
  intro e
  rw [ByteArray.toList_eq, ByteArray.toList_eq] at e
  exact h (ByteArray.ext (Array.ext' e))
theorem beq_bytes_yes {a b : ByteArray} (h : a = b) : (a.toList == b.toList) = true := by rw [h]; simp

set_option maxHeartbeats 2000000 in
theorem specVerify_any (s : ByteArray) (w : World) (hs : s.size ≤ 1099511627776) :
    Calls Tryd.prog 20 #[.string s] w fun e w' => e = .returned (verAns s) ∧ Below w.heap.size w w' := by
  by_cases h1 : s.size ≤ 4000
  · obtain ⟨x, r, hx, rfl⟩ := spAll_first s 35
    have hh : (⟨(ahead s.data.toList 35).toArray⟩ : ByteArray) = headOf s := rfl
    rw [hh] at hx
    have hz := headOf_size s
    have hc := specSplitIn_any s 35
    have HC := Lib.hid hc
    have HX := Lib.hid hx
    obtain ⟨t, ht⟩ : ∃ t, headOf s = t := ⟨_, rfl⟩
    have HT := Lib.hid ht
    rw [ht] at hz
    clear hc hx hh ht
    by_cases h2 : sealOf t = s
    · have hb := beq_bytes_yes h2
      have H2 := Lib.hid h2
      clear h2
      go_enter Tryd.func20, Tryd.ntmps20
      go_wp2_with fail
      refine (HC.out _ hs).mono ?_
      rintro e w1 ⟨v, rfl, ho, hb1⟩
      obtain ⟨a, cap, rfl, hl, hm, hr⟩ := RowOf.of_owns ho
      obtain ⟨b, off, hbl, rfl, hcell⟩ := hr.resolve_left (spAll_ne s 35)
      have f0 := hcell 0 (by rw [HX.out]; simp)
      have hn : (0 : Int) < ((spAll s 35).length : Int) := by rw [HX.out]; simp
      rw [Nat.add_zero] at f0
      simp only [HX.out, List.getElem_cons_zero, HT.out] at f0
      have z1 := hb1.size
      clear hcell ho hr
      go_wp2_with fail
      refine (specSeal_any t _ (by omega)).mono ?_
      rintro e w2 ⟨rfl, hb2⟩
      go_wp2
      go_ret2
      exact ⟨ret_val (Eq.symm (by rw [verAns_yes h1 (by rw [HT.out]; exact H2.out), HT.out]; rfl)), hb1.trans (hb2.mono z1)⟩
    · have hb := beq_bytes_no h2
      have H2 := Lib.hid h2
      clear h2
      go_enter Tryd.func20, Tryd.ntmps20
      go_wp2_with fail
      refine (HC.out _ hs).mono ?_
      rintro e w1 ⟨v, rfl, ho, hb1⟩
      obtain ⟨a, cap, rfl, hl, hm, hr⟩ := RowOf.of_owns ho
      obtain ⟨b, off, hbl, rfl, hcell⟩ := hr.resolve_left (spAll_ne s 35)
      have f0 := hcell 0 (by rw [HX.out]; simp)
      have hn : (0 : Int) < ((spAll s 35).length : Int) := by rw [HX.out]; simp
      rw [Nat.add_zero] at f0
      simp only [HX.out, List.getElem_cons_zero, HT.out] at f0
      have z1 := hb1.size
      clear hcell ho hr
      go_wp2_with fail
      refine (specSeal_any t _ (by omega)).mono ?_
      rintro e w2 ⟨rfl, hb2⟩
      go_wp2
      go_ret2
      exact ⟨ret_val (Eq.symm (verAns_no (fun g => H2.out (by rw [← HT.out]; exact g.2)))), hb1.trans (hb2.mono z1)⟩
  · rw [verAns_no (fun g => h1 g.1)]
    go_enter Tryd.func20, Tryd.ntmps20
    go_wp2_with fail
    go_ret2
    exact ⟨rfl, Below.refl _ _⟩

theorem cut35 (s : ByteArray) (w : World) (hs : s.size < 4294967281) (he : Env w) : ∃ (x : ByteArray) (b : Bool),
    Calls Tryd.prog 35 #[.string s, .string ⟨#[35]⟩] w fun e w' => e = .returned (.tuple #[.string (headOf s), .string x, .bool b]) ∧ Below w.heap.size w w' := by
  obtain ⟨_, m, hm⟩ := he
  refine ⟨⟨(Lib.cut s.data.toList (⟨#[35]⟩ : ByteArray).data.toList).2.1.toArray⟩, (Lib.cut s.data.toList (⟨#[35]⟩ : ByteArray).data.toList).2.2, (Tryd.strings_Cut s ⟨#[35]⟩ m w hs hm).mono fun e w' ⟨h1, n, h2⟩ => ⟨?_, by rw [h2]; exact below_drewN (Below.refl _ _) _⟩⟩
  rw [h1, show (Lib.cut s.data.toList (⟨#[35]⟩ : ByteArray).data.toList).1 = ahead s.data.toList 35 from cut_ahead _ _]
  rfl

set_option maxHeartbeats 2000000 in
theorem implVerify_any (s : ByteArray) (w : World) (hs : s.size ≤ 2147483648) (he : Env w) :
    Calls Tryd.prog 18 #[.string s] w fun e w' => e = .returned (verAns s) ∧ Below w.heap.size w w' := by
  obtain ⟨x, b, hcut⟩ := cut35 s w (by omega) he
  have HE := Lib.hid he
  have HCUT := Lib.hid hcut
  have hz := headOf_size s
  clear he hcut
  by_cases hg : SealGood (headOf s)
  · have hA := fun w h => implAppend_any (headOf s) w (by omega) h
    rw [sealAns_yes hg] at hA
    have HA := Lib.hid hA
    have HG := Lib.hid hg
    clear hA hg
    by_cases h2 : sealOf (headOf s) = s
    · have hb := beq_bytes_yes h2
      have H2 := Lib.hid h2
      clear h2
      go_enter Tryd.func18, Tryd.ntmps18
      go_wp2_with fail
      refine HCUT.out.mono ?_
      rintro e w1 ⟨rfl, hb1⟩
      have z1 := hb1.size
      go_wp2_with fail
      refine (HA.out _ (HE.out.later hb1).1).mono ?_
      rintro e w2 ⟨rfl, hb2⟩
      go_wp2
      go_ret2
      exact ⟨ret_val (Eq.symm (verAns_yes (by have := HG.out.2.2; rwa [H2.out] at this) H2.out)), hb1.trans (hb2.mono z1)⟩
    · have hb := beq_bytes_no h2
      have H2 := Lib.hid h2
      clear h2
      go_enter Tryd.func18, Tryd.ntmps18
      go_wp2_with fail
      refine HCUT.out.mono ?_
      rintro e w1 ⟨rfl, hb1⟩
      have z1 := hb1.size
      go_wp2_with fail
      refine (HA.out _ (HE.out.later hb1).1).mono ?_
      rintro e w2 ⟨rfl, hb2⟩
      go_wp2
      go_ret2
      exact ⟨ret_val (Eq.symm (verAns_no (fun g => H2.out g.2))), hb1.trans (hb2.mono z1)⟩
  · have hA := fun w h => implAppend_any (headOf s) w (by omega) h
    rw [sealAns_no hg] at hA
    have HA := Lib.hid hA
    have HG := Lib.hid hg
    clear hA hg
    go_enter Tryd.func18, Tryd.ntmps18
    go_wp2_with fail
    refine HCUT.out.mono ?_
    rintro e w1 ⟨rfl, hb1⟩
    have z1 := hb1.size
    go_wp2_with fail
    refine (HA.out _ (HE.out.later hb1).1).mono ?_
    rintro e w2 ⟨rfl, hb2⟩
    go_wp2
    go_ret2
    exact ⟨ret_val (Eq.symm (verAns_no (fun g => HG.out (head_good g.1 g.2)))), hb1.trans (hb2.mono z1)⟩
theorem ver_shape (s : ByteArray) : ∃ t b, verAns s = .tuple #[.string t, .bool b] := by
  unfold verAns
  split
  · exact ⟨_, _, rfl⟩
  · exact ⟨_, _, rfl⟩
end Go.Proofs.YtfjfnbpfeijmnaaDoor
