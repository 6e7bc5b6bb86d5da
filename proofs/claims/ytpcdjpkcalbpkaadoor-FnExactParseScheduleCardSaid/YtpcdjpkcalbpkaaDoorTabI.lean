/- strconv.Itoa reads one table of the library's own: what the row's list says of it, and that it stays. -/
import Derived.Test.YtpcdjpkcalbpkaaDoorNum
import Derived.Test.YtpcdjpkcalbpkaaDoorShelf
import Derived.Lib.LaidTab
import Derived.Lib.ItoaLen
namespace Go.Proofs.YtpcdjpkcalbpkaaDoor
set_option linter.unusedVariables false
open Go.RowKit Go.Sort

/-- The powers of ten lie in their table. -/
def Tab (w : World) : Prop := Lib.TabIs Tryd.prog w "internal/strconv.uint64pow10" .u64 Lib.pow10Tab
theorem gTab : Tryd.prog.globalNamed "internal/strconv.uint64pow10" = some 3 := by kernel_rfl
theorem Tab.later {w w' : World} (h : Tab w) (hb : Below w.heap.size w w') : Tab w' := by
  unfold Tab Lib.TabIs World.var? at h ⊢
  rw [gTab] at h ⊢
  simp only [Option.bind_some] at h ⊢
  have hlt : 3 < w.heap.size := by
    rcases Nat.lt_or_ge 3 w.heap.size with h2 | h2
    · exact h2
    · rw [Array.getElem?_eq_none h2] at h; cases h
  rw [hb.block _ hlt]
  exact h
theorem below_grow (w : World) (k : Nat) (os : Array Obj) : Below w.heap.size w (grow (w.drewN k) os) :=
  ⟨rfl, rfl, rfl, by show w.heap.size ≤ (w.heap ++ os).size; rw [Array.size_append]; omega, fun j hj => by
    show (w.heap ++ os)[j]? = w.heap[j]?
    rw [Array.getElem?_append_left hj]⟩

theorem itoa_any (n : Int) (w : World) (h0 : -1099511627776 ≤ n) (h1 : n ≤ 1099511627776) (ht : Tab w) :
    Calls Tryd.prog 48 #[.int .i64 n] w fun e w' => e = .returned (.string ⟨(Lib.itoa n).toArray⟩) ∧ Below w.heap.size w w' :=
  (Tryd.strconv_Itoa n (by omega) (by omega) w ht).mono fun e w' ⟨x, k, os, y⟩ => ⟨x, by rw [y]; exact below_grow w k os⟩

/-- What FormatInt answers. -/
def fmtAns (n : Int) : Value := if -999999 ≤ n ∧ n ≤ 999999 then .tuple #[.string ⟨(Lib.itoa n).toArray⟩, .bool true] else .tuple #[.string ⟨#[]⟩, .bool false]
theorem fmtAns_yes {n : Int} (h0 : -999999 ≤ n) (h1 : n ≤ 999999) : fmtAns n = .tuple #[.string ⟨(Lib.itoa n).toArray⟩, .bool true] := if_pos ⟨h0, h1⟩
theorem fmtAns_no {n : Int} (h : ¬ (-999999 ≤ n ∧ n ≤ 999999)) : fmtAns n = .tuple #[.string ⟨#[]⟩, .bool false] := if_neg h
theorem ret_val {a b : Value} (h : a = b) : Ending.returned a = .returned b := by rw [h]

set_option maxHeartbeats 1000000 in
theorem in_any (x a b : Int) (w : World) (p : Bool) (hp : decide (a ≤ x ∧ x ≤ b) = p) :
    Calls Tryd.prog 40 #[.int .i64 x, .int .i64 a, .int .i64 b] w fun e w' => e = .returned (.bool p) ∧ w = w' := by
  by_cases h1 : a ≤ x
  · by_cases h2 : x ≤ b
    · obtain rfl : p = true := by rw [← hp]; simp [h1, h2]
      clear hp
      go_enter Tryd.func40, Tryd.ntmps40
      go_wp2
      go_ret
      exact ⟨by simp, rfl⟩
    · obtain rfl : p = false := by rw [← hp]; simp [h2]
      clear hp
      go_enter Tryd.func40, Tryd.ntmps40
      go_wp2
      go_ret
      exact ⟨by simp, rfl⟩
  · obtain rfl : p = false := by rw [← hp]; simp [h1]
    clear hp
    go_enter Tryd.func40, Tryd.ntmps40
    go_wp2
    go_ret
    exact ⟨rfl, rfl⟩

set_option maxHeartbeats 1000000 in
theorem implFormat_any (n : Int) (w : World) (ht : Tab w) :
    Calls Tryd.prog 69 #[.int .i64 n] w fun e w' => e = .returned (fmtAns n) ∧ Below w.heap.size w w' := by
  have HT := Lib.hid ht
  clear ht
  by_cases h : -999999 ≤ n ∧ n ≤ 999999
  · rw [fmtAns_yes h.1 h.2]
    obtain ⟨h0, h1⟩ := h
    go_enter Tryd.func69, Tryd.ntmps69
    go_wp2_with (go_at_call 48; refine (itoa_any n _ (by omega) (by omega) HT.out).mono ?_; rintro e w' ⟨rfl, hb⟩)
    go_ret2
    exact ⟨rfl, hb⟩
  · rw [fmtAns_no h]
    by_cases h0 : -999999 ≤ n
    · have h1 : 999999 < n := by omega
      clear h
      go_enter Tryd.func69, Tryd.ntmps69
      go_wp2
      go_ret2
      exact ⟨rfl, Below.refl _ _⟩
    · clear h
      go_enter Tryd.func69, Tryd.ntmps69
      go_wp2
      go_ret2
      exact ⟨rfl, Below.refl _ _⟩
end Go.Proofs.YtpcdjpkcalbpkaaDoor
