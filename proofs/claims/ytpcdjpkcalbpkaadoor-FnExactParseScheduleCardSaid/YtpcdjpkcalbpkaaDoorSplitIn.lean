/- The model's l1Split. -/
import Derived.Test.YtpcdjpkcalbpkaaDoorSplitPlain
import Derived.Test.YtpcdjpkcalbpkaaDoorCopy
import Derived.WalkSpells
import Derived.WalkLawsBesides
import Derived.Maps.AppendAt
import Derived.Outline
namespace Go.Proofs.YtpcdjpkcalbpkaaDoor
set_option linter.unusedVariables false
open Go.RowKit

theorem ownsRow_lt_cap {w : World} {base e : Nat} {v : Value} {n : Nat} {xs : List Value} (h : w.ownsRow base e 1 v n xs) : xs.length = n := by simpa using h.1

set_option maxHeartbeats 2000000 in
theorem specSplitIn_any (s : ByteArray) (c : UInt8) (w : World) (hs : s.size ≤ 1099511627776) :
    Calls Tryd.prog 36 #[.string s, .int .u8 (c.toNat : Int)] w (StrCopy (spAll s c) w) := by
  obtain ⟨i0, hi, hz0, hz1, hz2⟩ := info_parts Tryd.info_string
  have hc := UInt8.toNat_lt c
  go_enter Tryd.func36, Tryd.ntmps36
  go_wp2
  go_loopw [5, 6, 7] (fun o f i wr => ∃ k : Nat, k ≤ s.size ∧ i = .int .i64 k ∧ f = .int .i64 ((spSt s c k).2 : Nat) ∧ wr.ownsRow w.heap.size 9 1 o (spSt s c k).1.length ((spSt s c k).1.map Value.string) ∧ Below w.heap.size w wr) (fun _ _ i _ => s.size - (intOf i).toNat)
  case atStart => exact ⟨0, Nat.zero_le _, rfl, rfl, World.ownsRow_made w #[] 0 (Nat.le_refl _) (Nat.zero_le _) rfl, (Below.refl _ _).alloc (Nat.le_refl _) _⟩
  case round =>
    obtain ⟨k, hk, rfl, rfl, hO, hb⟩ := hrel
    have hle := spSt_le s c k
    obtain ⟨P, f, hst⟩ : ∃ P f, spSt s c k = (P, f) := ⟨_, _, rfl⟩
    rw [hst] at hO hle
    simp only [hst]
    have HST := Lib.hid hst
    obtain ⟨hf, hP⟩ := hle
    simp only at hf hP hO
    clear hst
    have hsz := hb.size
    by_cases hlt : k < s.size
    · have hbk := UInt8.toNat_lt s[k]
      by_cases he : s[k] = c
      · have hx : ((s[k].toNat : Int) == (c.toNat : Int)) = true := by rw [he]; simp
        have HN := Lib.hid (spSt_hit s c k hlt he)
        clear he
        go_wp2_with (first | (at_builtin; refine wpList_append_own _ rfl _ _ 57 rfl w.heap.size 9 i0 (.string ⟨#[]⟩) 1 16 Tryd.underlying57 hi hz0 hz1 hz2 rfl (by decide) _ _ _ rfl (hO.alloc _) ⟨wr.heap.size, 0, none⟩ 1 1 [.string (s.extract f k)] rfl rfl (cell_one_new _ _ _) (by simp [Value.oneCell']) (by unfold maxLen; omega) (by omega) (by simp; omega) ?_; intro v' w1 hown' hgrow _))
        have HOWN := Lib.hid hown'
        have HB := Lib.hid (below_app hb (Nat.le_refl _) hO hgrow)
        clear hown' hgrow hO
        go_wp2
        go_roundw
        case rel => exact ⟨k + 1, by omega, by go_num, by rw [HN.out]; go_num, by rw [HN.out, HST.out]; simpa using HOWN.out, HB.out⟩
        case measure => simp [intOf]; omega
      · have hx : ((s[k].toNat : Int) == (c.toNat : Int)) = false := by
          rw [beq_eq_false_iff_ne]; intro e; exact he (UInt8.toNat_inj.1 (by omega))
        have HN := Lib.hid (spSt_miss s c k hlt he)
        have HO := Lib.hid hO
        clear he hO
        go_wp2
        go_roundw
        case rel => exact ⟨k + 1, by omega, by go_num, by rw [HN.out, HST.out], by rw [HN.out, HST.out]; exact HO.out, hb⟩
        case measure => simp [intOf]; omega
    · obtain rfl : k = s.size := by omega
      go_wp2_with (first | (at_builtin; refine wpList_append_own _ rfl _ _ 57 rfl w.heap.size 9 i0 (.string ⟨#[]⟩) 1 16 Tryd.underlying57 hi hz0 hz1 hz2 rfl (by decide) _ _ _ rfl (hO.alloc _) ⟨wr.heap.size, 0, none⟩ 1 1 [.string (s.extract f s.size)] rfl rfl (cell_one_new _ _ _) (by simp [Value.oneCell']) (by unfold maxLen; omega) (by omega) (by simp; omega) ?_; intro v' w1 hown' hgrow _))
      have HOWN := Lib.hid hown'
      have HB := Lib.hid (below_app hb (Nat.le_refl _) hO hgrow)
      clear hown' hgrow hO
      go_wp2
      go_ret
      refine ⟨_, rfl, ?_, HB.out⟩
      have := HOWN.out
      simpa [spAll, HST.out] using this

/-- What SplitString hands back: a slice of new memory that holds the pieces; or, where it cannot, none and false. -/
def SplitGives (ss : List ByteArray) (b : Bool) (w : World) (e : Ending) (w' : World) : Prop :=
  ∃ v, e = .returned (.tuple #[v, .bool b]) ∧ w'.ownsRow w.heap.size 9 1 v ss.length (ss.map Value.string) ∧ Below w.heap.size w w'
end Go.Proofs.YtpcdjpkcalbpkaaDoor
