/- The laws' own markText: at every number from 1 to 2^40 a text that hangs on the number alone; it makes memory and writes nothing that was there. -/
import Derived.Test.YtdlbmoeogdjnkaaFrame
import Derived.WalkSpells
import Derived.Lib.Hide
import Derived.Laws.BytesArg
import Derived.Laws.IdiomStrings
import Derived.Outline
import Derived.WalkLawsBesides
namespace Go.Proofs.Ytdlbmoeogdjnkaa
set_option linter.unusedVariables false
open Go.RowKit

def mtGo : Nat → Nat → List UInt8 → List UInt8
  | 0, _, acc => acc
  | f + 1, k, acc => if k = 0 then acc else mtGo f (k / 10) ((48 + UInt8.ofNat (k % 10)) :: acc)
/-- The mark of place k. -/
def mt (k : Nat) : List UInt8 := 109 :: mtGo k k []
theorem mtGo_step (f k : Nat) (acc : List UInt8) (h : 0 < k) : mtGo (f + 1) k acc = mtGo f (k / 10) ((48 + UInt8.ofNat (k % 10)) :: acc) := by
  simp only [mtGo]; rw [if_neg (by omega)]
theorem mtGo_more (f : Nat) : ∀ (k : Nat) (acc : List UInt8), k ≤ f → ∀ g, k ≤ g → mtGo f k acc = mtGo g k acc := by
  induction f with
  | zero => intro k acc h g hg; obtain rfl : k = 0 := by omega
            cases g with
            | zero => rfl
            | succ g => simp [mtGo]
  | succ f ih =>
    intro k acc h g hg
    by_cases hk : k = 0
    · subst hk; cases g with
      | zero => simp [mtGo]
      | succ g => simp [mtGo]
    · obtain ⟨g', rfl⟩ : ∃ g', g = g' + 1 := ⟨g - 1, by omega⟩
      rw [mtGo_step _ _ _ (by omega), mtGo_step _ _ _ (by omega)]
      exact ih _ _ (by omega) _ (by omega)

/-- 'string([]byte{x})': the block has just been laid. -/
theorem conv_one (w : World) (x : Int) : (convert 67 9 (.slice (some ⟨w.heap.size, 0, none⟩) 1 1)).run Try.prog (w.alloc (.cells #[.int .u8 x] 5)) = .ok (.string ⟨#[UInt8.ofNat x.toNat]⟩) (w.alloc (.cells #[.int .u8 x] 5)) := by
  refine (run_convert_bytes_arg _ 67 5 Try.underlying67 Try.underlying5 w.heap.size 0 1 1 [x] rfl (fun i hi => by
    obtain rfl : i = 0 := by omega
    simp [World.cell?_alloc_mark]) 9 Try.underlying9).trans ?_
  simp [strOfNums]

theorem cat_lit (c : UInt8) (out : List UInt8) : (⟨#[c]⟩ : ByteArray) ++ ⟨out.toArray⟩ = ⟨(c :: out).toArray⟩ := by
  rfl

set_option maxHeartbeats 400000 in
theorem markText_any (k : Nat) (w : World) (h0 : 0 < k) (h1 : k ≤ 1099511627776) :
    Calls Try.prog 60 #[.int .i64 k] w fun e w' => e = .returned (.string ⟨(mt k).toArray⟩) ∧ Below w.heap.size w w' := by
  have hk0 : decide (k = 0) = false := by simp; omega
  have kc := fun (w : World) (x : Int) => conv_one w x
  go_enter Try.func60, Try.ntmps60
  go_wp2
  go_loopw [0, 3] (fun i s wr => ∃ (n : Nat) (out : List UInt8), n ≤ k ∧ out.length + n ≤ k ∧ i = .int .i64 n ∧ s = .string ⟨out.toArray⟩ ∧ mtGo n n out = mtGo k k [] ∧ Below w.heap.size w wr) (fun i _ _ => (intOf i).toNat)
  case atStart => exact ⟨k, [], Nat.le_refl _, by simp, rfl, rfl, rfl, Below.refl _ _⟩
  case round =>
    obtain ⟨n, out, hn, hl, rfl, rfl, hm, hb⟩ := hrel
    have HM := Lib.hid hm
    clear hm
    by_cases hlt : 0 < n
    · have hb0 : (0 : Int) ≤ 48 + (n : Int) % 10 := by omega
      have hb1 : 48 + (n : Int) % 10 ≤ 57 := by omega
      go_wp2
      go_roundw
      case rel => exact ⟨n / 10, (48 + UInt8.ofNat (n % 10)) :: out, by omega, by simp only [List.length_cons]; omega, by go_num, by rw [cat_lit], by rw [← mtGo_more n _ _ (by omega) _ (Nat.le_refl _), ← HM.out]; obtain ⟨n', rfl⟩ : ∃ n', n = n' + 1 := ⟨n - 1, by omega⟩; rw [mtGo_step n' _ _ hlt]; exact mtGo_more _ _ _ (by omega) _ (by omega), hb.alloc hb.size _⟩
      case measure => simp [intOf]; omega
    · go_wp2
      go_ret
      obtain rfl : n = 0 := by omega
      exact ⟨by rw [mt, ← HM.out]; simp [mtGo, cat_lit], hb⟩
end Go.Proofs.Ytdlbmoeogdjnkaa
