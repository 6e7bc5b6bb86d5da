/- The laws' own markText: at every number from 1 to 2^40 a text that hangs on the number alone; it makes memory and writes nothing that was there. -/
import Derived.Test.YtkjpehpodlpdhaaFrame
import Derived.WalkSpells
import Derived.Lib.Hide
import Derived.Laws.BytesArg
import Derived.Laws.IdiomStrings
import Derived.Outline
import Derived.WalkLawsBesides
namespace Go.Proofs.Ytkjpehpodlpdhaa
set_option linter.unusedVariables false
open Go.RowKit

def mtGo : Nat → Nat → List UInt8 → List UInt8
  | 0, _, acc => acc
  | f + 1, k, acc => if k = 0 then acc else mtGo f (k / 10) ((48 + UInt8.ofNat (k % 10)) :: acc)
/-- The mark of place k. -/
def mt (k : Nat) : List UInt8 := 109 :: mtGo k k []
theorem mtGo_step (f k : Nat) (acc : List UInt8) (h : 0 < k) : mtGo (f + 1) k acc = mtGo f (k / 10) ((48 + UInt8.ofNat (k % 10)) :: acc) := by
  simp only [mtGo]; rw [if_neg (by omega)]
theorem mtGo_more (f : Nat) : ∀ (k : Nat) (acc : List UInt8), k ≤ f → ∀ g, k ≤ g → mtGo f k acc = mtGo g k acc := by
  induction f with
  | zero => intro k acc h g hg; obtain rfl : k = 0 := by omega
            cases g with
            | zero => rfl
            | succ g => simp [mtGo]
  | succ f ih =>
    intro k acc h g hg
    by_cases hk : k = 0
    · subst hk; cases g with
      | zero => simp [mtGo]
      | succ g => simp [mtGo]
    · obtain ⟨g', rfl⟩ : ∃ g', g = g' + 1 := ⟨g - 1, by omega⟩
      rw [mtGo_step _ _ _ (by omega), mtGo_step _ _ _ (by omega)]
      exact ih _ _ (by omega) _ (by omega)

/-- 'string([]byte{x})': the block has just been laid. -/
theorem conv_one (w : World) (x : Int) : (convert 73 9 (.slice (some ⟨w.heap.size, 0, none⟩) 1 1)).run Try.prog (w.alloc (.cells #[.int .u8 x] 5)) = .ok (.string ⟨#[UInt8.ofNat x.toNat]⟩) (w.alloc (.cells #[.int .u8 x] 5)) := by
  refine (run_convert_bytes_arg _ 73 5 Try.underlying73 Try.underlying5 w.heap.size 0 1 1 [x] rfl (fun i hi => by
    obtain rfl : i = 0 := by omega
    simp [World.cell?_alloc_mark]) 9 Try.underlying9).trans ?_
  simp [strOfNums]

theorem cat_lit (c : UInt8) (out : List UInt8) : (⟨#[c]⟩ : ByteArray) ++ ⟨out.toArray⟩ = ⟨(c :: out).toArray⟩ := by
  rfl

end Go.Proofs.Ytkjpehpodlpdhaa
