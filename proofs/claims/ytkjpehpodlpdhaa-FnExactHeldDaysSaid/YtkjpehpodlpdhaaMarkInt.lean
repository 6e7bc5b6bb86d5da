/- The laws' own markText at a number, and how long a mark is. -/
import Derived.Test.YtkjpehpodlpdhaaMark
namespace Go.Proofs.Ytkjpehpodlpdhaa
set_option linter.unusedVariables false
open Go.RowKit


theorem mtGo_len : ∀ (f k : Nat) (acc : List UInt8), (mtGo f k acc).length ≤ acc.length + f
  | 0, _, acc => by simp [mtGo]
  | f + 1, k, acc => by
    unfold mtGo
    split
    · omega
    · have := mtGo_len f (k / 10) ((48 + UInt8.ofNat (k % 10)) :: acc)
      simp only [List.length_cons] at this
      omega
theorem mt_size_ok (k : Nat) (h : k ≤ 1099511627776) : (⟨(mt k).toArray⟩ : ByteArray).size ≤ maxLen := by
  have := mtGo_len k k []
  show (mt k).toArray.size ≤ maxLen
  simp only [List.size_toArray, mt, List.length_cons, List.length_nil, maxLen] at *
  omega
end Go.Proofs.Ytkjpehpodlpdhaa
