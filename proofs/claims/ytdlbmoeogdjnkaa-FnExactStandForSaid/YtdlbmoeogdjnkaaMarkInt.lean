/- The laws' own markText at a number, and how long a mark is. -/
import Derived.Test.YtdlbmoeogdjnkaaMark
namespace Go.Proofs.Ytdlbmoeogdjnkaa
set_option linter.unusedVariables false
open Go.RowKit

theorem markText_int (a : Int) (w : World) (h0 : 1 ≤ a) (h1 : a ≤ 1099511627776) :
    Calls Try.prog 60 #[.int .i64 a] w fun e w' => e = .returned (.string ⟨(mt a.toNat).toArray⟩) ∧ Below w.heap.size w w' := by
  obtain ⟨n, rfl⟩ := Int.eq_ofNat_of_zero_le (show 0 ≤ a by omega)
  simpa using markText_any n w (by omega) (by omega)

theorem mtGo_len : ∀ (f k : Nat) (acc : List UInt8), (mtGo f k acc).length ≤ acc.length + f
  | 0, _, acc => by simp [mtGo]
  | f + 1, k, acc => by
    unfold mtGo
    split
    · omega
    · have := mtGo_len f (k / 10) ((48 + UInt8.ofNat (k % 10)) :: acc)
      simp only [List.length_cons] at this
      omega
theorem mt_size_ok (k : Nat) (h : k ≤ 1099511627776) : (⟨(mt k).toArray⟩ : ByteArray).size ≤ maxLen := by
  have := mtGo_len k k []
  show (mt k).toArray.size ≤ maxLen
  simp only [List.size_toArray, mt, List.length_cons, List.length_nil, maxLen] at *
  omega
end Go.Proofs.Ytdlbmoeogdjnkaa
