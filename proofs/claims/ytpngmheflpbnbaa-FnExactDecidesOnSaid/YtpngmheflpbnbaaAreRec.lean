/- What records are: the model's and the program's answer areRecs. -/
import Derived.Test.YtpngmheflpbnbaaRecs
import Derived.Test.YtpngmheflpbnbaaIsRecI
namespace Go.Proofs.Ytpngmheflpbnbaa
set_option linter.unusedVariables false
open Go.RowKit Go.Sort

theorem notRecs {rs : List Rec} {k : Nat} (hk : k < rs.length) (h : recAtB rs k = false) : areRecs rs = false := by
  simp only [areRecs]
  rw [upto_false hk h]
  simp



end Go.Proofs.Ytpngmheflpbnbaa
