/- Lists of rules inside a struct: what they take, told as a number. -/
import Derived.Test.YtdbomnhakikmfaaToRu
namespace Go.Proofs.Ytdbomnhakikmfaa
set_option linter.unusedVariables false
open Go.RowKit

theorem RusO.slice {lo hi : Nat} {w : World} {v : Value} {xs : List Ru} (h : RusO lo hi w v xs) : ∃ a n c, v = .slice a n c := h.1.slice
end Go.Proofs.Ytdbomnhakikmfaa
