/- AddEvent, the model's. -/
import Derived.Test.YtkjpehpodlpdhaaAddX
import Derived.Deep.DeepCutAuto
import Derived.Deep.CutBlock
namespace Go.Proofs.Ytkjpehpodlpdhaa
set_option linter.unusedVariables false
open Go.RowKit Go.Sort

theorem below_sz3 {w a : World} {o1 o2 o3 : Obj} (h : Below (((w.alloc o1).alloc o2).alloc o3).heap.size (((w.alloc o1).alloc o2).alloc o3) a) : w.heap.size + 3 ≤ a.heap.size := by
  have := h.size
  simp at this
  omega

end Go.Proofs.Ytkjpehpodlpdhaa
