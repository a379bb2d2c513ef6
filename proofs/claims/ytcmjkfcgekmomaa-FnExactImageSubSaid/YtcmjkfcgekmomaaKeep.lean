/-
  What a new block and a draw keep. No condition.
-/
import Derived.Test.YtcmjkfcgekmomaaStep
namespace Go.Proofs.Ytcmjkfcgekmomaa
open Go.RowKit

theorem keep_alloc {a W : World} (h : Below a.heap.size a W) (o : Obj) : Below a.heap.size a (W.alloc o) := h.alloc h.size o
theorem keep_drew {a W : World} (h : Below a.heap.size a W) : Below a.heap.size a W.drew := h.drew

end Go.Proofs.Ytcmjkfcgekmomaa
