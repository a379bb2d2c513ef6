/-
  A result that is an empty list, in memory of the call's own. No condition.
-/
import Derived.Test.YtcmjkfcgekmomaaMarkA
namespace Go.Proofs.Ytcmjkfcgekmomaa
open Go.RowKit

theorem own_nil_res {w w1 : World} (hB1 : Below w.heap.size w w1) : OwnsInts (w1.alloc (.cells #[] 3)) w.heap.size (w1.alloc (.cells #[] 3)).heap.size (some ⟨w1.heap.size, 0, none⟩) 0 0 [] :=
  OwnsInts.of_row (World.ownsRow_lit (base := w.heap.size) (e := 3) (size := 1) w1 #[] 0 hB1.size (by decide) rfl)

end Go.Proofs.Ytcmjkfcgekmomaa
