/-
  No cell of these rows narrows 'for every input' (looked for: loops, veiled, ifaces, maps, wideKeys, modest, calm, conditions, laid).
  DERIVED. THE GIVEN ROWS OF THIS SEAT. 12 by the template 'for every input the law returns true; each argument reads behind the call as it read before'; 0 by the template 'total and deterministic' (their statements: YtcioekhlhgkkiaaTotals.lean).
  GIVEN WITH THE SEED: the statements are not yours to turn. If you find one false, say at which input.
  Laid BY PROGRAM, IN A SANDBOX (cutbox-rows.mjs): the forced cells as the released guide's own fill.sh prints them over the translation 7492c01278982efb… (all of the seat's roots in one cut). By AI agents, Wed Nov 11 2026. No macro, syntax, notation, axiom, sorry.
-/
import Derived.Test.YtcioekhlhgkkiaaChecked
import GoSem.Claim
import GoSem.ClaimJoined
import GoSem.ClaimMapViews
import Derived.JoinedTies
import Derived.KernelRfl
namespace Go.Proofs.Ytcioekhlhgkkiaa
/- THE CELL 'sum', in the pinned program and in every row, IS THE sha256 OF THE DUMP (.gsa) THAT YtcioekhlhgkkiaaProg.lean LOADS. Nothing in Lean hashes anything: it is a label: what it is worth is what the hold of that sum in a sandbox is worth. -/
noncomputable def Try.pinned : Pinned := { name := "ytcioekhlhgkkiaa", sum := "7492c01278982efb828dde91c41e110c233369e08d42574bd4886f105d4d4daa", checked := Try.checked }
namespace Rows
def none {H : Type} : Left H := { results := [], args := [] }

/-- 'laws.FnExactIsHom': WHATEVER THE INPUT: true; the input reads as it did. -/
def fnExactIsHomSpec : ChangeSpec := { name := "fnExactIsHom", fn := fun _ => fun
  | [d1, d2, d3] => { results := [.lit (.bool true)], args := [d1, d2, d3] }
  | _ => none }
def fnExactIsHomRow : OpenClaim := { program := "ytcioekhlhgkkiaa", sum := "7492c01278982efb828dde91c41e110c233369e08d42574bd4886f105d4d4daa", func := "loop.example/g01078/laws.FnExactIsHom", spec := "fnExactIsHom", apart := false }
def FnExactIsHomSaid : Prop := fnExactIsHomRow.holds Try.pinned (OpenSpec.ofChange fnExactIsHomSpec)

/-- ITS FALSE NEIGHBOUR: 'it returns false'. Refute it at one input. -/
def fnExactIsHomWrong : ChangeSpec := { name := "fnExactIsHom", fn := fun _ => fun
  | [d1, d2, d3] => { results := [.lit (.bool false)], args := [d1, d2, d3] }
  | _ => none }
def FnExactIsHomWrongFalsely : Prop := fnExactIsHomRow.holds Try.pinned (OpenSpec.ofChange fnExactIsHomWrong)

/-- 'laws.FnExactHomFault': WHATEVER THE INPUT: true; the input reads as it did. -/
def fnExactHomFaultSpec : ChangeSpec := { name := "fnExactHomFault", fn := fun _ => fun
  | [d1, d2, d3] => { results := [.lit (.bool true)], args := [d1, d2, d3] }
  | _ => none }
def fnExactHomFaultRow : OpenClaim := { program := "ytcioekhlhgkkiaa", sum := "7492c01278982efb828dde91c41e110c233369e08d42574bd4886f105d4d4daa", func := "loop.example/g01078/laws.FnExactHomFault", spec := "fnExactHomFault", apart := false }
def FnExactHomFaultSaid : Prop := fnExactHomFaultRow.holds Try.pinned (OpenSpec.ofChange fnExactHomFaultSpec)

/-- ITS FALSE NEIGHBOUR: 'it returns false'. Refute it at one input. -/
def fnExactHomFaultWrong : ChangeSpec := { name := "fnExactHomFault", fn := fun _ => fun
  | [d1, d2, d3] => { results := [.lit (.bool false)], args := [d1, d2, d3] }
  | _ => none }
def FnExactHomFaultWrongFalsely : Prop := fnExactHomFaultRow.holds Try.pinned (OpenSpec.ofChange fnExactHomFaultWrong)

/-- 'laws.FnExactClosePartial': WHATEVER THE INPUT: true; the input reads as it did. -/
def fnExactClosePartialSpec : ChangeSpec := { name := "fnExactClosePartial", fn := fun _ => fun
  | [d1, d2, d3] => { results := [.lit (.bool true)], args := [d1, d2, d3] }
  | _ => none }
def fnExactClosePartialRow : OpenClaim := { program := "ytcioekhlhgkkiaa", sum := "7492c01278982efb828dde91c41e110c233369e08d42574bd4886f105d4d4daa", func := "loop.example/g01078/laws.FnExactClosePartial", spec := "fnExactClosePartial", apart := false }
def FnExactClosePartialSaid : Prop := fnExactClosePartialRow.holds Try.pinned (OpenSpec.ofChange fnExactClosePartialSpec)

/-- ITS FALSE NEIGHBOUR: 'it returns false'. Refute it at one input. -/
def fnExactClosePartialWrong : ChangeSpec := { name := "fnExactClosePartial", fn := fun _ => fun
  | [d1, d2, d3] => { results := [.lit (.bool false)], args := [d1, d2, d3] }
  | _ => none }
def FnExactClosePartialWrongFalsely : Prop := fnExactClosePartialRow.holds Try.pinned (OpenSpec.ofChange fnExactClosePartialWrong)

/-- 'laws.FnExactComposeHoms': WHATEVER THE INPUT: true; the input reads as it did. -/
def fnExactComposeHomsSpec : ChangeSpec := { name := "fnExactComposeHoms", fn := fun _ => fun
  | [d1, d2, d3, d4, d5] => { results := [.lit (.bool true)], args := [d1, d2, d3, d4, d5] }
  | _ => none }
def fnExactComposeHomsRow : OpenClaim := { program := "ytcioekhlhgkkiaa", sum := "7492c01278982efb828dde91c41e110c233369e08d42574bd4886f105d4d4daa", func := "loop.example/g01078/laws.FnExactComposeHoms", spec := "fnExactComposeHoms", apart := false }
def FnExactComposeHomsSaid : Prop := fnExactComposeHomsRow.holds Try.pinned (OpenSpec.ofChange fnExactComposeHomsSpec)

/-- ITS FALSE NEIGHBOUR: 'it returns false'. Refute it at one input. -/
def fnExactComposeHomsWrong : ChangeSpec := { name := "fnExactComposeHoms", fn := fun _ => fun
  | [d1, d2, d3, d4, d5] => { results := [.lit (.bool false)], args := [d1, d2, d3, d4, d5] }
  | _ => none }
def FnExactComposeHomsWrongFalsely : Prop := fnExactComposeHomsRow.holds Try.pinned (OpenSpec.ofChange fnExactComposeHomsWrong)

/-- 'laws.FnExactInverseIso': WHATEVER THE INPUT: true; the input reads as it did. -/
def fnExactInverseIsoSpec : ChangeSpec := { name := "fnExactInverseIso", fn := fun _ => fun
  | [d1, d2, d3] => { results := [.lit (.bool true)], args := [d1, d2, d3] }
  | _ => none }
def fnExactInverseIsoRow : OpenClaim := { program := "ytcioekhlhgkkiaa", sum := "7492c01278982efb828dde91c41e110c233369e08d42574bd4886f105d4d4daa", func := "loop.example/g01078/laws.FnExactInverseIso", spec := "fnExactInverseIso", apart := false }
def FnExactInverseIsoSaid : Prop := fnExactInverseIsoRow.holds Try.pinned (OpenSpec.ofChange fnExactInverseIsoSpec)

/-- ITS FALSE NEIGHBOUR: 'it returns false'. Refute it at one input. -/
def fnExactInverseIsoWrong : ChangeSpec := { name := "fnExactInverseIso", fn := fun _ => fun
  | [d1, d2, d3] => { results := [.lit (.bool false)], args := [d1, d2, d3] }
  | _ => none }
def FnExactInverseIsoWrongFalsely : Prop := fnExactInverseIsoRow.holds Try.pinned (OpenSpec.ofChange fnExactInverseIsoWrong)

/-- 'laws.FnExactKernelOf': WHATEVER THE INPUT: true; the input reads as it did. -/
def fnExactKernelOfSpec : ChangeSpec := { name := "fnExactKernelOf", fn := fun _ => fun
  | [d1, d2, d3] => { results := [.lit (.bool true)], args := [d1, d2, d3] }
  | _ => none }
def fnExactKernelOfRow : OpenClaim := { program := "ytcioekhlhgkkiaa", sum := "7492c01278982efb828dde91c41e110c233369e08d42574bd4886f105d4d4daa", func := "loop.example/g01078/laws.FnExactKernelOf", spec := "fnExactKernelOf", apart := false }
def FnExactKernelOfSaid : Prop := fnExactKernelOfRow.holds Try.pinned (OpenSpec.ofChange fnExactKernelOfSpec)

/-- ITS FALSE NEIGHBOUR: 'it returns false'. Refute it at one input. -/
def fnExactKernelOfWrong : ChangeSpec := { name := "fnExactKernelOf", fn := fun _ => fun
  | [d1, d2, d3] => { results := [.lit (.bool false)], args := [d1, d2, d3] }
  | _ => none }
def FnExactKernelOfWrongFalsely : Prop := fnExactKernelOfRow.holds Try.pinned (OpenSpec.ofChange fnExactKernelOfWrong)

/-- 'laws.FnExactImageOf': WHATEVER THE INPUT: true; the input reads as it did. -/
def fnExactImageOfSpec : ChangeSpec := { name := "fnExactImageOf", fn := fun _ => fun
  | [d1, d2, d3] => { results := [.lit (.bool true)], args := [d1, d2, d3] }
  | _ => none }
def fnExactImageOfRow : OpenClaim := { program := "ytcioekhlhgkkiaa", sum := "7492c01278982efb828dde91c41e110c233369e08d42574bd4886f105d4d4daa", func := "loop.example/g01078/laws.FnExactImageOf", spec := "fnExactImageOf", apart := false }
def FnExactImageOfSaid : Prop := fnExactImageOfRow.holds Try.pinned (OpenSpec.ofChange fnExactImageOfSpec)

/-- ITS FALSE NEIGHBOUR: 'it returns false'. Refute it at one input. -/
def fnExactImageOfWrong : ChangeSpec := { name := "fnExactImageOf", fn := fun _ => fun
  | [d1, d2, d3] => { results := [.lit (.bool false)], args := [d1, d2, d3] }
  | _ => none }
def FnExactImageOfWrongFalsely : Prop := fnExactImageOfRow.holds Try.pinned (OpenSpec.ofChange fnExactImageOfWrong)

/-- 'laws.FnExactAllHoms': WHATEVER THE INPUT: true; the input reads as it did. -/
def fnExactAllHomsSpec : ChangeSpec := { name := "fnExactAllHoms", fn := fun _ => fun
  | [d1, d2] => { results := [.lit (.bool true)], args := [d1, d2] }
  | _ => none }
def fnExactAllHomsRow : OpenClaim := { program := "ytcioekhlhgkkiaa", sum := "7492c01278982efb828dde91c41e110c233369e08d42574bd4886f105d4d4daa", func := "loop.example/g01078/laws.FnExactAllHoms", spec := "fnExactAllHoms", unfollowed := true, recurses := true, apart := false }
def FnExactAllHomsSaid : Prop := fnExactAllHomsRow.holds Try.pinned (OpenSpec.ofChange fnExactAllHomsSpec)

/-- ITS FALSE NEIGHBOUR: 'it returns false'. Refute it at one input. -/
def fnExactAllHomsWrong : ChangeSpec := { name := "fnExactAllHoms", fn := fun _ => fun
  | [d1, d2] => { results := [.lit (.bool false)], args := [d1, d2] }
  | _ => none }
def FnExactAllHomsWrongFalsely : Prop := fnExactAllHomsRow.holds Try.pinned (OpenSpec.ofChange fnExactAllHomsWrong)

/-- 'laws.FnExactFirstEmbedding': WHATEVER THE INPUT: true; the input reads as it did. -/
def fnExactFirstEmbeddingSpec : ChangeSpec := { name := "fnExactFirstEmbedding", fn := fun _ => fun
  | [d1, d2] => { results := [.lit (.bool true)], args := [d1, d2] }
  | _ => none }
def fnExactFirstEmbeddingRow : OpenClaim := { program := "ytcioekhlhgkkiaa", sum := "7492c01278982efb828dde91c41e110c233369e08d42574bd4886f105d4d4daa", func := "loop.example/g01078/laws.FnExactFirstEmbedding", spec := "fnExactFirstEmbedding", unfollowed := true, recurses := true, apart := false }
def FnExactFirstEmbeddingSaid : Prop := fnExactFirstEmbeddingRow.holds Try.pinned (OpenSpec.ofChange fnExactFirstEmbeddingSpec)

/-- ITS FALSE NEIGHBOUR: 'it returns false'. Refute it at one input. -/
def fnExactFirstEmbeddingWrong : ChangeSpec := { name := "fnExactFirstEmbedding", fn := fun _ => fun
  | [d1, d2] => { results := [.lit (.bool false)], args := [d1, d2] }
  | _ => none }
def FnExactFirstEmbeddingWrongFalsely : Prop := fnExactFirstEmbeddingRow.holds Try.pinned (OpenSpec.ofChange fnExactFirstEmbeddingWrong)

/-- 'laws.FnExactFirstOnto': WHATEVER THE INPUT: true; the input reads as it did. -/
def fnExactFirstOntoSpec : ChangeSpec := { name := "fnExactFirstOnto", fn := fun _ => fun
  | [d1, d2] => { results := [.lit (.bool true)], args := [d1, d2] }
  | _ => none }
def fnExactFirstOntoRow : OpenClaim := { program := "ytcioekhlhgkkiaa", sum := "7492c01278982efb828dde91c41e110c233369e08d42574bd4886f105d4d4daa", func := "loop.example/g01078/laws.FnExactFirstOnto", spec := "fnExactFirstOnto", unfollowed := true, recurses := true, apart := false }
def FnExactFirstOntoSaid : Prop := fnExactFirstOntoRow.holds Try.pinned (OpenSpec.ofChange fnExactFirstOntoSpec)

/-- ITS FALSE NEIGHBOUR: 'it returns false'. Refute it at one input. -/
def fnExactFirstOntoWrong : ChangeSpec := { name := "fnExactFirstOnto", fn := fun _ => fun
  | [d1, d2] => { results := [.lit (.bool false)], args := [d1, d2] }
  | _ => none }
def FnExactFirstOntoWrongFalsely : Prop := fnExactFirstOntoRow.holds Try.pinned (OpenSpec.ofChange fnExactFirstOntoWrong)

/-- 'laws.FnExactFirstIso': WHATEVER THE INPUT: true; the input reads as it did. -/
def fnExactFirstIsoSpec : ChangeSpec := { name := "fnExactFirstIso", fn := fun _ => fun
  | [d1, d2] => { results := [.lit (.bool true)], args := [d1, d2] }
  | _ => none }
def fnExactFirstIsoRow : OpenClaim := { program := "ytcioekhlhgkkiaa", sum := "7492c01278982efb828dde91c41e110c233369e08d42574bd4886f105d4d4daa", func := "loop.example/g01078/laws.FnExactFirstIso", spec := "fnExactFirstIso", unfollowed := true, recurses := true, apart := false }
def FnExactFirstIsoSaid : Prop := fnExactFirstIsoRow.holds Try.pinned (OpenSpec.ofChange fnExactFirstIsoSpec)

/-- ITS FALSE NEIGHBOUR: 'it returns false'. Refute it at one input. -/
def fnExactFirstIsoWrong : ChangeSpec := { name := "fnExactFirstIso", fn := fun _ => fun
  | [d1, d2] => { results := [.lit (.bool false)], args := [d1, d2] }
  | _ => none }
def FnExactFirstIsoWrongFalsely : Prop := fnExactFirstIsoRow.holds Try.pinned (OpenSpec.ofChange fnExactFirstIsoWrong)

/-- 'laws.FnExactAreIsomorphic': WHATEVER THE INPUT: true; the input reads as it did. -/
def fnExactAreIsomorphicSpec : ChangeSpec := { name := "fnExactAreIsomorphic", fn := fun _ => fun
  | [d1, d2] => { results := [.lit (.bool true)], args := [d1, d2] }
  | _ => none }
def fnExactAreIsomorphicRow : OpenClaim := { program := "ytcioekhlhgkkiaa", sum := "7492c01278982efb828dde91c41e110c233369e08d42574bd4886f105d4d4daa", func := "loop.example/g01078/laws.FnExactAreIsomorphic", spec := "fnExactAreIsomorphic", unfollowed := true, recurses := true, apart := false }
def FnExactAreIsomorphicSaid : Prop := fnExactAreIsomorphicRow.holds Try.pinned (OpenSpec.ofChange fnExactAreIsomorphicSpec)

/-- ITS FALSE NEIGHBOUR: 'it returns false'. Refute it at one input. -/
def fnExactAreIsomorphicWrong : ChangeSpec := { name := "fnExactAreIsomorphic", fn := fun _ => fun
  | [d1, d2] => { results := [.lit (.bool false)], args := [d1, d2] }
  | _ => none }
def FnExactAreIsomorphicWrongFalsely : Prop := fnExactAreIsomorphicRow.holds Try.pinned (OpenSpec.ofChange fnExactAreIsomorphicWrong)

/- THE SECOND FORM. 'bulk': how many values and letters a reading holds, each counted each time it is reached (what is shared counts as often as it is met; a slice's spare places count too). A statement '..UptoSaid' is the law's where the arguments, and the package variables that the reading takes, are together of bulk at most 1048576: NARROWER than '..Said'. Prove '..Said' where nothing that the law and all that it calls make is longer than what came in: it says more and counts as full. Else prove '..UptoSaid'. A law counts once. -/
mutual
def uptoBulk {H : Type} : DataW H → Nat
  | .lit (.string bytes) => bytes.length + 1
  | .lit _ => 1
  | .nil => 1
  | .ptr d => uptoBulk d + 1
  | .slice elems spare => uptoBulkAll elems + uptoBulkAll spare + 1
  | .agg parts => uptoBulkAll parts + 1
  | .iface _ d => uptoBulk d + 1
  | .map entries => uptoBulkEntries entries + 1
  | .held _ => 1
def uptoBulkAll {H : Type} : List (DataW H) → Nat
  | [] => 0
  | d :: r => uptoBulk d + uptoBulkAll r
def uptoBulkEntries {H : Type} : List (Lit × DataW H) → Nat
  | [] => 0
  | x :: r => uptoBulkEntry x + uptoBulkEntries r
def uptoBulkEntry {H : Type} : Lit × DataW H → Nat
  | (.string bytes, d) => bytes.length + uptoBulk d + 1
  | (_, d) => uptoBulk d + 1
 end
def uptoSmall : (H : Type) → List (DataW H) → Bool := fun _ ds => decide (uptoBulkAll ds ≤ 1048576)
def OpenSpec.upto (s : _root_.Go.ChangeSpec) : _root_.Go.OpenSpec := { _root_.Go.OpenSpec.ofChange s with cond := some uptoSmall }

/-- 'laws.FnExactIsHom', WHERE WHAT IT READS IS OF BULK AT MOST 1048576: true; the input reads as it did. -/
def fnExactIsHomUptoRow : OpenClaim := { program := "ytcioekhlhgkkiaa", sum := "7492c01278982efb828dde91c41e110c233369e08d42574bd4886f105d4d4daa", func := "loop.example/g01078/laws.FnExactIsHom", spec := "fnExactIsHom", apart := false, narrowed := true }
def FnExactIsHomUptoSaid : Prop := fnExactIsHomUptoRow.holds Try.pinned (OpenSpec.upto fnExactIsHomSpec)

/-- 'laws.FnExactHomFault', WHERE WHAT IT READS IS OF BULK AT MOST 1048576: true; the input reads as it did. -/
def fnExactHomFaultUptoRow : OpenClaim := { program := "ytcioekhlhgkkiaa", sum := "7492c01278982efb828dde91c41e110c233369e08d42574bd4886f105d4d4daa", func := "loop.example/g01078/laws.FnExactHomFault", spec := "fnExactHomFault", apart := false, narrowed := true }
def FnExactHomFaultUptoSaid : Prop := fnExactHomFaultUptoRow.holds Try.pinned (OpenSpec.upto fnExactHomFaultSpec)

/-- 'laws.FnExactClosePartial', WHERE WHAT IT READS IS OF BULK AT MOST 1048576: true; the input reads as it did. -/
def fnExactClosePartialUptoRow : OpenClaim := { program := "ytcioekhlhgkkiaa", sum := "7492c01278982efb828dde91c41e110c233369e08d42574bd4886f105d4d4daa", func := "loop.example/g01078/laws.FnExactClosePartial", spec := "fnExactClosePartial", apart := false, narrowed := true }
def FnExactClosePartialUptoSaid : Prop := fnExactClosePartialUptoRow.holds Try.pinned (OpenSpec.upto fnExactClosePartialSpec)

/-- 'laws.FnExactComposeHoms', WHERE WHAT IT READS IS OF BULK AT MOST 1048576: true; the input reads as it did. -/
def fnExactComposeHomsUptoRow : OpenClaim := { program := "ytcioekhlhgkkiaa", sum := "7492c01278982efb828dde91c41e110c233369e08d42574bd4886f105d4d4daa", func := "loop.example/g01078/laws.FnExactComposeHoms", spec := "fnExactComposeHoms", apart := false, narrowed := true }
def FnExactComposeHomsUptoSaid : Prop := fnExactComposeHomsUptoRow.holds Try.pinned (OpenSpec.upto fnExactComposeHomsSpec)

/-- 'laws.FnExactInverseIso', WHERE WHAT IT READS IS OF BULK AT MOST 1048576: true; the input reads as it did. -/
def fnExactInverseIsoUptoRow : OpenClaim := { program := "ytcioekhlhgkkiaa", sum := "7492c01278982efb828dde91c41e110c233369e08d42574bd4886f105d4d4daa", func := "loop.example/g01078/laws.FnExactInverseIso", spec := "fnExactInverseIso", apart := false, narrowed := true }
def FnExactInverseIsoUptoSaid : Prop := fnExactInverseIsoUptoRow.holds Try.pinned (OpenSpec.upto fnExactInverseIsoSpec)

/-- 'laws.FnExactKernelOf', WHERE WHAT IT READS IS OF BULK AT MOST 1048576: true; the input reads as it did. -/
def fnExactKernelOfUptoRow : OpenClaim := { program := "ytcioekhlhgkkiaa", sum := "7492c01278982efb828dde91c41e110c233369e08d42574bd4886f105d4d4daa", func := "loop.example/g01078/laws.FnExactKernelOf", spec := "fnExactKernelOf", apart := false, narrowed := true }
def FnExactKernelOfUptoSaid : Prop := fnExactKernelOfUptoRow.holds Try.pinned (OpenSpec.upto fnExactKernelOfSpec)

/-- 'laws.FnExactImageOf', WHERE WHAT IT READS IS OF BULK AT MOST 1048576: true; the input reads as it did. -/
def fnExactImageOfUptoRow : OpenClaim := { program := "ytcioekhlhgkkiaa", sum := "7492c01278982efb828dde91c41e110c233369e08d42574bd4886f105d4d4daa", func := "loop.example/g01078/laws.FnExactImageOf", spec := "fnExactImageOf", apart := false, narrowed := true }
def FnExactImageOfUptoSaid : Prop := fnExactImageOfUptoRow.holds Try.pinned (OpenSpec.upto fnExactImageOfSpec)

/-- 'laws.FnExactAllHoms', WHERE WHAT IT READS IS OF BULK AT MOST 1048576: true; the input reads as it did. -/
def fnExactAllHomsUptoRow : OpenClaim := { program := "ytcioekhlhgkkiaa", sum := "7492c01278982efb828dde91c41e110c233369e08d42574bd4886f105d4d4daa", func := "loop.example/g01078/laws.FnExactAllHoms", spec := "fnExactAllHoms", unfollowed := true, recurses := true, apart := false, narrowed := true }
def FnExactAllHomsUptoSaid : Prop := fnExactAllHomsUptoRow.holds Try.pinned (OpenSpec.upto fnExactAllHomsSpec)

/-- 'laws.FnExactFirstEmbedding', WHERE WHAT IT READS IS OF BULK AT MOST 1048576: true; the input reads as it did. -/
def fnExactFirstEmbeddingUptoRow : OpenClaim := { program := "ytcioekhlhgkkiaa", sum := "7492c01278982efb828dde91c41e110c233369e08d42574bd4886f105d4d4daa", func := "loop.example/g01078/laws.FnExactFirstEmbedding", spec := "fnExactFirstEmbedding", unfollowed := true, recurses := true, apart := false, narrowed := true }
def FnExactFirstEmbeddingUptoSaid : Prop := fnExactFirstEmbeddingUptoRow.holds Try.pinned (OpenSpec.upto fnExactFirstEmbeddingSpec)

/-- 'laws.FnExactFirstOnto', WHERE WHAT IT READS IS OF BULK AT MOST 1048576: true; the input reads as it did. -/
def fnExactFirstOntoUptoRow : OpenClaim := { program := "ytcioekhlhgkkiaa", sum := "7492c01278982efb828dde91c41e110c233369e08d42574bd4886f105d4d4daa", func := "loop.example/g01078/laws.FnExactFirstOnto", spec := "fnExactFirstOnto", unfollowed := true, recurses := true, apart := false, narrowed := true }
def FnExactFirstOntoUptoSaid : Prop := fnExactFirstOntoUptoRow.holds Try.pinned (OpenSpec.upto fnExactFirstOntoSpec)

/-- 'laws.FnExactFirstIso', WHERE WHAT IT READS IS OF BULK AT MOST 1048576: true; the input reads as it did. -/
def fnExactFirstIsoUptoRow : OpenClaim := { program := "ytcioekhlhgkkiaa", sum := "7492c01278982efb828dde91c41e110c233369e08d42574bd4886f105d4d4daa", func := "loop.example/g01078/laws.FnExactFirstIso", spec := "fnExactFirstIso", unfollowed := true, recurses := true, apart := false, narrowed := true }
def FnExactFirstIsoUptoSaid : Prop := fnExactFirstIsoUptoRow.holds Try.pinned (OpenSpec.upto fnExactFirstIsoSpec)

/-- 'laws.FnExactAreIsomorphic', WHERE WHAT IT READS IS OF BULK AT MOST 1048576: true; the input reads as it did. -/
def fnExactAreIsomorphicUptoRow : OpenClaim := { program := "ytcioekhlhgkkiaa", sum := "7492c01278982efb828dde91c41e110c233369e08d42574bd4886f105d4d4daa", func := "loop.example/g01078/laws.FnExactAreIsomorphic", spec := "fnExactAreIsomorphic", unfollowed := true, recurses := true, apart := false, narrowed := true }
def FnExactAreIsomorphicUptoSaid : Prop := fnExactAreIsomorphicUptoRow.holds Try.pinned (OpenSpec.upto fnExactAreIsomorphicSpec)

end Rows
end Go.Proofs.Ytcioekhlhgkkiaa
