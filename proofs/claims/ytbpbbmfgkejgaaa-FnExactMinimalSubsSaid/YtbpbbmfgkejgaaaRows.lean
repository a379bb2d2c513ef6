/-
  No cell of these rows narrows 'for every input' (looked for: loops, veiled, ifaces, maps, wideKeys, modest, calm, conditions, laid).
  DERIVED. THE GIVEN ROWS OF THIS SEAT. 6 by the template 'for every input the law returns true; each argument reads behind the call as it read before'; 0 by the template 'total and deterministic' (their statements: YtbpbbmfgkejgaaaTotals.lean).
  GIVEN WITH THE SEED: the statements are not yours to turn. If you find one false, say at which input.
  Laid BY PROGRAM, IN A SANDBOX (cutbox-rows.mjs): the forced cells as the released guide's own fill.sh prints them over the translation 6cbf62d821c2d23b… (all of the seat's roots in one cut). By AI agents, Wed Nov 11 2026. No macro, syntax, notation, axiom, sorry.
-/
import Derived.Test.YtbpbbmfgkejgaaaChecked
import GoSem.Claim
import GoSem.ClaimJoined
import GoSem.ClaimMapViews
import Derived.JoinedTies
import Derived.KernelRfl
namespace Go.Proofs.Ytbpbbmfgkejgaaa
/- THE CELL 'sum', in the pinned program and in every row, IS THE sha256 OF THE DUMP (.gsa) THAT YtbpbbmfgkejgaaaProg.lean LOADS. Nothing in Lean hashes anything: it is a label: what it is worth is what the hold of that sum in a sandbox is worth. -/
noncomputable def Try.pinned : Pinned := { name := "ytbpbbmfgkejgaaa", sum := "6cbf62d821c2d23bc0e364d501e349d9133a78d19161d8345d5224fc52b98f70", checked := Try.checked }
namespace Rows
def none {H : Type} : Left H := { results := [], args := [] }

/-- 'laws.FnExactAllSubuniverses': WHATEVER THE INPUT: true; the input reads as it did. -/
def fnExactAllSubuniversesSpec : ChangeSpec := { name := "fnExactAllSubuniverses", fn := fun _ => fun
  | [d] => { results := [.lit (.bool true)], args := [d] }
  | _ => none }
def fnExactAllSubuniversesRow : OpenClaim := { program := "ytbpbbmfgkejgaaa", sum := "6cbf62d821c2d23bc0e364d501e349d9133a78d19161d8345d5224fc52b98f70", func := "loop.example/g01078/laws.FnExactAllSubuniverses", spec := "fnExactAllSubuniverses", unfollowed := true, recurses := true, apart := false }
def FnExactAllSubuniversesSaid : Prop := fnExactAllSubuniversesRow.holds Try.pinned (OpenSpec.ofChange fnExactAllSubuniversesSpec)

/-- ITS FALSE NEIGHBOUR: 'it returns false'. Refute it at one input. -/
def fnExactAllSubuniversesWrong : ChangeSpec := { name := "fnExactAllSubuniverses", fn := fun _ => fun
  | [d] => { results := [.lit (.bool false)], args := [d] }
  | _ => none }
def FnExactAllSubuniversesWrongFalsely : Prop := fnExactAllSubuniversesRow.holds Try.pinned (OpenSpec.ofChange fnExactAllSubuniversesWrong)

/-- 'laws.FnExactMinimalSubs': WHATEVER THE INPUT: true; the input reads as it did. -/
def fnExactMinimalSubsSpec : ChangeSpec := { name := "fnExactMinimalSubs", fn := fun _ => fun
  | [d] => { results := [.lit (.bool true)], args := [d] }
  | _ => none }
def fnExactMinimalSubsRow : OpenClaim := { program := "ytbpbbmfgkejgaaa", sum := "6cbf62d821c2d23bc0e364d501e349d9133a78d19161d8345d5224fc52b98f70", func := "loop.example/g01078/laws.FnExactMinimalSubs", spec := "fnExactMinimalSubs", unfollowed := true, recurses := true, apart := false }
def FnExactMinimalSubsSaid : Prop := fnExactMinimalSubsRow.holds Try.pinned (OpenSpec.ofChange fnExactMinimalSubsSpec)

/-- ITS FALSE NEIGHBOUR: 'it returns false'. Refute it at one input. -/
def fnExactMinimalSubsWrong : ChangeSpec := { name := "fnExactMinimalSubs", fn := fun _ => fun
  | [d] => { results := [.lit (.bool false)], args := [d] }
  | _ => none }
def FnExactMinimalSubsWrongFalsely : Prop := fnExactMinimalSubsRow.holds Try.pinned (OpenSpec.ofChange fnExactMinimalSubsWrong)

/-- 'laws.FnExactMaximalSubs': WHATEVER THE INPUT: true; the input reads as it did. -/
def fnExactMaximalSubsSpec : ChangeSpec := { name := "fnExactMaximalSubs", fn := fun _ => fun
  | [d] => { results := [.lit (.bool true)], args := [d] }
  | _ => none }
def fnExactMaximalSubsRow : OpenClaim := { program := "ytbpbbmfgkejgaaa", sum := "6cbf62d821c2d23bc0e364d501e349d9133a78d19161d8345d5224fc52b98f70", func := "loop.example/g01078/laws.FnExactMaximalSubs", spec := "fnExactMaximalSubs", unfollowed := true, recurses := true, apart := false }
def FnExactMaximalSubsSaid : Prop := fnExactMaximalSubsRow.holds Try.pinned (OpenSpec.ofChange fnExactMaximalSubsSpec)

/-- ITS FALSE NEIGHBOUR: 'it returns false'. Refute it at one input. -/
def fnExactMaximalSubsWrong : ChangeSpec := { name := "fnExactMaximalSubs", fn := fun _ => fun
  | [d] => { results := [.lit (.bool false)], args := [d] }
  | _ => none }
def FnExactMaximalSubsWrongFalsely : Prop := fnExactMaximalSubsRow.holds Try.pinned (OpenSpec.ofChange fnExactMaximalSubsWrong)

/-- 'laws.FnExactSubsThrough': WHATEVER THE INPUT: true; the input reads as it did. -/
def fnExactSubsThroughSpec : ChangeSpec := { name := "fnExactSubsThrough", fn := fun _ => fun
  | [d1, d2] => { results := [.lit (.bool true)], args := [d1, d2] }
  | _ => none }
def fnExactSubsThroughRow : OpenClaim := { program := "ytbpbbmfgkejgaaa", sum := "6cbf62d821c2d23bc0e364d501e349d9133a78d19161d8345d5224fc52b98f70", func := "loop.example/g01078/laws.FnExactSubsThrough", spec := "fnExactSubsThrough", unfollowed := true, recurses := true, apart := false }
def FnExactSubsThroughSaid : Prop := fnExactSubsThroughRow.holds Try.pinned (OpenSpec.ofChange fnExactSubsThroughSpec)

/-- ITS FALSE NEIGHBOUR: 'it returns false'. Refute it at one input. -/
def fnExactSubsThroughWrong : ChangeSpec := { name := "fnExactSubsThrough", fn := fun _ => fun
  | [d1, d2] => { results := [.lit (.bool false)], args := [d1, d2] }
  | _ => none }
def FnExactSubsThroughWrongFalsely : Prop := fnExactSubsThroughRow.holds Try.pinned (OpenSpec.ofChange fnExactSubsThroughWrong)

/-- 'laws.FnExactLeastGenerators': WHATEVER THE INPUT: true; the input reads as it did. -/
def fnExactLeastGeneratorsSpec : ChangeSpec := { name := "fnExactLeastGenerators", fn := fun _ => fun
  | [d] => { results := [.lit (.bool true)], args := [d] }
  | _ => none }
def fnExactLeastGeneratorsRow : OpenClaim := { program := "ytbpbbmfgkejgaaa", sum := "6cbf62d821c2d23bc0e364d501e349d9133a78d19161d8345d5224fc52b98f70", func := "loop.example/g01078/laws.FnExactLeastGenerators", spec := "fnExactLeastGenerators", unfollowed := true, recurses := true, apart := false }
def FnExactLeastGeneratorsSaid : Prop := fnExactLeastGeneratorsRow.holds Try.pinned (OpenSpec.ofChange fnExactLeastGeneratorsSpec)

/-- ITS FALSE NEIGHBOUR: 'it returns false'. Refute it at one input. -/
def fnExactLeastGeneratorsWrong : ChangeSpec := { name := "fnExactLeastGenerators", fn := fun _ => fun
  | [d] => { results := [.lit (.bool false)], args := [d] }
  | _ => none }
def FnExactLeastGeneratorsWrongFalsely : Prop := fnExactLeastGeneratorsRow.holds Try.pinned (OpenSpec.ofChange fnExactLeastGeneratorsWrong)

/-- 'laws.FnExactNonGenerators': WHATEVER THE INPUT: true; the input reads as it did. -/
def fnExactNonGeneratorsSpec : ChangeSpec := { name := "fnExactNonGenerators", fn := fun _ => fun
  | [d] => { results := [.lit (.bool true)], args := [d] }
  | _ => none }
def fnExactNonGeneratorsRow : OpenClaim := { program := "ytbpbbmfgkejgaaa", sum := "6cbf62d821c2d23bc0e364d501e349d9133a78d19161d8345d5224fc52b98f70", func := "loop.example/g01078/laws.FnExactNonGenerators", spec := "fnExactNonGenerators", unfollowed := true, recurses := true, apart := false }
def FnExactNonGeneratorsSaid : Prop := fnExactNonGeneratorsRow.holds Try.pinned (OpenSpec.ofChange fnExactNonGeneratorsSpec)

/-- ITS FALSE NEIGHBOUR: 'it returns false'. Refute it at one input. -/
def fnExactNonGeneratorsWrong : ChangeSpec := { name := "fnExactNonGenerators", fn := fun _ => fun
  | [d] => { results := [.lit (.bool false)], args := [d] }
  | _ => none }
def FnExactNonGeneratorsWrongFalsely : Prop := fnExactNonGeneratorsRow.holds Try.pinned (OpenSpec.ofChange fnExactNonGeneratorsWrong)

/- THE SECOND FORM. 'bulk': how many values and letters a reading holds, each counted each time it is reached (what is shared counts as often as it is met; a slice's spare places count too). A statement '..UptoSaid' is the law's where the arguments, and the package variables that the reading takes, are together of bulk at most 1048576: NARROWER than '..Said'. Prove '..Said' where nothing that the law and all that it calls make is longer than what came in: it says more and counts as full. Else prove '..UptoSaid'. A law counts once. -/
mutual
def uptoBulk {H : Type} : DataW H → Nat
  | .lit (.string bytes) => bytes.length + 1
  | .lit _ => 1
  | .nil => 1
  | .ptr d => uptoBulk d + 1
  | .slice elems spare => uptoBulkAll elems + uptoBulkAll spare + 1
  | .agg parts => uptoBulkAll parts + 1
  | .iface _ d => uptoBulk d + 1
  | .map entries => uptoBulkEntries entries + 1
  | .held _ => 1
def uptoBulkAll {H : Type} : List (DataW H) → Nat
  | [] => 0
  | d :: r => uptoBulk d + uptoBulkAll r
def uptoBulkEntries {H : Type} : List (Lit × DataW H) → Nat
  | [] => 0
  | x :: r => uptoBulkEntry x + uptoBulkEntries r
def uptoBulkEntry {H : Type} : Lit × DataW H → Nat
  | (.string bytes, d) => bytes.length + uptoBulk d + 1
  | (_, d) => uptoBulk d + 1
 end
def uptoSmall : (H : Type) → List (DataW H) → Bool := fun _ ds => decide (uptoBulkAll ds ≤ 1048576)
def OpenSpec.upto (s : _root_.Go.ChangeSpec) : _root_.Go.OpenSpec := { _root_.Go.OpenSpec.ofChange s with cond := some uptoSmall }

/-- 'laws.FnExactAllSubuniverses', WHERE WHAT IT READS IS OF BULK AT MOST 1048576: true; the input reads as it did. -/
def fnExactAllSubuniversesUptoRow : OpenClaim := { program := "ytbpbbmfgkejgaaa", sum := "6cbf62d821c2d23bc0e364d501e349d9133a78d19161d8345d5224fc52b98f70", func := "loop.example/g01078/laws.FnExactAllSubuniverses", spec := "fnExactAllSubuniverses", unfollowed := true, recurses := true, apart := false, narrowed := true }
def FnExactAllSubuniversesUptoSaid : Prop := fnExactAllSubuniversesUptoRow.holds Try.pinned (OpenSpec.upto fnExactAllSubuniversesSpec)

/-- 'laws.FnExactMinimalSubs', WHERE WHAT IT READS IS OF BULK AT MOST 1048576: true; the input reads as it did. -/
def fnExactMinimalSubsUptoRow : OpenClaim := { program := "ytbpbbmfgkejgaaa", sum := "6cbf62d821c2d23bc0e364d501e349d9133a78d19161d8345d5224fc52b98f70", func := "loop.example/g01078/laws.FnExactMinimalSubs", spec := "fnExactMinimalSubs", unfollowed := true, recurses := true, apart := false, narrowed := true }
def FnExactMinimalSubsUptoSaid : Prop := fnExactMinimalSubsUptoRow.holds Try.pinned (OpenSpec.upto fnExactMinimalSubsSpec)

/-- 'laws.FnExactMaximalSubs', WHERE WHAT IT READS IS OF BULK AT MOST 1048576: true; the input reads as it did. -/
def fnExactMaximalSubsUptoRow : OpenClaim := { program := "ytbpbbmfgkejgaaa", sum := "6cbf62d821c2d23bc0e364d501e349d9133a78d19161d8345d5224fc52b98f70", func := "loop.example/g01078/laws.FnExactMaximalSubs", spec := "fnExactMaximalSubs", unfollowed := true, recurses := true, apart := false, narrowed := true }
def FnExactMaximalSubsUptoSaid : Prop := fnExactMaximalSubsUptoRow.holds Try.pinned (OpenSpec.upto fnExactMaximalSubsSpec)

/-- 'laws.FnExactSubsThrough', WHERE WHAT IT READS IS OF BULK AT MOST 1048576: true; the input reads as it did. -/
def fnExactSubsThroughUptoRow : OpenClaim := { program := "ytbpbbmfgkejgaaa", sum := "6cbf62d821c2d23bc0e364d501e349d9133a78d19161d8345d5224fc52b98f70", func := "loop.example/g01078/laws.FnExactSubsThrough", spec := "fnExactSubsThrough", unfollowed := true, recurses := true, apart := false, narrowed := true }
def FnExactSubsThroughUptoSaid : Prop := fnExactSubsThroughUptoRow.holds Try.pinned (OpenSpec.upto fnExactSubsThroughSpec)

/-- 'laws.FnExactLeastGenerators', WHERE WHAT IT READS IS OF BULK AT MOST 1048576: true; the input reads as it did. -/
def fnExactLeastGeneratorsUptoRow : OpenClaim := { program := "ytbpbbmfgkejgaaa", sum := "6cbf62d821c2d23bc0e364d501e349d9133a78d19161d8345d5224fc52b98f70", func := "loop.example/g01078/laws.FnExactLeastGenerators", spec := "fnExactLeastGenerators", unfollowed := true, recurses := true, apart := false, narrowed := true }
def FnExactLeastGeneratorsUptoSaid : Prop := fnExactLeastGeneratorsUptoRow.holds Try.pinned (OpenSpec.upto fnExactLeastGeneratorsSpec)

/-- 'laws.FnExactNonGenerators', WHERE WHAT IT READS IS OF BULK AT MOST 1048576: true; the input reads as it did. -/
def fnExactNonGeneratorsUptoRow : OpenClaim := { program := "ytbpbbmfgkejgaaa", sum := "6cbf62d821c2d23bc0e364d501e349d9133a78d19161d8345d5224fc52b98f70", func := "loop.example/g01078/laws.FnExactNonGenerators", spec := "fnExactNonGenerators", unfollowed := true, recurses := true, apart := false, narrowed := true }
def FnExactNonGeneratorsUptoSaid : Prop := fnExactNonGeneratorsUptoRow.holds Try.pinned (OpenSpec.upto fnExactNonGeneratorsSpec)

end Rows
end Go.Proofs.Ytbpbbmfgkejgaaa
