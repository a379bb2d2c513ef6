/-
  No cell of these rows narrows 'for every input' (looked for: loops, veiled, ifaces, maps, wideKeys, modest, calm, conditions, laid).
  DERIVED. THE GIVEN ROWS OF THIS SEAT. 12 by the template 'for every input the law returns true; each argument reads behind the call as it read before'; 0 by the template 'total and deterministic' (their statements: YtcmjkfcgekmomaaTotals.lean).
  GIVEN WITH THE SEED: the statements are not yours to turn. If you find one false, say at which input.
  Laid BY PROGRAM, IN A SANDBOX (cutbox-rows.mjs): the forced cells as the released guide's own fill.sh prints them over the translation aeb1140a247cb1b4… (all of the seat's roots in one cut). By AI agents, Wed Nov 11 2026. No macro, syntax, notation, axiom, sorry.
-/
import Derived.Test.YtcmjkfcgekmomaaChecked
import GoSem.Claim
import GoSem.ClaimJoined
import GoSem.ClaimMapViews
import Derived.JoinedTies
import Derived.KernelRfl
namespace Go.Proofs.Ytcmjkfcgekmomaa
/- THE CELL 'sum', in the pinned program and in every row, IS THE sha256 OF THE DUMP (.gsa) THAT YtcmjkfcgekmomaaProg.lean LOADS. Nothing in Lean hashes anything: it is a label: what it is worth is what the hold of that sum in a sandbox is worth. -/
noncomputable def Try.pinned : Pinned := { name := "ytcmjkfcgekmomaa", sum := "aeb1140a247cb1b4863368044671cf470142c3ec14bf5618d94629b52075d83d", checked := Try.checked }
namespace Rows
def none {H : Type} : Left H := { results := [], args := [] }

/-- 'laws.FnExactKernelOf': WHATEVER THE INPUT: true; the input reads as it did. -/
def fnExactKernelOfSpec : ChangeSpec := { name := "fnExactKernelOf", fn := fun _ => fun
  | [d1, d2, d3] => { results := [.lit (.bool true)], args := [d1, d2, d3] }
  | _ => none }
def fnExactKernelOfRow : OpenClaim := { program := "ytcmjkfcgekmomaa", sum := "aeb1140a247cb1b4863368044671cf470142c3ec14bf5618d94629b52075d83d", func := "loop.example/g01078/laws.FnExactKernelOf", spec := "fnExactKernelOf", apart := false }
def FnExactKernelOfSaid : Prop := fnExactKernelOfRow.holds Try.pinned (OpenSpec.ofChange fnExactKernelOfSpec)

/-- ITS FALSE NEIGHBOUR: 'it returns false'. Refute it at one input. -/
def fnExactKernelOfWrong : ChangeSpec := { name := "fnExactKernelOf", fn := fun _ => fun
  | [d1, d2, d3] => { results := [.lit (.bool false)], args := [d1, d2, d3] }
  | _ => none }
def FnExactKernelOfWrongFalsely : Prop := fnExactKernelOfRow.holds Try.pinned (OpenSpec.ofChange fnExactKernelOfWrong)

/-- 'laws.FnExactSubalgebraOf': WHATEVER THE INPUT: true; the input reads as it did. -/
def fnExactSubalgebraOfSpec : ChangeSpec := { name := "fnExactSubalgebraOf", fn := fun _ => fun
  | [d1, d2] => { results := [.lit (.bool true)], args := [d1, d2] }
  | _ => none }
def fnExactSubalgebraOfRow : OpenClaim := { program := "ytcmjkfcgekmomaa", sum := "aeb1140a247cb1b4863368044671cf470142c3ec14bf5618d94629b52075d83d", func := "loop.example/g01078/laws.FnExactSubalgebraOf", spec := "fnExactSubalgebraOf", unfollowed := true, recurses := true, apart := false }
def FnExactSubalgebraOfSaid : Prop := fnExactSubalgebraOfRow.holds Try.pinned (OpenSpec.ofChange fnExactSubalgebraOfSpec)

/-- ITS FALSE NEIGHBOUR: 'it returns false'. Refute it at one input. -/
def fnExactSubalgebraOfWrong : ChangeSpec := { name := "fnExactSubalgebraOf", fn := fun _ => fun
  | [d1, d2] => { results := [.lit (.bool false)], args := [d1, d2] }
  | _ => none }
def FnExactSubalgebraOfWrongFalsely : Prop := fnExactSubalgebraOfRow.holds Try.pinned (OpenSpec.ofChange fnExactSubalgebraOfWrong)

/-- 'laws.FnExactPartitionOfMap': WHATEVER THE INPUT: true; the input reads as it did. -/
def fnExactPartitionOfMapSpec : ChangeSpec := { name := "fnExactPartitionOfMap", fn := fun _ => fun
  | [d1, d2] => { results := [.lit (.bool true)], args := [d1, d2] }
  | _ => none }
def fnExactPartitionOfMapRow : OpenClaim := { program := "ytcmjkfcgekmomaa", sum := "aeb1140a247cb1b4863368044671cf470142c3ec14bf5618d94629b52075d83d", func := "loop.example/g01078/laws.FnExactPartitionOfMap", spec := "fnExactPartitionOfMap", apart := false }
def FnExactPartitionOfMapSaid : Prop := fnExactPartitionOfMapRow.holds Try.pinned (OpenSpec.ofChange fnExactPartitionOfMapSpec)

/-- ITS FALSE NEIGHBOUR: 'it returns false'. Refute it at one input. -/
def fnExactPartitionOfMapWrong : ChangeSpec := { name := "fnExactPartitionOfMap", fn := fun _ => fun
  | [d1, d2] => { results := [.lit (.bool false)], args := [d1, d2] }
  | _ => none }
def FnExactPartitionOfMapWrongFalsely : Prop := fnExactPartitionOfMapRow.holds Try.pinned (OpenSpec.ofChange fnExactPartitionOfMapWrong)

/-- 'laws.FnExactIsCongruence': WHATEVER THE INPUT: true; the input reads as it did. -/
def fnExactIsCongruenceSpec : ChangeSpec := { name := "fnExactIsCongruence", fn := fun _ => fun
  | [d1, d2] => { results := [.lit (.bool true)], args := [d1, d2] }
  | _ => none }
def fnExactIsCongruenceRow : OpenClaim := { program := "ytcmjkfcgekmomaa", sum := "aeb1140a247cb1b4863368044671cf470142c3ec14bf5618d94629b52075d83d", func := "loop.example/g01078/laws.FnExactIsCongruence", spec := "fnExactIsCongruence", unfollowed := true, recurses := true, apart := false }
def FnExactIsCongruenceSaid : Prop := fnExactIsCongruenceRow.holds Try.pinned (OpenSpec.ofChange fnExactIsCongruenceSpec)

/-- ITS FALSE NEIGHBOUR: 'it returns false'. Refute it at one input. -/
def fnExactIsCongruenceWrong : ChangeSpec := { name := "fnExactIsCongruence", fn := fun _ => fun
  | [d1, d2] => { results := [.lit (.bool false)], args := [d1, d2] }
  | _ => none }
def FnExactIsCongruenceWrongFalsely : Prop := fnExactIsCongruenceRow.holds Try.pinned (OpenSpec.ofChange fnExactIsCongruenceWrong)

/-- 'laws.FnExactNaturalMap': WHATEVER THE INPUT: true; the input reads as it did. -/
def fnExactNaturalMapSpec : ChangeSpec := { name := "fnExactNaturalMap", fn := fun _ => fun
  | [d1, d2] => { results := [.lit (.bool true)], args := [d1, d2] }
  | _ => none }
def fnExactNaturalMapRow : OpenClaim := { program := "ytcmjkfcgekmomaa", sum := "aeb1140a247cb1b4863368044671cf470142c3ec14bf5618d94629b52075d83d", func := "loop.example/g01078/laws.FnExactNaturalMap", spec := "fnExactNaturalMap", unfollowed := true, recurses := true, apart := false }
def FnExactNaturalMapSaid : Prop := fnExactNaturalMapRow.holds Try.pinned (OpenSpec.ofChange fnExactNaturalMapSpec)

/-- ITS FALSE NEIGHBOUR: 'it returns false'. Refute it at one input. -/
def fnExactNaturalMapWrong : ChangeSpec := { name := "fnExactNaturalMap", fn := fun _ => fun
  | [d1, d2] => { results := [.lit (.bool false)], args := [d1, d2] }
  | _ => none }
def FnExactNaturalMapWrongFalsely : Prop := fnExactNaturalMapRow.holds Try.pinned (OpenSpec.ofChange fnExactNaturalMapWrong)

/-- 'laws.FnExactQuotientAlgebra': WHATEVER THE INPUT: true; the input reads as it did. -/
def fnExactQuotientAlgebraSpec : ChangeSpec := { name := "fnExactQuotientAlgebra", fn := fun _ => fun
  | [d1, d2] => { results := [.lit (.bool true)], args := [d1, d2] }
  | _ => none }
def fnExactQuotientAlgebraRow : OpenClaim := { program := "ytcmjkfcgekmomaa", sum := "aeb1140a247cb1b4863368044671cf470142c3ec14bf5618d94629b52075d83d", func := "loop.example/g01078/laws.FnExactQuotientAlgebra", spec := "fnExactQuotientAlgebra", unfollowed := true, recurses := true, apart := false }
def FnExactQuotientAlgebraSaid : Prop := fnExactQuotientAlgebraRow.holds Try.pinned (OpenSpec.ofChange fnExactQuotientAlgebraSpec)

/-- ITS FALSE NEIGHBOUR: 'it returns false'. Refute it at one input. -/
def fnExactQuotientAlgebraWrong : ChangeSpec := { name := "fnExactQuotientAlgebra", fn := fun _ => fun
  | [d1, d2] => { results := [.lit (.bool false)], args := [d1, d2] }
  | _ => none }
def FnExactQuotientAlgebraWrongFalsely : Prop := fnExactQuotientAlgebraRow.holds Try.pinned (OpenSpec.ofChange fnExactQuotientAlgebraWrong)

/-- 'laws.FnExactCoarserMap': WHATEVER THE INPUT: true; the input reads as it did. -/
def fnExactCoarserMapSpec : ChangeSpec := { name := "fnExactCoarserMap", fn := fun _ => fun
  | [d1, d2, d3] => { results := [.lit (.bool true)], args := [d1, d2, d3] }
  | _ => none }
def fnExactCoarserMapRow : OpenClaim := { program := "ytcmjkfcgekmomaa", sum := "aeb1140a247cb1b4863368044671cf470142c3ec14bf5618d94629b52075d83d", func := "loop.example/g01078/laws.FnExactCoarserMap", spec := "fnExactCoarserMap", unfollowed := true, recurses := true, apart := false }
def FnExactCoarserMapSaid : Prop := fnExactCoarserMapRow.holds Try.pinned (OpenSpec.ofChange fnExactCoarserMapSpec)

/-- ITS FALSE NEIGHBOUR: 'it returns false'. Refute it at one input. -/
def fnExactCoarserMapWrong : ChangeSpec := { name := "fnExactCoarserMap", fn := fun _ => fun
  | [d1, d2, d3] => { results := [.lit (.bool false)], args := [d1, d2, d3] }
  | _ => none }
def FnExactCoarserMapWrongFalsely : Prop := fnExactCoarserMapRow.holds Try.pinned (OpenSpec.ofChange fnExactCoarserMapWrong)

/-- 'laws.FnExactRestrictCongruence': WHATEVER THE INPUT: true; the input reads as it did. -/
def fnExactRestrictCongruenceSpec : ChangeSpec := { name := "fnExactRestrictCongruence", fn := fun _ => fun
  | [d1, d2, d3] => { results := [.lit (.bool true)], args := [d1, d2, d3] }
  | _ => none }
def fnExactRestrictCongruenceRow : OpenClaim := { program := "ytcmjkfcgekmomaa", sum := "aeb1140a247cb1b4863368044671cf470142c3ec14bf5618d94629b52075d83d", func := "loop.example/g01078/laws.FnExactRestrictCongruence", spec := "fnExactRestrictCongruence", unfollowed := true, recurses := true, apart := false }
def FnExactRestrictCongruenceSaid : Prop := fnExactRestrictCongruenceRow.holds Try.pinned (OpenSpec.ofChange fnExactRestrictCongruenceSpec)

/-- ITS FALSE NEIGHBOUR: 'it returns false'. Refute it at one input. -/
def fnExactRestrictCongruenceWrong : ChangeSpec := { name := "fnExactRestrictCongruence", fn := fun _ => fun
  | [d1, d2, d3] => { results := [.lit (.bool false)], args := [d1, d2, d3] }
  | _ => none }
def FnExactRestrictCongruenceWrongFalsely : Prop := fnExactRestrictCongruenceRow.holds Try.pinned (OpenSpec.ofChange fnExactRestrictCongruenceWrong)

/-- 'laws.FnExactSaturateSub': WHATEVER THE INPUT: true; the input reads as it did. -/
def fnExactSaturateSubSpec : ChangeSpec := { name := "fnExactSaturateSub", fn := fun _ => fun
  | [d1, d2, d3] => { results := [.lit (.bool true)], args := [d1, d2, d3] }
  | _ => none }
def fnExactSaturateSubRow : OpenClaim := { program := "ytcmjkfcgekmomaa", sum := "aeb1140a247cb1b4863368044671cf470142c3ec14bf5618d94629b52075d83d", func := "loop.example/g01078/laws.FnExactSaturateSub", spec := "fnExactSaturateSub", unfollowed := true, recurses := true, apart := false }
def FnExactSaturateSubSaid : Prop := fnExactSaturateSubRow.holds Try.pinned (OpenSpec.ofChange fnExactSaturateSubSpec)

/-- ITS FALSE NEIGHBOUR: 'it returns false'. Refute it at one input. -/
def fnExactSaturateSubWrong : ChangeSpec := { name := "fnExactSaturateSub", fn := fun _ => fun
  | [d1, d2, d3] => { results := [.lit (.bool false)], args := [d1, d2, d3] }
  | _ => none }
def FnExactSaturateSubWrongFalsely : Prop := fnExactSaturateSubRow.holds Try.pinned (OpenSpec.ofChange fnExactSaturateSubWrong)

/-- 'laws.FnExactImageSub': WHATEVER THE INPUT: true; the input reads as it did. -/
def fnExactImageSubSpec : ChangeSpec := { name := "fnExactImageSub", fn := fun _ => fun
  | [d1, d2, d3] => { results := [.lit (.bool true)], args := [d1, d2, d3] }
  | _ => none }
def fnExactImageSubRow : OpenClaim := { program := "ytcmjkfcgekmomaa", sum := "aeb1140a247cb1b4863368044671cf470142c3ec14bf5618d94629b52075d83d", func := "loop.example/g01078/laws.FnExactImageSub", spec := "fnExactImageSub", unfollowed := true, recurses := true, apart := false }
def FnExactImageSubSaid : Prop := fnExactImageSubRow.holds Try.pinned (OpenSpec.ofChange fnExactImageSubSpec)

/-- ITS FALSE NEIGHBOUR: 'it returns false'. Refute it at one input. -/
def fnExactImageSubWrong : ChangeSpec := { name := "fnExactImageSub", fn := fun _ => fun
  | [d1, d2, d3] => { results := [.lit (.bool false)], args := [d1, d2, d3] }
  | _ => none }
def FnExactImageSubWrongFalsely : Prop := fnExactImageSubRow.holds Try.pinned (OpenSpec.ofChange fnExactImageSubWrong)

/-- 'laws.FnExactPushCongruence': WHATEVER THE INPUT: true; the input reads as it did. -/
def fnExactPushCongruenceSpec : ChangeSpec := { name := "fnExactPushCongruence", fn := fun _ => fun
  | [d1, d2, d3] => { results := [.lit (.bool true)], args := [d1, d2, d3] }
  | _ => none }
def fnExactPushCongruenceRow : OpenClaim := { program := "ytcmjkfcgekmomaa", sum := "aeb1140a247cb1b4863368044671cf470142c3ec14bf5618d94629b52075d83d", func := "loop.example/g01078/laws.FnExactPushCongruence", spec := "fnExactPushCongruence", unfollowed := true, recurses := true, apart := false }
def FnExactPushCongruenceSaid : Prop := fnExactPushCongruenceRow.holds Try.pinned (OpenSpec.ofChange fnExactPushCongruenceSpec)

/-- ITS FALSE NEIGHBOUR: 'it returns false'. Refute it at one input. -/
def fnExactPushCongruenceWrong : ChangeSpec := { name := "fnExactPushCongruence", fn := fun _ => fun
  | [d1, d2, d3] => { results := [.lit (.bool false)], args := [d1, d2, d3] }
  | _ => none }
def FnExactPushCongruenceWrongFalsely : Prop := fnExactPushCongruenceRow.holds Try.pinned (OpenSpec.ofChange fnExactPushCongruenceWrong)

/-- 'laws.FnExactLiftCongruence': WHATEVER THE INPUT: true; the input reads as it did. -/
def fnExactLiftCongruenceSpec : ChangeSpec := { name := "fnExactLiftCongruence", fn := fun _ => fun
  | [d1, d2, d3] => { results := [.lit (.bool true)], args := [d1, d2, d3] }
  | _ => none }
def fnExactLiftCongruenceRow : OpenClaim := { program := "ytcmjkfcgekmomaa", sum := "aeb1140a247cb1b4863368044671cf470142c3ec14bf5618d94629b52075d83d", func := "loop.example/g01078/laws.FnExactLiftCongruence", spec := "fnExactLiftCongruence", unfollowed := true, recurses := true, apart := false }
def FnExactLiftCongruenceSaid : Prop := fnExactLiftCongruenceRow.holds Try.pinned (OpenSpec.ofChange fnExactLiftCongruenceSpec)

/-- ITS FALSE NEIGHBOUR: 'it returns false'. Refute it at one input. -/
def fnExactLiftCongruenceWrong : ChangeSpec := { name := "fnExactLiftCongruence", fn := fun _ => fun
  | [d1, d2, d3] => { results := [.lit (.bool false)], args := [d1, d2, d3] }
  | _ => none }
def FnExactLiftCongruenceWrongFalsely : Prop := fnExactLiftCongruenceRow.holds Try.pinned (OpenSpec.ofChange fnExactLiftCongruenceWrong)

/- THE SECOND FORM. 'bulk': how many values and letters a reading holds, each counted each time it is reached (what is shared counts as often as it is met; a slice's spare places count too). A statement '..UptoSaid' is the law's where the arguments, and the package variables that the reading takes, are together of bulk at most 1048576: NARROWER than '..Said'. Prove '..Said' where nothing that the law and all that it calls make is longer than what came in: it says more and counts as full. Else prove '..UptoSaid'. A law counts once. -/
mutual
def uptoBulk {H : Type} : DataW H → Nat
  | .lit (.string bytes) => bytes.length + 1
  | .lit _ => 1
  | .nil => 1
  | .ptr d => uptoBulk d + 1
  | .slice elems spare => uptoBulkAll elems + uptoBulkAll spare + 1
  | .agg parts => uptoBulkAll parts + 1
  | .iface _ d => uptoBulk d + 1
  | .map entries => uptoBulkEntries entries + 1
  | .held _ => 1
def uptoBulkAll {H : Type} : List (DataW H) → Nat
  | [] => 0
  | d :: r => uptoBulk d + uptoBulkAll r
def uptoBulkEntries {H : Type} : List (Lit × DataW H) → Nat
  | [] => 0
  | x :: r => uptoBulkEntry x + uptoBulkEntries r
def uptoBulkEntry {H : Type} : Lit × DataW H → Nat
  | (.string bytes, d) => bytes.length + uptoBulk d + 1
  | (_, d) => uptoBulk d + 1
 end
def uptoSmall : (H : Type) → List (DataW H) → Bool := fun _ ds => decide (uptoBulkAll ds ≤ 1048576)
def OpenSpec.upto (s : _root_.Go.ChangeSpec) : _root_.Go.OpenSpec := { _root_.Go.OpenSpec.ofChange s with cond := some uptoSmall }

/-- 'laws.FnExactKernelOf', WHERE WHAT IT READS IS OF BULK AT MOST 1048576: true; the input reads as it did. -/
def fnExactKernelOfUptoRow : OpenClaim := { program := "ytcmjkfcgekmomaa", sum := "aeb1140a247cb1b4863368044671cf470142c3ec14bf5618d94629b52075d83d", func := "loop.example/g01078/laws.FnExactKernelOf", spec := "fnExactKernelOf", apart := false, narrowed := true }
def FnExactKernelOfUptoSaid : Prop := fnExactKernelOfUptoRow.holds Try.pinned (OpenSpec.upto fnExactKernelOfSpec)

/-- 'laws.FnExactSubalgebraOf', WHERE WHAT IT READS IS OF BULK AT MOST 1048576: true; the input reads as it did. -/
def fnExactSubalgebraOfUptoRow : OpenClaim := { program := "ytcmjkfcgekmomaa", sum := "aeb1140a247cb1b4863368044671cf470142c3ec14bf5618d94629b52075d83d", func := "loop.example/g01078/laws.FnExactSubalgebraOf", spec := "fnExactSubalgebraOf", unfollowed := true, recurses := true, apart := false, narrowed := true }
def FnExactSubalgebraOfUptoSaid : Prop := fnExactSubalgebraOfUptoRow.holds Try.pinned (OpenSpec.upto fnExactSubalgebraOfSpec)

/-- 'laws.FnExactPartitionOfMap', WHERE WHAT IT READS IS OF BULK AT MOST 1048576: true; the input reads as it did. -/
def fnExactPartitionOfMapUptoRow : OpenClaim := { program := "ytcmjkfcgekmomaa", sum := "aeb1140a247cb1b4863368044671cf470142c3ec14bf5618d94629b52075d83d", func := "loop.example/g01078/laws.FnExactPartitionOfMap", spec := "fnExactPartitionOfMap", apart := false, narrowed := true }
def FnExactPartitionOfMapUptoSaid : Prop := fnExactPartitionOfMapUptoRow.holds Try.pinned (OpenSpec.upto fnExactPartitionOfMapSpec)

/-- 'laws.FnExactIsCongruence', WHERE WHAT IT READS IS OF BULK AT MOST 1048576: true; the input reads as it did. -/
def fnExactIsCongruenceUptoRow : OpenClaim := { program := "ytcmjkfcgekmomaa", sum := "aeb1140a247cb1b4863368044671cf470142c3ec14bf5618d94629b52075d83d", func := "loop.example/g01078/laws.FnExactIsCongruence", spec := "fnExactIsCongruence", unfollowed := true, recurses := true, apart := false, narrowed := true }
def FnExactIsCongruenceUptoSaid : Prop := fnExactIsCongruenceUptoRow.holds Try.pinned (OpenSpec.upto fnExactIsCongruenceSpec)

/-- 'laws.FnExactNaturalMap', WHERE WHAT IT READS IS OF BULK AT MOST 1048576: true; the input reads as it did. -/
def fnExactNaturalMapUptoRow : OpenClaim := { program := "ytcmjkfcgekmomaa", sum := "aeb1140a247cb1b4863368044671cf470142c3ec14bf5618d94629b52075d83d", func := "loop.example/g01078/laws.FnExactNaturalMap", spec := "fnExactNaturalMap", unfollowed := true, recurses := true, apart := false, narrowed := true }
def FnExactNaturalMapUptoSaid : Prop := fnExactNaturalMapUptoRow.holds Try.pinned (OpenSpec.upto fnExactNaturalMapSpec)

/-- 'laws.FnExactQuotientAlgebra', WHERE WHAT IT READS IS OF BULK AT MOST 1048576: true; the input reads as it did. -/
def fnExactQuotientAlgebraUptoRow : OpenClaim := { program := "ytcmjkfcgekmomaa", sum := "aeb1140a247cb1b4863368044671cf470142c3ec14bf5618d94629b52075d83d", func := "loop.example/g01078/laws.FnExactQuotientAlgebra", spec := "fnExactQuotientAlgebra", unfollowed := true, recurses := true, apart := false, narrowed := true }
def FnExactQuotientAlgebraUptoSaid : Prop := fnExactQuotientAlgebraUptoRow.holds Try.pinned (OpenSpec.upto fnExactQuotientAlgebraSpec)

/-- 'laws.FnExactCoarserMap', WHERE WHAT IT READS IS OF BULK AT MOST 1048576: true; the input reads as it did. -/
def fnExactCoarserMapUptoRow : OpenClaim := { program := "ytcmjkfcgekmomaa", sum := "aeb1140a247cb1b4863368044671cf470142c3ec14bf5618d94629b52075d83d", func := "loop.example/g01078/laws.FnExactCoarserMap", spec := "fnExactCoarserMap", unfollowed := true, recurses := true, apart := false, narrowed := true }
def FnExactCoarserMapUptoSaid : Prop := fnExactCoarserMapUptoRow.holds Try.pinned (OpenSpec.upto fnExactCoarserMapSpec)

/-- 'laws.FnExactRestrictCongruence', WHERE WHAT IT READS IS OF BULK AT MOST 1048576: true; the input reads as it did. -/
def fnExactRestrictCongruenceUptoRow : OpenClaim := { program := "ytcmjkfcgekmomaa", sum := "aeb1140a247cb1b4863368044671cf470142c3ec14bf5618d94629b52075d83d", func := "loop.example/g01078/laws.FnExactRestrictCongruence", spec := "fnExactRestrictCongruence", unfollowed := true, recurses := true, apart := false, narrowed := true }
def FnExactRestrictCongruenceUptoSaid : Prop := fnExactRestrictCongruenceUptoRow.holds Try.pinned (OpenSpec.upto fnExactRestrictCongruenceSpec)

/-- 'laws.FnExactSaturateSub', WHERE WHAT IT READS IS OF BULK AT MOST 1048576: true; the input reads as it did. -/
def fnExactSaturateSubUptoRow : OpenClaim := { program := "ytcmjkfcgekmomaa", sum := "aeb1140a247cb1b4863368044671cf470142c3ec14bf5618d94629b52075d83d", func := "loop.example/g01078/laws.FnExactSaturateSub", spec := "fnExactSaturateSub", unfollowed := true, recurses := true, apart := false, narrowed := true }
def FnExactSaturateSubUptoSaid : Prop := fnExactSaturateSubUptoRow.holds Try.pinned (OpenSpec.upto fnExactSaturateSubSpec)

/-- 'laws.FnExactImageSub', WHERE WHAT IT READS IS OF BULK AT MOST 1048576: true; the input reads as it did. -/
def fnExactImageSubUptoRow : OpenClaim := { program := "ytcmjkfcgekmomaa", sum := "aeb1140a247cb1b4863368044671cf470142c3ec14bf5618d94629b52075d83d", func := "loop.example/g01078/laws.FnExactImageSub", spec := "fnExactImageSub", unfollowed := true, recurses := true, apart := false, narrowed := true }
def FnExactImageSubUptoSaid : Prop := fnExactImageSubUptoRow.holds Try.pinned (OpenSpec.upto fnExactImageSubSpec)

/-- 'laws.FnExactPushCongruence', WHERE WHAT IT READS IS OF BULK AT MOST 1048576: true; the input reads as it did. -/
def fnExactPushCongruenceUptoRow : OpenClaim := { program := "ytcmjkfcgekmomaa", sum := "aeb1140a247cb1b4863368044671cf470142c3ec14bf5618d94629b52075d83d", func := "loop.example/g01078/laws.FnExactPushCongruence", spec := "fnExactPushCongruence", unfollowed := true, recurses := true, apart := false, narrowed := true }
def FnExactPushCongruenceUptoSaid : Prop := fnExactPushCongruenceUptoRow.holds Try.pinned (OpenSpec.upto fnExactPushCongruenceSpec)

/-- 'laws.FnExactLiftCongruence', WHERE WHAT IT READS IS OF BULK AT MOST 1048576: true; the input reads as it did. -/
def fnExactLiftCongruenceUptoRow : OpenClaim := { program := "ytcmjkfcgekmomaa", sum := "aeb1140a247cb1b4863368044671cf470142c3ec14bf5618d94629b52075d83d", func := "loop.example/g01078/laws.FnExactLiftCongruence", spec := "fnExactLiftCongruence", unfollowed := true, recurses := true, apart := false, narrowed := true }
def FnExactLiftCongruenceUptoSaid : Prop := fnExactLiftCongruenceUptoRow.holds Try.pinned (OpenSpec.upto fnExactLiftCongruenceSpec)

end Rows
end Go.Proofs.Ytcmjkfcgekmomaa
