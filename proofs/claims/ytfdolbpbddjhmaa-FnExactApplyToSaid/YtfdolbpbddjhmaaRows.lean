/-
  No cell of these rows narrows 'for every input' (looked for: loops, veiled, ifaces, maps, wideKeys, modest, calm, conditions, laid).
  DERIVED. THE GIVEN ROWS OF THIS SEAT. 12 by the template 'for every input the law returns true; each argument reads behind the call as it read before'; 0 by the template 'total and deterministic' (their statements: YtfdolbpbddjhmaaTotals.lean).
  GIVEN WITH THE SEED: the statements are not yours to turn. If you find one false, say at which input.
  Laid BY PROGRAM, IN A SANDBOX (cutbox-rows.mjs): the forced cells as the released guide's own fill.sh prints them over the translation b751593df8596f47… (all of the seat's roots in one cut). By AI agents, Wed Nov 11 2026. No macro, syntax, notation, axiom, sorry.
-/
import Derived.Test.YtfdolbpbddjhmaaChecked
import GoSem.Claim
import GoSem.ClaimJoined
import GoSem.ClaimMapViews
import Derived.JoinedTies
import Derived.KernelRfl
namespace Go.Proofs.Ytfdolbpbddjhmaa
/- THE CELL 'sum', in the pinned program and in every row, IS THE sha256 OF THE DUMP (.gsa) THAT YtfdolbpbddjhmaaProg.lean LOADS. Nothing in Lean hashes anything: it is a label: what it is worth is what the hold of that sum in a sandbox is worth. -/
noncomputable def Try.pinned : Pinned := { name := "ytfdolbpbddjhmaa", sum := "b751593df8596f47ab6ff3a9876af9561430e637c4110b1d43ec4ed5b80701f8", checked := Try.checked }
namespace Rows
def none {H : Type} : Left H := { results := [], args := [] }

/-- 'laws.FnExactProductOf': WHATEVER THE INPUT: true; the input reads as it did. -/
def fnExactProductOfSpec : ChangeSpec := { name := "fnExactProductOf", fn := fun _ => fun
  | [d1, d2] => { results := [.lit (.bool true)], args := [d1, d2] }
  | _ => none }
def fnExactProductOfRow : OpenClaim := { program := "ytfdolbpbddjhmaa", sum := "b751593df8596f47ab6ff3a9876af9561430e637c4110b1d43ec4ed5b80701f8", func := "loop.example/g01078/laws.FnExactProductOf", spec := "fnExactProductOf", plainKeys := false, apart := false }
def FnExactProductOfSaid : Prop := fnExactProductOfRow.holds Try.pinned (OpenSpec.ofChange fnExactProductOfSpec)

/-- ITS FALSE NEIGHBOUR: 'it returns false'. Refute it at one input. -/
def fnExactProductOfWrong : ChangeSpec := { name := "fnExactProductOf", fn := fun _ => fun
  | [d1, d2] => { results := [.lit (.bool false)], args := [d1, d2] }
  | _ => none }
def FnExactProductOfWrongFalsely : Prop := fnExactProductOfRow.holds Try.pinned (OpenSpec.ofChange fnExactProductOfWrong)

/-- 'laws.FnExactPowerOf': WHATEVER THE INPUT: true; the input reads as it did. -/
def fnExactPowerOfSpec : ChangeSpec := { name := "fnExactPowerOf", fn := fun _ => fun
  | [d1, d2] => { results := [.lit (.bool true)], args := [d1, d2] }
  | _ => none }
def fnExactPowerOfRow : OpenClaim := { program := "ytfdolbpbddjhmaa", sum := "b751593df8596f47ab6ff3a9876af9561430e637c4110b1d43ec4ed5b80701f8", func := "loop.example/g01078/laws.FnExactPowerOf", spec := "fnExactPowerOf", plainKeys := false, apart := false }
def FnExactPowerOfSaid : Prop := fnExactPowerOfRow.holds Try.pinned (OpenSpec.ofChange fnExactPowerOfSpec)

/-- ITS FALSE NEIGHBOUR: 'it returns false'. Refute it at one input. -/
def fnExactPowerOfWrong : ChangeSpec := { name := "fnExactPowerOf", fn := fun _ => fun
  | [d1, d2] => { results := [.lit (.bool false)], args := [d1, d2] }
  | _ => none }
def FnExactPowerOfWrongFalsely : Prop := fnExactPowerOfRow.holds Try.pinned (OpenSpec.ofChange fnExactPowerOfWrong)

/-- 'laws.FnExactFactorOfProduct': WHATEVER THE INPUT: true; the input reads as it did. -/
def fnExactFactorOfProductSpec : ChangeSpec := { name := "fnExactFactorOfProduct", fn := fun _ => fun
  | [d1, d2, d3] => { results := [.lit (.bool true)], args := [d1, d2, d3] }
  | _ => none }
def fnExactFactorOfProductRow : OpenClaim := { program := "ytfdolbpbddjhmaa", sum := "b751593df8596f47ab6ff3a9876af9561430e637c4110b1d43ec4ed5b80701f8", func := "loop.example/g01078/laws.FnExactFactorOfProduct", spec := "fnExactFactorOfProduct", plainKeys := false, apart := false }
def FnExactFactorOfProductSaid : Prop := fnExactFactorOfProductRow.holds Try.pinned (OpenSpec.ofChange fnExactFactorOfProductSpec)

/-- ITS FALSE NEIGHBOUR: 'it returns false'. Refute it at one input. -/
def fnExactFactorOfProductWrong : ChangeSpec := { name := "fnExactFactorOfProduct", fn := fun _ => fun
  | [d1, d2, d3] => { results := [.lit (.bool false)], args := [d1, d2, d3] }
  | _ => none }
def FnExactFactorOfProductWrongFalsely : Prop := fnExactFactorOfProductRow.holds Try.pinned (OpenSpec.ofChange fnExactFactorOfProductWrong)

/-- 'laws.FnExactMostTuples': WHATEVER THE INPUT: true; the input reads as it did. -/
def fnExactMostTuplesSpec : ChangeSpec := { name := "fnExactMostTuples", fn := fun _ => fun
  | [d] => { results := [.lit (.bool true)], args := [d] }
  | _ => none }
def fnExactMostTuplesRow : OpenClaim := { program := "ytfdolbpbddjhmaa", sum := "b751593df8596f47ab6ff3a9876af9561430e637c4110b1d43ec4ed5b80701f8", func := "loop.example/g01078/laws.FnExactMostTuples", spec := "fnExactMostTuples", plainKeys := false, apart := false }
def FnExactMostTuplesSaid : Prop := fnExactMostTuplesRow.holds Try.pinned (OpenSpec.ofChange fnExactMostTuplesSpec)

/-- ITS FALSE NEIGHBOUR: 'it returns false'. Refute it at one input. -/
def fnExactMostTuplesWrong : ChangeSpec := { name := "fnExactMostTuples", fn := fun _ => fun
  | [d] => { results := [.lit (.bool false)], args := [d] }
  | _ => none }
def FnExactMostTuplesWrongFalsely : Prop := fnExactMostTuplesRow.holds Try.pinned (OpenSpec.ofChange fnExactMostTuplesWrong)

/-- 'laws.FnExactDiagonal': WHATEVER THE INPUT: true; the input reads as it did. -/
def fnExactDiagonalSpec : ChangeSpec := { name := "fnExactDiagonal", fn := fun _ => fun
  | [d1, d2] => { results := [.lit (.bool true)], args := [d1, d2] }
  | _ => none }
def fnExactDiagonalRow : OpenClaim := { program := "ytfdolbpbddjhmaa", sum := "b751593df8596f47ab6ff3a9876af9561430e637c4110b1d43ec4ed5b80701f8", func := "loop.example/g01078/laws.FnExactDiagonal", spec := "fnExactDiagonal", plainKeys := false, apart := false }
def FnExactDiagonalSaid : Prop := fnExactDiagonalRow.holds Try.pinned (OpenSpec.ofChange fnExactDiagonalSpec)

/-- ITS FALSE NEIGHBOUR: 'it returns false'. Refute it at one input. -/
def fnExactDiagonalWrong : ChangeSpec := { name := "fnExactDiagonal", fn := fun _ => fun
  | [d1, d2] => { results := [.lit (.bool false)], args := [d1, d2] }
  | _ => none }
def FnExactDiagonalWrongFalsely : Prop := fnExactDiagonalRow.holds Try.pinned (OpenSpec.ofChange fnExactDiagonalWrong)

/-- 'laws.FnExactApplyTo': WHATEVER THE INPUT: true; the input reads as it did. -/
def fnExactApplyToSpec : ChangeSpec := { name := "fnExactApplyTo", fn := fun _ => fun
  | [d1, d2, d3] => { results := [.lit (.bool true)], args := [d1, d2, d3] }
  | _ => none }
def fnExactApplyToRow : OpenClaim := { program := "ytfdolbpbddjhmaa", sum := "b751593df8596f47ab6ff3a9876af9561430e637c4110b1d43ec4ed5b80701f8", func := "loop.example/g01078/laws.FnExactApplyTo", spec := "fnExactApplyTo", plainKeys := false, apart := false }
def FnExactApplyToSaid : Prop := fnExactApplyToRow.holds Try.pinned (OpenSpec.ofChange fnExactApplyToSpec)

/-- ITS FALSE NEIGHBOUR: 'it returns false'. Refute it at one input. -/
def fnExactApplyToWrong : ChangeSpec := { name := "fnExactApplyTo", fn := fun _ => fun
  | [d1, d2, d3] => { results := [.lit (.bool false)], args := [d1, d2, d3] }
  | _ => none }
def FnExactApplyToWrongFalsely : Prop := fnExactApplyToRow.holds Try.pinned (OpenSpec.ofChange fnExactApplyToWrong)

/-- 'laws.FnExactIsSubpower': WHATEVER THE INPUT: true; the input reads as it did. -/
def fnExactIsSubpowerSpec : ChangeSpec := { name := "fnExactIsSubpower", fn := fun _ => fun
  | [d1, d2, d3] => { results := [.lit (.bool true)], args := [d1, d2, d3] }
  | _ => none }
def fnExactIsSubpowerRow : OpenClaim := { program := "ytfdolbpbddjhmaa", sum := "b751593df8596f47ab6ff3a9876af9561430e637c4110b1d43ec4ed5b80701f8", func := "loop.example/g01078/laws.FnExactIsSubpower", spec := "fnExactIsSubpower", inPlace := ["internal/bytealg.Compare"], unfollowed := true, recurses := true, plainKeys := false, apart := false }
def FnExactIsSubpowerSaid : Prop := fnExactIsSubpowerRow.holds Try.pinned (OpenSpec.ofChange fnExactIsSubpowerSpec)

/-- ITS FALSE NEIGHBOUR: 'it returns false'. Refute it at one input. -/
def fnExactIsSubpowerWrong : ChangeSpec := { name := "fnExactIsSubpower", fn := fun _ => fun
  | [d1, d2, d3] => { results := [.lit (.bool false)], args := [d1, d2, d3] }
  | _ => none }
def FnExactIsSubpowerWrongFalsely : Prop := fnExactIsSubpowerRow.holds Try.pinned (OpenSpec.ofChange fnExactIsSubpowerWrong)

/-- 'laws.FnExactIsSubdirect': WHATEVER THE INPUT: true; the input reads as it did. -/
def fnExactIsSubdirectSpec : ChangeSpec := { name := "fnExactIsSubdirect", fn := fun _ => fun
  | [d1, d2, d3] => { results := [.lit (.bool true)], args := [d1, d2, d3] }
  | _ => none }
def fnExactIsSubdirectRow : OpenClaim := { program := "ytfdolbpbddjhmaa", sum := "b751593df8596f47ab6ff3a9876af9561430e637c4110b1d43ec4ed5b80701f8", func := "loop.example/g01078/laws.FnExactIsSubdirect", spec := "fnExactIsSubdirect", inPlace := ["internal/bytealg.Compare"], unfollowed := true, recurses := true, plainKeys := false, apart := false }
def FnExactIsSubdirectSaid : Prop := fnExactIsSubdirectRow.holds Try.pinned (OpenSpec.ofChange fnExactIsSubdirectSpec)

/-- ITS FALSE NEIGHBOUR: 'it returns false'. Refute it at one input. -/
def fnExactIsSubdirectWrong : ChangeSpec := { name := "fnExactIsSubdirect", fn := fun _ => fun
  | [d1, d2, d3] => { results := [.lit (.bool false)], args := [d1, d2, d3] }
  | _ => none }
def FnExactIsSubdirectWrongFalsely : Prop := fnExactIsSubdirectRow.holds Try.pinned (OpenSpec.ofChange fnExactIsSubdirectWrong)

/-- 'laws.FnExactAlgebraOfSubpower': WHATEVER THE INPUT: true; the input reads as it did. -/
def fnExactAlgebraOfSubpowerSpec : ChangeSpec := { name := "fnExactAlgebraOfSubpower", fn := fun _ => fun
  | [d1, d2, d3] => { results := [.lit (.bool true)], args := [d1, d2, d3] }
  | _ => none }
def fnExactAlgebraOfSubpowerRow : OpenClaim := { program := "ytfdolbpbddjhmaa", sum := "b751593df8596f47ab6ff3a9876af9561430e637c4110b1d43ec4ed5b80701f8", func := "loop.example/g01078/laws.FnExactAlgebraOfSubpower", spec := "fnExactAlgebraOfSubpower", inPlace := ["internal/bytealg.Compare"], unfollowed := true, recurses := true, plainKeys := false, apart := false }
def FnExactAlgebraOfSubpowerSaid : Prop := fnExactAlgebraOfSubpowerRow.holds Try.pinned (OpenSpec.ofChange fnExactAlgebraOfSubpowerSpec)

/-- ITS FALSE NEIGHBOUR: 'it returns false'. Refute it at one input. -/
def fnExactAlgebraOfSubpowerWrong : ChangeSpec := { name := "fnExactAlgebraOfSubpower", fn := fun _ => fun
  | [d1, d2, d3] => { results := [.lit (.bool false)], args := [d1, d2, d3] }
  | _ => none }
def FnExactAlgebraOfSubpowerWrongFalsely : Prop := fnExactAlgebraOfSubpowerRow.holds Try.pinned (OpenSpec.ofChange fnExactAlgebraOfSubpowerWrong)

/-- 'laws.FnExactAutomorphismOrbits': WHATEVER THE INPUT: true; the input reads as it did. -/
def fnExactAutomorphismOrbitsSpec : ChangeSpec := { name := "fnExactAutomorphismOrbits", fn := fun _ => fun
  | [d] => { results := [.lit (.bool true)], args := [d] }
  | _ => none }
def fnExactAutomorphismOrbitsRow : OpenClaim := { program := "ytfdolbpbddjhmaa", sum := "b751593df8596f47ab6ff3a9876af9561430e637c4110b1d43ec4ed5b80701f8", func := "loop.example/g01078/laws.FnExactAutomorphismOrbits", spec := "fnExactAutomorphismOrbits", unfollowed := true, recurses := true, plainKeys := false, apart := false }
def FnExactAutomorphismOrbitsSaid : Prop := fnExactAutomorphismOrbitsRow.holds Try.pinned (OpenSpec.ofChange fnExactAutomorphismOrbitsSpec)

/-- ITS FALSE NEIGHBOUR: 'it returns false'. Refute it at one input. -/
def fnExactAutomorphismOrbitsWrong : ChangeSpec := { name := "fnExactAutomorphismOrbits", fn := fun _ => fun
  | [d] => { results := [.lit (.bool false)], args := [d] }
  | _ => none }
def FnExactAutomorphismOrbitsWrongFalsely : Prop := fnExactAutomorphismOrbitsRow.holds Try.pinned (OpenSpec.ofChange fnExactAutomorphismOrbitsWrong)

/-- 'laws.FnExactRetractions': WHATEVER THE INPUT: true; the input reads as it did. -/
def fnExactRetractionsSpec : ChangeSpec := { name := "fnExactRetractions", fn := fun _ => fun
  | [d] => { results := [.lit (.bool true)], args := [d] }
  | _ => none }
def fnExactRetractionsRow : OpenClaim := { program := "ytfdolbpbddjhmaa", sum := "b751593df8596f47ab6ff3a9876af9561430e637c4110b1d43ec4ed5b80701f8", func := "loop.example/g01078/laws.FnExactRetractions", spec := "fnExactRetractions", unfollowed := true, recurses := true, plainKeys := false, apart := false }
def FnExactRetractionsSaid : Prop := fnExactRetractionsRow.holds Try.pinned (OpenSpec.ofChange fnExactRetractionsSpec)

/-- ITS FALSE NEIGHBOUR: 'it returns false'. Refute it at one input. -/
def fnExactRetractionsWrong : ChangeSpec := { name := "fnExactRetractions", fn := fun _ => fun
  | [d] => { results := [.lit (.bool false)], args := [d] }
  | _ => none }
def FnExactRetractionsWrongFalsely : Prop := fnExactRetractionsRow.holds Try.pinned (OpenSpec.ofChange fnExactRetractionsWrong)

/-- 'laws.FnExactMaximalSubs': WHATEVER THE INPUT: true; the input reads as it did. -/
def fnExactMaximalSubsSpec : ChangeSpec := { name := "fnExactMaximalSubs", fn := fun _ => fun
  | [d] => { results := [.lit (.bool true)], args := [d] }
  | _ => none }
def fnExactMaximalSubsRow : OpenClaim := { program := "ytfdolbpbddjhmaa", sum := "b751593df8596f47ab6ff3a9876af9561430e637c4110b1d43ec4ed5b80701f8", func := "loop.example/g01078/laws.FnExactMaximalSubs", spec := "fnExactMaximalSubs", unfollowed := true, recurses := true, plainKeys := false, apart := false }
def FnExactMaximalSubsSaid : Prop := fnExactMaximalSubsRow.holds Try.pinned (OpenSpec.ofChange fnExactMaximalSubsSpec)

/-- ITS FALSE NEIGHBOUR: 'it returns false'. Refute it at one input. -/
def fnExactMaximalSubsWrong : ChangeSpec := { name := "fnExactMaximalSubs", fn := fun _ => fun
  | [d] => { results := [.lit (.bool false)], args := [d] }
  | _ => none }
def FnExactMaximalSubsWrongFalsely : Prop := fnExactMaximalSubsRow.holds Try.pinned (OpenSpec.ofChange fnExactMaximalSubsWrong)

/- THE SECOND FORM. 'bulk': how many values and letters a reading holds, each counted each time it is reached (what is shared counts as often as it is met; a slice's spare places count too). A statement '..UptoSaid' is the law's where the arguments, and the package variables that the reading takes, are together of bulk at most 1048576: NARROWER than '..Said'. Prove '..Said' where nothing that the law and all that it calls make is longer than what came in: it says more and counts as full. Else prove '..UptoSaid'. A law counts once. -/
mutual
def uptoBulk {H : Type} : DataW H → Nat
  | .lit (.string bytes) => bytes.length + 1
  | .lit _ => 1
  | .nil => 1
  | .ptr d => uptoBulk d + 1
  | .slice elems spare => uptoBulkAll elems + uptoBulkAll spare + 1
  | .agg parts => uptoBulkAll parts + 1
  | .iface _ d => uptoBulk d + 1
  | .map entries => uptoBulkEntries entries + 1
  | .held _ => 1
def uptoBulkAll {H : Type} : List (DataW H) → Nat
  | [] => 0
  | d :: r => uptoBulk d + uptoBulkAll r
def uptoBulkEntries {H : Type} : List (Lit × DataW H) → Nat
  | [] => 0
  | x :: r => uptoBulkEntry x + uptoBulkEntries r
def uptoBulkEntry {H : Type} : Lit × DataW H → Nat
  | (.string bytes, d) => bytes.length + uptoBulk d + 1
  | (_, d) => uptoBulk d + 1
 end
def uptoSmall : (H : Type) → List (DataW H) → Bool := fun _ ds => decide (uptoBulkAll ds ≤ 1048576)
def OpenSpec.upto (s : _root_.Go.ChangeSpec) : _root_.Go.OpenSpec := { _root_.Go.OpenSpec.ofChange s with cond := some uptoSmall }

/-- 'laws.FnExactProductOf', WHERE WHAT IT READS IS OF BULK AT MOST 1048576: true; the input reads as it did. -/
def fnExactProductOfUptoRow : OpenClaim := { program := "ytfdolbpbddjhmaa", sum := "b751593df8596f47ab6ff3a9876af9561430e637c4110b1d43ec4ed5b80701f8", func := "loop.example/g01078/laws.FnExactProductOf", spec := "fnExactProductOf", plainKeys := false, apart := false, narrowed := true }
def FnExactProductOfUptoSaid : Prop := fnExactProductOfUptoRow.holds Try.pinned (OpenSpec.upto fnExactProductOfSpec)

/-- 'laws.FnExactPowerOf', WHERE WHAT IT READS IS OF BULK AT MOST 1048576: true; the input reads as it did. -/
def fnExactPowerOfUptoRow : OpenClaim := { program := "ytfdolbpbddjhmaa", sum := "b751593df8596f47ab6ff3a9876af9561430e637c4110b1d43ec4ed5b80701f8", func := "loop.example/g01078/laws.FnExactPowerOf", spec := "fnExactPowerOf", plainKeys := false, apart := false, narrowed := true }
def FnExactPowerOfUptoSaid : Prop := fnExactPowerOfUptoRow.holds Try.pinned (OpenSpec.upto fnExactPowerOfSpec)

/-- 'laws.FnExactFactorOfProduct', WHERE WHAT IT READS IS OF BULK AT MOST 1048576: true; the input reads as it did. -/
def fnExactFactorOfProductUptoRow : OpenClaim := { program := "ytfdolbpbddjhmaa", sum := "b751593df8596f47ab6ff3a9876af9561430e637c4110b1d43ec4ed5b80701f8", func := "loop.example/g01078/laws.FnExactFactorOfProduct", spec := "fnExactFactorOfProduct", plainKeys := false, apart := false, narrowed := true }
def FnExactFactorOfProductUptoSaid : Prop := fnExactFactorOfProductUptoRow.holds Try.pinned (OpenSpec.upto fnExactFactorOfProductSpec)

/-- 'laws.FnExactMostTuples', WHERE WHAT IT READS IS OF BULK AT MOST 1048576: true; the input reads as it did. -/
def fnExactMostTuplesUptoRow : OpenClaim := { program := "ytfdolbpbddjhmaa", sum := "b751593df8596f47ab6ff3a9876af9561430e637c4110b1d43ec4ed5b80701f8", func := "loop.example/g01078/laws.FnExactMostTuples", spec := "fnExactMostTuples", plainKeys := false, apart := false, narrowed := true }
def FnExactMostTuplesUptoSaid : Prop := fnExactMostTuplesUptoRow.holds Try.pinned (OpenSpec.upto fnExactMostTuplesSpec)

/-- 'laws.FnExactDiagonal', WHERE WHAT IT READS IS OF BULK AT MOST 1048576: true; the input reads as it did. -/
def fnExactDiagonalUptoRow : OpenClaim := { program := "ytfdolbpbddjhmaa", sum := "b751593df8596f47ab6ff3a9876af9561430e637c4110b1d43ec4ed5b80701f8", func := "loop.example/g01078/laws.FnExactDiagonal", spec := "fnExactDiagonal", plainKeys := false, apart := false, narrowed := true }
def FnExactDiagonalUptoSaid : Prop := fnExactDiagonalUptoRow.holds Try.pinned (OpenSpec.upto fnExactDiagonalSpec)

/-- 'laws.FnExactApplyTo', WHERE WHAT IT READS IS OF BULK AT MOST 1048576: true; the input reads as it did. -/
def fnExactApplyToUptoRow : OpenClaim := { program := "ytfdolbpbddjhmaa", sum := "b751593df8596f47ab6ff3a9876af9561430e637c4110b1d43ec4ed5b80701f8", func := "loop.example/g01078/laws.FnExactApplyTo", spec := "fnExactApplyTo", plainKeys := false, apart := false, narrowed := true }
def FnExactApplyToUptoSaid : Prop := fnExactApplyToUptoRow.holds Try.pinned (OpenSpec.upto fnExactApplyToSpec)

/-- 'laws.FnExactIsSubpower', WHERE WHAT IT READS IS OF BULK AT MOST 1048576: true; the input reads as it did. -/
def fnExactIsSubpowerUptoRow : OpenClaim := { program := "ytfdolbpbddjhmaa", sum := "b751593df8596f47ab6ff3a9876af9561430e637c4110b1d43ec4ed5b80701f8", func := "loop.example/g01078/laws.FnExactIsSubpower", spec := "fnExactIsSubpower", inPlace := ["internal/bytealg.Compare"], unfollowed := true, recurses := true, plainKeys := false, apart := false, narrowed := true }
def FnExactIsSubpowerUptoSaid : Prop := fnExactIsSubpowerUptoRow.holds Try.pinned (OpenSpec.upto fnExactIsSubpowerSpec)

/-- 'laws.FnExactIsSubdirect', WHERE WHAT IT READS IS OF BULK AT MOST 1048576: true; the input reads as it did. -/
def fnExactIsSubdirectUptoRow : OpenClaim := { program := "ytfdolbpbddjhmaa", sum := "b751593df8596f47ab6ff3a9876af9561430e637c4110b1d43ec4ed5b80701f8", func := "loop.example/g01078/laws.FnExactIsSubdirect", spec := "fnExactIsSubdirect", inPlace := ["internal/bytealg.Compare"], unfollowed := true, recurses := true, plainKeys := false, apart := false, narrowed := true }
def FnExactIsSubdirectUptoSaid : Prop := fnExactIsSubdirectUptoRow.holds Try.pinned (OpenSpec.upto fnExactIsSubdirectSpec)

/-- 'laws.FnExactAlgebraOfSubpower', WHERE WHAT IT READS IS OF BULK AT MOST 1048576: true; the input reads as it did. -/
def fnExactAlgebraOfSubpowerUptoRow : OpenClaim := { program := "ytfdolbpbddjhmaa", sum := "b751593df8596f47ab6ff3a9876af9561430e637c4110b1d43ec4ed5b80701f8", func := "loop.example/g01078/laws.FnExactAlgebraOfSubpower", spec := "fnExactAlgebraOfSubpower", inPlace := ["internal/bytealg.Compare"], unfollowed := true, recurses := true, plainKeys := false, apart := false, narrowed := true }
def FnExactAlgebraOfSubpowerUptoSaid : Prop := fnExactAlgebraOfSubpowerUptoRow.holds Try.pinned (OpenSpec.upto fnExactAlgebraOfSubpowerSpec)

/-- 'laws.FnExactAutomorphismOrbits', WHERE WHAT IT READS IS OF BULK AT MOST 1048576: true; the input reads as it did. -/
def fnExactAutomorphismOrbitsUptoRow : OpenClaim := { program := "ytfdolbpbddjhmaa", sum := "b751593df8596f47ab6ff3a9876af9561430e637c4110b1d43ec4ed5b80701f8", func := "loop.example/g01078/laws.FnExactAutomorphismOrbits", spec := "fnExactAutomorphismOrbits", unfollowed := true, recurses := true, plainKeys := false, apart := false, narrowed := true }
def FnExactAutomorphismOrbitsUptoSaid : Prop := fnExactAutomorphismOrbitsUptoRow.holds Try.pinned (OpenSpec.upto fnExactAutomorphismOrbitsSpec)

/-- 'laws.FnExactRetractions', WHERE WHAT IT READS IS OF BULK AT MOST 1048576: true; the input reads as it did. -/
def fnExactRetractionsUptoRow : OpenClaim := { program := "ytfdolbpbddjhmaa", sum := "b751593df8596f47ab6ff3a9876af9561430e637c4110b1d43ec4ed5b80701f8", func := "loop.example/g01078/laws.FnExactRetractions", spec := "fnExactRetractions", unfollowed := true, recurses := true, plainKeys := false, apart := false, narrowed := true }
def FnExactRetractionsUptoSaid : Prop := fnExactRetractionsUptoRow.holds Try.pinned (OpenSpec.upto fnExactRetractionsSpec)

/-- 'laws.FnExactMaximalSubs', WHERE WHAT IT READS IS OF BULK AT MOST 1048576: true; the input reads as it did. -/
def fnExactMaximalSubsUptoRow : OpenClaim := { program := "ytfdolbpbddjhmaa", sum := "b751593df8596f47ab6ff3a9876af9561430e637c4110b1d43ec4ed5b80701f8", func := "loop.example/g01078/laws.FnExactMaximalSubs", spec := "fnExactMaximalSubs", unfollowed := true, recurses := true, plainKeys := false, apart := false, narrowed := true }
def FnExactMaximalSubsUptoSaid : Prop := fnExactMaximalSubsUptoRow.holds Try.pinned (OpenSpec.upto fnExactMaximalSubsSpec)

end Rows
end Go.Proofs.Ytfdolbpbddjhmaa
