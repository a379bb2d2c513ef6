/-
  No cell of these rows narrows 'for every input' (looked for: loops, veiled, ifaces, maps, wideKeys, modest, calm, conditions, laid).
  DERIVED. THE GIVEN ROWS OF THIS SEAT. 11 by the template 'for every input the law returns true; each argument reads behind the call as it read before'; 0 by the template 'total and deterministic' (their statements: YtgejpkpilnfddaaTotals.lean).
  GIVEN WITH THE SEED: the statements are not yours to turn. If you find one false, say at which input.
  Laid BY PROGRAM, IN A SANDBOX (cutbox-rows.mjs): the forced cells as the released guide's own fill.sh prints them over the translation b4828b9ac4cb3a47… (all of the seat's roots in one cut). By AI agents, Wed Nov 11 2026. No macro, syntax, notation, axiom, sorry.
-/
import Derived.Test.YtgejpkpilnfddaaChecked
import GoSem.Claim
import GoSem.ClaimJoined
import GoSem.ClaimMapViews
import Derived.JoinedTies
import Derived.KernelRfl
namespace Go.Proofs.Ytgejpkpilnfddaa
/- THE CELL 'sum', in the pinned program and in every row, IS THE sha256 OF THE DUMP (.gsa) THAT YtgejpkpilnfddaaProg.lean LOADS. Nothing in Lean hashes anything: it is a label: what it is worth is what the hold of that sum in a sandbox is worth. -/
noncomputable def Try.pinned : Pinned := { name := "ytgejpkpilnfddaa", sum := "b4828b9ac4cb3a47717d755521e7129b09eae281eb629f7929cf04759af9e14a", checked := Try.checked }
namespace Rows
def none {H : Type} : Left H := { results := [], args := [] }

/-- 'laws.FnExactIsPartition': WHATEVER THE INPUT: true; the input reads as it did. -/
def fnExactIsPartitionSpec : ChangeSpec := { name := "fnExactIsPartition", fn := fun _ => fun
  | [d1, d2] => { results := [.lit (.bool true)], args := [d1, d2] }
  | _ => none }
def fnExactIsPartitionRow : OpenClaim := { program := "ytgejpkpilnfddaa", sum := "b4828b9ac4cb3a47717d755521e7129b09eae281eb629f7929cf04759af9e14a", func := "loop.example/g01078/laws.FnExactIsPartition", spec := "fnExactIsPartition", apart := false }
def FnExactIsPartitionSaid : Prop := fnExactIsPartitionRow.holds Try.pinned (OpenSpec.ofChange fnExactIsPartitionSpec)

/-- ITS FALSE NEIGHBOUR: 'it returns false'. Refute it at one input. -/
def fnExactIsPartitionWrong : ChangeSpec := { name := "fnExactIsPartition", fn := fun _ => fun
  | [d1, d2] => { results := [.lit (.bool false)], args := [d1, d2] }
  | _ => none }
def FnExactIsPartitionWrongFalsely : Prop := fnExactIsPartitionRow.holds Try.pinned (OpenSpec.ofChange fnExactIsPartitionWrong)

/-- 'laws.FnExactBlocksOf': WHATEVER THE INPUT: true; the input reads as it did. -/
def fnExactBlocksOfSpec : ChangeSpec := { name := "fnExactBlocksOf", fn := fun _ => fun
  | [d1, d2] => { results := [.lit (.bool true)], args := [d1, d2] }
  | _ => none }
def fnExactBlocksOfRow : OpenClaim := { program := "ytgejpkpilnfddaa", sum := "b4828b9ac4cb3a47717d755521e7129b09eae281eb629f7929cf04759af9e14a", func := "loop.example/g01078/laws.FnExactBlocksOf", spec := "fnExactBlocksOf", unfollowed := true, recurses := true, apart := false }
def FnExactBlocksOfSaid : Prop := fnExactBlocksOfRow.holds Try.pinned (OpenSpec.ofChange fnExactBlocksOfSpec)

/-- ITS FALSE NEIGHBOUR: 'it returns false'. Refute it at one input. -/
def fnExactBlocksOfWrong : ChangeSpec := { name := "fnExactBlocksOf", fn := fun _ => fun
  | [d1, d2] => { results := [.lit (.bool false)], args := [d1, d2] }
  | _ => none }
def FnExactBlocksOfWrongFalsely : Prop := fnExactBlocksOfRow.holds Try.pinned (OpenSpec.ofChange fnExactBlocksOfWrong)

/-- 'laws.FnExactFromBlocks': WHATEVER THE INPUT: true; the input reads as it did. -/
def fnExactFromBlocksSpec : ChangeSpec := { name := "fnExactFromBlocks", fn := fun _ => fun
  | [d1, d2] => { results := [.lit (.bool true)], args := [d1, d2] }
  | _ => none }
def fnExactFromBlocksRow : OpenClaim := { program := "ytgejpkpilnfddaa", sum := "b4828b9ac4cb3a47717d755521e7129b09eae281eb629f7929cf04759af9e14a", func := "loop.example/g01078/laws.FnExactFromBlocks", spec := "fnExactFromBlocks", apart := false }
def FnExactFromBlocksSaid : Prop := fnExactFromBlocksRow.holds Try.pinned (OpenSpec.ofChange fnExactFromBlocksSpec)

/-- ITS FALSE NEIGHBOUR: 'it returns false'. Refute it at one input. -/
def fnExactFromBlocksWrong : ChangeSpec := { name := "fnExactFromBlocks", fn := fun _ => fun
  | [d1, d2] => { results := [.lit (.bool false)], args := [d1, d2] }
  | _ => none }
def FnExactFromBlocksWrongFalsely : Prop := fnExactFromBlocksRow.holds Try.pinned (OpenSpec.ofChange fnExactFromBlocksWrong)

/-- 'laws.FnExactIsFiner': WHATEVER THE INPUT: true; the input reads as it did. -/
def fnExactIsFinerSpec : ChangeSpec := { name := "fnExactIsFiner", fn := fun _ => fun
  | [d1, d2, d3] => { results := [.lit (.bool true)], args := [d1, d2, d3] }
  | _ => none }
def fnExactIsFinerRow : OpenClaim := { program := "ytgejpkpilnfddaa", sum := "b4828b9ac4cb3a47717d755521e7129b09eae281eb629f7929cf04759af9e14a", func := "loop.example/g01078/laws.FnExactIsFiner", spec := "fnExactIsFiner", apart := false }
def FnExactIsFinerSaid : Prop := fnExactIsFinerRow.holds Try.pinned (OpenSpec.ofChange fnExactIsFinerSpec)

/-- ITS FALSE NEIGHBOUR: 'it returns false'. Refute it at one input. -/
def fnExactIsFinerWrong : ChangeSpec := { name := "fnExactIsFiner", fn := fun _ => fun
  | [d1, d2, d3] => { results := [.lit (.bool false)], args := [d1, d2, d3] }
  | _ => none }
def FnExactIsFinerWrongFalsely : Prop := fnExactIsFinerRow.holds Try.pinned (OpenSpec.ofChange fnExactIsFinerWrong)

/-- 'laws.FnExactMeetPartitions': WHATEVER THE INPUT: true; the input reads as it did. -/
def fnExactMeetPartitionsSpec : ChangeSpec := { name := "fnExactMeetPartitions", fn := fun _ => fun
  | [d1, d2, d3] => { results := [.lit (.bool true)], args := [d1, d2, d3] }
  | _ => none }
def fnExactMeetPartitionsRow : OpenClaim := { program := "ytgejpkpilnfddaa", sum := "b4828b9ac4cb3a47717d755521e7129b09eae281eb629f7929cf04759af9e14a", func := "loop.example/g01078/laws.FnExactMeetPartitions", spec := "fnExactMeetPartitions", apart := false }
def FnExactMeetPartitionsSaid : Prop := fnExactMeetPartitionsRow.holds Try.pinned (OpenSpec.ofChange fnExactMeetPartitionsSpec)

/-- ITS FALSE NEIGHBOUR: 'it returns false'. Refute it at one input. -/
def fnExactMeetPartitionsWrong : ChangeSpec := { name := "fnExactMeetPartitions", fn := fun _ => fun
  | [d1, d2, d3] => { results := [.lit (.bool false)], args := [d1, d2, d3] }
  | _ => none }
def FnExactMeetPartitionsWrongFalsely : Prop := fnExactMeetPartitionsRow.holds Try.pinned (OpenSpec.ofChange fnExactMeetPartitionsWrong)

/-- 'laws.FnExactJoinPartitions': WHATEVER THE INPUT: true; the input reads as it did. -/
def fnExactJoinPartitionsSpec : ChangeSpec := { name := "fnExactJoinPartitions", fn := fun _ => fun
  | [d1, d2, d3] => { results := [.lit (.bool true)], args := [d1, d2, d3] }
  | _ => none }
def fnExactJoinPartitionsRow : OpenClaim := { program := "ytgejpkpilnfddaa", sum := "b4828b9ac4cb3a47717d755521e7129b09eae281eb629f7929cf04759af9e14a", func := "loop.example/g01078/laws.FnExactJoinPartitions", spec := "fnExactJoinPartitions", apart := false }
def FnExactJoinPartitionsSaid : Prop := fnExactJoinPartitionsRow.holds Try.pinned (OpenSpec.ofChange fnExactJoinPartitionsSpec)

/-- ITS FALSE NEIGHBOUR: 'it returns false'. Refute it at one input. -/
def fnExactJoinPartitionsWrong : ChangeSpec := { name := "fnExactJoinPartitions", fn := fun _ => fun
  | [d1, d2, d3] => { results := [.lit (.bool false)], args := [d1, d2, d3] }
  | _ => none }
def FnExactJoinPartitionsWrongFalsely : Prop := fnExactJoinPartitionsRow.holds Try.pinned (OpenSpec.ofChange fnExactJoinPartitionsWrong)

/-- 'laws.FnExactIsCongruence': WHATEVER THE INPUT: true; the input reads as it did. -/
def fnExactIsCongruenceSpec : ChangeSpec := { name := "fnExactIsCongruence", fn := fun _ => fun
  | [d1, d2] => { results := [.lit (.bool true)], args := [d1, d2] }
  | _ => none }
def fnExactIsCongruenceRow : OpenClaim := { program := "ytgejpkpilnfddaa", sum := "b4828b9ac4cb3a47717d755521e7129b09eae281eb629f7929cf04759af9e14a", func := "loop.example/g01078/laws.FnExactIsCongruence", spec := "fnExactIsCongruence", unfollowed := true, recurses := true, apart := false }
def FnExactIsCongruenceSaid : Prop := fnExactIsCongruenceRow.holds Try.pinned (OpenSpec.ofChange fnExactIsCongruenceSpec)

/-- ITS FALSE NEIGHBOUR: 'it returns false'. Refute it at one input. -/
def fnExactIsCongruenceWrong : ChangeSpec := { name := "fnExactIsCongruence", fn := fun _ => fun
  | [d1, d2] => { results := [.lit (.bool false)], args := [d1, d2] }
  | _ => none }
def FnExactIsCongruenceWrongFalsely : Prop := fnExactIsCongruenceRow.holds Try.pinned (OpenSpec.ofChange fnExactIsCongruenceWrong)

/-- 'laws.FnExactCongruenceOfPair': WHATEVER THE INPUT: true; the input reads as it did. -/
def fnExactCongruenceOfPairSpec : ChangeSpec := { name := "fnExactCongruenceOfPair", fn := fun _ => fun
  | [d1, d2, d3] => { results := [.lit (.bool true)], args := [d1, d2, d3] }
  | _ => none }
def fnExactCongruenceOfPairRow : OpenClaim := { program := "ytgejpkpilnfddaa", sum := "b4828b9ac4cb3a47717d755521e7129b09eae281eb629f7929cf04759af9e14a", func := "loop.example/g01078/laws.FnExactCongruenceOfPair", spec := "fnExactCongruenceOfPair", unfollowed := true, recurses := true, apart := false }
def FnExactCongruenceOfPairSaid : Prop := fnExactCongruenceOfPairRow.holds Try.pinned (OpenSpec.ofChange fnExactCongruenceOfPairSpec)

/-- ITS FALSE NEIGHBOUR: 'it returns false'. Refute it at one input. -/
def fnExactCongruenceOfPairWrong : ChangeSpec := { name := "fnExactCongruenceOfPair", fn := fun _ => fun
  | [d1, d2, d3] => { results := [.lit (.bool false)], args := [d1, d2, d3] }
  | _ => none }
def FnExactCongruenceOfPairWrongFalsely : Prop := fnExactCongruenceOfPairRow.holds Try.pinned (OpenSpec.ofChange fnExactCongruenceOfPairWrong)

/-- 'laws.FnExactCongruenceOfPairs': WHATEVER THE INPUT: true; the input reads as it did. -/
def fnExactCongruenceOfPairsSpec : ChangeSpec := { name := "fnExactCongruenceOfPairs", fn := fun _ => fun
  | [d1, d2] => { results := [.lit (.bool true)], args := [d1, d2] }
  | _ => none }
def fnExactCongruenceOfPairsRow : OpenClaim := { program := "ytgejpkpilnfddaa", sum := "b4828b9ac4cb3a47717d755521e7129b09eae281eb629f7929cf04759af9e14a", func := "loop.example/g01078/laws.FnExactCongruenceOfPairs", spec := "fnExactCongruenceOfPairs", unfollowed := true, recurses := true, apart := false }
def FnExactCongruenceOfPairsSaid : Prop := fnExactCongruenceOfPairsRow.holds Try.pinned (OpenSpec.ofChange fnExactCongruenceOfPairsSpec)

/-- ITS FALSE NEIGHBOUR: 'it returns false'. Refute it at one input. -/
def fnExactCongruenceOfPairsWrong : ChangeSpec := { name := "fnExactCongruenceOfPairs", fn := fun _ => fun
  | [d1, d2] => { results := [.lit (.bool false)], args := [d1, d2] }
  | _ => none }
def FnExactCongruenceOfPairsWrongFalsely : Prop := fnExactCongruenceOfPairsRow.holds Try.pinned (OpenSpec.ofChange fnExactCongruenceOfPairsWrong)

/-- 'laws.FnExactTranslatedPairs': WHATEVER THE INPUT: true; the input reads as it did. -/
def fnExactTranslatedPairsSpec : ChangeSpec := { name := "fnExactTranslatedPairs", fn := fun _ => fun
  | [d1, d2, d3] => { results := [.lit (.bool true)], args := [d1, d2, d3] }
  | _ => none }
def fnExactTranslatedPairsRow : OpenClaim := { program := "ytgejpkpilnfddaa", sum := "b4828b9ac4cb3a47717d755521e7129b09eae281eb629f7929cf04759af9e14a", func := "loop.example/g01078/laws.FnExactTranslatedPairs", spec := "fnExactTranslatedPairs", unfollowed := true, recurses := true, apart := false }
def FnExactTranslatedPairsSaid : Prop := fnExactTranslatedPairsRow.holds Try.pinned (OpenSpec.ofChange fnExactTranslatedPairsSpec)

/-- ITS FALSE NEIGHBOUR: 'it returns false'. Refute it at one input. -/
def fnExactTranslatedPairsWrong : ChangeSpec := { name := "fnExactTranslatedPairs", fn := fun _ => fun
  | [d1, d2, d3] => { results := [.lit (.bool false)], args := [d1, d2, d3] }
  | _ => none }
def FnExactTranslatedPairsWrongFalsely : Prop := fnExactTranslatedPairsRow.holds Try.pinned (OpenSpec.ofChange fnExactTranslatedPairsWrong)

/-- 'laws.FnExactCongruenceChain': WHATEVER THE INPUT: true; the input reads as it did. -/
def fnExactCongruenceChainSpec : ChangeSpec := { name := "fnExactCongruenceChain", fn := fun _ => fun
  | [d1, d2, d3, d4, d5] => { results := [.lit (.bool true)], args := [d1, d2, d3, d4, d5] }
  | _ => none }
def fnExactCongruenceChainRow : OpenClaim := { program := "ytgejpkpilnfddaa", sum := "b4828b9ac4cb3a47717d755521e7129b09eae281eb629f7929cf04759af9e14a", func := "loop.example/g01078/laws.FnExactCongruenceChain", spec := "fnExactCongruenceChain", unfollowed := true, recurses := true, apart := false }
def FnExactCongruenceChainSaid : Prop := fnExactCongruenceChainRow.holds Try.pinned (OpenSpec.ofChange fnExactCongruenceChainSpec)

/-- ITS FALSE NEIGHBOUR: 'it returns false'. Refute it at one input. -/
def fnExactCongruenceChainWrong : ChangeSpec := { name := "fnExactCongruenceChain", fn := fun _ => fun
  | [d1, d2, d3, d4, d5] => { results := [.lit (.bool false)], args := [d1, d2, d3, d4, d5] }
  | _ => none }
def FnExactCongruenceChainWrongFalsely : Prop := fnExactCongruenceChainRow.holds Try.pinned (OpenSpec.ofChange fnExactCongruenceChainWrong)

/- THE SECOND FORM. 'bulk': how many values and letters a reading holds, each counted each time it is reached (what is shared counts as often as it is met; a slice's spare places count too). A statement '..UptoSaid' is the law's where the arguments, and the package variables that the reading takes, are together of bulk at most 1048576: NARROWER than '..Said'. Prove '..Said' where nothing that the law and all that it calls make is longer than what came in: it says more and counts as full. Else prove '..UptoSaid'. A law counts once. -/
mutual
def uptoBulk {H : Type} : DataW H → Nat
  | .lit (.string bytes) => bytes.length + 1
  | .lit _ => 1
  | .nil => 1
  | .ptr d => uptoBulk d + 1
  | .slice elems spare => uptoBulkAll elems + uptoBulkAll spare + 1
  | .agg parts => uptoBulkAll parts + 1
  | .iface _ d => uptoBulk d + 1
  | .map entries => uptoBulkEntries entries + 1
  | .held _ => 1
def uptoBulkAll {H : Type} : List (DataW H) → Nat
  | [] => 0
  | d :: r => uptoBulk d + uptoBulkAll r
def uptoBulkEntries {H : Type} : List (Lit × DataW H) → Nat
  | [] => 0
  | x :: r => uptoBulkEntry x + uptoBulkEntries r
def uptoBulkEntry {H : Type} : Lit × DataW H → Nat
  | (.string bytes, d) => bytes.length + uptoBulk d + 1
  | (_, d) => uptoBulk d + 1
 end
def uptoSmall : (H : Type) → List (DataW H) → Bool := fun _ ds => decide (uptoBulkAll ds ≤ 1048576)
def OpenSpec.upto (s : _root_.Go.ChangeSpec) : _root_.Go.OpenSpec := { _root_.Go.OpenSpec.ofChange s with cond := some uptoSmall }

/-- 'laws.FnExactIsPartition', WHERE WHAT IT READS IS OF BULK AT MOST 1048576: true; the input reads as it did. -/
def fnExactIsPartitionUptoRow : OpenClaim := { program := "ytgejpkpilnfddaa", sum := "b4828b9ac4cb3a47717d755521e7129b09eae281eb629f7929cf04759af9e14a", func := "loop.example/g01078/laws.FnExactIsPartition", spec := "fnExactIsPartition", apart := false, narrowed := true }
def FnExactIsPartitionUptoSaid : Prop := fnExactIsPartitionUptoRow.holds Try.pinned (OpenSpec.upto fnExactIsPartitionSpec)

/-- 'laws.FnExactBlocksOf', WHERE WHAT IT READS IS OF BULK AT MOST 1048576: true; the input reads as it did. -/
def fnExactBlocksOfUptoRow : OpenClaim := { program := "ytgejpkpilnfddaa", sum := "b4828b9ac4cb3a47717d755521e7129b09eae281eb629f7929cf04759af9e14a", func := "loop.example/g01078/laws.FnExactBlocksOf", spec := "fnExactBlocksOf", unfollowed := true, recurses := true, apart := false, narrowed := true }
def FnExactBlocksOfUptoSaid : Prop := fnExactBlocksOfUptoRow.holds Try.pinned (OpenSpec.upto fnExactBlocksOfSpec)

/-- 'laws.FnExactFromBlocks', WHERE WHAT IT READS IS OF BULK AT MOST 1048576: true; the input reads as it did. -/
def fnExactFromBlocksUptoRow : OpenClaim := { program := "ytgejpkpilnfddaa", sum := "b4828b9ac4cb3a47717d755521e7129b09eae281eb629f7929cf04759af9e14a", func := "loop.example/g01078/laws.FnExactFromBlocks", spec := "fnExactFromBlocks", apart := false, narrowed := true }
def FnExactFromBlocksUptoSaid : Prop := fnExactFromBlocksUptoRow.holds Try.pinned (OpenSpec.upto fnExactFromBlocksSpec)

/-- 'laws.FnExactIsFiner', WHERE WHAT IT READS IS OF BULK AT MOST 1048576: true; the input reads as it did. -/
def fnExactIsFinerUptoRow : OpenClaim := { program := "ytgejpkpilnfddaa", sum := "b4828b9ac4cb3a47717d755521e7129b09eae281eb629f7929cf04759af9e14a", func := "loop.example/g01078/laws.FnExactIsFiner", spec := "fnExactIsFiner", apart := false, narrowed := true }
def FnExactIsFinerUptoSaid : Prop := fnExactIsFinerUptoRow.holds Try.pinned (OpenSpec.upto fnExactIsFinerSpec)

/-- 'laws.FnExactMeetPartitions', WHERE WHAT IT READS IS OF BULK AT MOST 1048576: true; the input reads as it did. -/
def fnExactMeetPartitionsUptoRow : OpenClaim := { program := "ytgejpkpilnfddaa", sum := "b4828b9ac4cb3a47717d755521e7129b09eae281eb629f7929cf04759af9e14a", func := "loop.example/g01078/laws.FnExactMeetPartitions", spec := "fnExactMeetPartitions", apart := false, narrowed := true }
def FnExactMeetPartitionsUptoSaid : Prop := fnExactMeetPartitionsUptoRow.holds Try.pinned (OpenSpec.upto fnExactMeetPartitionsSpec)

/-- 'laws.FnExactJoinPartitions', WHERE WHAT IT READS IS OF BULK AT MOST 1048576: true; the input reads as it did. -/
def fnExactJoinPartitionsUptoRow : OpenClaim := { program := "ytgejpkpilnfddaa", sum := "b4828b9ac4cb3a47717d755521e7129b09eae281eb629f7929cf04759af9e14a", func := "loop.example/g01078/laws.FnExactJoinPartitions", spec := "fnExactJoinPartitions", apart := false, narrowed := true }
def FnExactJoinPartitionsUptoSaid : Prop := fnExactJoinPartitionsUptoRow.holds Try.pinned (OpenSpec.upto fnExactJoinPartitionsSpec)

/-- 'laws.FnExactIsCongruence', WHERE WHAT IT READS IS OF BULK AT MOST 1048576: true; the input reads as it did. -/
def fnExactIsCongruenceUptoRow : OpenClaim := { program := "ytgejpkpilnfddaa", sum := "b4828b9ac4cb3a47717d755521e7129b09eae281eb629f7929cf04759af9e14a", func := "loop.example/g01078/laws.FnExactIsCongruence", spec := "fnExactIsCongruence", unfollowed := true, recurses := true, apart := false, narrowed := true }
def FnExactIsCongruenceUptoSaid : Prop := fnExactIsCongruenceUptoRow.holds Try.pinned (OpenSpec.upto fnExactIsCongruenceSpec)

/-- 'laws.FnExactCongruenceOfPair', WHERE WHAT IT READS IS OF BULK AT MOST 1048576: true; the input reads as it did. -/
def fnExactCongruenceOfPairUptoRow : OpenClaim := { program := "ytgejpkpilnfddaa", sum := "b4828b9ac4cb3a47717d755521e7129b09eae281eb629f7929cf04759af9e14a", func := "loop.example/g01078/laws.FnExactCongruenceOfPair", spec := "fnExactCongruenceOfPair", unfollowed := true, recurses := true, apart := false, narrowed := true }
def FnExactCongruenceOfPairUptoSaid : Prop := fnExactCongruenceOfPairUptoRow.holds Try.pinned (OpenSpec.upto fnExactCongruenceOfPairSpec)

/-- 'laws.FnExactCongruenceOfPairs', WHERE WHAT IT READS IS OF BULK AT MOST 1048576: true; the input reads as it did. -/
def fnExactCongruenceOfPairsUptoRow : OpenClaim := { program := "ytgejpkpilnfddaa", sum := "b4828b9ac4cb3a47717d755521e7129b09eae281eb629f7929cf04759af9e14a", func := "loop.example/g01078/laws.FnExactCongruenceOfPairs", spec := "fnExactCongruenceOfPairs", unfollowed := true, recurses := true, apart := false, narrowed := true }
def FnExactCongruenceOfPairsUptoSaid : Prop := fnExactCongruenceOfPairsUptoRow.holds Try.pinned (OpenSpec.upto fnExactCongruenceOfPairsSpec)

/-- 'laws.FnExactTranslatedPairs', WHERE WHAT IT READS IS OF BULK AT MOST 1048576: true; the input reads as it did. -/
def fnExactTranslatedPairsUptoRow : OpenClaim := { program := "ytgejpkpilnfddaa", sum := "b4828b9ac4cb3a47717d755521e7129b09eae281eb629f7929cf04759af9e14a", func := "loop.example/g01078/laws.FnExactTranslatedPairs", spec := "fnExactTranslatedPairs", unfollowed := true, recurses := true, apart := false, narrowed := true }
def FnExactTranslatedPairsUptoSaid : Prop := fnExactTranslatedPairsUptoRow.holds Try.pinned (OpenSpec.upto fnExactTranslatedPairsSpec)

/-- 'laws.FnExactCongruenceChain', WHERE WHAT IT READS IS OF BULK AT MOST 1048576: true; the input reads as it did. -/
def fnExactCongruenceChainUptoRow : OpenClaim := { program := "ytgejpkpilnfddaa", sum := "b4828b9ac4cb3a47717d755521e7129b09eae281eb629f7929cf04759af9e14a", func := "loop.example/g01078/laws.FnExactCongruenceChain", spec := "fnExactCongruenceChain", unfollowed := true, recurses := true, apart := false, narrowed := true }
def FnExactCongruenceChainUptoSaid : Prop := fnExactCongruenceChainUptoRow.holds Try.pinned (OpenSpec.upto fnExactCongruenceChainSpec)

end Rows
end Go.Proofs.Ytgejpkpilnfddaa
