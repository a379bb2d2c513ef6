/-
  No cell of these rows narrows 'for every input' (looked for: loops, veiled, ifaces, maps, wideKeys, modest, calm, conditions, laid).
  DERIVED. THE GIVEN ROWS OF THIS SEAT. 10 by the template 'for every input the law returns true; each argument reads behind the call as it read before'; 0 by the template 'total and deterministic' (their statements: YtmhlkopkcgmpjaaTotals.lean).
  GIVEN WITH THE SEED: the statements are not yours to turn. If you find one false, say at which input.
  Laid BY PROGRAM, IN A SANDBOX (cutbox-rows.mjs): the forced cells as the released guide's own fill.sh prints them over the translation fefa51c41933aaab… (all of the seat's roots in one cut). By AI agents, Wed Nov 11 2026. No macro, syntax, notation, axiom, sorry.
-/
import Derived.Test.YtmhlkopkcgmpjaaChecked
import GoSem.Claim
import GoSem.ClaimJoined
import GoSem.ClaimMapViews
import Derived.JoinedTies
import Derived.KernelRfl
namespace Go.Proofs.Ytmhlkopkcgmpjaa
/- THE CELL 'sum', in the pinned program and in every row, IS THE sha256 OF THE DUMP (.gsa) THAT YtmhlkopkcgmpjaaProg.lean LOADS. Nothing in Lean hashes anything: it is a label: what it is worth is what the hold of that sum in a sandbox is worth. -/
noncomputable def Try.pinned : Pinned := { name := "ytmhlkopkcgmpjaa", sum := "fefa51c41933aaabd8248cf89b8c7f62e3f4d22dff24d4e7da476430c906116c", checked := Try.checked }
namespace Rows
def none {H : Type} : Left H := { results := [], args := [] }

/-- 'laws.FnExactIsSubuniverse': WHATEVER THE INPUT: true; the input reads as it did. -/
def fnExactIsSubuniverseSpec : ChangeSpec := { name := "fnExactIsSubuniverse", fn := fun _ => fun
  | [d1, d2] => { results := [.lit (.bool true)], args := [d1, d2] }
  | _ => none }
def fnExactIsSubuniverseRow : OpenClaim := { program := "ytmhlkopkcgmpjaa", sum := "fefa51c41933aaabd8248cf89b8c7f62e3f4d22dff24d4e7da476430c906116c", func := "loop.example/g01078/laws.FnExactIsSubuniverse", spec := "fnExactIsSubuniverse", apart := false }
def FnExactIsSubuniverseSaid : Prop := fnExactIsSubuniverseRow.holds Try.pinned (OpenSpec.ofChange fnExactIsSubuniverseSpec)

/-- ITS FALSE NEIGHBOUR: 'it returns false'. Refute it at one input. -/
def fnExactIsSubuniverseWrong : ChangeSpec := { name := "fnExactIsSubuniverse", fn := fun _ => fun
  | [d1, d2] => { results := [.lit (.bool false)], args := [d1, d2] }
  | _ => none }
def FnExactIsSubuniverseWrongFalsely : Prop := fnExactIsSubuniverseRow.holds Try.pinned (OpenSpec.ofChange fnExactIsSubuniverseWrong)

/-- 'laws.FnExactGenerateSub': WHATEVER THE INPUT: true; the input reads as it did. -/
def fnExactGenerateSubSpec : ChangeSpec := { name := "fnExactGenerateSub", fn := fun _ => fun
  | [d1, d2] => { results := [.lit (.bool true)], args := [d1, d2] }
  | _ => none }
def fnExactGenerateSubRow : OpenClaim := { program := "ytmhlkopkcgmpjaa", sum := "fefa51c41933aaabd8248cf89b8c7f62e3f4d22dff24d4e7da476430c906116c", func := "loop.example/g01078/laws.FnExactGenerateSub", spec := "fnExactGenerateSub", apart := false }
def FnExactGenerateSubSaid : Prop := fnExactGenerateSubRow.holds Try.pinned (OpenSpec.ofChange fnExactGenerateSubSpec)

/-- ITS FALSE NEIGHBOUR: 'it returns false'. Refute it at one input. -/
def fnExactGenerateSubWrong : ChangeSpec := { name := "fnExactGenerateSub", fn := fun _ => fun
  | [d1, d2] => { results := [.lit (.bool false)], args := [d1, d2] }
  | _ => none }
def FnExactGenerateSubWrongFalsely : Prop := fnExactGenerateSubRow.holds Try.pinned (OpenSpec.ofChange fnExactGenerateSubWrong)

/-- 'laws.FnExactGenerationRounds': WHATEVER THE INPUT: true; the input reads as it did. -/
def fnExactGenerationRoundsSpec : ChangeSpec := { name := "fnExactGenerationRounds", fn := fun _ => fun
  | [d1, d2] => { results := [.lit (.bool true)], args := [d1, d2] }
  | _ => none }
def fnExactGenerationRoundsRow : OpenClaim := { program := "ytmhlkopkcgmpjaa", sum := "fefa51c41933aaabd8248cf89b8c7f62e3f4d22dff24d4e7da476430c906116c", func := "loop.example/g01078/laws.FnExactGenerationRounds", spec := "fnExactGenerationRounds", apart := false }
def FnExactGenerationRoundsSaid : Prop := fnExactGenerationRoundsRow.holds Try.pinned (OpenSpec.ofChange fnExactGenerationRoundsSpec)

/-- ITS FALSE NEIGHBOUR: 'it returns false'. Refute it at one input. -/
def fnExactGenerationRoundsWrong : ChangeSpec := { name := "fnExactGenerationRounds", fn := fun _ => fun
  | [d1, d2] => { results := [.lit (.bool false)], args := [d1, d2] }
  | _ => none }
def FnExactGenerationRoundsWrongFalsely : Prop := fnExactGenerationRoundsRow.holds Try.pinned (OpenSpec.ofChange fnExactGenerationRoundsWrong)

/-- 'laws.FnExactSubalgebraOf': WHATEVER THE INPUT: true; the input reads as it did. -/
def fnExactSubalgebraOfSpec : ChangeSpec := { name := "fnExactSubalgebraOf", fn := fun _ => fun
  | [d1, d2] => { results := [.lit (.bool true)], args := [d1, d2] }
  | _ => none }
def fnExactSubalgebraOfRow : OpenClaim := { program := "ytmhlkopkcgmpjaa", sum := "fefa51c41933aaabd8248cf89b8c7f62e3f4d22dff24d4e7da476430c906116c", func := "loop.example/g01078/laws.FnExactSubalgebraOf", spec := "fnExactSubalgebraOf", apart := false }
def FnExactSubalgebraOfSaid : Prop := fnExactSubalgebraOfRow.holds Try.pinned (OpenSpec.ofChange fnExactSubalgebraOfSpec)

/-- ITS FALSE NEIGHBOUR: 'it returns false'. Refute it at one input. -/
def fnExactSubalgebraOfWrong : ChangeSpec := { name := "fnExactSubalgebraOf", fn := fun _ => fun
  | [d1, d2] => { results := [.lit (.bool false)], args := [d1, d2] }
  | _ => none }
def FnExactSubalgebraOfWrongFalsely : Prop := fnExactSubalgebraOfRow.holds Try.pinned (OpenSpec.ofChange fnExactSubalgebraOfWrong)

/-- 'laws.FnExactMeetSubs': WHATEVER THE INPUT: true; the input reads as it did. -/
def fnExactMeetSubsSpec : ChangeSpec := { name := "fnExactMeetSubs", fn := fun _ => fun
  | [d1, d2, d3] => { results := [.lit (.bool true)], args := [d1, d2, d3] }
  | _ => none }
def fnExactMeetSubsRow : OpenClaim := { program := "ytmhlkopkcgmpjaa", sum := "fefa51c41933aaabd8248cf89b8c7f62e3f4d22dff24d4e7da476430c906116c", func := "loop.example/g01078/laws.FnExactMeetSubs", spec := "fnExactMeetSubs", apart := false }
def FnExactMeetSubsSaid : Prop := fnExactMeetSubsRow.holds Try.pinned (OpenSpec.ofChange fnExactMeetSubsSpec)

/-- ITS FALSE NEIGHBOUR: 'it returns false'. Refute it at one input. -/
def fnExactMeetSubsWrong : ChangeSpec := { name := "fnExactMeetSubs", fn := fun _ => fun
  | [d1, d2, d3] => { results := [.lit (.bool false)], args := [d1, d2, d3] }
  | _ => none }
def FnExactMeetSubsWrongFalsely : Prop := fnExactMeetSubsRow.holds Try.pinned (OpenSpec.ofChange fnExactMeetSubsWrong)

/-- 'laws.FnExactJoinSubs': WHATEVER THE INPUT: true; the input reads as it did. -/
def fnExactJoinSubsSpec : ChangeSpec := { name := "fnExactJoinSubs", fn := fun _ => fun
  | [d1, d2, d3] => { results := [.lit (.bool true)], args := [d1, d2, d3] }
  | _ => none }
def fnExactJoinSubsRow : OpenClaim := { program := "ytmhlkopkcgmpjaa", sum := "fefa51c41933aaabd8248cf89b8c7f62e3f4d22dff24d4e7da476430c906116c", func := "loop.example/g01078/laws.FnExactJoinSubs", spec := "fnExactJoinSubs", apart := false }
def FnExactJoinSubsSaid : Prop := fnExactJoinSubsRow.holds Try.pinned (OpenSpec.ofChange fnExactJoinSubsSpec)

/-- ITS FALSE NEIGHBOUR: 'it returns false'. Refute it at one input. -/
def fnExactJoinSubsWrong : ChangeSpec := { name := "fnExactJoinSubs", fn := fun _ => fun
  | [d1, d2, d3] => { results := [.lit (.bool false)], args := [d1, d2, d3] }
  | _ => none }
def FnExactJoinSubsWrongFalsely : Prop := fnExactJoinSubsRow.holds Try.pinned (OpenSpec.ofChange fnExactJoinSubsWrong)

/-- 'laws.FnExactIsGenerating': WHATEVER THE INPUT: true; the input reads as it did. -/
def fnExactIsGeneratingSpec : ChangeSpec := { name := "fnExactIsGenerating", fn := fun _ => fun
  | [d1, d2] => { results := [.lit (.bool true)], args := [d1, d2] }
  | _ => none }
def fnExactIsGeneratingRow : OpenClaim := { program := "ytmhlkopkcgmpjaa", sum := "fefa51c41933aaabd8248cf89b8c7f62e3f4d22dff24d4e7da476430c906116c", func := "loop.example/g01078/laws.FnExactIsGenerating", spec := "fnExactIsGenerating", apart := false }
def FnExactIsGeneratingSaid : Prop := fnExactIsGeneratingRow.holds Try.pinned (OpenSpec.ofChange fnExactIsGeneratingSpec)

/-- ITS FALSE NEIGHBOUR: 'it returns false'. Refute it at one input. -/
def fnExactIsGeneratingWrong : ChangeSpec := { name := "fnExactIsGenerating", fn := fun _ => fun
  | [d1, d2] => { results := [.lit (.bool false)], args := [d1, d2] }
  | _ => none }
def FnExactIsGeneratingWrongFalsely : Prop := fnExactIsGeneratingRow.holds Try.pinned (OpenSpec.ofChange fnExactIsGeneratingWrong)

/-- 'laws.FnExactIsIndependent': WHATEVER THE INPUT: true; the input reads as it did. -/
def fnExactIsIndependentSpec : ChangeSpec := { name := "fnExactIsIndependent", fn := fun _ => fun
  | [d1, d2] => { results := [.lit (.bool true)], args := [d1, d2] }
  | _ => none }
def fnExactIsIndependentRow : OpenClaim := { program := "ytmhlkopkcgmpjaa", sum := "fefa51c41933aaabd8248cf89b8c7f62e3f4d22dff24d4e7da476430c906116c", func := "loop.example/g01078/laws.FnExactIsIndependent", spec := "fnExactIsIndependent", apart := false }
def FnExactIsIndependentSaid : Prop := fnExactIsIndependentRow.holds Try.pinned (OpenSpec.ofChange fnExactIsIndependentSpec)

/-- ITS FALSE NEIGHBOUR: 'it returns false'. Refute it at one input. -/
def fnExactIsIndependentWrong : ChangeSpec := { name := "fnExactIsIndependent", fn := fun _ => fun
  | [d1, d2] => { results := [.lit (.bool false)], args := [d1, d2] }
  | _ => none }
def FnExactIsIndependentWrongFalsely : Prop := fnExactIsIndependentRow.holds Try.pinned (OpenSpec.ofChange fnExactIsIndependentWrong)

/-- 'laws.FnExactDepthOf': WHATEVER THE INPUT: true; the input reads as it did. -/
def fnExactDepthOfSpec : ChangeSpec := { name := "fnExactDepthOf", fn := fun _ => fun
  | [d1, d2] => { results := [.lit (.bool true)], args := [d1, d2] }
  | _ => none }
def fnExactDepthOfRow : OpenClaim := { program := "ytmhlkopkcgmpjaa", sum := "fefa51c41933aaabd8248cf89b8c7f62e3f4d22dff24d4e7da476430c906116c", func := "loop.example/g01078/laws.FnExactDepthOf", spec := "fnExactDepthOf", unfollowed := true, recurses := true, apart := false }
def FnExactDepthOfSaid : Prop := fnExactDepthOfRow.holds Try.pinned (OpenSpec.ofChange fnExactDepthOfSpec)

/-- ITS FALSE NEIGHBOUR: 'it returns false'. Refute it at one input. -/
def fnExactDepthOfWrong : ChangeSpec := { name := "fnExactDepthOf", fn := fun _ => fun
  | [d1, d2] => { results := [.lit (.bool false)], args := [d1, d2] }
  | _ => none }
def FnExactDepthOfWrongFalsely : Prop := fnExactDepthOfRow.holds Try.pinned (OpenSpec.ofChange fnExactDepthOfWrong)

/-- 'laws.FnExactMatchTerm': WHATEVER THE INPUT: true; the input reads as it did. -/
def fnExactMatchTermSpec : ChangeSpec := { name := "fnExactMatchTerm", fn := fun _ => fun
  | [d1, d2, d3] => { results := [.lit (.bool true)], args := [d1, d2, d3] }
  | _ => none }
def fnExactMatchTermRow : OpenClaim := { program := "ytmhlkopkcgmpjaa", sum := "fefa51c41933aaabd8248cf89b8c7f62e3f4d22dff24d4e7da476430c906116c", func := "loop.example/g01078/laws.FnExactMatchTerm", spec := "fnExactMatchTerm", apart := false }
def FnExactMatchTermSaid : Prop := fnExactMatchTermRow.holds Try.pinned (OpenSpec.ofChange fnExactMatchTermSpec)

/-- ITS FALSE NEIGHBOUR: 'it returns false'. Refute it at one input. -/
def fnExactMatchTermWrong : ChangeSpec := { name := "fnExactMatchTerm", fn := fun _ => fun
  | [d1, d2, d3] => { results := [.lit (.bool false)], args := [d1, d2, d3] }
  | _ => none }
def FnExactMatchTermWrongFalsely : Prop := fnExactMatchTermRow.holds Try.pinned (OpenSpec.ofChange fnExactMatchTermWrong)

/- THE SECOND FORM. 'bulk': how many values and letters a reading holds, each counted each time it is reached (what is shared counts as often as it is met; a slice's spare places count too). A statement '..UptoSaid' is the law's where the arguments, and the package variables that the reading takes, are together of bulk at most 1048576: NARROWER than '..Said'. Prove '..Said' where nothing that the law and all that it calls make is longer than what came in: it says more and counts as full. Else prove '..UptoSaid'. A law counts once. -/
mutual
def uptoBulk {H : Type} : DataW H → Nat
  | .lit (.string bytes) => bytes.length + 1
  | .lit _ => 1
  | .nil => 1
  | .ptr d => uptoBulk d + 1
  | .slice elems spare => uptoBulkAll elems + uptoBulkAll spare + 1
  | .agg parts => uptoBulkAll parts + 1
  | .iface _ d => uptoBulk d + 1
  | .map entries => uptoBulkEntries entries + 1
  | .held _ => 1
def uptoBulkAll {H : Type} : List (DataW H) → Nat
  | [] => 0
  | d :: r => uptoBulk d + uptoBulkAll r
def uptoBulkEntries {H : Type} : List (Lit × DataW H) → Nat
  | [] => 0
  | x :: r => uptoBulkEntry x + uptoBulkEntries r
def uptoBulkEntry {H : Type} : Lit × DataW H → Nat
  | (.string bytes, d) => bytes.length + uptoBulk d + 1
  | (_, d) => uptoBulk d + 1
 end
def uptoSmall : (H : Type) → List (DataW H) → Bool := fun _ ds => decide (uptoBulkAll ds ≤ 1048576)
def OpenSpec.upto (s : _root_.Go.ChangeSpec) : _root_.Go.OpenSpec := { _root_.Go.OpenSpec.ofChange s with cond := some uptoSmall }

/-- 'laws.FnExactIsSubuniverse', WHERE WHAT IT READS IS OF BULK AT MOST 1048576: true; the input reads as it did. -/
def fnExactIsSubuniverseUptoRow : OpenClaim := { program := "ytmhlkopkcgmpjaa", sum := "fefa51c41933aaabd8248cf89b8c7f62e3f4d22dff24d4e7da476430c906116c", func := "loop.example/g01078/laws.FnExactIsSubuniverse", spec := "fnExactIsSubuniverse", apart := false, narrowed := true }
def FnExactIsSubuniverseUptoSaid : Prop := fnExactIsSubuniverseUptoRow.holds Try.pinned (OpenSpec.upto fnExactIsSubuniverseSpec)

/-- 'laws.FnExactGenerateSub', WHERE WHAT IT READS IS OF BULK AT MOST 1048576: true; the input reads as it did. -/
def fnExactGenerateSubUptoRow : OpenClaim := { program := "ytmhlkopkcgmpjaa", sum := "fefa51c41933aaabd8248cf89b8c7f62e3f4d22dff24d4e7da476430c906116c", func := "loop.example/g01078/laws.FnExactGenerateSub", spec := "fnExactGenerateSub", apart := false, narrowed := true }
def FnExactGenerateSubUptoSaid : Prop := fnExactGenerateSubUptoRow.holds Try.pinned (OpenSpec.upto fnExactGenerateSubSpec)

/-- 'laws.FnExactGenerationRounds', WHERE WHAT IT READS IS OF BULK AT MOST 1048576: true; the input reads as it did. -/
def fnExactGenerationRoundsUptoRow : OpenClaim := { program := "ytmhlkopkcgmpjaa", sum := "fefa51c41933aaabd8248cf89b8c7f62e3f4d22dff24d4e7da476430c906116c", func := "loop.example/g01078/laws.FnExactGenerationRounds", spec := "fnExactGenerationRounds", apart := false, narrowed := true }
def FnExactGenerationRoundsUptoSaid : Prop := fnExactGenerationRoundsUptoRow.holds Try.pinned (OpenSpec.upto fnExactGenerationRoundsSpec)

/-- 'laws.FnExactSubalgebraOf', WHERE WHAT IT READS IS OF BULK AT MOST 1048576: true; the input reads as it did. -/
def fnExactSubalgebraOfUptoRow : OpenClaim := { program := "ytmhlkopkcgmpjaa", sum := "fefa51c41933aaabd8248cf89b8c7f62e3f4d22dff24d4e7da476430c906116c", func := "loop.example/g01078/laws.FnExactSubalgebraOf", spec := "fnExactSubalgebraOf", apart := false, narrowed := true }
def FnExactSubalgebraOfUptoSaid : Prop := fnExactSubalgebraOfUptoRow.holds Try.pinned (OpenSpec.upto fnExactSubalgebraOfSpec)

/-- 'laws.FnExactMeetSubs', WHERE WHAT IT READS IS OF BULK AT MOST 1048576: true; the input reads as it did. -/
def fnExactMeetSubsUptoRow : OpenClaim := { program := "ytmhlkopkcgmpjaa", sum := "fefa51c41933aaabd8248cf89b8c7f62e3f4d22dff24d4e7da476430c906116c", func := "loop.example/g01078/laws.FnExactMeetSubs", spec := "fnExactMeetSubs", apart := false, narrowed := true }
def FnExactMeetSubsUptoSaid : Prop := fnExactMeetSubsUptoRow.holds Try.pinned (OpenSpec.upto fnExactMeetSubsSpec)

/-- 'laws.FnExactJoinSubs', WHERE WHAT IT READS IS OF BULK AT MOST 1048576: true; the input reads as it did. -/
def fnExactJoinSubsUptoRow : OpenClaim := { program := "ytmhlkopkcgmpjaa", sum := "fefa51c41933aaabd8248cf89b8c7f62e3f4d22dff24d4e7da476430c906116c", func := "loop.example/g01078/laws.FnExactJoinSubs", spec := "fnExactJoinSubs", apart := false, narrowed := true }
def FnExactJoinSubsUptoSaid : Prop := fnExactJoinSubsUptoRow.holds Try.pinned (OpenSpec.upto fnExactJoinSubsSpec)

/-- 'laws.FnExactIsGenerating', WHERE WHAT IT READS IS OF BULK AT MOST 1048576: true; the input reads as it did. -/
def fnExactIsGeneratingUptoRow : OpenClaim := { program := "ytmhlkopkcgmpjaa", sum := "fefa51c41933aaabd8248cf89b8c7f62e3f4d22dff24d4e7da476430c906116c", func := "loop.example/g01078/laws.FnExactIsGenerating", spec := "fnExactIsGenerating", apart := false, narrowed := true }
def FnExactIsGeneratingUptoSaid : Prop := fnExactIsGeneratingUptoRow.holds Try.pinned (OpenSpec.upto fnExactIsGeneratingSpec)

/-- 'laws.FnExactIsIndependent', WHERE WHAT IT READS IS OF BULK AT MOST 1048576: true; the input reads as it did. -/
def fnExactIsIndependentUptoRow : OpenClaim := { program := "ytmhlkopkcgmpjaa", sum := "fefa51c41933aaabd8248cf89b8c7f62e3f4d22dff24d4e7da476430c906116c", func := "loop.example/g01078/laws.FnExactIsIndependent", spec := "fnExactIsIndependent", apart := false, narrowed := true }
def FnExactIsIndependentUptoSaid : Prop := fnExactIsIndependentUptoRow.holds Try.pinned (OpenSpec.upto fnExactIsIndependentSpec)

/-- 'laws.FnExactDepthOf', WHERE WHAT IT READS IS OF BULK AT MOST 1048576: true; the input reads as it did. -/
def fnExactDepthOfUptoRow : OpenClaim := { program := "ytmhlkopkcgmpjaa", sum := "fefa51c41933aaabd8248cf89b8c7f62e3f4d22dff24d4e7da476430c906116c", func := "loop.example/g01078/laws.FnExactDepthOf", spec := "fnExactDepthOf", unfollowed := true, recurses := true, apart := false, narrowed := true }
def FnExactDepthOfUptoSaid : Prop := fnExactDepthOfUptoRow.holds Try.pinned (OpenSpec.upto fnExactDepthOfSpec)

/-- 'laws.FnExactMatchTerm', WHERE WHAT IT READS IS OF BULK AT MOST 1048576: true; the input reads as it did. -/
def fnExactMatchTermUptoRow : OpenClaim := { program := "ytmhlkopkcgmpjaa", sum := "fefa51c41933aaabd8248cf89b8c7f62e3f4d22dff24d4e7da476430c906116c", func := "loop.example/g01078/laws.FnExactMatchTerm", spec := "fnExactMatchTerm", apart := false, narrowed := true }
def FnExactMatchTermUptoSaid : Prop := fnExactMatchTermUptoRow.holds Try.pinned (OpenSpec.upto fnExactMatchTermSpec)

end Rows
end Go.Proofs.Ytmhlkopkcgmpjaa
