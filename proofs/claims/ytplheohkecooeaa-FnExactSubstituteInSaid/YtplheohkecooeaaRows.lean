/-
  No cell of these rows narrows 'for every input' (looked for: loops, veiled, ifaces, maps, wideKeys, modest, calm, conditions, laid).
  DERIVED. THE GIVEN ROWS OF THIS SEAT. 12 by the template 'for every input the law returns true; each argument reads behind the call as it read before'; 0 by the template 'total and deterministic' (their statements: YtplheohkecooeaaTotals.lean).
  GIVEN WITH THE SEED: the statements are not yours to turn. If you find one false, say at which input.
  Laid BY PROGRAM, IN A SANDBOX (cutbox-rows.mjs): the forced cells as the released guide's own fill.sh prints them over the translation 4f06e96d24d6dafd… (all of the seat's roots in one cut). By AI agents, Wed Nov 11 2026. No macro, syntax, notation, axiom, sorry.
-/
import Derived.Test.YtplheohkecooeaaChecked
import GoSem.Claim
import GoSem.ClaimJoined
import GoSem.ClaimMapViews
import Derived.JoinedTies
import Derived.KernelRfl
namespace Go.Proofs.Ytplheohkecooeaa
/- THE CELL 'sum', in the pinned program and in every row, IS THE sha256 OF THE DUMP (.gsa) THAT YtplheohkecooeaaProg.lean LOADS. Nothing in Lean hashes anything: it is a label: what it is worth is what the hold of that sum in a sandbox is worth. -/
noncomputable def Try.pinned : Pinned := { name := "ytplheohkecooeaa", sum := "4f06e96d24d6dafde7f685778a25745a90f53ca47030497d905464b905c196d2", checked := Try.checked }
namespace Rows
def none {H : Type} : Left H := { results := [], args := [] }

/-- 'laws.FnExactIsTerm': WHATEVER THE INPUT: true; the input reads as it did. -/
def fnExactIsTermSpec : ChangeSpec := { name := "fnExactIsTerm", fn := fun _ => fun
  | [d1, d2] => { results := [.lit (.bool true)], args := [d1, d2] }
  | _ => none }
def fnExactIsTermRow : OpenClaim := { program := "ytplheohkecooeaa", sum := "4f06e96d24d6dafde7f685778a25745a90f53ca47030497d905464b905c196d2", func := "loop.example/g01078/laws.FnExactIsTerm", spec := "fnExactIsTerm", apart := false }
def FnExactIsTermSaid : Prop := fnExactIsTermRow.holds Try.pinned (OpenSpec.ofChange fnExactIsTermSpec)

/-- ITS FALSE NEIGHBOUR: 'it returns false'. Refute it at one input. -/
def fnExactIsTermWrong : ChangeSpec := { name := "fnExactIsTerm", fn := fun _ => fun
  | [d1, d2] => { results := [.lit (.bool false)], args := [d1, d2] }
  | _ => none }
def FnExactIsTermWrongFalsely : Prop := fnExactIsTermRow.holds Try.pinned (OpenSpec.ofChange fnExactIsTermWrong)

/-- 'laws.FnExactVarsOf': WHATEVER THE INPUT: true; the input reads as it did. -/
def fnExactVarsOfSpec : ChangeSpec := { name := "fnExactVarsOf", fn := fun _ => fun
  | [d1, d2] => { results := [.lit (.bool true)], args := [d1, d2] }
  | _ => none }
def fnExactVarsOfRow : OpenClaim := { program := "ytplheohkecooeaa", sum := "4f06e96d24d6dafde7f685778a25745a90f53ca47030497d905464b905c196d2", func := "loop.example/g01078/laws.FnExactVarsOf", spec := "fnExactVarsOf", apart := false }
def FnExactVarsOfSaid : Prop := fnExactVarsOfRow.holds Try.pinned (OpenSpec.ofChange fnExactVarsOfSpec)

/-- ITS FALSE NEIGHBOUR: 'it returns false'. Refute it at one input. -/
def fnExactVarsOfWrong : ChangeSpec := { name := "fnExactVarsOf", fn := fun _ => fun
  | [d1, d2] => { results := [.lit (.bool false)], args := [d1, d2] }
  | _ => none }
def FnExactVarsOfWrongFalsely : Prop := fnExactVarsOfRow.holds Try.pinned (OpenSpec.ofChange fnExactVarsOfWrong)

/-- 'laws.FnExactSubtermAt': WHATEVER THE INPUT: true; the input reads as it did. -/
def fnExactSubtermAtSpec : ChangeSpec := { name := "fnExactSubtermAt", fn := fun _ => fun
  | [d1, d2, d3] => { results := [.lit (.bool true)], args := [d1, d2, d3] }
  | _ => none }
def fnExactSubtermAtRow : OpenClaim := { program := "ytplheohkecooeaa", sum := "4f06e96d24d6dafde7f685778a25745a90f53ca47030497d905464b905c196d2", func := "loop.example/g01078/laws.FnExactSubtermAt", spec := "fnExactSubtermAt", apart := false }
def FnExactSubtermAtSaid : Prop := fnExactSubtermAtRow.holds Try.pinned (OpenSpec.ofChange fnExactSubtermAtSpec)

/-- ITS FALSE NEIGHBOUR: 'it returns false'. Refute it at one input. -/
def fnExactSubtermAtWrong : ChangeSpec := { name := "fnExactSubtermAt", fn := fun _ => fun
  | [d1, d2, d3] => { results := [.lit (.bool false)], args := [d1, d2, d3] }
  | _ => none }
def FnExactSubtermAtWrongFalsely : Prop := fnExactSubtermAtRow.holds Try.pinned (OpenSpec.ofChange fnExactSubtermAtWrong)

/-- 'laws.FnExactReplaceAt': WHATEVER THE INPUT: true; the input reads as it did. -/
def fnExactReplaceAtSpec : ChangeSpec := { name := "fnExactReplaceAt", fn := fun _ => fun
  | [d1, d2, d3, d4] => { results := [.lit (.bool true)], args := [d1, d2, d3, d4] }
  | _ => none }
def fnExactReplaceAtRow : OpenClaim := { program := "ytplheohkecooeaa", sum := "4f06e96d24d6dafde7f685778a25745a90f53ca47030497d905464b905c196d2", func := "loop.example/g01078/laws.FnExactReplaceAt", spec := "fnExactReplaceAt", apart := false }
def FnExactReplaceAtSaid : Prop := fnExactReplaceAtRow.holds Try.pinned (OpenSpec.ofChange fnExactReplaceAtSpec)

/-- ITS FALSE NEIGHBOUR: 'it returns false'. Refute it at one input. -/
def fnExactReplaceAtWrong : ChangeSpec := { name := "fnExactReplaceAt", fn := fun _ => fun
  | [d1, d2, d3, d4] => { results := [.lit (.bool false)], args := [d1, d2, d3, d4] }
  | _ => none }
def FnExactReplaceAtWrongFalsely : Prop := fnExactReplaceAtRow.holds Try.pinned (OpenSpec.ofChange fnExactReplaceAtWrong)

/-- 'laws.FnExactSubstituteIn': WHATEVER THE INPUT: true; the input reads as it did. -/
def fnExactSubstituteInSpec : ChangeSpec := { name := "fnExactSubstituteIn", fn := fun _ => fun
  | [d1, d2, d3] => { results := [.lit (.bool true)], args := [d1, d2, d3] }
  | _ => none }
def fnExactSubstituteInRow : OpenClaim := { program := "ytplheohkecooeaa", sum := "4f06e96d24d6dafde7f685778a25745a90f53ca47030497d905464b905c196d2", func := "loop.example/g01078/laws.FnExactSubstituteIn", spec := "fnExactSubstituteIn", apart := false }
def FnExactSubstituteInSaid : Prop := fnExactSubstituteInRow.holds Try.pinned (OpenSpec.ofChange fnExactSubstituteInSpec)

/-- ITS FALSE NEIGHBOUR: 'it returns false'. Refute it at one input. -/
def fnExactSubstituteInWrong : ChangeSpec := { name := "fnExactSubstituteIn", fn := fun _ => fun
  | [d1, d2, d3] => { results := [.lit (.bool false)], args := [d1, d2, d3] }
  | _ => none }
def FnExactSubstituteInWrongFalsely : Prop := fnExactSubstituteInRow.holds Try.pinned (OpenSpec.ofChange fnExactSubstituteInWrong)

/-- 'laws.FnExactEvalTerm': WHATEVER THE INPUT: true; the input reads as it did. -/
def fnExactEvalTermSpec : ChangeSpec := { name := "fnExactEvalTerm", fn := fun _ => fun
  | [d1, d2, d3] => { results := [.lit (.bool true)], args := [d1, d2, d3] }
  | _ => none }
def fnExactEvalTermRow : OpenClaim := { program := "ytplheohkecooeaa", sum := "4f06e96d24d6dafde7f685778a25745a90f53ca47030497d905464b905c196d2", func := "loop.example/g01078/laws.FnExactEvalTerm", spec := "fnExactEvalTerm", unfollowed := true, recurses := true, apart := false }
def FnExactEvalTermSaid : Prop := fnExactEvalTermRow.holds Try.pinned (OpenSpec.ofChange fnExactEvalTermSpec)

/-- ITS FALSE NEIGHBOUR: 'it returns false'. Refute it at one input. -/
def fnExactEvalTermWrong : ChangeSpec := { name := "fnExactEvalTerm", fn := fun _ => fun
  | [d1, d2, d3] => { results := [.lit (.bool false)], args := [d1, d2, d3] }
  | _ => none }
def FnExactEvalTermWrongFalsely : Prop := fnExactEvalTermRow.holds Try.pinned (OpenSpec.ofChange fnExactEvalTermWrong)

/-- 'laws.FnExactTermOp': WHATEVER THE INPUT: true; the input reads as it did. -/
def fnExactTermOpSpec : ChangeSpec := { name := "fnExactTermOp", fn := fun _ => fun
  | [d1, d2, d3] => { results := [.lit (.bool true)], args := [d1, d2, d3] }
  | _ => none }
def fnExactTermOpRow : OpenClaim := { program := "ytplheohkecooeaa", sum := "4f06e96d24d6dafde7f685778a25745a90f53ca47030497d905464b905c196d2", func := "loop.example/g01078/laws.FnExactTermOp", spec := "fnExactTermOp", unfollowed := true, recurses := true, apart := false }
def FnExactTermOpSaid : Prop := fnExactTermOpRow.holds Try.pinned (OpenSpec.ofChange fnExactTermOpSpec)

/-- ITS FALSE NEIGHBOUR: 'it returns false'. Refute it at one input. -/
def fnExactTermOpWrong : ChangeSpec := { name := "fnExactTermOp", fn := fun _ => fun
  | [d1, d2, d3] => { results := [.lit (.bool false)], args := [d1, d2, d3] }
  | _ => none }
def FnExactTermOpWrongFalsely : Prop := fnExactTermOpRow.holds Try.pinned (OpenSpec.ofChange fnExactTermOpWrong)

/-- 'laws.FnExactCompareTerms': WHATEVER THE INPUT: true; the input reads as it did. -/
def fnExactCompareTermsSpec : ChangeSpec := { name := "fnExactCompareTerms", fn := fun _ => fun
  | [d1, d2, d3] => { results := [.lit (.bool true)], args := [d1, d2, d3] }
  | _ => none }
def fnExactCompareTermsRow : OpenClaim := { program := "ytplheohkecooeaa", sum := "4f06e96d24d6dafde7f685778a25745a90f53ca47030497d905464b905c196d2", func := "loop.example/g01078/laws.FnExactCompareTerms", spec := "fnExactCompareTerms", apart := false }
def FnExactCompareTermsSaid : Prop := fnExactCompareTermsRow.holds Try.pinned (OpenSpec.ofChange fnExactCompareTermsSpec)

/-- ITS FALSE NEIGHBOUR: 'it returns false'. Refute it at one input. -/
def fnExactCompareTermsWrong : ChangeSpec := { name := "fnExactCompareTerms", fn := fun _ => fun
  | [d1, d2, d3] => { results := [.lit (.bool false)], args := [d1, d2, d3] }
  | _ => none }
def FnExactCompareTermsWrongFalsely : Prop := fnExactCompareTermsRow.holds Try.pinned (OpenSpec.ofChange fnExactCompareTermsWrong)

/-- 'laws.FnExactNormalVars': WHATEVER THE INPUT: true; the input reads as it did. -/
def fnExactNormalVarsSpec : ChangeSpec := { name := "fnExactNormalVars", fn := fun _ => fun
  | [d1, d2] => { results := [.lit (.bool true)], args := [d1, d2] }
  | _ => none }
def fnExactNormalVarsRow : OpenClaim := { program := "ytplheohkecooeaa", sum := "4f06e96d24d6dafde7f685778a25745a90f53ca47030497d905464b905c196d2", func := "loop.example/g01078/laws.FnExactNormalVars", spec := "fnExactNormalVars", apart := false }
def FnExactNormalVarsSaid : Prop := fnExactNormalVarsRow.holds Try.pinned (OpenSpec.ofChange fnExactNormalVarsSpec)

/-- ITS FALSE NEIGHBOUR: 'it returns false'. Refute it at one input. -/
def fnExactNormalVarsWrong : ChangeSpec := { name := "fnExactNormalVars", fn := fun _ => fun
  | [d1, d2] => { results := [.lit (.bool false)], args := [d1, d2] }
  | _ => none }
def FnExactNormalVarsWrongFalsely : Prop := fnExactNormalVarsRow.holds Try.pinned (OpenSpec.ofChange fnExactNormalVarsWrong)

/-- 'laws.FnExactDoesHold': WHATEVER THE INPUT: true; the input reads as it did. -/
def fnExactDoesHoldSpec : ChangeSpec := { name := "fnExactDoesHold", fn := fun _ => fun
  | [d1, d2] => { results := [.lit (.bool true)], args := [d1, d2] }
  | _ => none }
def fnExactDoesHoldRow : OpenClaim := { program := "ytplheohkecooeaa", sum := "4f06e96d24d6dafde7f685778a25745a90f53ca47030497d905464b905c196d2", func := "loop.example/g01078/laws.FnExactDoesHold", spec := "fnExactDoesHold", unfollowed := true, recurses := true, apart := false }
def FnExactDoesHoldSaid : Prop := fnExactDoesHoldRow.holds Try.pinned (OpenSpec.ofChange fnExactDoesHoldSpec)

/-- ITS FALSE NEIGHBOUR: 'it returns false'. Refute it at one input. -/
def fnExactDoesHoldWrong : ChangeSpec := { name := "fnExactDoesHold", fn := fun _ => fun
  | [d1, d2] => { results := [.lit (.bool false)], args := [d1, d2] }
  | _ => none }
def FnExactDoesHoldWrongFalsely : Prop := fnExactDoesHoldRow.holds Try.pinned (OpenSpec.ofChange fnExactDoesHoldWrong)

/-- 'laws.FnExactFirstCounter': WHATEVER THE INPUT: true; the input reads as it did. -/
def fnExactFirstCounterSpec : ChangeSpec := { name := "fnExactFirstCounter", fn := fun _ => fun
  | [d1, d2] => { results := [.lit (.bool true)], args := [d1, d2] }
  | _ => none }
def fnExactFirstCounterRow : OpenClaim := { program := "ytplheohkecooeaa", sum := "4f06e96d24d6dafde7f685778a25745a90f53ca47030497d905464b905c196d2", func := "loop.example/g01078/laws.FnExactFirstCounter", spec := "fnExactFirstCounter", unfollowed := true, recurses := true, apart := false }
def FnExactFirstCounterSaid : Prop := fnExactFirstCounterRow.holds Try.pinned (OpenSpec.ofChange fnExactFirstCounterSpec)

/-- ITS FALSE NEIGHBOUR: 'it returns false'. Refute it at one input. -/
def fnExactFirstCounterWrong : ChangeSpec := { name := "fnExactFirstCounter", fn := fun _ => fun
  | [d1, d2] => { results := [.lit (.bool false)], args := [d1, d2] }
  | _ => none }
def FnExactFirstCounterWrongFalsely : Prop := fnExactFirstCounterRow.holds Try.pinned (OpenSpec.ofChange fnExactFirstCounterWrong)

/-- 'laws.FnExactFirstBroken': WHATEVER THE INPUT: true; the input reads as it did. -/
def fnExactFirstBrokenSpec : ChangeSpec := { name := "fnExactFirstBroken", fn := fun _ => fun
  | [d1, d2] => { results := [.lit (.bool true)], args := [d1, d2] }
  | _ => none }
def fnExactFirstBrokenRow : OpenClaim := { program := "ytplheohkecooeaa", sum := "4f06e96d24d6dafde7f685778a25745a90f53ca47030497d905464b905c196d2", func := "loop.example/g01078/laws.FnExactFirstBroken", spec := "fnExactFirstBroken", unfollowed := true, recurses := true, apart := false }
def FnExactFirstBrokenSaid : Prop := fnExactFirstBrokenRow.holds Try.pinned (OpenSpec.ofChange fnExactFirstBrokenSpec)

/-- ITS FALSE NEIGHBOUR: 'it returns false'. Refute it at one input. -/
def fnExactFirstBrokenWrong : ChangeSpec := { name := "fnExactFirstBroken", fn := fun _ => fun
  | [d1, d2] => { results := [.lit (.bool false)], args := [d1, d2] }
  | _ => none }
def FnExactFirstBrokenWrongFalsely : Prop := fnExactFirstBrokenRow.holds Try.pinned (OpenSpec.ofChange fnExactFirstBrokenWrong)

/- THE SECOND FORM. 'bulk': how many values and letters a reading holds, each counted each time it is reached (what is shared counts as often as it is met; a slice's spare places count too). A statement '..UptoSaid' is the law's where the arguments, and the package variables that the reading takes, are together of bulk at most 1048576: NARROWER than '..Said'. Prove '..Said' where nothing that the law and all that it calls make is longer than what came in: it says more and counts as full. Else prove '..UptoSaid'. A law counts once. -/
mutual
def uptoBulk {H : Type} : DataW H → Nat
  | .lit (.string bytes) => bytes.length + 1
  | .lit _ => 1
  | .nil => 1
  | .ptr d => uptoBulk d + 1
  | .slice elems spare => uptoBulkAll elems + uptoBulkAll spare + 1
  | .agg parts => uptoBulkAll parts + 1
  | .iface _ d => uptoBulk d + 1
  | .map entries => uptoBulkEntries entries + 1
  | .held _ => 1
def uptoBulkAll {H : Type} : List (DataW H) → Nat
  | [] => 0
  | d :: r => uptoBulk d + uptoBulkAll r
def uptoBulkEntries {H : Type} : List (Lit × DataW H) → Nat
  | [] => 0
  | x :: r => uptoBulkEntry x + uptoBulkEntries r
def uptoBulkEntry {H : Type} : Lit × DataW H → Nat
  | (.string bytes, d) => bytes.length + uptoBulk d + 1
  | (_, d) => uptoBulk d + 1
 end
def uptoSmall : (H : Type) → List (DataW H) → Bool := fun _ ds => decide (uptoBulkAll ds ≤ 1048576)
def OpenSpec.upto (s : _root_.Go.ChangeSpec) : _root_.Go.OpenSpec := { _root_.Go.OpenSpec.ofChange s with cond := some uptoSmall }

/-- 'laws.FnExactIsTerm', WHERE WHAT IT READS IS OF BULK AT MOST 1048576: true; the input reads as it did. -/
def fnExactIsTermUptoRow : OpenClaim := { program := "ytplheohkecooeaa", sum := "4f06e96d24d6dafde7f685778a25745a90f53ca47030497d905464b905c196d2", func := "loop.example/g01078/laws.FnExactIsTerm", spec := "fnExactIsTerm", apart := false, narrowed := true }
def FnExactIsTermUptoSaid : Prop := fnExactIsTermUptoRow.holds Try.pinned (OpenSpec.upto fnExactIsTermSpec)

/-- 'laws.FnExactVarsOf', WHERE WHAT IT READS IS OF BULK AT MOST 1048576: true; the input reads as it did. -/
def fnExactVarsOfUptoRow : OpenClaim := { program := "ytplheohkecooeaa", sum := "4f06e96d24d6dafde7f685778a25745a90f53ca47030497d905464b905c196d2", func := "loop.example/g01078/laws.FnExactVarsOf", spec := "fnExactVarsOf", apart := false, narrowed := true }
def FnExactVarsOfUptoSaid : Prop := fnExactVarsOfUptoRow.holds Try.pinned (OpenSpec.upto fnExactVarsOfSpec)

/-- 'laws.FnExactSubtermAt', WHERE WHAT IT READS IS OF BULK AT MOST 1048576: true; the input reads as it did. -/
def fnExactSubtermAtUptoRow : OpenClaim := { program := "ytplheohkecooeaa", sum := "4f06e96d24d6dafde7f685778a25745a90f53ca47030497d905464b905c196d2", func := "loop.example/g01078/laws.FnExactSubtermAt", spec := "fnExactSubtermAt", apart := false, narrowed := true }
def FnExactSubtermAtUptoSaid : Prop := fnExactSubtermAtUptoRow.holds Try.pinned (OpenSpec.upto fnExactSubtermAtSpec)

/-- 'laws.FnExactReplaceAt', WHERE WHAT IT READS IS OF BULK AT MOST 1048576: true; the input reads as it did. -/
def fnExactReplaceAtUptoRow : OpenClaim := { program := "ytplheohkecooeaa", sum := "4f06e96d24d6dafde7f685778a25745a90f53ca47030497d905464b905c196d2", func := "loop.example/g01078/laws.FnExactReplaceAt", spec := "fnExactReplaceAt", apart := false, narrowed := true }
def FnExactReplaceAtUptoSaid : Prop := fnExactReplaceAtUptoRow.holds Try.pinned (OpenSpec.upto fnExactReplaceAtSpec)

/-- 'laws.FnExactSubstituteIn', WHERE WHAT IT READS IS OF BULK AT MOST 1048576: true; the input reads as it did. -/
def fnExactSubstituteInUptoRow : OpenClaim := { program := "ytplheohkecooeaa", sum := "4f06e96d24d6dafde7f685778a25745a90f53ca47030497d905464b905c196d2", func := "loop.example/g01078/laws.FnExactSubstituteIn", spec := "fnExactSubstituteIn", apart := false, narrowed := true }
def FnExactSubstituteInUptoSaid : Prop := fnExactSubstituteInUptoRow.holds Try.pinned (OpenSpec.upto fnExactSubstituteInSpec)

/-- 'laws.FnExactEvalTerm', WHERE WHAT IT READS IS OF BULK AT MOST 1048576: true; the input reads as it did. -/
def fnExactEvalTermUptoRow : OpenClaim := { program := "ytplheohkecooeaa", sum := "4f06e96d24d6dafde7f685778a25745a90f53ca47030497d905464b905c196d2", func := "loop.example/g01078/laws.FnExactEvalTerm", spec := "fnExactEvalTerm", unfollowed := true, recurses := true, apart := false, narrowed := true }
def FnExactEvalTermUptoSaid : Prop := fnExactEvalTermUptoRow.holds Try.pinned (OpenSpec.upto fnExactEvalTermSpec)

/-- 'laws.FnExactTermOp', WHERE WHAT IT READS IS OF BULK AT MOST 1048576: true; the input reads as it did. -/
def fnExactTermOpUptoRow : OpenClaim := { program := "ytplheohkecooeaa", sum := "4f06e96d24d6dafde7f685778a25745a90f53ca47030497d905464b905c196d2", func := "loop.example/g01078/laws.FnExactTermOp", spec := "fnExactTermOp", unfollowed := true, recurses := true, apart := false, narrowed := true }
def FnExactTermOpUptoSaid : Prop := fnExactTermOpUptoRow.holds Try.pinned (OpenSpec.upto fnExactTermOpSpec)

/-- 'laws.FnExactCompareTerms', WHERE WHAT IT READS IS OF BULK AT MOST 1048576: true; the input reads as it did. -/
def fnExactCompareTermsUptoRow : OpenClaim := { program := "ytplheohkecooeaa", sum := "4f06e96d24d6dafde7f685778a25745a90f53ca47030497d905464b905c196d2", func := "loop.example/g01078/laws.FnExactCompareTerms", spec := "fnExactCompareTerms", apart := false, narrowed := true }
def FnExactCompareTermsUptoSaid : Prop := fnExactCompareTermsUptoRow.holds Try.pinned (OpenSpec.upto fnExactCompareTermsSpec)

/-- 'laws.FnExactNormalVars', WHERE WHAT IT READS IS OF BULK AT MOST 1048576: true; the input reads as it did. -/
def fnExactNormalVarsUptoRow : OpenClaim := { program := "ytplheohkecooeaa", sum := "4f06e96d24d6dafde7f685778a25745a90f53ca47030497d905464b905c196d2", func := "loop.example/g01078/laws.FnExactNormalVars", spec := "fnExactNormalVars", apart := false, narrowed := true }
def FnExactNormalVarsUptoSaid : Prop := fnExactNormalVarsUptoRow.holds Try.pinned (OpenSpec.upto fnExactNormalVarsSpec)

/-- 'laws.FnExactDoesHold', WHERE WHAT IT READS IS OF BULK AT MOST 1048576: true; the input reads as it did. -/
def fnExactDoesHoldUptoRow : OpenClaim := { program := "ytplheohkecooeaa", sum := "4f06e96d24d6dafde7f685778a25745a90f53ca47030497d905464b905c196d2", func := "loop.example/g01078/laws.FnExactDoesHold", spec := "fnExactDoesHold", unfollowed := true, recurses := true, apart := false, narrowed := true }
def FnExactDoesHoldUptoSaid : Prop := fnExactDoesHoldUptoRow.holds Try.pinned (OpenSpec.upto fnExactDoesHoldSpec)

/-- 'laws.FnExactFirstCounter', WHERE WHAT IT READS IS OF BULK AT MOST 1048576: true; the input reads as it did. -/
def fnExactFirstCounterUptoRow : OpenClaim := { program := "ytplheohkecooeaa", sum := "4f06e96d24d6dafde7f685778a25745a90f53ca47030497d905464b905c196d2", func := "loop.example/g01078/laws.FnExactFirstCounter", spec := "fnExactFirstCounter", unfollowed := true, recurses := true, apart := false, narrowed := true }
def FnExactFirstCounterUptoSaid : Prop := fnExactFirstCounterUptoRow.holds Try.pinned (OpenSpec.upto fnExactFirstCounterSpec)

/-- 'laws.FnExactFirstBroken', WHERE WHAT IT READS IS OF BULK AT MOST 1048576: true; the input reads as it did. -/
def fnExactFirstBrokenUptoRow : OpenClaim := { program := "ytplheohkecooeaa", sum := "4f06e96d24d6dafde7f685778a25745a90f53ca47030497d905464b905c196d2", func := "loop.example/g01078/laws.FnExactFirstBroken", spec := "fnExactFirstBroken", unfollowed := true, recurses := true, apart := false, narrowed := true }
def FnExactFirstBrokenUptoSaid : Prop := fnExactFirstBrokenUptoRow.holds Try.pinned (OpenSpec.upto fnExactFirstBrokenSpec)

end Rows
end Go.Proofs.Ytplheohkecooeaa
