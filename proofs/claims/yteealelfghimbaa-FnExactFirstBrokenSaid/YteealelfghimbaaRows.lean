/-
  No cell of these rows narrows 'for every input' (looked for: loops, veiled, ifaces, maps, wideKeys, modest, calm, conditions, laid).
  DERIVED. THE GIVEN ROWS OF THIS SEAT. 11 by the template 'for every input the law returns true; each argument reads behind the call as it read before'; 0 by the template 'total and deterministic' (their statements: YteealelfghimbaaTotals.lean).
  GIVEN WITH THE SEED: the statements are not yours to turn. If you find one false, say at which input.
  Laid BY PROGRAM, IN A SANDBOX (cutbox-rows.mjs): the forced cells as the released guide's own fill.sh prints them over the translation bcf5a6fec9ffa339… (all of the seat's roots in one cut). By AI agents, Wed Nov 11 2026. No macro, syntax, notation, axiom, sorry.
-/
import Derived.Test.YteealelfghimbaaChecked
import GoSem.Claim
import GoSem.ClaimJoined
import GoSem.ClaimMapViews
import Derived.JoinedTies
import Derived.KernelRfl
namespace Go.Proofs.Yteealelfghimbaa
/- THE CELL 'sum', in the pinned program and in every row, IS THE sha256 OF THE DUMP (.gsa) THAT YteealelfghimbaaProg.lean LOADS. Nothing in Lean hashes anything: it is a label: what it is worth is what the hold of that sum in a sandbox is worth. -/
noncomputable def Try.pinned : Pinned := { name := "yteealelfghimbaa", sum := "bcf5a6fec9ffa339860a5f8061b6f6f4554781c1f9c8d0ed663b06f2ee2b7789", checked := Try.checked }
namespace Rows
def none {H : Type} : Left H := { results := [], args := [] }

/-- 'laws.FnExactReplaceAt': WHATEVER THE INPUT: true; the input reads as it did. -/
def fnExactReplaceAtSpec : ChangeSpec := { name := "fnExactReplaceAt", fn := fun _ => fun
  | [d1, d2, d3, d4] => { results := [.lit (.bool true)], args := [d1, d2, d3, d4] }
  | _ => none }
def fnExactReplaceAtRow : OpenClaim := { program := "yteealelfghimbaa", sum := "bcf5a6fec9ffa339860a5f8061b6f6f4554781c1f9c8d0ed663b06f2ee2b7789", func := "loop.example/g01078/laws.FnExactReplaceAt", spec := "fnExactReplaceAt", apart := false }
def FnExactReplaceAtSaid : Prop := fnExactReplaceAtRow.holds Try.pinned (OpenSpec.ofChange fnExactReplaceAtSpec)

/-- ITS FALSE NEIGHBOUR: 'it returns false'. Refute it at one input. -/
def fnExactReplaceAtWrong : ChangeSpec := { name := "fnExactReplaceAt", fn := fun _ => fun
  | [d1, d2, d3, d4] => { results := [.lit (.bool false)], args := [d1, d2, d3, d4] }
  | _ => none }
def FnExactReplaceAtWrongFalsely : Prop := fnExactReplaceAtRow.holds Try.pinned (OpenSpec.ofChange fnExactReplaceAtWrong)

/-- 'laws.FnExactDoesHold': WHATEVER THE INPUT: true; the input reads as it did. -/
def fnExactDoesHoldSpec : ChangeSpec := { name := "fnExactDoesHold", fn := fun _ => fun
  | [d1, d2] => { results := [.lit (.bool true)], args := [d1, d2] }
  | _ => none }
def fnExactDoesHoldRow : OpenClaim := { program := "yteealelfghimbaa", sum := "bcf5a6fec9ffa339860a5f8061b6f6f4554781c1f9c8d0ed663b06f2ee2b7789", func := "loop.example/g01078/laws.FnExactDoesHold", spec := "fnExactDoesHold", unfollowed := true, recurses := true, apart := false }
def FnExactDoesHoldSaid : Prop := fnExactDoesHoldRow.holds Try.pinned (OpenSpec.ofChange fnExactDoesHoldSpec)

/-- ITS FALSE NEIGHBOUR: 'it returns false'. Refute it at one input. -/
def fnExactDoesHoldWrong : ChangeSpec := { name := "fnExactDoesHold", fn := fun _ => fun
  | [d1, d2] => { results := [.lit (.bool false)], args := [d1, d2] }
  | _ => none }
def FnExactDoesHoldWrongFalsely : Prop := fnExactDoesHoldRow.holds Try.pinned (OpenSpec.ofChange fnExactDoesHoldWrong)

/-- 'laws.FnExactFirstCounter': WHATEVER THE INPUT: true; the input reads as it did. -/
def fnExactFirstCounterSpec : ChangeSpec := { name := "fnExactFirstCounter", fn := fun _ => fun
  | [d1, d2] => { results := [.lit (.bool true)], args := [d1, d2] }
  | _ => none }
def fnExactFirstCounterRow : OpenClaim := { program := "yteealelfghimbaa", sum := "bcf5a6fec9ffa339860a5f8061b6f6f4554781c1f9c8d0ed663b06f2ee2b7789", func := "loop.example/g01078/laws.FnExactFirstCounter", spec := "fnExactFirstCounter", unfollowed := true, recurses := true, apart := false }
def FnExactFirstCounterSaid : Prop := fnExactFirstCounterRow.holds Try.pinned (OpenSpec.ofChange fnExactFirstCounterSpec)

/-- ITS FALSE NEIGHBOUR: 'it returns false'. Refute it at one input. -/
def fnExactFirstCounterWrong : ChangeSpec := { name := "fnExactFirstCounter", fn := fun _ => fun
  | [d1, d2] => { results := [.lit (.bool false)], args := [d1, d2] }
  | _ => none }
def FnExactFirstCounterWrongFalsely : Prop := fnExactFirstCounterRow.holds Try.pinned (OpenSpec.ofChange fnExactFirstCounterWrong)

/-- 'laws.FnExactFirstBroken': WHATEVER THE INPUT: true; the input reads as it did. -/
def fnExactFirstBrokenSpec : ChangeSpec := { name := "fnExactFirstBroken", fn := fun _ => fun
  | [d1, d2] => { results := [.lit (.bool true)], args := [d1, d2] }
  | _ => none }
def fnExactFirstBrokenRow : OpenClaim := { program := "yteealelfghimbaa", sum := "bcf5a6fec9ffa339860a5f8061b6f6f4554781c1f9c8d0ed663b06f2ee2b7789", func := "loop.example/g01078/laws.FnExactFirstBroken", spec := "fnExactFirstBroken", unfollowed := true, recurses := true, apart := false }
def FnExactFirstBrokenSaid : Prop := fnExactFirstBrokenRow.holds Try.pinned (OpenSpec.ofChange fnExactFirstBrokenSpec)

/-- ITS FALSE NEIGHBOUR: 'it returns false'. Refute it at one input. -/
def fnExactFirstBrokenWrong : ChangeSpec := { name := "fnExactFirstBroken", fn := fun _ => fun
  | [d1, d2] => { results := [.lit (.bool false)], args := [d1, d2] }
  | _ => none }
def FnExactFirstBrokenWrongFalsely : Prop := fnExactFirstBrokenRow.holds Try.pinned (OpenSpec.ofChange fnExactFirstBrokenWrong)

/-- 'laws.FnExactSubstituteIn': WHATEVER THE INPUT: true; the input reads as it did. -/
def fnExactSubstituteInSpec : ChangeSpec := { name := "fnExactSubstituteIn", fn := fun _ => fun
  | [d1, d2, d3] => { results := [.lit (.bool true)], args := [d1, d2, d3] }
  | _ => none }
def fnExactSubstituteInRow : OpenClaim := { program := "yteealelfghimbaa", sum := "bcf5a6fec9ffa339860a5f8061b6f6f4554781c1f9c8d0ed663b06f2ee2b7789", func := "loop.example/g01078/laws.FnExactSubstituteIn", spec := "fnExactSubstituteIn", apart := false }
def FnExactSubstituteInSaid : Prop := fnExactSubstituteInRow.holds Try.pinned (OpenSpec.ofChange fnExactSubstituteInSpec)

/-- ITS FALSE NEIGHBOUR: 'it returns false'. Refute it at one input. -/
def fnExactSubstituteInWrong : ChangeSpec := { name := "fnExactSubstituteIn", fn := fun _ => fun
  | [d1, d2, d3] => { results := [.lit (.bool false)], args := [d1, d2, d3] }
  | _ => none }
def FnExactSubstituteInWrongFalsely : Prop := fnExactSubstituteInRow.holds Try.pinned (OpenSpec.ofChange fnExactSubstituteInWrong)

/-- 'laws.FnExactMatchTerm': WHATEVER THE INPUT: true; the input reads as it did. -/
def fnExactMatchTermSpec : ChangeSpec := { name := "fnExactMatchTerm", fn := fun _ => fun
  | [d1, d2, d3] => { results := [.lit (.bool true)], args := [d1, d2, d3] }
  | _ => none }
def fnExactMatchTermRow : OpenClaim := { program := "yteealelfghimbaa", sum := "bcf5a6fec9ffa339860a5f8061b6f6f4554781c1f9c8d0ed663b06f2ee2b7789", func := "loop.example/g01078/laws.FnExactMatchTerm", spec := "fnExactMatchTerm", apart := false }
def FnExactMatchTermSaid : Prop := fnExactMatchTermRow.holds Try.pinned (OpenSpec.ofChange fnExactMatchTermSpec)

/-- ITS FALSE NEIGHBOUR: 'it returns false'. Refute it at one input. -/
def fnExactMatchTermWrong : ChangeSpec := { name := "fnExactMatchTerm", fn := fun _ => fun
  | [d1, d2, d3] => { results := [.lit (.bool false)], args := [d1, d2, d3] }
  | _ => none }
def FnExactMatchTermWrongFalsely : Prop := fnExactMatchTermRow.holds Try.pinned (OpenSpec.ofChange fnExactMatchTermWrong)

/-- 'laws.FnExactDepthOf': WHATEVER THE INPUT: true; the input reads as it did. -/
def fnExactDepthOfSpec : ChangeSpec := { name := "fnExactDepthOf", fn := fun _ => fun
  | [d1, d2] => { results := [.lit (.bool true)], args := [d1, d2] }
  | _ => none }
def fnExactDepthOfRow : OpenClaim := { program := "yteealelfghimbaa", sum := "bcf5a6fec9ffa339860a5f8061b6f6f4554781c1f9c8d0ed663b06f2ee2b7789", func := "loop.example/g01078/laws.FnExactDepthOf", spec := "fnExactDepthOf", unfollowed := true, recurses := true, apart := false }
def FnExactDepthOfSaid : Prop := fnExactDepthOfRow.holds Try.pinned (OpenSpec.ofChange fnExactDepthOfSpec)

/-- ITS FALSE NEIGHBOUR: 'it returns false'. Refute it at one input. -/
def fnExactDepthOfWrong : ChangeSpec := { name := "fnExactDepthOf", fn := fun _ => fun
  | [d1, d2] => { results := [.lit (.bool false)], args := [d1, d2] }
  | _ => none }
def FnExactDepthOfWrongFalsely : Prop := fnExactDepthOfRow.holds Try.pinned (OpenSpec.ofChange fnExactDepthOfWrong)

/-- 'laws.FnTerms': WHATEVER THE INPUT: true; the input reads as it did. -/
def fnTermsSpec : ChangeSpec := { name := "fnTerms", fn := fun _ => fun
  | [d] => { results := [.lit (.bool true)], args := [d] }
  | _ => none }
def fnTermsRow : OpenClaim := { program := "yteealelfghimbaa", sum := "bcf5a6fec9ffa339860a5f8061b6f6f4554781c1f9c8d0ed663b06f2ee2b7789", func := "loop.example/g01078/laws.FnTerms", spec := "fnTerms", unfollowed := true, recurses := true, apart := false }
def FnTermsSaid : Prop := fnTermsRow.holds Try.pinned (OpenSpec.ofChange fnTermsSpec)

/-- ITS FALSE NEIGHBOUR: 'it returns false'. Refute it at one input. -/
def fnTermsWrong : ChangeSpec := { name := "fnTerms", fn := fun _ => fun
  | [d] => { results := [.lit (.bool false)], args := [d] }
  | _ => none }
def FnTermsWrongFalsely : Prop := fnTermsRow.holds Try.pinned (OpenSpec.ofChange fnTermsWrong)

/-- 'laws.FnIdentities': WHATEVER THE INPUT: true; the input reads as it did. -/
def fnIdentitiesSpec : ChangeSpec := { name := "fnIdentities", fn := fun _ => fun
  | [d] => { results := [.lit (.bool true)], args := [d] }
  | _ => none }
def fnIdentitiesRow : OpenClaim := { program := "yteealelfghimbaa", sum := "bcf5a6fec9ffa339860a5f8061b6f6f4554781c1f9c8d0ed663b06f2ee2b7789", func := "loop.example/g01078/laws.FnIdentities", spec := "fnIdentities", unfollowed := true, recurses := true, apart := false }
def FnIdentitiesSaid : Prop := fnIdentitiesRow.holds Try.pinned (OpenSpec.ofChange fnIdentitiesSpec)

/-- ITS FALSE NEIGHBOUR: 'it returns false'. Refute it at one input. -/
def fnIdentitiesWrong : ChangeSpec := { name := "fnIdentities", fn := fun _ => fun
  | [d] => { results := [.lit (.bool false)], args := [d] }
  | _ => none }
def FnIdentitiesWrongFalsely : Prop := fnIdentitiesRow.holds Try.pinned (OpenSpec.ofChange fnIdentitiesWrong)

/-- 'laws.FnExactIsEqStep': WHATEVER THE INPUT: true; the input reads as it did. -/
def fnExactIsEqStepSpec : ChangeSpec := { name := "fnExactIsEqStep", fn := fun _ => fun
  | [d1, d2, d3, d4] => { results := [.lit (.bool true)], args := [d1, d2, d3, d4] }
  | _ => none }
def fnExactIsEqStepRow : OpenClaim := { program := "yteealelfghimbaa", sum := "bcf5a6fec9ffa339860a5f8061b6f6f4554781c1f9c8d0ed663b06f2ee2b7789", func := "loop.example/g01078/laws.FnExactIsEqStep", spec := "fnExactIsEqStep", unfollowed := true, recurses := true, apart := false }
def FnExactIsEqStepSaid : Prop := fnExactIsEqStepRow.holds Try.pinned (OpenSpec.ofChange fnExactIsEqStepSpec)

/-- ITS FALSE NEIGHBOUR: 'it returns false'. Refute it at one input. -/
def fnExactIsEqStepWrong : ChangeSpec := { name := "fnExactIsEqStep", fn := fun _ => fun
  | [d1, d2, d3, d4] => { results := [.lit (.bool false)], args := [d1, d2, d3, d4] }
  | _ => none }
def FnExactIsEqStepWrongFalsely : Prop := fnExactIsEqStepRow.holds Try.pinned (OpenSpec.ofChange fnExactIsEqStepWrong)

/-- 'laws.FnExactFirstBadStep': WHATEVER THE INPUT: true; the input reads as it did. -/
def fnExactFirstBadStepSpec : ChangeSpec := { name := "fnExactFirstBadStep", fn := fun _ => fun
  | [d1, d2, d3] => { results := [.lit (.bool true)], args := [d1, d2, d3] }
  | _ => none }
def fnExactFirstBadStepRow : OpenClaim := { program := "yteealelfghimbaa", sum := "bcf5a6fec9ffa339860a5f8061b6f6f4554781c1f9c8d0ed663b06f2ee2b7789", func := "loop.example/g01078/laws.FnExactFirstBadStep", spec := "fnExactFirstBadStep", unfollowed := true, recurses := true, apart := false }
def FnExactFirstBadStepSaid : Prop := fnExactFirstBadStepRow.holds Try.pinned (OpenSpec.ofChange fnExactFirstBadStepSpec)

/-- ITS FALSE NEIGHBOUR: 'it returns false'. Refute it at one input. -/
def fnExactFirstBadStepWrong : ChangeSpec := { name := "fnExactFirstBadStep", fn := fun _ => fun
  | [d1, d2, d3] => { results := [.lit (.bool false)], args := [d1, d2, d3] }
  | _ => none }
def FnExactFirstBadStepWrongFalsely : Prop := fnExactFirstBadStepRow.holds Try.pinned (OpenSpec.ofChange fnExactFirstBadStepWrong)

/- THE SECOND FORM. 'bulk': how many values and letters a reading holds, each counted each time it is reached (what is shared counts as often as it is met; a slice's spare places count too). A statement '..UptoSaid' is the law's where the arguments, and the package variables that the reading takes, are together of bulk at most 1048576: NARROWER than '..Said'. Prove '..Said' where nothing that the law and all that it calls make is longer than what came in: it says more and counts as full. Else prove '..UptoSaid'. A law counts once. -/
mutual
def uptoBulk {H : Type} : DataW H → Nat
  | .lit (.string bytes) => bytes.length + 1
  | .lit _ => 1
  | .nil => 1
  | .ptr d => uptoBulk d + 1
  | .slice elems spare => uptoBulkAll elems + uptoBulkAll spare + 1
  | .agg parts => uptoBulkAll parts + 1
  | .iface _ d => uptoBulk d + 1
  | .map entries => uptoBulkEntries entries + 1
  | .held _ => 1
def uptoBulkAll {H : Type} : List (DataW H) → Nat
  | [] => 0
  | d :: r => uptoBulk d + uptoBulkAll r
def uptoBulkEntries {H : Type} : List (Lit × DataW H) → Nat
  | [] => 0
  | x :: r => uptoBulkEntry x + uptoBulkEntries r
def uptoBulkEntry {H : Type} : Lit × DataW H → Nat
  | (.string bytes, d) => bytes.length + uptoBulk d + 1
  | (_, d) => uptoBulk d + 1
 end
def uptoSmall : (H : Type) → List (DataW H) → Bool := fun _ ds => decide (uptoBulkAll ds ≤ 1048576)
def OpenSpec.upto (s : _root_.Go.ChangeSpec) : _root_.Go.OpenSpec := { _root_.Go.OpenSpec.ofChange s with cond := some uptoSmall }

/-- 'laws.FnExactReplaceAt', WHERE WHAT IT READS IS OF BULK AT MOST 1048576: true; the input reads as it did. -/
def fnExactReplaceAtUptoRow : OpenClaim := { program := "yteealelfghimbaa", sum := "bcf5a6fec9ffa339860a5f8061b6f6f4554781c1f9c8d0ed663b06f2ee2b7789", func := "loop.example/g01078/laws.FnExactReplaceAt", spec := "fnExactReplaceAt", apart := false, narrowed := true }
def FnExactReplaceAtUptoSaid : Prop := fnExactReplaceAtUptoRow.holds Try.pinned (OpenSpec.upto fnExactReplaceAtSpec)

/-- 'laws.FnExactDoesHold', WHERE WHAT IT READS IS OF BULK AT MOST 1048576: true; the input reads as it did. -/
def fnExactDoesHoldUptoRow : OpenClaim := { program := "yteealelfghimbaa", sum := "bcf5a6fec9ffa339860a5f8061b6f6f4554781c1f9c8d0ed663b06f2ee2b7789", func := "loop.example/g01078/laws.FnExactDoesHold", spec := "fnExactDoesHold", unfollowed := true, recurses := true, apart := false, narrowed := true }
def FnExactDoesHoldUptoSaid : Prop := fnExactDoesHoldUptoRow.holds Try.pinned (OpenSpec.upto fnExactDoesHoldSpec)

/-- 'laws.FnExactFirstCounter', WHERE WHAT IT READS IS OF BULK AT MOST 1048576: true; the input reads as it did. -/
def fnExactFirstCounterUptoRow : OpenClaim := { program := "yteealelfghimbaa", sum := "bcf5a6fec9ffa339860a5f8061b6f6f4554781c1f9c8d0ed663b06f2ee2b7789", func := "loop.example/g01078/laws.FnExactFirstCounter", spec := "fnExactFirstCounter", unfollowed := true, recurses := true, apart := false, narrowed := true }
def FnExactFirstCounterUptoSaid : Prop := fnExactFirstCounterUptoRow.holds Try.pinned (OpenSpec.upto fnExactFirstCounterSpec)

/-- 'laws.FnExactFirstBroken', WHERE WHAT IT READS IS OF BULK AT MOST 1048576: true; the input reads as it did. -/
def fnExactFirstBrokenUptoRow : OpenClaim := { program := "yteealelfghimbaa", sum := "bcf5a6fec9ffa339860a5f8061b6f6f4554781c1f9c8d0ed663b06f2ee2b7789", func := "loop.example/g01078/laws.FnExactFirstBroken", spec := "fnExactFirstBroken", unfollowed := true, recurses := true, apart := false, narrowed := true }
def FnExactFirstBrokenUptoSaid : Prop := fnExactFirstBrokenUptoRow.holds Try.pinned (OpenSpec.upto fnExactFirstBrokenSpec)

/-- 'laws.FnExactSubstituteIn', WHERE WHAT IT READS IS OF BULK AT MOST 1048576: true; the input reads as it did. -/
def fnExactSubstituteInUptoRow : OpenClaim := { program := "yteealelfghimbaa", sum := "bcf5a6fec9ffa339860a5f8061b6f6f4554781c1f9c8d0ed663b06f2ee2b7789", func := "loop.example/g01078/laws.FnExactSubstituteIn", spec := "fnExactSubstituteIn", apart := false, narrowed := true }
def FnExactSubstituteInUptoSaid : Prop := fnExactSubstituteInUptoRow.holds Try.pinned (OpenSpec.upto fnExactSubstituteInSpec)

/-- 'laws.FnExactMatchTerm', WHERE WHAT IT READS IS OF BULK AT MOST 1048576: true; the input reads as it did. -/
def fnExactMatchTermUptoRow : OpenClaim := { program := "yteealelfghimbaa", sum := "bcf5a6fec9ffa339860a5f8061b6f6f4554781c1f9c8d0ed663b06f2ee2b7789", func := "loop.example/g01078/laws.FnExactMatchTerm", spec := "fnExactMatchTerm", apart := false, narrowed := true }
def FnExactMatchTermUptoSaid : Prop := fnExactMatchTermUptoRow.holds Try.pinned (OpenSpec.upto fnExactMatchTermSpec)

/-- 'laws.FnExactDepthOf', WHERE WHAT IT READS IS OF BULK AT MOST 1048576: true; the input reads as it did. -/
def fnExactDepthOfUptoRow : OpenClaim := { program := "yteealelfghimbaa", sum := "bcf5a6fec9ffa339860a5f8061b6f6f4554781c1f9c8d0ed663b06f2ee2b7789", func := "loop.example/g01078/laws.FnExactDepthOf", spec := "fnExactDepthOf", unfollowed := true, recurses := true, apart := false, narrowed := true }
def FnExactDepthOfUptoSaid : Prop := fnExactDepthOfUptoRow.holds Try.pinned (OpenSpec.upto fnExactDepthOfSpec)

/-- 'laws.FnTerms', WHERE WHAT IT READS IS OF BULK AT MOST 1048576: true; the input reads as it did. -/
def fnTermsUptoRow : OpenClaim := { program := "yteealelfghimbaa", sum := "bcf5a6fec9ffa339860a5f8061b6f6f4554781c1f9c8d0ed663b06f2ee2b7789", func := "loop.example/g01078/laws.FnTerms", spec := "fnTerms", unfollowed := true, recurses := true, apart := false, narrowed := true }
def FnTermsUptoSaid : Prop := fnTermsUptoRow.holds Try.pinned (OpenSpec.upto fnTermsSpec)

/-- 'laws.FnIdentities', WHERE WHAT IT READS IS OF BULK AT MOST 1048576: true; the input reads as it did. -/
def fnIdentitiesUptoRow : OpenClaim := { program := "yteealelfghimbaa", sum := "bcf5a6fec9ffa339860a5f8061b6f6f4554781c1f9c8d0ed663b06f2ee2b7789", func := "loop.example/g01078/laws.FnIdentities", spec := "fnIdentities", unfollowed := true, recurses := true, apart := false, narrowed := true }
def FnIdentitiesUptoSaid : Prop := fnIdentitiesUptoRow.holds Try.pinned (OpenSpec.upto fnIdentitiesSpec)

/-- 'laws.FnExactIsEqStep', WHERE WHAT IT READS IS OF BULK AT MOST 1048576: true; the input reads as it did. -/
def fnExactIsEqStepUptoRow : OpenClaim := { program := "yteealelfghimbaa", sum := "bcf5a6fec9ffa339860a5f8061b6f6f4554781c1f9c8d0ed663b06f2ee2b7789", func := "loop.example/g01078/laws.FnExactIsEqStep", spec := "fnExactIsEqStep", unfollowed := true, recurses := true, apart := false, narrowed := true }
def FnExactIsEqStepUptoSaid : Prop := fnExactIsEqStepUptoRow.holds Try.pinned (OpenSpec.upto fnExactIsEqStepSpec)

/-- 'laws.FnExactFirstBadStep', WHERE WHAT IT READS IS OF BULK AT MOST 1048576: true; the input reads as it did. -/
def fnExactFirstBadStepUptoRow : OpenClaim := { program := "yteealelfghimbaa", sum := "bcf5a6fec9ffa339860a5f8061b6f6f4554781c1f9c8d0ed663b06f2ee2b7789", func := "loop.example/g01078/laws.FnExactFirstBadStep", spec := "fnExactFirstBadStep", unfollowed := true, recurses := true, apart := false, narrowed := true }
def FnExactFirstBadStepUptoSaid : Prop := fnExactFirstBadStepUptoRow.holds Try.pinned (OpenSpec.upto fnExactFirstBadStepSpec)

end Rows
end Go.Proofs.Yteealelfghimbaa
