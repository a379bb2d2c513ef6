/-
  No cell of these rows narrows 'for every input' (looked for: loops, veiled, ifaces, maps, wideKeys, modest, calm, conditions, laid).
  DERIVED. THE GIVEN ROWS OF THIS SEAT. 11 by the template 'for every input the law returns true; each argument reads behind the call as it read before'; 0 by the template 'total and deterministic' (their statements: YthgggoodceogkaaTotals.lean).
  GIVEN WITH THE SEED: the statements are not yours to turn. If you find one false, say at which input.
  Laid BY PROGRAM, IN A SANDBOX (cutbox-rows.mjs): the forced cells as the released guide's own fill.sh prints them over the translation 2c07ae4c95cbdc20… (all of the seat's roots in one cut). By AI agents, Wed Nov 11 2026. No macro, syntax, notation, axiom, sorry.
-/
import Derived.Test.YthgggoodceogkaaChecked
import GoSem.Claim
import GoSem.ClaimJoined
import GoSem.ClaimMapViews
import Derived.JoinedTies
import Derived.KernelRfl
namespace Go.Proofs.Ythgggoodceogkaa
/- THE CELL 'sum', in the pinned program and in every row, IS THE sha256 OF THE DUMP (.gsa) THAT YthgggoodceogkaaProg.lean LOADS. Nothing in Lean hashes anything: it is a label: what it is worth is what the hold of that sum in a sandbox is worth. -/
noncomputable def Try.pinned : Pinned := { name := "ythgggoodceogkaa", sum := "2c07ae4c95cbdc20a1ac876a455c9e53eea2fa3dd44381046dccf6c419198e3e", checked := Try.checked }
namespace Rows
def none {H : Type} : Left H := { results := [], args := [] }

/-- 'laws.FnExactIsAlgebra': WHATEVER THE INPUT: true; the input reads as it did. -/
def fnExactIsAlgebraSpec : ChangeSpec := { name := "fnExactIsAlgebra", fn := fun _ => fun
  | [d] => { results := [.lit (.bool true)], args := [d] }
  | _ => none }
def fnExactIsAlgebraRow : OpenClaim := { program := "ythgggoodceogkaa", sum := "2c07ae4c95cbdc20a1ac876a455c9e53eea2fa3dd44381046dccf6c419198e3e", func := "loop.example/g01078/laws.FnExactIsAlgebra", spec := "fnExactIsAlgebra", apart := false }
def FnExactIsAlgebraSaid : Prop := fnExactIsAlgebraRow.holds Try.pinned (OpenSpec.ofChange fnExactIsAlgebraSpec)

/-- ITS FALSE NEIGHBOUR: 'it returns false'. Refute it at one input. -/
def fnExactIsAlgebraWrong : ChangeSpec := { name := "fnExactIsAlgebra", fn := fun _ => fun
  | [d] => { results := [.lit (.bool false)], args := [d] }
  | _ => none }
def FnExactIsAlgebraWrongFalsely : Prop := fnExactIsAlgebraRow.holds Try.pinned (OpenSpec.ofChange fnExactIsAlgebraWrong)

/-- 'laws.FnExactTypeOf': WHATEVER THE INPUT: true; the input reads as it did. -/
def fnExactTypeOfSpec : ChangeSpec := { name := "fnExactTypeOf", fn := fun _ => fun
  | [d] => { results := [.lit (.bool true)], args := [d] }
  | _ => none }
def fnExactTypeOfRow : OpenClaim := { program := "ythgggoodceogkaa", sum := "2c07ae4c95cbdc20a1ac876a455c9e53eea2fa3dd44381046dccf6c419198e3e", func := "loop.example/g01078/laws.FnExactTypeOf", spec := "fnExactTypeOf", apart := false }
def FnExactTypeOfSaid : Prop := fnExactTypeOfRow.holds Try.pinned (OpenSpec.ofChange fnExactTypeOfSpec)

/-- ITS FALSE NEIGHBOUR: 'it returns false'. Refute it at one input. -/
def fnExactTypeOfWrong : ChangeSpec := { name := "fnExactTypeOf", fn := fun _ => fun
  | [d] => { results := [.lit (.bool false)], args := [d] }
  | _ => none }
def FnExactTypeOfWrongFalsely : Prop := fnExactTypeOfRow.holds Try.pinned (OpenSpec.ofChange fnExactTypeOfWrong)

/-- 'laws.FnExactSameType': WHATEVER THE INPUT: true; the input reads as it did. -/
def fnExactSameTypeSpec : ChangeSpec := { name := "fnExactSameType", fn := fun _ => fun
  | [d1, d2] => { results := [.lit (.bool true)], args := [d1, d2] }
  | _ => none }
def fnExactSameTypeRow : OpenClaim := { program := "ythgggoodceogkaa", sum := "2c07ae4c95cbdc20a1ac876a455c9e53eea2fa3dd44381046dccf6c419198e3e", func := "loop.example/g01078/laws.FnExactSameType", spec := "fnExactSameType", apart := false }
def FnExactSameTypeSaid : Prop := fnExactSameTypeRow.holds Try.pinned (OpenSpec.ofChange fnExactSameTypeSpec)

/-- ITS FALSE NEIGHBOUR: 'it returns false'. Refute it at one input. -/
def fnExactSameTypeWrong : ChangeSpec := { name := "fnExactSameType", fn := fun _ => fun
  | [d1, d2] => { results := [.lit (.bool false)], args := [d1, d2] }
  | _ => none }
def FnExactSameTypeWrongFalsely : Prop := fnExactSameTypeRow.holds Try.pinned (OpenSpec.ofChange fnExactSameTypeWrong)

/-- 'laws.FnExactValueOf': WHATEVER THE INPUT: true; the input reads as it did. -/
def fnExactValueOfSpec : ChangeSpec := { name := "fnExactValueOf", fn := fun _ => fun
  | [d1, d2, d3] => { results := [.lit (.bool true)], args := [d1, d2, d3] }
  | _ => none }
def fnExactValueOfRow : OpenClaim := { program := "ythgggoodceogkaa", sum := "2c07ae4c95cbdc20a1ac876a455c9e53eea2fa3dd44381046dccf6c419198e3e", func := "loop.example/g01078/laws.FnExactValueOf", spec := "fnExactValueOf", apart := false }
def FnExactValueOfSaid : Prop := fnExactValueOfRow.holds Try.pinned (OpenSpec.ofChange fnExactValueOfSpec)

/-- ITS FALSE NEIGHBOUR: 'it returns false'. Refute it at one input. -/
def fnExactValueOfWrong : ChangeSpec := { name := "fnExactValueOf", fn := fun _ => fun
  | [d1, d2, d3] => { results := [.lit (.bool false)], args := [d1, d2, d3] }
  | _ => none }
def FnExactValueOfWrongFalsely : Prop := fnExactValueOfRow.holds Try.pinned (OpenSpec.ofChange fnExactValueOfWrong)

/-- 'laws.FnExactConstantsOf': WHATEVER THE INPUT: true; the input reads as it did. -/
def fnExactConstantsOfSpec : ChangeSpec := { name := "fnExactConstantsOf", fn := fun _ => fun
  | [d] => { results := [.lit (.bool true)], args := [d] }
  | _ => none }
def fnExactConstantsOfRow : OpenClaim := { program := "ythgggoodceogkaa", sum := "2c07ae4c95cbdc20a1ac876a455c9e53eea2fa3dd44381046dccf6c419198e3e", func := "loop.example/g01078/laws.FnExactConstantsOf", spec := "fnExactConstantsOf", recurses := true, apart := false }
def FnExactConstantsOfSaid : Prop := fnExactConstantsOfRow.holds Try.pinned (OpenSpec.ofChange fnExactConstantsOfSpec)

/-- ITS FALSE NEIGHBOUR: 'it returns false'. Refute it at one input. -/
def fnExactConstantsOfWrong : ChangeSpec := { name := "fnExactConstantsOf", fn := fun _ => fun
  | [d] => { results := [.lit (.bool false)], args := [d] }
  | _ => none }
def FnExactConstantsOfWrongFalsely : Prop := fnExactConstantsOfRow.holds Try.pinned (OpenSpec.ofChange fnExactConstantsOfWrong)

/-- 'laws.FnExactIsIdempotent': WHATEVER THE INPUT: true; the input reads as it did. -/
def fnExactIsIdempotentSpec : ChangeSpec := { name := "fnExactIsIdempotent", fn := fun _ => fun
  | [d1, d2] => { results := [.lit (.bool true)], args := [d1, d2] }
  | _ => none }
def fnExactIsIdempotentRow : OpenClaim := { program := "ythgggoodceogkaa", sum := "2c07ae4c95cbdc20a1ac876a455c9e53eea2fa3dd44381046dccf6c419198e3e", func := "loop.example/g01078/laws.FnExactIsIdempotent", spec := "fnExactIsIdempotent", apart := false }
def FnExactIsIdempotentSaid : Prop := fnExactIsIdempotentRow.holds Try.pinned (OpenSpec.ofChange fnExactIsIdempotentSpec)

/-- ITS FALSE NEIGHBOUR: 'it returns false'. Refute it at one input. -/
def fnExactIsIdempotentWrong : ChangeSpec := { name := "fnExactIsIdempotent", fn := fun _ => fun
  | [d1, d2] => { results := [.lit (.bool false)], args := [d1, d2] }
  | _ => none }
def FnExactIsIdempotentWrongFalsely : Prop := fnExactIsIdempotentRow.holds Try.pinned (OpenSpec.ofChange fnExactIsIdempotentWrong)

/-- 'laws.FnExactIsCommutative': WHATEVER THE INPUT: true; the input reads as it did. -/
def fnExactIsCommutativeSpec : ChangeSpec := { name := "fnExactIsCommutative", fn := fun _ => fun
  | [d1, d2] => { results := [.lit (.bool true)], args := [d1, d2] }
  | _ => none }
def fnExactIsCommutativeRow : OpenClaim := { program := "ythgggoodceogkaa", sum := "2c07ae4c95cbdc20a1ac876a455c9e53eea2fa3dd44381046dccf6c419198e3e", func := "loop.example/g01078/laws.FnExactIsCommutative", spec := "fnExactIsCommutative", apart := false }
def FnExactIsCommutativeSaid : Prop := fnExactIsCommutativeRow.holds Try.pinned (OpenSpec.ofChange fnExactIsCommutativeSpec)

/-- ITS FALSE NEIGHBOUR: 'it returns false'. Refute it at one input. -/
def fnExactIsCommutativeWrong : ChangeSpec := { name := "fnExactIsCommutative", fn := fun _ => fun
  | [d1, d2] => { results := [.lit (.bool false)], args := [d1, d2] }
  | _ => none }
def FnExactIsCommutativeWrongFalsely : Prop := fnExactIsCommutativeRow.holds Try.pinned (OpenSpec.ofChange fnExactIsCommutativeWrong)

/-- 'laws.FnExactIsAssociative': WHATEVER THE INPUT: true; the input reads as it did. -/
def fnExactIsAssociativeSpec : ChangeSpec := { name := "fnExactIsAssociative", fn := fun _ => fun
  | [d1, d2] => { results := [.lit (.bool true)], args := [d1, d2] }
  | _ => none }
def fnExactIsAssociativeRow : OpenClaim := { program := "ythgggoodceogkaa", sum := "2c07ae4c95cbdc20a1ac876a455c9e53eea2fa3dd44381046dccf6c419198e3e", func := "loop.example/g01078/laws.FnExactIsAssociative", spec := "fnExactIsAssociative", apart := false }
def FnExactIsAssociativeSaid : Prop := fnExactIsAssociativeRow.holds Try.pinned (OpenSpec.ofChange fnExactIsAssociativeSpec)

/-- ITS FALSE NEIGHBOUR: 'it returns false'. Refute it at one input. -/
def fnExactIsAssociativeWrong : ChangeSpec := { name := "fnExactIsAssociative", fn := fun _ => fun
  | [d1, d2] => { results := [.lit (.bool false)], args := [d1, d2] }
  | _ => none }
def FnExactIsAssociativeWrongFalsely : Prop := fnExactIsAssociativeRow.holds Try.pinned (OpenSpec.ofChange fnExactIsAssociativeWrong)

/-- 'laws.FnExactReductTo': WHATEVER THE INPUT: true; the input reads as it did. -/
def fnExactReductToSpec : ChangeSpec := { name := "fnExactReductTo", fn := fun _ => fun
  | [d1, d2] => { results := [.lit (.bool true)], args := [d1, d2] }
  | _ => none }
def fnExactReductToRow : OpenClaim := { program := "ythgggoodceogkaa", sum := "2c07ae4c95cbdc20a1ac876a455c9e53eea2fa3dd44381046dccf6c419198e3e", func := "loop.example/g01078/laws.FnExactReductTo", spec := "fnExactReductTo", apart := false }
def FnExactReductToSaid : Prop := fnExactReductToRow.holds Try.pinned (OpenSpec.ofChange fnExactReductToSpec)

/-- ITS FALSE NEIGHBOUR: 'it returns false'. Refute it at one input. -/
def fnExactReductToWrong : ChangeSpec := { name := "fnExactReductTo", fn := fun _ => fun
  | [d1, d2] => { results := [.lit (.bool false)], args := [d1, d2] }
  | _ => none }
def FnExactReductToWrongFalsely : Prop := fnExactReductToRow.holds Try.pinned (OpenSpec.ofChange fnExactReductToWrong)

/-- 'laws.FnExactReverseArgs': WHATEVER THE INPUT: true; the input reads as it did. -/
def fnExactReverseArgsSpec : ChangeSpec := { name := "fnExactReverseArgs", fn := fun _ => fun
  | [d1, d2] => { results := [.lit (.bool true)], args := [d1, d2] }
  | _ => none }
def fnExactReverseArgsRow : OpenClaim := { program := "ythgggoodceogkaa", sum := "2c07ae4c95cbdc20a1ac876a455c9e53eea2fa3dd44381046dccf6c419198e3e", func := "loop.example/g01078/laws.FnExactReverseArgs", spec := "fnExactReverseArgs", apart := false }
def FnExactReverseArgsSaid : Prop := fnExactReverseArgsRow.holds Try.pinned (OpenSpec.ofChange fnExactReverseArgsSpec)

/-- ITS FALSE NEIGHBOUR: 'it returns false'. Refute it at one input. -/
def fnExactReverseArgsWrong : ChangeSpec := { name := "fnExactReverseArgs", fn := fun _ => fun
  | [d1, d2] => { results := [.lit (.bool false)], args := [d1, d2] }
  | _ => none }
def FnExactReverseArgsWrongFalsely : Prop := fnExactReverseArgsRow.holds Try.pinned (OpenSpec.ofChange fnExactReverseArgsWrong)

/-- 'laws.FnExactRenameElements': WHATEVER THE INPUT: true; the input reads as it did. -/
def fnExactRenameElementsSpec : ChangeSpec := { name := "fnExactRenameElements", fn := fun _ => fun
  | [d1, d2] => { results := [.lit (.bool true)], args := [d1, d2] }
  | _ => none }
def fnExactRenameElementsRow : OpenClaim := { program := "ythgggoodceogkaa", sum := "2c07ae4c95cbdc20a1ac876a455c9e53eea2fa3dd44381046dccf6c419198e3e", func := "loop.example/g01078/laws.FnExactRenameElements", spec := "fnExactRenameElements", apart := false }
def FnExactRenameElementsSaid : Prop := fnExactRenameElementsRow.holds Try.pinned (OpenSpec.ofChange fnExactRenameElementsSpec)

/-- ITS FALSE NEIGHBOUR: 'it returns false'. Refute it at one input. -/
def fnExactRenameElementsWrong : ChangeSpec := { name := "fnExactRenameElements", fn := fun _ => fun
  | [d1, d2] => { results := [.lit (.bool false)], args := [d1, d2] }
  | _ => none }
def FnExactRenameElementsWrongFalsely : Prop := fnExactRenameElementsRow.holds Try.pinned (OpenSpec.ofChange fnExactRenameElementsWrong)

/- THE SECOND FORM. 'bulk': how many values and letters a reading holds, each counted each time it is reached (what is shared counts as often as it is met; a slice's spare places count too). A statement '..UptoSaid' is the law's where the arguments, and the package variables that the reading takes, are together of bulk at most 1048576: NARROWER than '..Said'. Prove '..Said' where nothing that the law and all that it calls make is longer than what came in: it says more and counts as full. Else prove '..UptoSaid'. A law counts once. -/
mutual
def uptoBulk {H : Type} : DataW H → Nat
  | .lit (.string bytes) => bytes.length + 1
  | .lit _ => 1
  | .nil => 1
  | .ptr d => uptoBulk d + 1
  | .slice elems spare => uptoBulkAll elems + uptoBulkAll spare + 1
  | .agg parts => uptoBulkAll parts + 1
  | .iface _ d => uptoBulk d + 1
  | .map entries => uptoBulkEntries entries + 1
  | .held _ => 1
def uptoBulkAll {H : Type} : List (DataW H) → Nat
  | [] => 0
  | d :: r => uptoBulk d + uptoBulkAll r
def uptoBulkEntries {H : Type} : List (Lit × DataW H) → Nat
  | [] => 0
  | x :: r => uptoBulkEntry x + uptoBulkEntries r
def uptoBulkEntry {H : Type} : Lit × DataW H → Nat
  | (.string bytes, d) => bytes.length + uptoBulk d + 1
  | (_, d) => uptoBulk d + 1
 end
def uptoSmall : (H : Type) → List (DataW H) → Bool := fun _ ds => decide (uptoBulkAll ds ≤ 1048576)
def OpenSpec.upto (s : _root_.Go.ChangeSpec) : _root_.Go.OpenSpec := { _root_.Go.OpenSpec.ofChange s with cond := some uptoSmall }

/-- 'laws.FnExactIsAlgebra', WHERE WHAT IT READS IS OF BULK AT MOST 1048576: true; the input reads as it did. -/
def fnExactIsAlgebraUptoRow : OpenClaim := { program := "ythgggoodceogkaa", sum := "2c07ae4c95cbdc20a1ac876a455c9e53eea2fa3dd44381046dccf6c419198e3e", func := "loop.example/g01078/laws.FnExactIsAlgebra", spec := "fnExactIsAlgebra", apart := false, narrowed := true }
def FnExactIsAlgebraUptoSaid : Prop := fnExactIsAlgebraUptoRow.holds Try.pinned (OpenSpec.upto fnExactIsAlgebraSpec)

/-- 'laws.FnExactTypeOf', WHERE WHAT IT READS IS OF BULK AT MOST 1048576: true; the input reads as it did. -/
def fnExactTypeOfUptoRow : OpenClaim := { program := "ythgggoodceogkaa", sum := "2c07ae4c95cbdc20a1ac876a455c9e53eea2fa3dd44381046dccf6c419198e3e", func := "loop.example/g01078/laws.FnExactTypeOf", spec := "fnExactTypeOf", apart := false, narrowed := true }
def FnExactTypeOfUptoSaid : Prop := fnExactTypeOfUptoRow.holds Try.pinned (OpenSpec.upto fnExactTypeOfSpec)

/-- 'laws.FnExactSameType', WHERE WHAT IT READS IS OF BULK AT MOST 1048576: true; the input reads as it did. -/
def fnExactSameTypeUptoRow : OpenClaim := { program := "ythgggoodceogkaa", sum := "2c07ae4c95cbdc20a1ac876a455c9e53eea2fa3dd44381046dccf6c419198e3e", func := "loop.example/g01078/laws.FnExactSameType", spec := "fnExactSameType", apart := false, narrowed := true }
def FnExactSameTypeUptoSaid : Prop := fnExactSameTypeUptoRow.holds Try.pinned (OpenSpec.upto fnExactSameTypeSpec)

/-- 'laws.FnExactValueOf', WHERE WHAT IT READS IS OF BULK AT MOST 1048576: true; the input reads as it did. -/
def fnExactValueOfUptoRow : OpenClaim := { program := "ythgggoodceogkaa", sum := "2c07ae4c95cbdc20a1ac876a455c9e53eea2fa3dd44381046dccf6c419198e3e", func := "loop.example/g01078/laws.FnExactValueOf", spec := "fnExactValueOf", apart := false, narrowed := true }
def FnExactValueOfUptoSaid : Prop := fnExactValueOfUptoRow.holds Try.pinned (OpenSpec.upto fnExactValueOfSpec)

/-- 'laws.FnExactConstantsOf', WHERE WHAT IT READS IS OF BULK AT MOST 1048576: true; the input reads as it did. -/
def fnExactConstantsOfUptoRow : OpenClaim := { program := "ythgggoodceogkaa", sum := "2c07ae4c95cbdc20a1ac876a455c9e53eea2fa3dd44381046dccf6c419198e3e", func := "loop.example/g01078/laws.FnExactConstantsOf", spec := "fnExactConstantsOf", recurses := true, apart := false, narrowed := true }
def FnExactConstantsOfUptoSaid : Prop := fnExactConstantsOfUptoRow.holds Try.pinned (OpenSpec.upto fnExactConstantsOfSpec)

/-- 'laws.FnExactIsIdempotent', WHERE WHAT IT READS IS OF BULK AT MOST 1048576: true; the input reads as it did. -/
def fnExactIsIdempotentUptoRow : OpenClaim := { program := "ythgggoodceogkaa", sum := "2c07ae4c95cbdc20a1ac876a455c9e53eea2fa3dd44381046dccf6c419198e3e", func := "loop.example/g01078/laws.FnExactIsIdempotent", spec := "fnExactIsIdempotent", apart := false, narrowed := true }
def FnExactIsIdempotentUptoSaid : Prop := fnExactIsIdempotentUptoRow.holds Try.pinned (OpenSpec.upto fnExactIsIdempotentSpec)

/-- 'laws.FnExactIsCommutative', WHERE WHAT IT READS IS OF BULK AT MOST 1048576: true; the input reads as it did. -/
def fnExactIsCommutativeUptoRow : OpenClaim := { program := "ythgggoodceogkaa", sum := "2c07ae4c95cbdc20a1ac876a455c9e53eea2fa3dd44381046dccf6c419198e3e", func := "loop.example/g01078/laws.FnExactIsCommutative", spec := "fnExactIsCommutative", apart := false, narrowed := true }
def FnExactIsCommutativeUptoSaid : Prop := fnExactIsCommutativeUptoRow.holds Try.pinned (OpenSpec.upto fnExactIsCommutativeSpec)

/-- 'laws.FnExactIsAssociative', WHERE WHAT IT READS IS OF BULK AT MOST 1048576: true; the input reads as it did. -/
def fnExactIsAssociativeUptoRow : OpenClaim := { program := "ythgggoodceogkaa", sum := "2c07ae4c95cbdc20a1ac876a455c9e53eea2fa3dd44381046dccf6c419198e3e", func := "loop.example/g01078/laws.FnExactIsAssociative", spec := "fnExactIsAssociative", apart := false, narrowed := true }
def FnExactIsAssociativeUptoSaid : Prop := fnExactIsAssociativeUptoRow.holds Try.pinned (OpenSpec.upto fnExactIsAssociativeSpec)

/-- 'laws.FnExactReductTo', WHERE WHAT IT READS IS OF BULK AT MOST 1048576: true; the input reads as it did. -/
def fnExactReductToUptoRow : OpenClaim := { program := "ythgggoodceogkaa", sum := "2c07ae4c95cbdc20a1ac876a455c9e53eea2fa3dd44381046dccf6c419198e3e", func := "loop.example/g01078/laws.FnExactReductTo", spec := "fnExactReductTo", apart := false, narrowed := true }
def FnExactReductToUptoSaid : Prop := fnExactReductToUptoRow.holds Try.pinned (OpenSpec.upto fnExactReductToSpec)

/-- 'laws.FnExactReverseArgs', WHERE WHAT IT READS IS OF BULK AT MOST 1048576: true; the input reads as it did. -/
def fnExactReverseArgsUptoRow : OpenClaim := { program := "ythgggoodceogkaa", sum := "2c07ae4c95cbdc20a1ac876a455c9e53eea2fa3dd44381046dccf6c419198e3e", func := "loop.example/g01078/laws.FnExactReverseArgs", spec := "fnExactReverseArgs", apart := false, narrowed := true }
def FnExactReverseArgsUptoSaid : Prop := fnExactReverseArgsUptoRow.holds Try.pinned (OpenSpec.upto fnExactReverseArgsSpec)

/-- 'laws.FnExactRenameElements', WHERE WHAT IT READS IS OF BULK AT MOST 1048576: true; the input reads as it did. -/
def fnExactRenameElementsUptoRow : OpenClaim := { program := "ythgggoodceogkaa", sum := "2c07ae4c95cbdc20a1ac876a455c9e53eea2fa3dd44381046dccf6c419198e3e", func := "loop.example/g01078/laws.FnExactRenameElements", spec := "fnExactRenameElements", apart := false, narrowed := true }
def FnExactRenameElementsUptoSaid : Prop := fnExactRenameElementsUptoRow.holds Try.pinned (OpenSpec.upto fnExactRenameElementsSpec)

end Rows
end Go.Proofs.Ythgggoodceogkaa
