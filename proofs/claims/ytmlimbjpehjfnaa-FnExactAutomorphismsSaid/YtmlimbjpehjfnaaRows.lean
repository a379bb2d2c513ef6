/-
  No cell of these rows narrows 'for every input' (looked for: loops, veiled, ifaces, maps, wideKeys, modest, calm, conditions, laid).
  DERIVED. THE GIVEN ROWS OF THIS SEAT. 4 by the template 'for every input the law returns true; each argument reads behind the call as it read before'; 0 by the template 'total and deterministic' (their statements: YtmlimbjpehjfnaaTotals.lean).
  GIVEN WITH THE SEED: the statements are not yours to turn. If you find one false, say at which input.
  Laid BY PROGRAM, IN A SANDBOX (cutbox-rows.mjs): the forced cells as the released guide's own fill.sh prints them over the translation 8e13ebade00e19fe… (all of the seat's roots in one cut). By AI agents, Wed Nov 11 2026. No macro, syntax, notation, axiom, sorry.
-/
import Derived.Test.YtmlimbjpehjfnaaChecked
import GoSem.Claim
import GoSem.ClaimJoined
import GoSem.ClaimMapViews
import Derived.JoinedTies
import Derived.KernelRfl
namespace Go.Proofs.Ytmlimbjpehjfnaa
/- THE CELL 'sum', in the pinned program and in every row, IS THE sha256 OF THE DUMP (.gsa) THAT YtmlimbjpehjfnaaProg.lean LOADS. Nothing in Lean hashes anything: it is a label: what it is worth is what the hold of that sum in a sandbox is worth. -/
noncomputable def Try.pinned : Pinned := { name := "ytmlimbjpehjfnaa", sum := "8e13ebade00e19fe56bfa52295e62c78cb6c3f909a949d93525ddc4db39214ac", checked := Try.checked }
namespace Rows
def none {H : Type} : Left H := { results := [], args := [] }

/-- 'laws.FnExactEndomorphisms': WHATEVER THE INPUT: true; the input reads as it did. -/
def fnExactEndomorphismsSpec : ChangeSpec := { name := "fnExactEndomorphisms", fn := fun _ => fun
  | [d] => { results := [.lit (.bool true)], args := [d] }
  | _ => none }
def fnExactEndomorphismsRow : OpenClaim := { program := "ytmlimbjpehjfnaa", sum := "8e13ebade00e19fe56bfa52295e62c78cb6c3f909a949d93525ddc4db39214ac", func := "loop.example/g01078/laws.FnExactEndomorphisms", spec := "fnExactEndomorphisms", unfollowed := true, recurses := true, apart := false }
def FnExactEndomorphismsSaid : Prop := fnExactEndomorphismsRow.holds Try.pinned (OpenSpec.ofChange fnExactEndomorphismsSpec)

/-- ITS FALSE NEIGHBOUR: 'it returns false'. Refute it at one input. -/
def fnExactEndomorphismsWrong : ChangeSpec := { name := "fnExactEndomorphisms", fn := fun _ => fun
  | [d] => { results := [.lit (.bool false)], args := [d] }
  | _ => none }
def FnExactEndomorphismsWrongFalsely : Prop := fnExactEndomorphismsRow.holds Try.pinned (OpenSpec.ofChange fnExactEndomorphismsWrong)

/-- 'laws.FnExactAutomorphisms': WHATEVER THE INPUT: true; the input reads as it did. -/
def fnExactAutomorphismsSpec : ChangeSpec := { name := "fnExactAutomorphisms", fn := fun _ => fun
  | [d] => { results := [.lit (.bool true)], args := [d] }
  | _ => none }
def fnExactAutomorphismsRow : OpenClaim := { program := "ytmlimbjpehjfnaa", sum := "8e13ebade00e19fe56bfa52295e62c78cb6c3f909a949d93525ddc4db39214ac", func := "loop.example/g01078/laws.FnExactAutomorphisms", spec := "fnExactAutomorphisms", unfollowed := true, recurses := true, apart := false }
def FnExactAutomorphismsSaid : Prop := fnExactAutomorphismsRow.holds Try.pinned (OpenSpec.ofChange fnExactAutomorphismsSpec)

/-- ITS FALSE NEIGHBOUR: 'it returns false'. Refute it at one input. -/
def fnExactAutomorphismsWrong : ChangeSpec := { name := "fnExactAutomorphisms", fn := fun _ => fun
  | [d] => { results := [.lit (.bool false)], args := [d] }
  | _ => none }
def FnExactAutomorphismsWrongFalsely : Prop := fnExactAutomorphismsRow.holds Try.pinned (OpenSpec.ofChange fnExactAutomorphismsWrong)

/-- 'laws.FnExactAutomorphismOrbits': WHATEVER THE INPUT: true; the input reads as it did. -/
def fnExactAutomorphismOrbitsSpec : ChangeSpec := { name := "fnExactAutomorphismOrbits", fn := fun _ => fun
  | [d] => { results := [.lit (.bool true)], args := [d] }
  | _ => none }
def fnExactAutomorphismOrbitsRow : OpenClaim := { program := "ytmlimbjpehjfnaa", sum := "8e13ebade00e19fe56bfa52295e62c78cb6c3f909a949d93525ddc4db39214ac", func := "loop.example/g01078/laws.FnExactAutomorphismOrbits", spec := "fnExactAutomorphismOrbits", unfollowed := true, recurses := true, apart := false }
def FnExactAutomorphismOrbitsSaid : Prop := fnExactAutomorphismOrbitsRow.holds Try.pinned (OpenSpec.ofChange fnExactAutomorphismOrbitsSpec)

/-- ITS FALSE NEIGHBOUR: 'it returns false'. Refute it at one input. -/
def fnExactAutomorphismOrbitsWrong : ChangeSpec := { name := "fnExactAutomorphismOrbits", fn := fun _ => fun
  | [d] => { results := [.lit (.bool false)], args := [d] }
  | _ => none }
def FnExactAutomorphismOrbitsWrongFalsely : Prop := fnExactAutomorphismOrbitsRow.holds Try.pinned (OpenSpec.ofChange fnExactAutomorphismOrbitsWrong)

/-- 'laws.FnExactRetractions': WHATEVER THE INPUT: true; the input reads as it did. -/
def fnExactRetractionsSpec : ChangeSpec := { name := "fnExactRetractions", fn := fun _ => fun
  | [d] => { results := [.lit (.bool true)], args := [d] }
  | _ => none }
def fnExactRetractionsRow : OpenClaim := { program := "ytmlimbjpehjfnaa", sum := "8e13ebade00e19fe56bfa52295e62c78cb6c3f909a949d93525ddc4db39214ac", func := "loop.example/g01078/laws.FnExactRetractions", spec := "fnExactRetractions", unfollowed := true, recurses := true, apart := false }
def FnExactRetractionsSaid : Prop := fnExactRetractionsRow.holds Try.pinned (OpenSpec.ofChange fnExactRetractionsSpec)

/-- ITS FALSE NEIGHBOUR: 'it returns false'. Refute it at one input. -/
def fnExactRetractionsWrong : ChangeSpec := { name := "fnExactRetractions", fn := fun _ => fun
  | [d] => { results := [.lit (.bool false)], args := [d] }
  | _ => none }
def FnExactRetractionsWrongFalsely : Prop := fnExactRetractionsRow.holds Try.pinned (OpenSpec.ofChange fnExactRetractionsWrong)

/- THE SECOND FORM. 'bulk': how many values and letters a reading holds, each counted each time it is reached (what is shared counts as often as it is met; a slice's spare places count too). A statement '..UptoSaid' is the law's where the arguments, and the package variables that the reading takes, are together of bulk at most 1048576: NARROWER than '..Said'. Prove '..Said' where nothing that the law and all that it calls make is longer than what came in: it says more and counts as full. Else prove '..UptoSaid'. A law counts once. -/
mutual
def uptoBulk {H : Type} : DataW H → Nat
  | .lit (.string bytes) => bytes.length + 1
  | .lit _ => 1
  | .nil => 1
  | .ptr d => uptoBulk d + 1
  | .slice elems spare => uptoBulkAll elems + uptoBulkAll spare + 1
  | .agg parts => uptoBulkAll parts + 1
  | .iface _ d => uptoBulk d + 1
  | .map entries => uptoBulkEntries entries + 1
  | .held _ => 1
def uptoBulkAll {H : Type} : List (DataW H) → Nat
  | [] => 0
  | d :: r => uptoBulk d + uptoBulkAll r
def uptoBulkEntries {H : Type} : List (Lit × DataW H) → Nat
  | [] => 0
  | x :: r => uptoBulkEntry x + uptoBulkEntries r
def uptoBulkEntry {H : Type} : Lit × DataW H → Nat
  | (.string bytes, d) => bytes.length + uptoBulk d + 1
  | (_, d) => uptoBulk d + 1
 end
def uptoSmall : (H : Type) → List (DataW H) → Bool := fun _ ds => decide (uptoBulkAll ds ≤ 1048576)
def OpenSpec.upto (s : _root_.Go.ChangeSpec) : _root_.Go.OpenSpec := { _root_.Go.OpenSpec.ofChange s with cond := some uptoSmall }

/-- 'laws.FnExactEndomorphisms', WHERE WHAT IT READS IS OF BULK AT MOST 1048576: true; the input reads as it did. -/
def fnExactEndomorphismsUptoRow : OpenClaim := { program := "ytmlimbjpehjfnaa", sum := "8e13ebade00e19fe56bfa52295e62c78cb6c3f909a949d93525ddc4db39214ac", func := "loop.example/g01078/laws.FnExactEndomorphisms", spec := "fnExactEndomorphisms", unfollowed := true, recurses := true, apart := false, narrowed := true }
def FnExactEndomorphismsUptoSaid : Prop := fnExactEndomorphismsUptoRow.holds Try.pinned (OpenSpec.upto fnExactEndomorphismsSpec)

/-- 'laws.FnExactAutomorphisms', WHERE WHAT IT READS IS OF BULK AT MOST 1048576: true; the input reads as it did. -/
def fnExactAutomorphismsUptoRow : OpenClaim := { program := "ytmlimbjpehjfnaa", sum := "8e13ebade00e19fe56bfa52295e62c78cb6c3f909a949d93525ddc4db39214ac", func := "loop.example/g01078/laws.FnExactAutomorphisms", spec := "fnExactAutomorphisms", unfollowed := true, recurses := true, apart := false, narrowed := true }
def FnExactAutomorphismsUptoSaid : Prop := fnExactAutomorphismsUptoRow.holds Try.pinned (OpenSpec.upto fnExactAutomorphismsSpec)

/-- 'laws.FnExactAutomorphismOrbits', WHERE WHAT IT READS IS OF BULK AT MOST 1048576: true; the input reads as it did. -/
def fnExactAutomorphismOrbitsUptoRow : OpenClaim := { program := "ytmlimbjpehjfnaa", sum := "8e13ebade00e19fe56bfa52295e62c78cb6c3f909a949d93525ddc4db39214ac", func := "loop.example/g01078/laws.FnExactAutomorphismOrbits", spec := "fnExactAutomorphismOrbits", unfollowed := true, recurses := true, apart := false, narrowed := true }
def FnExactAutomorphismOrbitsUptoSaid : Prop := fnExactAutomorphismOrbitsUptoRow.holds Try.pinned (OpenSpec.upto fnExactAutomorphismOrbitsSpec)

/-- 'laws.FnExactRetractions', WHERE WHAT IT READS IS OF BULK AT MOST 1048576: true; the input reads as it did. -/
def fnExactRetractionsUptoRow : OpenClaim := { program := "ytmlimbjpehjfnaa", sum := "8e13ebade00e19fe56bfa52295e62c78cb6c3f909a949d93525ddc4db39214ac", func := "loop.example/g01078/laws.FnExactRetractions", spec := "fnExactRetractions", unfollowed := true, recurses := true, apart := false, narrowed := true }
def FnExactRetractionsUptoSaid : Prop := fnExactRetractionsUptoRow.holds Try.pinned (OpenSpec.upto fnExactRetractionsSpec)

end Rows
end Go.Proofs.Ytmlimbjpehjfnaa
