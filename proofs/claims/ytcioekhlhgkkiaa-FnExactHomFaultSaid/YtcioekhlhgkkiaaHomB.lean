/-
  Plain mathematics: the answer of HomFault is small. No condition.
-/
import Derived.Test.YtcioekhlhgkkiaaHomA
namespace Go.Proofs.Ytcioekhlhgkkiaa
set_option linter.unusedVariables false

theorem smallHomFault (z : Int) (fs : List OpD) (z1 : Int) (gs : List OpD) (xs : List Int) : (valHomFault z fs z1 gs xs).1.2.length ≤ 4194304 := by
  show (fltL z fs (fltIf z z1 fs gs xs)).length ≤ 4194304
  unfold fltIf
  cases hm : mapB z z1 fs gs xs with
  | false => rw [if_neg (by simp)]; simp [fltL]
  | true =>
    rw [if_pos rfl]
    cases hf : faultV z z1 fs gs (arrL xs) with
    | none => simp [fltL]
    | some p =>
      obtain ⟨k, x⟩ := p
      obtain ⟨F, hF, _⟩ := faultV_of hf
      obtain ⟨q1, _, _⟩ := mapB_of hm
      obtain ⟨⟨h1, h2⟩, _, hall⟩ := algOkB_of (sameH_of q1).1
      have h3 := (place_bd h1 h2 (hall F (List.mem_of_getElem? hF))).2.2
      show (digs z (opAt fs k).1.toNat (x : Int)).length ≤ 4194304
      rw [digs_len, opAt_get hF]
      omega

end Go.Proofs.Ytcioekhlhgkkiaa
