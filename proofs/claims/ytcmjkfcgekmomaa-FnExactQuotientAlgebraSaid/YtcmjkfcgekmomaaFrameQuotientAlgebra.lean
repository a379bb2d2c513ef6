/-
  Proved: QuotientAlgebra answers as its model, in memory of its own, and changes no argument. The only condition: an argument longer than the form's reach is not spoken of.
-/
import Derived.Test.YtcmjkfcgekmomaaRows
import Derived.Test.YtcmjkfcgekmomaaLawQuotientAlgebra
import Derived.Test.YtcmjkfcgekmomaaArgs
import Derived.Carry
import Derived.ProofKit
import Derived.OpenShut
namespace Go.Proofs.Ytcmjkfcgekmomaa.fnExactQuotientAlgebra
open Go.ChangeShapes Go.WideShapes Go.ChangeAt Go.RowKit

set_option maxRecDepth 100000 in
theorem lifted (os : Os) (started : os.Started) (H : Type) (enc : TypeId × Value → H) :
    ReturnsInHanded {} Try.checked os 8 .any (Rows.fnExactQuotientAlgebraSpec.pre6 enc Try.prog Try.f8 Rows.fnExactQuotientAlgebraRow.domain false) (Rows.fnExactQuotientAlgebraSpec.post enc Try.prog Try.f8 false true false false) := by
  refine returnsInHanded_of_change (C := Try.checked) own started (by kernel_rfl) Try.func8
    (ChangeSpec.witness6 (enc := enc) (C := Try.checked) false ⟨#[], #[.agg #[.int .i64 0, .slice none 0 0], .slice none 0 0], []⟩ 8 (by kernel_rfl) (by kernel_rfl) (by kernel_rfl) (by kernel_rfl)) ?_
  intro W base args ds gs before hval0 hW hcnd _
  have hval : ∀ (j : Nat) t v, Try.f8.params[j]? = some t → args[j]? = some v → Value.okWide Try.prog W .any base t v := hval0
  have hW' := hW
  obtain ⟨p, q, hA0, hV, rfl, hfz, hnd⟩ := hW
  have hA : DataW.TrodAll enc Try.prog W 0 (fun _ => true) true Try.f8.params.toList args.toList ds p := hA0
  rw [Try.params8] at hA hval
  obtain ⟨v0, v1, d0, d1, p0, p1, rfl, rfl, rfl, h0, h1⟩ := trodAll_two hA
  obtain ⟨rfl, rfl⟩ := trodVars_none hV
  have k0 := h0
  have k1 := h1
  obtain ⟨z0, a0, n0, c0, fs0, rfl, wz0, hn0, ht0, hv0⟩ := arg_alg (hval 0 24 v0 rfl rfl) h0
  obtain ⟨a1, n1, c1, xs1, rfl, hc1, hm1, hv1⟩ := arg_ints (hval 1 25 v1 rfl rfl) h1
  clear hA0 hval0
  simp only [List.append_nil] at hW'
  refine (lawQuotientAlgebra W z0 a0 n0 c0 fs0 wz0 hn0 ht0 hv0 a1 n1 c1 xs1 hc1 hm1 hv1).mono fun e W' ⟨he, hnx⟩ => ?_
  subst he
  have hlt := fun x hx => by simpa using hW'.lt x hx
  have hargs := trodAll_mk2 (Below.trod laidOut readAlg rowAlg k0 hnx (fun x hx => hlt x (by simp [hx]))) (Below.trod laidOut readInts rowInts k1 hnx (fun x hx => hlt x (by simp [hx])))
  try simp only [List.append_nil] at hargs
  exact ⟨_, rfl, _, _, _, [], _, [], hW', trodAll_mk1 (shut_bool Try.underlying4 _), hargs, rfl, hnx.frame _, fun h => by cases h⟩

theorem over : Rows.fnExactQuotientAlgebraRow.holds Try.pinned (OpenSpec.ofChange Rows.fnExactQuotientAlgebraSpec) :=
  OpenClaim.holds_of_wide 8 Try.f8 rfl rfl rfl rfl rfl rfl rfl ⟨rfl, rfl, rfl, rfl, rfl⟩ rfl rfl rfl rfl rfl (by kernel_rfl) Try.func8 (by kernel_rfl)
    (of_decide_eq_true (by kernel_rfl)) (by unfold Func.isWrapper; first | (rw [if_pos (by decide +kernel)]; kernel_rfl) | (rw [if_neg (by decide +kernel)]; exact ⟨rfl, rfl⟩))
    (fun os started H enc _ => lifted os started H enc)

/-- The given statement. -/
theorem proved : Rows.FnExactQuotientAlgebraSaid :=
  over
#print axioms proved
end Go.Proofs.Ytcmjkfcgekmomaa.fnExactQuotientAlgebra
