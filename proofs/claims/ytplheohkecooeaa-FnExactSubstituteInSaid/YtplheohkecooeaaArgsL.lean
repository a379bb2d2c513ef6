/-
  What an argument that reads as an Identity is. No condition.
-/
import Derived.Test.YtplheohkecooeaaArgsLL
import Derived.Deep.Slices
namespace Go.Proofs.Ytplheohkecooeaa
open Go.ChangeShapes Go.WideShapes Go.ChangeAt Go.RowKit Go.Joins
section
variable {H : Type} {enc : TypeId × Value → H} {W : World} {base : Nat}

theorem readIdn : Try.prog.readableRec 60 = true := by kernel_rfl
theorem rowIdn : 60 < Try.prog.types.size := of_decide_eq_true (by kernel_rfl)
set_option maxRecDepth 100000 in
theorem arg_idn {v : Value} {d : DataW H} {p : List MemPlace} (hv : Value.okWide Try.prog W .any base 60 v) (h : DataW.Trod enc Try.prog W 0 (fun _ => true) true 60 v d p) :
    ∃ ao n c xs bo m d ys, v = .agg #[.slice ao n c, .slice bo m d] ∧ n ≤ c ∧ c ≤ maxLen ∧ IView W 0 W.heap.size ao n xs ∧ (∀ x, x ∈ xs → (Lit.int .i64 x).wf = true) ∧ m ≤ d ∧ d ≤ maxLen ∧ IView W 0 W.heap.size bo m ys ∧ (∀ x, x ∈ ys → (Lit.int .i64 x).wf = true) := by
  obtain ⟨v0, v1, y0, y1, k, rfl, _, _, h0, h1⟩ := open_agg2 Try.underlying60 (by kernel_rfl) (by kernel_rfl) hv h
  obtain ⟨a, m, c, xs, hcs, q1, q2, q3, q4⟩ := term_view h0
  obtain ⟨a', m', c', ys, hcs', r1, r2, r3, r4⟩ := term_view h1
  obtain rfl : v0 = .slice a m c := by simpa using hcs
  obtain rfl : v1 = .slice a' m' c' := by simpa using hcs'
  exact ⟨_, _, _, xs, _, _, _, ys, rfl, q1, q2, q3, q4, r1, r2, r3, r4⟩

end
end Go.Proofs.Ytplheohkecooeaa
