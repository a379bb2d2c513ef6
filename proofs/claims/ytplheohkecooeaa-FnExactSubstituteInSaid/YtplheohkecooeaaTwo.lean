/-
  Contract: impl.areTerms at two lists. Conditions: the bounds that it names.
-/
import Derived.Test.YtplheohkecooeaaTakes3
namespace Go.Proofs.Ytplheohkecooeaa
open Go.RowKit
set_option linter.unusedVariables false
set_option linter.unusedSimpArgs false

/-- areTerms at a list of two. -/
theorem areT_two (lo hi lo2 hi2 lo3 hi3 : Nat) (z : Int) (ao bo co : Option Addr) (c n d m d2 m2 : Nat) (fs : List OpD) (xs ys : List Int) (w W : World) (hB : Below w.heap.size w W) (hv : OView w lo hi ao n fs) (hhi : hi ≤ w.heap.size) (hs : ∀ (j : Nat) (f : OpD), fs[j]? = some f → f.2.length ≤ maxLen)
    (hx : IView w lo2 hi2 bo m xs) (hhi2 : hi2 ≤ w.heap.size) (hmd : m ≤ d) (hm : d ≤ maxLen) (hq : ∀ x, x ∈ xs → (Lit.int .i64 x).wf = true)
    (hy : IView w lo3 hi3 co m2 ys) (hhi3 : hi3 ≤ w.heap.size) (hmd2 : m2 ≤ d2) (hm2 : d2 ≤ maxLen) (hq2 : ∀ x, x ∈ ys → (Lit.int .i64 x).wf = true)
    (b : Nat) (hb : b < W.heap.size) (hc : W.cell? ⟨b, 0, none⟩ = some (.slice bo m d)) (hc2 : W.cell? ⟨b, 1, none⟩ = some (.slice co m2 d2)) (cc : Nat) :
    Calls Try.prog 64 #[.agg #[.int .i64 z, .slice ao n c], .slice (some ⟨b, 0, none⟩) 2 cc] W fun e w' => e = .returned (.bool (algOkB z fs && (termB fs xs && termB fs ys))) ∧ Below W.heap.size W w' := by
  have h := areT_any lo hi 0 W.heap.size z ao (some ⟨b, 0, none⟩) c n cc 2 fs [xs, ys] W (hv.kept (Kept.of_below hB hhi)) (Nat.le_trans hhi hB.size) hs
    (LView.two hc hc2 (Nat.zero_le _) hb hmd hm ((hx.kept (Kept.of_below hB hhi2)).mono (Nat.zero_le _) (Nat.le_trans hhi2 hB.size)) hmd2 hm2 ((hy.kept (Kept.of_below hB hhi3)).mono (Nat.zero_le _) (Nat.le_trans hhi3 hB.size))) (Nat.le_refl _) (by omega) (fun zs hz x hxx => by
      simp at hz
      rcases hz with rfl | rfl
      · exact hq x hxx
      · exact hq2 x hxx)
  rw [areB_two] at h
  exact h

end Go.Proofs.Ytplheohkecooeaa
