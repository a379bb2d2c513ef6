/-
  Contract: impl.VarsOf. Conditions: the bounds that it names.
-/
import Derived.Test.YtplheohkecooeaaVars
import Derived.Test.YtplheohkecooeaaVarsIn
namespace Go.Proofs.Ytplheohkecooeaa
open Go.RowKit
set_option linter.unusedVariables false
set_option linter.unusedSimpArgs false

set_option maxHeartbeats 1000000 in
theorem implVarsOf (lo hi : Nat) (z : Int) (ao : Option Addr) (c n : Nat) (fs : List OpD) (lo2 hi2 : Nat) (bo : Option Addr) (d m : Nat) (xs : List Int) (w : World) (hv : OView w lo hi ao n fs) (hhi : hi ≤ w.heap.size) (hs : ∀ (j : Nat) (f : OpD), fs[j]? = some f → f.2.length ≤ maxLen)
    (hx : IView w lo2 hi2 bo m xs) (hhi2 : hi2 ≤ w.heap.size) (hmd : m ≤ d) (hm : d ≤ maxLen) (hq : ∀ x, x ∈ xs → (Lit.int .i64 x).wf = true) :
    Calls Try.prog 23 #[.agg #[.int .i64 z, .slice ao n c], .slice bo m d] w fun e w' => ResL w w' (valVarsOf z fs xs).1 (valVarsOf z fs xs).2 e := by
  have hB0 := below_alloc w (.cells #[.int .i64 z, .slice ao n c] 30)
  have hB := below_then hB0 (below_alloc _ (.cells #[.slice bo m d] 25))
  have HB := Lib.hid hB
  have hcall := areT_one lo hi lo2 hi2 z ao bo c n d m fs xs w _ hB hv hhi hs hx hhi2 hmd hm hq (w.heap.size + 1) (by simp) (by simp) 1
  obtain ⟨r, hr⟩ : ∃ r, isTermB z fs xs = r := ⟨_, rfl⟩
  rw [hr] at hcall
  have HC := Lib.hid hcall
  unfold ResL
  cases r with
  | false =>
    rw [val_vars_no hr]
    clear hB0 hB hv hs hx hq hcall hr
    go_enter Try.func23, Try.ntmps23
    go_wp2_with fail
    refine HC.out.mono ?_
    rintro e w1 ⟨rfl, b1⟩
    have HB1 := Lib.hid (HB.out.trans (b1.mono HB.out.size))
    clear b1
    go_wp2_with fail
    go_ret2
    exact ⟨none, 0, 0, rfl, rfl, ⟨World.ownsRow_nil _ _ _ _, fun k h => by simp [Value.ownBlock] at h⟩, HB1.out⟩
  | true =>
    obtain ⟨hok, h60, hend⟩ := isTermB_of hr
    rw [val_vars_yes hr]
    have hlt : ∀ x, x ∈ xs → x < 6 := fun x hxx => by
      obtain ⟨j, hj⟩ := List.getElem?_of_mem hxx
      exact (term_lt hok hend hj).1
    have HCV := Lib.hid (fun (w1 : World) (hB1 : Below w.heap.size w w1) => varsIn_any 0 (w1.heap.size + 1) (some ⟨w1.heap.size, 0, none⟩) 1 1 [xs] (w1.alloc (.cells #[.slice bo m d] 25))
      (LView.one (by simp) (Nat.zero_le _) (by omega) hmd hm ((hx.kept (Kept.of_below (below_then hB1 (below_alloc _ _)) hhi2)).mono (Nat.zero_le _) (by have := hB1.size; omega))) (by simp) (by omega)
      (fun ys hy => by simp at hy; subst hy; exact h60) (fun ys hy => by simp at hy; subst hy; exact hlt))
    simp only [List.flatten_cons, List.flatten_nil, List.append_nil] at HCV
    clear hB0 hB hv hs hx hq hcall hr hok hend h60 hlt
    go_enter Try.func23, Try.ntmps23
    go_wp2_with fail
    refine HC.out.mono ?_
    rintro e w1 ⟨rfl, b1⟩
    have HB1 := Lib.hid (HB.out.trans (b1.mono HB.out.size))
    clear b1
    go_wp2_with fail
    refine (HCV.out _ HB1.out).mono ?_
    rintro e' w2 ⟨a2, m2, d2, rfl, hm2, ho2, b2⟩
    have HBa := Lib.hid (HB1.out.alloc HB1.out.size (.cells #[.slice bo m d] 25))
    have HB2 := Lib.hid (HBa.out.trans (b2.mono HBa.out.size))
    have HO2 := Lib.hid (ownsRow_base ho2 HBa.out.size)
    have HM2 := Lib.hid hm2
    clear b2 ho2 hm2
    go_wp2_with fail
    go_ret2
    exact ⟨a2, m2, d2, rfl, HM2.out, OwnsInts.of_row HO2.out, HB2.out⟩

end Go.Proofs.Ytplheohkecooeaa
