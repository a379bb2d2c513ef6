/-
  Contract: impl.subtermIn. Conditions: the bounds that each theorem names.
-/
import Derived.Test.YtplheohkecooeaaTakes3
import Derived.Test.YtplheohkecooeaaSubA
namespace Go.Proofs.Ytplheohkecooeaa
open Go.RowKit
set_option linter.unusedVariables false
set_option linter.unusedSimpArgs false

theorem IView.part {w : World} {lo hi b o n : Nat} {xs : List Int} (h : IView w lo hi (some ⟨b, o, none⟩) n xs) {k e : Nat} (h1 : k < e) (h2 : e ≤ n) : IView w lo hi (some ⟨b, o + k, none⟩) (e - k) ((xs.take e).drop k) := by
  have hl := h.1
  obtain ⟨b', o', he, hb, hh, hc⟩ := h.at_ (by omega)
  cases he
  refine ⟨by rw [List.length_drop, List.length_take]; omega, .inr ⟨b, o + k, rfl, hb, hh, fun j x hx => ?_⟩⟩
  rw [List.getElem?_drop, List.getElem?_take] at hx
  split at hx
  · rw [Nat.add_assoc]; exact hc (k + j) x hx
  · cases hx

/-- A part of memory that was there. -/
def PartAt (w w' : World) (lo hi : Nat) (ys : List Int) (e : Ending) : Prop :=
  ∃ a m c, e = .returned (.slice a m c) ∧ m = ys.length ∧ 0 < m ∧ m ≤ c ∧ c ≤ maxLen ∧ IView w' lo hi a m ys ∧ Below w.heap.size w w'

set_option maxHeartbeats 400000 in
theorem subIn_any (lo hi lo2 hi2 : Nat) (z : Int) (ao bo : Option Addr) (c n d m : Nat) (fs : List OpD) (xs : List Int) (k e : Nat) (w : World) (hv : OView w lo hi ao n fs) (hhi : hi ≤ w.heap.size) (hok : algOkB z fs = true)
    (hx : IView w lo2 hi2 bo m xs) (hhi2 : hi2 ≤ w.heap.size) (hm : m ≤ 60) (hmd : m ≤ d) (hd : d ≤ maxLen) (hq : ∀ x, x ∈ xs → (Lit.int .i64 x).wf = true) (he : endA fs xs k = some e) :
    Calls Try.prog 73 #[.agg #[.int .i64 z, .slice ao n c], .slice bo m d, .int .i64 (k : Int)] w fun e w' => PartAt w w' lo2 hi2 (subA fs xs k) e := by
  have hB := below_alloc w (.cells #[.int .i64 z, .slice ao n c] 30)
  have HB := Lib.hid hB
  obtain ⟨h1, h2⟩ := endA_gt he
  have hl := hx.1
  have hcall := endOf_any lo hi lo2 hi2 z ao bo c n d m fs xs k _ (hv.kept (Kept.of_below hB hhi)) (Nat.le_trans hhi hB.size) hok (hx.kept (Kept.of_below hB hhi2)) (Nat.le_trans hhi2 hB.size) hm hq (by omega)
  rw [he] at hcall
  have HC := Lib.hid hcall
  obtain ⟨b, o, rfl, _, _, _⟩ := hx.at_ (by omega)
  have hp := hx.part h1 (by omega)
  have hsub : (xs.take e).drop k = subA fs xs k := by unfold subA; rw [he]; rfl
  rw [hsub] at hp
  have HP := Lib.hid hp
  have hke : (k : Int) ≤ (e : Int) := by omega
  have hed : (e : Int) ≤ (d : Int) := by omega
  unfold maxLen at hd
  have HE := Lib.hid (And.intro h1 (And.intro hmd hd))
  have HLn : Hid (e - k = (subA fs xs k).length) := hp.1.symm
  clear hB hv hok hx hq he hcall hp hsub
  unfold PartAt
  go_enter Try.func73, Try.ntmps73
  go_wp2_with fail
  refine HC.out.mono ?_
  rintro e' w1 ⟨rfl, b1⟩
  have HB1 := Lib.hid (HB.out.trans (b1.mono HB.out.size))
  have HP1 := Lib.hid (HP.out.kept (Kept.of_below HB1.out hhi2))
  clear b1
  unfold endV
  go_wp2_with fail
  go_ret
  exact ⟨_, e - k, d - k, rfl, HLn.out, by omega, by omega, by have := HE.out; unfold maxLen; omega, HP1.out, HB1.out⟩

end Go.Proofs.Ytplheohkecooeaa
