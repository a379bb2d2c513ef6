/-
  Contracts: the two closures of impl.valueOfTerm. Conditions: the bounds that each theorem names.
-/
import Derived.Test.YtplheohkecooeaaIdx
import Derived.Test.YtplheohkecooeaaBackS
import Derived.Test.YtplheohkecooeaaRange
import Derived.Test.YtplheohkecooeaaLists
import Derived.RangeFuncBox
import Derived.RangeFuncLeaves
import Derived.Shelf.Abstract
import Derived.OwnWalkIn
import Derived.TacticsInMore
import Derived.LoopNIn
import Derived.LoopIn
namespace Go.Proofs.Ytplheohkecooeaa
open Go.RowKit Go.Shelf
set_option linter.unusedVariables false
set_option linter.unusedSimpArgs false
attribute [local go_sem] Oper.semAt_some

/-! The closures of valueOfTerm -/
theorem leaf_any (lo hi Bv v nv cv : Nat) (vo : Option Addr) (vs : List Int) (W : World) (hc : W.cell? ⟨Bv, 0, none⟩ = some (.slice vo nv cv)) (hv : IView W lo hi vo nv vs) (h : v < nv) :
    Calls Try.prog 107 #[.int .i64 (v : Int), .pointer (some ⟨Bv, 0, none⟩)] W fun e w' => e = .returned (.int .i64 (vs.getD v 0)) ∧ w' = W := by
  obtain ⟨b, o, rfl, _, _, hcx⟩ := hv.at_ (by omega)
  obtain ⟨x, hx⟩ := get_of_lt hv.1 h
  have c0 := hcx v x hx
  rw [show vs.getD v 0 = x by rw [List.getD_eq_getElem?_getD, hx]; rfl]
  have hvn : (v : Int) < (nv : Int) := by omega
  clear hv hcx hx
  go_enter Try.func107, Try.ntmps107
  go_wp2
  go_ret
  exact ⟨rfl, rfl⟩

set_option maxHeartbeats 1000000 in
theorem node_any (lo hi lo2 hi2 Ba k n c m d : Nat) (z : Int) (ao bo : Option Addr) (fs : List OpD) (f : OpD) (xs : List Int) (W : World) (hc0 : W.cell? ⟨Ba, 0, none⟩ = some (.int .i64 z)) (hc1 : W.cell? ⟨Ba, 1, none⟩ = some (.slice ao n c))
    (hv : OView W lo hi ao n fs) (hok : algOkB z fs = true) (hf : fs[k]? = some f) (hx : IView W lo2 hi2 bo m xs) (ha : allIn z xs = true) (hl : (m : Int) = f.1) :
    Calls Try.prog 108 #[.int .i64 (k : Int), .slice bo m d, .pointer (some ⟨Ba, 0, none⟩)] W fun e w' => e = .returned (.int .i64 (atA z f xs)) ∧ ∃ q, w' = W.drewN q := by
  obtain ⟨⟨h1, h2⟩, hn4, hall⟩ := algOkB_of hok
  have hfo := hall f (List.mem_of_getElem? hf)
  have hm3 : m ≤ 3 := by have := (opOkB_of hfo).1; omega
  obtain ⟨hi0, hi1, hat⟩ := at_get h1 hfo (by rw [hx.1]; exact hl) ha
  have hkl : k < n := by rw [← hv.1]; exact (List.getElem?_eq_some_iff.1 hf).1
  obtain ⟨b, o, rfl, hbl, hb, hc⟩ := hv.at_ (by omega)
  obtain ⟨a, mt, c', _, c1, hmc, hcm, hvt⟩ := hc k f hf
  have hmt : f.2.length = mt := hvt.1
  rw [hmt] at hi1
  obtain ⟨bt, ot, rfl, _, _, hct⟩ := hvt.at_ (by omega)
  have hct2 := hct _ _ hat
  obtain ⟨i, hi⟩ : ∃ i : Nat, idxA z xs = (i : Int) := ⟨(idxA z xs).toNat, by omega⟩
  have HI := Lib.hid (fun (q : Nat) => idx_impl lo2 hi2 z bo d m xs (W.drewN q) (hx.kept (Kept.drewN W q)) h1 h2 ha hm3)
  rw [hi] at hi1 hct2 HI
  rw [Int.toNat_natCast] at hct2
  obtain ⟨v, hve⟩ : ∃ v, atA z f xs = v := ⟨_, rfl⟩
  rw [hve] at hct2 ⊢
  have hkn : (k : Int) < (n : Int) := by omega
  clear hv hok hf hx ha hl hfo hall hat hc hvt hct hi hve hn4 hi0 hmt
  go_enter Try.func108, Try.ntmps108
  go_wp2
  go_quiet ((go_at_call 109; exact quiet_left (HI.out _)))
  go_wp2
  go_ret
  exact ⟨rfl, _, rfl⟩

end Go.Proofs.Ytplheohkecooeaa
