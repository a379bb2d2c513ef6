/-
  The walk of the law FnExactFormatInt: it returns true for every int, where the library's table of powers of ten lies as its text lays it.
-/
import Derived.Test.YtoljoifldlpinaaDoorNum
import Derived.Test.YtoljoifldlpinaaDoorLaid
namespace Go.Proofs.YtoljoifldlpinaaDoor
open Go.RowKit

theorem lawFormatInt (n : Int) (w : World) (hL : laidMetH Tryd.prog laidA w) :
    Calls Tryd.prog 4 #[.int .i64 n] w fun e w' => e = .returned (.bool true) ∧ Below w.heap.size w w' := by
  have htab := tab_of_laidA hL
  clear hL
  by_cases h : -999999 ≤ n ∧ n ≤ 999999
  · obtain ⟨h0, h1⟩ := h
    have hi := Lib.hid (fun q => implFormat_yes n (w.drewN q) h0 h1 htab)
    have hs := Lib.hid (specFormat_yes n w h0 h1)
    obtain ⟨S, hS⟩ : ∃ S : ByteArray, (⟨(Lib.itoa n).toArray⟩ : ByteArray) = S := ⟨_, rfl⟩
    rw [hS] at hi hs
    clear htab hS
    go_enter Tryd.func4, Tryd.ntmps4
    go_wp2_with fail
    refine hs.out.mono ?_
    rintro e w' ⟨rfl, q, rfl⟩
    go_wp2_with fail
    refine (hi.out q).mono ?_
    rintro e w2 ⟨rfl, hb⟩
    have B := Lib.hid hb
    clear hb
    go_wp2
    go_ret
    exact ⟨rfl, (below_drewN (Below.refl _ w) q).trans B.out⟩
  · have h' : n < -999999 ∨ 999999 < n := by omega
    have hi := Lib.hid (implFormat_no n w h')
    have hs := Lib.hid (specFormat_no n w h')
    clear htab h h'
    go_enter Tryd.func4, Tryd.ntmps4
    go_wp2_with fail
    refine hs.out.mono ?_
    rintro e w' ⟨rfl, rfl⟩
    go_wp2_with fail
    refine hi.out.mono ?_
    rintro e w2 ⟨rfl, rfl⟩
    go_wp2
    go_ret
    exact ⟨rfl, Below.refl _ _⟩

end Go.Proofs.YtoljoifldlpinaaDoor
