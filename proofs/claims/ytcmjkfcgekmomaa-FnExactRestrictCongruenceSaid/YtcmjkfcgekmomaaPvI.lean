/-
  Contract: impl.partitionOfValues. Conditions: the bounds that it names.
-/
import Derived.Test.YtcmjkfcgekmomaaKrlM
import Derived.Test.YtcmjkfcgekmomaaPlc
import Derived.Test.YtcmjkfcgekmomaaClone
import Derived.Test.YtcmjkfcgekmomaaSetQ
namespace Go.Proofs.Ytcmjkfcgekmomaa
open Go.RowKit
set_option linter.unusedVariables false
set_option linter.unusedSimpArgs false

set_option maxHeartbeats 1000000 in
theorem pov_any (lo hi : Nat) (co : Option Addr) (e_ l : Nat) (xs : List Int) (w : World) (hx : IView w lo hi co l xs) (hhi : hi ≤ w.heap.size) (h1 : 1 ≤ l) (hl : l ≤ 1048576) :
    Calls Try.prog 54 #[.slice co l e_] w fun en w' => NewInts w w' l (kerL xs) en := by
  obtain ⟨i0, hi0, hz0, hz1, hz2⟩ := info_parts Try.infoInt
  obtain ⟨b, o, rfl, _, hbh, hc⟩ := hx.at_ (show 0 < l by omega)
  have HC := Lib.hid hc
  have HX := Lib.hid hx
  have HLx := Lib.hid hx.1
  have hbw : b < w.heap.size := by omega
  clear hc hx
  unfold NewInts
  go_enter Try.func54, Try.ntmps54
  go_wp2_with fail
  go_loopw [3, 8] (fun v i wr => ∃ (j vc : Nat) (va : Option Addr), j ≤ l ∧ i = .int .i64 (j : Int) ∧ v = .slice va j vc ∧ Hid (wr.ownsRow w.heap.size 3 1 (.slice va j vc) j (((kerL xs).take j).map (Value.int .i64))) ∧ Hid (Below w.heap.size w wr)) (fun _ i _ => l - (intOf i).toNat)
  case atStart => exact ⟨0, 0, none, Nat.zero_le _, rfl, rfl, World.ownsRow_nil _ _ _ _, Below.refl _ _⟩
  case round =>
    obtain ⟨j, vc, va, hj, rfl, rfl, HR, HBr⟩ := hrel
    by_cases hjl : j < l
    · have hjn : (j : Int) < (l : Int) := by omega
      obtain ⟨x, hx⟩ := get_of_lt HLx.out hjl
      have e1 : wr.cell? ⟨b, o + j, none⟩ = some (.int .i64 x) := (HBr.out.cell (p := ⟨b, o + j, none⟩) hbw).trans (HC.out j x hx)
      have HIx := Lib.hid (fun (W : World) (hW : Below w.heap.size w W) => place_impl lo hi b o l e_ xs x W (HX.out.kept (Kept.of_below hW hhi)) (by omega) (by omega))
      obtain ⟨u, hu⟩ : ∃ u, plI xs x = u := ⟨_, rfl⟩
      have hk := kerL_take hx
      rw [hu] at HIx hk
      have HK := Lib.hid hk
      clear hx hu hk
      go_wp2_with fail
      refine (HIx.out _ HBr.out).mono ?_
      rintro e w' ⟨rfl, rfl⟩
      go_wp2_with (at_builtin; refine wpList_append_own _ rfl _ _ 25 rfl w.heap.size 3 i0 (.int .i64 0) 1 8 Try.underlying25 hi0 hz0 hz1 hz2 rfl (by decide) (.slice va j vc) j (((kerL xs).take j).map (Value.int .i64)) rfl (HR.out.alloc _) ⟨_, 0, none⟩ 1 1 [.int .i64 u] rfl rfl (cell_one_new _ _ _) (fun x hx => by simp at hx; subst hx; rfl) (by unfold maxLen; omega) (by omega) (by have := HBr.out.size; simp; omega) ?_; intro v' w3 hown' hgrow' hnil')
      obtain ⟨g, cap, rfl⟩ := ownsRow_succ hown'
      have HB3 := Lib.hid ((HBr.out.alloc HBr.out.size (.cells #[.int .i64 u] 3)).grown hgrow' (by have := HBr.out.size; simp; omega) (fun q hq => (HR.out.lt q hq).1))
      have HO3 : Hid (w3.ownsRow w.heap.size 3 1 (.slice (some ⟨g, 0, none⟩) (j + 1) cap) (j + 1) (((kerL xs).take (j + 1)).map (Value.int .i64))) := by
        unfold Hid
        rw [HK.out, List.map_append]
        exact hown'
      clear hown' hgrow' hnil'
      go_wp2_with fail
      go_roundw
      case rel => exact ⟨j + 1, cap, _, by omega, by go_num, rfl, HO3, HB3⟩
      case measure => simp [intOf]; omega
    · have hjn : ¬ (j : Int) < (l : Int) := by omega
      obtain rfl : j = l := by omega
      have HE : Hid ((kerL xs).take j = kerL xs) := List.take_of_length_le (by rw [kerL_len]; have := HLx.out; omega)
      unfold Hid at HR
      rw [HE.out] at HR
      obtain ⟨j', rfl⟩ : ∃ j', j = j' + 1 := ⟨j - 1, by omega⟩
      obtain ⟨g, cap, hv⟩ := ownsRow_succ HR
      obtain ⟨rfl, rfl⟩ : va = some ⟨g, 0, none⟩ ∧ vc = cap := by injection hv with h1 _ h3; exact ⟨h1, h3⟩
      have HR := Lib.hid HR
      clear hv
      go_wp2_with fail
      go_ret
      exact ⟨g, vc, rfl, HR.out, HBr.out⟩

end Go.Proofs.Ytcmjkfcgekmomaa
