/-
  Contract: spec.l9Kernel. Conditions: the bounds that it names.
-/
import Derived.Test.YtcmjkfcgekmomaaKrlM
import Derived.Test.YtcmjkfcgekmomaaSetQ
import Derived.Test.YtcmjkfcgekmomaaMarkA
import Derived.Test.YtcmjkfcgekmomaaStep
import Derived.Deep.RegionHeld3
namespace Go.Proofs.Ytcmjkfcgekmomaa
open Go.RowKit
set_option linter.unusedVariables false
set_option linter.unusedSimpArgs false

set_option maxHeartbeats 1000000 in
theorem kernel9_spec (lo hi : Nat) (co : Option Addr) (e_ l : Nat) (xs : List Int) (w : World) (hx : IView w lo hi co l xs) (hhi : hi ≤ w.heap.size) (hl : l ≤ 1048576) :
    Calls Try.prog 66 #[.slice co l e_] w fun en w' => ListAt w w' (kerL xs) en := by
  obtain ⟨i0, hi0, hz0, hz1, hz2⟩ := info_parts Try.infoInt
  have HX := Lib.hid hx
  have HB0 := Lib.hid (below_alloc w (.cells #[] 3))
  have HO0 : Hid ((w.alloc (.cells #[] 3)).ownsRow w.heap.size 3 1 (.slice (some ⟨w.heap.size, 0, none⟩) 0 0) 0 (((kerL xs).take 0).map (Value.int .i64))) := World.ownsRow_lit (base := w.heap.size) (e := 3) (size := 1) w #[] 0 (Nat.le_refl _) (by decide) rfl
  clear hx
  unfold ListAt
  go_enter Try.func66, Try.ntmps66
  go_wp2_with fail
  go_loopw [3, 4] (fun v i wr => ∃ (j vc g : Nat), j ≤ l ∧ i = .int .i64 (j : Int) ∧ v = .slice (some ⟨g, 0, none⟩) j vc ∧ Hid (wr.ownsRow w.heap.size 3 1 (.slice (some ⟨g, 0, none⟩) j vc) j (((kerL xs).take j).map (Value.int .i64))) ∧ Hid (Below w.heap.size w wr)) (fun _ i _ => l - (intOf i).toNat)
  case atStart => exact ⟨0, 0, w.heap.size, Nat.zero_le _, rfl, rfl, HO0, HB0⟩
  case round =>
    obtain ⟨j, vc, g, hj, rfl, rfl, HR, HBr⟩ := hrel
    clear HO0
    by_cases hjp : j < l
    · have hjn : (j : Int) < (l : Int) := by omega
      obtain ⟨b, o, rfl, _, hb, hc⟩ := HX.out.at_ (by omega)
      obtain ⟨x, hx⟩ := get_of_lt HX.out.1 hjp
      have HC := Lib.hid hc
      have hbw : b < w.heap.size := by omega
      have HXj := Lib.hid hx
      clear hc hx
      obtain ⟨wo, hwo⟩ : ∃ wo : World, wo = wr := ⟨_, rfl⟩
      rw [← hwo]
      rw [← hwo] at HR HBr
      clear hwo
      go_wp2_with fail
      go_loopw [5] (fun i wi => ∃ q : Nat, q ≤ j ∧ i = .int .i64 (q : Int) ∧ Hid (¬ x ∈ xs.take q) ∧ Hid (wi.ownsRow w.heap.size 3 1 (.slice (some ⟨g, 0, none⟩) j vc) j (((kerL xs).take j).map (Value.int .i64))) ∧ Hid (Below w.heap.size w wi)) (fun i _ => j - (intOf i).toNat)
      case atStart => exact ⟨0, Nat.zero_le _, rfl, by unfold Hid; simp, HR, HBr⟩
      case round =>
        rename World => wi
        obtain ⟨q, hq, rfl, HN, HRi, HBi⟩ := hrel
        have hql : (q : Int) < (l : Int) := by omega
        obtain ⟨y, hy⟩ := get_of_lt HX.out.1 (show q < l by omega)
        have e1 : wi.drew.cell? ⟨b, o + j, none⟩ = some (.int .i64 x) := (HBi.out.drew.cell (p := ⟨b, o + j, none⟩) hbw).trans (HC.out j x HXj.out)
        have e2 : wi.drew.cell? ⟨b, o + q, none⟩ = some (.int .i64 y) := (HBi.out.drew.cell (p := ⟨b, o + q, none⟩) hbw).trans (HC.out q y hy)
        have HBd := Lib.hid HBi.out.drew
        have HRd : Hid (wi.drew.ownsRow w.heap.size 3 1 (.slice (some ⟨g, 0, none⟩) j vc) j (((kerL xs).take j).map (Value.int .i64))) := HRi.out
        have HY := Lib.hid hy
        clear hy
        by_cases hyx : y = x
        · have n1 : (y != x) = false := by simp [hyx]
          have HV : Hid (plI xs x = (q : Int)) := plI_hit (by rw [HY.out, hyx]) HN.out
          have HNx : Hid ((kerL xs).take (j + 1) = (kerL xs).take j ++ [(q : Int)]) := by unfold Hid; rw [List.take_add_one, kerL_get HXj.out, HV.out]; rfl
          clear hyx
          go_wp2_with fail
          go_region
          obtain ⟨wd, hwd⟩ : ∃ wd : World, wd = wi.drew := ⟨_, rfl⟩
          rw [← hwd] at HRd HBd ⊢
          clear hwd e1 e2
          go_wp2_with (at_builtin; refine wpList_append_own _ rfl _ _ 25 rfl w.heap.size 3 i0 (.int .i64 0) 1 8 Try.underlying25 hi0 hz0 hz1 hz2 rfl (by decide) (.slice (some ⟨g, 0, none⟩) j vc) j (((kerL xs).take j).map (Value.int .i64)) rfl (HRd.out.alloc _) ⟨wd.heap.size, 0, none⟩ 1 1 [.int .i64 (q : Int)] rfl rfl (cell_one_new _ _ _) (fun x hx => by simp at hx; subst hx; rfl) (by unfold maxLen; omega) (by omega) (by have := HBd.out.size; simp; omega) ?_; intro v' w3 hown' hgrow' hnil')
          obtain ⟨g2, cap, rfl⟩ := ownsRow_succ hown'
          have HB3 := Lib.hid ((HBd.out.alloc HBd.out.size (.cells #[.int .i64 (q : Int)] 3)).grown hgrow' (by have := HBd.out.size; simp; omega) (fun q hq => (HRd.out.lt q hq).1))
          have HO3 : Hid (w3.ownsRow w.heap.size 3 1 (.slice (some ⟨g2, 0, none⟩) (j + 1) cap) (j + 1) (((kerL xs).take (j + 1)).map (Value.int .i64))) := by
            unfold Hid
            rw [HNx.out, List.map_append]
            exact hown'
          clear hown' hgrow' hnil'
          go_wp2_with fail
          go_roundw
          case rel => exact ⟨j + 1, cap, g2, by omega, by go_num, rfl, HO3, HB3⟩
          case measure => simp [intOf]; omega
        · have n1 : (y != x) = true := by simp [hyx]
          have hqj : q < j := by
            rcases Nat.lt_or_ge q j with h | h
            · exact h
            · obtain rfl : q = j := by omega
              exact absurd (Option.some.inj (HY.out.symm.trans HXj.out)) hyx
          have HN2 : Hid (¬ x ∈ xs.take (q + 1)) := by
            unfold Hid
            rw [List.take_add_one, HY.out, List.mem_append]
            rintro (h | h)
            · exact HN.out h
            · simp at h; exact hyx h.symm
          clear hyx
          go_wp2_with fail
          go_region
          go_wp2_with fail
          go_roundw
          case rel => exact ⟨q + 1, by omega, by go_num, HN2, HRd, HBd⟩
          case measure => simp [intOf]; omega
    · have hjn : ¬ (j : Int) < (l : Int) := by omega
      obtain rfl : j = l := by omega
      have HE : Hid ((kerL xs).take j = kerL xs) := List.take_of_length_le (by rw [kerL_len]; have := HX.out.1; omega)
      unfold Hid at HR
      rw [HE.out] at HR
      have HR := Lib.hid HR
      go_wp2
      go_ret
      exact ⟨_, _, _, rfl, by rw [kerL_len]; exact HX.out.1.symm, HR.out, HBr.out⟩

end Go.Proofs.Ytcmjkfcgekmomaa
