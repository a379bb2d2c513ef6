/-
  Contracts: spec.l6Two, l6Below, l6Meet, l1Least, l1Most, l6Unite, l6Join. Conditions: the bounds that each theorem names.
-/
import Derived.Test.YtcmjkfcgekmomaaPartN
import Derived.Test.YtcmjkfcgekmomaaPartS
namespace Go.Proofs.Ytcmjkfcgekmomaa
open Go.RowKit
set_option linter.unusedVariables false
set_option linter.unusedSimpArgs false

theorem part6_q (lo hi : Nat) (n : Int) (ao : Option Addr) (c m : Nat) (xs : List Int) (w w' : World) (hx : IView w lo hi ao m xs) (hq : ∃ q, w' = w.drewN q) (hm : m ≤ maxLen) (hb : inB 1 8 n = true) :
    Calls Try.prog 113 #[.int .i64 n, .slice ao m c] w' fun e w2 => e = .returned (.bool (pOfB n xs)) ∧ ∃ q, w2 = w.drewN q := by
  obtain ⟨q, rfl⟩ := hq
  have h8 : 1 ≤ n ∧ n ≤ 8 := of_decide_eq_true hb
  refine (part6_any lo hi n ao c m xs (w.drewN q) (hx.kept (Kept.drewN w q)) hm h8.2).mono fun e w2 ⟨h1, q2, h2⟩ => ⟨?_, q + q2, ?_⟩
  · rw [h1, pOfB, hb]; rfl
  · rw [h2, World.drewN_drewN]


set_option maxHeartbeats 1000000 in
theorem below6_any (lo hi lo2 hi2 : Nat) (ao bo : Option Addr) (c m c2 m2 : Nat) (xs ys : List Int) (w : World) (hx : IView w lo hi ao m xs) (hy : IView w lo2 hi2 bo m2 ys) (hm : m = m2) (h8 : m ≤ 8) (hk : okAll (gI xs) m = true) :
    Calls Try.prog 120 #[.slice ao m c, .slice bo m2 c2] w fun e w' => e = .returned (.bool (finB (gI xs) (gI ys) m)) ∧ ∃ q, w' = w.drewN q := by
  subst hm
  have HX := Lib.hid hx
  have HY := Lib.hid hy
  have HLx := Lib.hid hx.1
  have HLy := Lib.hid hy.1
  have HK := Lib.hid hk
  obtain ⟨u, hu⟩ : ∃ u, finB (gI xs) (gI ys) m = u := ⟨_, rfl⟩
  have HU := Lib.hid hu
  rw [hu]
  clear hx hy hk hu
  go_enter Try.func120, Try.ntmps120
  go_wp2_with fail
  go_loopw [5] (fun i wr => ∃ k q : Nat, k ≤ m ∧ i = .int .i64 (k : Int) ∧ Hid (finB (gI xs) (gI ys) k = true) ∧ wr = w.drewN q) (fun i _ => m - (intOf i).toNat)
  case atStart => exact ⟨0, 0, Nat.zero_le _, rfl, finB_zero _ _, rfl⟩
  case round =>
    obtain ⟨k, q, hk, rfl, HF, rfl⟩ := hrel
    by_cases hlt : k < m
    · obtain ⟨b, o, rfl, _, _, hc⟩ := HX.out.at_ (by omega)
      obtain ⟨b2, o2, rfl, _, _, hc2⟩ := HY.out.at_ (by omega)
      obtain ⟨⟨v0, v1⟩, _⟩ := okAll_get HK.out hlt
      have e1 := hc k _ (get_gI HLx.out hlt)
      have e2 := hc2 k _ (get_gI HLy.out hlt)
      obtain ⟨v, hv⟩ : ∃ v : Nat, gI xs k = (v : Int) := ⟨(gI xs k).toNat, by omega⟩
      rw [hv] at e1
      have e3 := hc2 v _ (get_gI HLy.out (k := v) (by omega))
      obtain ⟨x, hx⟩ : ∃ x, gI ys k = x := ⟨_, rfl⟩
      obtain ⟨y, hy⟩ : ∃ y, gI ys v = y := ⟨_, rfl⟩
      rw [hx] at e2
      rw [hy] at e3
      have hkm : (k : Int) < (m : Int) := by omega
      have hvm : (v : Int) < (m : Int) := by omega
      by_cases hxy : y = x
      · have hne : (y != x) = false := by simp [hxy]
        have HO : Hid (finB (gI xs) (gI ys) (k + 1) = true) := finB_succ HF.out (by rw [hv, Int.toNat_natCast, hx, hy]; exact hxy.symm)
        clear hc hc2 v0 v1 hv hx hy hxy
        go_wp2_with fail
        go_quiet (fail)
        go_wp2_with fail
        go_roundw
        case rel => exact ⟨k + 1, _, by omega, by go_num, HO, rfl⟩
        case measure => simp [intOf]; omega
      · have hne : (y != x) = true := by simp [hxy]
        have HO : Hid (finB (gI xs) (gI ys) m = false) := finB_no hlt (by rw [hv, Int.toNat_natCast, hx, hy]; exact fun e => hxy e.symm)
        clear hc hc2 v0 v1 hv hx hy hxy
        go_wp2_with fail
        go_quiet (fail)
        go_wp2_with fail
        go_ret
        exact ⟨ret_bool (HO.out.symm.trans HU.out), _, by rw [World.drewN_drewN]⟩
    · have hkm : ¬ (k : Int) < (m : Int) := by omega
      obtain rfl : k = m := by omega
      go_wp2_with fail
      go_ret
      exact ⟨ret_bool (HF.out.symm.trans HU.out), _, rfl⟩


theorem least_any (u v : Int) (w : World) :
    Calls Try.prog 147 #[.int .i64 u, .int .i64 v] w fun e w' => e = .returned (.int .i64 (min u v)) ∧ w = w' := by
  by_cases h : u < v
  · rw [show min u v = u by omega]
    go_enter Try.func147, Try.ntmps147
    go_wp2
    go_ret
    exact ⟨rfl, rfl⟩
  · rw [show min u v = v by omega]
    go_enter Try.func147, Try.ntmps147
    go_wp2
    go_ret
    exact ⟨rfl, rfl⟩
theorem most_any (u v : Int) (w : World) :
    Calls Try.prog 148 #[.int .i64 u, .int .i64 v] w fun e w' => e = .returned (.int .i64 (max u v)) ∧ w = w' := by
  by_cases h : v < u
  · rw [show max u v = u by omega]
    go_enter Try.func148, Try.ntmps148
    go_wp2
    go_ret
    exact ⟨rfl, rfl⟩
  · rw [show max u v = v by omega]
    go_enter Try.func148, Try.ntmps148
    go_wp2
    go_ret
    exact ⟨rfl, rfl⟩

set_option maxHeartbeats 2000000 in
theorem unite6_any (lo hi : Nat) (ao : Option Addr) (c m x y : Nat) (xs : List Int) (w : World) (hx : IView w lo hi ao m xs) (hhi : hi ≤ w.heap.size) (hxm : x < m) (hym : y < m) (h8 : m ≤ 8) :
    Calls Try.prog 140 #[.slice ao m c, .int .i64 (x : Int), .int .i64 (y : Int)] w fun e w' => NewInts w w' m (lstP m (joinF (gI xs) x y)) e := by
  obtain ⟨b, o, rfl, _, hbh, hc⟩ := hx.at_ (show 0 < m by omega)
  have hl := hx.1
  have HC0 : Hid (∀ j, j < m → w.cell? ⟨b, o + j, none⟩ = some (.int .i64 (gI xs j))) := fun j hj => hc j _ (get_gI hl hj)
  have e1 := HC0.out x hxm
  have e2 := HC0.out y hym
  obtain ⟨u, hu⟩ : ∃ u, gI xs x = u := ⟨_, rfl⟩
  obtain ⟨v, hv⟩ : ∃ v, gI xs y = v := ⟨_, rfl⟩
  obtain ⟨J, hJ⟩ : ∃ J, joinF (gI xs) x y = J := ⟨_, rfl⟩
  have hLe := fun w => least_any u v w
  have hMo := fun w => most_any u v w
  obtain ⟨L, hL⟩ : ∃ L, min u v = L := ⟨_, rfl⟩
  obtain ⟨H, hH⟩ : ∃ H, max u v = H := ⟨_, rfl⟩
  have HJ : Hid (∀ z, J z = if gI xs z = H then L else gI xs z) := fun z => by rw [← hJ, joinF, hu, hv, hL, hH]
  rw [hu] at e1
  rw [hv] at e2
  simp only [hL] at hLe
  simp only [hH] at hMo
  have HLe := Lib.hid hLe
  have HMo := Lib.hid hMo
  rw [hJ]
  obtain ⟨i0, hi0, hz0, hz1, hz2⟩ := info_parts Try.infoInt
  have hxn : (x : Int) < (m : Int) := by omega
  have hyn : (y : Int) < (m : Int) := by omega
  have hb : b < w.heap.size := by omega
  clear hx hc hl hu hv hL hH hJ hLe hMo
  unfold NewInts
  go_enter Try.func140, Try.ntmps140
  go_wp2_with fail
  go_quiet ((first | (go_at_call 147; exact quiet_left (HLe.out _)) | (go_at_call 148; exact quiet_left (HMo.out _))))
  have HO0 := fun n => World.ownsRow_lit (base := w.heap.size) (e := 3) (size := 1) (w.drewN n) #[] 0 (Nat.le_refl _) (by decide) rfl
  have HB0 := fun n => below_then (below_drewN (Below.refl w.heap.size w) n) (below_alloc (w.drewN n) (.cells #[] 3))
  have HO0 := Lib.hid HO0
  have HB0 := Lib.hid HB0
  go_wp2_with fail
  go_loopw [9, 10] (fun v i wr => ∃ k g d : Nat, k ≤ m ∧ i = .int .i64 (k : Int) ∧ v = .slice (some ⟨g, 0, none⟩) k d ∧ Hid (wr.ownsRow w.heap.size 3 1 (.slice (some ⟨g, 0, none⟩) k d) k ((lstP k J).map (Value.int .i64))) ∧ Hid (Below w.heap.size w wr)) (fun _ i _ => m - (intOf i).toNat)
  case atStart => exact ⟨0, _, _, Nat.zero_le _, rfl, rfl, HO0.out _, HB0.out _⟩
  case round =>
    clear e1 e2
    obtain ⟨k, g, d, hk, rfl, rfl, HR, HBr⟩ := hrel
    by_cases hlt : k < m
    · have hkm : (k : Int) < (m : Int) := by omega
      have e1 : wr.cell? ⟨b, o + k, none⟩ = some (.int .i64 (gI xs k)) := (HBr.out.cell (p := ⟨b, o + k, none⟩) hb).trans (HC0.out k hlt)
      have hj := HJ.out k
      obtain ⟨z, hz⟩ : ∃ z, gI xs k = z := ⟨_, rfl⟩
      rw [hz] at e1 hj
      by_cases hzH : z = H
      · have hne : (z == H) = true := by simp [hzH]
        rw [if_pos hzH] at hj
        have HJk := Lib.hid hj
        clear hj hz hzH
        go_wp2_with (at_builtin; refine wpList_append_own _ rfl _ _ 25 rfl w.heap.size 3 i0 (.int .i64 0) 1 8 Try.underlying25 hi0 hz0 hz1 hz2 rfl (by decide) (.slice (some ⟨g, 0, none⟩) k d) k ((lstP k J).map (Value.int .i64)) rfl (HR.out.alloc _) ⟨_, 0, none⟩ 1 1 [.int .i64 L] rfl rfl (cell_one_new _ _ _) (fun x hx => by simp at hx; subst hx; rfl) (by unfold maxLen; omega) (by omega) (by have h1_ := HBr.out.size; simp; omega) ?_; intro v' w7 hown' hgrow' hnil'; obtain ⟨g7, cap7, rfl⟩ := ownsRow_succ hown'; have HO7 := Lib.hid hown'; have HB7 := Lib.hid ((HBr.out.alloc HBr.out.size (.cells #[.int .i64 L] 3)).grown hgrow' (by have h1_ := HBr.out.size; simp; omega) (fun q hq => (HR.out.lt q hq).1)); clear hown' hgrow' hnil')
        have HO8 : Hid (w7.ownsRow w.heap.size 3 1 (.slice (some ⟨g7, 0, none⟩) (k + 1) cap7) (k + 1) ((lstP (k + 1) J).map (Value.int .i64))) := by
          unfold Hid; rw [lstP_succ, List.map_append, HJk.out]; exact HO7.out
        go_roundw
        case rel => exact ⟨k + 1, g7, cap7, by omega, by go_num, rfl, HO8, HB7⟩
        case measure => simp [intOf]; omega
      · have hne : (z == H) = false := by simp [hzH]
        rw [if_neg hzH] at hj
        have HJk := Lib.hid hj
        clear hj hz hzH
        go_wp2_with (at_builtin; refine wpList_append_own _ rfl _ _ 25 rfl w.heap.size 3 i0 (.int .i64 0) 1 8 Try.underlying25 hi0 hz0 hz1 hz2 rfl (by decide) (.slice (some ⟨g, 0, none⟩) k d) k ((lstP k J).map (Value.int .i64)) rfl (HR.out.alloc _) ⟨_, 0, none⟩ 1 1 [.int .i64 z] rfl rfl (cell_one_new _ _ _) (fun x hx => by simp at hx; subst hx; rfl) (by unfold maxLen; omega) (by omega) (by have h1_ := HBr.out.size; simp; omega) ?_; intro v' w7 hown' hgrow' hnil'; obtain ⟨g7, cap7, rfl⟩ := ownsRow_succ hown'; have HO7 := Lib.hid hown'; have HB7 := Lib.hid ((HBr.out.alloc HBr.out.size (.cells #[.int .i64 z] 3)).grown hgrow' (by have h1_ := HBr.out.size; simp; omega) (fun q hq => (HR.out.lt q hq).1)); clear hown' hgrow' hnil')
        have HO8 : Hid (w7.ownsRow w.heap.size 3 1 (.slice (some ⟨g7, 0, none⟩) (k + 1) cap7) (k + 1) ((lstP (k + 1) J).map (Value.int .i64))) := by
          unfold Hid; rw [lstP_succ, List.map_append, HJk.out]; exact HO7.out
        go_roundw
        case rel => exact ⟨k + 1, g7, cap7, by omega, by go_num, rfl, HO8, HB7⟩
        case measure => simp [intOf]; omega
    · have hkm : ¬ (k : Int) < (m : Int) := by omega
      obtain rfl : k = m := by omega
      go_wp2_with fail
      go_ret
      exact ⟨g, d, rfl, HR.out, HBr.out⟩

end Go.Proofs.Ytcmjkfcgekmomaa
