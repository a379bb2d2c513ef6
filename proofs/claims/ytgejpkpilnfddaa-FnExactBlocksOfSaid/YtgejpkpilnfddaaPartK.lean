/-
  Contracts: the methods isFiner, joining, join, meet, list of impl.partition. Conditions: the bounds that each theorem names.
-/
import Derived.Test.YtgejpkpilnfddaaPartI
import Derived.WalkMore
import Derived.ScopeJumps
namespace Go.Proofs.Ytgejpkpilnfddaa
open Go.RowKit
set_option linter.unusedVariables false
set_option linter.unusedSimpArgs false

theorem ArrAt.drewN {w : World} {g : Nat} {f : Nat → Int} (h : ArrAt w g f) (q : Nat) : ArrAt (w.drewN q) g f := h

set_option maxHeartbeats 1000000 in
set_option maxRecDepth 100000 in
theorem isFiner_any (f g : Nat → Int) (w : World) (hf : ∀ k, k < 8 → 0 ≤ f k ∧ f k < 8) :
    Calls Try.prog 72 #[.agg (arrV f), .agg (arrV g)] w fun e w' => e = .returned (.bool (finB f g 8)) ∧ Below w.heap.size w w' := by
  have HF0 : Hid (ArrAt ((w.alloc (.cells (arrV f) 67)).alloc (.cells (arrV g) 67)) w.heap.size f) := (ArrAt.new _ _).alloc _
  have HG0 : Hid (ArrAt ((w.alloc (.cells (arrV f) 67)).alloc (.cells (arrV g) 67)) (w.heap.size + 1) g) := by
    have h := ArrAt.new (w.alloc (.cells (arrV f) 67)) g
    simp only [World.size_alloc] at h
    exact h
  have HB0 : Hid (Below w.heap.size w ((w.alloc (.cells (arrV f) 67)).alloc (.cells (arrV g) 67))) := below_then (below_alloc _ _) (below_alloc _ _)
  obtain ⟨w1, hw1⟩ : ∃ w1, w1 = (w.alloc (.cells (arrV f) 67)).alloc (.cells (arrV g) 67) := ⟨_, rfl⟩
  rw [← hw1] at HF0 HG0 HB0
  have HBd := Lib.hid hf
  obtain ⟨u, hu⟩ : ∃ u, finB f g 8 = u := ⟨_, rfl⟩
  have HU := Lib.hid hu
  rw [hu]
  clear hu hf
  have HW := Lib.hid hw1
  clear hw1
  go_enter Try.func72, Try.ntmps72
  go_wp2_with (refine ld8 (w := (w.alloc (.cells (arrV f) 67)).alloc (.cells (arrV g) 67)) (by rw [← HW.out]; exact HF0.out) rfl _ rfl rfl ?_; rw [← HW.out])
  clear HW
  go_loopw [5, 6, 8] (fun _ _ i wr => ∃ k : Nat, k ≤ 8 ∧ i = .int .i64 (k : Int) ∧ Hid (finB f g k = true) ∧ Hid (ArrAt wr (w.heap.size + 1) g) ∧ Hid (Below w.heap.size w wr)) (fun _ _ i _ => 8 - (intOf i).toNat)
  case atStart => exact ⟨0, by omega, rfl, finB_zero f g, HG0, HB0⟩
  case round =>
    obtain ⟨k, hk, rfl, HK, HG, HB⟩ := hrel
    by_cases hlt : k < 8
    · have hkn : (k : Int) < 8 := by omega
      have hix := fun W => run_index8 f hlt W
      obtain ⟨hb1, hb2⟩ := HBd.out k hlt
      obtain ⟨v, hv⟩ : ∃ v : Nat, f k = (v : Int) := ⟨(f k).toNat, by omega⟩
      have HV := Lib.hid hv
      simp only [hv] at hix
      have hv8 : v < 8 := by omega
      have e1 := HG.out.cell hlt
      have e2 := HG.out.cell hv8
      have hvn : (v : Int) < 8 := by omega
      obtain ⟨x, hx⟩ : ∃ x, g k = x := ⟨_, rfl⟩
      obtain ⟨y, hy⟩ : ∃ y, g v = y := ⟨_, rfl⟩
      rw [hx] at e1
      rw [hy] at e2
      clear hv hb1 hb2
      by_cases hxy : x = y
      · have hne : (x != y) = false := by simp [hxy]
        have HO : Hid (finB f g (k + 1) = true) := finB_succ HK.out (by rw [HV.out, Int.toNat_natCast, hx, hy]; exact hxy)
        clear hx hy hxy
        go_wp2_with fail
        go_quiet (fail)
        go_wp2_with fail
        go_roundw
        case rel => exact ⟨k + 1, by omega, by go_num, HO, HG.out.drewN _, below_drewN HB.out _⟩
        case measure => simp [intOf]; omega
      · have hne : (x != y) = true := by simp [hxy]
        have HO : Hid (finB f g 8 = false) := finB_no hlt (by rw [HV.out, Int.toNat_natCast, hx, hy]; exact hxy)
        clear hx hy hxy
        go_wp2_with fail
        go_quiet (fail)
        go_wp2_with fail
        go_ret
        exact ⟨ret_bool (HO.out.symm.trans HU.out), below_drewN HB.out _⟩
    · have hkn : ¬ (k : Int) < 8 := by omega
      obtain rfl : k = 8 := by omega
      go_wp2_with fail
      go_ret
      exact ⟨ret_bool (HK.out.symm.trans HU.out), HB.out⟩

set_option maxHeartbeats 1000000 in
set_option maxRecDepth 100000 in
theorem joining_any (f : Nat → Int) (x y : Nat) (w : World) (hx : x < 8) (hy : y < 8) :
    Calls Try.prog 66 #[.agg (arrV f), .int .i64 (x : Int), .int .i64 (y : Int)] w fun e w' => e = .returned (.agg (arrV (joinF f x y))) ∧ Below w.heap.size w w' := by
  have HF0 : Hid (ArrAt ((w.alloc (.cells (arrV f) 67)).alloc (.cells (arrV fun _ => 0) 67)) w.heap.size f) := (ArrAt.new _ _).alloc _
  have HR0 : Hid (ArrAt ((w.alloc (.cells (arrV f) 67)).alloc (.cells (arrV fun _ => 0) 67)) (w.heap.size + 1) fun _ => 0) := by
    have h := ArrAt.new (w.alloc (.cells (arrV f) 67)) fun _ => 0
    simp only [World.size_alloc] at h
    exact h
  have HB0 : Hid (Below w.heap.size w ((w.alloc (.cells (arrV f) 67)).alloc (.cells (arrV fun _ => 0) 67))) := below_then (below_alloc _ _) (below_alloc _ _)
  obtain ⟨w1, hw1⟩ : ∃ w1, w1 = (w.alloc (.cells (arrV f) 67)).alloc (.cells (arrV fun _ => 0) 67) := ⟨_, rfl⟩
  rw [← hw1] at HF0 HR0 HB0
  have hxn : (x : Int) < 8 := by omega
  have hyn : (y : Int) < 8 := by omega
  have e1 := HF0.out.cell hx
  have e2 := HF0.out.cell hy
  obtain ⟨u, hu⟩ : ∃ u, f x = u := ⟨_, rfl⟩
  obtain ⟨v, hv⟩ : ∃ v, f y = v := ⟨_, rfl⟩
  rw [hu] at e1
  rw [hv] at e2
  obtain ⟨L, hL⟩ : ∃ L, (if v < u then v else u) = L := ⟨_, rfl⟩
  obtain ⟨H, hH⟩ : ∃ H, (if u < v then v else u) = H := ⟨_, rfl⟩
  have HJ : Hid (∀ z, joinF f x y z = if f z = H then L else f z) := fun z => by
    unfold joinF; rw [hu, hv, ← hL, ← hH, Int.max_def, Int.min_def]
    split <;> split <;> split <;> (try split) <;> omega
  go_enter Try.func66, Try.ntmps66
  go_wp2_with fail
  rw [show ((w.alloc (.cells (arrV f) 67)).alloc (.cells #[.int .i64 0, .int .i64 0, .int .i64 0, .int .i64 0, .int .i64 0, .int .i64 0, .int .i64 0, .int .i64 0] 67)) = w1 from hw1.symm]
  clear hw1
  go_quiet (fail)
  go_wp2_with fail
  clear hL hH hu hv e1 e2
  go_loopw [9, 24] (fun _ i wr => ∃ k : Nat, k ≤ 8 ∧ i = .int .i64 (k : Int) ∧ Hid (ArrAt wr w.heap.size (fun j => if j < k then joinF f x y j else f j)) ∧ Hid (ArrAt wr (w.heap.size + 1) (fun _ => 0)) ∧ Hid (Below w.heap.size w wr)) (fun _ i _ => 8 - (intOf i).toNat)
  case atStart => exact ⟨0, by omega, rfl, HF0.out.drewN _, HR0.out.drewN _, below_drewN HB0.out _⟩
  case round =>
    obtain ⟨k, hk, rfl, HF, HR, HB⟩ := hrel
    by_cases hlt : k < 8
    · have hkn : (k : Int) < 8 := by omega
      have e1 := HF.out.cell hlt
      have e2 := HF.out.frozen k
      simp only [Nat.lt_irrefl, if_false] at e1
      obtain ⟨z, hz⟩ : ∃ z, f k = z := ⟨_, rfl⟩
      rw [hz] at e1
      have hj := HJ.out k
      rw [hz] at hj
      by_cases hzH : z = H
      · have hne : (z == H) = true := by simp [hzH]
        have HF2 : Hid (ArrAt (wr.setCell ⟨w.heap.size, k, none⟩ (.int .i64 L)) w.heap.size (fun j => if j < k + 1 then joinF f x y j else f j)) := (HF.out.set hlt L).congr fun j hj8 => by
          unfold put8
          dsimp only
          by_cases hjk : j = k
          · subst hjk; rw [if_pos rfl, if_pos (by omega), hj, if_pos hzH]
          · rw [if_neg hjk]
            by_cases hjl : j < k
            · rw [if_pos hjl, if_pos (by omega)]
            · rw [if_neg hjl, if_neg (by omega)]
        have HR2 : Hid (ArrAt (wr.setCell ⟨w.heap.size, k, none⟩ (.int .i64 L)) (w.heap.size + 1) (fun _ => 0)) := HR.out.setOther (by omega) k (.int .i64 L)
        have HB2 := Lib.hid (HB.out.setCell (p := ⟨w.heap.size, k, none⟩) (Nat.le_refl _) (.int .i64 L))
        clear hj hz hzH
        go_wp2_with fail
        go_roundw
        case rel => exact ⟨k + 1, by omega, by go_num, HF2, HR2, HB2⟩
        case measure => simp [intOf]; omega
      · have hne : (z == H) = false := by simp [hzH]
        have HF2 : Hid (ArrAt wr w.heap.size (fun j => if j < k + 1 then joinF f x y j else f j)) := HF.out.congr fun j hj8 => by
          by_cases hjk : j = k
          · subst hjk; rw [if_neg (by omega), if_pos (by omega), hj, if_neg hzH, hz]
          · by_cases hjl : j < k
            · rw [if_pos hjl, if_pos (by omega)]
            · rw [if_neg hjl, if_neg (by omega)]
        clear hj hz hzH
        go_wp2_with fail
        go_roundw
        case rel => exact ⟨k + 1, by omega, by go_num, HF2, HR, HB⟩
        case measure => simp [intOf]; omega
    · have hkn : ¬ (k : Int) < 8 := by omega
      obtain rfl : k = 8 := by omega
      have HF2 : Hid (ArrAt wr w.heap.size (joinF f x y)) := HF.out.congr fun j hj => if_pos hj
      have HN := Lib.hid (HR.out.setRow (f' := joinF f x y))
      have HN2 := Lib.hid (below_setRow HB.out (show w.heap.size ≤ w.heap.size + 1 by omega) (arrV (joinF f x y)))
      go_wp2_with (first | (refine ld8 HF2.out rfl _ rfl rfl ?_) | (refine st8 HR.out rfl _ _ rfl rfl rfl ?_))
      exact bodyPost_ret (ret8 rfl _ _ _ _ rfl HN.out) rfl ⟨rfl, HN2.out⟩

set_option maxHeartbeats 1000000 in
set_option maxRecDepth 100000 in
theorem join_any (f g : Nat → Int) (w : World) (hf : ∀ k, k < 8 → 0 ≤ f k ∧ f k < 8) (hg : ∀ k, k < 8 → 0 ≤ g k ∧ g k < 8) :
    Calls Try.prog 76 #[.agg (arrV f), .agg (arrV g)] w fun e w' => e = .returned (.agg (arrV (joinA f g 8))) ∧ Below w.heap.size w w' := by
  obtain ⟨w0, hw0⟩ : ∃ w0, w0 = ((w.alloc (.cells (arrV f) 67)).alloc (.cells (arrV g) 67)).alloc (.cells (arrV fun _ => 0) 67) := ⟨_, rfl⟩
  have HF0 : Hid (ArrAt w0 w.heap.size f) := by unfold Hid; rw [hw0]; exact ((ArrAt.new _ _).alloc _).alloc _
  have HG0 : Hid (ArrAt w0 (w.heap.size + 1) g) := by
    unfold Hid; rw [hw0]
    have h := ArrAt.new (w.alloc (.cells (arrV f) 67)) g
    simp only [World.size_alloc] at h
    exact h.alloc _
  have HR0 : Hid (ArrAt w0 (w.heap.size + 1 + 1) fun _ => 0) := by
    unfold Hid; rw [hw0]
    have h := ArrAt.new ((w.alloc (.cells (arrV f) 67)).alloc (.cells (arrV g) 67)) fun _ => 0
    simp only [World.size_alloc] at h
    exact h
  have HB0 : Hid (Below w.heap.size w w0) := by unfold Hid; rw [hw0]; exact below_then (below_then (below_alloc _ _) (below_alloc _ _)) (below_alloc _ _)
  have HBf := Lib.hid (joinA_bd hf hg)
  have HBd := Lib.hid hg
  clear hf hg
  have HW := Lib.hid hw0
  clear hw0
  go_enter Try.func76, Try.ntmps76
  go_wp2_with (refine ld8 (w := ((w.alloc (.cells (arrV f) 67)).alloc (.cells (arrV g) 67)).alloc (.cells (arrV fun _ => 0) 67)) (by rw [← HW.out]; exact HG0.out) rfl _ rfl rfl ?_; rw [← HW.out])
  clear HW
  go_loopw [5, 6, 8] (fun _ _ i wr => ∃ k : Nat, k ≤ 8 ∧ i = .int .i64 (k : Int) ∧ Hid (ArrAt wr w.heap.size (joinA f g k)) ∧ Hid (ArrAt wr (w.heap.size + 1 + 1) (fun _ => 0)) ∧ Hid (Below w.heap.size w wr)) (fun _ _ i _ => 8 - (intOf i).toNat)
  case atStart => exact ⟨0, by omega, rfl, HF0, HR0, HB0⟩
  case round =>
    obtain ⟨k, hk, rfl, HF, HR, HB⟩ := hrel
    by_cases hlt : k < 8
    · have hkn : (k : Int) < 8 := by omega
      have hix := fun W => run_index8 g hlt W
      obtain ⟨hb1, hb2⟩ := HBd.out k hlt
      obtain ⟨v, hv⟩ : ∃ v : Nat, g k = (v : Int) := ⟨(g k).toNat, by omega⟩
      have HV := Lib.hid hv
      simp only [hv] at hix
      have hv8 : v < 8 := by omega
      have HC := Lib.hid (joining_any (joinA f g k) k v wr hlt hv8)
      have hz : w.heap.size + 1 + 1 < wr.heap.size := HR.out.lt
      clear hv hb1 hb2
      go_wp2_with (refine ld8 HF.out rfl _ rfl rfl ?_)
      refine HC.out.mono ?_
      rintro e w2 ⟨rfl, b2⟩
      have HF2 := Lib.hid (HF.out.below b2 (by omega))
      have HF3 := Lib.hid (HF2.out.setRow (f' := joinF (joinA f g k) k v))
      have HR3 := Lib.hid ((HR.out.below b2 (by omega)).setRowOther (g' := w.heap.size) (by omega) (arrV (joinF (joinA f g k) k v)))
      have HB3 := Lib.hid (below_setRow (HB.out.trans (b2.mono HB.out.size)) (Nat.le_refl _) (arrV (joinF (joinA f g k) k v)))
      have HE : Hid (joinF (joinA f g k) k v = joinA f g (k + 1)) := by unfold Hid; show _ = joinF (joinA f g k) k (g k).toNat; rw [HV.out, Int.toNat_natCast]
      clear b2
      go_wp2_with (refine st8 HF2.out rfl _ _ rfl rfl rfl ?_)
      go_roundw
      case rel => exact ⟨k + 1, by omega, by go_num, by rw [← HE.out]; exact HF3, HR3, HB3⟩
      case measure => simp [intOf]; omega
    · have hkn : ¬ (k : Int) < 8 := by omega
      obtain rfl : k = 8 := by omega
      have HN := Lib.hid (HR.out.setRow (f' := joinA f g 8))
      have HN2 := Lib.hid (below_setRow HB.out (show w.heap.size ≤ w.heap.size + 1 + 1 by omega) (arrV (joinA f g 8)))
      go_wp2_with (first | (refine ld8 HF.out rfl _ rfl rfl ?_) | (refine st8 HR.out rfl _ _ rfl rfl rfl ?_))
      exact bodyPost_ret (ret8 rfl _ _ _ _ rfl HN.out) rfl ⟨rfl, HN2.out⟩

set_option maxHeartbeats 2000000 in
set_option maxRecDepth 100000 in
theorem meet_any (f g : Nat → Int) (w : World) :
    Calls Try.prog 74 #[.agg (arrV f), .agg (arrV g)] w fun e w' => e = .returned (.agg (arrV (meetF f g))) ∧ Below w.heap.size w w' := by
  obtain ⟨w0, hw0⟩ : ∃ w0, w0 = (((w.alloc (.cells (arrV f) 67)).alloc (.cells (arrV g) 67)).alloc (.cells (arrV fun _ => 0) 67)).alloc (.cells (arrV fun _ => 0) 67) := ⟨_, rfl⟩
  have HF0 : Hid (ArrAt w0 w.heap.size f) := by unfold Hid; rw [hw0]; exact (((ArrAt.new _ _).alloc _).alloc _).alloc _
  have HG0 : Hid (ArrAt w0 (w.heap.size + 1) g) := by
    unfold Hid; rw [hw0]
    have h := ArrAt.new (w.alloc (.cells (arrV f) 67)) g
    simp only [World.size_alloc] at h
    exact (h.alloc _).alloc _
  have HR0 : Hid (ArrAt w0 (w.heap.size + 1 + 1) fun _ => 0) := by
    unfold Hid; rw [hw0]
    have h := ArrAt.new ((w.alloc (.cells (arrV f) 67)).alloc (.cells (arrV g) 67)) fun _ => 0
    simp only [World.size_alloc] at h
    exact h.alloc _
  have HM0 : Hid (ArrAt w0 (w.heap.size + 1 + 1 + 1) fun _ => 0) := by
    unfold Hid; rw [hw0]
    have h := ArrAt.new (((w.alloc (.cells (arrV f) 67)).alloc (.cells (arrV g) 67)).alloc (.cells (arrV fun _ => 0) 67)) fun _ => 0
    simp only [World.size_alloc] at h
    exact h
  have HB0 : Hid (Below w.heap.size w w0) := by unfold Hid; rw [hw0]; exact below_then (below_then (below_then (below_alloc _ _) (below_alloc _ _)) (below_alloc _ _)) (below_alloc _ _)
  have hz0 := HM0.out.lt
  have HFc := Lib.hid (fun (W : World) (hW : Below w0.heap.size w0 W ∨ True) => hW)
  go_enter Try.func74, Try.ntmps74
  go_wp2_with fail
  go_step3
  go_wp2_with fail
  go_step3
  go_wp2_with fail
  rw [show ((((w.alloc (.cells (arrV f) 67)).alloc (.cells (arrV g) 67)).alloc (.cells #[.int .i64 0, .int .i64 0, .int .i64 0, .int .i64 0, .int .i64 0, .int .i64 0, .int .i64 0, .int .i64 0] 67)).alloc (.cells #[.int .i64 0, .int .i64 0, .int .i64 0, .int .i64 0, .int .i64 0, .int .i64 0, .int .i64 0, .int .i64 0] 67)) = w0 from hw0.symm]
  clear hw0 HFc
  go_loopw [6, 7, 8] (fun _ _ i wr => ∃ k : Nat, k ≤ 8 ∧ i = .int .i64 (k : Int) ∧ Hid (ArrAt wr w.heap.size f) ∧ Hid (ArrAt wr (w.heap.size + 1) g) ∧ Hid (ArrAt wr (w.heap.size + 1 + 1) (fun _ => 0)) ∧ Hid (ArrAt wr (w.heap.size + 1 + 1 + 1) (fun j => if j < k then meetF f g j else 0)) ∧ Hid (Below w.heap.size w wr)) (fun _ _ i _ => 8 - (intOf i).toNat)
  case atStart => exact ⟨0, by omega, rfl, HF0, HG0, HR0, HM0, HB0⟩
  case round =>
    obtain ⟨k, hk, rfl, HF, HG, HR, HM, HB⟩ := hrel
    by_cases hlt : k < 8
    · have hkn : (k : Int) < 8 := by omega
      have hput : ∀ (W : World) (v : Int), ArrAt W (w.heap.size + 1 + 1 + 1) (fun j => if j < k then meetF f g j else 0) → meetF f g k = v → ArrAt (W.setCell ⟨w.heap.size + 1 + 1 + 1, k, none⟩ (.int .i64 v)) (w.heap.size + 1 + 1 + 1) (fun j => if j < k + 1 then meetF f g j else 0) := fun W v h hv => (h.set hlt v).congr fun j hj8 => by
        unfold put8
        dsimp only
        by_cases hjk : j = k
        · subst hjk; rw [if_pos rfl, if_pos (by omega), hv]
        · rw [if_neg hjk]
          by_cases hjl : j < k
          · rw [if_pos hjl, if_pos (by omega)]
          · rw [if_neg hjl, if_neg (by omega)]
      have HPut := Lib.hid hput
      obtain ⟨xk, hxk⟩ : ∃ xk, f k = xk := ⟨_, rfl⟩
      obtain ⟨yk, hyk⟩ : ∃ yk, g k = yk := ⟨_, rfl⟩
      have HX := Lib.hid hxk
      have HY := Lib.hid hyk
      clear hput hxk hyk
      rename World => wo
      go_wp2_with fail
      go_loopw [7, 12] (fun _ i wr => ∃ y : Nat, y ≤ k ∧ i = .int .i64 (y : Int) ∧ Hid (meetF f g k = ((meetN f g k (k - y) y : Nat) : Int)) ∧ Hid (ArrAt wr w.heap.size f) ∧ Hid (ArrAt wr (w.heap.size + 1) g) ∧ Hid (ArrAt wr (w.heap.size + 1 + 1) (fun _ => 0)) ∧ Hid (ArrAt wr (w.heap.size + 1 + 1 + 1) (fun j => if j < k then meetF f g j else 0)) ∧ Hid (Below w.heap.size w wr)) (fun _ i _ => k - (intOf i).toNat)
      case atStart => exact ⟨0, by omega, rfl, rfl, HF, HG, HR, HM, HB⟩
      case round =>
        clear HF HG HR HM HB
        obtain ⟨y, hy, rfl, HN, HF, HG, HR, HM, HB⟩ := hrel
        by_cases hyk : y < k
        · have hykn : (y : Int) < (k : Int) := by omega
          have hy8 : (y : Int) < 8 := by omega
          have e1 := HF.out.cell (k := y) (by omega)
          have e2 := HF.out.cell hlt
          have e3 := HG.out.cell (k := y) (by omega)
          have e4 := HG.out.cell hlt
          rw [HX.out] at e2
          rw [HY.out] at e4
          obtain ⟨a, ha⟩ : ∃ a, f y = a := ⟨_, rfl⟩
          obtain ⟨b, hb⟩ : ∃ b, g y = b := ⟨_, rfl⟩
          rw [ha] at e1
          rw [hb] at e3
          have hin : inBoth f g k y = ((a == xk) && (b == yk)) := by unfold inBoth; rw [ha, hb, HX.out, HY.out]
          obtain ⟨p, hp⟩ : ∃ p, (a == xk) = p := ⟨_, rfl⟩
          obtain ⟨q, hq⟩ : ∃ q, (b == yk) = q := ⟨_, rfl⟩
          rw [hp, hq] at hin
          have HIn := Lib.hid hin
          have hky : k - y = (k - (y + 1)) + 1 := by omega
          clear ha hb hin
          cases p with
          | false =>
            have HN2 : Hid (meetF f g k = ((meetN f g k (k - (y + 1)) (y + 1) : Nat) : Int)) := by unfold Hid; rw [HN.out, hky, meetN_no HIn.out]
            clear hky
            go_wp2_with fail
            go_quiet (fail)
            go_wp2_with fail
            go_roundw
            case rel => exact ⟨y + 1, by omega, by go_num, HN2, HF.out.drewN _, HG.out.drewN _, HR.out.drewN _, HM.out.drewN _, below_drewN HB.out _⟩
            case measure => simp [intOf]; omega
          | true =>
            cases q with
            | false =>
              have HN2 : Hid (meetF f g k = ((meetN f g k (k - (y + 1)) (y + 1) : Nat) : Int)) := by unfold Hid; rw [HN.out, hky, meetN_no HIn.out]
              clear hky
              go_wp2_with fail
              go_quiet (fail)
              go_wp2_with fail
              go_roundw
              case rel => exact ⟨y + 1, by omega, by go_num, HN2, HF.out.drewN _, HG.out.drewN _, HR.out.drewN _, HM.out.drewN _, below_drewN HB.out _⟩
              case measure => simp [intOf]; omega
            | true =>
              have HN2 : Hid (meetF f g k = (y : Int)) := by unfold Hid; rw [HN.out, hky, meetN_yes HIn.out]
              have em := HM.out.cell hlt
              have ef := HM.out.frozen k
              simp only [Nat.lt_irrefl, if_false] at em
              clear hky
              go_wp2_with fail
              go_quiet (fail)
              go_wp2_with fail
              exact ⟨⟨k + 1, by omega, by go_num, (HF.out.drewN _).setOther (by omega) k _, (HG.out.drewN _).setOther (by omega) k _, (HR.out.drewN _).setOther (by omega) k _, HPut.out _ _ (HM.out.drewN _) HN2.out, (below_drewN HB.out _).setCell (p := ⟨w.heap.size + 1 + 1 + 1, k, none⟩) (by show w.heap.size ≤ w.heap.size + 1 + 1 + 1; omega) _⟩, by simp [intOf]; omega⟩
        · have hykn : ¬ (y : Int) < (k : Int) := by omega
          obtain rfl : y = k := by omega
          have HN2 : Hid (meetF f g y = (y : Int)) := by unfold Hid; rw [HN.out, Nat.sub_self]; rfl
          have em := HM.out.cell hlt
          have ef := HM.out.frozen y
          simp only [Nat.lt_irrefl, if_false] at em
          go_wp2_with fail
          exact ⟨⟨y + 1, by omega, by go_num, HF.out.setOther (by omega) y _, HG.out.setOther (by omega) y _, HR.out.setOther (by omega) y _, HPut.out _ _ HM.out HN2.out, HB.out.setCell (p := ⟨w.heap.size + 1 + 1 + 1, y, none⟩) (by show w.heap.size ≤ w.heap.size + 1 + 1 + 1; omega) _⟩, by simp [intOf]; omega⟩
    · have hkn : ¬ (k : Int) < 8 := by omega
      obtain rfl : k = 8 := by omega
      have HM2 : Hid (ArrAt wr (w.heap.size + 1 + 1 + 1) (meetF f g)) := HM.out.congr fun j hj => if_pos hj
      have HN := Lib.hid (HR.out.setRow (f' := meetF f g))
      have HN2 := Lib.hid (below_setRow HB.out (show w.heap.size ≤ w.heap.size + 1 + 1 by omega) (arrV (meetF f g)))
      go_wp2_with (first | (refine ld8 HM2.out rfl _ rfl rfl ?_) | (refine st8 HR.out rfl _ _ rfl rfl rfl ?_))
      exact bodyPost_ret (ret8 rfl _ _ _ _ rfl HN.out) rfl ⟨rfl, HN2.out⟩

end Go.Proofs.Ytgejpkpilnfddaa
