/-
  Contracts: the methods isFiner, joining, join, meet, list of impl.partition. Conditions: the bounds that each theorem names.
-/
import Derived.Test.YtcmjkfcgekmomaaPartI
import Derived.WalkMore
import Derived.ScopeJumps
namespace Go.Proofs.Ytcmjkfcgekmomaa
open Go.RowKit
set_option linter.unusedVariables false
set_option linter.unusedSimpArgs false

theorem ArrAt.drewN {w : World} {g : Nat} {f : Nat → Int} (h : ArrAt w g f) (q : Nat) : ArrAt (w.drewN q) g f := h

set_option maxHeartbeats 1000000 in
set_option maxRecDepth 100000 in
theorem isFiner_any (f g : Nat → Int) (w : World) (hf : ∀ k, k < 8 → 0 ≤ f k ∧ f k < 8) :
    Calls Try.prog 121 #[.agg (arrV f), .agg (arrV g)] w fun e w' => e = .returned (.bool (finB f g 8)) ∧ Below w.heap.size w w' := by
  have HF0 : Hid (ArrAt ((w.alloc (.cells (arrV f) 70)).alloc (.cells (arrV g) 70)) w.heap.size f) := (ArrAt.new _ _).alloc _
  have HG0 : Hid (ArrAt ((w.alloc (.cells (arrV f) 70)).alloc (.cells (arrV g) 70)) (w.heap.size + 1) g) := by
    have h := ArrAt.new (w.alloc (.cells (arrV f) 70)) g
    simp only [World.size_alloc] at h
    exact h
  have HB0 : Hid (Below w.heap.size w ((w.alloc (.cells (arrV f) 70)).alloc (.cells (arrV g) 70))) := below_then (below_alloc _ _) (below_alloc _ _)
  obtain ⟨w1, hw1⟩ : ∃ w1, w1 = (w.alloc (.cells (arrV f) 70)).alloc (.cells (arrV g) 70) := ⟨_, rfl⟩
  rw [← hw1] at HF0 HG0 HB0
  have HBd := Lib.hid hf
  obtain ⟨u, hu⟩ : ∃ u, finB f g 8 = u := ⟨_, rfl⟩
  have HU := Lib.hid hu
  rw [hu]
  clear hu hf
  have HW := Lib.hid hw1
  clear hw1
  go_enter Try.func121, Try.ntmps121
  go_wp2_with (refine ld8 (w := (w.alloc (.cells (arrV f) 70)).alloc (.cells (arrV g) 70)) (by rw [← HW.out]; exact HF0.out) rfl _ rfl rfl ?_; rw [← HW.out])
  clear HW
  go_loopw [5, 6, 8] (fun _ _ i wr => ∃ k : Nat, k ≤ 8 ∧ i = .int .i64 (k : Int) ∧ Hid (finB f g k = true) ∧ Hid (ArrAt wr (w.heap.size + 1) g) ∧ Hid (Below w.heap.size w wr)) (fun _ _ i _ => 8 - (intOf i).toNat)
  case atStart => exact ⟨0, by omega, rfl, finB_zero f g, HG0, HB0⟩
  case round =>
    obtain ⟨k, hk, rfl, HK, HG, HB⟩ := hrel
    by_cases hlt : k < 8
    · have hkn : (k : Int) < 8 := by omega
      have hix := fun W => run_index8 f hlt W
      obtain ⟨hb1, hb2⟩ := HBd.out k hlt
      obtain ⟨v, hv⟩ : ∃ v : Nat, f k = (v : Int) := ⟨(f k).toNat, by omega⟩
      have HV := Lib.hid hv
      simp only [hv] at hix
      have hv8 : v < 8 := by omega
      have e1 := HG.out.cell hlt
      have e2 := HG.out.cell hv8
      have hvn : (v : Int) < 8 := by omega
      obtain ⟨x, hx⟩ : ∃ x, g k = x := ⟨_, rfl⟩
      obtain ⟨y, hy⟩ : ∃ y, g v = y := ⟨_, rfl⟩
      rw [hx] at e1
      rw [hy] at e2
      clear hv hb1 hb2
      by_cases hxy : x = y
      · have hne : (x != y) = false := by simp [hxy]
        have HO : Hid (finB f g (k + 1) = true) := finB_succ HK.out (by rw [HV.out, Int.toNat_natCast, hx, hy]; exact hxy)
        clear hx hy hxy
        go_wp2_with fail
        go_quiet (fail)
        go_wp2_with fail
        go_roundw
        case rel => exact ⟨k + 1, by omega, by go_num, HO, HG.out.drewN _, below_drewN HB.out _⟩
        case measure => simp [intOf]; omega
      · have hne : (x != y) = true := by simp [hxy]
        have HO : Hid (finB f g 8 = false) := finB_no hlt (by rw [HV.out, Int.toNat_natCast, hx, hy]; exact hxy)
        clear hx hy hxy
        go_wp2_with fail
        go_quiet (fail)
        go_wp2_with fail
        go_ret
        exact ⟨ret_bool (HO.out.symm.trans HU.out), below_drewN HB.out _⟩
    · have hkn : ¬ (k : Int) < 8 := by omega
      obtain rfl : k = 8 := by omega
      go_wp2_with fail
      go_ret
      exact ⟨ret_bool (HK.out.symm.trans HU.out), HB.out⟩




end Go.Proofs.Ytcmjkfcgekmomaa
