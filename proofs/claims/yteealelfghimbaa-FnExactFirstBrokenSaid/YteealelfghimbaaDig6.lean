/-
  Contracts: l2Pow, tableLength, l2Args, argsOfIndex for up to six places. Conditions: the bounds that each theorem names.
-/
import Derived.Test.YteealelfghimbaaDigs
import Derived.Test.YteealelfghimbaaFoldI
namespace Go.Proofs.Yteealelfghimbaa
open Go.RowKit
set_option linter.unusedVariables false
set_option linter.unusedSimpArgs false

theorem powI_bd6 {z : Int} (h1 : 1 ≤ z) (h2 : z ≤ 8) {k : Nat} (hk : k ≤ 6) : 1 ≤ powI z k ∧ powI z k ≤ 262144 := by
  have h3 : z = 1 ∨ z = 2 ∨ z = 3 ∨ z = 4 ∨ z = 5 ∨ z = 6 ∨ z = 7 ∨ z = 8 := by omega
  have h4 : k = 0 ∨ k = 1 ∨ k = 2 ∨ k = 3 ∨ k = 4 ∨ k = 5 ∨ k = 6 := by omega
  rcases h3 with rfl | rfl | rfl | rfl | rfl | rfl | rfl | rfl <;> rcases h4 with rfl | rfl | rfl | rfl | rfl | rfl | rfl <;> simp [powI]
theorem rep_set {j : Nat} {x : Int} {tail : List Int} : (List.replicate (j + 1) (0 : Int) ++ tail).set j x = List.replicate j (0 : Int) ++ (x :: tail) := by
  rw [List.replicate_succ', List.append_assoc, List.set_append_right _ _ (by simp)]
  simp

theorem pow6_any (z : Int) (r : Nat) (w : World) (h1 : 1 ≤ z) (h2 : z ≤ 8) (hr : r ≤ 6) :
    Calls Try.prog 133 #[.int .i64 z, .int .i64 (r : Int)] w fun e w' => e = .returned (.int .i64 (powI z r)) ∧ w = w' := by
  go_enter Try.func133, Try.ntmps133
  go_wp2
  go_loop [1, 5] (fun k p => ∃ (i j : Nat) (v : Int), i + j = r ∧ k = .int .i64 (j : Int) ∧ p = .int .i64 v ∧ Hid (v = powI z i) ∧ 1 ≤ v ∧ v ≤ 262144) (fun k _ => (intOf k).toNat)
  case atStart => exact ⟨0, r, 1, by omega, rfl, rfl, rfl, by omega, by omega⟩
  case round =>
    obtain ⟨i, j, v, hij, rfl, rfl, HV, hv1, hv2⟩ := hrel
    rcases Nat.eq_zero_or_pos j with hj | hj
    · subst hj
      go_wp2
      go_ret
      exact ⟨ret_int (by rw [HV.out, show i = r by omega]), rfl⟩
    · have hb := powI_bd6 h1 h2 (k := i + 1) (by omega)
      have hm : powI z (i + 1) = v * z := by rw [powI, HV.out]
      rw [hm] at hb
      have hb1 := hb.1
      have hb2 := hb.2
      have HM := Lib.hid hm
      clear hb hm
      go_wp2
      go_round
      case rel => exact ⟨i + 1, j - 1, v * z, by omega, by go_num, rfl, HM.out.symm, hb1, hb2⟩
      case measure => simp [intOf]; omega

theorem len6_any (z : Int) (r : Nat) (w : World) (h1 : 1 ≤ z) (h2 : z ≤ 8) (hr : r ≤ 6) :
    Calls Try.prog 113 #[.int .i64 z, .int .i64 (r : Int)] w fun e w' => e = .returned (.int .i64 (powI z r)) ∧ w = w' := by
  go_enter Try.func113, Try.ntmps113
  go_wp2
  go_loop [5, 7] (fun p k => ∃ (i : Nat) (v : Int), i ≤ r ∧ k = .int .i64 (i : Int) ∧ p = .int .i64 v ∧ Hid (v = powI z i) ∧ 1 ≤ v ∧ v ≤ 262144) (fun _ k => r - (intOf k).toNat)
  case atStart => exact ⟨0, 1, by omega, rfl, rfl, rfl, by omega, by omega⟩
  case round =>
    obtain ⟨i, v, hij, rfl, rfl, HV, hv1, hv2⟩ := hrel
    by_cases hlt : i < r
    · have hb := powI_bd6 h1 h2 (k := i + 1) (by omega)
      have hm : powI z (i + 1) = v * z := by rw [powI, HV.out]
      rw [hm] at hb
      have hb1 := hb.1
      have hb2 := hb.2
      have HM := Lib.hid hm
      clear hb hm
      go_wp2
      go_round
      case rel => exact ⟨i + 1, v * z, by omega, by go_num, rfl, HM.out.symm, hb1, hb2⟩
      case measure => simp [intOf]; omega
    · go_wp2
      go_ret
      exact ⟨ret_int (by rw [HV.out, show i = r by omega]), rfl⟩

set_option maxHeartbeats 1000000 in
theorem args6_impl (z at_ : Int) (m : Nat) (hm : m ≤ 6) (w : World) (hz1 : 1 ≤ z) (hz2 : z ≤ 8) (h0 : 0 ≤ at_) (h1 : at_ ≤ 262144) :
    Calls Try.prog 114 #[.int .i64 z, .int .i64 (m : Int), .int .i64 at_] w fun e w' => e = .returned (.slice (some ⟨w.heap.size, 0, none⟩) m m) ∧ w'.ownsRow w.heap.size 3 1 (.slice (some ⟨w.heap.size, 0, none⟩) m m) m ((digs z m at_).map (Value.int .i64)) ∧ Below w.heap.size w w' := by
  obtain ⟨w2, hmk, ho2, hb2⟩ := make_ints w m (by omega)
  obtain ⟨B, hB⟩ : ∃ B : Nat, B = w.heap.size := ⟨_, rfl⟩
  rw [← hB] at hmk ho2 hb2 ⊢
  have HB2 := Lib.hid hb2
  have HO2 : Hid (w2.ownsRow B 3 1 (.slice (some ⟨B, 0, none⟩) m m) m ((List.replicate m (0 : Int) ++ []).map (Value.int .i64))) := by unfold Hid; rw [List.append_nil]; exact ho2
  have HD : Hid (digs z m at_ = digs z m at_ ++ []) := by unfold Hid; rw [List.append_nil]
  have hbw : B ≤ w.heap.size := by omega
  clear hB ho2 hb2
  go_enter Try.func114, Try.ntmps114
  go_wp2
  go_loopw [2, 8] (fun a i wr => ∃ (j : Nat) (cur : Int) (tail : List Int), j ≤ m ∧ a = .int .i64 cur ∧ i = .int .i64 ((j : Int) - 1) ∧ 0 ≤ cur ∧ cur ≤ 262144 ∧ Hid (digs z m at_ = digs z j cur ++ tail) ∧ Hid (wr.ownsRow B 3 1 (.slice (some ⟨B, 0, none⟩) m m) m ((List.replicate j (0 : Int) ++ tail).map (Value.int .i64))) ∧ Hid (Below B w wr)) (fun _ i _ => (intOf i + 1).toNat)
  case atStart => exact ⟨m, at_, [], Nat.le_refl _, rfl, by first | rfl | (congr 1; omega), h0, h1, HD, HO2, HB2⟩
  case round =>
    obtain ⟨j, cur, tail, hj, rfl, rfl, hc0, hc1, HDj, HOj, HBj⟩ := hrel
    clear HD HO2 HB2
    cases j with
    | zero =>
      have e0 : (((0 : Nat) : Int) - 1) = -1 := by omega
      rw [e0]
      clear e0
      have hO := HOj.out
      rw [List.replicate_zero, List.nil_append] at hO
      have hD := HDj.out
      rw [digs, List.nil_append] at hD
      rw [← hD] at hO
      have HO := Lib.hid hO
      clear hO hD
      go_wp2
      go_ret
      exact ⟨rfl, HO.out, HBj.out⟩
    | succ j =>
      have e1 : (((j + 1 : Nat) : Int) - 1) = (j : Int) := by omega
      rw [e1]
      clear e1
      obtain ⟨d0, d1⟩ := digs_bd hz1 hc0
      have hzp : 0 < z := by omega
      have hjm : (j : Int) < (m : Int) := by omega
      have hjm' : j < m := by omega
      have hem0 := Int.emod_nonneg cur (show z ≠ 0 by omega)
      have hem1 := Int.emod_lt_of_pos cur hzp
      have hlen := HOj.out.1
      obtain ⟨u, hu⟩ : ∃ u, wr.cell? ⟨B, j, none⟩ = some u := by
        rw [HOj.out.cellAt j (by omega)]
        exact ⟨_, List.getElem?_eq_getElem (by omega)⟩
      have hfr := HOj.out.frozenAt j
      have hst := HOj.out.stored j (.int .i64 (cur % z))
      rw [← List.map_set, rep_set] at hst
      have HST := Lib.hid hst
      have HD' : Hid (digs z m at_ = digs z j (cur / z) ++ ((cur % z) :: tail)) := by unfold Hid; rw [HDj.out, digs, List.append_assoc]; rfl
      clear hst hlen
      go_wp2
      go_roundw
      case rel => exact ⟨j, cur / z, (cur % z) :: tail, by omega, by go_num, by go_num, d0, by omega, HD', HST.out.1, HBj.out.grown HST.out.2 (by have := HBj.out.size; omega) (by intro b hb; cases hb; exact Nat.le_refl _)⟩
      case measure => (simp [intOf]) <;> omega

set_option maxHeartbeats 1000000 in
theorem args6_spec (z at_ : Int) (m : Nat) (hm : m ≤ 6) (w : World) (hz1 : 1 ≤ z) (hz2 : z ≤ 8) (h0 : 0 ≤ at_) (h1 : at_ ≤ 262144) :
    Calls Try.prog 134 #[.int .i64 z, .int .i64 (m : Int), .int .i64 at_] w fun e w' => e = .returned (.slice (some ⟨w.heap.size, 0, none⟩) m m) ∧ w'.ownsRow w.heap.size 3 1 (.slice (some ⟨w.heap.size, 0, none⟩) m m) m ((digs z m at_).map (Value.int .i64)) ∧ Below w.heap.size w w' := by
  obtain ⟨w2, hmk, ho2, hb2⟩ := make_ints w m (by omega)
  obtain ⟨B, hB⟩ : ∃ B : Nat, B = w.heap.size := ⟨_, rfl⟩
  rw [← hB] at hmk ho2 hb2 ⊢
  have HB2 := Lib.hid hb2
  have HO2 : Hid (w2.ownsRow B 3 1 (.slice (some ⟨B, 0, none⟩) m m) m ((List.replicate m (0 : Int) ++ []).map (Value.int .i64))) := by unfold Hid; rw [List.append_nil]; exact ho2
  have HD : Hid (digs z m at_ = digs z m at_ ++ []) := by unfold Hid; rw [List.append_nil]
  have hbw : B ≤ w.heap.size := by omega
  clear hB ho2 hb2
  go_enter Try.func134, Try.ntmps134
  go_wp2
  go_loopw [2, 8] (fun a i wr => ∃ (j : Nat) (cur : Int) (tail : List Int), j ≤ m ∧ a = .int .i64 cur ∧ i = .int .i64 ((j : Int) - 1) ∧ 0 ≤ cur ∧ cur ≤ 262144 ∧ Hid (digs z m at_ = digs z j cur ++ tail) ∧ Hid (wr.ownsRow B 3 1 (.slice (some ⟨B, 0, none⟩) m m) m ((List.replicate j (0 : Int) ++ tail).map (Value.int .i64))) ∧ Hid (Below B w wr)) (fun _ i _ => (intOf i + 1).toNat)
  case atStart => exact ⟨m, at_, [], Nat.le_refl _, rfl, by first | rfl | (congr 1; omega), h0, h1, HD, HO2, HB2⟩
  case round =>
    obtain ⟨j, cur, tail, hj, rfl, rfl, hc0, hc1, HDj, HOj, HBj⟩ := hrel
    clear HD HO2 HB2
    cases j with
    | zero =>
      have e0 : (((0 : Nat) : Int) - 1) = -1 := by omega
      rw [e0]
      clear e0
      have hO := HOj.out
      rw [List.replicate_zero, List.nil_append] at hO
      have hD := HDj.out
      rw [digs, List.nil_append] at hD
      rw [← hD] at hO
      have HO := Lib.hid hO
      clear hO hD
      go_wp2
      go_ret
      exact ⟨rfl, HO.out, HBj.out⟩
    | succ j =>
      have e1 : (((j + 1 : Nat) : Int) - 1) = (j : Int) := by omega
      rw [e1]
      clear e1
      obtain ⟨d0, d1⟩ := digs_bd hz1 hc0
      have hzp : 0 < z := by omega
      have hjm : (j : Int) < (m : Int) := by omega
      have hjm' : j < m := by omega
      have hem0 := Int.emod_nonneg cur (show z ≠ 0 by omega)
      have hem1 := Int.emod_lt_of_pos cur hzp
      have hlen := HOj.out.1
      obtain ⟨u, hu⟩ : ∃ u, wr.cell? ⟨B, j, none⟩ = some u := by
        rw [HOj.out.cellAt j (by omega)]
        exact ⟨_, List.getElem?_eq_getElem (by omega)⟩
      have hfr := HOj.out.frozenAt j
      have hst := HOj.out.stored j (.int .i64 (cur % z))
      rw [← List.map_set, rep_set] at hst
      have HST := Lib.hid hst
      have HD' : Hid (digs z m at_ = digs z j (cur / z) ++ ((cur % z) :: tail)) := by unfold Hid; rw [HDj.out, digs, List.append_assoc]; rfl
      clear hst hlen
      go_wp2
      go_roundw
      case rel => exact ⟨j, cur / z, (cur % z) :: tail, by omega, by go_num, by go_num, d0, by omega, HD', HST.out.1, HBj.out.grown HST.out.2 (by have := HBj.out.size; omega) (by intro b hb; cases hb; exact Nat.le_refl _)⟩
      case measure => (simp [intOf]) <;> omega

end Go.Proofs.Yteealelfghimbaa
