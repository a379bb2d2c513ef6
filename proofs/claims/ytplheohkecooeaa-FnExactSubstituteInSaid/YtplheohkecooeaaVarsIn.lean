/-
  Contract: impl.varsIn: the variables of some lists, in ascending order. Conditions: the bounds that it names.
-/
import Derived.Test.YtplheohkecooeaaLists
import Derived.Test.YtplheohkecooeaaNormM
import Derived.RangeFuncBox
namespace Go.Proofs.Ytplheohkecooeaa
open Go.RowKit
set_option linter.unusedVariables false
set_option linter.unusedSimpArgs false

def hasB (ys : List Int) (i : Int) : Bool := ys.contains i
theorem hasB_nil (i : Int) : hasB [] i = false := rfl
theorem hasB_next {P xs : List Int} {j : Nat} {x i : Int} (hx : xs[j]? = some x) (h : x ≠ i) : hasB (P ++ xs.take (j + 1)) i = hasB (P ++ xs.take j) i := by
  unfold hasB
  rw [List.take_add_one, hx, Bool.eq_iff_iff]
  simp only [List.contains_iff_mem, List.mem_append, Option.toList_some, List.mem_singleton]
  constructor
  · rintro (a | a | a)
    · exact .inl a
    · exact .inr a
    · exact absurd a.symm h
  · rintro (a | a)
    · exact .inl a
    · exact .inr (.inl a)
theorem hasB_here {P xs : List Int} {j : Nat} {x : Int} (hx : xs[j]? = some x) : hasB (P ++ xs.take (j + 1)) x = true := by
  unfold hasB
  rw [List.take_add_one, hx]
  simp
/-- The variables below a number. -/
def varsK (ys : List Int) (k : Nat) : List Int := ((List.range k).map (fun j : Nat => (j : Int))).filter (fun v => ys.contains v)
theorem varsK_yes {ys : List Int} {k : Nat} (h : hasB ys (k : Int) = true) : varsK ys (k + 1) = varsK ys k ++ [(k : Int)] := by
  unfold hasB at h
  unfold varsK
  rw [List.range_succ, List.map_append, List.filter_append, List.map_cons, List.map_nil, List.filter_cons, h]
  rfl
theorem varsK_no {ys : List Int} {k : Nat} (h : hasB ys (k : Int) = false) : varsK ys (k + 1) = varsK ys k := by
  unfold hasB at h
  unfold varsK
  rw [List.range_succ, List.map_append, List.filter_append, List.map_cons, List.map_nil, List.filter_cons, h]
  simp
theorem flat_step {xss : List (List Int)} {k : Nat} {xs : List Int} (hx : xss[k]? = some xs) : (xss.take k).flatten ++ xs = (xss.take (k + 1)).flatten := by
  rw [List.take_add_one, hx, List.flatten_append]; simp

theorem run_six0 (b0 b1 b2 b3 b4 b5 : Bool) (W : World) : (Instr.index 104 (.agg #[.bool b0, .bool b1, .bool b2, .bool b3, .bool b4, .bool b5]) (.int .i64 0)).run Try.prog W = .ok (.bool b0) W := by kernel_rfl
theorem run_six1 (b0 b1 b2 b3 b4 b5 : Bool) (W : World) : (Instr.index 104 (.agg #[.bool b0, .bool b1, .bool b2, .bool b3, .bool b4, .bool b5]) (.int .i64 1)).run Try.prog W = .ok (.bool b1) W := by kernel_rfl
theorem run_six2 (b0 b1 b2 b3 b4 b5 : Bool) (W : World) : (Instr.index 104 (.agg #[.bool b0, .bool b1, .bool b2, .bool b3, .bool b4, .bool b5]) (.int .i64 2)).run Try.prog W = .ok (.bool b2) W := by kernel_rfl
theorem run_six3 (b0 b1 b2 b3 b4 b5 : Bool) (W : World) : (Instr.index 104 (.agg #[.bool b0, .bool b1, .bool b2, .bool b3, .bool b4, .bool b5]) (.int .i64 3)).run Try.prog W = .ok (.bool b3) W := by kernel_rfl
theorem run_six4 (b0 b1 b2 b3 b4 b5 : Bool) (W : World) : (Instr.index 104 (.agg #[.bool b0, .bool b1, .bool b2, .bool b3, .bool b4, .bool b5]) (.int .i64 4)).run Try.prog W = .ok (.bool b4) W := by kernel_rfl
theorem run_six5 (b0 b1 b2 b3 b4 b5 : Bool) (W : World) : (Instr.index 104 (.agg #[.bool b0, .bool b1, .bool b2, .bool b3, .bool b4, .bool b5]) (.int .i64 5)).run Try.prog W = .ok (.bool b5) W := by kernel_rfl

set_option maxRecDepth 100000 in
set_option maxHeartbeats 2000000 in
theorem varsIn_any (lo hi : Nat) (ao : Option Addr) (c n : Nat) (xss : List (List Int)) (w : World) (hx : LView w lo hi ao n xss) (hhi : hi ≤ w.heap.size) (hn : n ≤ 2) (hlen : ∀ xs, xs ∈ xss → xs.length ≤ 60) (hlt : ∀ xs, xs ∈ xss → ∀ x, x ∈ xs → x < 6) :
    Calls Try.prog 67 #[.slice ao n c] w fun e w' => ∃ a m d, e = .returned (.slice a m d) ∧ m = (varsL xss.flatten).length ∧ w'.ownsRow w.heap.size 3 1 (.slice a m d) m ((varsL xss.flatten).map (Value.int .i64)) ∧ Below w.heap.size w w' := by
  have HX := Lib.hid hx
  have HLe := Lib.hid hlen
  have HLt := Lib.hid hlt
  obtain ⟨i0, hi0, hz0, hz1, hz2⟩ := info_parts Try.infoInt
  have hi0_ := run_six0
  have hi1_ := run_six1
  have hi2_ := run_six2
  have hi3_ := run_six3
  have hi4_ := run_six4
  have hi5_ := run_six5
  clear hx hlen hlt
  go_enter Try.func67, Try.ntmps67
  go_wp2
  go_loopw [5, 7, 13] (fun _ _ i wr => ∃ k : Nat, k ≤ n ∧ i = .int .i64 (k : Int) ∧ wr = w.alloc (.cells #[.bool (hasB (xss.take k).flatten 0), .bool (hasB (xss.take k).flatten 1), .bool (hasB (xss.take k).flatten 2), .bool (hasB (xss.take k).flatten 3), .bool (hasB (xss.take k).flatten 4), .bool (hasB (xss.take k).flatten 5)] 104)) (fun _ _ i _ => n - (intOf i).toNat)
  case atStart => exact ⟨0, Nat.zero_le _, rfl, rfl⟩
  case round =>
    obtain ⟨k, hk, rfl, rfl⟩ := hrel
    by_cases hlt : k < n
    · obtain ⟨b, o, rfl, _, _, hc⟩ := HX.out.at_ (by omega)
      obtain ⟨xs, hxs⟩ := get_of_lt HX.out.1 hlt
      obtain ⟨a, m, c', c0, _, _, hvx⟩ := hc k xs hxs
      have HXs := Lib.hid hxs
      obtain ⟨P, hP⟩ : ∃ P, P = (xss.take k).flatten := ⟨_, rfl⟩
      rw [← hP]
      have e0 : (w.alloc (.cells #[.bool (hasB P 0), .bool (hasB P 1), .bool (hasB P 2), .bool (hasB P 3), .bool (hasB P 4), .bool (hasB P 5)] 104)).cell? ⟨b, o + k, none⟩ = some (.slice a m c') := (below_alloc w _).cell (World.block_lt_of_cell? w _ c0) |>.trans c0
      have HVx := Lib.hid hvx
      have h60 : m ≤ 60 := by have := HLe.out xs (List.mem_of_getElem? hxs); have := hvx.1; omega
      have HLx := Lib.hid (HLt.out xs (List.mem_of_getElem? hxs))
      have HP := Lib.hid hP
      have hkn : (k : Int) < (n : Int) := by omega
      clear hc hxs c0 hvx hP
      go_wp2
      go_loopw [7, 19] (fun _ i wr => ∃ j : Nat, j ≤ m ∧ i = .int .i64 (j : Int) ∧ wr = w.alloc (.cells #[.bool (hasB (P ++ xs.take j) 0), .bool (hasB (P ++ xs.take j) 1), .bool (hasB (P ++ xs.take j) 2), .bool (hasB (P ++ xs.take j) 3), .bool (hasB (P ++ xs.take j) 4), .bool (hasB (P ++ xs.take j) 5)] 104)) (fun _ i _ => m - (intOf i).toNat)
      case atStart => exact ⟨0, Nat.zero_le _, rfl, by rw [List.take_zero, List.append_nil]⟩
      case round =>
        obtain ⟨j, hj, rfl, rfl⟩ := hrel
        clear e0
        by_cases hjm : j < m
        · obtain ⟨b2, o2, rfl, _, _, hc2⟩ := HVx.out.at_ (by omega)
          obtain ⟨x, hx⟩ := get_of_lt HVx.out.1 hjm
          have cx : (w.alloc (.cells #[.bool (hasB (P ++ xs.take j) 0), .bool (hasB (P ++ xs.take j) 1), .bool (hasB (P ++ xs.take j) 2), .bool (hasB (P ++ xs.take j) 3), .bool (hasB (P ++ xs.take j) 4), .bool (hasB (P ++ xs.take j) 5)] 104)).cell? ⟨b2, o2 + j, none⟩ = some (.int .i64 x) := (below_alloc w _).cell (World.block_lt_of_cell? w _ (hc2 j x hx)) |>.trans (hc2 j x hx)
          have hx6 := HLx.out x (List.mem_of_getElem? hx)
          have HXj := Lib.hid hx
          have hjm' : (j : Int) < (m : Int) := by omega
          clear hc2 hx
          by_cases h0 : 0 ≤ x
          · have hxc : x = 0 ∨ x = 1 ∨ x = 2 ∨ x = 3 ∨ x = 4 ∨ x = 5 := by omega
            rcases hxc with rfl | rfl | rfl | rfl | rfl | rfl
            · have HN : Hid (w.alloc (.cells #[.bool (hasB (P ++ xs.take (j + 1)) 0), .bool (hasB (P ++ xs.take (j + 1)) 1), .bool (hasB (P ++ xs.take (j + 1)) 2), .bool (hasB (P ++ xs.take (j + 1)) 3), .bool (hasB (P ++ xs.take (j + 1)) 4), .bool (hasB (P ++ xs.take (j + 1)) 5)] 104) = w.alloc (.cells #[.bool true, .bool (hasB (P ++ xs.take j) 1), .bool (hasB (P ++ xs.take j) 2), .bool (hasB (P ++ xs.take j) 3), .bool (hasB (P ++ xs.take j) 4), .bool (hasB (P ++ xs.take j) 5)] 104)) := by
                unfold Hid
                rw [hasB_here HXj.out, hasB_next (i := 1) HXj.out (by decide), hasB_next (i := 2) HXj.out (by decide), hasB_next (i := 3) HXj.out (by decide), hasB_next (i := 4) HXj.out (by decide), hasB_next (i := 5) HXj.out (by decide)]
              go_wp2
              go_roundw
              case rel => exact ⟨j + 1, by omega, by go_num, HN.out.symm⟩
              case measure => simp [intOf]; omega
            · have HN : Hid (w.alloc (.cells #[.bool (hasB (P ++ xs.take (j + 1)) 0), .bool (hasB (P ++ xs.take (j + 1)) 1), .bool (hasB (P ++ xs.take (j + 1)) 2), .bool (hasB (P ++ xs.take (j + 1)) 3), .bool (hasB (P ++ xs.take (j + 1)) 4), .bool (hasB (P ++ xs.take (j + 1)) 5)] 104) = w.alloc (.cells #[.bool (hasB (P ++ xs.take j) 0), .bool true, .bool (hasB (P ++ xs.take j) 2), .bool (hasB (P ++ xs.take j) 3), .bool (hasB (P ++ xs.take j) 4), .bool (hasB (P ++ xs.take j) 5)] 104)) := by
                unfold Hid
                rw [hasB_next (i := 0) HXj.out (by decide), hasB_here HXj.out, hasB_next (i := 2) HXj.out (by decide), hasB_next (i := 3) HXj.out (by decide), hasB_next (i := 4) HXj.out (by decide), hasB_next (i := 5) HXj.out (by decide)]
              go_wp2
              go_roundw
              case rel => exact ⟨j + 1, by omega, by go_num, HN.out.symm⟩
              case measure => simp [intOf]; omega
            · have HN : Hid (w.alloc (.cells #[.bool (hasB (P ++ xs.take (j + 1)) 0), .bool (hasB (P ++ xs.take (j + 1)) 1), .bool (hasB (P ++ xs.take (j + 1)) 2), .bool (hasB (P ++ xs.take (j + 1)) 3), .bool (hasB (P ++ xs.take (j + 1)) 4), .bool (hasB (P ++ xs.take (j + 1)) 5)] 104) = w.alloc (.cells #[.bool (hasB (P ++ xs.take j) 0), .bool (hasB (P ++ xs.take j) 1), .bool true, .bool (hasB (P ++ xs.take j) 3), .bool (hasB (P ++ xs.take j) 4), .bool (hasB (P ++ xs.take j) 5)] 104)) := by
                unfold Hid
                rw [hasB_next (i := 0) HXj.out (by decide), hasB_next (i := 1) HXj.out (by decide), hasB_here HXj.out, hasB_next (i := 3) HXj.out (by decide), hasB_next (i := 4) HXj.out (by decide), hasB_next (i := 5) HXj.out (by decide)]
              go_wp2
              go_roundw
              case rel => exact ⟨j + 1, by omega, by go_num, HN.out.symm⟩
              case measure => simp [intOf]; omega
            · have HN : Hid (w.alloc (.cells #[.bool (hasB (P ++ xs.take (j + 1)) 0), .bool (hasB (P ++ xs.take (j + 1)) 1), .bool (hasB (P ++ xs.take (j + 1)) 2), .bool (hasB (P ++ xs.take (j + 1)) 3), .bool (hasB (P ++ xs.take (j + 1)) 4), .bool (hasB (P ++ xs.take (j + 1)) 5)] 104) = w.alloc (.cells #[.bool (hasB (P ++ xs.take j) 0), .bool (hasB (P ++ xs.take j) 1), .bool (hasB (P ++ xs.take j) 2), .bool true, .bool (hasB (P ++ xs.take j) 4), .bool (hasB (P ++ xs.take j) 5)] 104)) := by
                unfold Hid
                rw [hasB_next (i := 0) HXj.out (by decide), hasB_next (i := 1) HXj.out (by decide), hasB_next (i := 2) HXj.out (by decide), hasB_here HXj.out, hasB_next (i := 4) HXj.out (by decide), hasB_next (i := 5) HXj.out (by decide)]
              go_wp2
              go_roundw
              case rel => exact ⟨j + 1, by omega, by go_num, HN.out.symm⟩
              case measure => simp [intOf]; omega
            · have HN : Hid (w.alloc (.cells #[.bool (hasB (P ++ xs.take (j + 1)) 0), .bool (hasB (P ++ xs.take (j + 1)) 1), .bool (hasB (P ++ xs.take (j + 1)) 2), .bool (hasB (P ++ xs.take (j + 1)) 3), .bool (hasB (P ++ xs.take (j + 1)) 4), .bool (hasB (P ++ xs.take (j + 1)) 5)] 104) = w.alloc (.cells #[.bool (hasB (P ++ xs.take j) 0), .bool (hasB (P ++ xs.take j) 1), .bool (hasB (P ++ xs.take j) 2), .bool (hasB (P ++ xs.take j) 3), .bool true, .bool (hasB (P ++ xs.take j) 5)] 104)) := by
                unfold Hid
                rw [hasB_next (i := 0) HXj.out (by decide), hasB_next (i := 1) HXj.out (by decide), hasB_next (i := 2) HXj.out (by decide), hasB_next (i := 3) HXj.out (by decide), hasB_here HXj.out, hasB_next (i := 5) HXj.out (by decide)]
              go_wp2
              go_roundw
              case rel => exact ⟨j + 1, by omega, by go_num, HN.out.symm⟩
              case measure => simp [intOf]; omega
            · have HN : Hid (w.alloc (.cells #[.bool (hasB (P ++ xs.take (j + 1)) 0), .bool (hasB (P ++ xs.take (j + 1)) 1), .bool (hasB (P ++ xs.take (j + 1)) 2), .bool (hasB (P ++ xs.take (j + 1)) 3), .bool (hasB (P ++ xs.take (j + 1)) 4), .bool (hasB (P ++ xs.take (j + 1)) 5)] 104) = w.alloc (.cells #[.bool (hasB (P ++ xs.take j) 0), .bool (hasB (P ++ xs.take j) 1), .bool (hasB (P ++ xs.take j) 2), .bool (hasB (P ++ xs.take j) 3), .bool (hasB (P ++ xs.take j) 4), .bool true] 104)) := by
                unfold Hid
                rw [hasB_next (i := 0) HXj.out (by decide), hasB_next (i := 1) HXj.out (by decide), hasB_next (i := 2) HXj.out (by decide), hasB_next (i := 3) HXj.out (by decide), hasB_next (i := 4) HXj.out (by decide), hasB_here HXj.out]
              go_wp2
              go_roundw
              case rel => exact ⟨j + 1, by omega, by go_num, HN.out.symm⟩
              case measure => simp [intOf]; omega
          · have HN : Hid (w.alloc (.cells #[.bool (hasB (P ++ xs.take (j + 1)) 0), .bool (hasB (P ++ xs.take (j + 1)) 1), .bool (hasB (P ++ xs.take (j + 1)) 2), .bool (hasB (P ++ xs.take (j + 1)) 3), .bool (hasB (P ++ xs.take (j + 1)) 4), .bool (hasB (P ++ xs.take (j + 1)) 5)] 104) = w.alloc (.cells #[.bool (hasB (P ++ xs.take j) 0), .bool (hasB (P ++ xs.take j) 1), .bool (hasB (P ++ xs.take j) 2), .bool (hasB (P ++ xs.take j) 3), .bool (hasB (P ++ xs.take j) 4), .bool (hasB (P ++ xs.take j) 5)] 104)) := by
              unfold Hid
              rw [hasB_next (i := 0) HXj.out (by omega), hasB_next (i := 1) HXj.out (by omega), hasB_next (i := 2) HXj.out (by omega), hasB_next (i := 3) HXj.out (by omega), hasB_next (i := 4) HXj.out (by omega), hasB_next (i := 5) HXj.out (by omega)]
            have hx0 : ¬ 0 ≤ x := h0
            go_wp2
            go_roundw
            case rel => exact ⟨j + 1, by omega, by go_num, HN.out.symm⟩
            case measure => simp [intOf]; omega
        · have HN : Hid (P ++ xs.take j = (xss.take (k + 1)).flatten) := by
            unfold Hid
            rw [List.take_of_length_le (by have := HVx.out.1; omega), HP.out, flat_step HXs.out]
          have hjm' : ¬ (j : Int) < (m : Int) := by omega
          go_wp2
          go_roundw
          case rel => exact ⟨k + 1, by omega, by go_num, by rw [HN.out]⟩
          case measure => simp [intOf]; omega
    · have hkn : ¬ (k : Int) < (n : Int) := by omega
      have hys : (xss.take k).flatten = xss.flatten := by rw [List.take_of_length_le (by have := HX.out.1; omega)]
      rw [hys]
      obtain ⟨ys, hy⟩ : ∃ ys, xss.flatten = ys := ⟨_, rfl⟩
      rw [hy]
      have HB := Lib.hid (below_alloc w (.cells #[.bool (hasB ys 0), .bool (hasB ys 1), .bool (hasB ys 2), .bool (hasB ys 3), .bool (hasB ys 4), .bool (hasB ys 5)] 104))
      obtain ⟨W0, hW0⟩ : ∃ W0, W0 = w.alloc (.cells #[.bool (hasB ys 0), .bool (hasB ys 1), .bool (hasB ys 2), .bool (hasB ys 3), .bool (hasB ys 4), .bool (hasB ys 5)] 104) := ⟨_, rfl⟩

      have q0 : W0.cell? ⟨w.heap.size, 0, none⟩ = some (.bool (hasB ys 0)) := by rw [hW0]; simp
      have q1 : W0.cell? ⟨w.heap.size, 1, none⟩ = some (.bool (hasB ys 1)) := by rw [hW0]; simp
      have q2 : W0.cell? ⟨w.heap.size, 2, none⟩ = some (.bool (hasB ys 2)) := by rw [hW0]; simp
      have q3 : W0.cell? ⟨w.heap.size, 3, none⟩ = some (.bool (hasB ys 3)) := by rw [hW0]; simp
      have q4 : W0.cell? ⟨w.heap.size, 4, none⟩ = some (.bool (hasB ys 4)) := by rw [hW0]; simp
      have q5 : W0.cell? ⟨w.heap.size, 5, none⟩ = some (.bool (hasB ys 5)) := by rw [hW0]; simp
      rw [← hW0] at HB ⊢
      have HYs := Lib.hid hy
      clear hys hy hW0
      go_wp2
      clear q0 q1 q2 q3 q4 q5
      go_loopw [8, 9, 10, 30] (fun v _ _ i wr => ∃ (j t vc : Nat) (p : Int) (va : Option Addr), j ≤ 6 ∧ p = (j : Int) ∧ i = .int .i64 p ∧ v = .slice va t vc ∧ t ≤ j ∧ Hid (wr.ownsRow w.heap.size 3 1 (.slice va t vc) t ((varsK ys j).map (Value.int .i64))) ∧ Hid (Below w.heap.size w wr)) (fun _ _ _ i _ => 6 - (intOf i).toNat)
      case atStart => exact ⟨0, 0, 0, 0, none, Nat.zero_le _, rfl, rfl, rfl, Nat.le_refl _, World.ownsRow_nil _ _ _ _, HB⟩
      case round =>
        obtain ⟨j, t, vc, p, va, hj, hp, rfl, rfl, htj, HR, HBr⟩ := hrel
        by_cases hj6 : j = 6
        · subst hj6
          obtain rfl : p = 6 := by omega
          clear hp
          go_wp2
          go_ret
          have hR := HR.out
          rw [show varsK ys 6 = varsL xss.flatten by rw [HYs.out]; rfl] at hR
          exact ⟨va, t, vc, rfl, by have := hR.1; simp at this; exact this.symm, hR, HBr.out⟩
        · have hjc : p = 0 ∨ p = 1 ∨ p = 2 ∨ p = 3 ∨ p = 4 ∨ p = 5 := by omega
          rcases hjc with rfl | rfl | rfl | rfl | rfl | rfl
          · obtain rfl : j = 0 := by omega
            clear hp
            cases hb : hasB ys 0 with
            | true =>
              go_wp2_with (at_builtin; refine wpList_append_own _ rfl _ _ 25 rfl w.heap.size 3 i0 (.int .i64 0) 1 8 Try.underlying25 hi0 hz0 hz1 hz2 rfl (by decide) (.slice va t vc) t ((varsK ys 0).map (Value.int .i64)) rfl (HR.out.alloc _) ⟨wr.heap.size, 0, none⟩ 1 1 [.int .i64 0] rfl rfl (cell_one_new _ _ _) (fun x hx => by simp at hx; subst hx; rfl) (by unfold maxLen; omega) (by omega) (by have := HBr.out.size; simp; omega) ?_; intro v' w3 hown' hgrow' hnil')
              obtain ⟨g, cap, rfl⟩ := ownsRow_succ hown'
              have HB3 := Lib.hid ((HBr.out.alloc HBr.out.size (.cells #[.int .i64 0] 3)).grown hgrow' (by have := HBr.out.size; simp; omega) (fun q hq => (HR.out.lt q hq).1))
              have HO3 : Hid (w3.ownsRow w.heap.size 3 1 (.slice (some ⟨g, 0, none⟩) (t + 1) cap) (t + 1) ((varsK ys (0 + 1)).map (Value.int .i64))) := by
                unfold Hid
                rw [varsK_yes hb, List.map_append]
                exact hown'
              clear hown' hgrow' hnil'
              go_wp2_with fail
              go_roundw
              case rel => exact ⟨0 + 1, t + 1, cap, 0 + 1, _, by omega, rfl, by go_num, rfl, by omega, HO3, HB3⟩
              case measure => simp [intOf]
            | false =>
              have HO2 : Hid (wr.ownsRow w.heap.size 3 1 (.slice va t vc) t ((varsK ys (0 + 1)).map (Value.int .i64))) := by
                unfold Hid; rw [varsK_no hb]; exact HR.out
              go_wp2_with fail
              go_roundw
              case rel => exact ⟨0 + 1, t, vc, 0 + 1, va, by omega, rfl, by go_num, rfl, by omega, HO2, HBr⟩
              case measure => simp [intOf]
          · obtain rfl : j = 1 := by omega
            clear hp
            cases hb : hasB ys 1 with
            | true =>
              go_wp2_with (at_builtin; refine wpList_append_own _ rfl _ _ 25 rfl w.heap.size 3 i0 (.int .i64 0) 1 8 Try.underlying25 hi0 hz0 hz1 hz2 rfl (by decide) (.slice va t vc) t ((varsK ys 1).map (Value.int .i64)) rfl (HR.out.alloc _) ⟨wr.heap.size, 0, none⟩ 1 1 [.int .i64 1] rfl rfl (cell_one_new _ _ _) (fun x hx => by simp at hx; subst hx; rfl) (by unfold maxLen; omega) (by omega) (by have := HBr.out.size; simp; omega) ?_; intro v' w3 hown' hgrow' hnil')
              obtain ⟨g, cap, rfl⟩ := ownsRow_succ hown'
              have HB3 := Lib.hid ((HBr.out.alloc HBr.out.size (.cells #[.int .i64 1] 3)).grown hgrow' (by have := HBr.out.size; simp; omega) (fun q hq => (HR.out.lt q hq).1))
              have HO3 : Hid (w3.ownsRow w.heap.size 3 1 (.slice (some ⟨g, 0, none⟩) (t + 1) cap) (t + 1) ((varsK ys (1 + 1)).map (Value.int .i64))) := by
                unfold Hid
                rw [varsK_yes hb, List.map_append]
                exact hown'
              clear hown' hgrow' hnil'
              go_wp2_with fail
              go_roundw
              case rel => exact ⟨1 + 1, t + 1, cap, 1 + 1, _, by omega, rfl, by go_num, rfl, by omega, HO3, HB3⟩
              case measure => simp [intOf]
            | false =>
              have HO2 : Hid (wr.ownsRow w.heap.size 3 1 (.slice va t vc) t ((varsK ys (1 + 1)).map (Value.int .i64))) := by
                unfold Hid; rw [varsK_no hb]; exact HR.out
              go_wp2_with fail
              go_roundw
              case rel => exact ⟨1 + 1, t, vc, 1 + 1, va, by omega, rfl, by go_num, rfl, by omega, HO2, HBr⟩
              case measure => simp [intOf]
          · obtain rfl : j = 2 := by omega
            clear hp
            cases hb : hasB ys 2 with
            | true =>
              go_wp2_with (at_builtin; refine wpList_append_own _ rfl _ _ 25 rfl w.heap.size 3 i0 (.int .i64 0) 1 8 Try.underlying25 hi0 hz0 hz1 hz2 rfl (by decide) (.slice va t vc) t ((varsK ys 2).map (Value.int .i64)) rfl (HR.out.alloc _) ⟨wr.heap.size, 0, none⟩ 1 1 [.int .i64 2] rfl rfl (cell_one_new _ _ _) (fun x hx => by simp at hx; subst hx; rfl) (by unfold maxLen; omega) (by omega) (by have := HBr.out.size; simp; omega) ?_; intro v' w3 hown' hgrow' hnil')
              obtain ⟨g, cap, rfl⟩ := ownsRow_succ hown'
              have HB3 := Lib.hid ((HBr.out.alloc HBr.out.size (.cells #[.int .i64 2] 3)).grown hgrow' (by have := HBr.out.size; simp; omega) (fun q hq => (HR.out.lt q hq).1))
              have HO3 : Hid (w3.ownsRow w.heap.size 3 1 (.slice (some ⟨g, 0, none⟩) (t + 1) cap) (t + 1) ((varsK ys (2 + 1)).map (Value.int .i64))) := by
                unfold Hid
                rw [varsK_yes hb, List.map_append]
                exact hown'
              clear hown' hgrow' hnil'
              go_wp2_with fail
              go_roundw
              case rel => exact ⟨2 + 1, t + 1, cap, 2 + 1, _, by omega, rfl, by go_num, rfl, by omega, HO3, HB3⟩
              case measure => simp [intOf]
            | false =>
              have HO2 : Hid (wr.ownsRow w.heap.size 3 1 (.slice va t vc) t ((varsK ys (2 + 1)).map (Value.int .i64))) := by
                unfold Hid; rw [varsK_no hb]; exact HR.out
              go_wp2_with fail
              go_roundw
              case rel => exact ⟨2 + 1, t, vc, 2 + 1, va, by omega, rfl, by go_num, rfl, by omega, HO2, HBr⟩
              case measure => simp [intOf]
          · obtain rfl : j = 3 := by omega
            clear hp
            cases hb : hasB ys 3 with
            | true =>
              go_wp2_with (at_builtin; refine wpList_append_own _ rfl _ _ 25 rfl w.heap.size 3 i0 (.int .i64 0) 1 8 Try.underlying25 hi0 hz0 hz1 hz2 rfl (by decide) (.slice va t vc) t ((varsK ys 3).map (Value.int .i64)) rfl (HR.out.alloc _) ⟨wr.heap.size, 0, none⟩ 1 1 [.int .i64 3] rfl rfl (cell_one_new _ _ _) (fun x hx => by simp at hx; subst hx; rfl) (by unfold maxLen; omega) (by omega) (by have := HBr.out.size; simp; omega) ?_; intro v' w3 hown' hgrow' hnil')
              obtain ⟨g, cap, rfl⟩ := ownsRow_succ hown'
              have HB3 := Lib.hid ((HBr.out.alloc HBr.out.size (.cells #[.int .i64 3] 3)).grown hgrow' (by have := HBr.out.size; simp; omega) (fun q hq => (HR.out.lt q hq).1))
              have HO3 : Hid (w3.ownsRow w.heap.size 3 1 (.slice (some ⟨g, 0, none⟩) (t + 1) cap) (t + 1) ((varsK ys (3 + 1)).map (Value.int .i64))) := by
                unfold Hid
                rw [varsK_yes hb, List.map_append]
                exact hown'
              clear hown' hgrow' hnil'
              go_wp2_with fail
              go_roundw
              case rel => exact ⟨3 + 1, t + 1, cap, 3 + 1, _, by omega, rfl, by go_num, rfl, by omega, HO3, HB3⟩
              case measure => simp [intOf]
            | false =>
              have HO2 : Hid (wr.ownsRow w.heap.size 3 1 (.slice va t vc) t ((varsK ys (3 + 1)).map (Value.int .i64))) := by
                unfold Hid; rw [varsK_no hb]; exact HR.out
              go_wp2_with fail
              go_roundw
              case rel => exact ⟨3 + 1, t, vc, 3 + 1, va, by omega, rfl, by go_num, rfl, by omega, HO2, HBr⟩
              case measure => simp [intOf]
          · obtain rfl : j = 4 := by omega
            clear hp
            cases hb : hasB ys 4 with
            | true =>
              go_wp2_with (at_builtin; refine wpList_append_own _ rfl _ _ 25 rfl w.heap.size 3 i0 (.int .i64 0) 1 8 Try.underlying25 hi0 hz0 hz1 hz2 rfl (by decide) (.slice va t vc) t ((varsK ys 4).map (Value.int .i64)) rfl (HR.out.alloc _) ⟨wr.heap.size, 0, none⟩ 1 1 [.int .i64 4] rfl rfl (cell_one_new _ _ _) (fun x hx => by simp at hx; subst hx; rfl) (by unfold maxLen; omega) (by omega) (by have := HBr.out.size; simp; omega) ?_; intro v' w3 hown' hgrow' hnil')
              obtain ⟨g, cap, rfl⟩ := ownsRow_succ hown'
              have HB3 := Lib.hid ((HBr.out.alloc HBr.out.size (.cells #[.int .i64 4] 3)).grown hgrow' (by have := HBr.out.size; simp; omega) (fun q hq => (HR.out.lt q hq).1))
              have HO3 : Hid (w3.ownsRow w.heap.size 3 1 (.slice (some ⟨g, 0, none⟩) (t + 1) cap) (t + 1) ((varsK ys (4 + 1)).map (Value.int .i64))) := by
                unfold Hid
                rw [varsK_yes hb, List.map_append]
                exact hown'
              clear hown' hgrow' hnil'
              go_wp2_with fail
              go_roundw
              case rel => exact ⟨4 + 1, t + 1, cap, 4 + 1, _, by omega, rfl, by go_num, rfl, by omega, HO3, HB3⟩
              case measure => simp [intOf]
            | false =>
              have HO2 : Hid (wr.ownsRow w.heap.size 3 1 (.slice va t vc) t ((varsK ys (4 + 1)).map (Value.int .i64))) := by
                unfold Hid; rw [varsK_no hb]; exact HR.out
              go_wp2_with fail
              go_roundw
              case rel => exact ⟨4 + 1, t, vc, 4 + 1, va, by omega, rfl, by go_num, rfl, by omega, HO2, HBr⟩
              case measure => simp [intOf]
          · obtain rfl : j = 5 := by omega
            clear hp
            cases hb : hasB ys 5 with
            | true =>
              go_wp2_with (at_builtin; refine wpList_append_own _ rfl _ _ 25 rfl w.heap.size 3 i0 (.int .i64 0) 1 8 Try.underlying25 hi0 hz0 hz1 hz2 rfl (by decide) (.slice va t vc) t ((varsK ys 5).map (Value.int .i64)) rfl (HR.out.alloc _) ⟨wr.heap.size, 0, none⟩ 1 1 [.int .i64 5] rfl rfl (cell_one_new _ _ _) (fun x hx => by simp at hx; subst hx; rfl) (by unfold maxLen; omega) (by omega) (by have := HBr.out.size; simp; omega) ?_; intro v' w3 hown' hgrow' hnil')
              obtain ⟨g, cap, rfl⟩ := ownsRow_succ hown'
              have HB3 := Lib.hid ((HBr.out.alloc HBr.out.size (.cells #[.int .i64 5] 3)).grown hgrow' (by have := HBr.out.size; simp; omega) (fun q hq => (HR.out.lt q hq).1))
              have HO3 : Hid (w3.ownsRow w.heap.size 3 1 (.slice (some ⟨g, 0, none⟩) (t + 1) cap) (t + 1) ((varsK ys (5 + 1)).map (Value.int .i64))) := by
                unfold Hid
                rw [varsK_yes hb, List.map_append]
                exact hown'
              clear hown' hgrow' hnil'
              go_wp2_with fail
              go_roundw
              case rel => exact ⟨5 + 1, t + 1, cap, 5 + 1, _, by omega, rfl, by go_num, rfl, by omega, HO3, HB3⟩
              case measure => simp [intOf]
            | false =>
              have HO2 : Hid (wr.ownsRow w.heap.size 3 1 (.slice va t vc) t ((varsK ys (5 + 1)).map (Value.int .i64))) := by
                unfold Hid; rw [varsK_no hb]; exact HR.out
              go_wp2_with fail
              go_roundw
              case rel => exact ⟨5 + 1, t, vc, 5 + 1, va, by omega, rfl, by go_num, rfl, by omega, HO2, HBr⟩
              case measure => simp [intOf]

end Go.Proofs.Ytplheohkecooeaa
