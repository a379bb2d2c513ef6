/-
  Contract: slices.Repeat at one number, at most three times. Conditions: the bounds that each theorem names.
-/
import Derived.Test.YthgggoodceogkaaComm
import Derived.Test.YthgggoodceogkaaTo
import Derived.Test.YthgggoodceogkaaShelfB
import Derived.Laws.CopyOwn
import Derived.Deep.RegionLaw
namespace Go.Proofs.Ythgggoodceogkaa
open Go.RowKit
set_option linter.unusedVariables false
set_option linter.unusedSimpArgs false

theorem own_row {w : World} {B g n : Nat} {e : TypeId} {xs : List Value} (h : w.ownsRow B e 1 (.slice (some ⟨g, 0, none⟩) n n) n xs) : w.heap[g]? = some (.cells xs.toArray e (0, 0)) := by
  obtain ⟨hl, ⟨h, _⟩ | ⟨g', cap, cur, hv, _, hg, _, _, hs, ht⟩⟩ := h
  · cases h
  · injection hv with h1 _ h3
    injection h1 with h1
    injection h1 with h1
    subst h1 h3
    rw [List.take_of_length_le (by simp; omega)] at ht
    rw [hg, ← ht]

theorem own_row2 {w : World} {B g n : Nat} {e : TypeId} {xs : List Value} (h : w.ownsRow B e 1 (.slice (some ⟨g, 0, none⟩) n n) n xs) : ∃ Z : List Value, Hid (Z.length = n) ∧ Hid (w.heap[g]? = some (.cells Z.toArray e (0, 0))) := ⟨xs, by have := h.1; simpa [Hid] using this, own_row h⟩

theorem zero_at {w : World} {g : Nat} {e : TypeId} {Z : List Value} {x : Int} {X : List Value} (h : w.heap[g]? = some (.cells Z.toArray e (0, 0))) (hX : X = [.int .i64 x]) (h0 : Z[0]? = some (.int .i64 x)) : ∀ (j : Nat) (v : Value), X[j]? = some v → w.cell? ((⟨g, 0, none⟩ : Addr).add j) = some v := by
  subst hX
  intro j v hj
  cases j with
  | zero =>
    simp at hj
    subst hj
    exact (cell_of_row w g 0 _ e (0, 0) h).trans (by simpa using h0)
  | succ j => simp at hj
theorem sp_zero {Z X : List Value} {x : Int} (hX : X = [.int .i64 x]) : (splice Z 0 X)[0]? = some (.int .i64 x) := by subst hX; simp [splice]
theorem sp_keep {Z X : List Value} {x : Int} {k : Nat} {v : Value} (hX : X = [.int .i64 x]) (h : Z[0]? = some v) (hk : 0 < k) : (splice Z k X)[0]? = some v := by
  subst hX
  obtain ⟨k, rfl⟩ : ∃ j, k = j + 1 := ⟨k - 1, by omega⟩
  cases Z with
  | nil => simp at h
  | cons z Z => simpa [splice] using h
theorem sp_len {Z X : List Value} {x : Int} {m k : Nat} (hX : X = [.int .i64 x]) (hZ : Z.length = m) (hk : k < m) : (splice Z k X).length = m := by
  subst hX
  rw [length_splice _ _ _ (by simp; omega), hZ]
theorem sp_1 {Z X : List Value} {x : Int} (hX : X = [.int .i64 x]) (hZ : Z.length = 1) : splice Z 0 X = List.replicate 1 (.int .i64 x) := by
  subst hX
  match Z, hZ with
  | [a], _ => simp [splice]
theorem sp_2 {Z X : List Value} {x : Int} (hX : X = [.int .i64 x]) (hZ : Z.length = 2) : splice (splice Z 0 X) 1 X = List.replicate 2 (.int .i64 x) := by
  subst hX
  match Z, hZ with
  | [a, b], _ => simp [splice]
theorem sp_3 {Z X : List Value} {x : Int} (hX : X = [.int .i64 x]) (hZ : Z.length = 3) : splice (splice (splice Z 0 X) 1 X) 2 X = List.replicate 3 (.int .i64 x) := by
  subst hX
  match Z, hZ with
  | [a, b, c], _ => simp [splice]

theorem rep_view {W : World} {B g m : Nat} {x : Int} {t : TypeId} (hB : B ≤ g) (hg : W.heap[g]? = some (.cells (List.replicate m (.int .i64 x)).toArray t (0, 0))) : IView W B W.heap.size (some ⟨g, 0, none⟩) m (List.replicate m x) := by
  have hlt : g < W.heap.size := (Array.getElem?_eq_some_iff.1 hg).1
  refine ⟨by simp, .inr ⟨g, 0, rfl, hB, hlt, fun j v hj => ?_⟩⟩
  rw [List.getElem?_replicate] at hj
  split at hj
  · injection hj with hj
    subst hj
    rw [cell_of_row W g (0 + j) _ t (0, 0) hg]
    simp [*]
  · cases hj

theorem copied {w1 w2 : World} {B g j : Nat} {x : Int} {X : List Value} {v : Value} (hg : g < B) (hB : Below B w1 w2) (hx : w1.cell? ⟨g, 0, none⟩ = some (.int .i64 x)) (hX : X = [.int .i64 x]) (hj : X[j]? = some v) : w2.cell? ((⟨g, 0, none⟩ : Addr).add j) = some v := by
  subst hX
  cases j with
  | zero =>
    simp at hj
    subst hj
    exact (hB.cell (p := ⟨g, 0, none⟩) hg).trans hx
  | succ j => simp at hj
theorem one_cell {x : Int} {X : List Value} (hX : X = [.int .i64 x]) : ∀ v ∈ X, v.oneCell' = true := by
  subst hX
  intro v hv
  simp at hv
  subst hv
  rfl

set_option maxRecDepth 100000 in
set_option maxHeartbeats 1000000 in
theorem repeat_0 (g c : Nat) (x : Int) (w : World) (hx : w.cell? ⟨g, 0, none⟩ = some (.int .i64 x)) :
    Calls Try.prog 66 #[.slice (some ⟨g, 0, none⟩) 1 c, .int .i64 0] w fun e w' => e = .returned (.slice (some ⟨w.heap.size, 0, none⟩) 0 0) ∧ w'.heap[w.heap.size]? = some (.cells (List.replicate 0 (.int .i64 x)).toArray 3 (0, 0)) ∧ Below w.heap.size w w' := by
  have hw2 : IntKind.i64.wrap 2 = 2 := by decide
  have hw3 : IntKind.i64.wrap 3 = 3 := by decide
  have hM : Calls Try.prog 88 #[.int .u64 1, .int .u64 0] w fun e w' => e = .returned (.tuple #[.int .u64 0, .int .u64 0]) ∧ w' = w := by simpa using Try.bits_Mul 1 0 (by decide) (by decide) w
  have HM := Lib.hid hM
  have hgl := World.block_lt_of_cell? w _ hx
  clear hM
  obtain ⟨i0, hi, hz0, hz1, hz2⟩ := info_parts Try.infoInt
  obtain ⟨X1, hX1⟩ : ∃ X1 : List Value, X1 = [.int .i64 x] := ⟨_, rfl⟩
  have HX1 := Lib.hid hX1
  have HSz : Hid ((Try.prog.info? 3).map (·.size) = some 1) := by unfold Hid; rw [hi]; simp [hz1]
  clear hX1
  go_enter Try.func66, Try.ntmps66
  go_wp2_with fail
  refine HM.out.mono ?_
  rintro e w1 ⟨rfl, rfl⟩
  go_wp2_with (first | (at_make; refine wpList_make_full _ rfl _ _ 33 rfl w1.heap.size 3 i0 _ 1 Try.underlying33 hi hz0 hz1 _ _ _ _ 0 rfl rfl rfl rfl (by rw [hz2]; omega) (by decide) (Nat.le_refl _) ?_; intro w2 hown hgrow; obtain ⟨Z1, HZ1, hR2⟩ := own_row2 hown; have hB2 : Below w1.heap.size w1 w2 := (Below.refl _ _).grown hgrow (Nat.le_refl _) (by intro k hk; cases hk); clear hown hgrow) | (refine wpList_copy_nothing (o := ⟨some 33, _, _, _, _, _⟩) rfl (.tmp 31) (.tmp 32) 33 33 rfl 3 Try.underlying33 HSz.out (some ⟨w1.heap.size, 0, none⟩) (some ⟨g, 0, none⟩) 0 0 1 c rfl rfl rfl ?_))
  refine wp_loop_rounds 1 ?_
  rw [rounds_succ]
  go_wp2_with fail
  go_ret
  exact ⟨rfl, by have h := hR2.out; rw [List.eq_nil_of_length_eq_zero HZ1.out] at h; exact h, hB2⟩

set_option maxRecDepth 100000 in
set_option maxHeartbeats 1000000 in
theorem repeat_1 (g c : Nat) (x : Int) (w : World) (hx : w.cell? ⟨g, 0, none⟩ = some (.int .i64 x)) :
    Calls Try.prog 66 #[.slice (some ⟨g, 0, none⟩) 1 c, .int .i64 1] w fun e w' => e = .returned (.slice (some ⟨w.heap.size, 0, none⟩) 1 1) ∧ w'.heap[w.heap.size]? = some (.cells (List.replicate 1 (.int .i64 x)).toArray 3 (0, 0)) ∧ Below w.heap.size w w' := by
  have hw2 : IntKind.i64.wrap 2 = 2 := by decide
  have hw3 : IntKind.i64.wrap 3 = 3 := by decide
  have hM : Calls Try.prog 88 #[.int .u64 1, .int .u64 1] w fun e w' => e = .returned (.tuple #[.int .u64 0, .int .u64 1]) ∧ w' = w := by simpa using Try.bits_Mul 1 1 (by decide) (by decide) w
  have HM := Lib.hid hM
  have hgl := World.block_lt_of_cell? w _ hx
  clear hM
  obtain ⟨i0, hi, hz0, hz1, hz2⟩ := info_parts Try.infoInt
  obtain ⟨X1, hX1⟩ : ∃ X1 : List Value, X1 = [.int .i64 x] := ⟨_, rfl⟩
  have HX1 := Lib.hid hX1
  have HSz : Hid ((Try.prog.info? 3).map (·.size) = some 1) := by unfold Hid; rw [hi]; simp [hz1]
  clear hX1
  go_enter Try.func66, Try.ntmps66
  go_wp2_with fail
  refine HM.out.mono ?_
  rintro e w1 ⟨rfl, rfl⟩
  go_wp2_with (first | (at_make; refine wpList_make_full _ rfl _ _ 33 rfl w1.heap.size 3 i0 _ 1 Try.underlying33 hi hz0 hz1 _ _ _ _ 1 rfl rfl rfl rfl (by rw [hz2]; omega) (by decide) (Nat.le_refl _) ?_; intro w2 hown hgrow; obtain ⟨Z1, HZ1, hR2⟩ := own_row2 hown; have hB2 : Below w1.heap.size w1 w2 := (Below.refl _ _).grown hgrow (Nat.le_refl _) (by intro k hk; cases hk); clear hown hgrow) | (refine wpList_copy_splice (o := ⟨some 33, _, _, _, _, _⟩) rfl (.tmp 31) (.tmp 32) 33 33 rfl 3 Try.underlying33 HSz.out (some ⟨w1.heap.size, 0, none⟩) (some ⟨g, 0, none⟩) 1 1 1 c rfl rfl w1.heap.size 0 Z1 3 hR2.out X1 (by rw [HX1.out]; rfl) (fun _ => ⟨rfl, _, rfl, fun j v hj => copied hgl hB2 hx HX1.out hj⟩) (by rw [HX1.out, HZ1.out]; simp) (one_cell HX1.out) w1.heap.size w1 hB2 (Nat.le_refl _) ?_; rw [show X1.length = 1 by rw [HX1.out]; rfl]; intro w3 hR3 hB3))
  refine wp_loop_rounds 1 ?_
  rw [rounds_succ]
  go_wp2_with fail
  go_ret
  exact ⟨rfl, by have h := hR3.out; rw [sp_1 HX1.out HZ1.out] at h; exact h, hB3⟩

set_option maxRecDepth 100000 in
set_option maxHeartbeats 1000000 in
theorem repeat_2 (g c : Nat) (x : Int) (w : World) (hx : w.cell? ⟨g, 0, none⟩ = some (.int .i64 x)) :
    Calls Try.prog 66 #[.slice (some ⟨g, 0, none⟩) 1 c, .int .i64 2] w fun e w' => e = .returned (.slice (some ⟨w.heap.size, 0, none⟩) 2 2) ∧ w'.heap[w.heap.size]? = some (.cells (List.replicate 2 (.int .i64 x)).toArray 3 (0, 0)) ∧ Below w.heap.size w w' := by
  have hw2 : IntKind.i64.wrap 2 = 2 := by decide
  have hw3 : IntKind.i64.wrap 3 = 3 := by decide
  have hM : Calls Try.prog 88 #[.int .u64 1, .int .u64 2] w fun e w' => e = .returned (.tuple #[.int .u64 0, .int .u64 2]) ∧ w' = w := by simpa using Try.bits_Mul 1 2 (by decide) (by decide) w
  have HM := Lib.hid hM
  have hgl := World.block_lt_of_cell? w _ hx
  clear hM
  obtain ⟨i0, hi, hz0, hz1, hz2⟩ := info_parts Try.infoInt
  obtain ⟨X1, hX1⟩ : ∃ X1 : List Value, X1 = [.int .i64 x] := ⟨_, rfl⟩
  have HX1 := Lib.hid hX1
  have HSz : Hid ((Try.prog.info? 3).map (·.size) = some 1) := by unfold Hid; rw [hi]; simp [hz1]
  clear hX1
  go_enter Try.func66, Try.ntmps66
  go_wp2_with fail
  refine HM.out.mono ?_
  rintro e w1 ⟨rfl, rfl⟩
  go_wp2_with (first | (at_make; refine wpList_make_full _ rfl _ _ 33 rfl w1.heap.size 3 i0 _ 1 Try.underlying33 hi hz0 hz1 _ _ _ _ 2 rfl rfl rfl rfl (by rw [hz2]; omega) (by decide) (Nat.le_refl _) ?_; intro w2 hown hgrow; obtain ⟨Z1, HZ1, hR2⟩ := own_row2 hown; have hB2 : Below w1.heap.size w1 w2 := (Below.refl _ _).grown hgrow (Nat.le_refl _) (by intro k hk; cases hk); clear hown hgrow) | (refine wpList_copy_splice (o := ⟨some 33, _, _, _, _, _⟩) rfl (.tmp 31) (.tmp 32) 33 33 rfl 3 Try.underlying33 HSz.out (some ⟨w1.heap.size, 0, none⟩) (some ⟨g, 0, none⟩) 2 2 1 c rfl rfl w1.heap.size 0 Z1 3 hR2.out X1 (by rw [HX1.out]; rfl) (fun _ => ⟨rfl, _, rfl, fun j v hj => copied hgl hB2 hx HX1.out hj⟩) (by rw [HX1.out, HZ1.out]; simp) (one_cell HX1.out) w1.heap.size w1 hB2 (Nat.le_refl _) ?_; rw [show X1.length = 1 by rw [HX1.out]; rfl]; intro w3 hR3 hB3))
  refine wp_loop_rounds 2 ?_
  rw [rounds_succ]
  go_wp2_with fail
  have hD3 : (World.drew w3).heap[w1.heap.size]? = some (.cells (splice Z1 0 X1).toArray 3 (0, 0)) := hR3.out
  have hc3 := zero_at hD3 HX1.out (sp_zero HX1.out)
  have hE3 := hB3.drew
  have hN3 : 1 + X1.length ≤ (splice Z1 0 X1).length := by rw [(sp_len HX1.out HZ1.out (by omega)), HX1.out]; simp
  go_region_law (refine step_copy_splice rfl (.tmp 41) (.tmp 44) 33 33 rfl 3 Try.underlying33 HSz.out (some ⟨w1.heap.size, 1, none⟩) (some ⟨w1.heap.size, 0, none⟩) 1 1 1 2 (by go_simp) (by go_simp) w1.heap.size 1 (splice Z1 0 X1) 3 hD3 X1 (by rw [HX1.out]; rfl) (fun _ => ⟨rfl, _, rfl, hc3⟩) hN3 (one_cell HX1.out) w1.heap.size w1 hE3 (Nat.le_refl _) ?_; rw [show X1.length = 1 by rw [HX1.out]; rfl]; intro w4 hR4 hB4)
  all_goals
    go_simp
    rw [rounds_succ]
    go_wp2_with fail
    go_ret
    exact ⟨rfl, by have h := hR4.out; rw [sp_2 HX1.out HZ1.out] at h; exact h, hB4⟩

set_option maxRecDepth 100000 in
set_option maxHeartbeats 1000000 in
theorem repeat_3 (g c : Nat) (x : Int) (w : World) (hx : w.cell? ⟨g, 0, none⟩ = some (.int .i64 x)) :
    Calls Try.prog 66 #[.slice (some ⟨g, 0, none⟩) 1 c, .int .i64 3] w fun e w' => e = .returned (.slice (some ⟨w.heap.size, 0, none⟩) 3 3) ∧ w'.heap[w.heap.size]? = some (.cells (List.replicate 3 (.int .i64 x)).toArray 3 (0, 0)) ∧ Below w.heap.size w w' := by
  have hw2 : IntKind.i64.wrap 2 = 2 := by decide
  have hw3 : IntKind.i64.wrap 3 = 3 := by decide
  have hM : Calls Try.prog 88 #[.int .u64 1, .int .u64 3] w fun e w' => e = .returned (.tuple #[.int .u64 0, .int .u64 3]) ∧ w' = w := by simpa using Try.bits_Mul 1 3 (by decide) (by decide) w
  have HM := Lib.hid hM
  have hgl := World.block_lt_of_cell? w _ hx
  clear hM
  obtain ⟨i0, hi, hz0, hz1, hz2⟩ := info_parts Try.infoInt
  obtain ⟨X1, hX1⟩ : ∃ X1 : List Value, X1 = [.int .i64 x] := ⟨_, rfl⟩
  have HX1 := Lib.hid hX1
  have HSz : Hid ((Try.prog.info? 3).map (·.size) = some 1) := by unfold Hid; rw [hi]; simp [hz1]
  clear hX1
  go_enter Try.func66, Try.ntmps66
  go_wp2_with fail
  refine HM.out.mono ?_
  rintro e w1 ⟨rfl, rfl⟩
  go_wp2_with (first | (at_make; refine wpList_make_full _ rfl _ _ 33 rfl w1.heap.size 3 i0 _ 1 Try.underlying33 hi hz0 hz1 _ _ _ _ 3 rfl rfl rfl rfl (by rw [hz2]; omega) (by decide) (Nat.le_refl _) ?_; intro w2 hown hgrow; obtain ⟨Z1, HZ1, hR2⟩ := own_row2 hown; have hB2 : Below w1.heap.size w1 w2 := (Below.refl _ _).grown hgrow (Nat.le_refl _) (by intro k hk; cases hk); clear hown hgrow) | (refine wpList_copy_splice (o := ⟨some 33, _, _, _, _, _⟩) rfl (.tmp 31) (.tmp 32) 33 33 rfl 3 Try.underlying33 HSz.out (some ⟨w1.heap.size, 0, none⟩) (some ⟨g, 0, none⟩) 3 3 1 c rfl rfl w1.heap.size 0 Z1 3 hR2.out X1 (by rw [HX1.out]; rfl) (fun _ => ⟨rfl, _, rfl, fun j v hj => copied hgl hB2 hx HX1.out hj⟩) (by rw [HX1.out, HZ1.out]; simp) (one_cell HX1.out) w1.heap.size w1 hB2 (Nat.le_refl _) ?_; rw [show X1.length = 1 by rw [HX1.out]; rfl]; intro w3 hR3 hB3))
  refine wp_loop_rounds 3 ?_
  rw [rounds_succ]
  go_wp2_with fail
  have hD3 : (World.drew w3).heap[w1.heap.size]? = some (.cells (splice Z1 0 X1).toArray 3 (0, 0)) := hR3.out
  have hc3 := zero_at hD3 HX1.out (sp_zero HX1.out)
  have hE3 := hB3.drew
  have hN3 : 1 + X1.length ≤ (splice Z1 0 X1).length := by rw [(sp_len HX1.out HZ1.out (by omega)), HX1.out]; simp
  go_region_law (refine step_copy_splice rfl (.tmp 41) (.tmp 44) 33 33 rfl 3 Try.underlying33 HSz.out (some ⟨w1.heap.size, 1, none⟩) (some ⟨w1.heap.size, 0, none⟩) 2 2 1 3 (by go_simp) (by go_simp) w1.heap.size 1 (splice Z1 0 X1) 3 hD3 X1 (by rw [HX1.out]; rfl) (fun _ => ⟨rfl, _, rfl, hc3⟩) hN3 (one_cell HX1.out) w1.heap.size w1 hE3 (Nat.le_refl _) ?_; rw [show X1.length = 1 by rw [HX1.out]; rfl]; intro w4 hR4 hB4)
  all_goals
    go_simp
    rw [rounds_succ]
    go_wp2_with fail
    have hD4 : (World.drew w4).heap[w1.heap.size]? = some (.cells (splice (splice Z1 0 X1) 1 X1).toArray 3 (0, 0)) := hR4.out
    have hc4 := zero_at hD4 HX1.out (sp_keep HX1.out (sp_zero HX1.out) (by omega))
    have hE4 := hB4.drew
    have hN4 : 2 + X1.length ≤ (splice (splice Z1 0 X1) 1 X1).length := by rw [(sp_len HX1.out (sp_len HX1.out HZ1.out (by omega)) (by omega)), HX1.out]; simp
    go_region_law (refine step_copy_splice rfl (.tmp 41) (.tmp 44) 33 33 rfl 3 Try.underlying33 HSz.out (some ⟨w1.heap.size, 2, none⟩) (some ⟨w1.heap.size, 0, none⟩) 1 1 2 3 (by go_simp) (by go_simp) w1.heap.size 2 (splice (splice Z1 0 X1) 1 X1) 3 hD4 X1 (by rw [HX1.out]; rfl) (fun _ => ⟨rfl, _, rfl, hc4⟩) hN4 (one_cell HX1.out) w1.heap.size w1 hE4 (Nat.le_refl _) ?_; rw [show X1.length = 1 by rw [HX1.out]; rfl]; intro w5 hR5 hB5)
    all_goals
      go_simp
      rw [rounds_succ]
      go_wp2_with fail
      go_ret
      exact ⟨rfl, by have h := hR5.out; rw [sp_3 HX1.out HZ1.out] at h; exact h, hB5⟩

end Go.Proofs.Ythgggoodceogkaa
