/-
  Contracts: spec.l2Args and impl.argsOfIndex: the list of arguments that stands at a place of a table. Conditions: the bounds that each theorem names.
-/
import Derived.Test.YtcmjkfcgekmomaaDigM
import Derived.Test.YtcmjkfcgekmomaaIdx
import Derived.Test.YtcmjkfcgekmomaaIsAlg
import Derived.Test.YtcmjkfcgekmomaaStep
namespace Go.Proofs.Ytcmjkfcgekmomaa
open Go.RowKit
set_option linter.unusedVariables false
set_option linter.unusedSimpArgs false

set_option maxHeartbeats 400000 in
theorem argsImpl_0 (z at_ : Int) (w : World) (hz1 : 1 ≤ z) (hz2 : z ≤ 8) (h0 : 0 ≤ at_) (h1 : at_ ≤ 4096) :
    Calls Try.prog 111 #[.int .i64 z, .int .i64 0, .int .i64 at_] w fun e w' => e = .returned (.slice (some ⟨w.heap.size, 0, none⟩) 0 0) ∧ w' = w.alloc (.cells (digsArr z 0 at_) 3) := by
  have hmk : ∀ w, (Instr.makeSlice 25 (.int .i64 0) (.int .i64 0)).run Try.prog w = .ok (.slice (some ⟨w.heap.size, 0, none⟩) 0 0) (w.alloc (.cells #[] 3)) := fun _ => by kernel_rfl
  have a1 := digs_bd hz1 h0
  have a2 := digs_bd hz1 a1.1
  have a3 := digs_bd hz1 a2.1
  obtain ⟨p0, p1⟩ := a1
  obtain ⟨p2, p3⟩ := a2
  obtain ⟨p4, p5⟩ := a3
  have hzp : 0 < z := by omega
  simp only [digsArr, digs, List.map_append, List.map_cons, List.map_nil, List.nil_append, List.cons_append]
  go_enter Try.func111, Try.ntmps111
  go_wp2
  refine wp_loop_rounds 1 ?_
  rw [rounds_succ]
  go_wp2
  go_ret
  exact ⟨rfl, by simp⟩

set_option maxHeartbeats 400000 in
theorem argsImpl_1 (z at_ : Int) (w : World) (hz1 : 1 ≤ z) (hz2 : z ≤ 8) (h0 : 0 ≤ at_) (h1 : at_ ≤ 4096) :
    Calls Try.prog 111 #[.int .i64 z, .int .i64 1, .int .i64 at_] w fun e w' => e = .returned (.slice (some ⟨w.heap.size, 0, none⟩) 1 1) ∧ w' = w.alloc (.cells (digsArr z 1 at_) 3) := by
  have hmk : ∀ w, (Instr.makeSlice 25 (.int .i64 1) (.int .i64 1)).run Try.prog w = .ok (.slice (some ⟨w.heap.size, 0, none⟩) 1 1) (w.alloc (.cells #[.int .i64 0] 3)) := fun _ => by kernel_rfl
  have a1 := digs_bd hz1 h0
  have a2 := digs_bd hz1 a1.1
  have a3 := digs_bd hz1 a2.1
  obtain ⟨p0, p1⟩ := a1
  obtain ⟨p2, p3⟩ := a2
  obtain ⟨p4, p5⟩ := a3
  have hzp : 0 < z := by omega
  simp only [digsArr, digs, List.map_append, List.map_cons, List.map_nil, List.nil_append, List.cons_append]
  go_enter Try.func111, Try.ntmps111
  go_wp2
  refine wp_loop_rounds 2 ?_
  rw [rounds_succ]
  go_wp2
  rw [rounds_succ]
  go_wp2
  go_ret
  exact ⟨rfl, by simp⟩

set_option maxHeartbeats 400000 in
theorem argsImpl_2 (z at_ : Int) (w : World) (hz1 : 1 ≤ z) (hz2 : z ≤ 8) (h0 : 0 ≤ at_) (h1 : at_ ≤ 4096) :
    Calls Try.prog 111 #[.int .i64 z, .int .i64 2, .int .i64 at_] w fun e w' => e = .returned (.slice (some ⟨w.heap.size, 0, none⟩) 2 2) ∧ w' = w.alloc (.cells (digsArr z 2 at_) 3) := by
  have hmk : ∀ w, (Instr.makeSlice 25 (.int .i64 2) (.int .i64 2)).run Try.prog w = .ok (.slice (some ⟨w.heap.size, 0, none⟩) 2 2) (w.alloc (.cells #[.int .i64 0, .int .i64 0] 3)) := fun _ => by kernel_rfl
  have a1 := digs_bd hz1 h0
  have a2 := digs_bd hz1 a1.1
  have a3 := digs_bd hz1 a2.1
  obtain ⟨p0, p1⟩ := a1
  obtain ⟨p2, p3⟩ := a2
  obtain ⟨p4, p5⟩ := a3
  have hzp : 0 < z := by omega
  simp only [digsArr, digs, List.map_append, List.map_cons, List.map_nil, List.nil_append, List.cons_append]
  go_enter Try.func111, Try.ntmps111
  go_wp2
  refine wp_loop_rounds 3 ?_
  rw [rounds_succ]
  go_wp2
  rw [rounds_succ]
  go_wp2
  rw [rounds_succ]
  go_wp2
  go_ret
  exact ⟨rfl, by simp⟩

set_option maxHeartbeats 400000 in
theorem argsImpl_3 (z at_ : Int) (w : World) (hz1 : 1 ≤ z) (hz2 : z ≤ 8) (h0 : 0 ≤ at_) (h1 : at_ ≤ 4096) :
    Calls Try.prog 111 #[.int .i64 z, .int .i64 3, .int .i64 at_] w fun e w' => e = .returned (.slice (some ⟨w.heap.size, 0, none⟩) 3 3) ∧ w' = w.alloc (.cells (digsArr z 3 at_) 3) := by
  have hmk : ∀ w, (Instr.makeSlice 25 (.int .i64 3) (.int .i64 3)).run Try.prog w = .ok (.slice (some ⟨w.heap.size, 0, none⟩) 3 3) (w.alloc (.cells #[.int .i64 0, .int .i64 0, .int .i64 0] 3)) := fun _ => by kernel_rfl
  have a1 := digs_bd hz1 h0
  have a2 := digs_bd hz1 a1.1
  have a3 := digs_bd hz1 a2.1
  obtain ⟨p0, p1⟩ := a1
  obtain ⟨p2, p3⟩ := a2
  obtain ⟨p4, p5⟩ := a3
  have hzp : 0 < z := by omega
  simp only [digsArr, digs, List.map_append, List.map_cons, List.map_nil, List.nil_append, List.cons_append]
  go_enter Try.func111, Try.ntmps111
  go_wp2
  refine wp_loop_rounds 4 ?_
  rw [rounds_succ]
  go_wp2
  rw [rounds_succ]
  go_wp2
  rw [rounds_succ]
  go_wp2
  rw [rounds_succ]
  go_wp2
  go_ret
  exact ⟨rfl, by simp⟩

/-- The digits in a block of the call's own, and nothing else has turned. -/
theorem argsImpl_any (z at_ : Int) (m : Nat) (hm : m ≤ 3) (w : World) (hz1 : 1 ≤ z) (hz2 : z ≤ 8) (h0 : 0 ≤ at_) (h1 : at_ ≤ 4096) :
    Calls Try.prog 111 #[.int .i64 z, .int .i64 (m : Int), .int .i64 at_] w fun e w' => e = .returned (.slice (some ⟨w.heap.size, 0, none⟩) m m) ∧ w' = w.alloc (.cells (digsArr z m at_) 3) := by
  match m, hm with
  | 0, _ => exact argsImpl_0 z at_ w hz1 hz2 h0 h1
  | 1, _ => exact argsImpl_1 z at_ w hz1 hz2 h0 h1
  | 2, _ => exact argsImpl_2 z at_ w hz1 hz2 h0 h1
  | 3, _ => exact argsImpl_3 z at_ w hz1 hz2 h0 h1
  | m + 4, h => omega

set_option maxHeartbeats 400000 in
theorem argsSpec_0 (z at_ : Int) (w : World) (hz1 : 1 ≤ z) (hz2 : z ≤ 8) (h0 : 0 ≤ at_) (h1 : at_ ≤ 4096) :
    Calls Try.prog 103 #[.int .i64 z, .int .i64 0, .int .i64 at_] w fun e w' => e = .returned (.slice (some ⟨w.heap.size, 0, none⟩) 0 0) ∧ w' = w.alloc (.cells (digsArr z 0 at_) 3) := by
  have hmk : ∀ w, (Instr.makeSlice 25 (.int .i64 0) (.int .i64 0)).run Try.prog w = .ok (.slice (some ⟨w.heap.size, 0, none⟩) 0 0) (w.alloc (.cells #[] 3)) := fun _ => by kernel_rfl
  have a1 := digs_bd hz1 h0
  have a2 := digs_bd hz1 a1.1
  have a3 := digs_bd hz1 a2.1
  obtain ⟨p0, p1⟩ := a1
  obtain ⟨p2, p3⟩ := a2
  obtain ⟨p4, p5⟩ := a3
  have hzp : 0 < z := by omega
  simp only [digsArr, digs, List.map_append, List.map_cons, List.map_nil, List.nil_append, List.cons_append]
  go_enter Try.func103, Try.ntmps103
  go_wp2
  refine wp_loop_rounds 1 ?_
  rw [rounds_succ]
  go_wp2
  go_ret
  exact ⟨rfl, by simp⟩

set_option maxHeartbeats 400000 in
theorem argsSpec_1 (z at_ : Int) (w : World) (hz1 : 1 ≤ z) (hz2 : z ≤ 8) (h0 : 0 ≤ at_) (h1 : at_ ≤ 4096) :
    Calls Try.prog 103 #[.int .i64 z, .int .i64 1, .int .i64 at_] w fun e w' => e = .returned (.slice (some ⟨w.heap.size, 0, none⟩) 1 1) ∧ w' = w.alloc (.cells (digsArr z 1 at_) 3) := by
  have hmk : ∀ w, (Instr.makeSlice 25 (.int .i64 1) (.int .i64 1)).run Try.prog w = .ok (.slice (some ⟨w.heap.size, 0, none⟩) 1 1) (w.alloc (.cells #[.int .i64 0] 3)) := fun _ => by kernel_rfl
  have a1 := digs_bd hz1 h0
  have a2 := digs_bd hz1 a1.1
  have a3 := digs_bd hz1 a2.1
  obtain ⟨p0, p1⟩ := a1
  obtain ⟨p2, p3⟩ := a2
  obtain ⟨p4, p5⟩ := a3
  have hzp : 0 < z := by omega
  simp only [digsArr, digs, List.map_append, List.map_cons, List.map_nil, List.nil_append, List.cons_append]
  go_enter Try.func103, Try.ntmps103
  go_wp2
  refine wp_loop_rounds 2 ?_
  rw [rounds_succ]
  go_wp2
  rw [rounds_succ]
  go_wp2
  go_ret
  exact ⟨rfl, by simp⟩

set_option maxHeartbeats 400000 in
theorem argsSpec_2 (z at_ : Int) (w : World) (hz1 : 1 ≤ z) (hz2 : z ≤ 8) (h0 : 0 ≤ at_) (h1 : at_ ≤ 4096) :
    Calls Try.prog 103 #[.int .i64 z, .int .i64 2, .int .i64 at_] w fun e w' => e = .returned (.slice (some ⟨w.heap.size, 0, none⟩) 2 2) ∧ w' = w.alloc (.cells (digsArr z 2 at_) 3) := by
  have hmk : ∀ w, (Instr.makeSlice 25 (.int .i64 2) (.int .i64 2)).run Try.prog w = .ok (.slice (some ⟨w.heap.size, 0, none⟩) 2 2) (w.alloc (.cells #[.int .i64 0, .int .i64 0] 3)) := fun _ => by kernel_rfl
  have a1 := digs_bd hz1 h0
  have a2 := digs_bd hz1 a1.1
  have a3 := digs_bd hz1 a2.1
  obtain ⟨p0, p1⟩ := a1
  obtain ⟨p2, p3⟩ := a2
  obtain ⟨p4, p5⟩ := a3
  have hzp : 0 < z := by omega
  simp only [digsArr, digs, List.map_append, List.map_cons, List.map_nil, List.nil_append, List.cons_append]
  go_enter Try.func103, Try.ntmps103
  go_wp2
  refine wp_loop_rounds 3 ?_
  rw [rounds_succ]
  go_wp2
  rw [rounds_succ]
  go_wp2
  rw [rounds_succ]
  go_wp2
  go_ret
  exact ⟨rfl, by simp⟩

set_option maxHeartbeats 400000 in
theorem argsSpec_3 (z at_ : Int) (w : World) (hz1 : 1 ≤ z) (hz2 : z ≤ 8) (h0 : 0 ≤ at_) (h1 : at_ ≤ 4096) :
    Calls Try.prog 103 #[.int .i64 z, .int .i64 3, .int .i64 at_] w fun e w' => e = .returned (.slice (some ⟨w.heap.size, 0, none⟩) 3 3) ∧ w' = w.alloc (.cells (digsArr z 3 at_) 3) := by
  have hmk : ∀ w, (Instr.makeSlice 25 (.int .i64 3) (.int .i64 3)).run Try.prog w = .ok (.slice (some ⟨w.heap.size, 0, none⟩) 3 3) (w.alloc (.cells #[.int .i64 0, .int .i64 0, .int .i64 0] 3)) := fun _ => by kernel_rfl
  have a1 := digs_bd hz1 h0
  have a2 := digs_bd hz1 a1.1
  have a3 := digs_bd hz1 a2.1
  obtain ⟨p0, p1⟩ := a1
  obtain ⟨p2, p3⟩ := a2
  obtain ⟨p4, p5⟩ := a3
  have hzp : 0 < z := by omega
  simp only [digsArr, digs, List.map_append, List.map_cons, List.map_nil, List.nil_append, List.cons_append]
  go_enter Try.func103, Try.ntmps103
  go_wp2
  refine wp_loop_rounds 4 ?_
  rw [rounds_succ]
  go_wp2
  rw [rounds_succ]
  go_wp2
  rw [rounds_succ]
  go_wp2
  rw [rounds_succ]
  go_wp2
  go_ret
  exact ⟨rfl, by simp⟩

/-- The digits in a block of the call's own, and nothing else has turned. -/
theorem argsSpec_any (z at_ : Int) (m : Nat) (hm : m ≤ 3) (w : World) (hz1 : 1 ≤ z) (hz2 : z ≤ 8) (h0 : 0 ≤ at_) (h1 : at_ ≤ 4096) :
    Calls Try.prog 103 #[.int .i64 z, .int .i64 (m : Int), .int .i64 at_] w fun e w' => e = .returned (.slice (some ⟨w.heap.size, 0, none⟩) m m) ∧ w' = w.alloc (.cells (digsArr z m at_) 3) := by
  match m, hm with
  | 0, _ => exact argsSpec_0 z at_ w hz1 hz2 h0 h1
  | 1, _ => exact argsSpec_1 z at_ w hz1 hz2 h0 h1
  | 2, _ => exact argsSpec_2 z at_ w hz1 hz2 h0 h1
  | 3, _ => exact argsSpec_3 z at_ w hz1 hz2 h0 h1
  | m + 4, h => omega

end Go.Proofs.Ytcmjkfcgekmomaa
