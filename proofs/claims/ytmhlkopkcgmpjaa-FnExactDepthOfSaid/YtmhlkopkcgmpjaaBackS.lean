/-
  Contracts: slices.Backward with its closure. Conditions: the bounds that each theorem names.
-/
import Derived.Test.YtmhlkopkcgmpjaaRange
import Derived.Test.YtmhlkopkcgmpjaaLists
import Derived.RangeFuncBox
import Derived.RangeFuncLeaves
import Derived.Shelf.Abstract
import Derived.OwnWalkIn
import Derived.TacticsInMore
import Derived.LoopNIn
import Derived.LoopIn
namespace Go.Proofs.Ytmhlkopkcgmpjaa
open Go.RowKit Go.Shelf
set_option linter.unusedVariables false
set_option linter.unusedSimpArgs false
attribute [local go_sem] Oper.semAt_some

/-! slices.Backward -/
theorem backward_any (a : Option Addr) (m c : Nat) (w : World) :
    Calls Try.prog 105 #[.slice a m c] w fun e w' => e = .returned (.func (.func 114) #[] #[.pointer (some ⟨w.heap.size, 0, none⟩)]) ∧ w' = w.alloc (.cells #[.slice a m c] 25) := by
  have hmf : ∀ (fn : Fn) (first cap : Array Value) (w : World), (Instr.makeFunc fn first cap).run Try.prog w = .ok (.func fn first cap) w := fun _ _ _ _ => rfl
  go_enter Try.func105, Try.ntmps105
  go_wp2
  go_ret
  exact ⟨rfl, rfl⟩

/-- The values of the rounds: the index and the number, from the end. -/
def backEnc (xs : List Int) (k : Nat) : Array Value := #[.int .i64 ((xs.length - 1 - k : Nat) : Int), .int .i64 (xs.getD (xs.length - 1 - k) 0)]

set_option maxRecDepth 100000 in
set_option maxHeartbeats 2000000 in
theorem back_seq (n X B b o m c : Nat) (xs : List Int) (hl : xs.length = m) (h0 : 0 < m) (hm : m ≤ 60) (hb : b < B) (w : World) (hX : X < w.heap.size) (hB : B ≤ w.heap.size)
    (hs : w.cell? ⟨X, 0, none⟩ = some (.slice (some ⟨b, o, none⟩) m c)) (hc : ∀ j x, xs[j]? = some x → w.cell? ⟨b, o + j, none⟩ = some (.int .i64 x)) :
    SeqN Fence.wide n Try.prog 114 #[.pointer (some ⟨X, 0, none⟩)] (backEnc xs) B X m w := by
  intro l J W hW hJ hY hJ0
  have hs1 := (hW.cell (p := ⟨X, 0, none⟩) hX).trans hs
  have hc1 : ∀ j x, xs[j]? = some x → W.cell? ⟨b, o + j, none⟩ = some (.int .i64 x) := fun j x hj => (hW.cell (p := ⟨b, o + j, none⟩) (by show b < _; omega)).trans (hc j x hj)
  have HC := Lib.hid hc1
  clear hs hc hc1
  refine callsIn_of_wp Try.func114 rfl trivial ?_ rfl
  simp only [Try.ntmps114, List.size_toArray, List.length_cons, List.length_nil, Nat.reduceAdd, Nat.reduceSub, Array.replicate_succ, Array.replicate_zero, List.push_toArray, List.append_toArray, List.nil_append, List.cons_append]
  gi_wp2
  gi_loopw [3] (fun i wr => ∃ k : Nat, k ≤ m ∧ i = .int .i64 ((m : Int) - 1 - (k : Int)) ∧ J k wr ∧ Hid (Keep B X W wr)) (fun i _ => (intOf i + 1).toNat)
  case atStart => exact ⟨0, Nat.zero_le _, by simp, hJ0, Keep.refl _ _ _⟩
  case round =>
    obtain ⟨k, hk, rfl, hJk, HK⟩ := hrel
    by_cases hlt : k < m
    · obtain ⟨j, hj⟩ : ∃ j : Nat, (m : Int) - 1 - (k : Int) = (j : Int) := ⟨m - 1 - k, by omega⟩
      rw [hj]
      have hjm : j < xs.length := by omega
      have hsr : wr.cell? ⟨X, 0, none⟩ = some (.slice (some ⟨b, o, none⟩) m c) := (HK.out.cell 0).trans hs1
      have hx : xs[j]? = some (xs[j]'hjm) := List.getElem?_eq_getElem hjm
      obtain ⟨x, hxe⟩ : ∃ x, xs[j]'hjm = x := ⟨_, rfl⟩
      rw [hxe] at hx
      have cx : wr.cell? ⟨b, o + j, none⟩ = some (.int .i64 x) := (HK.out.1.cell (p := ⟨b, o + j, none⟩) (by show b < _; omega)).trans (HC.out j x hx)
      obtain ⟨fn, tmps, assign, body, hy, hR⟩ := hY k wr hlt hJk
      have henc : backEnc xs k = #[.int .i64 (j : Int), .int .i64 x] := by
        unfold backEnc
        rw [show xs.length - 1 - k = j by omega, List.getD_eq_getElem?_getD, hx]; rfl
      rw [henc] at hy
      have hjm' : (j : Int) < (m : Int) := by omega
      have hj0 : (0 : Int) ≤ (j : Int) := by omega
      have HJ := Lib.hid hj
      clear henc hx hxe hj
      gi_wp2
      refine ⟨fun h => (by cases h), ?_⟩
      refine hR.mono ?_
      rintro e W3 ⟨rfl, hJ3, hk3⟩
      have HK3 := Lib.hid (HK.out.trans hk3)
      clear hk3
      gi_wp2
      go_roundw
      case rel => exact ⟨k + 1, by omega, by have h_ := HJ.out; congr 1; omega, hJ3, HK3⟩
      case measure => have h_ := HJ.out; (simp [intOf]) <;> omega
    · obtain rfl : k = m := by omega
      have hneg : (k : Int) - 1 - (k : Int) = -1 := by omega
      rw [hneg]
      gi_wp2
      go_end0
      exact ⟨⟨_, rfl⟩, hJk⟩

end Go.Proofs.Ytmhlkopkcgmpjaa
