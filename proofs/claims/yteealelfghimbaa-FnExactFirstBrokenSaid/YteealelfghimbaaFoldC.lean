/-
  Contracts: slices.Backward with its closure, and the two closures of impl.valueOfTerm. Conditions: the bounds that each theorem names.
-/
import Derived.Test.YteealelfghimbaaRange
import Derived.Test.YteealelfghimbaaLists
import Derived.RangeFuncBox
import Derived.RangeFuncLeaves
import Derived.Shelf.Abstract
import Derived.OwnWalkIn
import Derived.TacticsInMore
import Derived.LoopNIn
import Derived.LoopIn
namespace Go.Proofs.Yteealelfghimbaa
open Go.RowKit Go.Shelf
set_option linter.unusedVariables false
set_option linter.unusedSimpArgs false
attribute [local go_sem] Oper.semAt_some

/-! The closures of valueOfTerm -/
theorem leaf_any (lo hi Bv v nv cv : Nat) (vo : Option Addr) (vs : List Int) (W : World) (hc : W.cell? ⟨Bv, 0, none⟩ = some (.slice vo nv cv)) (hv : IView W lo hi vo nv vs) (h : v < nv) :
    Calls Try.prog 146 #[.int .i64 (v : Int), .pointer (some ⟨Bv, 0, none⟩)] W fun e w' => e = .returned (.int .i64 (vs.getD v 0)) ∧ w' = W := by
  obtain ⟨b, o, rfl, _, _, hcx⟩ := hv.at_ (by omega)
  obtain ⟨x, hx⟩ := get_of_lt hv.1 h
  have c0 := hcx v x hx
  rw [show vs.getD v 0 = x by rw [List.getD_eq_getElem?_getD, hx]; rfl]
  have hvn : (v : Int) < (nv : Int) := by omega
  clear hv hcx hx
  go_enter Try.func146, Try.ntmps146
  go_wp2
  go_ret
  exact ⟨rfl, rfl⟩

set_option maxHeartbeats 1000000 in
theorem node_any (lo hi lo2 hi2 Ba k n c m d : Nat) (z : Int) (ao bo : Option Addr) (fs : List OpD) (f : OpD) (xs : List Int) (W : World) (hc0 : W.cell? ⟨Ba, 0, none⟩ = some (.int .i64 z)) (hc1 : W.cell? ⟨Ba, 1, none⟩ = some (.slice ao n c))
    (hv : OView W lo hi ao n fs) (hok : algOkB z fs = true) (hf : fs[k]? = some f) (hx : IView W lo2 hi2 bo m xs) (ha : allIn z xs = true) (hl : (m : Int) = f.1) :
    Calls Try.prog 147 #[.int .i64 (k : Int), .slice bo m d, .pointer (some ⟨Ba, 0, none⟩)] W fun e w' => e = .returned (.int .i64 (atA z f xs)) ∧ ∃ q, w' = W.drewN q := by
  obtain ⟨⟨h1, h2⟩, hn4, hall⟩ := algOkB_of hok
  have hfo := hall f (List.mem_of_getElem? hf)
  have hm3 : m ≤ 3 := by have := (opOkB_of hfo).1; omega
  obtain ⟨hi0, hi1, hat⟩ := at_get h1 hfo (by rw [hx.1]; exact hl) ha
  have hkl : k < n := by rw [← hv.1]; exact (List.getElem?_eq_some_iff.1 hf).1
  obtain ⟨b, o, rfl, hbl, hb, hc⟩ := hv.at_ (by omega)
  obtain ⟨a, mt, c', _, c1, hmc, hcm, hvt⟩ := hc k f hf
  have hmt : f.2.length = mt := hvt.1
  rw [hmt] at hi1
  obtain ⟨bt, ot, rfl, _, _, hct⟩ := hvt.at_ (by omega)
  have hct2 := hct _ _ hat
  obtain ⟨i, hi⟩ : ∃ i : Nat, idxA z xs = (i : Int) := ⟨(idxA z xs).toNat, by omega⟩
  have HI := Lib.hid (fun (q : Nat) => idx_impl lo2 hi2 z bo d m xs (W.drewN q) (hx.kept (Kept.drewN W q)) h1 h2 ha hm3)
  rw [hi] at hi1 hct2 HI
  rw [Int.toNat_natCast] at hct2
  obtain ⟨v, hve⟩ : ∃ v, atA z f xs = v := ⟨_, rfl⟩
  rw [hve] at hct2 ⊢
  have hkn : (k : Int) < (n : Int) := by omega
  clear hv hok hf hx ha hl hfo hall hat hc hvt hct hi hve hn4 hi0 hmt
  go_enter Try.func147, Try.ntmps147
  go_wp2
  go_quiet ((go_at_call 148; exact quiet_left (HI.out _)))
  go_wp2
  go_ret
  exact ⟨rfl, _, rfl⟩

/-! slices.Backward -/
theorem backward_any (a : Option Addr) (m c : Nat) (w : World) :
    Calls Try.prog 142 #[.slice a m c] w fun e w' => e = .returned (.func (.func 165) #[] #[.pointer (some ⟨w.heap.size, 0, none⟩)]) ∧ w' = w.alloc (.cells #[.slice a m c] 25) := by
  have hmf : ∀ (fn : Fn) (first cap : Array Value) (w : World), (Instr.makeFunc fn first cap).run Try.prog w = .ok (.func fn first cap) w := fun _ _ _ _ => rfl
  go_enter Try.func142, Try.ntmps142
  go_wp2
  go_ret
  exact ⟨rfl, rfl⟩

/-- The values of the rounds: the index and the number, from the end. -/
def backEnc (xs : List Int) (k : Nat) : Array Value := #[.int .i64 ((xs.length - 1 - k : Nat) : Int), .int .i64 (xs.getD (xs.length - 1 - k) 0)]

set_option maxRecDepth 100000 in
set_option maxHeartbeats 2000000 in
theorem back_seq (n X B b o m c : Nat) (xs : List Int) (hl : xs.length = m) (h0 : 0 < m) (hm : m ≤ 60) (hb : b < B) (w : World) (hX : X < w.heap.size) (hB : B ≤ w.heap.size)
    (hs : w.cell? ⟨X, 0, none⟩ = some (.slice (some ⟨b, o, none⟩) m c)) (hc : ∀ j x, xs[j]? = some x → w.cell? ⟨b, o + j, none⟩ = some (.int .i64 x)) :
    SeqN Fence.wide n Try.prog 165 #[.pointer (some ⟨X, 0, none⟩)] (backEnc xs) B X m w := by
  intro l J W hW hJ hY hJ0
  have hs1 := (hW.cell (p := ⟨X, 0, none⟩) hX).trans hs
  have hc1 : ∀ j x, xs[j]? = some x → W.cell? ⟨b, o + j, none⟩ = some (.int .i64 x) := fun j x hj => (hW.cell (p := ⟨b, o + j, none⟩) (by show b < _; omega)).trans (hc j x hj)
  have HC := Lib.hid hc1
  clear hs hc hc1
  refine callsIn_of_wp Try.func165 rfl trivial ?_ rfl
  simp only [Try.ntmps165, List.size_toArray, List.length_cons, List.length_nil, Nat.reduceAdd, Nat.reduceSub, Array.replicate_succ, Array.replicate_zero, List.push_toArray, List.append_toArray, List.nil_append, List.cons_append]
  gi_wp2
  gi_loopw [3] (fun i wr => ∃ k : Nat, k ≤ m ∧ i = .int .i64 ((m : Int) - 1 - (k : Int)) ∧ J k wr ∧ Hid (Keep B X W wr)) (fun i _ => (intOf i + 1).toNat)
  case atStart => exact ⟨0, Nat.zero_le _, by simp, hJ0, Keep.refl _ _ _⟩
  case round =>
    obtain ⟨k, hk, rfl, hJk, HK⟩ := hrel
    by_cases hlt : k < m
    · obtain ⟨j, hj⟩ : ∃ j : Nat, (m : Int) - 1 - (k : Int) = (j : Int) := ⟨m - 1 - k, by omega⟩
      rw [hj]
      have hjm : j < xs.length := by omega
      have hsr : wr.cell? ⟨X, 0, none⟩ = some (.slice (some ⟨b, o, none⟩) m c) := (HK.out.cell 0).trans hs1
      have hx : xs[j]? = some (xs[j]'hjm) := List.getElem?_eq_getElem hjm
      obtain ⟨x, hxe⟩ : ∃ x, xs[j]'hjm = x := ⟨_, rfl⟩
      rw [hxe] at hx
      have cx : wr.cell? ⟨b, o + j, none⟩ = some (.int .i64 x) := (HK.out.1.cell (p := ⟨b, o + j, none⟩) (by show b < _; omega)).trans (HC.out j x hx)
      obtain ⟨fn, tmps, assign, body, hy, hR⟩ := hY k wr hlt hJk
      have henc : backEnc xs k = #[.int .i64 (j : Int), .int .i64 x] := by
        unfold backEnc
        rw [show xs.length - 1 - k = j by omega, List.getD_eq_getElem?_getD, hx]; rfl
      rw [henc] at hy
      have hjm' : (j : Int) < (m : Int) := by omega
      have hj0 : (0 : Int) ≤ (j : Int) := by omega
      have HJ := Lib.hid hj
      clear henc hx hxe hj
      gi_wp2
      refine ⟨fun h => (by cases h), ?_⟩
      refine hR.mono ?_
      rintro e W3 ⟨rfl, hJ3, hk3⟩
      have HK3 := Lib.hid (HK.out.trans hk3)
      clear hk3
      gi_wp2
      go_roundw
      case rel => exact ⟨k + 1, by omega, by have h_ := HJ.out; congr 1; omega, hJ3, HK3⟩
      case measure => have h_ := HJ.out; (simp [intOf]) <;> omega
    · obtain rfl : k = m := by omega
      have hneg : (k : Int) - 1 - (k : Int) = -1 := by omega
      rw [hneg]
      gi_wp2
      go_end0
      exact ⟨⟨_, rfl⟩, hJk⟩

end Go.Proofs.Yteealelfghimbaa
