/-
  Contract: impl.placeOfImages of partialMap. Conditions: the bounds that it names.
-/
import Derived.Test.YtcmjkfcgekmomaaArr7
import Derived.Test.YtcmjkfcgekmomaaHomM
import Derived.Test.YtcmjkfcgekmomaaStep
import Derived.Test.YtcmjkfcgekmomaaIsAlg
import Derived.OwnWalk
namespace Go.Proofs.Ytcmjkfcgekmomaa
open Go.RowKit
set_option linter.unusedVariables false
set_option linter.unusedSimpArgs false

theorem cell_top (W : World) (g : Nat) (h : W.heap.size = g) (cs : Array Value) (ty : TypeId) (k : Nat) : (W.alloc (.cells cs ty)).cell? ⟨g, k, none⟩ = cs[k]? := by
  subst h
  rw [cell_of_row _ _ k _ _ _ (heap_alloc_new W _)]
/-- The place of the images, where no argument is open. -/
def plcV (z z1 : Int) (f : Nat → Int) (r : Nat) (at_ : Int) : Int := if openB (imgF f (digs z r at_)) = true then 0 else idxA z1 (imgF f (digs z r at_))

set_option maxHeartbeats 1000000 in
set_option maxRecDepth 100000 in
theorem place_any (z z1 : Int) (ao bo : Option Addr) (c n d m : Nat) (f : Nat → Int) (r : Nat) (at_ : Int) (w : World) (hz1 : 1 ≤ z) (hz2 : z ≤ 8) (hy1 : 1 ≤ z1) (hy2 : z1 ≤ 8) (hr : r ≤ 3) (h0 : 0 ≤ at_) (h1 : at_ ≤ 4096) (hp : Part z z1 f) :
    Calls Try.prog 132 #[.agg (arrV f), .agg #[.int .i64 z, .slice ao n c], .agg #[.int .i64 z1, .slice bo m d], .int .i64 (r : Int), .int .i64 at_] w fun e w' => e = .returned (.tuple #[.int .i64 (plcV z z1 f r at_), .bool (!openB (imgF f (digs z r at_)))]) ∧ Below w.heap.size w w' := by
  obtain ⟨w1, hw1⟩ : ∃ w1, w1 = (((w.alloc (.cells (arrV f) 53)).alloc (.cells #[.int .i64 z, .slice ao n c] 31)).alloc (.cells #[.int .i64 z1, .slice bo m d] 31)) := ⟨_, rfl⟩
  have HA : Hid (ArrAt w1 w.heap.size f) := by unfold Hid; rw [hw1]; exact ((ArrAt.new _ _).alloc _).alloc _
  have cz : w1.cell? ⟨w.heap.size + 1, 0, none⟩ = some (.int .i64 z) := by rw [hw1]; exact cell_b (below_alloc _ _) (by simp)
  have cz1 : w1.cell? ⟨w.heap.size + 1 + 1, 0, none⟩ = some (.int .i64 z1) := by rw [hw1]; exact cell_top _ _ (by simp) _ _ 0
  have HB : Hid (Below w.heap.size w w1) := by unfold Hid; rw [hw1]; exact below_then (below_then (below_alloc _ _) (below_alloc _ _)) (below_alloc _ _)
  have HP := Lib.hid hp
  clear hp
  go_enter Try.func132, Try.ntmps132
  go_wp2
  rw [← hw1]
  clear hw1
  go_loop [4, 12, 13, 16] (fun a p s i => ∃ (k : Nat) (v q t : Int), k ≤ r ∧ i = .int .i64 (k : Int) ∧ a = .int .i64 v ∧ p = .int .i64 q ∧ s = .int .i64 t ∧ 0 ≤ v ∧ v ≤ 4096 ∧ 1 ≤ t ∧ t ≤ 512 ∧ 0 ≤ q ∧ q ≤ 512 ∧ Hid (v = low z at_ k ∧ q = plF z z1 f at_ k ∧ t = powI z1 k ∧ opF z f at_ k = false)) (fun _ _ _ i => r - (intOf i).toNat)
  case atStart => exact ⟨0, at_, 0, 1, Nat.zero_le _, rfl, rfl, rfl, rfl, h0, h1, by omega, by omega, by omega, by omega, rfl, rfl, rfl, rfl⟩
  case round =>
    obtain ⟨k, v, q, t, hk, rfl, rfl, rfl, rfl, hv0, hv1, ht0, ht1, hq0, hq1, HI⟩ := hrel
    by_cases hlt : k < r
    · have hkr : (k : Int) < (r : Int) := by omega
      have hm0 : 0 ≤ v % z := Int.emod_nonneg _ (by omega)
      have hm1 : v % z < z := Int.emod_lt_of_pos v (by omega)
      have hm8 : v % z < 8 := by omega
      obtain ⟨d0, d1⟩ := digs_bd hz1 hv0
      have hne : ¬ z = 0 := by omega
      have cy := HA.out.cell (k := (v % z).toNat) (by omega)
      have hcase := HP.out (v % z).toNat (by omega)
      obtain ⟨y, hy⟩ : ∃ y, f (v % z).toNat = y := ⟨_, rfl⟩
      rw [hy] at cy hcase
      have HY := Lib.hid hy
      clear hy
      by_cases hopen : y = -1
      · subst hopen
        have HF : Hid (openB (imgF f (digs z r at_)) = true) := by
          obtain ⟨a1, _, _, _⟩ := HI.out
          exact opF_yes hlt (by rw [← a1]; exact HY.out)
        clear hcase
        go_wp2
        go_ret2
        exact ⟨by rw [plcV, HF.out, if_pos rfl]; rfl, HB.out⟩
      · obtain ⟨y0, y1⟩ : 0 ≤ y ∧ y < z1 := by rcases hcase with h | h; exact absurd h hopen; exact h
        have hN : Hid (v / z = low z at_ (k + 1) ∧ q + y * t = plF z z1 f at_ (k + 1) ∧ t * z1 = powI z1 (k + 1) ∧ opF z f at_ (k + 1) = false) := by
          obtain ⟨a1, a2, a3, a4⟩ := HI.out
          have e := HY.out
          rw [a1] at e
          exact ⟨by rw [low, a1], by rw [plF, e, a2, a3], by rw [powI, a3], opF_no a4 (by rw [e]; exact hopen)⟩
        have hb := plF_bd hz1 hy1 hy2 HP.out (i := k + 1) (by omega) hN.out.2.2.2
        have hb2 := powI_bd hy1 hy2 (k := k + 1) (by omega)
        rw [← hN.out.2.1] at hb
        rw [← hN.out.2.2.1] at hb hb2
        obtain ⟨b0, b1⟩ := hb
        obtain ⟨b2, b3⟩ := hb2
        have b4 : 0 ≤ y * t := Int.mul_nonneg y0 (by omega)
        have b5 : y * t ≤ 512 := by omega
        have b6 : q + y * t ≤ 512 := by omega
        clear hcase b1
        go_wp2
        go_round
        case rel => exact ⟨k + 1, v / z, q + y * t, t * z1, by omega, by go_num, by go_num, by go_num, by go_num, d0, by omega, b2, b3, b0, b6, hN⟩
        case measure => simp [intOf]; omega
    · obtain rfl : k = r := by omega
      have HF : Hid (openB (imgF f (digs z k at_)) = false) := by
        obtain ⟨_, _, _, a4⟩ := HI.out
        unfold Hid; rw [opF_all, a4]
      have HQ : Hid (q = plcV z z1 f k at_) := by
        obtain ⟨_, a2, _, _⟩ := HI.out
        unfold Hid; rw [plcV, HF.out, if_neg (by simp), plF_all, a2]
      go_wp2
      go_ret2
      exact ⟨by rw [HF.out, HQ.out]; rfl, HB.out⟩

end Go.Proofs.Ytcmjkfcgekmomaa
