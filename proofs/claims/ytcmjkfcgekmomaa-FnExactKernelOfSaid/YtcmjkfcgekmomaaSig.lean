/-
  Contract: impl.signatureOf: the type of an algebra as one value. Conditions: the bounds that each theorem names.
-/
import Derived.Test.YtcmjkfcgekmomaaType
namespace Go.Proofs.Ytcmjkfcgekmomaa
open Go.RowKit
set_option linter.unusedVariables false
set_option linter.unusedSimpArgs false

def sg (fs : List OpD) (k j : Nat) : Int := if j < k then (fs.getD j (0, [])).1 else 0
theorem sg_zero (fs : List OpD) (j : Nat) : sg fs 0 j = 0 := by simp [sg]
theorem sg_same {fs : List OpD} {k : Nat} {f : OpD} (h : fs[k]? = some f) : sg fs (k + 1) k = f.1 := by
  simp [sg, List.getD_eq_getElem?_getD, h]
theorem sg_other {fs : List OpD} {k j : Nat} (h : j ≠ k) : sg fs (k + 1) j = sg fs k j := by
  unfold sg
  by_cases h1 : j < k
  · rw [if_pos (by omega), if_pos h1]
  · rw [if_neg (by omega), if_neg h1]

theorem sig_cell {wr : World} {B k j : Nat} {fs : List OpD} {f : OpD} {u : Value} (ob : Obj) (hs : B < wr.heap.size) (hf : fs[k]? = some f) (hu : wr.cell? ⟨B, 1 + k, none⟩ = some u) (h : wr.cell? ⟨B, 1 + j, none⟩ = some (.int .i64 (sg fs k j))) :
    ((wr.setCell ⟨B, 1 + k, none⟩ (.int .i64 f.1)).alloc ob).cell? ⟨B, 1 + j, none⟩ = some (.int .i64 (sg fs (k + 1) j)) := by
  rw [World.cell?_alloc_lt _ _ _ (by simpa [World.setCell] using hs)]
  by_cases hj : j = k
  · subst hj
    rw [sg_same hf]
    exact World.cell?_setCell_same _ _ _ hu
  · rw [sg_other hj]
    rw [World.cell?_setCell_other _ _ _ _ (by intro e; injection e with _ e2; omega)]
    exact h

theorem blk_cell {w : World} {B : Nat} {cs : Array Value} {ty : TypeId} (h : w.heap[B]? = some (.cells cs ty (0, 0))) (j : Nat) : w.cell? ⟨B, j, none⟩ = cs[j]? := cell_of_row w B j cs ty (0, 0) h
theorem blk_frozen {w : World} {B : Nat} {cs : Array Value} {ty : TypeId} (h : w.heap[B]? = some (.cells cs ty (0, 0))) (j : Nat) : w.frozen? ⟨B, j, none⟩ = false := by simp [World.frozen?, h]

set_option maxHeartbeats 1000000 in
theorem sig_any (lo hi : Nat) (z : Int) (ao : Option Addr) (c n : Nat) (fs : List OpD) (w : World) (hv : OView w lo hi ao n fs) (hhi : hi ≤ w.heap.size) (hn : n ≤ 4) :
    Calls Try.prog 151 #[.agg #[.int .i64 z, .slice ao n c]] w fun e w' => e = .returned (.agg #[.int .i64 (n : Int), .int .i64 (sg fs n 0), .int .i64 (sg fs n 1), .int .i64 (sg fs n 2), .int .i64 (sg fs n 3)]) ∧ Below w.heap.size w w' := by
  have HV := Lib.hid hv
  have hB := ((Below.refl w.heap.size w).alloc (Nat.le_refl _) (.cells #[.int .i64 z, .slice ao n c] 31))
  clear hv
  go_enter Try.func151, Try.ntmps151
  go_wp2_with fail
  have hB3 := Lib.hid ((hB.alloc (by simp) (.cells #[.int .i64 0, .int .i64 0, .int .i64 0, .int .i64 0, .int .i64 0] 136)).alloc (by simp; omega) (.cells #[.int .i64 (n : Int), .int .i64 0, .int .i64 0, .int .i64 0, .int .i64 0] 136))
  have hBk : Hid ((((w.alloc (.cells #[.int .i64 z, .slice ao n c] 31)).alloc (.cells #[.int .i64 0, .int .i64 0, .int .i64 0, .int .i64 0, .int .i64 0] 136)).alloc (.cells #[.int .i64 (n : Int), .int .i64 0, .int .i64 0, .int .i64 0, .int .i64 0] 136)).heap[w.heap.size + 1]? = some (.cells #[.int .i64 0, .int .i64 0, .int .i64 0, .int .i64 0, .int .i64 0] 136 (0, 0))) := by
    unfold Hid
    rw [Below.heap_alloc _ _ _ (by simp)]
    have h := heap_alloc_new (w.alloc (.cells #[.int .i64 z, .slice ao n c] 31)) (.cells #[.int .i64 0, .int .i64 0, .int .i64 0, .int .i64 0, .int .i64 0] 136)
    rw [World.size_alloc] at h
    exact h
  clear hB
  go_loopw [4, 5, 13] (fun s4 s5 i wr => ∃ k : Nat, k ≤ n ∧ i = .int .i64 (k : Int) ∧ Hid (Below w.heap.size w wr) ∧ wr.cell? ⟨w.heap.size + 1 + 1, 0, none⟩ = some (.int .i64 (n : Int)) ∧ wr.cell? ⟨w.heap.size + 1 + 1, 1, none⟩ = some (.int .i64 (sg fs k 0)) ∧ wr.cell? ⟨w.heap.size + 1 + 1, 2, none⟩ = some (.int .i64 (sg fs k 1)) ∧ wr.cell? ⟨w.heap.size + 1 + 1, 3, none⟩ = some (.int .i64 (sg fs k 2)) ∧ wr.cell? ⟨w.heap.size + 1 + 1, 4, none⟩ = some (.int .i64 (sg fs k 3)) ∧ (∀ j, wr.frozen? ⟨w.heap.size + 1 + 1, j, none⟩ = false) ∧ w.heap.size + 1 + 1 < wr.heap.size ∧ Hid (wr.heap[w.heap.size + 1]? = some (.cells #[.int .i64 0, .int .i64 0, .int .i64 0, .int .i64 0, .int .i64 0] 136 (0, 0)))) (fun _ _ i _ => n - (intOf i).toNat)
  case atStart => exact ⟨0, Nat.zero_le _, rfl, hB3.out, by go_simp, by rw [sg_zero]; go_simp, by rw [sg_zero]; go_simp, by rw [sg_zero]; go_simp, by rw [sg_zero]; go_simp, fun j => by go_simp, by simp, hBk.out⟩
  case round =>
    obtain ⟨k, hk, rfl, HB, d0, d1, d2, d3, d4, df, hs, HK⟩ := hrel
    by_cases hlt : k < n
    · obtain ⟨b, o, rfl, _, hb, hc⟩ := HV.out.at_ (by omega)
      obtain ⟨f, hf⟩ := get_of_lt HV.out.1 hlt
      obtain ⟨a, m, c', c0, c1, _, _, _⟩ := hc k f hf
      have e0 : wr.cell? ⟨b, o + k * 2, none⟩ = some (.int .i64 f.1) := (HB.out.cell (p := ⟨b, _, none⟩) (by show b < _; omega)).trans c0
      have e1 : wr.cell? ⟨b, o + k * 2 + 1, none⟩ = some (.slice a m c') := (HB.out.cell (p := ⟨b, _, none⟩) (by show b < _; omega)).trans c1
      have HF := Lib.hid hf
      clear hc c0 c1 hf
      obtain ⟨u, hu⟩ : ∃ u, wr.cell? ⟨w.heap.size + 1 + 1, 1 + k, none⟩ = some u := by
        have h4 : k = 0 ∨ k = 1 ∨ k = 2 ∨ k = 3 := by omega
        rcases h4 with rfl | rfl | rfl | rfl
        · exact ⟨_, d1⟩
        · exact ⟨_, d2⟩
        · exact ⟨_, d3⟩
        · exact ⟨_, d4⟩
      have hfk := df (1 + k)
      have D := Lib.hid (And.intro d1 (And.intro d2 (And.intro d3 d4)))
      have DF := Lib.hid df
      clear d1 d2 d3 d4 df
      go_wp2_with fail
      have hs1 : w.heap.size + 1 + 1 < (wr.setCell ⟨w.heap.size + 1 + 1, 1 + k, none⟩ (.int .i64 f.1)).heap.size := by simpa [World.setCell] using hs
      go_roundw
      case rel =>
        refine ⟨k + 1, by omega, by go_num, (HB.out.setCell (by show _ ≤ _; simp; omega) _).alloc (by have := HB.out.size; simpa [World.setCell] using this) _, ?_, sig_cell (j := 0) _ hs HF.out hu D.out.1, sig_cell (j := 1) _ hs HF.out hu D.out.2.1, sig_cell (j := 2) _ hs HF.out hu D.out.2.2.1, sig_cell (j := 3) _ hs HF.out hu D.out.2.2.2, fun j => ?_, by simp only [World.size_alloc]; omega, ?_⟩
        · rw [World.cell?_alloc_lt _ _ _ hs1, World.cell?_setCell_other _ _ _ _ (by intro e; injection e with _ e2; omega)]
          exact d0
        · rw [World.frozen?_alloc_old _ _ _ (Nat.ne_of_lt hs1), World.frozen?_setCell]
          exact DF.out j
        · unfold Hid
          rw [Below.heap_alloc _ _ _ (by omega), Below.heap_setCell _ _ _ _ (by show _ ≠ w.heap.size + 1 + 1; omega)]
          exact HK.out
      case measure => simp [intOf]; omega
    · obtain rfl : k = n := by omega
      have r0 := blk_cell HK.out 0
      have r1 := blk_cell HK.out 1
      have r2 := blk_cell HK.out 2
      have r3 := blk_cell HK.out 3
      have r4 := blk_cell HK.out 4
      have rf := blk_frozen HK.out
      simp at r0 r1 r2 r3 r4
      go_wp2_with fail
      refine bodyPost_ret (v := .agg #[.int .i64 (k : Int), .int .i64 (sg fs k 0), .int .i64 (sg fs k 1), .int .i64 (sg fs k 2), .int .i64 (sg fs k 3)]) (by simp [results, Try.results151, go_sem, r0, r1, r2, r3, r4]) rfl ⟨rfl, ?_⟩
      exact ((((HB.out.setCell (by show _ ≤ _; simp) _).setCell (by show _ ≤ _; simp) _).setCell (by show _ ≤ _; simp) _).setCell (by show _ ≤ _; simp) _).setCell (by show _ ≤ _; simp) _

end Go.Proofs.Ytcmjkfcgekmomaa
