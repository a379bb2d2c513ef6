/-
  Contracts: impl.isLength, both Diagonal. Conditions: the bounds that each theorem names.
-/
import Derived.Test.YtfdolbpbddjhmaaRepG
import Derived.Test.YtfdolbpbddjhmaaType
import Derived.Test.YtfdolbpbddjhmaaIsAlg
import Derived.Test.YtfdolbpbddjhmaaPushN
import Derived.Test.YtfdolbpbddjhmaaLLr
import Derived.Test.YtfdolbpbddjhmaaLL
namespace Go.Proofs.Ytfdolbpbddjhmaa
open Go.RowKit
set_option linter.unusedVariables false
set_option linter.unusedSimpArgs false

theorem isLen_any (n : Int) (w : World) :
    Calls Try.prog 69 #[.int .i64 n] w fun e w' => e = .returned (.bool (inB 1 64 n)) ∧ w = w' := by
  by_cases h1 : 1 ≤ n
  · by_cases h2 : n ≤ 64
    · rw [inB_yes h1 h2]
      go_enter Try.func69, Try.ntmps69
      go_wp2
      go_ret
      exact ⟨rfl, rfl⟩
    · rw [inB_no (by omega)]
      go_enter Try.func69, Try.ntmps69
      go_wp2
      go_ret
      exact ⟨rfl, rfl⟩
  · rw [inB_no (by omega)]
    go_enter Try.func69, Try.ntmps69
    go_wp2
    go_ret
    exact ⟨rfl, rfl⟩

def diaF (K : Nat) (j : Nat) : List Int := List.replicate K (j : Int)
def diaL (K Z : Nat) : List (List Int) := (List.range Z).map (diaF K)
theorem diaL_get {K Z j : Nat} (h : j < Z) : (diaL K Z).getD j [] = diaF K j := by simp [diaL, List.getD_eq_getElem?_getD, h]
theorem diaL_len (K Z : Nat) : (diaL K Z).length = Z := by simp [diaL]
def valDiagonal (z : Int) (fs : List OpD) (k : Int) : List (List Int) × Bool := if algOkB z fs && inB 1 64 k then (diaL k.toNat z.toNat, true) else ([], false)
theorem lsum_dia (K Z : Nat) : lsum (diaL K Z) = Z * (K + 1) ∨ lsum (diaL K Z) ≤ Z * (K + 1) := by
  right
  induction Z with
  | zero => simp [diaL, lsum]
  | succ Z ih =>
    have h : diaL K (Z + 1) = diaL K Z ++ [diaF K Z] := by simp [diaL, List.range_succ]
    rw [h]
    simp [lsum, diaF, List.map_append, List.sum_append] at ih ⊢
    rw [Nat.add_mul]
    omega
theorem smallDiagonal (z : Int) (fs : List OpD) (k : Int) : (valDiagonal z fs k).1.length + lsum (valDiagonal z fs k).1 ≤ 4194304 := by
  unfold valDiagonal
  split
  · rename_i h
    simp only [Bool.and_eq_true, inB, decide_eq_true_eq] at h
    obtain ⟨ha, hk⟩ := h
    obtain ⟨⟨a, b⟩, _, _⟩ := algOkB_of ha
    have h1 : lsum (diaL k.toNat z.toNat) ≤ z.toNat * (k.toNat + 1) := by rcases lsum_dia k.toNat z.toNat with h | h <;> omega
    have h2 : z.toNat * (k.toNat + 1) ≤ 8 * 65 := Nat.mul_le_mul (by omega) (by omega)
    show (diaL k.toNat z.toNat).length + lsum (diaL k.toNat z.toNat) ≤ 4194304
    rw [diaL_len]
    omega
  · simp [lsum]
theorem rep_row {w : World} {B g K : Nat} {x : Int} (hB : B ≤ g) (hK : K ≤ 64) (h : w.heap[g]? = some (.cells (List.replicate K (Value.int .i64 x)).toArray 3 (0, 0))) : w.ownsRow B 3 1 (.slice (addrO (some g)) K K) K ((List.replicate K x).map (Value.int .i64)) := by
  refine ⟨by simp, .inr ⟨g, K, (List.replicate K (Value.int .i64 x)).toArray, rfl, hB, h, Nat.le_refl _, ?_, by simp, ?_⟩⟩
  · unfold maxLen; omega
  · simp

set_option maxRecDepth 100000 in
set_option maxHeartbeats 4000000 in
theorem implDiagonal (lo hi : Nat) (z : Int) (ao : Option Addr) (c n : Nat) (fs : List OpD) (k : Int) (w : World) (hv : OView w lo hi ao n fs) (hhi : hi ≤ w.heap.size) (hs : ∀ (j : Nat) (f : OpD), fs[j]? = some f → f.2.length ≤ maxLen) (hwf : (Lit.int .i64 k).wf = true) :
    Calls Try.prog 32 #[.agg #[.int .i64 z, .slice ao n c], .int .i64 k] w fun e w' => ResS w w' (valDiagonal z fs k).1 (valDiagonal z fs k).2 e := by
  have hB := below_alloc w (.cells #[.int .i64 z, .slice ao n c] 28)
  have HB := Lib.hid hB
  have hG := isAlg_any lo hi z ao c n fs _ (hv.kept (Kept.of_below hB hhi)) (Nat.le_trans hhi hB.size) hs
  obtain ⟨t, ht⟩ : ∃ t, algOkB z fs = t := ⟨_, rfl⟩
  rw [ht] at hG
  have HG := Lib.hid hG
  have cz0 : (w.alloc (.cells #[.int .i64 z, .slice ao n c] 28)).cell? ⟨w.heap.size, 0, none⟩ = some (.int .i64 z) := by simp
  have HL := Lib.hid (fun W => isLen_any k W)
  cases t with
  | false =>
    rw [show valDiagonal z fs k = ([], false) by simp [valDiagonal, ht]]
    clear hG hB hs hv ht cz0
    go_enter Try.func32, Try.ntmps32
    go_wp2_with fail
    refine HG.out.mono ?_
    rintro e w1 ⟨rfl, b1⟩
    have HB1 := Lib.hid (HB.out.trans (b1.mono HB.out.size))
    clear b1
    go_wp2_with fail
    go_ret2
    unfold ResS
    obtain ⟨G, C, h⟩ := BuiltL.nil w1 w.heap.size (fun j => ([] : List (List Int)).getD j [])
    exact ⟨none, 0, 0, G, C, rfl, rfl, h, HB1.out⟩
  | true =>
    obtain ⟨⟨z1, z8⟩, _, _⟩ := algOkB_of ht
    obtain ⟨t2, ht2⟩ : ∃ t, inB 1 64 k = t := ⟨_, rfl⟩
    rw [ht2] at HL
    cases t2 with
    | false =>
      rw [show valDiagonal z fs k = ([], false) by simp [valDiagonal, ht2]]
      clear hG hB hs hv ht cz0 ht2
      go_enter Try.func32, Try.ntmps32
      go_wp2_with fail
      refine HG.out.mono ?_
      rintro e w1 ⟨rfl, b1⟩
      have HB1 := Lib.hid (HB.out.trans (b1.mono HB.out.size))
      clear b1
      go_wp2_with fail
      refine (HL.out _).mono ?_
      rintro e w2 ⟨rfl, rfl⟩
      go_wp2_with fail
      go_ret2
      unfold ResS
      obtain ⟨G, C, h⟩ := BuiltL.nil w1 w.heap.size (fun j => ([] : List (List Int)).getD j [])
      exact ⟨none, 0, 0, G, C, rfl, rfl, h, HB1.out⟩
    | true =>
      obtain ⟨K, rfl⟩ : ∃ K : Nat, k = (K : Int) := ⟨k.toNat, by simp [inB] at ht2; omega⟩
      obtain ⟨Z, rfl⟩ : ∃ Z : Nat, z = (Z : Int) := ⟨z.toNat, by omega⟩
      have hK1 : 1 ≤ K := by simp [inB] at ht2; omega
      have hK64 : K ≤ 64 := by simp [inB] at ht2; omega
      rw [show valDiagonal (Z : Int) fs (K : Int) = (diaL K Z, true) by simp [valDiagonal, ht, ht2]]
      obtain ⟨j0, hj0, hy0, hy1, hy2⟩ := info_parts Try.infoInts
      have HR := Lib.hid (fun (g cc : Nat) (x : Int) (W : World) (hx : W.cell? ⟨g, 0, none⟩ = some (.int .i64 x)) => repeatN_any g cc K x W hx hK1 hK64)
      clear hG hB hs hv ht ht2
      go_enter Try.func32, Try.ntmps32
      go_wp2_with fail
      refine HG.out.mono ?_
      rintro e w1 ⟨rfl, b1⟩
      have HB1 := Lib.hid (HB.out.trans (b1.mono HB.out.size))
      have cz : w1.cell? ⟨w.heap.size, 0, none⟩ = some (.int .i64 (Z : Int)) := cell_b b1 cz0
      clear b1 cz0
      go_wp2_with fail
      refine (HL.out _).mono ?_
      rintro e w2 ⟨rfl, rfl⟩
      go_wp2_with fail
      go_loopw [6, 7, 18] (fun v s7 i wr => ∃ (j : Nat) (a : Option Addr) (cc : Nat), j ≤ Z ∧ i = .int .i64 (j : Int) ∧ v = .slice a j cc ∧ Hid (BuiltL wr w.heap.size (.slice a j cc) j (diaF K)) ∧ Hid (Below w.heap.size w wr)) (fun _ _ i _ => Z - (intOf i).toNat)
      case atStart => exact ⟨0, none, 0, Nat.zero_le _, rfl, rfl, BuiltL.nil _ _ _, HB1⟩
      case round =>
        obtain ⟨j, a, cc, hj, rfl, rfl, HBu, HBr⟩ := hrel
        clear cz
        by_cases hlt : j < Z
        · have hlt' : (j : Int) < (Z : Int) := by omega
          obtain ⟨G, C, hO⟩ := HBu.out
          have HO := Lib.hid hO
          have HRow := Lib.hid hO.row
          have hsz := HBr.out.size
          have hr := HR.out wr.heap.size 1 (j : Int) (wr.alloc (.cells #[.int .i64 (j : Int)] 3)) (by simp)
          have HRr := Lib.hid hr
          clear hO hr
          go_wp2_with fail
          refine (HRr.out).mono ?_
          rintro e w4 ⟨rfl, h4, b4⟩
          have hbW : Below wr.heap.size wr w4 := below_then (below_alloc _ _) b4
          have HBW := Lib.hid hbW
          have h4' : w4.heap[wr.heap.size + 1]? = some (.cells (List.replicate K (Value.int .i64 (j : Int))).toArray 3 (0, 0)) := by rw [World.size_alloc] at h4; exact h4
          have HT := Lib.hid (rep_row (B := wr.heap.size) (by omega) hK64 h4')
          have HRow4 := Lib.hid (HRow.out.kept (grown_of_below hbW none) (own_em _))
          have hs4 := hbW.size
          clear b4 h4 h4' hbW
          go_wp2_with (at_builtin; refine wpList_append_own _ rfl _ _ 46 rfl w.heap.size 37 j0 (.slice none 0 0) 1 24 Try.underlying46 hj0 hy0 hy1 hy2 rfl (by decide) (.slice a j cc) j (flatL j G C (diaF K)) rfl (HRow4.out.alloc _) ⟨w4.heap.size, 0, none⟩ 1 1 [.slice (addrO (some (wr.heap.size + 1))) K K] rfl rfl (cell_one_new _ _ _) (fun x hx => by simp at hx; subst hx; rfl) (by unfold maxLen; omega) (by omega) (by simp; omega) ?_; intro v' w5 hown' hgrow' hnil')
          obtain ⟨g5, cap5, rfl⟩ := ownsRow_succ hown'
          have HNew := Lib.hid (HO.out.push HBW.out (by omega) (m := K) (by simp [diaF]) HT.out hown' hgrow')
          have HB5 := Lib.hid (((HBr.out.trans (HBW.out.mono hsz)).alloc (by omega) _).grown hgrow' (by simp; omega) (fun b hb => by have h_ := (HRow4.out.lt b hb).1; omega))
          clear hown' hgrow' hnil'
          go_wp2_with fail
          go_roundw
          case rel => exact ⟨j + 1, _, _, by omega, by go_num, rfl, HNew, HB5⟩
          case measure => simp [intOf]; omega
        · obtain rfl : j = Z := by omega
          have hlt' : ¬ (j : Int) < (j : Int) := by omega
          go_wp2_with fail
          go_ret2
          unfold ResS
          obtain ⟨G, C, hO⟩ := HBu.out
          exact ⟨a, j, cc, G, C, rfl, (diaL_len K j).symm, hO.congrF (fun i hi => (diaL_get hi).symm), HBr.out⟩

end Go.Proofs.Ytfdolbpbddjhmaa
