/-
  Rows that tell for each element whether it is in a set. Contracts: spec.l5In and spec.l5List. Conditions: the bounds that each theorem names.
-/
import Derived.Test.YtcmjkfcgekmomaaSetQ
import Derived.Test.YtcmjkfcgekmomaaBox
import Derived.Test.YtcmjkfcgekmomaaOwnN
namespace Go.Proofs.Ytcmjkfcgekmomaa
open Go.RowKit
set_option linter.unusedVariables false
set_option linter.unusedSimpArgs false

def boolsV (s n : Nat) : List Value := (List.range n).map fun k => Value.bool (s.testBit k)
theorem boolsV_len (s n : Nat) : (boolsV s n).length = n := by simp [boolsV]
theorem boolsV_get {s n k : Nat} (h : k < n) : (boolsV s n)[k]? = some (.bool (s.testBit k)) := by simp [boolsV, h]
theorem boolsV_set {s n k : Nat} (h : k < n) : (boolsV s n).set k (.bool true) = boolsV (s ||| 2 ^ k) n := by
  apply List.ext_getElem?
  intro i
  rw [List.getElem?_set]
  by_cases hi : i < n
  · rw [boolsV_get hi, boolsV_get hi, Nat.testBit_or, bit_pow]
    by_cases hk : k = i
    · subst hk; simp [boolsV_len, h]
    · simp [hk]
  · rw [List.getElem?_eq_none (by rw [boolsV_len]; omega), List.getElem?_eq_none (by rw [boolsV_len]; omega)]
    by_cases hk : k = i
    · omega
    · simp [hk]
theorem boolsV_zero (n : Nat) : boolsV 0 n = List.replicate n (.bool false) := by
  unfold boolsV
  apply List.ext_getElem?
  intro i
  rw [List.getElem?_map, List.getElem?_replicate]
  by_cases hi : i < n
  · rw [List.getElem?_range hi, if_pos hi]; simp
  · rw [if_neg hi, List.getElem?_eq_none (by simp; omega)]; rfl

theorem Try.infoBool : (Try.prog.info? 4).map (fun i => (i.zero, i.size, i.bytes)) = some (some (.bool false), 1, 1) := by kernel_rfl
theorem make_bools (w : World) (n : Nat) (hn : n ≤ 1048576) : ∃ w', (Instr.makeSlice 119 (.int .i64 (n : Int)) (.int .i64 (n : Int))).run Try.prog w = .ok (.slice (some ⟨w.heap.size, 0, none⟩) n n) w' ∧
    w'.ownsRow w.heap.size 4 1 (.slice (some ⟨w.heap.size, 0, none⟩) n n) n (boolsV 0 n) ∧ Below w.heap.size w w' := by
  obtain ⟨i0, hi0, hz0, hz1, hz2⟩ := info_parts Try.infoBool
  obtain ⟨w', hrun, r1, r2⟩ := run_make_full (P := Try.prog) w w.heap.size 119 4 i0 _ 1 Try.underlying119 hi0 hz0 hz1 .i64 .i64 n (by rw [hz2]; omega) (by unfold maxLen; omega) (Nat.le_refl _)
  refine ⟨w', hrun, ?_, (Below.refl _ _).grown r2 (Nat.le_refl _) (by intro k hk; cases hk)⟩
  rw [show (Value.bool false).cells = #[Value.bool false] from rfl, Nat.mul_one, toList_madeCells_one] at r1
  rw [boolsV_zero]
  exact r1

/-- A set told for each of the first n elements, in memory of the call's own. -/
def BoolsAt (w w' : World) (n s : Nat) (e : Ending) : Prop :=
  ∃ g d, e = .returned (.slice (some ⟨g, 0, none⟩) n d) ∧ w'.ownsRow w.heap.size 4 1 (.slice (some ⟨g, 0, none⟩) n d) n (boolsV s n) ∧ Below w.heap.size w w'

set_option maxHeartbeats 1000000 in
theorem l5In_any (lo hi : Nat) (zn : Nat) (ao : Option Addr) (c n : Nat) (xs : List Int) (w : World) (h : IView w lo hi ao n xs) (hhi : hi ≤ w.heap.size) (hn : n ≤ maxLen) (ha : allIn (zn : Int) xs = true) (hz : zn ≤ 8) :
    Calls Try.prog 133 #[.int .i64 (zn : Int), .slice ao n c] w fun e w' => BoolsAt w w' zn (setN xs) e := by
  unfold maxLen at hn
  obtain ⟨w1, hmk, ho1, hb1⟩ := make_bools w zn (by omega)
  have HV := Lib.hid (h.kept (Kept.of_below hb1 hhi))
  have HA := Lib.hid ha
  have HO := Lib.hid ho1
  have HB := Lib.hid hb1
  have HLn := Lib.hid h.1
  clear h ha ho1 hb1
  unfold BoolsAt
  go_enter Try.func133, Try.ntmps133
  go_wp2_with fail
  clear hmk
  go_loopw [6] (fun i wr => ∃ k : Nat, k ≤ n ∧ i = .int .i64 (k : Int) ∧ Hid (wr.ownsRow w.heap.size 4 1 (.slice (some ⟨w.heap.size, 0, none⟩) zn zn) zn (boolsV (setN (xs.take k)) zn)) ∧ Hid (Below w.heap.size w wr)) (fun i _ => n - (intOf i).toNat)
  case atStart => exact ⟨0, Nat.zero_le _, rfl, HO, HB⟩
  case round =>
    obtain ⟨k, hk, rfl, HR, HBr⟩ := hrel
    by_cases hlt : k < n
    · obtain ⟨b, o, rfl, _, hbh, hc⟩ := HV.out.at_ (by omega)
      obtain ⟨x, hx⟩ := get_of_lt HLn.out hlt
      have hlow : b < w.heap.size := by omega
      have hcell : wr.cell? ⟨b, o + k, none⟩ = some (.int .i64 x) := by
        have h1_ := hc k x hx
        rw [HB.out.cell (p := ⟨b, o + k, none⟩) hlow] at h1_
        exact cell_b HBr.out h1_
      obtain ⟨h0, h1⟩ := allIn_get HA.out hx
      obtain ⟨xn, rfl⟩ : ∃ xn : Nat, x = (xn : Int) := ⟨x.toNat, by omega⟩
      have hxn : xn < zn := by omega
      obtain ⟨u, hu⟩ : ∃ u, wr.cell? ⟨w.heap.size, xn, none⟩ = some u := by
        rw [HR.out.cellAt xn (by omega)]; exact ⟨_, boolsV_get hxn⟩
      have hfr := HR.out.frozenAt xn
      have hst := HR.out.stored xn (.bool true)
      rw [boolsV_set hxn] at hst
      have hse : setN (xs.take k) ||| 2 ^ xn = setN (xs.take (k + 1)) := by rw [setN_succ hx]; simp
      rw [hse] at hst
      have HST := Lib.hid hst
      have hkn : (k : Int) < (n : Int) := by omega
      clear hc hx hst hse
      go_wp2_with fail
      go_roundw
      case rel => exact ⟨k + 1, by omega, by go_num, HST.out.1, HBr.out.setCell (Nat.le_refl _) _⟩
      case measure => simp [intOf]; omega
    · go_wp2_with fail
      go_ret
      have hR := HR.out
      rw [setN_all (by have := HLn.out; omega)] at hR
      exact ⟨w.heap.size, zn, rfl, hR, HBr.out⟩

/-- The cells of a set that is told for each element. -/
def BoolsIn (w : World) (hi g n s : Nat) : Prop := g < hi ∧ ∀ j, j < n → w.cell? ⟨g, j, none⟩ = some (.bool (s.testBit j))
theorem BoolsIn.below {w w' : World} {hi g n s B : Nat} (h : BoolsIn w hi g n s) (hb : Below B w w') (hB : hi ≤ B) : BoolsIn w' hi g n s :=
  ⟨h.1, fun j hj => (hb.cell (p := ⟨g, j, none⟩) (by have := h.1; show g < B; omega)).trans (h.2 j hj)⟩
theorem BoolsIn.of_row {w : World} {B g n d s : Nat} (h : w.ownsRow B 4 1 (.slice (some ⟨g, 0, none⟩) n d) n (boolsV s n)) : BoolsIn w w.heap.size g n s :=
  ⟨(h.lt g rfl).2, fun j hj => by rw [h.cellAt j (by omega)]; exact boolsV_get hj⟩

set_option maxHeartbeats 1000000 in
theorem l5List_any (hi g n d s : Nat) (w : World) (h : BoolsIn w hi g n s) (hn : n ≤ 8) :
    Calls Try.prog 135 #[.slice (some ⟨g, 0, none⟩) n d] w fun e w' => ListAt w w' (listK s n) e := by
  obtain ⟨i0, hi0, hz0, hz1, hz2⟩ := info_parts Try.infoInt
  have HV := Lib.hid h
  have HO := Lib.hid (World.ownsRow_lit (base := w.heap.size) (e := 3) (size := 1) w #[] 0 (Nat.le_refl _) (by decide) rfl)
  have HB := Lib.hid (below_alloc w (.cells #[] 3))
  clear h
  unfold ListAt
  go_enter Try.func135, Try.ntmps135
  go_wp2_with fail
  go_loopw [3, 4] (fun v i wr => ∃ (j t vc g2 : Nat), j ≤ n ∧ i = .int .i64 (j : Int) ∧ v = .slice (some ⟨g2, 0, none⟩) t vc ∧ t ≤ j ∧ Hid (wr.ownsRow w.heap.size 3 1 (.slice (some ⟨g2, 0, none⟩) t vc) t ((listK s j).map (Value.int .i64))) ∧ Hid (Below w.heap.size w wr)) (fun _ i _ => n - (intOf i).toNat)
  case atStart => exact ⟨0, 0, 0, _, Nat.zero_le _, rfl, rfl, Nat.le_refl _, HO, HB⟩
  case round =>
    obtain ⟨j, t, vc, g2, hj, rfl, rfl, htj, HR, HBr⟩ := hrel
    by_cases hjn : j < n
    · have hcell : wr.cell? ⟨g, j, none⟩ = some (.bool (s.testBit j)) := cell_b HBr.out (HV.out.2 j hjn)
      obtain ⟨u, hu⟩ : ∃ u, s.testBit j = u := ⟨_, rfl⟩
      rw [hu] at hcell
      have HU := Lib.hid hu
      have hjn' : (j : Int) < (n : Int) := by omega
      clear hu
      cases u with
      | true =>
        go_wp2_with (at_builtin; refine wpList_append_own _ rfl _ _ 25 rfl w.heap.size 3 i0 (.int .i64 0) 1 8 Try.underlying25 hi0 hz0 hz1 hz2 rfl (by decide) (.slice (some ⟨g2, 0, none⟩) t vc) t ((listK s j).map (Value.int .i64)) rfl (HR.out.alloc _) ⟨wr.heap.size, 0, none⟩ 1 1 [.int .i64 (j : Int)] rfl rfl (cell_one_new _ _ _) (fun x hx => by simp at hx; subst hx; rfl) (by unfold maxLen; omega) (by omega) (by have := HBr.out.size; simp; omega) ?_; intro v' w3 hown' hgrow' hnil')
        obtain ⟨g3, cap, rfl⟩ := ownsRow_succ hown'
        have HB3 := Lib.hid ((HBr.out.alloc HBr.out.size (.cells #[.int .i64 (j : Int)] 3)).grown hgrow' (by have := HBr.out.size; simp; omega) (fun q hq => (HR.out.lt q hq).1))
        have HO3 : Hid (w3.ownsRow w.heap.size 3 1 (.slice (some ⟨g3, 0, none⟩) (t + 1) cap) (t + 1) ((listK s (j + 1)).map (Value.int .i64))) := by
          unfold Hid
          rw [listK_yes HU.out, List.map_append]
          exact hown'
        clear hown' hgrow' hnil'
        go_wp2_with fail
        go_roundw
        case rel => exact ⟨j + 1, t + 1, cap, g3, by omega, by go_num, rfl, by omega, HO3, HB3⟩
        case measure => simp [intOf]; omega
      | false =>
        have HO2 : Hid (wr.ownsRow w.heap.size 3 1 (.slice (some ⟨g2, 0, none⟩) t vc) t ((listK s (j + 1)).map (Value.int .i64))) := by
          unfold Hid; rw [listK_no HU.out]; exact HR.out
        go_wp2_with fail
        go_roundw
        case rel => exact ⟨j + 1, t, vc, g2, by omega, by go_num, rfl, by omega, HO2, HBr⟩
        case measure => simp [intOf]; omega
    · have hjn' : ¬ (j : Int) < (n : Int) := by omega
      go_wp2_with fail
      go_ret
      have hR := HR.out
      rw [show j = n by omega] at hR
      exact ⟨some ⟨g2, 0, none⟩, t, vc, rfl, by have h_ := hR.1; simp at h_; exact h_.symm, hR, HBr.out⟩

end Go.Proofs.Ytcmjkfcgekmomaa
