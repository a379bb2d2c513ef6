/-
  Contract: spec.Diagonal. Conditions: the bounds that it names.
-/
import Derived.Test.YtfdolbpbddjhmaaDia
namespace Go.Proofs.Ytfdolbpbddjhmaa
open Go.RowKit
set_option linter.unusedVariables false
set_option linter.unusedSimpArgs false

theorem BuiltL.lit (w : World) (B : Nat) (hB : B ≤ w.heap.size) (F : Nat → List Int) : BuiltL (w.alloc (.cells #[] 37)) B (.slice (some ⟨w.heap.size, 0, none⟩) 0 0) 0 F := by
  refine ⟨fun _ => none, fun _ => 0, World.ownsRow_lit (base := B) (e := 37) (size := 1) w #[] 0 hB (by decide) rfl, fun k hk => ?_, fun j hj => by omega, fun j g hj => by omega, fun i j g hi => by omega⟩
  have : w.heap.size = k := by simpa [Value.ownBlock] using hk
  simp; omega

set_option maxRecDepth 100000 in
set_option maxHeartbeats 4000000 in
theorem specDiagonal (lo hi : Nat) (z : Int) (ao : Option Addr) (c n : Nat) (fs : List OpD) (k : Int) (w : World) (hv : OView w lo hi ao n fs) (hhi : hi ≤ w.heap.size) (hs : ∀ (j : Nat) (f : OpD), fs[j]? = some f → f.2.length ≤ maxLen) (hwf : (Lit.int .i64 k).wf = true) :
    Calls Try.prog 31 #[.agg #[.int .i64 z, .slice ao n c], .int .i64 k] w fun e w' => ResS w w' (valDiagonal z fs k).1 (valDiagonal z fs k).2 e := by
  obtain ⟨wA, hwA⟩ : ∃ wA : World, wA = w.alloc (.cells #[.int .i64 z, .slice ao n c] 28) := ⟨_, rfl⟩
  have bA : Below w.heap.size w wA := by rw [hwA]; exact below_alloc _ _
  obtain ⟨wo, hwo0⟩ : ∃ wo : World, wo = wA.alloc (.cells #[] 37) := ⟨_, rfl⟩
  have bo : Below wA.heap.size wA wo := by rw [hwo0]; exact below_alloc _ _
  have hB := bA.trans (bo.mono bA.size)
  have HB := Lib.hid hB
  have hsA : wA.heap.size = w.heap.size + 1 := by rw [hwA]; simp
  have HBu0 : ∀ F, Hid (BuiltL wo (w.heap.size + 1) (.slice (some ⟨w.heap.size + 1, 0, none⟩) 0 0) 0 F) := fun F => by
    have h := BuiltL.lit wA (w.heap.size + 1) (by omega) F
    rw [← hwo0, hsA] at h
    exact h
  have cz0 : wo.cell? ⟨w.heap.size, 0, none⟩ = some (.int .i64 z) := cell_b bo (by rw [hwA]; simp)
  have hwo : wo = (w.alloc (.cells #[.int .i64 z, .slice ao n c] 28)).alloc (.cells #[] 37) := by rw [hwo0, hwA]
  clear hwo0 hwA bo bA hsA
  have hG := good_any lo hi z ao c n fs wo (hv.kept (Kept.of_below hB hhi)) (Nat.le_trans hhi hB.size) hs
  obtain ⟨t, ht⟩ : ∃ t, algOkB z fs = t := ⟨_, rfl⟩
  rw [ht] at hG
  have HG := Lib.hid hG
  have HL := Lib.hid (fun W => in_any k 1 64 W)
  cases t with
  | false =>
    rw [show valDiagonal z fs k = ([], false) by simp [valDiagonal, ht]]
    have HBu0 := HBu0 (fun j => ([] : List (List Int)).getD j [])
    clear hG hB hs hv ht
    go_enter Try.func31, Try.ntmps31
    go_wp2_with fail
    rw [← hwo]
    clear hwo
    go_wp2_with fail
    refine HG.out.mono ?_
    rintro e w1 ⟨rfl, b1⟩
    have HB1 := Lib.hid (HB.out.trans (b1.mono HB.out.size))
    have cz : w1.cell? ⟨w.heap.size, 0, none⟩ = some (.int .i64 z) := cell_b b1 cz0
    have HBu1 := Lib.hid (HBu0.out.below b1)
    clear b1 cz0
    go_wp2_with fail
    go_ret2
    unfold ResS
    obtain ⟨G, C, h⟩ := HBu1.out
    exact ⟨_, 0, 0, G, C, rfl, rfl, (h.congrF (fun i hi => by omega)).lo_mono (Nat.le_succ _), HB1.out⟩
  | true =>
    obtain ⟨⟨z1, z8⟩, _, _⟩ := algOkB_of ht
    obtain ⟨t2, ht2⟩ : ∃ t, inB 1 64 k = t := ⟨_, rfl⟩
    rw [ht2] at HL
    cases t2 with
    | false =>
      rw [show valDiagonal z fs k = ([], false) by simp [valDiagonal, ht2]]
      have HBu0 := HBu0 (fun j => ([] : List (List Int)).getD j [])
      clear hG hB hs hv ht ht2
      go_enter Try.func31, Try.ntmps31
      go_wp2_with fail
      rw [← hwo]
      clear hwo
      go_wp2_with fail
      refine HG.out.mono ?_
      rintro e w1 ⟨rfl, b1⟩
      have HB1 := Lib.hid (HB.out.trans (b1.mono HB.out.size))
      have cz : w1.cell? ⟨w.heap.size, 0, none⟩ = some (.int .i64 z) := cell_b b1 cz0
      have HBu1 := Lib.hid (HBu0.out.below b1)
      clear b1 cz0
      go_wp2_with fail
      refine (HL.out _).mono ?_
      rintro e w2 ⟨rfl, rfl⟩
      go_wp2_with fail
      go_ret2
      unfold ResS
      obtain ⟨G, C, h⟩ := HBu1.out
      exact ⟨_, 0, 0, G, C, rfl, rfl, (h.congrF (fun i hi => by omega)).lo_mono (Nat.le_succ _), HB1.out⟩
    | true =>
      obtain ⟨K, rfl⟩ : ∃ K : Nat, k = (K : Int) := ⟨k.toNat, by simp [inB] at ht2; omega⟩
      obtain ⟨Z, rfl⟩ : ∃ Z : Nat, z = (Z : Int) := ⟨z.toNat, by omega⟩
      have hK1 : 1 ≤ K := by simp [inB] at ht2; omega
      have hK64 : K ≤ 64 := by simp [inB] at ht2; omega
      rw [show valDiagonal (Z : Int) fs (K : Int) = (diaL K Z, true) by simp [valDiagonal, ht, ht2]]
      obtain ⟨i0, hi0, hz0, hz1, hz2⟩ := info_parts Try.infoInt
      obtain ⟨j0, hj0, hy0, hy1, hy2⟩ := info_parts Try.infoInts
      have HBu0 := HBu0 (diaF K)
      clear hG hB hs hv ht ht2
      go_enter Try.func31, Try.ntmps31
      go_wp2_with fail
      rw [← hwo]
      clear hwo
      go_wp2_with fail
      refine HG.out.mono ?_
      rintro e w1 ⟨rfl, b1⟩
      have HB1 := Lib.hid (HB.out.trans (b1.mono HB.out.size))
      have cz : w1.cell? ⟨w.heap.size, 0, none⟩ = some (.int .i64 (Z : Int)) := cell_b b1 cz0
      have HBu1 := Lib.hid (HBu0.out.below b1)
      clear b1 cz0
      go_wp2_with fail
      refine (HL.out _).mono ?_
      rintro e w2 ⟨rfl, rfl⟩
      go_wp2_with fail
      have hs1 : w.heap.size + 1 ≤ w1.heap.size := by have := World.block_lt_of_cell? _ _ cz; exact this
      go_loopw [6, 7, 8, 9] (fun v i s8 s9 wr => ∃ (j : Nat) (a : Option Addr) (cc : Nat), j ≤ Z ∧ i = .int .i64 (j : Int) ∧ v = .slice a j cc ∧ Hid (BuiltL wr (w.heap.size + 1) (.slice a j cc) j (diaF K)) ∧ wr.cell? ⟨w.heap.size, 0, none⟩ = some (.int .i64 (Z : Int)) ∧ Hid (Below w.heap.size w wr) ∧ w.heap.size + 1 ≤ wr.heap.size) (fun _ i _ _ _ => Z - (intOf i).toNat)
      case atStart => exact ⟨0, _, _, Nat.zero_le _, rfl, rfl, HBu1, cz, HB1, hs1⟩
      case round =>
        obtain ⟨j, a, cc, hj, rfl, rfl, HBu, dz, HBr, hsr⟩ := hrel
        clear cz hs1
        obtain ⟨wo, hwo⟩ : ∃ wo : World, wo = wr := ⟨_, rfl⟩
        rw [← hwo]
        rw [← hwo] at HBu dz HBr hsr
        clear hwo
        by_cases hlt : j < Z
        · have hlt' : (j : Int) < (Z : Int) := by omega
          obtain ⟨G, C, hO⟩ := HBu.out
          have HO := Lib.hid hO
          have HRow := Lib.hid hO.row
          have HR0 : Hid ((wo.alloc (.cells #[] 3)).ownsRow wo.heap.size 3 1 (.slice (some ⟨wo.heap.size, 0, none⟩) 0 0) 0 ((List.replicate 0 (j : Int)).map (Value.int .i64))) :=
            World.ownsRow_lit (base := wo.heap.size) (e := 3) (size := 1) wo #[] 0 (Nat.le_refl _) (by decide) (by simp)
          have HBl0 := Lib.hid (below_alloc wo (.cells #[] 3))
          clear hO
          go_wp2_with fail
          go_loopw [8, 9] (fun tv i wi => ∃ (q g d : Nat), q ≤ K ∧ i = .int .i64 (q : Int) ∧ tv = .slice (some ⟨g, 0, none⟩) q d ∧ Hid (wi.ownsRow wo.heap.size 3 1 (.slice (some ⟨g, 0, none⟩) q d) q ((List.replicate q (j : Int)).map (Value.int .i64))) ∧ Hid (Below wo.heap.size wo wi)) (fun _ i _ => K - (intOf i).toNat)
          case atStart => exact ⟨0, _, _, Nat.zero_le _, rfl, rfl, HR0, HBl0⟩
          case round =>
            obtain ⟨q, g, d, hq, rfl, rfl, HR, HBi⟩ := hrel
            clear HR0 HBl0
            have hzi := HBi.out.size
            by_cases hltq : q < K
            · have hltq' : (q : Int) < (K : Int) := by omega
              go_wp2_with (at_builtin; refine wpList_append_own _ rfl _ _ 37 rfl wo.heap.size 3 i0 (.int .i64 0) 1 8 Try.underlying37 hi0 hz0 hz1 hz2 rfl (by decide) (.slice (some ⟨g, 0, none⟩) q d) q ((List.replicate q (j : Int)).map (Value.int .i64)) rfl (HR.out.alloc _) ⟨wr.heap.size, 0, none⟩ 1 1 [.int .i64 (j : Int)] rfl rfl (cell_one_new _ _ _) (fun x hx => by simp at hx; subst hx; rfl) (by unfold maxLen; omega) (by omega) (by simp; omega) ?_; intro v' w5 hown' hgrow' hnil'; obtain ⟨g5, cap5, rfl⟩ := ownsRow_succ hown')
              have HR5 : Hid (w5.ownsRow wo.heap.size 3 1 (.slice (some ⟨g5, 0, none⟩) (q + 1) cap5) (q + 1) ((List.replicate (q + 1) (j : Int)).map (Value.int .i64))) := by
                unfold Hid
                rw [List.replicate_succ', List.map_append]; exact hown'
              have HB5 := Lib.hid ((HBi.out.alloc hzi _).grown hgrow' (by simp; omega) (fun b hb => by have h_ := (HR.out.lt b hb).1; omega))
              clear hown' hgrow' hnil'
              go_wp2_with fail
              go_roundw
              case rel => exact ⟨q + 1, g5, cap5, by omega, by go_num, rfl, HR5, HB5⟩
              case measure => simp [intOf]; omega
            · obtain rfl : q = K := by omega
              have hltq' : ¬ (q : Int) < (q : Int) := by omega
              have HRow4 := Lib.hid (HRow.out.kept (grown_of_below HBi.out none) (own_em _))
              have dzi := cell_b HBi.out dz
              go_wp2_with (at_builtin; refine wpList_append_own _ rfl _ _ 46 rfl (w.heap.size + 1) 37 j0 (.slice none 0 0) 1 24 Try.underlying46 hj0 hy0 hy1 hy2 rfl (by decide) (.slice a j cc) j (flatL j G C (diaF q)) rfl (HRow4.out.alloc _) ⟨wr.heap.size, 0, none⟩ 1 1 [.slice (addrO (some g)) q d] rfl rfl (cell_one_new _ _ _) (fun x hx => by simp at hx; subst hx; rfl) (by unfold maxLen; omega) (by omega) (by simp; omega) ?_; intro v' w5 hown' hgrow' hnil'; obtain ⟨g5, cap5, rfl⟩ := ownsRow_succ hown')
              have HNew := Lib.hid (HO.out.push HBi.out (by omega) (m := q) (d := d) (g := some g) (by simp [diaF]) HR.out hown' hgrow')
              have HB5 := Lib.hid (((HBr.out.trans (HBi.out.mono HBr.out.size)).alloc (by omega) _).grown hgrow' (by simp; omega) (fun b hb => by have h_ := (HRow4.out.lt b hb).1; omega))
              have dz5 : w5.cell? ⟨w.heap.size, 0, none⟩ = some (.int .i64 (Z : Int)) := (World.cell?_of_block (a := ⟨w.heap.size, 0, none⟩) ((hgrow'.block w.heap.size (by simp; omega) (fun e => by have h_ := (HRow4.out.lt _ e.symm).1; omega)).trans (Below.heap_alloc _ _ _ (by omega)))).trans dzi
              have hs5 : w.heap.size + 1 ≤ w5.heap.size := by have := hgrow'.size; simp at this; omega
              clear hown' hgrow' hnil' dz dzi
              go_wp2_with fail
              go_roundw
              case rel => exact ⟨j + 1, _, _, by omega, by go_num, rfl, HNew, dz5, HB5, hs5⟩
              case measure => simp [intOf]; omega
        · obtain rfl : j = Z := by omega
          have hlt' : ¬ (j : Int) < (j : Int) := by omega
          go_wp2_with fail
          go_ret2
          unfold ResS
          obtain ⟨G, C, hO⟩ := HBu.out
          exact ⟨a, j, cc, G, C, rfl, (diaL_len K j).symm, (hO.congrF (fun i hi => (diaL_get hi).symm)).lo_mono (Nat.le_succ _), HBr.out⟩

end Go.Proofs.Ytfdolbpbddjhmaa
