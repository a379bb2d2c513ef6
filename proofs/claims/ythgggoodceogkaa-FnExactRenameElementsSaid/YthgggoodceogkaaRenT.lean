/-
  Contract: spec.RenameElements. Conditions: the bounds that each theorem names.
-/
import Derived.Test.YthgggoodceogkaaRenS
namespace Go.Proofs.Ythgggoodceogkaa
open Go.RowKit
set_option linter.unusedVariables false
set_option linter.unusedSimpArgs false

set_option maxHeartbeats 400000 in
theorem sren_no (lo hi : Nat) (z : Int) (ao : Option Addr) (c n : Nat) (fs : List OpD) (lo2 hi2 : Nat) (bo : Option Addr) (d m : Nat) (xs : List Int) (w : World) (hv : OView w lo hi ao n fs) (hhi : hi ≤ w.heap.size) (hs : ∀ (j : Nat) (f : OpD), fs[j]? = some f → f.2.length ≤ maxLen)
    (hx : IView w lo2 hi2 bo m xs) (hhi2 : hi2 ≤ w.heap.size) (hm : m ≤ maxLen) (hno : (algOkB z fs && permB z xs) = false) :
    Calls Try.prog 43 #[.agg #[.int .i64 z, .slice ao n c], .slice bo m d] w fun e w' => e = .returned (.tuple #[.agg #[.int .i64 0, .slice none 0 0], .bool false]) ∧ Below w.heap.size w w' := by
  have hB := below_then (below_alloc w (.cells #[.int .i64 z, .slice ao n c] 29)) (below_alloc _ (.cells #[.int .i64 0, .slice none 0 0] 29))
  have HB := Lib.hid hB
  have hG := good_any lo hi z ao c n fs _ (hv.kept (Kept.of_below hB hhi)) (Nat.le_trans hhi hB.size) hs
  obtain ⟨t, ht⟩ : ∃ t, algOkB z fs = t := ⟨_, rfl⟩
  rw [ht] at hG
  have HG := Lib.hid hG
  cases t with
  | false =>
    clear hG hB hs hv ht hx hno hm
    go_enter Try.func43, Try.ntmps43
    go_wp2_with fail
    refine HG.out.mono ?_
    rintro e w1 ⟨rfl, b1⟩
    obtain ⟨hcc, hff⟩ := bcell b1
    have hz : w.heap.size + 1 < w1.heap.size := by have := b1.size; simp at this; omega
    have HB1 := Lib.hid (HB.out.trans (b1.mono HB.out.size))
    clear b1
    go_wp2_with fail
    refine bodyPost_ret (v := .tuple #[.agg #[.int .i64 0, .slice none 0 0], .bool false]) (by simp [results, Try.results43, go_sem, hcc, hz]) rfl ⟨rfl, (HB1.out.setCell (by show _ ≤ _; simp) _).setCell (by show _ ≤ _; simp) _⟩
  | true =>
    rw [ht, Bool.true_and] at hno
    obtain ⟨⟨z1, z2⟩, hn4, _⟩ := algOkB_of ht
    obtain ⟨zn, rfl⟩ : ∃ zn : Nat, z = (zn : Int) := ⟨z.toNat, by omega⟩
    have hP := fun (W : World) (hW : Below w.heap.size w W) => perm_spec lo2 hi2 zn bo d m xs W (hx.kept (Kept.of_below hW hhi2)) (Nat.le_trans hhi2 hW.size) (by omega) (by omega) hm
    rw [hno] at hP
    have HP := Lib.hid hP
    clear hG hB hs hv ht hx hno hP hm hn4
    go_enter Try.func43, Try.ntmps43
    go_wp2_with fail
    refine HG.out.mono ?_
    rintro e w1 ⟨rfl, b1⟩
    have hsz1 : w.heap.size + 1 < w1.heap.size := by have := b1.size; simp at this; omega
    have cz : w1.cell? ⟨w.heap.size, 0, none⟩ = some (.int .i64 (zn : Int)) := (b1.cell (p := ⟨w.heap.size, 0, none⟩) (by simp; omega)).trans (by go_simp)
    have hR1 : Hid (w1.heap[w.heap.size + 1]? = some (.cells #[.int .i64 0, .slice none 0 0] 29 (0, 0))) := by
      unfold Hid
      rw [b1.block _ (by simp)]
      have h := heap_alloc_new (w.alloc (.cells #[.int .i64 (zn : Int), .slice ao n c] 29)) (.cells #[.int .i64 0, .slice none 0 0] 29)
      rw [World.size_alloc] at h
      exact h
    have HB1 := Lib.hid (HB.out.trans (b1.mono HB.out.size))
    clear b1
    go_wp2_with fail
    refine (HP.out _ HB1.out).mono ?_
    rintro e w2 ⟨rfl, b2⟩
    obtain ⟨r0, r1, rf⟩ := box_cells ((b2.block _ (by have := HB1.out.size; omega)).trans hR1.out)
    have HB2 := Lib.hid (HB1.out.trans (b2.mono HB1.out.size))
    clear b2
    go_wp2_with fail
    refine bodyPost_ret (v := .tuple #[.agg #[.int .i64 0, .slice none 0 0], .bool false]) (by simp [results, Try.results43, go_sem, r0, r1]) rfl ⟨rfl, (HB2.out.setCell (by show _ ≤ _; simp) _).setCell (by show _ ≤ _; simp) _⟩

set_option maxHeartbeats 1000000 in
theorem sren_yes (lo hi : Nat) (z : Int) (ao : Option Addr) (c n : Nat) (fs : List OpD) (lo2 hi2 : Nat) (bo : Option Addr) (d m : Nat) (xs : List Int) (w : World) (hv : OView w lo hi ao n fs) (hhi : hi ≤ w.heap.size) (hs : ∀ (j : Nat) (f : OpD), fs[j]? = some f → f.2.length ≤ maxLen)
    (hx : IView w lo2 hi2 bo m xs) (hhi2 : hi2 ≤ w.heap.size) (hm : m ≤ maxLen) (hok : algOkB z fs = true) (hpm : permB z xs = true) :
    Calls Try.prog 43 #[.agg #[.int .i64 z, .slice ao n c], .slice bo m d] w fun e w' => ResA w w' z (fs.map (renT z xs)) true e := by
  have hB := below_then (below_alloc w (.cells #[.int .i64 z, .slice ao n c] 29)) (below_alloc _ (.cells #[.int .i64 0, .slice none 0 0] 29))
  have HB := Lib.hid hB
  have hG := good_any lo hi z ao c n fs _ (hv.kept (Kept.of_below hB hhi)) (Nat.le_trans hhi hB.size) hs
  rw [hok] at hG
  have HG := Lib.hid hG
  obtain ⟨⟨z1, z2⟩, hn4, _⟩ := algOkB_of hok
  obtain ⟨zn, rfl⟩ : ∃ zn : Nat, z = (zn : Int) := ⟨z.toNat, by omega⟩
  have hP := fun (W : World) (hW : Below w.heap.size w W) => perm_spec lo2 hi2 zn bo d m xs W (hx.kept (Kept.of_below hW hhi2)) (Nat.le_trans hhi2 hW.size) (by omega) (by omega) hm
  rw [hpm] at hP
  have HP := Lib.hid hP
  have HR := Lib.hid (fun (W : World) (hW : Below w.heap.size w W) => l2Rename_any lo hi (zn : Int) ao c n fs lo2 hi2 bo d m xs W (hv.kept (Kept.of_below hW hhi)) (Nat.le_trans hhi hW.size) (hx.kept (Kept.of_below hW hhi2)) (Nat.le_trans hhi2 hW.size) hok hpm)
  unfold ResA
  clear hG hB hs hv hx hP hm hn4 hok hpm
  go_enter Try.func43, Try.ntmps43
  go_wp2_with fail
  refine HG.out.mono ?_
  rintro e w1 ⟨rfl, b1⟩
  have hsz1 : w.heap.size + 1 < w1.heap.size := by have := b1.size; simp at this; omega
  have cz : w1.cell? ⟨w.heap.size, 0, none⟩ = some (.int .i64 (zn : Int)) := (b1.cell (p := ⟨w.heap.size, 0, none⟩) (by simp; omega)).trans (by go_simp)
  have ca : w1.cell? ⟨w.heap.size, 1, none⟩ = some (.slice ao n c) := (b1.cell (p := ⟨w.heap.size, 1, none⟩) (by simp; omega)).trans (by go_simp)
  have hR1 : Hid (w1.heap[w.heap.size + 1]? = some (.cells #[.int .i64 0, .slice none 0 0] 29 (0, 0))) := by
    unfold Hid
    rw [b1.block _ (by simp)]
    have h := heap_alloc_new (w.alloc (.cells #[.int .i64 (zn : Int), .slice ao n c] 29)) (.cells #[.int .i64 0, .slice none 0 0] 29)
    rw [World.size_alloc] at h
    exact h
  have HB1 := Lib.hid (HB.out.trans (b1.mono HB.out.size))
  clear b1
  go_wp2_with fail
  refine (HP.out _ HB1.out).mono ?_
  rintro e w2 ⟨rfl, b2⟩
  have hsz2 : w.heap.size + 1 < w2.heap.size := by have := b2.size; omega
  have dz := cell_b b2 cz
  have da := cell_b b2 ca
  have hR2 := Lib.hid ((b2.block _ hsz1).trans hR1.out)
  have HB2 := Lib.hid (HB1.out.trans (b2.mono HB1.out.size))
  clear b2 cz ca
  go_wp2_with fail
  refine (HR.out _ HB2.out).mono ?_
  rintro e w3 ⟨va, vn, vc, G, C, rfl, hvn, ho3, b3⟩
  obtain ⟨r0, r1, rf⟩ := box_cells ((b3.block _ hsz2).trans hR2.out)
  have HB3 := Lib.hid (HB2.out.trans (b3.mono HB2.out.size))
  have HO3 := Lib.hid ho3
  have HLen := Lib.hid hvn
  clear b3 ho3 hvn dz da
  go_wp2_with fail
  have hK : ∀ (u1 u2 : Value), Kept w2.heap.size w3.heap.size w3 ((w3.setCell ⟨w.heap.size + 1, 0, none⟩ u1).setCell ⟨w.heap.size + 1, 1, none⟩ u2) := by
    intro u1 u2 q h1 h2
    rw [Below.heap_setCell _ _ _ _ (by show q ≠ w.heap.size + 1; omega), Below.heap_setCell _ _ _ _ (by show q ≠ w.heap.size + 1; omega)]
  refine bodyPost_ret (v := .tuple #[.agg #[.int .i64 (zn : Int), .slice va vn vc], .bool true]) (by simp [results, Try.results43, go_sem, r0, r1]) rfl ⟨va, vn, vc, G, C, rfl, HLen.out, ((HO3.out.kept (hK _ _)).lo_mono (by omega)).hi_mono (by simp [World.setCell]), (HB3.out.setCell (by show _ ≤ _; simp) _).setCell (by show _ ≤ _; simp) _⟩

theorem specRenameElements (lo hi : Nat) (z : Int) (ao : Option Addr) (c n : Nat) (fs : List OpD) (lo2 hi2 : Nat) (bo : Option Addr) (d m : Nat) (xs : List Int) (w : World) (hv : OView w lo hi ao n fs) (hhi : hi ≤ w.heap.size) (hs : ∀ (j : Nat) (f : OpD), fs[j]? = some f → f.2.length ≤ maxLen)
    (hx : IView w lo2 hi2 bo m xs) (hhi2 : hi2 ≤ w.heap.size) (hm : m ≤ maxLen) :
    Calls Try.prog 43 #[.agg #[.int .i64 z, .slice ao n c], .slice bo m d] w fun e w' => ResA w w' (valRenameElements z fs xs).1 (valRenameElements z fs xs).2.1 (valRenameElements z fs xs).2.2 e := by
  cases h : (algOkB z fs && permB z xs) with
  | true =>
    rw [show valRenameElements z fs xs = (z, fs.map (renT z xs), true) by simp only [valRenameElements, h, if_true]]
    rw [Bool.and_eq_true] at h
    exact sren_yes lo hi z ao c n fs lo2 hi2 bo d m xs w hv hhi hs hx hhi2 hm h.1 h.2
  | false =>
    rw [show valRenameElements z fs xs = (0, [], false) by simp only [valRenameElements, h]; rfl]
    refine (sren_no lo hi z ao c n fs lo2 hi2 bo d m xs w hv hhi hs hx hhi2 hm h).mono fun e w' ⟨he, hb⟩ => ?_
    exact ⟨none, 0, 0, fun _ => 0, fun _ => 0, he, rfl, OwnsOps.nil _ _ _ _ _ _, hb⟩

end Go.Proofs.Ythgggoodceogkaa
