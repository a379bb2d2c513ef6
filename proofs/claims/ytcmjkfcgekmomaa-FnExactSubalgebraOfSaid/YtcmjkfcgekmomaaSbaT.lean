/-
  Contract: spec.SubalgebraOf. Conditions: the bounds that it names.
-/
import Derived.Test.YtcmjkfcgekmomaaSbaS
namespace Go.Proofs.Ytcmjkfcgekmomaa
open Go.RowKit
set_option linter.unusedVariables false
set_option linter.unusedSimpArgs false

theorem sba_no {z : Int} {fs : List OpD} {xs : List Int} (h : sbaB z fs xs = false) : valSubalgebraOf z fs xs = (0, [], false) := by simp [valSubalgebraOf, h]
theorem sba_yes {z : Int} {fs : List OpD} {xs : List Int} (h : sbaB z fs xs = true) : valSubalgebraOf z fs xs = ((xs.length : Int), fs.map (sbO z xs), true) := by simp [valSubalgebraOf, h]

set_option maxHeartbeats 2000000 in
theorem specSubalgebraOf (lo hi : Nat) (z : Int) (ao : Option Addr) (c n : Nat) (fs : List OpD) (lo2 hi2 : Nat) (bo : Option Addr) (d m : Nat) (xs : List Int) (w : World) (hv : OView w lo hi ao n fs) (hhi : hi ≤ w.heap.size) (hs : ∀ (j : Nat) (f : OpD), fs[j]? = some f → f.2.length ≤ maxLen)
    (hx : IView w lo2 hi2 bo m xs) (hhi2 : hi2 ≤ w.heap.size) (hm : m ≤ maxLen) :
    Calls Try.prog 25 #[.agg #[.int .i64 z, .slice ao n c], .slice bo m d] w fun e w' => ResA w w' (valSubalgebraOf z fs xs).1 (valSubalgebraOf z fs xs).2.1 (valSubalgebraOf z fs xs).2.2 e := by
  have hB := ((Below.refl w.heap.size w).alloc (Nat.le_refl _) (.cells #[.int .i64 z, .slice ao n c] 31)).alloc (by simp) (.cells #[.int .i64 0, .slice none 0 0] 31)
  have HB := Lib.hid hB
  have HR0 : Hid (((w.alloc (.cells #[.int .i64 z, .slice ao n c] 31)).alloc (.cells #[.int .i64 0, .slice none 0 0] 31)).heap[w.heap.size + 1]? = some (.cells #[.int .i64 0, .slice none 0 0] 31 (0, 0))) := by
    have h := heap_alloc_new (w.alloc (.cells #[.int .i64 z, .slice ao n c] 31)) (.cells #[.int .i64 0, .slice none 0 0] 31)
    rw [World.size_alloc] at h
    exact h
  have cz0 : ((w.alloc (.cells #[.int .i64 z, .slice ao n c] 31)).alloc (.cells #[.int .i64 0, .slice none 0 0] 31)).cell? ⟨w.heap.size, 0, none⟩ = some (.int .i64 z) := cell_b (below_alloc _ _) (by simp)
  have ca0 : ((w.alloc (.cells #[.int .i64 z, .slice ao n c] 31)).alloc (.cells #[.int .i64 0, .slice none 0 0] 31)).cell? ⟨w.heap.size, 1, none⟩ = some (.slice ao n c) := cell_b (below_alloc _ _) (by simp)
  have hG := good_any lo hi z ao c n fs _ (hv.kept (Kept.of_below hB hhi)) (Nat.le_trans hhi hB.size) hs
  have hxl := hx.1
  unfold ResA
  obtain ⟨t, ht⟩ : ∃ t, algOkB z fs = t := ⟨_, rfl⟩
  rw [ht] at hG
  have HG := Lib.hid hG
  cases t with
  | false =>
    rw [sba_no (by simp [sbaB, subuB, ht])]
    clear hv hs hx hB hG ht hxl
    go_enter Try.func25, Try.ntmps25
    go_wp2_with fail
    refine HG.out.mono ?_
    rintro e w1 ⟨rfl, b1⟩
    have HB1 := Lib.hid (HB.out.trans (b1.mono HB.out.size))
    have cz : w1.cell? ⟨w.heap.size, 0, none⟩ = some (.int .i64 z) := cell_b b1 cz0
    have ca : w1.cell? ⟨w.heap.size, 1, none⟩ = some (.slice ao n c) := cell_b b1 ca0
    have HR1 := Lib.hid ((b1.block _ (by simp)).trans HR0.out)
    have hz1 : w.heap.size + 1 < w1.heap.size := by have := b1.size; simp at this; omega
    clear b1
    have HRw := HR1
    obtain ⟨r0, r1, rf⟩ := box_cells HRw.out
    go_wp2_with fail
    refine bodyPost_ret (v := .tuple #[.agg #[.int .i64 0, .slice none 0 0], .bool false]) (by simp [results, Try.results25, go_sem, r0, r1]) rfl ⟨none, 0, 0, fun _ => 0, fun _ => 0, rfl, rfl, OwnsOps.nil _ _ _ _ _ _, (HB1.out.setCell (by show _ ≤ _; simp) _).setCell (by show _ ≤ _; simp) _⟩
  | true =>
    by_cases hm0 : m = 0
    · subst hm0
      have hnil : xs = [] := List.eq_nil_of_length_eq_zero hxl
      rw [sba_no (by simp [sbaB, hnil])]
      clear hv hs hx hB hG ht hxl hnil
      go_enter Try.func25, Try.ntmps25
      go_wp2_with fail
      refine HG.out.mono ?_
      rintro e w1 ⟨rfl, b1⟩
      have HB1 := Lib.hid (HB.out.trans (b1.mono HB.out.size))
      have cz : w1.cell? ⟨w.heap.size, 0, none⟩ = some (.int .i64 z) := cell_b b1 cz0
      have ca : w1.cell? ⟨w.heap.size, 1, none⟩ = some (.slice ao n c) := cell_b b1 ca0
      have HR1 := Lib.hid ((b1.block _ (by simp)).trans HR0.out)
      have hz1 : w.heap.size + 1 < w1.heap.size := by have := b1.size; simp at this; omega
      clear b1
      have HRw := HR1
      obtain ⟨r0, r1, rf⟩ := box_cells HRw.out
      go_wp2_with fail
      refine bodyPost_ret (v := .tuple #[.agg #[.int .i64 0, .slice none 0 0], .bool false]) (by simp [results, Try.results25, go_sem, r0, r1]) rfl ⟨none, 0, 0, fun _ => 0, fun _ => 0, rfl, rfl, OwnsOps.nil _ _ _ _ _ _, (HB1.out.setCell (by show _ ≤ _; simp) _).setCell (by show _ ≤ _; simp) _⟩
    · have hne : ((m : Int) == 0) = false := by simp [hm0]
      have hI := fun (W : World) (hW : Below w.heap.size w W) => l5Is_any lo hi z ao c n fs lo2 hi2 bo d m xs W (hv.kept (Kept.of_below hW hhi)) (Nat.le_trans hhi hW.size) ht (hx.kept (Kept.of_below hW hhi2)) (Nat.le_trans hhi2 hW.size) hm
      obtain ⟨s, hsb⟩ : ∃ s, isSubB z fs xs = s := ⟨_, rfl⟩
      simp only [hsb] at hI
      have HI := Lib.hid hI
      have hem : xs.isEmpty = false := by
        cases xs with
        | nil => simp at hxl; omega
        | cons y r => rfl
      cases s with
      | false =>
        rw [sba_no (by simp [sbaB, subuB, hsb])]
        clear hv hs hx hB hG hI ht hxl hsb hem
        go_enter Try.func25, Try.ntmps25
        go_wp2_with fail
        refine HG.out.mono ?_
        rintro e w1 ⟨rfl, b1⟩
        have HB1 := Lib.hid (HB.out.trans (b1.mono HB.out.size))
        have cz : w1.cell? ⟨w.heap.size, 0, none⟩ = some (.int .i64 z) := cell_b b1 cz0
        have ca : w1.cell? ⟨w.heap.size, 1, none⟩ = some (.slice ao n c) := cell_b b1 ca0
        have HR1 := Lib.hid ((b1.block _ (by simp)).trans HR0.out)
        have hz1 : w.heap.size + 1 < w1.heap.size := by have := b1.size; simp at this; omega
        clear b1
        go_wp2_with fail
        refine (HI.out _ HB1.out).mono ?_
        rintro e w2 ⟨rfl, b2⟩
        have HB2 := Lib.hid (HB1.out.trans (b2.mono HB1.out.size))
        have HRw := Lib.hid ((b2.block _ hz1).trans HR1.out)
        clear b2
        obtain ⟨r0, r1, rf⟩ := box_cells HRw.out
        go_wp2_with fail
        refine bodyPost_ret (v := .tuple #[.agg #[.int .i64 0, .slice none 0 0], .bool false]) (by simp [results, Try.results25, go_sem, r0, r1]) rfl ⟨none, 0, 0, fun _ => 0, fun _ => 0, rfl, rfl, OwnsOps.nil _ _ _ _ _ _, (HB2.out.setCell (by show _ ≤ _; simp) _).setCell (by show _ ≤ _; simp) _⟩
      | true =>
        have hyes : sbaB z fs xs = true := by simp [sbaB, subuB, hsb, ht, hem]
        rw [sba_yes hyes]
        obtain ⟨_, _, ha, _, h1, h8⟩ := sbaB_of hyes
        obtain ⟨⟨hy1, hy2⟩, _, _⟩ := algOkB_of ht
        obtain ⟨zn, rfl⟩ : ∃ zn : Nat, z = (zn : Int) := ⟨z.toNat, by omega⟩
        obtain ⟨b3, o3, rfl, _, _, _⟩ := hx.at_ (by omega)
        have HS := Lib.hid (fun (W : World) (hW : Below w.heap.size w W) => l5Sub_any lo hi zn ao c n fs lo2 hi2 b3 o3 d m xs W (hv.kept (Kept.of_below hW hhi)) (Nat.le_trans hhi hW.size) ht (hx.kept (Kept.of_below hW hhi2)) (Nat.le_trans hhi2 hW.size) ha (by omega) (by omega))
        rw [hxl]
        clear hv hs hx hB hG hI ht hxl hsb hem hyes ha h1 h8 hy1 hy2
        go_enter Try.func25, Try.ntmps25
        go_wp2_with fail
        refine HG.out.mono ?_
        rintro e w1 ⟨rfl, b1⟩
        have HB1 := Lib.hid (HB.out.trans (b1.mono HB.out.size))
        have cz : w1.cell? ⟨w.heap.size, 0, none⟩ = some (.int .i64 (zn : Int)) := cell_b b1 cz0
        have ca : w1.cell? ⟨w.heap.size, 1, none⟩ = some (.slice ao n c) := cell_b b1 ca0
        have HR1 := Lib.hid ((b1.block _ (by simp)).trans HR0.out)
        have hz1 : w.heap.size + 1 < w1.heap.size := by have := b1.size; simp at this; omega
        clear b1
        go_wp2_with fail
        refine (HI.out _ HB1.out).mono ?_
        rintro e w2 ⟨rfl, b2⟩
        have HB2 := Lib.hid (HB1.out.trans (b2.mono HB1.out.size))
        have dz := cell_b b2 cz
        have da := cell_b b2 ca
        have HR2 := Lib.hid ((b2.block _ hz1).trans HR1.out)
        have hz2 : w.heap.size + 1 < w2.heap.size := by have := b2.size; omega
        clear b2
        go_wp2_with fail
        refine (HS.out _ HB2.out).mono ?_
        rintro e w3 ⟨va, vn, vc, G, C, rfl, hvn, ho3, b3_⟩
        have HB3 := Lib.hid (HB2.out.trans (b3_.mono HB2.out.size))
        have HO3 := Lib.hid ho3
        have HVn := Lib.hid hvn
        obtain ⟨r0, r1, rf⟩ := box_cells ((b3_.block _ hz2).trans HR2.out)
        clear b3_ ho3 hvn
        go_wp2_with fail
        have hK : ∀ (v1 v2 : Value), Kept w2.heap.size w3.heap.size w3 ((w3.setCell ⟨w.heap.size + 1, 0, none⟩ v1).setCell ⟨w.heap.size + 1, 1, none⟩ v2) := by
          intro v1 v2 q h1 h2
          rw [Below.heap_setCell _ _ _ _ (by show q ≠ w.heap.size + 1; omega), Below.heap_setCell _ _ _ _ (by show q ≠ w.heap.size + 1; omega)]
        refine bodyPost_ret (v := .tuple #[.agg #[.int .i64 (m : Int), .slice va vn vc], .bool true]) (by simp [results, Try.results25, go_sem, r0, r1]) rfl ⟨va, vn, vc, G, C, rfl, HVn.out, ((HO3.out.kept (hK _ _)).lo_mono (by omega)).hi_mono (by simp [World.setCell]), (HB3.out.setCell (by show _ ≤ _; simp) _).setCell (by show _ ≤ _; simp) _⟩

end Go.Proofs.Ytcmjkfcgekmomaa
