/-
  Contract: impl.TypeOf. Conditions: the bounds that each theorem names.
-/
import Derived.Test.YthgggoodceogkaaShelf
import Derived.Test.YthgggoodceogkaaSig
namespace Go.Proofs.Ythgggoodceogkaa
open Go.RowKit
set_option linter.unusedVariables false
set_option linter.unusedSimpArgs false

theorem sg_list {fs : List OpD} {n : Nat} (hl : fs.length = n) (hn : n ≤ 4) : ([sg fs n 0, sg fs n 1, sg fs n 2, sg fs n 3].take n) = typeV fs := by
  subst hl
  match fs, hn with
  | [], _ => rfl
  | [a], _ => simp [sg, typeV]
  | [a, b], _ => simp [sg, typeV]
  | [a, b, c], _ => simp [sg, typeV]
  | [a, b, c, d], _ => simp [sg, typeV]
  | a :: b :: c :: d :: x :: r, h => simp at h

theorem slice_four (W : World) (B n : Nat) (hn : n ≤ 4) : (Instr.sliceAt 60 (.pointer (some ⟨B, 1, none⟩)) none (some (.int .i64 (n : Int))) none).run Try.prog W = .ok (.slice (some ⟨B, 1, none⟩) n 4) W := by
  have ha : Try.prog.arrayLen 60 = 4 := by kernel_rfl
  have he : Try.prog.elem 60 = 3 := by kernel_rfl
  have ht : Try.prog.underlying 60 = some (.array (Try.prog.arrayLen 60) (Try.prog.elem 60)) := by kernel_rfl
  have hs : (sizeOf 3).run Try.prog W = .ok 1 W := by kernel_rfl
  rw [run_sliceAt_array_h W 60 ⟨B, 1, none⟩ ht .i64 (n : Int) (by omega) (by rw [ha]; omega), he, hs, ha]
  simp [Result.andThen, slicedAt, Addr.add]

set_option maxRecDepth 100000 in
set_option maxHeartbeats 1000000 in
theorem implTypeOf (lo hi : Nat) (z : Int) (ao : Option Addr) (c n : Nat) (fs : List OpD) (w : World) (hv : OView w lo hi ao n fs) (hhi : hi ≤ w.heap.size) (hs : ∀ (j : Nat) (f : OpD), fs[j]? = some f → f.2.length ≤ maxLen) :
    Calls Try.prog 20 #[.agg #[.int .i64 z, .slice ao n c]] w fun e w' => ResL w w' (valTypeOf z fs).1 (valTypeOf z fs).2 e := by
  have hB := (Below.refl w.heap.size w).alloc (Nat.le_refl _) (.cells #[.int .i64 z, .slice ao n c] 29)
  have HB := Lib.hid hB
  have hG := isAlg_any lo hi z ao c n fs _ (hv.kept (Kept.of_below hB hhi)) (Nat.le_trans hhi hB.size) hs
  obtain ⟨t, ht⟩ : ∃ t, algOkB z fs = t := ⟨_, rfl⟩
  rw [ht] at hG
  have HG := Lib.hid hG
  unfold ResL
  cases t with
  | false =>
    rw [show valTypeOf z fs = ([], false) by simp [valTypeOf, ht]]
    clear hG hB hs hv ht
    go_enter Try.func20, Try.ntmps20
    go_wp2_with fail
    refine HG.out.mono ?_
    rintro e w1 ⟨rfl, b1⟩
    have HB1 := Lib.hid (HB.out.trans (b1.mono HB.out.size))
    clear b1
    go_wp2_with fail
    go_ret2
    exact ⟨none, 0, 0, rfl, rfl, ⟨World.ownsRow_nil _ _ _ _, fun k h => by simp [Value.ownBlock] at h⟩, HB1.out⟩
  | true =>
    rw [show valTypeOf z fs = (typeV fs, true) by simp [valTypeOf, ht]]
    have hl := hv.1
    have hn4 : n ≤ 4 := by have := (algOkB_of ht).2.1; omega
    have HS := Lib.hid (fun (w1 : World) (hw : Below w.heap.size w w1) => sig_any lo hi z ao c n fs w1 (hv.kept (Kept.of_below hw hhi)) (by have := hw.size; omega) hn4)
    have HLen : Hid (n = (typeV fs).length) := by unfold Hid typeV; rw [List.length_map, hl]
    have HSg := Lib.hid (sg_list hl hn4)
    clear hG hB hs hv ht hl
    go_enter Try.func20, Try.ntmps20
    go_wp2_with fail
    refine HG.out.mono ?_
    rintro e w1 ⟨rfl, b1⟩
    have cz : w1.cell? ⟨w.heap.size, 0, none⟩ = some (.int .i64 z) := (b1.cell (p := ⟨w.heap.size, 0, none⟩) (by simp)).trans (by simp)
    have ca : w1.cell? ⟨w.heap.size, 1, none⟩ = some (.slice ao n c) := (b1.cell (p := ⟨w.heap.size, 1, none⟩) (by simp)).trans (by simp)
    have HB1 := Lib.hid (HB.out.trans (b1.mono HB.out.size))
    clear b1
    go_wp2_with fail
    refine (HS.out _ HB1.out).mono ?_
    rintro e w2 ⟨rfl, b2⟩
    have HB2 := Lib.hid (HB1.out.trans (b2.mono HB1.out.size))
    clear b2
    obtain ⟨s0, hs0⟩ : ∃ s, s = sg fs n 0 := ⟨_, rfl⟩
    obtain ⟨s1, hs1⟩ : ∃ s, s = sg fs n 1 := ⟨_, rfl⟩
    obtain ⟨s2, hs2⟩ : ∃ s, s = sg fs n 2 := ⟨_, rfl⟩
    obtain ⟨s3, hs3⟩ : ∃ s, s = sg fs n 3 := ⟨_, rfl⟩
    rw [← hs0, ← hs1, ← hs2, ← hs3] at HSg ⊢
    clear hs0 hs1 hs2 hs3
    have hsl := slice_four (w2.alloc (.cells #[.int .i64 (n : Int), .int .i64 s0, .int .i64 s1, .int .i64 s2, .int .i64 s3] 62)) w2.heap.size n hn4
    have hcl := Try.slices_Clone_int w2.heap.size 1 n 4 [s0, s1, s2, s3] (w2.alloc (.cells #[.int .i64 (n : Int), .int .i64 s0, .int .i64 s1, .int .i64 s2, .int .i64 s3] 62)) hn4 (by omega) (fun j hj => by
      match j, hj with
      | 0, _ => simp
      | 1, _ => simp
      | 2, _ => simp
      | 3, _ => simp)
    rw [HSg.out] at hcl
    have HCl := Lib.hid hcl
    have HBx := Lib.hid (HB2.out.alloc HB2.out.size (.cells #[.int .i64 (n : Int), .int .i64 s0, .int .i64 s1, .int .i64 s2, .int .i64 s3] 62))
    clear hcl
    go_wp2_with fail
    refine HCl.out.mono ?_
    rintro e w3 ⟨v, rfl, ho, hne, b3⟩
    obtain ⟨ga, gn, gc, rfl⟩ : ∃ ga gn gc, v = .slice ga gn gc := by
      rcases ho.2 with ⟨h, _⟩ | ⟨g, cap, _, h, _⟩
      · exact ⟨_, _, _, h⟩
      · exact ⟨_, _, _, h⟩
    obtain rfl : gn = n := by
      rcases ho.2 with ⟨h, _⟩ | ⟨g, cap, _, h, _⟩
      · exact absurd h hne
      · cases h; rfl
    have HO := Lib.hid ho
    have HB3 := Lib.hid (HBx.out.trans (b3.mono HBx.out.size))
    clear ho b3 hne
    go_wp2_with fail
    go_ret2
    have ho := ownsRow_base HO.out HBx.out.size
    exact ⟨_, _, _, rfl, HLen.out, OwnsInts.of_row ho, HB3.out⟩

end Go.Proofs.Ythgggoodceogkaa
