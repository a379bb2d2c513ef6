/-
  Contract: spec.ProductOf. Conditions: the bounds that it names.
-/
import Derived.Test.YtfdolbpbddjhmaaPdC
namespace Go.Proofs.Ytfdolbpbddjhmaa
open Go.RowKit
set_option linter.unusedVariables false
set_option linter.unusedSimpArgs false

set_option maxHeartbeats 2000000 in
theorem sprd_no (lo hi : Nat) (z : Int) (ao : Option Addr) (c n : Nat) (fs : List OpD) (lo2 hi2 : Nat) (y : Int) (bo : Option Addr) (d m : Nat) (gs : List OpD) (w : World) (hv : OView w lo hi ao n fs) (hhi : hi ≤ w.heap.size) (hs : ∀ (j : Nat) (f : OpD), fs[j]? = some f → f.2.length ≤ maxLen) (hu : OView w lo2 hi2 bo m gs) (hhi2 : hi2 ≤ w.heap.size) (hs2 : ∀ (j : Nat) (f : OpD), gs[j]? = some f → f.2.length ≤ maxLen) (hno : prdB z y fs gs = false) :
    Calls Try.prog 16 #[.agg #[.int .i64 z, .slice ao n c], .agg #[.int .i64 y, .slice bo m d]] w fun e w' => e = .returned (.tuple #[.agg #[.int .i64 0, .slice none 0 0], .bool false]) ∧ Below w.heap.size w w' := by
  obtain ⟨wB, hwB, hbx, hszB⟩ := bx2_new w z ao n c y bo m d 28
  obtain ⟨wo, hwo⟩ : ∃ wo : World, wo = wB.alloc (.cells #[.int .i64 0, .slice none 0 0] 28) := ⟨_, rfl⟩
  have hbx' : Bx2 w wo z ao n c y bo m d := by rw [hwo]; exact hbx.below (below_alloc _ _)
  have hso : wo.heap.size = w.heap.size + 1 + 1 + 1 := by rw [hwo]; simp [hszB]
  have HRes : Hid (wo.heap[w.heap.size + 1 + 1]? = some (.cells #[.int .i64 0, .slice none 0 0] 28 (0, 0))) := by
    have h := heap_alloc_new wB (.cells #[.int .i64 0, .slice none 0 0] 28)
    rw [hszB] at h
    rw [hwo]; exact h
  have hT := fun (W : World) (hW : Bx2 w W z ao n c y bo m d) => two_spec lo hi lo2 hi2 z y ao bo c n d m fs gs W (hv.kept (Kept.of_below hW.bel hhi)) (Nat.le_trans hhi hW.bel.size) hs (hu.kept (Kept.of_below hW.bel hhi2)) (Nat.le_trans hhi2 hW.bel.size) hs2
  obtain ⟨cz, ca, cz1, ca1, cB⟩ := hbx'
  have HBx := Lib.hid (Bx2.mk cz ca cz1 ca1 cB)
  obtain ⟨t, ht⟩ : ∃ t, sameH z y fs gs = t := ⟨_, rfl⟩
  rw [ht] at hT
  have HT := Lib.hid hT
  cases t with
  | false =>
    clear hv hs hu hs2 hbx hT cB ht hno hszB
    go_enter Try.func16, Try.ntmps16
    go_wp2_with fail
    rw [← hwB]
    rw [← hwo]
    clear hwo hwB
    go_wp2_with fail
    refine (HT.out _ HBx.out).mono ?_
    rintro e w1 ⟨rfl, b1⟩
    have HB1 := Lib.hid (HBx.out.below b1).bel
    obtain ⟨r0, r1, rf⟩ := box_cells ((b1.block _ (by omega)).trans HRes.out)
    clear b1 cz ca cz1 ca1
    go_wp2_with fail
    refine bodyPost_ret (v := .tuple #[.agg #[.int .i64 0, .slice none 0 0], .bool false]) (by simp [results, Try.results16, go_sem, r0, r1]) rfl ⟨rfl, (HB1.out.setCell (by show _ ≤ _; simp; omega) _).setCell (by show _ ≤ _; simp; omega) _⟩
  | true =>
    obtain ⟨hok, hok2, _⟩ := sameH_of ht
    obtain ⟨⟨z1, z8⟩, _, _⟩ := algOkB_of hok
    obtain ⟨⟨y1, y8⟩, _, _⟩ := algOkB_of hok2
    obtain ⟨p1, p64⟩ := mul_bd z1 z8 y1 y8
    have hbig : ¬ z * y ≤ 8 := by
      intro h
      rw [prdB, ht] at hno
      simp [h] at hno
    have hbig2 : 8 < z * y := by omega
    clear hv hs hu hs2 hbx hT cB ht hno hszB hok hok2
    go_enter Try.func16, Try.ntmps16
    go_wp2_with fail
    rw [← hwB]
    rw [← hwo]
    clear hwo hwB
    go_wp2_with fail
    refine (HT.out _ HBx.out).mono ?_
    rintro e w1 ⟨rfl, b1⟩
    have HBx1 := Lib.hid (HBx.out.below b1)
    have HB1 := Lib.hid HBx1.out.bel
    clear cz ca cz1 ca1
    obtain ⟨cz, ca, cz1, ca1, cB⟩ := HBx1.out
    obtain ⟨r0, r1, rf⟩ := box_cells ((b1.block _ (by omega)).trans HRes.out)
    clear b1 cB
    go_wp2_with fail
    refine bodyPost_ret (v := .tuple #[.agg #[.int .i64 0, .slice none 0 0], .bool false]) (by simp [results, Try.results16, go_sem, r0, r1]) rfl ⟨rfl, (HB1.out.setCell (by show _ ≤ _; simp; omega) _).setCell (by show _ ≤ _; simp; omega) _⟩

set_option maxHeartbeats 2000000 in
theorem sprd_yes (lo hi : Nat) (z : Int) (ao : Option Addr) (c n : Nat) (fs : List OpD) (lo2 hi2 : Nat) (y : Int) (bo : Option Addr) (d m : Nat) (gs : List OpD) (w : World) (hv : OView w lo hi ao n fs) (hhi : hi ≤ w.heap.size) (hs : ∀ (j : Nat) (f : OpD), fs[j]? = some f → f.2.length ≤ maxLen) (hu : OView w lo2 hi2 bo m gs) (hhi2 : hi2 ≤ w.heap.size) (hs2 : ∀ (j : Nat) (f : OpD), gs[j]? = some f → f.2.length ≤ maxLen) (hyes : prdB z y fs gs = true) :
    Calls Try.prog 16 #[.agg #[.int .i64 z, .slice ao n c], .agg #[.int .i64 y, .slice bo m d]] w fun e w' => ResA w w' (z * y) (prdL z y fs gs) true e := by
  obtain ⟨hsm, h8⟩ := prdB_of hyes
  obtain ⟨hok, hok2, hty⟩ := sameH_of hsm
  obtain ⟨⟨z1, z8⟩, _, _⟩ := algOkB_of hok
  obtain ⟨⟨y1, y8⟩, _, _⟩ := algOkB_of hok2
  have hp1 := mul_size z1 y1
  obtain ⟨wB, hwB, hbx, hszB⟩ := bx2_new w z ao n c y bo m d 28
  obtain ⟨wo, hwo⟩ : ∃ wo : World, wo = wB.alloc (.cells #[.int .i64 0, .slice none 0 0] 28) := ⟨_, rfl⟩
  have hbx' : Bx2 w wo z ao n c y bo m d := by rw [hwo]; exact hbx.below (below_alloc _ _)
  have hso : wo.heap.size = w.heap.size + 1 + 1 + 1 := by rw [hwo]; simp [hszB]
  have HRes : Hid (wo.heap[w.heap.size + 1 + 1]? = some (.cells #[.int .i64 0, .slice none 0 0] 28 (0, 0))) := by
    have h := heap_alloc_new wB (.cells #[.int .i64 0, .slice none 0 0] 28)
    rw [hszB] at h
    rw [hwo]; exact h
  have hT := fun (W : World) (hW : Bx2 w W z ao n c y bo m d) => two_spec lo hi lo2 hi2 z y ao bo c n d m fs gs W (hv.kept (Kept.of_below hW.bel hhi)) (Nat.le_trans hhi hW.bel.size) hs (hu.kept (Kept.of_below hW.bel hhi2)) (Nat.le_trans hhi2 hW.bel.size) hs2
  obtain ⟨cz, ca, cz1, ca1, cB⟩ := hbx'
  have HBx := Lib.hid (Bx2.mk cz ca cz1 ca1 cB)
  rw [hsm] at hT
  have HT := Lib.hid hT
  have HP := Lib.hid (fun (W : World) (hW : Bx2 w W z ao n c y bo m d) => l8Prod_any lo hi z ao c n fs lo2 hi2 y bo d m gs W (hv.kept (Kept.of_below hW.bel hhi)) (Nat.le_trans hhi hW.bel.size) (hu.kept (Kept.of_below hW.bel hhi2)) (Nat.le_trans hhi2 hW.bel.size) hok hok2 hty h8)
  clear hv hs hu hs2 hbx hT cB hsm hyes hszB hok hok2 hty
  go_enter Try.func16, Try.ntmps16
  go_wp2_with fail
  rw [← hwB]
  rw [← hwo]
  clear hwo hwB
  go_wp2_with fail
  refine (HT.out _ HBx.out).mono ?_
  rintro e w1 ⟨rfl, b1⟩
  have HBx1 := Lib.hid (HBx.out.below b1)
  clear cz ca cz1 ca1
  obtain ⟨cz, ca, cz1, ca1, cB⟩ := HBx1.out
  have hz1 : w.heap.size + 1 + 1 < w1.heap.size := by have := b1.size; omega
  have HR1 := Lib.hid ((b1.block _ (by omega)).trans HRes.out)
  clear b1 cB hso
  go_wp2_with fail
  refine (HP.out _ HBx1.out).mono ?_
  rintro e w2 hN
  unfold NewAlgP at hN
  obtain ⟨va, vn, vc, G, C, rfl, hl, hops, b2⟩ := hN
  have HOps := Lib.hid hops
  have HL := Lib.hid hl
  have HB2 := Lib.hid (HBx1.out.below b2).bel
  obtain ⟨r0, r1, rf⟩ := box_cells ((b2.block _ hz1).trans HR1.out)
  have rf0 := rf 0
  have rf1 := rf 1
  have hK : ∀ (v1 v2 : Value), Kept w1.heap.size w2.heap.size w2 ((w2.setCell ⟨w.heap.size + 1 + 1, 0, none⟩ v1).setCell ⟨w.heap.size + 1 + 1, 1, none⟩ v2) := by
    intro v1 v2 q h1 h2
    rw [Below.heap_setCell _ _ _ _ (by show q ≠ w.heap.size + 1 + 1; omega), Below.heap_setCell _ _ _ _ (by show q ≠ w.heap.size + 1 + 1; omega)]
  have HK := Lib.hid hK
  clear b2 hops hl hK
  go_wp2_with fail
  refine bodyPost_ret (v := .tuple #[.agg #[.int .i64 (z * y), .slice va vn vc], .bool true]) (by simp [results, Try.results16, go_sem, r0, r1]) rfl (by unfold ResA; exact ⟨va, vn, vc, G, C, rfl, HL.out, ((HOps.out.kept (HK.out _ _)).lo_mono (by omega)).hi_mono (by simp [World.setCell]), (HB2.out.setCell (by show _ ≤ _; simp; omega) _).setCell (by show _ ≤ _; simp; omega) _⟩)

theorem specProductOf (lo hi : Nat) (z : Int) (ao : Option Addr) (c n : Nat) (fs : List OpD) (lo2 hi2 : Nat) (y : Int) (bo : Option Addr) (d m : Nat) (gs : List OpD) (w : World) (hv : OView w lo hi ao n fs) (hhi : hi ≤ w.heap.size) (hs : ∀ (j : Nat) (f : OpD), fs[j]? = some f → f.2.length ≤ maxLen) (hu : OView w lo2 hi2 bo m gs) (hhi2 : hi2 ≤ w.heap.size) (hs2 : ∀ (j : Nat) (f : OpD), gs[j]? = some f → f.2.length ≤ maxLen) :
    Calls Try.prog 16 #[.agg #[.int .i64 z, .slice ao n c], .agg #[.int .i64 y, .slice bo m d]] w fun e w' => ResA w w' (valProductOf z fs y gs).1 (valProductOf z fs y gs).2.1 (valProductOf z fs y gs).2.2 e := by
  cases h : prdB z y fs gs with
  | true =>
    rw [show valProductOf z fs y gs = (z * y, prdL z y fs gs, true) by simp [valProductOf, h]]
    exact sprd_yes lo hi z ao c n fs lo2 hi2 y bo d m gs w hv hhi hs hu hhi2 hs2 h
  | false =>
    rw [show valProductOf z fs y gs = (0, [], false) by simp [valProductOf, h]]
    refine (sprd_no lo hi z ao c n fs lo2 hi2 y bo d m gs w hv hhi hs hu hhi2 hs2 h).mono fun e w' ⟨he, hb⟩ => ?_
    exact ⟨none, 0, 0, fun _ => 0, fun _ => 0, he, rfl, OwnsOps.nil _ _ _ _ _ _, hb⟩

end Go.Proofs.Ytfdolbpbddjhmaa
