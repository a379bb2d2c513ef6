/-
  Contracts: spec.FactorOfProduct and impl.FactorOfProduct. Conditions: the bounds that each theorem names.
-/
import Derived.Test.YtfdolbpbddjhmaaPdD
namespace Go.Proofs.Ytfdolbpbddjhmaa
open Go.RowKit
set_option linter.unusedVariables false
set_option linter.unusedSimpArgs false

/-- The element of a factor that a pair has. -/
def facE (y wh : Int) (q : Nat) : Int := if wh = 0 then (q : Int) / y else (q : Int) % y
def facT (y wh : Int) (n : Nat) : List Int := (List.range n).map (facE y wh)
theorem facT_len (y wh : Int) (n : Nat) : (facT y wh n).length = n := by simp [facT]
theorem facT_succ (y wh : Int) (n : Nat) : facT y wh (n + 1) = facT y wh n ++ [facE y wh n] := by simp [facT, List.range_succ]
def facK (y wh : Int) (n q : Nat) : List Int := facT y wh q ++ List.replicate (n - q) 0
theorem facK_zero (y wh : Int) (n : Nat) : facK y wh n 0 = List.replicate n 0 := by simp [facK, facT]
theorem facK_all (y wh : Int) (n : Nat) : facK y wh n n = facT y wh n := by simp [facK]
theorem facK_set (y wh : Int) {n q : Nat} (h : q < n) : (facK y wh n q).set q (facE y wh q) = facK y wh n (q + 1) := by
  unfold facK
  rw [List.set_append_right _ _ (by rw [facT_len]; exact Nat.le_refl _), facT_len, Nat.sub_self, facT_succ, show n - q = (n - (q + 1)) + 1 by omega, List.replicate_succ]
  simp
def facB (z y : Int) (fs gs : List OpD) (wh : Int) : Bool := prdB z y fs gs && inB 0 1 wh
def valFactorOfProduct (z : Int) (fs : List OpD) (y : Int) (gs : List OpD) (wh : Int) : List Int × Bool := if facB z y fs gs wh then (facT y wh (z * y).toNat, true) else ([], false)
theorem smallFactorOfProduct (z : Int) (fs : List OpD) (y : Int) (gs : List OpD) (wh : Int) : (valFactorOfProduct z fs y gs wh).1.length ≤ 4194304 := by
  unfold valFactorOfProduct
  split
  · rename_i h
    simp only [facB, Bool.and_eq_true] at h
    have := (prdB_of h.1).2
    rw [facT_len]; omega
  · simp
theorem row_push {w : World} {lo e k d : Nat} {v : Value} {xs : List Int} {x : Int} (h : w.ownsRow lo e 1 v k (xs.map (Value.int .i64) ++ [.int .i64 x])) : w.ownsRow lo e 1 v k ((xs ++ [x]).map (Value.int .i64)) := by simpa using h

set_option maxRecDepth 100000 in
set_option maxHeartbeats 4000000 in
theorem specFactorOfProduct (lo hi : Nat) (z : Int) (ao : Option Addr) (c n : Nat) (fs : List OpD) (lo2 hi2 : Nat) (y : Int) (bo : Option Addr) (d m : Nat) (gs : List OpD) (wh : Int) (w : World) (hv : OView w lo hi ao n fs) (hhi : hi ≤ w.heap.size) (hs : ∀ (j : Nat) (f : OpD), fs[j]? = some f → f.2.length ≤ maxLen) (hu : OView w lo2 hi2 bo m gs) (hhi2 : hi2 ≤ w.heap.size) (hs2 : ∀ (j : Nat) (f : OpD), gs[j]? = some f → f.2.length ≤ maxLen) (hwf : (Lit.int .i64 wh).wf = true) :
    Calls Try.prog 24 #[.agg #[.int .i64 z, .slice ao n c], .agg #[.int .i64 y, .slice bo m d], .int .i64 wh] w fun e w' => ResL w w' (valFactorOfProduct z fs y gs wh).1 (valFactorOfProduct z fs y gs wh).2 e := by
  obtain ⟨wB, hwB, hbx, hszB⟩ := bx2_new w z ao n c y bo m d 28
  obtain ⟨wo, hwo⟩ : ∃ wo : World, wo = wB.alloc (.cells #[] 3) := ⟨_, rfl⟩
  have hbx' : Bx2 w wo z ao n c y bo m d := by rw [hwo]; exact hbx.below (below_alloc _ _)
  have hso : wo.heap.size = w.heap.size + 1 + 1 + 1 := by rw [hwo]; simp [hszB]
  have HRow : Hid (wo.ownsRow (w.heap.size + 1 + 1) 3 1 (.slice (some ⟨w.heap.size + 1 + 1, 0, none⟩) 0 0) 0 []) := by
    have h := lit_row wB (w.heap.size + 1 + 1) 3 1 (by decide) (by omega)
    rw [← hwo, hszB] at h
    exact h
  have hT := fun (W : World) (hW : Bx2 w W z ao n c y bo m d) => two_spec lo hi lo2 hi2 z y ao bo c n d m fs gs W (hv.kept (Kept.of_below hW.bel hhi)) (Nat.le_trans hhi hW.bel.size) hs (hu.kept (Kept.of_below hW.bel hhi2)) (Nat.le_trans hhi2 hW.bel.size) hs2
  obtain ⟨cz, ca, cz1, ca1, cB⟩ := hbx'
  have HBx := Lib.hid (Bx2.mk cz ca cz1 ca1 cB)
  unfold ResL
  obtain ⟨t, ht⟩ : ∃ t, sameH z y fs gs = t := ⟨_, rfl⟩
  rw [ht] at hT
  have HT := Lib.hid hT
  cases t with
  | false =>
    rw [show valFactorOfProduct z fs y gs wh = ([], false) by simp [valFactorOfProduct, facB, prdB, ht]]
    clear hv hs hu hs2 hbx hT cB ht hszB
    go_enter Try.func24, Try.ntmps24
    go_wp2_with fail
    rw [← hwB]
    go_wp2_with fail
    rw [← hwo]
    clear hwo hwB
    go_wp2_with fail
    refine (HT.out _ HBx.out).mono ?_
    rintro e w1 ⟨rfl, b1⟩
    have HBx1 := Lib.hid (HBx.out.below b1)
    have HB1 := Lib.hid HBx1.out.bel
    have HR1 := Lib.hid (HRow.out.kept (grown_of_below b1 none) (own_em _))
    clear cz ca cz1 ca1
    obtain ⟨cz, ca, cz1, ca1, cB⟩ := HBx1.out
    clear b1 cB
    go_wp2_with fail
    go_ret2
    exact ⟨_, 0, 0, rfl, rfl, OwnsInts.of_row (ownsRow_base (HR1.out) (by omega)), HB1.out⟩
  | true =>
    obtain ⟨hok, hok2, _⟩ := sameH_of ht
    obtain ⟨⟨z1, z8⟩, _, _⟩ := algOkB_of hok
    obtain ⟨⟨y1, y8⟩, _, _⟩ := algOkB_of hok2
    obtain ⟨p1, p64⟩ := mul_bd z1 z8 y1 y8
    by_cases h8 : z * y ≤ 8
    · have hn8 : ¬ 8 < z * y := by omega
      have HI := Lib.hid (fun W => in_any wh 0 1 W)
      obtain ⟨ti, hti⟩ : ∃ ti, inB 0 1 wh = ti := ⟨_, rfl⟩
      rw [hti] at HI
      cases ti with
      | false =>
        rw [show valFactorOfProduct z fs y gs wh = ([], false) by simp [valFactorOfProduct, facB, hti]]
        clear hv hs hu hs2 hbx hT cB ht hszB hok hok2 hti
        go_enter Try.func24, Try.ntmps24
        go_wp2_with fail
        rw [← hwB]
        go_wp2_with fail
        rw [← hwo]
        clear hwo hwB
        go_wp2_with fail
        refine (HT.out _ HBx.out).mono ?_
        rintro e w1 ⟨rfl, b1⟩
        have HBx1 := Lib.hid (HBx.out.below b1)
        have HB1 := Lib.hid HBx1.out.bel
        have HR1 := Lib.hid (HRow.out.kept (grown_of_below b1 none) (own_em _))
        clear cz ca cz1 ca1
        obtain ⟨cz, ca, cz1, ca1, cB⟩ := HBx1.out
        clear b1 cB
        go_wp2_with fail
        refine (HI.out _).mono ?_
        rintro e wi ⟨rfl, rfl⟩
        go_wp2_with fail
        go_ret2
        exact ⟨_, 0, 0, rfl, rfl, OwnsInts.of_row (ownsRow_base (HR1.out) (by omega)), HB1.out⟩
      | true =>
        rw [show valFactorOfProduct z fs y gs wh = (facT y wh (z * y).toNat, true) by simp [valFactorOfProduct, facB, prdB, ht, hti, h8]]
        obtain ⟨N, hN⟩ : ∃ N : Nat, z * y = (N : Int) := ⟨(z * y).toNat, by omega⟩
        have hNt : (z * y).toNat = N := by omega
        rw [hNt]
        have hN8 : N ≤ 8 := by omega
        have HN := Lib.hid hN
        have HLen : Hid (N = (facT y wh N).length) := by unfold Hid; rw [facT_len]
        obtain ⟨i0, hi0, hz0, hz1, hz2⟩ := info_parts Try.infoInt
        clear hv hs hu hs2 hbx hT cB ht hszB hok hok2 hti hN hNt
        go_enter Try.func24, Try.ntmps24
        go_wp2_with fail
        rw [← hwB]
        go_wp2_with fail
        rw [← hwo]
        clear hwo hwB
        go_wp2_with fail
        refine (HT.out _ HBx.out).mono ?_
        rintro e w1 ⟨rfl, b1⟩
        have HBx1 := Lib.hid (HBx.out.below b1)
        have HB1 := Lib.hid HBx1.out.bel
        have HR1 := Lib.hid (HRow.out.kept (grown_of_below b1 none) (own_em _))
        clear cz ca cz1 ca1
        obtain ⟨cz, ca, cz1, ca1, cB⟩ := HBx1.out
        clear b1 cB hso
        go_wp2_with fail
        refine (HI.out _).mono ?_
        rintro e wi ⟨rfl, rfl⟩
        go_wp2_with fail
        go_loopw [8, 9] (fun v i wr => ∃ (k gb dd : Nat), k ≤ N ∧ i = .int .i64 (k : Int) ∧ v = .slice (some ⟨gb, 0, none⟩) k dd ∧ Hid (wr.ownsRow (w.heap.size + 1 + 1) 3 1 (.slice (some ⟨gb, 0, none⟩) k dd) k ((facT y wh k).map (Value.int .i64))) ∧ Hid (Bx2 w wr z ao n c y bo m d) ∧ w.heap.size + 1 < wr.heap.size) (fun _ i _ => N - (intOf i).toNat)
        case atStart => exact ⟨0, _, _, Nat.zero_le _, rfl, rfl, HR1, HBx1, by have h_ : w.heap.size + 1 + 1 < w1.heap.size := (HR1.out.lt _ rfl).2; omega⟩
        case round =>
          obtain ⟨k, gb, dd, hk, rfl, rfl, HR, HBxr, hsr⟩ := hrel
          clear cz ca cz1 ca1
          obtain ⟨cz, ca, cz1, ca1, cB⟩ := HBxr.out
          by_cases hlt : k < N
          · have hlt' : (k : Int) < z * y := by have := HN.out; omega
            have hwd : IntKind.i64.wrap ((k : Int).tdiv y) = (k : Int) / y := IntWalk.i64_quo _ y ⟨by omega, by omega, y1⟩
            have hwm : (k : Int).tmod y = (k : Int) % y := Int.tmod_eq_emod_of_nonneg (by omega)
            have hd0 : 0 ≤ (k : Int) / y := Int.ediv_nonneg (by omega) (by omega)
            have hd8 : (k : Int) / y ≤ 8 := Int.le_trans (Int.ediv_le_self _ (by omega)) (by omega)
            have hyn : ¬ y = 0 := by omega
            have hy0 : 0 < y := by omega
            have hgs := HR.out.lt gb rfl
            by_cases hw0 : wh = 0
            · have hE : Hid (facE y wh k = (k : Int) / y) := by unfold Hid facE; rw [if_pos hw0]
              have hw0' : (wh == 0) = true := by simp [hw0]
              have HW0 := Lib.hid hw0
              clear hw0 cB
              go_wp2_with (at_builtin; (refine wpList_append_own _ rfl _ _ 37 rfl (w.heap.size + 1 + 1) 3 i0 (.int .i64 0) 1 8 Try.underlying37 hi0 hz0 hz1 hz2 rfl (by decide) (.slice (some ⟨gb, 0, none⟩) k dd) k ((facT y wh k).map (Value.int .i64)) rfl (HR.out.alloc _) ⟨wr.heap.size, 0, none⟩ 1 1 [.int .i64 ((k : Int) / y)] rfl rfl (cell_one_new _ _ _) (fun x hx => by simp at hx; subst hx; rfl) (by unfold maxLen; omega) (by omega) (by simp; omega) ?_; intro v' w3 hown' hgrow' hnil'; obtain ⟨g3, cap3, rfl⟩ := ownsRow_succ hown'))
              have HR3 : Hid (w3.ownsRow (w.heap.size + 1 + 1) 3 1 (.slice (some ⟨g3, 0, none⟩) (k + 1) cap3) (k + 1) ((facT y wh (k + 1)).map (Value.int .i64))) := by
                unfold Hid
                rw [facT_succ, List.map_append, List.map_cons, List.map_nil, hE.out]; exact hown'
              have HBx3 : Hid (Bx2 w w3 z ao n c y bo m d) := HBxr.out.same (((HBxr.out.bel.alloc HBxr.out.bel.size _).grown hgrow' (by have := HBxr.out.bel.size; simp; omega) (fun b hb => by have h_ : gb = b := (by simpa [Value.ownBlock] using hb); omega))) (fun q hq => by rw [hgrow'.block q (by simp; omega) (fun e => by have h_ : q = gb := (by simpa [Value.ownBlock] using e); omega), Below.heap_alloc _ _ _ (by show q < wr.heap.size; omega)])
              have hs3 : w.heap.size + 1 < w3.heap.size := by have := hgrow'.size; simp at this; omega
              clear hown' hgrow' hnil'
              go_wp2
              go_roundw
              case rel => exact ⟨k + 1, g3, cap3, by omega, by go_num, rfl, HR3, HBx3, hs3⟩
              case measure => simp [intOf]; omega
            · have hE : Hid (facE y wh k = (k : Int) % y) := by unfold Hid facE; rw [if_neg hw0]
              have hw0' : (wh == 0) = false := by simp [hw0]
              have HW0 := Lib.hid hw0
              clear hw0 cB
              go_wp2_with (at_builtin; (refine wpList_append_own _ rfl _ _ 37 rfl (w.heap.size + 1 + 1) 3 i0 (.int .i64 0) 1 8 Try.underlying37 hi0 hz0 hz1 hz2 rfl (by decide) (.slice (some ⟨gb, 0, none⟩) k dd) k ((facT y wh k).map (Value.int .i64)) rfl (HR.out.alloc _) ⟨wr.heap.size, 0, none⟩ 1 1 [.int .i64 ((k : Int) % y)] rfl rfl (cell_one_new _ _ _) (fun x hx => by simp at hx; subst hx; rfl) (by unfold maxLen; omega) (by omega) (by simp; omega) ?_; intro v' w3 hown' hgrow' hnil'; obtain ⟨g3, cap3, rfl⟩ := ownsRow_succ hown'))
              have HR3 : Hid (w3.ownsRow (w.heap.size + 1 + 1) 3 1 (.slice (some ⟨g3, 0, none⟩) (k + 1) cap3) (k + 1) ((facT y wh (k + 1)).map (Value.int .i64))) := by
                unfold Hid
                rw [facT_succ, List.map_append, List.map_cons, List.map_nil, hE.out]; exact hown'
              have HBx3 : Hid (Bx2 w w3 z ao n c y bo m d) := HBxr.out.same (((HBxr.out.bel.alloc HBxr.out.bel.size _).grown hgrow' (by have := HBxr.out.bel.size; simp; omega) (fun b hb => by have h_ : gb = b := (by simpa [Value.ownBlock] using hb); omega))) (fun q hq => by rw [hgrow'.block q (by simp; omega) (fun e => by have h_ : q = gb := (by simpa [Value.ownBlock] using e); omega), Below.heap_alloc _ _ _ (by show q < wr.heap.size; omega)])
              have hs3 : w.heap.size + 1 < w3.heap.size := by have := hgrow'.size; simp at this; omega
              clear hown' hgrow' hnil'
              go_wp2
              go_roundw
              case rel => exact ⟨k + 1, g3, cap3, by omega, by go_num, rfl, HR3, HBx3, hs3⟩
              case measure => simp [intOf]; omega
          · obtain rfl : k = N := by omega
            have hlt' : ¬ (k : Int) < z * y := by have := HN.out; omega
            go_wp2
            go_ret2
            exact ⟨_, _, _, rfl, HLen.out, OwnsInts.of_row (ownsRow_base HR.out (by omega)), HBxr.out.bel⟩
    · rw [show valFactorOfProduct z fs y gs wh = ([], false) by simp [valFactorOfProduct, facB, prdB, h8]]
      have hbig2 : 8 < z * y := by omega
      clear hv hs hu hs2 hbx hT cB ht hszB hok hok2
      go_enter Try.func24, Try.ntmps24
      go_wp2_with fail
      rw [← hwB]
      go_wp2_with fail
      rw [← hwo]
      clear hwo hwB
      go_wp2_with fail
      refine (HT.out _ HBx.out).mono ?_
      rintro e w1 ⟨rfl, b1⟩
      have HBx1 := Lib.hid (HBx.out.below b1)
      have HB1 := Lib.hid HBx1.out.bel
      have HR1 := Lib.hid (HRow.out.kept (grown_of_below b1 none) (own_em _))
      clear cz ca cz1 ca1
      obtain ⟨cz, ca, cz1, ca1, cB⟩ := HBx1.out
      clear b1 cB
      go_wp2_with fail
      go_ret2
      exact ⟨_, 0, 0, rfl, rfl, OwnsInts.of_row (ownsRow_base (HR1.out) (by omega)), HB1.out⟩


set_option maxRecDepth 100000 in
set_option maxHeartbeats 4000000 in
theorem implFactorOfProduct (lo hi : Nat) (z : Int) (ao : Option Addr) (c n : Nat) (fs : List OpD) (lo2 hi2 : Nat) (y : Int) (bo : Option Addr) (d m : Nat) (gs : List OpD) (wh : Int) (w : World) (hv : OView w lo hi ao n fs) (hhi : hi ≤ w.heap.size) (hs : ∀ (j : Nat) (f : OpD), fs[j]? = some f → f.2.length ≤ maxLen) (hu : OView w lo2 hi2 bo m gs) (hhi2 : hi2 ≤ w.heap.size) (hs2 : ∀ (j : Nat) (f : OpD), gs[j]? = some f → f.2.length ≤ maxLen) (hwf : (Lit.int .i64 wh).wf = true) :
    Calls Try.prog 25 #[.agg #[.int .i64 z, .slice ao n c], .agg #[.int .i64 y, .slice bo m d], .int .i64 wh] w fun e w' => ResL w w' (valFactorOfProduct z fs y gs wh).1 (valFactorOfProduct z fs y gs wh).2 e := by
  obtain ⟨wB, hwB, hbx, hszB⟩ := bx2_new w z ao n c y bo m d 28
  have hP := fun (W : World) (hW : Bx2 w W z ao n c y bo m d) => implProductOf lo hi z ao c n fs lo2 hi2 y bo d m gs W (hv.kept (Kept.of_below hW.bel hhi)) (Nat.le_trans hhi hW.bel.size) hs (hu.kept (Kept.of_below hW.bel hhi2)) (Nat.le_trans hhi2 hW.bel.size) hs2
  obtain ⟨cz, ca, cz1, ca1, cB⟩ := hbx
  have HBx := Lib.hid (Bx2.mk cz ca cz1 ca1 cB)
  unfold ResL
  obtain ⟨t, ht⟩ : ∃ t, prdB z y fs gs = t := ⟨_, rfl⟩
  cases t with
  | false =>
    rw [show valFactorOfProduct z fs y gs wh = ([], false) by simp [valFactorOfProduct, facB, ht]]
    rw [show valProductOf z fs y gs = (0, [], false) by simp [valProductOf, ht]] at hP
    have HP := Lib.hid hP
    clear hv hs hu hs2 hP cB ht hszB
    go_enter Try.func25, Try.ntmps25
    go_wp2_with fail
    rw [← hwB]
    clear hwB
    go_wp2_with fail
    refine (HP.out _ HBx.out).mono ?_
    rintro e w1 hr
    unfold ResA at hr
    obtain ⟨va, vn, vc, G, C, rfl, hl_, ho_, b1⟩ := hr
    clear hl_ ho_
    have HB1 := Lib.hid (HBx.out.below b1).bel
    have HB2 := Lib.hid (HB1.out.alloc HB1.out.size (.cells #[.int .i64 0, .slice va vn vc] 28))
    clear b1 cz ca cz1 ca1
    go_wp2_with fail
    go_ret2
    exact ⟨none, 0, 0, rfl, rfl, OwnsInts.of_row (World.ownsRow_nil _ _ _ _), HB2.out⟩
  | true =>
    obtain ⟨hsm, h8⟩ := prdB_of ht
    obtain ⟨hok, hok2, _⟩ := sameH_of hsm
    obtain ⟨⟨z1, z8⟩, _, _⟩ := algOkB_of hok
    obtain ⟨⟨y1, y8⟩, _, _⟩ := algOkB_of hok2
    have p1 := mul_size z1 y1
    rw [show valProductOf z fs y gs = (z * y, prdL z y fs gs, true) by simp [valProductOf, ht]] at hP
    obtain ⟨N, hN⟩ : ∃ N : Nat, z * y = (N : Int) := ⟨(z * y).toNat, by omega⟩
    have hNt : (z * y).toNat = N := by omega
    have hN8 : N ≤ 8 := by omega
    rw [hN] at hP
    have HP := Lib.hid hP
    by_cases hin : 0 ≤ wh ∧ wh ≤ 1
    · rw [show valFactorOfProduct z fs y gs wh = (facT y wh (z * y).toNat, true) by simp [valFactorOfProduct, facB, ht, inB_yes hin.1 hin.2], hNt]
      obtain ⟨wh0, wh1⟩ := hin
      have HLen : Hid (N = (facT y wh N).length) := by unfold Hid; rw [facT_len]
      obtain ⟨j0, hj0, hq0, hq1, hq2⟩ := info_parts Try.infoInt
      have hw0 : ¬ wh < 0 := by omega
      have hw1 : ¬ 1 < wh := by omega
      clear hv hs hu hs2 hP cB ht hszB hok hok2 hsm hN hNt
      go_enter Try.func25, Try.ntmps25
      go_wp2_with fail
      rw [← hwB]
      clear hwB
      go_wp2_with fail
      refine (HP.out _ HBx.out).mono ?_
      rintro e w1 hr
      unfold ResA at hr
      obtain ⟨va, vn, vc, G, C, rfl, hl_, ho_, b1⟩ := hr
      clear hl_ ho_
      have HBx1 := Lib.hid (HBx.out.below b1)
      obtain ⟨wP, hwP⟩ : ∃ wP : World, wP = w1.alloc (.cells #[.int .i64 (N : Int), .slice va vn vc] 28) := ⟨_, rfl⟩
      have hbP : Below w1.heap.size w1 wP := by rw [hwP]; exact below_alloc _ _
      have HBxP := Lib.hid (HBx1.out.below hbP)
      have cN : wP.cell? ⟨w1.heap.size, 0, none⟩ = some (.int .i64 (N : Int)) := by rw [hwP]; simp
      have hzw : w.heap.size + 1 < wP.heap.size := World.block_lt_of_cell? _ _ HBxP.out.z1
      obtain ⟨w3, hr3, ho3, hg3⟩ := run_make_full (P := Try.prog) wP wP.heap.size 37 3 j0 _ 1 Try.underlying37 hj0 hq0 hq1 .i64 .i64 N (by rw [hq2]; omega) (by unfold maxLen; omega) (Nat.le_refl _)
      have b3 : Below wP.heap.size wP w3 := (Below.refl _ _).grown hg3 (Nat.le_refl _) (by intro k hk; cases hk)
      have HBx3 := Lib.hid (HBxP.out.below b3)
      have hrw : ((List.replicate N (0 : Int)).map (Value.int .i64)) = (madeCells (Value.int .i64 0).cells (N * 1)).toList := by
        rw [show (Value.int .i64 0).cells = #[Value.int .i64 0] from rfl, Nat.mul_one, toList_madeCells_one, List.map_replicate]
      have HR3 : Hid (w3.ownsRow wP.heap.size 3 1 (.slice (some ⟨wP.heap.size, 0, none⟩) N N) N ((facK y wh N 0).map (Value.int .i64))) := by
        unfold Hid; rw [facK_zero, hrw]; exact ho3
      have hs1 : w1.heap.size < wP.heap.size := World.block_lt_of_cell? _ _ cN
      clear b1 cz ca cz1 ca1 hbP ho3 hg3 b3 hrw
      obtain ⟨wQ, hwQ⟩ : ∃ wQ : Nat, wQ = wP.heap.size := ⟨_, rfl⟩
      rw [← hwQ] at HR3 hr3
      have hzQ : w.heap.size + 1 < wQ := by omega
      rw [hwP] at hr3
      clear hwP cN hwQ
      go_wp2_with fail
      go_loopw [11, 33] (fun s11 i wr => ∃ k : Nat, k ≤ N ∧ i = .int .i64 (k : Int) ∧ Hid (wr.ownsRow wQ 3 1 (.slice (some ⟨wQ, 0, none⟩) N N) N ((facK y wh N k).map (Value.int .i64))) ∧ Hid (Bx2 w wr z ao n c y bo m d)) (fun _ i _ => N - (intOf i).toNat)
      case atStart => exact ⟨0, Nat.zero_le _, rfl, HR3, HBx3⟩
      case round =>
        obtain ⟨k, hk, rfl, HR, HBxr⟩ := hrel
        obtain ⟨cz, ca, cz1, ca1, cB⟩ := HBxr.out
        by_cases hlt : k < N
        · have hlt' : (k : Int) < (N : Int) := by omega
          have hwd : IntKind.i64.wrap ((k : Int).tdiv y) = (k : Int) / y := IntWalk.i64_quo _ y ⟨by omega, by omega, y1⟩
          have hwm : (k : Int).tmod y = (k : Int) % y := Int.tmod_eq_emod_of_nonneg (by omega)
          have hd0 : 0 ≤ (k : Int) / y := Int.ediv_nonneg (by omega) (by omega)
          have hd8 : (k : Int) / y ≤ 8 := Int.le_trans (Int.ediv_le_self _ (by omega)) (by omega)
          have hyn : ¬ y = 0 := by omega
          have hy0 : 0 < y := by omega
          obtain ⟨u_, hu_⟩ : ∃ u0, wr.cell? ⟨wQ, k, none⟩ = some u0 := by
            rw [HR.out.cellAt k (by omega)]
            have hl1 := HR.out.1
            exact ⟨_, List.getElem?_eq_getElem (by omega)⟩
          have hfr := HR.out.frozenAt k
          have hst := HR.out.stored k (.int .i64 (facE y wh k))
          rw [← List.map_set, facK_set _ _ hlt] at hst
          have HST := Lib.hid hst
          have hlo := HR.out.lt wQ rfl
          have hB3 : Hid (Bx2 w (wr.setCell ⟨wQ, k, none⟩ (.int .i64 (facE y wh k))) z ao n c y bo m d) := HBxr.out.same (HBxr.out.bel.setCell (by show w.heap.size ≤ wQ; omega) _) (fun q hq => Below.heap_setCell _ _ _ _ (by show q ≠ wQ; omega))
          by_cases hw : wh = 0
          · have hE : facE y wh k = (k : Int) / y := by unfold facE; rw [if_pos hw]
            have hw0' : (wh == 0) = true := by simp [hw]
            rw [hE] at HST hB3
            have HW := Lib.hid hw
            clear hst hw hE cB
            go_wp2_with fail
            go_roundw
            case rel => exact ⟨k + 1, by omega, by go_num, HST.out.1, hB3⟩
            case measure => simp [intOf]; omega
          · have hE : facE y wh k = (k : Int) % y := by unfold facE; rw [if_neg hw]
            have hw0' : (wh == 0) = false := by simp [hw]
            rw [hE] at HST hB3
            have HW := Lib.hid hw
            clear hst hw hE cB
            go_wp2_with fail
            go_roundw
            case rel => exact ⟨k + 1, by omega, by go_num, HST.out.1, hB3⟩
            case measure => simp [intOf]; omega
        · obtain rfl : k = N := by omega
          have hlt' : ¬ (k : Int) < (k : Int) := by omega
          have h1 := HR.out
          rw [facK_all] at h1
          have H1 := Lib.hid h1
          clear h1
          go_wp2_with fail
          go_ret2
          exact ⟨_, _, _, rfl, HLen.out, OwnsInts.of_row (ownsRow_base H1.out (by omega)), HBxr.out.bel⟩
    · rw [show valFactorOfProduct z fs y gs wh = ([], false) by simp [valFactorOfProduct, facB, inB_no hin]]
      by_cases hw0 : wh < 0
      · clear hv hs hu hs2 hP cB ht hszB hok hok2 hsm hN hNt hin
        go_enter Try.func25, Try.ntmps25
        go_wp2_with fail
        rw [← hwB]
        clear hwB
        go_wp2_with fail
        refine (HP.out _ HBx.out).mono ?_
        rintro e w1 hr
        unfold ResA at hr
        obtain ⟨va, vn, vc, G, C, rfl, hl_, ho_, b1⟩ := hr
        clear hl_ ho_
        have HB1 := Lib.hid (HBx.out.below b1).bel
        have HB2 := Lib.hid (HB1.out.alloc HB1.out.size (.cells #[.int .i64 (N : Int), .slice va vn vc] 28))
        clear b1 cz ca cz1 ca1
        go_wp2_with fail
        go_ret2
        exact ⟨none, 0, 0, rfl, rfl, OwnsInts.of_row (World.ownsRow_nil _ _ _ _), HB2.out⟩
      · have hw1 : 1 < wh := by omega
        clear hv hs hu hs2 hP cB ht hszB hok hok2 hsm hN hNt hin
        go_enter Try.func25, Try.ntmps25
        go_wp2_with fail
        rw [← hwB]
        clear hwB
        go_wp2_with fail
        refine (HP.out _ HBx.out).mono ?_
        rintro e w1 hr
        unfold ResA at hr
        obtain ⟨va, vn, vc, G, C, rfl, hl_, ho_, b1⟩ := hr
        clear hl_ ho_
        have HB1 := Lib.hid (HBx.out.below b1).bel
        have HB2 := Lib.hid (HB1.out.alloc HB1.out.size (.cells #[.int .i64 (N : Int), .slice va vn vc] 28))
        clear b1 cz ca cz1 ca1
        go_wp2_with fail
        go_ret2
        exact ⟨none, 0, 0, rfl, rfl, OwnsInts.of_row (World.ownsRow_nil _ _ _ _), HB2.out⟩

end Go.Proofs.Ytfdolbpbddjhmaa
