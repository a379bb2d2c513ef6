/-
  Contracts: spec.l6Blocks, spec.BlocksOf. Conditions: the bounds that each theorem names.
-/
import Derived.Test.YtgejpkpilnfddaaBlkI
import Derived.Test.YtgejpkpilnfddaaPartO
namespace Go.Proofs.Ytgejpkpilnfddaa
open Go.RowKit
set_option linter.unusedVariables false
set_option linter.unusedSimpArgs false

theorem blksL_pre (f : Nat → Int) (n : Nat) : ∀ d k, ∃ r, blksL f n (k + d) = blksL f n k ++ r
  | 0, k => ⟨[], by simp⟩
  | d + 1, k => by
    obtain ⟨r, hr⟩ := blksL_pre f n d k
    rw [← Nat.add_assoc, blksL]
    split
    · exact ⟨r ++ [blkL f (k + d) n], by rw [hr, List.append_assoc]⟩
    · exact ⟨r, hr⟩
theorem blksL_at {f : Nat → Int} {n k : Nat} (hk : k < n) (h : f k = (k : Int)) : (blksL f n n).getD (blksL f n k).length [] = blkL f k n := by
  obtain ⟨r, hr⟩ := blksL_pre f n (n - (k + 1)) (k + 1)
  rw [show k + 1 + (n - (k + 1)) = n by omega, blksL, if_pos h] at hr
  rw [hr, List.getD_eq_getElem?_getD, List.append_assoc, List.getElem?_append_right (Nat.le_refl _), Nat.sub_self]
  rfl
theorem BuiltL.lit0 (w : World) (lo : Nat) (hlo : lo ≤ w.heap.size) (F : Nat → List Int) : BuiltL (w.alloc (.cells #[] 22)) lo (.slice (some ⟨w.heap.size, 0, none⟩) 0 0) 0 F := by
  refine ⟨fun _ => none, fun _ => 0, World.ownsRow_lit (base := lo) (e := 22) (size := 1) w #[] 0 hlo (by decide) rfl, fun k h => ?_, fun j hj => by omega, fun j g hj => by omega, fun i j g hi => by omega⟩
  have : w.heap.size = k := by simpa [Value.ownBlock] using h
  simp; omega

set_option maxRecDepth 100000 in
set_option maxHeartbeats 2000000 in
theorem blocks6_any (lo hi : Nat) (ao : Option Addr) (c m : Nat) (xs : List Int) (w : World) (hx : IView w lo hi ao m xs) (hhi : hi ≤ w.heap.size) (h8 : m ≤ 8) (hk : okAll (gI xs) m = true) :
    Calls Try.prog 58 #[.slice ao m c] w fun e w' => ∃ a d, e = .returned (.slice a (blksL (gI xs) m m).length d) ∧ BuiltL w' w.heap.size (.slice a (blksL (gI xs) m m).length d) (blksL (gI xs) m m).length (fun j => (blksL (gI xs) m m).getD j []) ∧ Below w.heap.size w w' := by
  have HX := Lib.hid hx
  have HL := Lib.hid hx.1
  have HK := Lib.hid hk
  obtain ⟨i0, hi0, hz0, hz1, hz2⟩ := info_parts Try.infoInt
  obtain ⟨j0, hj0, hy0, hy1, hy2⟩ := info_parts Try.infoInts
  obtain ⟨f, hf⟩ : ∃ f, gI xs = f := ⟨_, rfl⟩
  have HF := Lib.hid hf
  rw [hf] at HK ⊢
  obtain ⟨F, hFF⟩ : ∃ F : Nat → List Int, F = fun j => (blksL f m m).getD j [] := ⟨_, rfl⟩
  rw [← hFF]
  have HAt : Hid (∀ k, k < m → f k = (k : Int) → F (blksL f m k).length = blkL f k m) := fun k hk h => by rw [hFF]; exact blksL_at hk h
  have HB0 := Lib.hid (below_alloc w (.cells #[] 22))
  have HL0 := Lib.hid (BuiltL.lit0 w w.heap.size (Nat.le_refl _) F)
  clear hx hk hf hFF
  go_enter Try.func58, Try.ntmps58
  go_wp2_with fail
  go_loopw [3, 4, 5, 6] (fun v i _ _ wr => ∃ (k c : Nat) (a : Option Addr), k ≤ m ∧ i = .int .i64 (k : Int) ∧ v = .slice a (blksL f m k).length c ∧ Hid (BuiltL wr w.heap.size (.slice a (blksL f m k).length c) (blksL f m k).length F) ∧ Hid (Below w.heap.size w wr)) (fun _ i _ _ _ => m - (intOf i).toNat)
  case atStart => exact ⟨0, 0, _, Nat.zero_le _, rfl, rfl, HL0, HB0⟩
  case round =>
    obtain ⟨k, cc, a, hk, rfl, rfl, HBu, HBr⟩ := hrel
    by_cases hlt : k < m
    · obtain ⟨b, o, rfl, _, hbh, hc⟩ := HX.out.at_ (by omega)
      have hbw : b < w.heap.size := by omega
      have HC : Hid (∀ j, j < m → w.cell? ⟨b, o + j, none⟩ = some (.int .i64 (f j))) := fun j hj => by rw [← HF.out]; exact hc j _ (get_gI HL.out hj)
      have e1 := (HBr.out.cell (p := ⟨b, o + k, none⟩) hbw).trans (HC.out k hlt)
      have hkm : (k : Int) < (m : Int) := by omega
      obtain ⟨t, ht⟩ : ∃ t, (blksL f m k).length = t := ⟨_, rfl⟩
      have htm : t ≤ 8 := by have := blksL_le f m k; omega
      have HT := Lib.hid ht
      rw [ht] at HBu ⊢
      obtain ⟨z, hz⟩ : ∃ z, f k = z := ⟨_, rfl⟩
      rw [hz] at e1
      clear hc ht
      by_cases hzk : z = (k : Int)
      · have hne : (z != (k : Int)) = false := by simp [hzk]
        have HNext : Hid ((blksL f m (k + 1)).length = t + 1) := by unfold Hid; rw [blksL, if_pos (hz.trans hzk), List.length_append, HT.out]; rfl
        have HFk : Hid (F t = blkL f k m) := by unfold Hid; rw [← HT.out]; exact HAt.out k hlt (hz.trans hzk)
        have HLow : Hid (blkL f k k = []) := blkL_low k (Nat.le_refl _) fun y hy => (okAll_get HK.out (by omega)).1.2
        have HR0 : Hid ((wr.alloc (.cells #[] 3)).ownsRow wr.heap.size 3 1 (.slice (some ⟨wr.heap.size, 0, none⟩) 0 0) 0 ((blkL f k k).map (Value.int .i64))) := by
          unfold Hid; rw [HLow.out]
          exact World.ownsRow_lit (base := wr.heap.size) (e := 3) (size := 1) wr #[] 0 (Nat.le_refl _) (by decide) rfl
        have HQ0 := Lib.hid (below_alloc wr (.cells #[] 3))
        clear hz hzk
        rename World => wo
        go_wp2_with fail
        clear e1
        go_loopw [5, 6] (fun v i wz => ∃ y q g d : Nat, k ≤ y ∧ y ≤ m ∧ q ≤ y ∧ i = .int .i64 (y : Int) ∧ v = .slice (some ⟨g, 0, none⟩) q d ∧ Hid (q = (blkL f k y).length) ∧ Hid (wz.ownsRow wo.heap.size 3 1 (.slice (some ⟨g, 0, none⟩) q d) q ((blkL f k y).map (Value.int .i64))) ∧ Hid (Below wo.heap.size wo wz)) (fun _ i _ => m - (intOf i).toNat)
        case atStart => exact ⟨k, 0, _, _, Nat.le_refl _, by omega, Nat.zero_le _, rfl, rfl, by unfold Hid; rw [HLow.out]; rfl, HR0, HQ0⟩
        case round =>
          obtain ⟨y, q, g, d, hky, hy, hqy, rfl, rfl, HQl, HR, HQ⟩ := hrel
          by_cases hym : y < m
          · have hym' : (y : Int) < (m : Int) := by omega
            have e1 := (HQ.out.cell (p := ⟨b, o + y, none⟩) (by show b < _; have := HBr.out.size; omega)).trans ((HBr.out.cell (p := ⟨b, o + y, none⟩) hbw).trans (HC.out y hym))
            obtain ⟨z, hz⟩ : ∃ z, f y = z := ⟨_, rfl⟩
            rw [hz] at e1
            by_cases hzk : z = (k : Int)
            · have hne2 : (z == (k : Int)) = true := by simp [hzk]
              have HS : Hid (blkL f k (y + 1) = blkL f k y ++ [(y : Int)]) := by unfold Hid; rw [blkL, if_pos (hz.trans hzk)]
              clear hz hzk
              go_wp2_with (at_builtin; refine wpList_append_own _ rfl _ _ 22 rfl wo.heap.size 3 i0 (.int .i64 0) 1 8 Try.underlying22 hi0 hz0 hz1 hz2 rfl (by decide) (.slice (some ⟨g, 0, none⟩) q d) q ((blkL f k y).map (Value.int .i64)) rfl (HR.out.alloc _) ⟨_, 0, none⟩ 1 1 [.int .i64 (y : Int)] rfl rfl (cell_one_new _ _ _) (fun x hx => by simp at hx; subst hx; rfl) (by unfold maxLen; omega) (by omega) (by have h1_ := HQ.out.size; simp; omega) ?_; intro v' w7 hown' hgrow' hnil'; obtain ⟨g7, cap7, rfl⟩ := ownsRow_succ hown'; have HO7 := Lib.hid hown'; have HB7 := Lib.hid ((HQ.out.alloc HQ.out.size (.cells #[.int .i64 (y : Int)] 3)).grown hgrow' (by have h1_ := HQ.out.size; simp; omega) (fun q hq => (HR.out.lt q hq).1)); clear hown' hgrow' hnil')
              have HO8 : Hid (w7.ownsRow wo.heap.size 3 1 (.slice (some ⟨g7, 0, none⟩) (q + 1) cap7) (q + 1) ((blkL f k (y + 1)).map (Value.int .i64))) := by
                unfold Hid; rw [HS.out, List.map_append]; exact HO7.out
              have HQ8 : Hid (q + 1 = (blkL f k (y + 1)).length) := by unfold Hid; rw [HS.out, List.length_append, ← HQl.out]; rfl
              go_roundw
              case rel => exact ⟨y + 1, q + 1, g7, cap7, by omega, by omega, by omega, by go_num, rfl, HQ8, HO8, HB7⟩
              case measure => simp [intOf]; omega
            · have hne2 : (z == (k : Int)) = false := by simp [hzk]
              have HS : Hid (blkL f k (y + 1) = blkL f k y) := by unfold Hid; rw [blkL, if_neg (fun h => hzk (hz.symm.trans h))]
              clear hz hzk
              go_wp2_with fail
              go_roundw
              case rel => exact ⟨y + 1, q, g, d, by omega, by omega, by omega, by go_num, rfl, by unfold Hid; rw [HS.out]; exact HQl.out, by unfold Hid; rw [HS.out]; exact HR.out, HQ⟩
              case measure => simp [intOf]; omega
          · obtain rfl : y = m := by omega
            have hym' : ¬ (y : Int) < (y : Int) := by omega
            obtain ⟨G, C, hL⟩ := HBu.out
            have HLs := Lib.hid hL
            have HR2 := Lib.hid (hL.row.kept (grown_of_below HQ.out none) (own_em _))
            have HB2 := Lib.hid (HBr.out.trans (HQ.out.mono HBr.out.size))
            clear hL
            go_wp2_with (at_builtin; refine wpList_append_own _ rfl _ _ 28 rfl w.heap.size 22 j0 (.slice none 0 0) 1 24 Try.underlying28 hj0 hy0 hy1 hy2 rfl (by decide) (.slice a t cc) t (flatL t G C F) rfl (HR2.out.alloc _) ⟨_, 0, none⟩ 1 1 [.slice (addrO (some g)) q d] rfl rfl (cell_one_new _ _ _) (fun x hx => by simp at hx; subst hx; rfl) (by unfold maxLen; omega) (by omega) (by have := HB2.out.size; simp; omega) ?_; intro v' w3 hown' hgrow' hnil')
            obtain ⟨g3, cap, rfl⟩ := ownsRow_succ hown'
            have HB3 := Lib.hid ((HB2.out.alloc HB2.out.size (.cells #[.slice (addrO (some g)) q d] 22)).grown hgrow' (by have := HB2.out.size; simp; omega) (fun q hq => (HR2.out.lt q hq).1))
            have HBu3 : Hid (BuiltL w3 w.heap.size (.slice (some ⟨g3, 0, none⟩) (t + 1) cap) (t + 1) F) :=
              HLs.out.push HQ.out HBr.out.size (by rw [HFk.out]; exact HQl.out.symm) (by rw [HFk.out]; exact HR.out) hown' hgrow'
            clear hown' hgrow' hnil'
            go_wp2_with fail
            exact ⟨⟨k + 1, cap, _, by omega, by go_num, by rw [HNext.out], by rw [HNext.out]; exact HBu3, HB3⟩, by simp [intOf]; omega⟩
      · have hne : (z != (k : Int)) = true := by simp [hzk]
        have HNext : Hid ((blksL f m (k + 1)).length = t) := by unfold Hid; rw [blksL, if_neg (fun h => hzk (hz.symm.trans h)), HT.out]
        clear hz hzk
        go_wp2_with fail
        go_roundw
        case rel => exact ⟨k + 1, cc, a, by omega, by go_num, by rw [HNext.out], by rw [HNext.out]; exact HBu, HBr⟩
        case measure => simp [intOf]; omega
    · have hkm : ¬ (k : Int) < (m : Int) := by omega
      obtain rfl : k = m := by omega
      go_wp2_with fail
      go_ret
      exact ⟨a, cc, rfl, HBu.out, HBr.out⟩

theorem specBlocksOf (n : Int) (lo hi : Nat) (ao : Option Addr) (c m : Nat) (xs : List Int) (w : World) (hn : (Lit.int .i64 n).wf = true) (hx : IView w lo hi ao m xs) (hhi : hi ≤ w.heap.size) (hm : m ≤ maxLen) :
    Calls Try.prog 18 #[.int .i64 n, .slice ao m c] w fun e w' => ResS w w' (valBlocksOf n xs).1 (valBlocksOf n xs).2 e := by
  have HS := Lib.hid (fun w => size6_any n w)
  have hl := hx.1
  unfold ResS
  cases hb : inB 1 8 n with
  | false =>
    rw [show valBlocksOf n xs = ([], false) by rw [valBlocksOf, show pOfB n xs = false by simp [pOfB, hb]]; rfl]
    simp only [hb] at HS
    obtain ⟨G, C, hN⟩ := BuiltL.lit0 w w.heap.size (Nat.le_refl _) (fun j => ([] : List (List Int)).getD j [])
    have HN := Lib.hid hN
    clear hx hm hb hn hN
    go_enter Try.func18, Try.ntmps18
    go_wp2_with fail
    refine (HS.out _).mono ?_
    rintro e w' ⟨rfl, rfl⟩
    go_wp2_with fail
    go_ret2
    exact ⟨_, _, _, G, C, rfl, rfl, HN.out, below_alloc _ _⟩
  | true =>
    have HP := Lib.hid (part6_q lo hi n ao c m xs w w hx ⟨0, rfl⟩ hm hb)
    simp only [hb] at HS
    obtain ⟨p, hp⟩ : ∃ p, pOfB n xs = p := ⟨_, rfl⟩
    simp only [hp] at HP
    cases p with
    | false =>
      rw [show valBlocksOf n xs = ([], false) by rw [valBlocksOf, hp]; rfl]
      have HN := Lib.hid (fun W => BuiltL.lit0 W W.heap.size (Nat.le_refl _) (fun j => ([] : List (List Int)).getD j []))
      clear hx hm hb hn hp
      go_enter Try.func18, Try.ntmps18
      go_wp2_with fail
      refine (HS.out _).mono ?_
      rintro e w' ⟨rfl, rfl⟩
      go_wp2_with fail
      refine HP.out.mono ?_
      rintro e w1 ⟨rfl, q, rfl⟩
      go_wp2_with fail
      go_ret2
      obtain ⟨G, C, hN⟩ := HN.out (w.drewN q)
      exact ⟨_, _, _, G, C, rfl, rfl, hN, below_then (below_drewN (Below.refl w.heap.size w) q) (below_alloc _ _)⟩
    | true =>
      obtain ⟨h1, h8⟩ : 1 ≤ n ∧ n ≤ 8 := of_decide_eq_true hb
      obtain ⟨_, hpb⟩ := pOfB_of hp
      obtain ⟨h2, h3⟩ := partB_of hpb
      rw [hl] at h2 h3
      rw [show valBlocksOf n xs = (blksL (gI xs) m m, true) by rw [valBlocksOf, if_pos hp, hl]]
      have HC := Lib.hid (fun q => blocks6_any lo hi ao c m xs (w.drewN q) (hx.kept (Kept.drewN w q)) hhi (by omega) h3)
      obtain ⟨bl, hbl⟩ : ∃ bl, blksL (gI xs) m m = bl := ⟨_, rfl⟩
      simp only [hbl] at HC
      rw [hbl]
      clear hx hm hb hn hp hpb h3 hbl
      go_enter Try.func18, Try.ntmps18
      go_wp2_with fail
      refine (HS.out _).mono ?_
      rintro e w' ⟨rfl, rfl⟩
      go_wp2_with fail
      refine HP.out.mono ?_
      rintro e w1 ⟨rfl, q, rfl⟩
      go_wp2_with fail
      refine (HC.out _).mono ?_
      rintro e w2 ⟨a, d, rfl, hbu, b2⟩
      have HBu := Lib.hid hbu
      have HB2 := Lib.hid (below_then (below_drewN (Below.refl w.heap.size w) q) b2)
      clear hbu b2
      go_wp2_with fail
      go_ret2
      obtain ⟨G, C, hL⟩ := HBu.out
      exact ⟨a, _, d, G, C, rfl, rfl, hL, HB2.out⟩

end Go.Proofs.Ytgejpkpilnfddaa
