/-
  Contracts: the methods list and images of impl.partialMap, impl.KernelOf, ImageOf, InverseIso. Conditions: the bounds that each theorem names.
-/
import Derived.Test.YtcioekhlhgkkiaaKerM
import Derived.Test.YtcioekhlhgkkiaaClone
import Derived.Test.YtcioekhlhgkkiaaPlc
import Derived.Test.YtcioekhlhgkkiaaPermC
namespace Go.Proofs.Ytcioekhlhgkkiaa
open Go.RowKit
set_option linter.unusedVariables false
set_option linter.unusedSimpArgs false

theorem arr_view {w : World} {g n : Nat} {f : Nat → Int} (h : ArrAt w g f) (hn : n ≤ 8) : IView w g (g + 1) (some ⟨g, 0, none⟩) n (lstP n f) :=
  ⟨lstP_len n f, .inr ⟨g, 0, rfl, Nat.le_refl _, by omega, fun j x hx => by
    have hj : j < n := by have := (List.getElem?_eq_some_iff.1 hx).1; rw [lstP_len] at this; exact this
    rw [lstP_get f hj] at hx
    rw [Nat.zero_add, h.cell (by omega)]
    simpa using hx⟩⟩

set_option maxHeartbeats 1000000 in
theorem listM_any (f : Nat → Int) (n : Nat) (w : World) (h1 : 1 ≤ n) (h8 : n ≤ 8) :
    Calls Try.prog 67 #[.agg (arrV f), .int .i64 (n : Int)] w fun e w' => NewInts w w' n (lstP n f) e := by
  have HA := Lib.hid (ArrAt.new w f)
  have hC := fun (c : Nat) => clone_ints w.heap.size (w.heap.size + 1) (some ⟨w.heap.size, 0, none⟩) n c (lstP n f) (w.alloc (.cells (arrV f) 57)) (arr_view HA.out h8) (by omega) (by omega)
  have HC := Lib.hid hC
  have hn8 : (n : Int) ≤ 8 := by omega
  have hB := Lib.hid (below_alloc w (.cells (arrV f) 57))
  clear hC
  unfold NewInts
  go_enter Try.func67, Try.ntmps67
  go_wp2_with fail
  refine (HC.out _).mono ?_
  rintro e w2 ⟨g, d, rfl, ho, b2⟩
  have HO := Lib.hid (ownsRow_base ho (b' := w.heap.size) (by show w.heap.size ≤ (w.alloc _).heap.size; simp))
  have HB := Lib.hid (below_then hB.out b2)
  clear ho b2
  go_wp2_with fail
  go_ret
  exact ⟨g, d, rfl, HO.out, HB.out⟩

set_option maxHeartbeats 1000000 in
theorem images_any (f : Nat → Int) (w : World) (hf : ∀ k, k < 8 → f k = -1 ∨ (0 ≤ f k ∧ f k < 8)) :
    Calls Try.prog 74 #[.agg (arrV f)] w fun e w' => e = .returned (.int .u64 (setF f 8 : Int)) ∧ Below w.heap.size w w' := by
  have HA := Lib.hid (ArrAt.new w f)
  have hB := Lib.hid (below_alloc w (.cells (arrV f) 57))
  have HF := Lib.hid hf
  have HLt := Lib.hid (setF_lt hf)
  clear hf
  go_enter Try.func74, Try.ntmps74
  go_wp2_with (refine ld8 HA.out rfl _ rfl rfl ?_)
  go_loop [3, 7] (fun s i => ∃ k v : Nat, k ≤ 8 ∧ i = .int .i64 (k : Int) ∧ s = .int .u64 (v : Int) ∧ Hid (v = setF f k)) (fun _ i => 8 - (intOf i).toNat)
  case atStart => exact ⟨0, 0, by omega, rfl, rfl, rfl⟩
  case round =>
    obtain ⟨k, v, hk, rfl, rfl, HVal⟩ := hrel
    by_cases hlt : k < 8
    · have hkn : (k : Int) < 8 := by omega
      have hix := fun W => run_index8 f hlt W
      have hb := HF.out k hlt
      have HVl : Hid (v < 2 ^ 8) := by unfold Hid; rw [HVal.out]; exact HLt.out k hk
      obtain ⟨x, hx⟩ : ∃ x, f k = x := ⟨_, rfl⟩
      simp only [hx] at hix hb
      have HX := Lib.hid hx
      clear hx
      by_cases hm1 : x = -1
      · have n1 : (x != -1) = false := by simp [hm1]
        have HN : Hid (v = setF f (k + 1)) := by unfold Hid; rw [setF_no (by rw [HX.out]; exact hm1)]; exact HVal.out
        clear hb hm1
        go_wp2_with fail
        go_round
        case rel => exact ⟨k + 1, v, by omega, by go_num, rfl, HN⟩
        case measure => simp [intOf]; omega
      · have n1 : (x != -1) = true := by simp [hm1]
        obtain ⟨x0, x1⟩ : 0 ≤ x ∧ x < 8 := by rcases hb with h | h; exact absurd h hm1; exact h
        have HN : Hid (v ||| 2 ^ x.toNat = setF f (k + 1)) := by unfold Hid; rw [setF_yes (by rw [HX.out]; exact hm1), HX.out, HVal.out]
        clear hb hm1
        go_wp2_with fail
        go_round
        case rel => exact ⟨k + 1, v ||| 2 ^ x.toNat, by omega, by go_num, by rw [put_set HVl.out x0 x1], HN⟩
        case measure => simp [intOf]; omega
    · have hkn : ¬ (k : Int) < 8 := by omega
      obtain rfl : k = 8 := by omega
      go_wp2_with fail
      go_ret
      exact ⟨ret_set (by rw [HVal.out]), hB.out⟩

set_option maxHeartbeats 2000000 in
set_option maxRecDepth 100000 in
theorem implKernelOf (lo hi : Nat) (z : Int) (ao : Option Addr) (c n : Nat) (fs : List OpD) (lo2 hi2 : Nat) (z1 : Int) (bo : Option Addr) (d m : Nat) (gs : List OpD) (lo3 hi3 : Nat) (co : Option Addr) (e_ l : Nat) (xs : List Int) (w : World) (hv : OView w lo hi ao n fs) (hhi : hi ≤ w.heap.size) (hs : ∀ (j : Nat) (f : OpD), fs[j]? = some f → f.2.length ≤ maxLen) (hu : OView w lo2 hi2 bo m gs) (hhi2 : hi2 ≤ w.heap.size) (hs2 : ∀ (j : Nat) (f : OpD), gs[j]? = some f → f.2.length ≤ maxLen) (hx : IView w lo3 hi3 co l xs) (hhi3 : hi3 ≤ w.heap.size) (hl : l ≤ maxLen) :
    Calls Try.prog 34 #[.agg #[.int .i64 z, .slice ao n c], .agg #[.int .i64 z1, .slice bo m d], .slice co l e_] w fun en w' => ResL w w' (valKernelOf z fs z1 gs xs).1 (valKernelOf z fs z1 gs xs).2 en := by
  unfold valKernelOf
  obtain ⟨w1, hw1, hbx, hsz⟩ := bx2_new w z ao n c z1 bo m d 31
  have HBx := Lib.hid hbx
  have hI := fun (W : World) (hW : Bx2 w W z ao n c z1 bo m d) => hom_any lo hi lo2 hi2 lo3 hi3 z z1 ao bo co c n d m e_ l fs gs xs W (hv.kept (Kept.of_below hW.bel hhi)) (Nat.le_trans hhi hW.bel.size) hs (hu.kept (Kept.of_below hW.bel hhi2)) (Nat.le_trans hhi2 hW.bel.size) hs2 (hx.kept (Kept.of_below hW.bel hhi3)) (Nat.le_trans hhi3 hW.bel.size) hl
  obtain ⟨cz, ca, cz1, ca1, cB⟩ := hbx
  obtain ⟨t, ht⟩ : ∃ t, homB z z1 fs gs xs = t := ⟨_, rfl⟩
  obtain ⟨f, hf⟩ : ∃ f, pmF t xs = f := ⟨_, rfl⟩
  simp only [ht, ResPm, hf] at hI
  rw [ht]
  have HI := Lib.hid hI
  have HFx := Lib.hid hf
  clear hI cB hf
  cases t with
  | false =>
    rw [if_neg (by simp)]
    clear hv hu hx hs hs2 ht
    unfold ResL
    go_enter Try.func34, Try.ntmps34
    go_wp2_with fail
    rw [← hw1]
    clear hw1
    go_wp2_with fail
    refine (HI.out _ HBx.out).mono ?_
    rintro e w2 ⟨rfl, b2⟩
    have HBx2 := Lib.hid (HBx.out.below b2)
    clear b2 cz ca cz1 ca1
    have HA3 := Lib.hid (ArrAt.new w2 fun _ => 0)
    have HB4 := Lib.hid (HBx2.out.bel.trans ((new_row w2 f).2.mono HBx2.out.bel.size))
    go_wp2_with (refine st8 (w := w2.alloc (.cells (arrV fun _ => 0) 57)) (f' := f) HA3.out rfl _ _ rfl rfl rfl ?_)
    go_ret2
    exact ⟨_, _, _, rfl, rfl, OwnsInts.of_row (World.ownsRow_nil _ _ _ _), HB4.out⟩
  | true =>
    rw [if_pos rfl]
    obtain ⟨q0, _⟩ := homB_of ht
    obtain ⟨q1, q2, q3⟩ := mapB_of q0
    obtain ⟨hok, hok2, hty⟩ := sameH_of q1
    obtain ⟨⟨h1, h2⟩, _⟩ := algOkB_of hok
    obtain ⟨⟨k1, k2⟩, _⟩ := algOkB_of hok2
    have hlx := hx.1
    have HFe : Hid (f = arrL xs) := by unfold Hid; rw [← HFx.out, pmF_yes]
    have HLx := Lib.hid hlx
    have HIn := Lib.hid q3
    obtain rfl : z = (l : Int) := by omega
    obtain ⟨b, o, rfl, _, hbh, hc⟩ := hx.at_ (show 0 < l by omega)
    have HC := Lib.hid hc
    have HX := Lib.hid hx
    have hbw : b < w.heap.size := by omega
    have HM := Lib.hid (fun W => listM_any f l W (by omega) (by omega))
    have hle : lstP l f = xs := by rw [HFe.out]; exact lstP_arrL hlx
    simp only [hle, NewInts] at HM
    clear hv hu hx hs hs2 ht q0 q1 q2 q3 hok hok2 hty hc hle hlx
    unfold ResL
    go_enter Try.func34, Try.ntmps34
    go_wp2_with fail
    rw [← hw1]
    clear hw1
    go_wp2_with fail
    refine (HI.out _ HBx.out).mono ?_
    rintro e w2 ⟨rfl, b2⟩
    have HBx2 := Lib.hid (HBx.out.below b2)
    clear b2 cz ca cz1 ca1
    have HA3 := Lib.hid (ArrAt.new w2 fun _ => 0)
    obtain ⟨w3, hw3⟩ : ∃ w3, w3 = (w2.alloc (.cells (arrV fun _ => 0) 57)).setRow w2.heap.size (arrV f) := ⟨_, rfl⟩
    have HA4 : Hid (ArrAt w3 w2.heap.size f) := by unfold Hid; rw [hw3]; exact (new_row w2 f).1
    have HBx4 : Hid (Bx2 w w3 (l : Int) ao n c z1 bo m d) := by unfold Hid; rw [hw3]; exact HBx2.out.below (new_row w2 f).2
    obtain ⟨cz, ca, cz1, ca1, cB⟩ := HBx4.out
    have HW3 := Lib.hid hw3
    clear hw3 cB
    go_wp2_with (first | (refine st8 (w := w2.alloc (.cells (arrV fun _ => 0) 57)) HA3.out rfl _ _ rfl rfl rfl ?_; rw [← HW3.out]) | (refine ld8 HA4.out rfl _ rfl rfl ?_))
    refine (HM.out _).mono ?_
    rintro e w5 ⟨g, dd, rfl, ho, b5⟩
    have HB5 := Lib.hid (HBx4.out.below b5).bel
    have HO5 : Hid (w5.ownsRow w.heap.size 3 1 (.slice (some ⟨g, 0, none⟩) l dd) l ((kerP xs 0).map (Value.int .i64))) := by unfold Hid; rw [kerP_zero]; exact ownsRow_base ho HBx4.out.bel.size
    clear ho b5 cz ca cz1 ca1
    go_wp2_with fail
    go_loopw [28] (fun i wr => ∃ k : Nat, k ≤ l ∧ i = .int .i64 (k : Int) ∧ Hid (wr.ownsRow w.heap.size 3 1 (.slice (some ⟨g, 0, none⟩) l dd) l ((kerP xs k).map (Value.int .i64))) ∧ Hid (Below w.heap.size w wr)) (fun i _ => l - (intOf i).toNat)
    case atStart => exact ⟨0, Nat.zero_le _, rfl, HO5, HB5⟩
    case round =>
      obtain ⟨k, hk, rfl, HR, HB⟩ := hrel
      by_cases hlt : k < l
      · have hkl : (k : Int) < (l : Int) := by omega
        obtain ⟨y, hy⟩ := get_of_lt HLx.out hlt
        have e1 : wr.cell? ⟨b, o + k, none⟩ = some (.int .i64 y) := (HB.out.cell (p := ⟨b, o + k, none⟩) hbw).trans (HC.out k y hy)
        have HIx := Lib.hid (fun (W : World) (hW : Below w.heap.size w W) => place_impl lo3 hi3 b o l e_ xs y W (HX.out.kept (Kept.of_below hW hhi3)) (by omega) (by omega))
        obtain ⟨v, hv⟩ : ∃ v, plI xs y = v := ⟨_, rfl⟩
        rw [hv] at HIx
        obtain ⟨u, hu⟩ : ∃ u, wr.cell? ⟨g, k, none⟩ = some u := by
          have h_ := HR.out.cellAt k (by omega)
          rw [h_]
          exact ⟨_, List.getElem?_eq_getElem (by rw [List.length_map, kerP_len]; have := HLx.out; omega)⟩
        have hfr : wr.frozen? ⟨g, k, none⟩ = false := HR.out.frozenAt k
        have hst := (HR.out.stored k (.int .i64 v)).1
        rw [← hv, kerP_set hy, hv] at hst
        have HST := Lib.hid hst
        have HBn := Lib.hid (HB.out.setCell (p := ⟨g, k, none⟩) (by show w.heap.size ≤ g; exact (HR.out.lt g rfl).1) (.int .i64 v))
        clear hy hv hst
        go_wp2_with fail
        refine (HIx.out _ HB.out).mono ?_
        rintro e w6 ⟨rfl, rfl⟩
        go_wp2_with fail
        go_roundw
        case rel => exact ⟨k + 1, by omega, by go_num, HST, HBn⟩
        case measure => simp [intOf]; omega
      · have hkl : ¬ (k : Int) < (l : Int) := by omega
        obtain rfl : k = l := by omega
        have HE : Hid (kerP xs k = kerL xs) := kerP_all HLx.out
        unfold Hid at HR
        rw [HE.out] at HR
        have HR := Lib.hid HR
        go_wp2_with fail
        go_ret2
        exact ⟨_, _, _, rfl, by rw [kerL_len]; exact HLx.out.symm, OwnsInts.of_row HR.out, HB.out⟩

set_option maxHeartbeats 2000000 in
set_option maxRecDepth 100000 in
theorem implImageOf (lo hi : Nat) (z : Int) (ao : Option Addr) (c n : Nat) (fs : List OpD) (lo2 hi2 : Nat) (z1 : Int) (bo : Option Addr) (d m : Nat) (gs : List OpD) (lo3 hi3 : Nat) (co : Option Addr) (e_ l : Nat) (xs : List Int) (w : World) (hv : OView w lo hi ao n fs) (hhi : hi ≤ w.heap.size) (hs : ∀ (j : Nat) (f : OpD), fs[j]? = some f → f.2.length ≤ maxLen) (hu : OView w lo2 hi2 bo m gs) (hhi2 : hi2 ≤ w.heap.size) (hs2 : ∀ (j : Nat) (f : OpD), gs[j]? = some f → f.2.length ≤ maxLen) (hx : IView w lo3 hi3 co l xs) (hhi3 : hi3 ≤ w.heap.size) (hl : l ≤ maxLen) :
    Calls Try.prog 36 #[.agg #[.int .i64 z, .slice ao n c], .agg #[.int .i64 z1, .slice bo m d], .slice co l e_] w fun en w' => ResL w w' (valImageOf z fs z1 gs xs).1 (valImageOf z fs z1 gs xs).2 en := by
  unfold valImageOf
  obtain ⟨w1, hw1, hbx, hsz⟩ := bx2_new w z ao n c z1 bo m d 31
  have HBx := Lib.hid hbx
  have hI := fun (W : World) (hW : Bx2 w W z ao n c z1 bo m d) => hom_any lo hi lo2 hi2 lo3 hi3 z z1 ao bo co c n d m e_ l fs gs xs W (hv.kept (Kept.of_below hW.bel hhi)) (Nat.le_trans hhi hW.bel.size) hs (hu.kept (Kept.of_below hW.bel hhi2)) (Nat.le_trans hhi2 hW.bel.size) hs2 (hx.kept (Kept.of_below hW.bel hhi3)) (Nat.le_trans hhi3 hW.bel.size) hl
  obtain ⟨cz, ca, cz1, ca1, cB⟩ := hbx
  obtain ⟨t, ht⟩ : ∃ t, homB z z1 fs gs xs = t := ⟨_, rfl⟩
  obtain ⟨f, hf⟩ : ∃ f, pmF t xs = f := ⟨_, rfl⟩
  simp only [ht, ResPm, hf] at hI
  rw [ht]
  have HI := Lib.hid hI
  have HFx := Lib.hid hf
  clear hI cB hf
  cases t with
  | false =>
    rw [if_neg (by simp)]
    clear hv hu hx hs hs2 ht
    unfold ResL
    go_enter Try.func36, Try.ntmps36
    go_wp2_with fail
    rw [← hw1]
    clear hw1
    go_wp2_with fail
    refine (HI.out _ HBx.out).mono ?_
    rintro e w2 ⟨rfl, b2⟩
    have HBx2 := Lib.hid (HBx.out.below b2)
    clear b2 cz ca cz1 ca1
    have HA3 := Lib.hid (ArrAt.new w2 fun _ => 0)
    have HB4 := Lib.hid (HBx2.out.bel.trans ((new_row w2 f).2.mono HBx2.out.bel.size))
    go_wp2_with (refine st8 (w := w2.alloc (.cells (arrV fun _ => 0) 57)) (f' := f) HA3.out rfl _ _ rfl rfl rfl ?_)
    go_ret2
    exact ⟨_, _, _, rfl, rfl, OwnsInts.of_row (World.ownsRow_nil _ _ _ _), HB4.out⟩
  | true =>
    rw [if_pos rfl]
    obtain ⟨q0, _⟩ := homB_of ht
    obtain ⟨q1, q2, q3⟩ := mapB_of q0
    obtain ⟨hok, hok2, hty⟩ := sameH_of q1
    obtain ⟨⟨h1, h2⟩, _⟩ := algOkB_of hok
    obtain ⟨⟨k1, k2⟩, _⟩ := algOkB_of hok2
    have hlx := hx.1
    have HFe : Hid (f = arrL xs) := by unfold Hid; rw [← HFx.out, pmF_yes]
    have HLx := Lib.hid hlx
    have HIn := Lib.hid q3
    have hIm := fun W => images_any f W (by rw [HFe.out]; exact arr_bd q3 k2)
    have hse : setF f 8 = setN xs := by rw [HFe.out]; exact setF_arrL q3 (by omega)
    simp only [hse] at hIm
    have HIm := Lib.hid hIm
    have HLi := Lib.hid (fun W => list_any (setN xs) W (setN_lt (n := 8) q3 k2))
    clear hv hu hx hs hs2 ht q0 q1 q2 q3 hok hok2 hty hIm hse hlx
    unfold ResL
    go_enter Try.func36, Try.ntmps36
    go_wp2_with fail
    rw [← hw1]
    clear hw1
    go_wp2_with fail
    refine (HI.out _ HBx.out).mono ?_
    rintro e w2 ⟨rfl, b2⟩
    have HBx2 := Lib.hid (HBx.out.below b2)
    clear b2 cz ca cz1 ca1
    have HA3 := Lib.hid (ArrAt.new w2 fun _ => 0)
    obtain ⟨w3, hw3⟩ : ∃ w3, w3 = (w2.alloc (.cells (arrV fun _ => 0) 57)).setRow w2.heap.size (arrV f) := ⟨_, rfl⟩
    have HA4 : Hid (ArrAt w3 w2.heap.size f) := by unfold Hid; rw [hw3]; exact (new_row w2 f).1
    have HBx4 : Hid (Bx2 w w3 z ao n c z1 bo m d) := by unfold Hid; rw [hw3]; exact HBx2.out.below (new_row w2 f).2
    obtain ⟨cz, ca, cz1, ca1, cB⟩ := HBx4.out
    have HW3 := Lib.hid hw3
    clear hw3 cB
    go_wp2_with (first | (refine st8 (w := w2.alloc (.cells (arrV fun _ => 0) 57)) HA3.out rfl _ _ rfl rfl rfl ?_; rw [← HW3.out]) | (refine ld8 HA4.out rfl _ rfl rfl ?_))
    refine (HIm.out _).mono ?_
    rintro e w5 ⟨rfl, b5⟩
    have HB5 := Lib.hid (HBx4.out.below b5).bel
    clear b5 cz ca cz1 ca1
    go_wp2_with fail
    refine (HLi.out _).mono ?_
    rintro e w6 ⟨ga, gm, gd, rfl, hgm, ho, b6⟩
    have HB6 := Lib.hid (HB5.out.trans (b6.mono HB5.out.size))
    have HO := Lib.hid (ownsRow_base ho HB5.out.size)
    have HGm := Lib.hid hgm
    clear b6 ho hgm
    go_wp2_with fail
    go_ret2
    exact ⟨ga, gm, gd, rfl, HGm.out, OwnsInts.of_row HO.out, HB6.out⟩

set_option maxHeartbeats 2000000 in
set_option maxRecDepth 100000 in
theorem implInverseIso (lo hi : Nat) (z : Int) (ao : Option Addr) (c n : Nat) (fs : List OpD) (lo2 hi2 : Nat) (z1 : Int) (bo : Option Addr) (d m : Nat) (gs : List OpD) (lo3 hi3 : Nat) (co : Option Addr) (e_ l : Nat) (xs : List Int) (w : World) (hv : OView w lo hi ao n fs) (hhi : hi ≤ w.heap.size) (hs : ∀ (j : Nat) (f : OpD), fs[j]? = some f → f.2.length ≤ maxLen) (hu : OView w lo2 hi2 bo m gs) (hhi2 : hi2 ≤ w.heap.size) (hs2 : ∀ (j : Nat) (f : OpD), gs[j]? = some f → f.2.length ≤ maxLen) (hx : IView w lo3 hi3 co l xs) (hhi3 : hi3 ≤ w.heap.size) (hl : l ≤ maxLen) :
    Calls Try.prog 32 #[.agg #[.int .i64 z, .slice ao n c], .agg #[.int .i64 z1, .slice bo m d], .slice co l e_] w fun en w' => ResL w w' (valInverseIso z fs z1 gs xs).1 (valInverseIso z fs z1 gs xs).2 en := by
  unfold valInverseIso
  obtain ⟨w1, hw1, hbx, hsz⟩ := bx2_new w z ao n c z1 bo m d 31
  have HBx := Lib.hid hbx
  have hI := fun (W : World) (hW : Bx2 w W z ao n c z1 bo m d) => hom_any lo hi lo2 hi2 lo3 hi3 z z1 ao bo co c n d m e_ l fs gs xs W (hv.kept (Kept.of_below hW.bel hhi)) (Nat.le_trans hhi hW.bel.size) hs (hu.kept (Kept.of_below hW.bel hhi2)) (Nat.le_trans hhi2 hW.bel.size) hs2 (hx.kept (Kept.of_below hW.bel hhi3)) (Nat.le_trans hhi3 hW.bel.size) hl
  obtain ⟨cz, ca, cz1, ca1, cB⟩ := hbx
  obtain ⟨t, ht⟩ : ∃ t, homB z z1 fs gs xs = t := ⟨_, rfl⟩
  obtain ⟨f, hf⟩ : ∃ f, pmF t xs = f := ⟨_, rfl⟩
  simp only [ht, ResPm, hf] at hI
  rw [invB, ht]
  have HI := Lib.hid hI
  have HFx := Lib.hid hf
  clear hI cB hf
  cases t with
  | false =>
    rw [if_neg (by simp)]
    clear hv hu hx hs hs2 ht
    unfold ResL
    go_enter Try.func32, Try.ntmps32
    go_wp2_with fail
    rw [← hw1]
    clear hw1
    go_wp2_with fail
    refine (HI.out _ HBx.out).mono ?_
    rintro e w2 ⟨rfl, b2⟩
    have HBx2 := Lib.hid (HBx.out.below b2)
    clear b2 cz ca cz1 ca1
    have HA3 := Lib.hid (ArrAt.new w2 fun _ => 0)
    have HB4 := Lib.hid (HBx2.out.bel.trans ((new_row w2 f).2.mono HBx2.out.bel.size))
    go_wp2_with (refine st8 (w := w2.alloc (.cells (arrV fun _ => 0) 57)) (f' := f) HA3.out rfl _ _ rfl rfl rfl ?_)
    go_ret2
    exact ⟨_, _, _, rfl, rfl, OwnsInts.of_row (World.ownsRow_nil _ _ _ _), HB4.out⟩
  | true =>
    rw [Bool.true_and]
    obtain ⟨q0, _⟩ := homB_of ht
    obtain ⟨q1, q2, q3⟩ := mapB_of q0
    obtain ⟨hok, hok2, hty⟩ := sameH_of q1
    obtain ⟨⟨h1, h2⟩, _⟩ := algOkB_of hok
    obtain ⟨⟨k1, k2⟩, _⟩ := algOkB_of hok2
    have hlx := hx.1
    have HFe : Hid (f = arrL xs) := by unfold Hid; rw [← HFx.out, pmF_yes]
    have HLx := Lib.hid hlx
    have HIn := Lib.hid q3
    obtain rfl : z = (l : Int) := by omega
    obtain ⟨b, o, rfl, _, hbh, hc⟩ := hx.at_ (show 0 < l by omega)
    have HC := Lib.hid hc
    have HX := Lib.hid hx
    have hbw : b < w.heap.size := by omega
    have HM := Lib.hid (fun W => listM_any f l W (by omega) (by omega))
    have hle : lstP l f = xs := by rw [HFe.out]; exact lstP_arrL hlx
    simp only [hle, NewInts] at HM
    obtain ⟨zm, rfl⟩ : ∃ zm : Nat, z1 = (zm : Int) := ⟨z1.toNat, by omega⟩
    have hP := fun (W : World) (hW : Below w.heap.size w W) => perm_impl lo3 hi3 zm (some ⟨b, o, none⟩) e_ l xs W (HX.out.kept (Kept.of_below hW hhi3)) (Nat.le_trans hhi3 hW.size) (by omega) (by omega) hl
    obtain ⟨r, hr⟩ : ∃ r, permB (zm : Int) xs = r := ⟨_, rfl⟩
    simp only [hr] at hP
    rw [hr]
    have HP := Lib.hid hP
    have HRp := Lib.hid hr
    clear hv hu hx hs hs2 ht q0 q1 q2 q3 hok hok2 hty hc hle hP hr hlx
    unfold ResL
    cases r with
    | false =>
      rw [if_neg (by simp)]
      go_enter Try.func32, Try.ntmps32
      go_wp2_with fail
      rw [← hw1]
      clear hw1
      go_wp2_with fail
      refine (HI.out _ HBx.out).mono ?_
      rintro e w2 ⟨rfl, b2⟩
      have HBx2 := Lib.hid (HBx.out.below b2)
      clear b2 cz ca cz1 ca1
      have HA3 := Lib.hid (ArrAt.new w2 fun _ => 0)
      obtain ⟨w3, hw3⟩ : ∃ w3, w3 = (w2.alloc (.cells (arrV fun _ => 0) 57)).setRow w2.heap.size (arrV f) := ⟨_, rfl⟩
      have HA4 : Hid (ArrAt w3 w2.heap.size f) := by unfold Hid; rw [hw3]; exact (new_row w2 f).1
      have HBx4 : Hid (Bx2 w w3 (l : Int) ao n c (zm : Int) bo m d) := by unfold Hid; rw [hw3]; exact HBx2.out.below (new_row w2 f).2
      obtain ⟨cz, ca, cz1, ca1, cB⟩ := HBx4.out
      have HW3 := Lib.hid hw3
      clear hw3 cB
      go_wp2_with (first | (refine st8 (w := w2.alloc (.cells (arrV fun _ => 0) 57)) HA3.out rfl _ _ rfl rfl rfl ?_; rw [← HW3.out]) | (refine ld8 HA4.out rfl _ rfl rfl ?_))
      refine (HP.out _ HBx4.out.bel).mono ?_
      rintro e w5 ⟨rfl, b5⟩
      have HB5 := Lib.hid (HBx4.out.below b5).bel
      clear b5
      go_wp2_with fail
      go_ret2
      exact ⟨_, _, _, rfl, rfl, OwnsInts.of_row (World.ownsRow_nil _ _ _ _), HB5.out⟩
    | true =>
      rw [if_pos rfl]
      go_enter Try.func32, Try.ntmps32
      go_wp2_with fail
      rw [← hw1]
      clear hw1
      go_wp2_with fail
      refine (HI.out _ HBx.out).mono ?_
      rintro e w2 ⟨rfl, b2⟩
      have HBx2 := Lib.hid (HBx.out.below b2)
      clear b2 cz ca cz1 ca1
      have HA3 := Lib.hid (ArrAt.new w2 fun _ => 0)
      obtain ⟨w3, hw3⟩ : ∃ w3, w3 = (w2.alloc (.cells (arrV fun _ => 0) 57)).setRow w2.heap.size (arrV f) := ⟨_, rfl⟩
      have HA4 : Hid (ArrAt w3 w2.heap.size f) := by unfold Hid; rw [hw3]; exact (new_row w2 f).1
      have HBx4 : Hid (Bx2 w w3 (l : Int) ao n c (zm : Int) bo m d) := by unfold Hid; rw [hw3]; exact HBx2.out.below (new_row w2 f).2
      obtain ⟨cz, ca, cz1, ca1, cB⟩ := HBx4.out
      have HW3 := Lib.hid hw3
      clear hw3 cB
      go_wp2_with (first | (refine st8 (w := w2.alloc (.cells (arrV fun _ => 0) 57)) HA3.out rfl _ _ rfl rfl rfl ?_; rw [← HW3.out]) | (refine ld8 HA4.out rfl _ rfl rfl ?_))
      refine (HP.out _ HBx4.out.bel).mono ?_
      rintro e w4 ⟨rfl, b4⟩
      have HBx5 := Lib.hid (HBx4.out.below b4)
      have HA5 : Hid (ArrAt w4 w2.heap.size f) := HA4.out.below b4 HA4.out.lt
      clear b4 cz ca cz1 ca1
      obtain ⟨cz, ca, cz1, ca1, cB⟩ := HBx5.out
      clear cB
      go_wp2_with (refine ld8 HA5.out rfl _ rfl rfl ?_)
      refine (HM.out _).mono ?_
      rintro e w5 ⟨g, dd, rfl, ho, b5⟩
      have HB5 := Lib.hid (HBx5.out.below b5).bel
      have HO5 : Hid (w5.ownsRow w.heap.size 3 1 (.slice (some ⟨g, 0, none⟩) l dd) l ((invK xs xs 0).map (Value.int .i64))) := ownsRow_base ho HBx5.out.bel.size
      clear ho b5 cz ca cz1 ca1
      go_wp2_with fail
      go_loopw [35] (fun i wr => ∃ k : Nat, k ≤ l ∧ i = .int .i64 (k : Int) ∧ Hid (wr.ownsRow w.heap.size 3 1 (.slice (some ⟨g, 0, none⟩) l dd) l ((invK xs xs k).map (Value.int .i64))) ∧ Hid (Below w.heap.size w wr)) (fun i _ => l - (intOf i).toNat)
      case atStart => exact ⟨0, Nat.zero_le _, rfl, HO5, HB5⟩
      case round =>
        obtain ⟨k, hk, rfl, HR, HB⟩ := hrel
        by_cases hlt : k < l
        · have hkl : (k : Int) < (l : Int) := by omega
          obtain ⟨y, hy⟩ := get_of_lt HLx.out hlt
          obtain ⟨y0, y1⟩ := allIn_get HIn.out hy
          obtain ⟨yn, rfl⟩ : ∃ yn : Nat, y = (yn : Int) := ⟨y.toNat, by omega⟩
          have e1 : wr.cell? ⟨b, o + k, none⟩ = some (.int .i64 (yn : Int)) := (HB.out.cell (p := ⟨b, o + k, none⟩) hbw).trans (HC.out k _ hy)
          have hyl : yn < l := by have := (permB_of HRp.out).1; have := HLx.out; omega
          have hyl' : (yn : Int) < (l : Int) := by omega
          obtain ⟨u, hu⟩ : ∃ u, wr.cell? ⟨g, yn, none⟩ = some u := by
            have h_ := HR.out.cellAt yn (by omega)
            rw [h_]
            exact ⟨_, List.getElem?_eq_getElem (by rw [List.length_map, invK_len]; have := HLx.out; omega)⟩
          have hfr : wr.frozen? ⟨g, yn, none⟩ = false := HR.out.frozenAt yn
          have hst := (HR.out.stored yn (.int .i64 (k : Int))).1
          rw [invK_set hy] at hst
          have HST := Lib.hid hst
          have HBn := Lib.hid (HB.out.setCell (p := ⟨g, yn, none⟩) (by show w.heap.size ≤ g; exact (HR.out.lt g rfl).1) (.int .i64 (k : Int)))
          clear hy hst y0 y1
          go_wp2_with fail
          go_roundw
          case rel => exact ⟨k + 1, by omega, by go_num, HST, HBn⟩
          case measure => simp [intOf]; omega
        · have hkl : ¬ (k : Int) < (l : Int) := by omega
          obtain rfl : k = l := by omega
          have HE : Hid (xs.length = k) := HLx.out
          go_wp2_with fail
          go_ret2
          exact ⟨_, _, _, rfl, by rw [invK_len]; exact HE.out.symm, by rw [HE.out]; exact OwnsInts.of_row HR.out, HB.out⟩

end Go.Proofs.Ytcioekhlhgkkiaa
