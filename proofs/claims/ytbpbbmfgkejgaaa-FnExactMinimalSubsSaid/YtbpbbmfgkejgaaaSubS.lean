/-
  Contract: spec.l5Is, spec.l5All, spec.AllSubuniverses. Conditions: the bounds that each theorem names.
-/
import Derived.Test.YtbpbbmfgkejgaaaRise
import Derived.Test.YtbpbbmfgkejgaaaCloseC
import Derived.Test.YtbpbbmfgkejgaaaSmL
import Derived.Test.YtbpbbmfgkejgaaaInsS
import Derived.Test.YtbpbbmfgkejgaaaSubM
import Derived.Test.YtbpbbmfgkejgaaaBits5
import Derived.Test.YtbpbbmfgkejgaaaIsAlg
namespace Go.Proofs.Ytbpbbmfgkejgaaa
open Go.RowKit
set_option linter.unusedVariables false
set_option linter.unusedSimpArgs false

set_option maxHeartbeats 1000000 in
theorem l5Is_any (lo hi : Nat) (z : Int) (ao : Option Addr) (c n : Nat) (fs : List OpD) (lo2 hi2 : Nat) (bo : Option Addr) (d m : Nat) (xs : List Int) (w : World) (hv : OView w lo hi ao n fs) (hhi : hi ≤ w.heap.size) (hok : algOkB z fs = true)
    (hx : IView w lo2 hi2 bo m xs) (hhi2 : hi2 ≤ w.heap.size) (hm : m ≤ maxLen) :
    Calls Try.prog 68 #[.agg #[.int .i64 z, .slice ao n c], .slice bo m d] w fun e w' => e = .returned (.bool (isSubB z fs xs)) ∧ Below w.heap.size w w' := by
  have hB := below_alloc w (.cells #[.int .i64 z, .slice ao n c] 31)
  have HB := Lib.hid hB
  have HX := Lib.hid hx
  have HV := Lib.hid hv
  have cz : (w.alloc (.cells #[.int .i64 z, .slice ao n c] 31)).cell? ⟨w.heap.size, 0, none⟩ = some (.int .i64 z) := by simp
  have ca : (w.alloc (.cells #[.int .i64 z, .slice ao n c] 31)).cell? ⟨w.heap.size, 1, none⟩ = some (.slice ao n c) := by simp
  have HX0 := Lib.hid (hx.kept (Kept.of_below hB hhi2))
  have hs0 := hB.size
  obtain ⟨hz1, hz2⟩ := (algOkB_of hok).1
  have HOk := Lib.hid hok
  have hRi := rising_any lo2 hi2 z bo d m xs _ HX0.out hm hz1 hz2
  obtain ⟨r, hr⟩ : ∃ r, riseB z xs = r := ⟨_, rfl⟩
  rw [hr] at hRi
  have HRi := Lib.hid hRi
  have HRr := Lib.hid hr
  clear hv hx hok hB hRi hr
  go_enter Try.func68, Try.ntmps68
  cases r with
  | false =>
    rw [isSubB_rise HRr.out]
    go_wp2_with fail
    refine HRi.out.mono ?_
    rintro e w1 ⟨rfl, q, rfl⟩
    have HB1 := Lib.hid (below_drewN HB.out q)
    go_wp2_with fail
    go_ret
    exact ⟨rfl, HB1.out⟩
  | true =>
    have HE : Hid (decide (listK (closeN z fs (setN xs)) 8 = xs) = isSubB z fs xs) := isSub_close HOk.out HRr.out
    have HA : Hid (allIn z xs = true) := by
      have h_ := HRr.out
      unfold riseB at h_
      exact (Bool.and_eq_true _ _ |>.mp h_).1
    go_wp2_with fail
    refine HRi.out.mono ?_
    rintro e w1 ⟨rfl, hq⟩
    have HB1 : Hid (Below w.heap.size w w1) := by obtain ⟨q, rfl⟩ := hq; exact below_drewN HB.out q
    have cz1 : w1.cell? ⟨w.heap.size, 0, none⟩ = some (.int .i64 z) := by obtain ⟨q, rfl⟩ := hq; exact cz
    have ca1 : w1.cell? ⟨w.heap.size, 1, none⟩ = some (.slice ao n c) := by obtain ⟨q, rfl⟩ := hq; exact ca
    have HX1 := Lib.hid (HX.out.kept (Kept.of_below HB1.out hhi2))
    have hs1 := HB1.out.size
    have HG := Lib.hid (l5Close_any lo hi lo2 hi2 z ao bo c n d m fs xs w1 (HV.out.kept (Kept.of_below HB1.out hhi)) (Nat.le_trans hhi hs1) HOk.out HX1.out (Nat.le_trans hhi2 hs1) hm HA.out)
    clear hq cz ca HX0
    go_wp2_with fail
    refine HG.out.mono ?_
    rintro e w2 ⟨a2, m2, d2, rfl, hm2, ho2, b2⟩
    have HB2 := Lib.hid (HB1.out.trans (b2.mono HB1.out.size))
    have HS := Lib.hid (l1Same_any w1.heap.size w2.heap.size lo2 hi2 a2 bo d2 m2 d m (listK (closeN z fs (setN xs)) 8) xs w2 (OwnsInts.of_row ho2).view (HX1.out.kept (Kept.of_below b2 (Nat.le_trans hhi2 hs1))) (by have := listK_le (closeN z fs (setN xs)) 8; unfold maxLen; omega) hm)
    clear b2 ho2 hm2
    rw [HE.out] at HS
    go_wp2_with fail
    refine HS.out.mono ?_
    rintro e w3 ⟨rfl, q3, rfl⟩
    have HB3 := Lib.hid (below_drewN HB2.out q3)
    go_wp2_with fail
    go_ret
    exact ⟨rfl, HB3.out⟩

def ResV (w w' : World) (ls : List (List Int)) (ok : Bool) (e : Ending) : Prop :=
  ∃ ao n c, e = .returned (.tuple #[.slice ao n c, .bool ok]) ∧ Hid (n = ls.length) ∧ LView w' w.heap.size w'.heap.size ao n ls ∧ Below w.heap.size w w'
theorem shl_val {z : Int} (h1 : 1 ≤ z) (h8 : z ≤ 8) : IntKind.i64.wrap (2 ^ z.toNat) = ((2 ^ z.toNat : Nat) : Int) := by
  have h : z = 1 ∨ z = 2 ∨ z = 3 ∨ z = 4 ∨ z = 5 ∨ z = 6 ∨ z = 7 ∨ z = 8 := by omega
  rcases h with rfl | rfl | rfl | rfl | rfl | rfl | rfl | rfl <;> rfl

set_option maxHeartbeats 2000000 in
set_option maxRecDepth 100000 in
theorem l5All_any (lo hi : Nat) (z : Int) (ao : Option Addr) (c n : Nat) (fs : List OpD) (w : World) (hv : OView w lo hi ao n fs) (hhi : hi ≤ w.heap.size) (hok : algOkB z fs = true) :
    Calls Try.prog 33 #[.agg #[.int .i64 z, .slice ao n c]] w fun e w' => ∃ (g m d : Nat) (vs : List Value), e = .returned (.slice (some ⟨g, 0, none⟩) m d) ∧ m = (allL (subP z fs fun _ => true) (2 ^ z.toNat)).length ∧ m ≤ 256 ∧ w'.ownsRow (w.heap.size + 1) 40 1 (.slice (some ⟨g, 0, none⟩) m d) m vs ∧ InnL w' (w.heap.size + 1) vs (allL (subP z fs fun _ => true) (2 ^ z.toNat)) ∧ Below w.heap.size w w' := by
  obtain ⟨hz1, hz8⟩ := (algOkB_of hok).1
  obtain ⟨W0, hW0⟩ : ∃ W0, W0 = w.alloc (.cells #[.int .i64 z, .slice ao n c] 31) := ⟨_, rfl⟩
  have hS0 : W0.heap.size = w.heap.size + 1 := by rw [hW0]; simp
  have hB : Below w.heap.size w W0 := by rw [hW0]; exact below_alloc _ _
  have cz : W0.cell? ⟨w.heap.size, 0, none⟩ = some (.int .i64 z) := by rw [hW0]; simp
  have ca : W0.cell? ⟨w.heap.size, 1, none⟩ = some (.slice ao n c) := by rw [hW0]; simp
  have hpow : 2 ^ z.toNat ≤ 2 ^ 8 := Nat.pow_le_pow_right (by decide) (by omega)
  have hsh := shl_val hz1 hz8
  rw [show ((2 ^ z.toNat : Nat) : Int) = 2 ^ z.toNat by simp] at hsh
  have HBx := Lib.hid (fun s h => isSub_list (z := z) (fs := fs) (s := s) h (by omega))
  obtain ⟨p, hp⟩ : ∃ p, p = (subP z fs fun _ => true) := ⟨_, rfl⟩
  have HP : Hid (∀ s, p s = decide (stepN z fs s = s)) := fun s => by rw [hp]; simp [subP]
  rw [← hp]
  obtain ⟨N, hN⟩ : ∃ N, N = 2 ^ z.toNat := ⟨_, rfl⟩
  have HAsc := Lib.hid (fun k (h : k ≤ 2 ^ 8) => allL_asc (p := p) h)
  have HLen := Lib.hid (fun k => allL_len p k)
  have HMem : Hid (∀ k y, y ∈ allL p k → y.length ≤ 8) := fun k y hy => by
    obtain ⟨s, _, _, rfl⟩ := allL_mem.1 hy
    exact listK_le s 8
  have HPw : Hid ((2 : Int) ^ z.toNat = (N : Int)) := by unfold Hid; rw [hN]; simp
  rw [← hN] at hpow HBx ⊢
  clear hN
  have HIs := Lib.hid (fun (bo : Option Addr) (d m B : Nat) (xs : List Int) (W : World) (hW : Below w.heap.size w W) (hx : IView W B W.heap.size bo m xs) (hm : m ≤ maxLen) => l5Is_any lo hi z ao c n fs B W.heap.size bo d m xs W (hv.kept (Kept.of_below hW hhi)) (Nat.le_trans hhi hW.size) hok hx (Nat.le_refl _) hm)
  have HB := Lib.hid hB
  have ho_ := own_nilL W0 (base := w.heap.size + 1) (Nat.le_of_eq hS0.symm)
  rw [hS0] at ho_
  have HO0 := Lib.hid ho_
  clear ho_
  have HB0 := Lib.hid (below_alloc W0 (.cells #[] 40))
  have HS0 := Lib.hid hS0
  have HW0 := Lib.hid hW0
  have hN8 : N ≤ 256 := hpow
  have hz0 : (0 : Int) ≤ z := by omega
  clear hv hok hB hpow hp hS0
  go_enter Try.func33, Try.ntmps33
  go_wp2_with fail
  rw [← HW0.out]
  go_loopw [3, 4] (fun v i wr => ∃ (k m d g : Nat) (vs : List Value), k ≤ N ∧ i = .int .i64 (k : Int) ∧ v = .slice (some ⟨g, 0, none⟩) m d ∧ m ≤ k ∧ Hid (m = (allL p k).length) ∧ Hid (wr.ownsRow (w.heap.size + 1) 40 1 (.slice (some ⟨g, 0, none⟩) m d) m vs) ∧ Hid (InnL wr (w.heap.size + 1) vs (allL p k)) ∧ Hid (Below W0.heap.size W0 wr)) (fun _ i _ => N - (intOf i).toNat)
  case atStart => exact ⟨0, 0, 0, _, [], Nat.zero_le _, rfl, rfl, Nat.le_refl _, rfl, HO0.out, InnL.nil _ _, HB0.out⟩
  case round =>
    obtain ⟨k, m, d, g, vs, hk, rfl, rfl, hmk, HM, HR, HI, HBr⟩ := hrel
    have czr := cell_b HBr.out cz
    have car := cell_b HBr.out ca
    by_cases hkN : k < N
    · have hkN' : (k : Int) < 2 ^ z.toNat := by rw [HPw.out]; omega
      have HBits := Lib.hid (l5Bits_any k wr (by omega))
      go_wp2_with fail
      refine HBits.out.mono ?_
      rintro e w2 ⟨g2, m2, d2, rfl, hm2, ho2, b2⟩
      have HB2 := Lib.hid (HBr.out.trans (b2.mono HBr.out.size))
      have HBw2 := Lib.hid (HB.out.trans (HB2.out.mono HB.out.size))
      have cz2 := cell_b b2 czr
      have ca2 := cell_b b2 car
      have hm8 : m2 ≤ 8 := by rw [hm2]; exact listK_le k 8
      clear hm2
      have hmd := row_cap ho2
      have HV2 := Lib.hid (IView.of_owns ho2 (Nat.le_refl _))
      have HR2 := Lib.hid (HR.out.kept (grown_of_below b2 none) (own_em _))
      have HI2 := Lib.hid (HI.out.below b2)
      have hsz : w.heap.size + 1 ≤ wr.heap.size := by rw [← HS0.out]; exact HBr.out.size
      have HC := HIs.out (some ⟨g2, 0, none⟩) d2 m2 wr.heap.size (listK k 8) w2 HBw2.out HV2.out (by unfold maxLen; omega)
      rw [HBx.out k hkN, ← HP.out k] at HC
      obtain ⟨u, hu⟩ : ∃ u, p k = u := ⟨_, rfl⟩
      rw [hu] at HC
      have HCi := Lib.hid HC
      have HU := Lib.hid hu
      clear b2 ho2 HC hu HBits czr car
      go_wp2_with fail
      cases u with
      | true =>
        refine HCi.out.mono ?_
        rintro e w3 ⟨rfl, b3⟩
        have HB3 := Lib.hid (HB2.out.trans (b3.mono HB2.out.size))
        have cz3 := cell_b b3 cz2
        have ca3 := cell_b b3 ca2
        have hst := l5Sort_any (w.heap.size + 1) g m d vs (allL p k) (some ⟨g2, 0, none⟩) m2 d2 (listK k 8) w3 (HR2.out.kept (grown_of_below b3 none) (own_em _)) (HI2.out.below b3) ((HV2.out.kept (Kept.of_below b3 (Nat.le_refl _))).mono hsz b3.size) hmd.1 hmd.2 (by omega) (by rw [← HS0.out]; exact HB3.out.size) (HAsc.out k (by omega)) (HMem.out k) hm8
        have HSt := Lib.hid hst
        clear b3 hst cz2 ca2
        go_wp2_with fail
        refine HSt.out.mono ?_
        rintro e w4 ⟨g4, d4, vs4, rfl, ho4, hi4, b4⟩
        have HB4 := Lib.hid (HB3.out.trans (b4.mono HB3.out.size))
        have HO4 := Lib.hid ho4
        have HI4 : Hid (InnL w4 (w.heap.size + 1) vs4 (allL p (k + 1))) := by unfold Hid; rw [allL, HU.out, if_pos rfl]; exact hi4
        have HM4 : Hid (m + 1 = (allL p (k + 1)).length) := by unfold Hid; rw [allL, HU.out, if_pos rfl, insL_len, HM.out]
        clear b4 ho4 hi4 cz3 ca3
        go_wp2_with fail
        go_roundw
        case rel => exact ⟨k + 1, m + 1, d4, g4, vs4, by omega, by go_num, rfl, by omega, HM4, HO4, HI4, HB4⟩
        case measure => simp [intOf]; omega
      | false =>
        refine HCi.out.mono ?_
        rintro e w3 ⟨rfl, b3⟩
        have HB3 := Lib.hid (HB2.out.trans (b3.mono HB2.out.size))
        have HR3 := Lib.hid (HR2.out.kept (grown_of_below b3 none) (own_em _))
        have HI3 : Hid (InnL w3 (w.heap.size + 1) vs (allL p (k + 1))) := by unfold Hid; rw [allL, HU.out, if_neg (by simp)]; exact HI2.out.below b3
        have HM3 : Hid (m = (allL p (k + 1)).length) := by unfold Hid; rw [allL, HU.out, if_neg (by simp)]; exact HM.out
        clear b3 cz2 ca2
        go_wp2_with fail
        go_roundw
        case rel => exact ⟨k + 1, m, d, g, vs, by omega, by go_num, rfl, by omega, HM3, HR3, HI3, HB3⟩
        case measure => simp [intOf]; omega
    · have hkN' : ¬ (k : Int) < 2 ^ z.toNat := by rw [HPw.out]; omega
      obtain rfl : k = N := by omega
      go_wp2_with fail
      go_ret
      have hF := HB.out.trans (HBr.out.mono HB.out.size)
      refine ⟨g, m, d, rfl, HM.out, by omega, ?_⟩
      first | exact ⟨⟨vs, HR.out, HI.out⟩, hF⟩ | exact ⟨vs, HR.out, HI.out, hF⟩

set_option maxHeartbeats 1000000 in
theorem specAllSubuniverses (lo hi : Nat) (z : Int) (ao : Option Addr) (c n : Nat) (fs : List OpD) (w : World) (hv : OView w lo hi ao n fs) (hhi : hi ≤ w.heap.size) (hs : ∀ (j : Nat) (f : OpD), fs[j]? = some f → f.2.length ≤ maxLen) :
    Calls Try.prog 10 #[.agg #[.int .i64 z, .slice ao n c]] w fun e w' => ResV w w' (valAllSubuniverses z fs).1 (valAllSubuniverses z fs).2 e := by
  have hB := below_alloc w (.cells #[.int .i64 z, .slice ao n c] 31)
  have HB := Lib.hid hB
  have HV := Lib.hid hv
  have cz : (w.alloc (.cells #[.int .i64 z, .slice ao n c] 31)).cell? ⟨w.heap.size, 0, none⟩ = some (.int .i64 z) := by simp
  have ca : (w.alloc (.cells #[.int .i64 z, .slice ao n c] 31)).cell? ⟨w.heap.size, 1, none⟩ = some (.slice ao n c) := by simp
  have hC := good_any lo hi z ao c n fs _ (hv.kept (Kept.of_below hB hhi)) (Nat.le_trans hhi hB.size) hs
  obtain ⟨r, hr⟩ : ∃ r, algOkB z fs = r := ⟨_, rfl⟩
  rw [hr] at hC
  have HC := Lib.hid hC
  have HRr := Lib.hid hr
  unfold ResV valAllSubuniverses
  rw [hr]
  cases r with
  | false =>
    clear hv hs hB hC hr
    go_enter Try.func10, Try.ntmps10
    go_wp2_with fail
    refine HC.out.mono ?_
    rintro e w1 ⟨rfl, b1⟩
    have HB1 := Lib.hid (HB.out.trans (b1.mono HB.out.size))
    clear b1
    go_wp2_with fail
    go_ret2
    exact ⟨_, 0, ⟨0, rfl⟩, rfl, ⟨rfl, .inl rfl⟩, below_then HB1.out (below_alloc _ _)⟩
  | true =>
    clear hv hs hB hC hr
    go_enter Try.func10, Try.ntmps10
    go_wp2_with fail
    refine HC.out.mono ?_
    rintro e w1 ⟨rfl, b1⟩
    have HB1 := Lib.hid (HB.out.trans (b1.mono HB.out.size))
    have cz1 := cell_b b1 cz
    have ca1 := cell_b b1 ca
    have HS := Lib.hid (l5All_any lo hi z ao c n fs w1 (HV.out.kept (Kept.of_below HB1.out hhi)) (Nat.le_trans hhi HB1.out.size) HRr.out)
    clear b1 cz ca
    go_wp2_with fail
    refine HS.out.mono ?_
    rintro e w3 ⟨g, m, d, vs, rfl, hm, hm2, ho, hi3, b3⟩
    have HB3 := Lib.hid (HB1.out.trans (b3.mono HB1.out.size))
    have HL := Lib.hid ((row_LView ho hi3).mono (Nat.le_trans HB1.out.size (Nat.le_succ _)) (Nat.le_refl _))
    have HM := Lib.hid hm
    clear b3 ho hi3 hm
    go_wp2_with fail
    go_ret2
    exact ⟨_, m, ⟨d, rfl⟩, HM, HL.out, HB3.out⟩

end Go.Proofs.Ytbpbbmfgkejgaaa
