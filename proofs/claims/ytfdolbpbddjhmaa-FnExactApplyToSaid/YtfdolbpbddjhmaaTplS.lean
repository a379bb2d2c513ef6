/-
  Contracts: spec.l8Tuple, l8Tuples, l8Apply. Conditions: the bounds that each theorem names.
-/
import Derived.Test.YtfdolbpbddjhmaaTplM
import Derived.Test.YtfdolbpbddjhmaaLView
import Derived.Test.YtfdolbpbddjhmaaElems
import Derived.Test.YtfdolbpbddjhmaaType
namespace Go.Proofs.Ytfdolbpbddjhmaa
open Go.RowKit
set_option linter.unusedVariables false
set_option linter.unusedSimpArgs false

theorem l8Tuple_any (lo hi : Nat) (z k : Int) (ao : Option Addr) (c n : Nat) (t : List Int) (w : World) (h : IView w lo hi ao n t) (hn : n ≤ maxLen) (h1 : 1 ≤ z) (h2 : z ≤ 8) :
    Calls Try.prog 119 #[.int .i64 z, .int .i64 k, .slice ao n c] w fun e w' => e = .returned (.bool (tupB z k t)) ∧ w = w' := by
  have hE := elems_spec lo hi z ao c n t w h (by omega) (by omega) hn
  have hl := h.1
  obtain ⟨r, hr⟩ : ∃ r, allIn z t = r := ⟨_, rfl⟩
  rw [hr] at hE
  have HE := Lib.hid hE
  by_cases hk : (n : Int) = k
  · rw [show tupB z k t = r by rw [tupB, hl, decide_eq_true hk, Bool.true_and, hr]]
    have hk' : ((n : Int) == k) = true := by simp [hk]
    clear h hE hl hr
    go_enter Try.func119, Try.ntmps119
    go_wp2_with fail
    refine HE.out.mono ?_
    rintro e w1 ⟨rfl, rfl⟩
    go_wp2_with fail
    go_ret
    exact ⟨by simp, rfl⟩
  · rw [show tupB z k t = false by rw [tupB, hl, decide_eq_false hk]; rfl]
    have hk' : ((n : Int) == k) = false := by simp [hk]
    clear h hE hl hr
    go_enter Try.func119, Try.ntmps119
    go_wp2_with fail
    go_ret
    exact ⟨rfl, rfl⟩

set_option maxHeartbeats 2000000 in
theorem l8Tuples_any (lo hi : Nat) (z k : Int) (ao : Option Addr) (c n : Nat) (ls : List (List Int)) (w : World) (h : LView w lo hi ao n ls) (hn : n ≤ maxLen) (h1 : 1 ≤ z) (h2 : z ≤ 8) :
    Calls Try.prog 73 #[.int .i64 z, .int .i64 k, .slice ao n c] w fun e w' => e = .returned (.bool (tupsB z k ls)) ∧ w = w' := by
  unfold maxLen at hn
  have HV := Lib.hid h
  have HI := Lib.hid (fun W => in_any k 1 64 W)
  obtain ⟨r, hr⟩ : ∃ r, tupsB z k ls = r := ⟨_, rfl⟩
  rw [hr]
  have HR := Lib.hid hr
  clear h hr
  go_enter Try.func73, Try.ntmps73
  go_wp2_with fail
  go_loopw [7] (fun i wr => ∃ j : Nat, j ≤ n ∧ i = .int .i64 (j : Int) ∧ Hid ((ls.take j).all (tupB z k) = true) ∧ wr = w) (fun i _ => n - (intOf i).toNat)
  case atStart => exact ⟨0, Nat.zero_le _, rfl, rfl, rfl⟩
  case round =>
    obtain ⟨j, hj, rfl, HA, rfl⟩ := hrel
    by_cases hlt : j < n
    · obtain ⟨b, o, rfl, _, _, hc⟩ := HV.out.at_ (by omega)
      obtain ⟨t, ht⟩ : ∃ t, ls[j]? = some t := ⟨_, List.getElem?_eq_getElem (by have := HV.out.1; omega)⟩
      obtain ⟨a, m, c', c0, hm, hcm, hv⟩ := hc j t ht
      have hT := l8Tuple_any lo hi z k a c' m t wr hv (by omega) h1 h2
      obtain ⟨u, hu⟩ : ∃ u, tupB z k t = u := ⟨_, rfl⟩
      rw [hu] at hT
      have HT := Lib.hid hT
      have Ht := Lib.hid ht
      have Hu := Lib.hid hu
      have hjn : (j : Int) < (n : Int) := by omega
      clear hc hv hT ht hu
      cases u with
      | true =>
        go_wp2_with fail
        refine HT.out.mono ?_
        rintro e w1 ⟨rfl, rfl⟩
        go_wp2_with fail
        go_roundw
        case rel => exact ⟨j + 1, by omega, by go_num, all_take_succ Ht.out HA.out Hu.out, by first | rfl | trivial⟩
        case measure => simp [intOf]; omega
      | false =>
        obtain rfl : r = false := HR.out.symm.trans (all_no Ht.out Hu.out)
        go_wp2_with fail
        refine HT.out.mono ?_
        rintro e w1 ⟨rfl, rfl⟩
        go_wp2_with fail
        go_ret
        exact ⟨rfl, rfl⟩
    · obtain rfl : j = n := by omega
      have hjn : ¬ (j : Int) < (j : Int) := by omega
      have hA := HA.out
      rw [List.take_of_length_le (by have := HV.out.1; omega)] at hA
      obtain rfl : r = inB 1 64 k := HR.out.symm.trans (by rw [tupsB, hA, Bool.true_and])
      clear hA
      go_wp2_with fail
      refine (HI.out _).mono ?_
      rintro e w1 ⟨rfl, rfl⟩
      go_wp2_with fail
      go_ret
      exact ⟨rfl, rfl⟩

set_option maxRecDepth 100000 in
set_option maxHeartbeats 4000000 in
theorem l8Apply_any (lo hi : Nat) (z : Int) (ao : Option Addr) (c n : Nat) (fs : List OpD) (k : Nat) (f : OpD) (lo2 hi2 : Nat) (bo : Option Addr) (d m : Nat) (ls : List (List Int)) (K : Nat) (w : World) (hv : OView w lo hi ao n fs) (hhi : hi ≤ w.heap.size) (hok : algOkB z fs = true) (hf : fs[k]? = some f)
    (hx : LView w lo2 hi2 bo m ls) (hhi2 : hi2 ≤ w.heap.size) (ha : ls.all (tupB z K) = true) (hl : (m : Int) = f.1) (hK : K ≤ 64) :
    Calls Try.prog 74 #[.agg #[.int .i64 z, .slice ao n c], .int .i64 (k : Int), .slice bo m d, .int .i64 (K : Int)] w fun e w' => ∃ g dd, e = .returned (.slice (some ⟨g, 0, none⟩) K dd) ∧ w'.ownsRow w.heap.size 3 1 (.slice (some ⟨g, 0, none⟩) K dd) K ((appT z f ls K).map (Value.int .i64)) ∧ Below w.heap.size w w' := by
  obtain ⟨⟨h1, h2⟩, hn4, hall⟩ := algOkB_of hok
  have hfo := hall f (List.mem_of_getElem? hf)
  have hm3 : m ≤ 3 := by have := (opOkB_of hfo).1; omega
  have hkl : k < n := by rw [← hv.1]; exact (List.getElem?_eq_some_iff.1 hf).1
  have hn4' : n ≤ 4 := by have := hv.1; omega
  have hll := hx.1
  obtain ⟨wA, hwA⟩ : ∃ wA : World, wA = w.alloc (.cells #[.int .i64 z, .slice ao n c] 28) := ⟨_, rfl⟩
  have bA : Below w.heap.size w wA := by rw [hwA]; exact below_alloc _ _
  have hsA : wA.heap.size = w.heap.size + 1 := by rw [hwA]; simp
  obtain ⟨wo, hwo0⟩ : ∃ wo : World, wo = wA.alloc (.cells #[] 3) := ⟨_, rfl⟩
  have bo' : Below wA.heap.size wA wo := by rw [hwo0]; exact below_alloc _ _
  have HR0 : Hid (wo.ownsRow (w.heap.size + 1) 3 1 (.slice (some ⟨w.heap.size + 1, 0, none⟩) 0 0) 0 ((appT z f ls 0).map (Value.int .i64))) := by
    have h := World.ownsRow_lit (base := w.heap.size + 1) (e := 3) (size := 1) wA #[] 0 (by omega) (by decide) (by simp)
    rw [← hwo0, hsA] at h
    exact h
  have HB0 := Lib.hid (bA.trans (bo'.mono bA.size))
  have cz0 : wo.cell? ⟨w.heap.size, 0, none⟩ = some (.int .i64 z) := cell_b bo' (by rw [hwA]; simp)
  have ca0 : wo.cell? ⟨w.heap.size, 1, none⟩ = some (.slice ao n c) := cell_b bo' (by rw [hwA]; simp)
  have hs0 : w.heap.size + 1 < wo.heap.size := by rw [hwo0]; simp [hsA]
  have hwo : wo = (w.alloc (.cells #[.int .i64 z, .slice ao n c] 28)).alloc (.cells #[] 3) := by rw [hwo0, hwA]
  obtain ⟨i0, hi0, hz0, hz1, hz2⟩ := info_parts Try.infoInt
  have HV := Lib.hid hv
  have HX := Lib.hid hx
  have HA := Lib.hid ha
  have HFo := Lib.hid hfo
  have HF := Lib.hid hf
  have HL := Lib.hid hl
  have HLl := Lib.hid hll
  clear hwo0 hwA bA bo' hsA hv hok hf hx ha hl hll hfo hall hn4
  go_enter Try.func74, Try.ntmps74
  go_wp2_with fail
  rw [← hwo]
  clear hwo
  go_wp2_with fail
  go_loopw [9, 10, 11, 12] (fun v i s11 s12 wr => ∃ (p g dd : Nat), p ≤ K ∧ i = .int .i64 (p : Int) ∧ v = .slice (some ⟨g, 0, none⟩) p dd ∧ Hid (wr.ownsRow (w.heap.size + 1) 3 1 (.slice (some ⟨g, 0, none⟩) p dd) p ((appT z f ls p).map (Value.int .i64))) ∧ Hid (Below w.heap.size w wr) ∧ wr.cell? ⟨w.heap.size, 0, none⟩ = some (.int .i64 z) ∧ wr.cell? ⟨w.heap.size, 1, none⟩ = some (.slice ao n c) ∧ w.heap.size + 1 < wr.heap.size) (fun _ i _ _ _ => K - (intOf i).toNat)
  case atStart => exact ⟨0, _, _, Nat.zero_le _, rfl, rfl, HR0, HB0, cz0, ca0, hs0⟩
  case round =>
    obtain ⟨p, g, dd, hp, rfl, rfl, HR, HBr, dz, da, hsr⟩ := hrel
    clear cz0 ca0 hs0 HR0 HB0
    obtain ⟨wo, hwo⟩ : ∃ wo : World, wo = wr := ⟨_, rfl⟩
    rw [← hwo]
    rw [← hwo] at HR HBr dz da hsr
    clear hwo
    by_cases hlt : p < K
    · have hlt' : (p : Int) < (K : Int) := by omega
      have hci := colL_in HA.out hlt
      have hcl := colL_len ls p
      have HCi := Lib.hid hci
      have HCl := Lib.hid hcl
      clear hci hcl
      go_wp2_with fail
      go_loopw [11, 12] (fun v i wi => ∃ (j q : Nat) (a : Int), j ≤ m ∧ i = .int .i64 (j : Int) ∧ v = .int .i64 a ∧ Hid (a = idxA z ((colL ls p).take j)) ∧ wi = wo.drewN q) (fun _ i _ => m - (intOf i).toNat)
      case atStart => exact ⟨0, 0, 0, Nat.zero_le _, rfl, rfl, rfl, rfl⟩
      case round =>
        obtain ⟨j, q, a, hj, rfl, rfl, HAx, rfl⟩ := hrel
        by_cases hltj : j < m
        · obtain ⟨b2, o2, rfl, _, hb2, hc⟩ := HX.out.at_ (by omega)
          obtain ⟨t, ht⟩ : ∃ t, ls[j]? = some t := ⟨_, List.getElem?_eq_getElem (by have := HX.out.1; omega)⟩
          obtain ⟨a2, m2, c2, c0, hm2, hcm2, hvt⟩ := hc j t ht
          obtain ⟨tl, ta⟩ := tups_get HA.out ht
          obtain ⟨x, hx1, hx2, x0, x1⟩ := col_at tl ta hlt
          have hm2K : m2 = K := by have := hvt.1; omega
          obtain ⟨b3, o3, rfl, _, hb3, hc3⟩ := hvt.at_ (by omega)
          have e1 : wo.cell? ⟨b2, o2 + j, none⟩ = some (.slice (some ⟨b3, o3, none⟩) m2 c2) := cell_b HBr.out c0
          have e2 : wo.cell? ⟨b3, o3 + p, none⟩ = some (.int .i64 x) := cell_b HBr.out (hc3 p x hx1)
          have hcg := colL_get (p := p) ht
          rw [hx2] at hcg
          obtain ⟨q0, q1, q2, q3, q4, q5⟩ := idx_step h1 h2 HCi.out (by have := HCl.out; have := HLl.out; omega) hcg
          rw [← HAx.out] at q2 q3 q4 q5
          have HN : Hid (a * z + x = idxA z ((colL ls p).take (j + 1))) := by unfold Hid; rw [idxA_succ hcg, HAx.out]
          have hjm : (j : Int) < (m : Int) := by omega
          have hpm : (p : Int) < (m2 : Int) := by omega
          clear hc ht c0 hvt tl ta hx1 hx2 hc3 hcg q0 q1 hm2 hcm2 hm2K hb2 hb3
          go_wp2_with fail
          go_quiet (fail)
          go_wp2_with fail
          go_roundw
          case rel => exact ⟨j + 1, _, a * z + x, by omega, by go_num, rfl, HN, rfl⟩
          case measure => simp [intOf]; omega
        · obtain rfl : j = m := by omega
          have hjm : ¬ (j : Int) < (j : Int) := by omega
          obtain ⟨hi0_, hi1_, hat⟩ := at_get h1 HFo.out (xs := colL ls p) (by rw [HCl.out, HLl.out]; exact HL.out) HCi.out
          obtain ⟨ti, hti⟩ : ∃ ti : Nat, idxA z (colL ls p) = (ti : Int) := ⟨_, (Int.toNat_of_nonneg hi0_).symm⟩
          rw [hti, Int.toNat_natCast] at hat
          rw [hti] at hi1_
          obtain rfl : a = (ti : Int) := by rw [HAx.out, idx_all (by rw [HCl.out, HLl.out]; exact Nat.le_refl _), hti]
          obtain ⟨y, hy⟩ : ∃ y, atA z f (colL ls p) = y := ⟨_, rfl⟩
          rw [hy] at hat
          have HY := Lib.hid hy
          obtain ⟨wq, hwq⟩ : ∃ wq : World, wq = wo.drewN q := ⟨_, rfl⟩
          have bq : Below wo.heap.size wo wq := by rw [hwq]; exact below_drewN (Below.refl _ _) _
          obtain ⟨b2, o2, rfl, _, hb2, hc⟩ := HV.out.at_ (by omega)
          obtain ⟨a2, mt, c', c0, c1, hmc, hcm, hvt⟩ := hc k f HF.out
          have hmt : f.2.length = mt := hvt.1
          obtain ⟨bt, ot, rfl, _, _, hct⟩ := hvt.at_ (by omega)
          have BW := HBr.out.trans (bq.mono HBr.out.size)
          have e1 : wq.cell? ⟨b2, o2 + k * 2 + 1, none⟩ = some (.slice (some ⟨bt, ot, none⟩) mt c') := cell_b BW c1
          have e2 : wq.cell? ⟨bt, ot + ti, none⟩ = some (.int .i64 y) := cell_b BW (hct ti y hat)
          have qz : wq.cell? ⟨w.heap.size, 0, none⟩ = some (.int .i64 z) := cell_b bq dz
          have qa : wq.cell? ⟨w.heap.size, 1, none⟩ = some (.slice (some ⟨b2, o2, none⟩) n c) := cell_b bq da
          have HRq := Lib.hid (HR.out.kept (grown_of_below bq none) (own_em _))
          have hsq : w.heap.size + 1 < wq.heap.size := by have := bq.size; omega
          have HBW := Lib.hid BW
          have htm : (ti : Int) < (mt : Int) := by omega
          have hkn : (k : Int) < (n : Int) := by omega
          clear hc c0 c1 hvt hct hat hti hi0_ hi1_ hmc hcm hy hb2 bq BW dz da
          rw [← hwq]
          clear hwq
          go_wp2_with (at_builtin; refine wpList_append_own _ rfl _ _ 37 rfl (w.heap.size + 1) 3 i0 (.int .i64 0) 1 8 Try.underlying37 hi0 hz0 hz1 hz2 rfl (by decide) (.slice (some ⟨g, 0, none⟩) p dd) p ((appT z f ls p).map (Value.int .i64)) rfl (HRq.out.alloc _) ⟨wq.heap.size, 0, none⟩ 1 1 [.int .i64 y] rfl rfl (cell_one_new _ _ _) (fun x hx => by simp at hx; subst hx; rfl) (by unfold maxLen; omega) (by omega) (by simp; omega) ?_; intro v' w5 hown' hgrow' hnil'; obtain ⟨g5, cap5, rfl⟩ := ownsRow_succ hown')
          have HR5 : Hid (w5.ownsRow (w.heap.size + 1) 3 1 (.slice (some ⟨g5, 0, none⟩) (p + 1) cap5) (p + 1) ((appT z f ls (p + 1)).map (Value.int .i64))) := by
            unfold Hid
            rw [appT_succ, List.map_append, HY.out]; exact hown'
          have HB5 := Lib.hid ((HBW.out.alloc HBW.out.size _).grown hgrow' (by simp; omega) (fun b hb => by have h_ := (HRq.out.lt b hb).1; omega))
          have hblk : w5.heap[w.heap.size]? = wq.heap[w.heap.size]? := (hgrow'.block w.heap.size (by simp; omega) (fun e => by have h_ := (HRq.out.lt _ e.symm).1; omega)).trans (Below.heap_alloc _ _ _ (by omega))
          have dz5 := (World.cell?_of_block (a := ⟨w.heap.size, 0, none⟩) hblk).trans qz
          have da5 := (World.cell?_of_block (a := ⟨w.heap.size, 1, none⟩) hblk).trans qa
          have hs5 : w.heap.size + 1 < w5.heap.size := by have := hgrow'.size; simp at this; omega
          clear hown' hgrow' hnil' hblk qz qa e1 e2
          go_wp2_with fail
          go_roundw
          case rel => exact ⟨p + 1, g5, cap5, by omega, by go_num, rfl, HR5, HB5, dz5, da5, hs5⟩
          case measure => simp [intOf]; omega
    · obtain rfl : p = K := by omega
      have hlt' : ¬ (p : Int) < (p : Int) := by omega
      go_wp2_with fail
      go_ret
      exact ⟨_, _, rfl, ownsRow_base HR.out (Nat.le_succ _), HBr.out⟩

end Go.Proofs.Ytfdolbpbddjhmaa
