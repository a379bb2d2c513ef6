/-
  Contracts: spec.l5Step and spec.l5Close. Conditions: the bounds that each theorem names.
-/
import Derived.Test.YtcmjkfcgekmomaaDigs
import Derived.Test.YtcmjkfcgekmomaaBoolS
import Derived.Test.YtcmjkfcgekmomaaSetV
import Derived.Deep.RegionHeld3
namespace Go.Proofs.Ytcmjkfcgekmomaa
open Go.RowKit Go.WideShapes
set_option linter.unusedVariables false
set_option linter.unusedSimpArgs false

set_option maxRecDepth 100000 in
set_option maxHeartbeats 4000000 in
theorem l5Step_any (lo hi : Nat) (zn : Nat) (ao : Option Addr) (c n : Nat) (fs : List OpD) (hi2 g d s : Nat) (w : World) (hv : OView w lo hi ao n fs) (hhi : hi ≤ w.heap.size) (hok : algOkB (zn : Int) fs = true) (hin : BoolsIn w hi2 g zn s) (hhi2 : hi2 ≤ w.heap.size) (hs : s < 2 ^ zn) (hd : zn ≤ d) (hd2 : d ≤ maxLen) :
    Calls Try.prog 134 #[.agg #[.int .i64 (zn : Int), .slice ao n c], .slice (some ⟨g, 0, none⟩) zn d] w fun e w' => BoolsAt w w' zn (stepN (zn : Int) fs s) e := by
  obtain ⟨i0, hi0, hz0, hz1, hz2⟩ := info_parts Try.infoBool
  obtain ⟨⟨h1, h2⟩, hn4, hall⟩ := algOkB_of hok
  have hz8 : zn ≤ 8 := by omega
  have HV := Lib.hid hv
  have HAll := Lib.hid hall
  have HS := Lib.hid hs
  have HIn := Lib.hid hin
  have hl := hv.1
  rw [hl] at hn4
  have hb1 := below_alloc w (.cells #[.int .i64 (zn : Int), .slice ao n c] 31)
  have HO := Lib.hid (World.ownsRow_lit (base := w.heap.size) (e := 4) (size := 1) (w.alloc (.cells #[.int .i64 (zn : Int), .slice ao n c] 31)) #[] 0 hb1.size (by decide) rfl)
  have hB := below_then hb1 (below_alloc (w.alloc (.cells #[.int .i64 (zn : Int), .slice ao n c] 31)) (.cells #[] 4))
  have HB := Lib.hid hB
  have HCl : Hid (∀ (j : Nat) (u : Value), (boolsV s zn)[j]? = some u → ((w.alloc (.cells #[.int .i64 (zn : Int), .slice ao n c] 31)).alloc (.cells #[] 4)).cell? ((⟨g, 0, none⟩ : Addr).add j) = some u) := by
    intro j u hu
    have hj : j < zn := by have := (List.getElem?_eq_some_iff.1 hu).1; rw [boolsV_len] at this; exact this
    rw [boolsV_get hj] at hu
    injection hu with hu
    subst hu
    rw [add_plain, Nat.zero_add]
    exact cell_b hB (hin.2 j hj)
  unfold maxLen at hd2
  clear hv hok hs hall hin hb1 hB
  unfold BoolsAt
  go_enter Try.func134, Try.ntmps134
  go_wp2_with (at_builtin; refine wpList_append_own_at _ rfl _ _ 119 rfl w.heap.size 4 i0 (.bool false) 1 1 Try.underlying119 hi0 hz0 hz1 hz2 rfl (by decide) (.slice (some ⟨w.heap.size + 1, 0, none⟩) 0 0) 0 [] rfl (by have h_ := HO.out; simp only [World.size_alloc] at h_; exact h_) ⟨g, 0, none⟩ zn d (boolsV s zn) rfl (by rw [boolsV_len]; omega) HCl.out (fun x hx => by unfold boolsV at hx; obtain ⟨y, _, rfl⟩ := List.mem_map.1 hx; rfl) (by unfold maxLen; omega) (by omega) HB.out.size ?_; intro v' w3 hown' hgrow' hnil' hat')
  rw [Nat.zero_add, List.nil_append] at hown'
  obtain ⟨zm, hzm⟩ : ∃ m, zn = m + 1 := ⟨zn - 1, by omega⟩
  obtain ⟨g1, cap, rfl⟩ : ∃ g1 cap, v' = .slice (some ⟨g1, 0, none⟩) zn cap := by
    rw [hzm] at hown' ⊢
    exact ownsRow_succ hown'
  clear hzm
  have hg1 : w.heap.size < g1 := by
    rcases hat' with h_ | h_
    · have : g1 = w.heap.size + 1 := by simpa [Value.ownBlock] using h_
      omega
    · have : g1 = w.heap.size + 1 + 1 := by simpa [Value.ownBlock] using h_
      omega
  have hkeep : ∀ v, ((w.alloc (.cells #[.int .i64 (zn : Int), .slice ao n c] 31)).alloc (.cells #[] 4)).heap[w.heap.size]? = some v → w3.heap[w.heap.size]? = some v := fun v hv_ => by
    rw [hgrow'.block _ (by simp; omega) (by simp [Value.ownBlock])]; exact hv_
  have hX3 : w3.heap[w.heap.size]? = some (.cells #[.int .i64 (zn : Int), .slice ao n c] 31 (0, 0)) := hkeep _ (by rw [Below.heap_alloc _ _ _ (by simp)]; exact heap_alloc_new _ _)
  obtain ⟨cz3, ca3, _⟩ := boxC hX3
  have HB3 := Lib.hid (HB.out.grown hgrow' HB.out.size (fun q hq => by have h_ : w.heap.size + 1 = q := (by simpa [Value.ownBlock] using hq); omega))
  have HO3 : Hid (w3.ownsRow w.heap.size 4 1 (.slice (some ⟨g1, 0, none⟩) zn cap) zn (boolsV (s ||| valO s (zn : Int) fs 0) zn)) := by
    unfold Hid; simp only [valO, Nat.or_zero]; exact hown'
  clear hown' hgrow' hnil' hat' hkeep hX3 HCl HO HB
  go_wp2_with fail
  go_loopw [6] (fun i wr => ∃ k : Nat, k ≤ n ∧ i = .int .i64 (k : Int) ∧ wr.cell? ⟨w.heap.size, 0, none⟩ = some (.int .i64 (zn : Int)) ∧ wr.cell? ⟨w.heap.size, 1, none⟩ = some (.slice ao n c) ∧ Hid (wr.ownsRow w.heap.size 4 1 (.slice (some ⟨g1, 0, none⟩) zn cap) zn (boolsV (s ||| valO s (zn : Int) fs k) zn)) ∧ Hid (Below w.heap.size w wr)) (fun i _ => n - (intOf i).toNat)
  case atStart => exact ⟨0, Nat.zero_le _, rfl, cz3, ca3, HO3, HB3⟩
  case round =>
    obtain ⟨k, hk, rfl, cz0, ca0, HR0, HBr0⟩ := hrel
    clear cz3 ca3 HO3 HB3
    by_cases hlt : k < n
    · obtain ⟨b, o, rfl, _, hbh, hc⟩ := HV.out.at_ (by omega)
      obtain ⟨f, hf⟩ := get_of_lt HV.out.1 hlt
      obtain ⟨a, m, c', c0, c1, hmc, hcm, hvt⟩ := hc k f hf
      obtain ⟨hm5, hf1, hf3⟩ := place_bd h1 h2 (HAll.out f (List.mem_of_getElem? hf))
      obtain ⟨r, hr⟩ : ∃ r, f.1.toNat = r := ⟨_, rfl⟩
      rw [hr] at hf1 hf3
      rw [hf1] at c0
      have hml : f.2.length = m := hvt.1
      rw [hml] at hm5
      have HC0 := Lib.hid c0
      have HC1 := Lib.hid c1
      have HVt0 := Lib.hid hvt
      have HF := Lib.hid hf
      have HRr := Lib.hid hr
      have HML := Lib.hid hml
      have hkn : (k : Int) < (n : Int) := by omega
      have HOO : Hid (wr.ownsRow w.heap.size 4 1 (.slice (some ⟨g1, 0, none⟩) zn cap) zn (boolsV (s ||| (valO s (zn : Int) fs k ||| valT s (zn : Int) f 0)) zn)) := by
        unfold Hid; simp only [valT, Nat.or_zero]; exact HR0.out
      clear hc hf c0 c1 hvt hr hf1 hml HR0
      obtain ⟨wq, hwq⟩ : ∃ wq : World, wq = wr := ⟨_, rfl⟩
      rw [← hwq]
      rw [← hwq] at HOO cz0 ca0 HBr0
      clear hwq
      go_wp2_with fail
      go_loopw [7] (fun i wr => ∃ j : Nat, j ≤ m ∧ i = .int .i64 (j : Int) ∧ wr.cell? ⟨w.heap.size, 0, none⟩ = some (.int .i64 (zn : Int)) ∧ wr.cell? ⟨w.heap.size, 1, none⟩ = some (.slice (some ⟨b, o, none⟩) n c) ∧ Hid (wr.ownsRow w.heap.size 4 1 (.slice (some ⟨g1, 0, none⟩) zn cap) zn (boolsV (s ||| (valO s (zn : Int) fs k ||| valT s (zn : Int) f j)) zn)) ∧ Hid (Below w.heap.size w wr)) (fun i _ => m - (intOf i).toNat)
      case atStart => exact ⟨0, Nat.zero_le _, rfl, cz0, ca0, HOO, HBr0⟩
      case round =>
        obtain ⟨j, hj, rfl, cz, ca, HR, HBr⟩ := hrel
        clear cz0 ca0 HOO HBr0
        have e0 : wr.cell? ⟨b, o + k * 2, none⟩ = some (.int .i64 (r : Int)) := cell_b HBr.out HC0.out
        have e1 : wr.cell? ⟨b, o + k * 2 + 1, none⟩ = some (.slice a m c') := cell_b HBr.out HC1.out
        have HVt := Lib.hid (HVt0.out.kept (Kept.of_below HBr.out hhi))
        by_cases hjm : j < m
        · have hjm' : (j : Int) < (m : Int) := by omega
          have HAr := Lib.hid (fun w => argsSpec_any (zn : Int) (j : Int) r hf3 w h1 h2 (by omega) (by omega))
          obtain ⟨bt, ot, rfl, _, hbth, hct⟩ := HVt.out.at_ (by omega)
          obtain ⟨x, hx⟩ := get_of_lt HVt.out.1 hjm
          obtain ⟨x0, x1⟩ := allIn_get (opOkB_of (HAll.out f (List.mem_of_getElem? HF.out))).2.2 hx
          obtain ⟨xn, rfl⟩ : ∃ xn : Nat, x = (xn : Int) := ⟨x.toNat, by omega⟩
          have hxn : xn < zn := by omega
          have HX := Lib.hid hx
          have HDg : Hid ((digs (zn : Int) r (j : Int)).all (fun x => s.testBit x.toNat) = hasA s (zn : Int) r (j : Int)) := hasA_digs _ _ _ _
          have HDi := Lib.hid (digs_in h1 r (j : Int))
          have HDl := Lib.hid (digs_len (zn : Int) r (j : Int))
          clear hct hx
          go_wp2_with fail
          refine wp_region_noPanic ?_
          refine wp_region_held_drew (S := fun W => W.cell? ⟨w.heap.size, 0, none⟩ = some (.int .i64 (zn : Int)) ∧ W.cell? ⟨w.heap.size, 1, none⟩ = some (.slice (some ⟨b, o, none⟩) n c) ∧ W.cell? ⟨b, o + k * 2, none⟩ = some (.int .i64 (r : Int))) (by kernel_rfl) ?_ (fun hHeld => ?_)
          · exact ⟨cz, ca, e0⟩
          refine wpAnyH_take (i := 0) (oi := ⟨_, _, _, _, _, _⟩) (v := ?_) rfl (by kernel_rfl) (by kernel_rfl) (by kernel_rfl) (fun _ _ _ h => h) (Or.inl ⟨rfl, ?_⟩) (by assumption) ?_
          rotate_left 1
          · intro w_ hSw; (try dsimp only at hSw); go_simp; (try with_reducible rfl)
          (try simp only [Act.put, List.setIfInBounds_toArray, List.set_cons_zero, List.set_cons_succ])
          refine wpAnyH_take (i := 1) (oi := ⟨_, _, _, _, _, _⟩) (v := ?_) rfl (by kernel_rfl) (by kernel_rfl) (by kernel_rfl) (fun _ _ _ h => h) (Or.inl ⟨rfl, ?_⟩) (by assumption) ?_
          rotate_left 1
          · intro w_ hSw; (try dsimp only at hSw); go_simp; (try with_reducible rfl)
          (try simp only [Act.put, List.setIfInBounds_toArray, List.set_cons_zero, List.set_cons_succ])
          refine wpAnyH_take (i := 2) (oi := ⟨_, _, _, _, _, _⟩) (v := ?_) rfl (by kernel_rfl) (by kernel_rfl) (by kernel_rfl) (fun _ _ _ h => h) (Or.inl ⟨rfl, ?_⟩) (by assumption) ?_
          rotate_left 1
          · intro w_ hSw; (try dsimp only at hSw); go_simp; (try with_reducible rfl)
          (try simp only [Act.put, List.setIfInBounds_toArray, List.set_cons_zero, List.set_cons_succ])
          refine wpAnyH_take (i := 3) (oi := ⟨_, _, _, _, _, _⟩) (v := ?_) rfl (by kernel_rfl) (by kernel_rfl) (by kernel_rfl) (fun _ _ _ h => h) (Or.inl ⟨rfl, ?_⟩) (by assumption) ?_
          rotate_left 1
          · intro w_ hSw; (try dsimp only at hSw); go_simp; (try with_reducible rfl)
          (try simp only [Act.put, List.setIfInBounds_toArray, List.set_cons_zero, List.set_cons_succ])
          refine wpAnyH_take (i := 4) (oi := ⟨_, _, _, _, _, _⟩) (v := ?_) rfl (by kernel_rfl) (by kernel_rfl) (by kernel_rfl) (fun _ _ _ h => h) (Or.inl ⟨rfl, ?_⟩) (by assumption) ?_
          rotate_left 1
          · intro w_ hSw; (try dsimp only at hSw); go_simp; (try with_reducible rfl)
          (try simp only [Act.put, List.setIfInBounds_toArray, List.set_cons_zero, List.set_cons_succ])
          refine wpAnyH_take (i := 5) (oi := ⟨_, _, _, _, _, _⟩) (v := ?_) rfl (by kernel_rfl) (by kernel_rfl) (by kernel_rfl) (fun _ _ _ h => h) (Or.inl ⟨rfl, ?_⟩) (by assumption) ?_
          rotate_left 1
          · intro w_ hSw; (try dsimp only at hSw); go_simp; (try with_reducible rfl)
          (try simp only [Act.put, List.setIfInBounds_toArray, List.set_cons_zero, List.set_cons_succ])
          refine wpAnyH_take (i := 6) (oi := ⟨_, _, _, _, _, _⟩) (v := ?_) rfl (by kernel_rfl) (by kernel_rfl) (by kernel_rfl) (fun _ _ _ h => h) (Or.inl ⟨rfl, ?_⟩) (by assumption) ?_
          rotate_left 1
          · intro w_ hSw; (try dsimp only at hSw); go_simp; (try with_reducible rfl)
          (try simp only [Act.put, List.setIfInBounds_toArray, List.set_cons_zero, List.set_cons_succ])
          refine wpAnyH_take (i := 7) (oi := ⟨_, _, _, _, _, _⟩) (v := ?_) rfl (by kernel_rfl) (by kernel_rfl) (by kernel_rfl) (fun _ _ _ h => h) (Or.inl ⟨rfl, ?_⟩) (by assumption) ?_
          rotate_left 1
          · intro w_ hSw; (try dsimp only at hSw); go_simp; (try with_reducible rfl)
          (try simp only [Act.put, List.setIfInBounds_toArray, List.set_cons_zero, List.set_cons_succ])
          refine wpAnyH_take (i := 8) (oi := ⟨_, _, _, _, _, _⟩) (v := ?_) rfl (by kernel_rfl) (by kernel_rfl) (by kernel_rfl) (fun _ _ _ h => h) (Or.inl ⟨rfl, ?_⟩) (by assumption) ?_
          rotate_left 1
          · intro w_ hSw; (try dsimp only at hSw); go_simp; (try with_reducible rfl)
          (try simp only [Act.put, List.setIfInBounds_toArray, List.set_cons_zero, List.set_cons_succ])
          refine wpAnyH_ready (rs := [9]) (by kernel_rfl) (by simp) ?_
          refine AllReadyH.cons (o := ⟨_, _, _, _, _, _⟩) rfl (fun K hK => ?_) AllReadyH.nil
          go_simp
          go_at_call 103
          refine (HAr.out _).mono ?_
          rintro e wA ⟨rfl, hwA⟩
          have bA : Below wr.heap.size wr wA := by rw [hwA]; exact below_then (below_drew wr) (below_alloc _ _)
          have HDv : Hid (IView wA wr.heap.size wA.heap.size (some ⟨wr.heap.size, 0, none⟩) r (digs (zn : Int) r (j : Int))) := digs_view (W := wA) (g := wr.heap.size) (z := (zn : Int)) (at_ := (j : Int)) (m := r) (ty := 3) (by rw [hwA]; exact heap_alloc_new _ _)
          have zA := cell_b bA cz
          have aA := cell_b bA ca
          have eA := cell_b bA e0
          have fA := cell_b bA e1
          have HRA := Lib.hid (HR.out.kept (grown_of_below bA none) (own_em _))
          have HBA := Lib.hid (HBr.out.trans (bA.mono HBr.out.size))
          have HInA := Lib.hid (HIn.out.below HBA.out hhi2)
          have HVtA := Lib.hid (HVt.out.kept (Kept.of_below bA (Nat.le_trans hhi HBr.out.size)))
          have hAs : Hid (wA.heap.size = wA.heap.size) := rfl
          clear hwA bA cz ca e0 e1 HR HBr HVt hAs
          go_wp2_with fail
          refine hK.out _ _ ?_ (fun hHeld => ?_)
          · exact ⟨zA, aA, eA⟩
          clear hK K
          (try simp only [Act.put, List.setIfInBounds_toArray, List.set_cons_zero, List.set_cons_succ])
          refine wpAnyH_take (i := 10) (oi := ⟨_, _, _, _, _, _⟩) (v := ?_) rfl (by kernel_rfl) (by kernel_rfl) (by kernel_rfl) (fun _ _ _ h => h) (Or.inl ⟨rfl, ?_⟩) (by assumption) ?_
          rotate_left 1
          · intro w_ hSw; (try dsimp only at hSw); go_simp; (try with_reducible rfl)
          (try simp only [Act.put, List.setIfInBounds_toArray, List.set_cons_zero, List.set_cons_succ])
          refine wpAnyH_done (by kernel_rfl) ?_ _
          refine NoPanic.normal ?_
          go_wp2_with fail
          go_loop [9, 10] (fun p i => ∃ (q : Nat) (t : Bool), q ≤ r ∧ i = .int .i64 (q : Int) ∧ p = .bool t ∧ Hid (t = ((digs (zn : Int) r (j : Int)).take q).all (fun x => s.testBit x.toNat))) (fun _ i => r - (intOf i).toNat)
          case atStart => exact ⟨0, true, Nat.zero_le _, rfl, rfl, rfl⟩
          case round =>
            obtain ⟨q, t, hq, rfl, rfl, HT⟩ := hrel
            by_cases hqr : q < r
            · obtain ⟨b2, o2, he2, _, _, hc2⟩ := HDv.out.at_ (by omega)
              cases he2
              obtain ⟨y, hy⟩ := get_of_lt HDl.out hqr
              have hcy := hc2 q y hy
              rw [Nat.zero_add] at hcy
              obtain ⟨y0, y1⟩ := allIn_get HDi.out hy
              obtain ⟨yn, rfl⟩ : ∃ yn : Nat, y = (yn : Int) := ⟨y.toNat, by omega⟩
              have hyn : yn < zn := by omega
              have hcb := HInA.out.2 yn hyn
              have hqr' : (q : Int) < (r : Int) := by omega
              have HN := Lib.hid (all_succ (s := s) hy)
              simp only [Int.toNat_natCast] at HN
              clear hc2 hy
              cases t with
              | true =>
                go_wp2_with fail
                go_round
                case rel => exact ⟨q + 1, s.testBit yn, by omega, by go_num, rfl, by unfold Hid; rw [HN.out, ← HT.out, Bool.true_and]⟩
                case measure => simp [intOf]; omega
              | false =>
                go_wp2_with fail
                go_round
                case rel => exact ⟨q + 1, false, by omega, by go_num, rfl, by unfold Hid; rw [HN.out, ← HT.out, Bool.false_and]⟩
                case measure => simp [intOf]; omega
            · have hqr' : ¬ (q : Int) < (r : Int) := by omega
              have HTe : Hid (hasA s (zn : Int) f.1.toNat (j : Int) = t) := by
                unfold Hid
                rw [HRr.out, ← HDg.out, HT.out, List.take_of_length_le (by have := HDl.out; omega)]
              clear HT
              cases t with
              | true =>
                have hcx : wA.cell? ⟨bt, ot + j, none⟩ = some (.int .i64 (xn : Int)) := by
                  obtain ⟨b3, o3, he3, _, _, hc3⟩ := HVtA.out.at_ (by omega)
                  cases he3
                  exact hc3 j _ HX.out
                obtain ⟨u, hu⟩ : ∃ u, wA.cell? ⟨g1, xn, none⟩ = some u := by
                  rw [HRA.out.cellAt xn (by omega)]; exact ⟨_, boolsV_get hxn⟩
                have hfr := HRA.out.frozenAt xn
                have hst := HRA.out.stored xn (.bool true)
                rw [boolsV_set hxn] at hst
                have hse : s ||| (valO s (zn : Int) fs k ||| valT s (zn : Int) f j) ||| 2 ^ xn = s ||| (valO s (zn : Int) fs k ||| valT s (zn : Int) f (j + 1)) := by
                  rw [valT_yes HTe.out HX.out, Int.toNat_natCast, Nat.or_assoc, Nat.or_assoc]
                rw [hse] at hst
                have HST := Lib.hid hst
                have z6 : Hid ((wA.setCell ⟨g1, xn, none⟩ (.bool true)).cell? ⟨w.heap.size, 0, none⟩ = some (.int .i64 (zn : Int))) := keepS zA (by show g1 ≠ w.heap.size; omega)
                have a6 : Hid ((wA.setCell ⟨g1, xn, none⟩ (.bool true)).cell? ⟨w.heap.size, 1, none⟩ = some (.slice (some ⟨b, o, none⟩) n c)) := keepS aA (by show g1 ≠ w.heap.size; omega)
                have B6 : Hid (Below w.heap.size w (wA.setCell ⟨g1, xn, none⟩ (.bool true))) := HBA.out.setCell (by show w.heap.size ≤ g1; omega) _
                clear hst hse
                go_wp2_with fail
                go_roundw
                case rel => exact ⟨j + 1, by omega, by go_num, z6.out, a6.out, HST.out.1, B6⟩
                case measure => simp [intOf]; omega
              | false =>
                have HO2 : Hid (wA.ownsRow w.heap.size 4 1 (.slice (some ⟨g1, 0, none⟩) zn cap) zn (boolsV (s ||| (valO s (zn : Int) fs k ||| valT s (zn : Int) f (j + 1))) zn)) := by
                  unfold Hid; rw [valT_no HTe.out]; exact HRA.out
                go_wp2_with fail
                go_roundw
                case rel => exact ⟨j + 1, by omega, by go_num, zA, aA, HO2, HBA⟩
                case measure => simp [intOf]; omega
        · have hjm' : ¬ (j : Int) < (m : Int) := by omega
          have HO2 : Hid (wr.ownsRow w.heap.size 4 1 (.slice (some ⟨g1, 0, none⟩) zn cap) zn (boolsV (s ||| valO s (zn : Int) fs (k + 1)) zn)) := by
            unfold Hid
            rw [valO_succ HF.out, HML.out, ← show j = m by omega]; exact HR.out
          go_wp2_with fail
          go_roundw
          case rel => exact ⟨k + 1, by omega, by go_num, cz, ca, HO2, HBr⟩
          case measure => simp [intOf]; omega
    · have hkn : ¬ (k : Int) < (n : Int) := by omega
      go_wp2_with fail
      go_ret
      have hR := HR0.out
      rw [show k = fs.length by omega] at hR
      exact ⟨g1, cap, rfl, hR, HBr0.out⟩

end Go.Proofs.Ytcmjkfcgekmomaa
