/-
  Contract: impl.ApplyTo. Conditions: the bounds that it names.
-/
import Derived.Test.YtfdolbpbddjhmaaAplM
import Derived.Test.YtfdolbpbddjhmaaTplA
import Derived.Test.YtfdolbpbddjhmaaTplT
namespace Go.Proofs.Ytfdolbpbddjhmaa
open Go.RowKit
set_option linter.unusedVariables false
set_option linter.unusedSimpArgs false

theorem below_dr2 {B : Nat} {w w1 : World} (h : Below B w w1) : Below B w w1.drew := h.drew
theorem appT_in {z : Int} {f : OpD} {K : Nat} {ls : List (List Int)} (h1 : 1 ≤ z) (hok : opOkB z f = true) (hl : (ls.length : Int) = f.1) (h : ls.all (tupB z K) = true) : allIn z (appT z f ls K) = true := by
  unfold allIn
  rw [List.all_eq_true]
  intro x hx
  obtain ⟨p, hp, rfl⟩ := List.mem_map.1 hx
  obtain ⟨_, _, hat⟩ := at_get h1 hok (xs := colL ls p) (by rw [colL_len]; exact hl) (colL_in h (by simpa using hp))
  obtain ⟨a, b⟩ := allIn_get (opOkB_of hok).2.2 hat
  simp [a, b]
theorem tupF_in {z : Int} {l : List Int} (h2 : z ≤ 8) (h : allIn z l = true) : ∀ j, j < 64 → 0 ≤ tupF l j ∧ tupF l j ≤ 255 := by
  intro j _
  unfold tupF
  rw [List.getD_eq_getElem?_getD]
  cases hx : l[j]? with
  | none => simp
  | some x =>
    obtain ⟨a, b⟩ := allIn_get h hx
    simp only [Option.getD_some]
    omega
theorem tupF_list (l : List Int) : (List.range l.length).map (tupF l) = l := by
  apply List.ext_getElem?
  intro j
  by_cases h : j < l.length
  · simp [tupF, h]
  · rw [List.getElem?_eq_none (by simpa using h), List.getElem?_eq_none (by omega)]

set_option maxRecDepth 100000 in
set_option maxHeartbeats 4000000 in
theorem implApplyTo (lo hi : Nat) (z : Int) (ao : Option Addr) (c n : Nat) (fs : List OpD) (op : Int) (lo2 hi2 : Nat) (bo : Option Addr) (d m : Nat) (ls : List (List Int)) (w : World) (hv : OView w lo hi ao n fs) (hhi : hi ≤ w.heap.size) (hs : ∀ (j : Nat) (f : OpD), fs[j]? = some f → f.2.length ≤ maxLen) (hwf : (Lit.int .i64 op).wf = true)
    (hx : LView w lo2 hi2 bo m ls) (hhi2 : hi2 ≤ w.heap.size) (hmd : m ≤ d) (hm : d ≤ maxLen) (hq : ∀ ts, ts ∈ ls → ∀ x, x ∈ ts → (Lit.int .i64 x).wf = true) :
    Calls Try.prog 39 #[.agg #[.int .i64 z, .slice ao n c], .int .i64 op, .slice bo m d] w fun e w' => ResL w w' (valApplyTo z fs op ls).1 (valApplyTo z fs op ls).2 e := by
  have hll := hx.1
  have hB := below_alloc w (.cells #[.int .i64 z, .slice ao n c] 28)
  have HB := Lib.hid hB
  obtain ⟨tk, htk⟩ : ∃ t, takesB z fs op = t := ⟨_, rfl⟩
  unfold ResL
  cases tk with
  | false =>
    rw [apl_no ls htk]
    have HO := Lib.hid (opOf_no lo hi z ao c n fs op _ (hv.kept (Kept.of_below hB hhi)) (Nat.le_trans hhi hB.size) hs htk)
    clear hv hs hwf hx hmd hm hq hll htk hB
    go_enter Try.func39, Try.ntmps39
    go_wp2_with fail
    refine HO.out.mono ?_
    rintro e w1 ⟨rfl, b1⟩
    have HB1 := Lib.hid (HB.out.trans (b1.mono HB.out.size))
    have HB2 := Lib.hid (HB1.out.alloc HB1.out.size (.cells #[.int .i64 0, .slice none 0 0] 64))
    clear b1
    go_wp2_with fail
    go_ret2
    exact ⟨none, 0, 0, rfl, rfl, OwnsInts.of_row (xs := []) (World.ownsRow_nil _ _ _ _), HB2.out⟩
  | true =>
    obtain ⟨k, f, rfl, hkl, hf, hfo⟩ := takes_get htk
    obtain ⟨hok, _, _⟩ := takes_of htk
    obtain ⟨⟨z1, z8⟩, _, _⟩ := algOkB_of hok
    have hO := opOf_yes lo hi z ao c n fs k f _ (hv.kept (Kept.of_below hB hhi)) (Nat.le_trans hhi hB.size) hs hok hf
    have HO := Lib.hid hO
    by_cases h0 : f.1 = 0
    · rw [apl_zero ls hf h0]
      obtain ⟨r, hr⟩ : ∃ r, f.1 = r := ⟨_, rfl⟩
      have hrz : (r == 0) = true := by rw [← hr, h0]; rfl
      have HRr := Lib.hid hr
      clear hv hs hwf hx hmd hm hq hll htk hB hO hf hfo hok h0 hr
      go_enter Try.func39, Try.ntmps39
      go_wp2_with fail
      refine HO.out.mono ?_
      rintro e w1 hr_
      unfold OpAt at hr_
      obtain ⟨a, mt, c', rfl, hmt, hmc, hcm, hvt, b1⟩ := hr_
      have HB1 := Lib.hid (HB.out.trans (b1.mono HB.out.size))
      have HB2 : Hid (Below w.heap.size w (w1.alloc (.cells #[.int .i64 r, .slice a mt c'] 64))) := HB1.out.alloc HB1.out.size _
      clear hvt b1 hmt hmc hcm
      rw [HRr.out]
      go_wp2_with fail
      go_ret2
      exact ⟨none, 0, 0, rfl, rfl, OwnsInts.of_row (xs := []) (World.ownsRow_nil _ _ _ _), HB2.out⟩
    · by_cases hl : (m : Int) = f.1
      · have hm1 : 0 < m := by have := (opOkB_of hfo).1; omega
        have hm3 : m ≤ 3 := by have := (opOkB_of hfo).1; omega
        obtain ⟨t, ht⟩ : ∃ t, ls[0]? = some t := ⟨_, List.getElem?_eq_getElem (by omega)⟩
        obtain ⟨b2, o2, rfl, _, hb2, hc2⟩ := hx.at_ (by omega)
        obtain ⟨a2, K, c2, c3, hKc, hcK, hvt2⟩ := hc2 0 t ht
        have htl : t.length = K := hvt2.1
        have hm1' : (0 : Int) < (m : Int) := by omega
        have E1 : Hid (w.cell? ⟨b2, o2, none⟩ = some (.slice a2 K c2)) := c3
        have hr0 : ((m : Int) == 0) = false := by simp; omega
        obtain ⟨R, hR⟩ : ∃ R, tupsB z (K : Int) ls = R := ⟨_, rfl⟩
        have hR3 : tupsB z (t.length : Int) ls = R := by rw [htl]; exact hR
        rw [apl_tup htk hf h0 (by rw [hll]; exact hl) ht hR3, htl]
        have HTp := Lib.hid (fun (W : World) (hW : Below w.heap.size w W) => tuplesOf_any lo hi z ao c n fs K lo2 hi2 (some ⟨b2, o2, none⟩) d m ls W (hv.kept (Kept.of_below hW hhi)) (Nat.le_trans hhi hW.size) hs hok (hx.kept (Kept.of_below hW hhi2)) (Nat.le_trans hhi2 hW.size) (by omega))
        rw [hR] at HTp
        have HFo := Lib.hid hfo
        have HL := Lib.hid hl
        have HLl := Lib.hid hll
        have HR := Lib.hid hR
        cases R with
        | false =>
          rw [if_neg (by decide)]
          clear hv hs hwf hx hmd hm hq hll htk hB hO hf hfo hok h0 hl ht hc2 c3 hKc hcK hvt2 htl hR3 hR
          go_enter Try.func39, Try.ntmps39
          go_wp2_with fail
          refine HO.out.mono ?_
          rintro e w1 hr_
          unfold OpAt at hr_
          obtain ⟨a, mt, c', rfl, hmt, hmc, hcm, hvt, b1⟩ := hr_
          have HB1 := Lib.hid (HB.out.trans (b1.mono HB.out.size))
          have HB2 : Hid (Below w.heap.size w (w1.alloc (.cells #[.int .i64 (m : Int), .slice a mt c'] 64))) := HB1.out.alloc HB1.out.size _
          rw [← HL.out]
          have cz : (w1.alloc (.cells #[.int .i64 (m : Int), .slice a mt c'] 64)).cell? ⟨w.heap.size, 0, none⟩ = some (.int .i64 z) := cell_b (below_alloc _ _) (cell_b b1 (by simp))
          have ca : (w1.alloc (.cells #[.int .i64 (m : Int), .slice a mt c'] 64)).cell? ⟨w.heap.size, 1, none⟩ = some (.slice ao n c) := cell_b (below_alloc _ _) (cell_b b1 (by simp))
          have cr : (w1.alloc (.cells #[.int .i64 (m : Int), .slice a mt c'] 64)).cell? ⟨w1.heap.size, 0, none⟩ = some (.int .i64 (m : Int)) := by simp
          have ct : (w1.alloc (.cells #[.int .i64 (m : Int), .slice a mt c'] 64)).cell? ⟨w1.heap.size, 1, none⟩ = some (.slice a mt c') := by simp
          have ce : (w1.alloc (.cells #[.int .i64 (m : Int), .slice a mt c'] 64)).cell? ⟨b2, o2, none⟩ = some (.slice a2 K c2) := cell_b HB2.out E1.out
          have b12 : Below w1.heap.size w1 (w1.alloc (.cells #[.int .i64 (m : Int), .slice a mt c'] 64)) := below_alloc _ _
          have HB12 := Lib.hid b12
          have HVt := Lib.hid hvt
          have HMt := Lib.hid hmt
          clear hvt hmt b1 b12 hmc hcm
          go_wp2_with fail
          refine (HTp.out _ HB2.out).mono ?_
          rintro e w3 hr_
          rcases hr_ with ⟨h_, _⟩ | ⟨_, rfl, b3⟩
          · cases h_
          · have HB4 := Lib.hid (HB2.out.trans (b3.mono HB2.out.size))
            clear b3 cz ca cr ct ce
            go_wp2_with fail
            go_ret2
            exact ⟨none, 0, 0, rfl, rfl, OwnsInts.of_row (xs := []) (World.ownsRow_nil _ _ _ _), HB4.out⟩
        | true =>
          rw [if_pos rfl]
          clear hv hs hwf hx hmd hm hq hll htk hB hO hf hfo hok h0 hl ht hc2 c3 hKc hcK hvt2 htl hR3 hR
          go_enter Try.func39, Try.ntmps39
          go_wp2_with fail
          refine HO.out.mono ?_
          rintro e w1 hr_
          unfold OpAt at hr_
          obtain ⟨a, mt, c', rfl, hmt, hmc, hcm, hvt, b1⟩ := hr_
          have HB1 := Lib.hid (HB.out.trans (b1.mono HB.out.size))
          have HB2 : Hid (Below w.heap.size w (w1.alloc (.cells #[.int .i64 (m : Int), .slice a mt c'] 64))) := HB1.out.alloc HB1.out.size _
          rw [← HL.out]
          have cz : (w1.alloc (.cells #[.int .i64 (m : Int), .slice a mt c'] 64)).cell? ⟨w.heap.size, 0, none⟩ = some (.int .i64 z) := cell_b (below_alloc _ _) (cell_b b1 (by simp))
          have ca : (w1.alloc (.cells #[.int .i64 (m : Int), .slice a mt c'] 64)).cell? ⟨w.heap.size, 1, none⟩ = some (.slice ao n c) := cell_b (below_alloc _ _) (cell_b b1 (by simp))
          have cr : (w1.alloc (.cells #[.int .i64 (m : Int), .slice a mt c'] 64)).cell? ⟨w1.heap.size, 0, none⟩ = some (.int .i64 (m : Int)) := by simp
          have ct : (w1.alloc (.cells #[.int .i64 (m : Int), .slice a mt c'] 64)).cell? ⟨w1.heap.size, 1, none⟩ = some (.slice a mt c') := by simp
          have ce : (w1.alloc (.cells #[.int .i64 (m : Int), .slice a mt c'] 64)).cell? ⟨b2, o2, none⟩ = some (.slice a2 K c2) := cell_b HB2.out E1.out
          have b12 : Below w1.heap.size w1 (w1.alloc (.cells #[.int .i64 (m : Int), .slice a mt c'] 64)) := below_alloc _ _
          have HB12 := Lib.hid b12
          have HVt := Lib.hid hvt
          have HMt := Lib.hid hmt
          clear hvt hmt b1 b12 hmc hcm
          go_wp2_with fail
          refine (HTp.out _ HB2.out).mono ?_
          rintro e w3 hr_
          rcases hr_ with ⟨_, g, G, rfl, hown, hGG, b3⟩ | ⟨h_, _⟩
          rotate_left 1
          · cases h_
          · have hR' := HR.out
            simp only [tupsB, Bool.and_eq_true] at hR'
            obtain ⟨hall, hKb⟩ := hR'
            have hK1 : 1 ≤ K := by simp [inB] at hKb; omega
            have hK64 : K ≤ 64 := by simp [inB] at hKb; omega
            have hlf : (ls.length : Int) = f.1 := by rw [HLl.out]; exact HL.out
            have hin := appT_in z1 HFo.out hlf hall
            have hmt0 : 0 < mt := by
              obtain ⟨i0_, i1_, _⟩ := at_get z1 HFo.out (xs := colL ls 0) (by rw [colL_len]; exact hlf) (colL_in hall (by omega))
              rw [HMt.out]; omega
            obtain ⟨bt, ot, rfl, _, hbt, hct⟩ := HVt.out.at_ hmt0
            have B13 := HB12.out.trans (b3.mono HB12.out.size)
            have B3 := HB2.out.trans (b3.mono HB2.out.size)
            have HAp := Lib.hid (fun (W : World) (hW : Below w3.heap.size w3 W) (pb : Nat) (hp : ∀ q, q < m → W.cell? ⟨pb, q, none⟩ = some (.int .i64 (q : Int))) => applied_any z f bt ot mt c' g m m K pb ls W z1 z8 HFo.out HMt.out.symm
              (fun ti y hy => cell_b (B13.trans (hW.mono B13.size)) (hct ti y hy)) HLl.out HL.out hall
              (fun j t p hj hp2 => cell_b hW (by
                have hjm : j < m := by have := (List.getElem?_eq_some_iff.1 hj).1; have := HLl.out; omega
                rw [hown.cellAt (j * 64 + p) (by omega), cellsB_get G (by omega), hGG j t p hj (by omega)])) hp hK64)
            rw [← HL.out] at HAp
            have HLi := Lib.hid (fun (W : World) => listB_any (tupF (appT z f ls K)) K W hK64 (tupF_in z8 hin))
            have hfl : (List.range K).map (tupF (appT z f ls K)) = appT z f ls K := by
              have h := tupF_list (appT z f ls K)
              rw [appT_len] at h; exact h
            rw [hfl] at HLi
            have HFp := Lib.hid (fun (W : World) => firstPl_any m W (by omega))
            have HB3 := Lib.hid B3
            have dz := cell_b b3 cz
            have dr := cell_b b3 cr
            have dt := cell_b b3 ct
            have hLen : Hid (K = (appT z f ls K).length) := by unfold Hid; rw [appT_len]
            have hK0 : Hid True := trivial
            clear hall hKb hin hct B13 B3 hown hGG b3 hfl cz ca cr ct ce hlf
            go_wp2_with fail
            refine wp_region_noPanic ?_
            have yC : Below w3.heap.size w3 w3.drew := below_dr2 (Below.refl _ _)
            refine wp_region_held_drew (S := fun W => W.cell? ⟨w.heap.size, 0, none⟩ = some (.int .i64 z) ∧ W.cell? ⟨w1.heap.size, 0, none⟩ = some (.int .i64 (m : Int)) ∧ W.cell? ⟨w1.heap.size, 1, none⟩ = some (.slice (some ⟨bt, ot, none⟩) mt c') ∧ Below w3.heap.size w3 W) (by kernel_rfl) ?_ (fun hHeld => ?_)
            · exact ⟨cell_b yC dz, cell_b yC dr, cell_b yC dt, yC⟩
            refine wpAnyH_take (i := 0) (oi := ⟨_, _, _, _, _, _⟩) (v := ?_) rfl (by kernel_rfl) (by kernel_rfl) (by kernel_rfl) (fun _ _ _ h => h) (Or.inl ⟨rfl, ?_⟩) (by assumption) ?_
            rotate_left 1
            · intro w_ hSw; (try dsimp only at hSw); go_simp; (try with_reducible rfl)
            (try simp only [Act.put, List.setIfInBounds_toArray, List.set_cons_zero, List.set_cons_succ])
            refine wpAnyH_take (i := 1) (oi := ⟨_, _, _, _, _, _⟩) (v := ?_) rfl (by kernel_rfl) (by kernel_rfl) (by kernel_rfl) (fun _ _ _ h => h) (Or.inl ⟨rfl, ?_⟩) (by assumption) ?_
            rotate_left 1
            · intro w_ hSw; (try dsimp only at hSw); go_simp; (try with_reducible rfl)
            (try simp only [Act.put, List.setIfInBounds_toArray, List.set_cons_zero, List.set_cons_succ])
            refine wpAnyH_take (i := 2) (oi := ⟨_, _, _, _, _, _⟩) (v := ?_) rfl (by kernel_rfl) (by kernel_rfl) (by kernel_rfl) (fun _ _ _ h => h) (Or.inl ⟨rfl, ?_⟩) (by assumption) ?_
            rotate_left 1
            · intro w_ hSw; (try dsimp only at hSw); go_simp; (try with_reducible rfl)
            (try simp only [Act.put, List.setIfInBounds_toArray, List.set_cons_zero, List.set_cons_succ])
            refine wpAnyH_take (i := 3) (oi := ⟨_, _, _, _, _, _⟩) (v := ?_) rfl (by kernel_rfl) (by kernel_rfl) (by kernel_rfl) (fun _ _ _ h => h) (Or.inl ⟨rfl, ?_⟩) (by assumption) ?_
            rotate_left 1
            · intro w_ hSw; (try dsimp only at hSw); go_simp; (try with_reducible rfl)
            (try simp only [Act.put, List.setIfInBounds_toArray, List.set_cons_zero, List.set_cons_succ])
            refine wpAnyH_take (i := 4) (oi := ⟨_, _, _, _, _, _⟩) (v := ?_) rfl (by kernel_rfl) (by kernel_rfl) (by kernel_rfl) (fun _ _ _ h => h) (Or.inl ⟨rfl, ?_⟩) (by assumption) ?_
            rotate_left 1
            · intro w_ hSw; (try dsimp only at hSw); go_simp; (try with_reducible rfl)
            (try simp only [Act.put, List.setIfInBounds_toArray, List.set_cons_zero, List.set_cons_succ])
            refine wpAnyH_take (i := 5) (oi := ⟨_, _, _, _, _, _⟩) (v := ?_) rfl (by kernel_rfl) (by kernel_rfl) (by kernel_rfl) (fun _ _ _ h => h) (Or.inl ⟨rfl, ?_⟩) (by assumption) ?_
            rotate_left 1
            · intro w_ hSw; (try dsimp only at hSw); go_simp; (try with_reducible rfl)
            (try simp only [Act.put, List.setIfInBounds_toArray, List.set_cons_zero, List.set_cons_succ])
            refine wpAnyH_take (i := 6) (oi := ⟨_, _, _, _, _, _⟩) (v := ?_) rfl (by kernel_rfl) (by kernel_rfl) (by kernel_rfl) (fun _ _ _ h => h) (Or.inl ⟨rfl, ?_⟩) (by assumption) ?_
            rotate_left 1
            · intro w_ hSw; (try dsimp only at hSw); go_simp; (try with_reducible rfl)
            (try simp only [Act.put, List.setIfInBounds_toArray, List.set_cons_zero, List.set_cons_succ])
            refine wpAnyH_take (i := 9) (oi := ⟨_, _, _, _, _, _⟩) (v := ?_) rfl (by kernel_rfl) (by kernel_rfl) (by kernel_rfl) (fun _ _ _ h => h) (Or.inl ⟨rfl, ?_⟩) (by assumption) ?_
            rotate_left 1
            · intro w_ hSw; (try dsimp only at hSw); go_simp; (try with_reducible rfl)
            (try simp only [Act.put, List.setIfInBounds_toArray, List.set_cons_zero, List.set_cons_succ])
            obtain ⟨hX1, hX2, hX3, hX4⟩ := id hHeld
            refine wpAnyH_ready (rs := [7]) (by kernel_rfl) (by simp) ?_
            refine AllReadyH.cons (o := ⟨_, _, _, _, _, _⟩) rfl (fun K hK => ?_) AllReadyH.nil
            go_simp
            go_at_call 79
            refine (HFp.out _).mono ?_
            rintro e w8 ⟨rfl, hpo, b8⟩
            have HX8 := Lib.hid (hX4.trans (b8.mono hX4.size))
            have hP1 := cell_b b8 hX1
            have hP2 := cell_b b8 hX2
            have hP3 := cell_b b8 hX3
            have HPo := Lib.hid hpo
            clear hpo b8
            go_wp2_with fail
            refine hK.out _ _ ?_ (fun hHeld => ?_)
            · exact ⟨hP1, hP2, hP3, HX8.out⟩
            clear hK K
            (try simp only [Act.put, List.setIfInBounds_toArray, List.set_cons_zero, List.set_cons_succ])
            refine wpAnyH_ready (rs := [8]) (by kernel_rfl) (by simp) ?_
            refine AllReadyH.cons (o := ⟨_, _, _, _, _, _⟩) rfl (fun K hK => ?_) AllReadyH.nil
            go_simp
            go_at_call 78
            refine (HAp.out _ HX8.out _ (fun q hq => (HPo.out.cellAt q (by omega)).trans (by simp [hq]))).mono ?_
            rintro e w9 ⟨rfl, b9⟩
            have HX9 := Lib.hid (HX8.out.trans (b9.mono HX8.out.size))
            have hQ1 := cell_b b9 hP1
            have hQ2 := cell_b b9 hP2
            have hQ3 := cell_b b9 hP3
            clear b9
            go_wp2_with fail
            refine hK.out _ _ ?_ (fun hHeld => ?_)
            · exact ⟨hQ1, hQ2, hQ3, HX9.out⟩
            clear hK K
            (try simp only [Act.put, List.setIfInBounds_toArray, List.set_cons_zero, List.set_cons_succ])
            refine wpAnyH_ready (rs := [10]) (by kernel_rfl) (by simp) ?_
            refine AllReadyH.cons (o := ⟨_, _, _, _, _, _⟩) rfl (fun K hK => ?_) AllReadyH.nil
            go_simp
            go_at_call 80
            refine (HLi.out _).mono ?_
            rintro e w10 ⟨gl, rfl, hlo, b10⟩
            have HX10 := Lib.hid (HX9.out.trans (b10.mono HX9.out.size))
            have hZ1 := cell_b b10 hQ1
            have hZ2 := cell_b b10 hQ2
            have hZ3 := cell_b b10 hQ3
            have HLo := Lib.hid (ownsRow_base hlo (Nat.le_trans HB3.out.size HX9.out.size))
            clear b10 hlo
            go_wp2_with fail
            refine hK.out _ _ ?_ (fun hHeld => ?_)
            · exact ⟨hZ1, hZ2, hZ3, HX10.out⟩
            clear hK K
            (try simp only [Act.put, List.setIfInBounds_toArray, List.set_cons_zero, List.set_cons_succ])
            refine wpAnyH_take (i := 11) (oi := ⟨_, _, _, _, _, _⟩) (v := ?_) rfl (by kernel_rfl) (by kernel_rfl) (by kernel_rfl) (fun _ _ _ h => h) (Or.inl ⟨rfl, ?_⟩) (by assumption) ?_
            rotate_left 1
            · intro w_ hSw; (try dsimp only at hSw); go_simp; (try with_reducible rfl)
            (try simp only [Act.put, List.setIfInBounds_toArray, List.set_cons_zero, List.set_cons_succ])
            refine wpAnyH_take (i := 12) (oi := ⟨_, _, _, _, _, _⟩) (v := ?_) rfl (by kernel_rfl) (by kernel_rfl) (by kernel_rfl) (fun _ _ _ h => h) (Or.inl ⟨rfl, ?_⟩) (by assumption) ?_
            rotate_left 1
            · intro w_ hSw; (try dsimp only at hSw); go_simp; (try with_reducible rfl)
            (try simp only [Act.put, List.setIfInBounds_toArray, List.set_cons_zero, List.set_cons_succ])
            refine wpAnyH_done (by kernel_rfl) ?_ _
            refine NoPanic.normal ?_
            go_wp2_with fail
            go_ret2
            exact ⟨_, K, K, rfl, hLen.out, OwnsInts.of_row HLo.out, HB3.out.trans (HX10.out.mono HB3.out.size)⟩
      · rw [apl_len hf (by rw [hll]; exact hl)]
        obtain ⟨r, hr⟩ : ∃ r, f.1 = r := ⟨_, rfl⟩
        rw [hr] at hl h0
        have hr0 : (r == 0) = false := by simp [h0]
        have hne : ((m : Int) != r) = true := by simp [hl]
        have HRr := Lib.hid hr
        clear hv hs hwf hx hmd hm hq hll htk hB hO hf hfo hok h0 hl hr
        go_enter Try.func39, Try.ntmps39
        go_wp2_with fail
        refine HO.out.mono ?_
        rintro e w1 hr_
        unfold OpAt at hr_
        obtain ⟨a, mt, c', rfl, hmt, hmc, hcm, hvt, b1⟩ := hr_
        have HB1 := Lib.hid (HB.out.trans (b1.mono HB.out.size))
        have HB2 : Hid (Below w.heap.size w (w1.alloc (.cells #[.int .i64 r, .slice a mt c'] 64))) := HB1.out.alloc HB1.out.size _
        clear hvt b1 hmt hmc hcm
        rw [HRr.out]
        go_wp2_with fail
        go_ret2
        exact ⟨none, 0, 0, rfl, rfl, OwnsInts.of_row (xs := []) (World.ownsRow_nil _ _ _ _), HB2.out⟩

end Go.Proofs.Ytfdolbpbddjhmaa
