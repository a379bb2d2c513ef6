/-
  Contract: impl.applied: what an operation gives for tuples. Conditions: the bounds that it names.
-/
import Derived.Test.YtfdolbpbddjhmaaTplM
import Derived.Test.YtfdolbpbddjhmaaTplI
import Derived.Test.YtfdolbpbddjhmaaElems
import Derived.Laws.CopyOwn
namespace Go.Proofs.Ytfdolbpbddjhmaa
open Go.RowKit
set_option linter.unusedVariables false
set_option linter.unusedSimpArgs false

def tupF (l : List Int) : Nat → Int := fun j => l.getD j 0
theorem tupF_snoc (l : List Int) (x : Int) : putB (tupF l) l.length x = tupF (l ++ [x]) := by
  funext j
  unfold putB tupF
  by_cases h : j = l.length
  · rw [if_pos h, h]; simp [List.getD_eq_getElem?_getD]
  · rw [if_neg h]
    by_cases h2 : j < l.length
    · simp [List.getD_eq_getElem?_getD, List.getElem?_append_left h2]
    · rw [List.getD_eq_getElem?_getD, List.getD_eq_getElem?_getD, List.getElem?_eq_none (by omega), List.getElem?_eq_none (by simp; omega)]

theorem wp_world {P : Program} {C : Code} {Q : Exit → Act → World → Prop} {a : Act} {w w2 : World} (e : w2 = w) (h : C.wp P Q a w2) : C.wp P Q a w := e ▸ h

set_option maxRecDepth 100000 in
set_option maxHeartbeats 4000000 in
theorem applied_any (z : Int) (f : OpD) (bt ot mt ct b c n K pb : Nat) (ls : List (List Int)) (w : World) (h1 : 1 ≤ z) (h2 : z ≤ 8) (hfo : opOkB z f = true) (hmt : f.2.length = mt) (ht : ∀ t y, f.2[t]? = some y → w.cell? ⟨bt, ot + t, none⟩ = some (.int .i64 y))
    (hl : ls.length = n) (hf1 : (n : Int) = f.1) (ha : ls.all (tupB z K) = true) (hc : ∀ j t p, ls[j]? = some t → p < K → w.cell? ⟨b, j * 64 + p, none⟩ = some (.int .u8 (t.getD p 0))) (hp : ∀ q, q < n → w.cell? ⟨pb, q, none⟩ = some (.int .i64 (q : Int))) (hK : K ≤ 64) :
    Calls Try.prog 78 #[.int .i64 z, .int .i64 (K : Int), .agg #[.int .i64 f.1, .slice (some ⟨bt, ot, none⟩) mt ct], .slice (some ⟨b, 0, none⟩) n c, .slice (some ⟨pb, 0, none⟩) n n] w fun e w' => e = .returned (.agg (arrB (tupF (appT z f ls K)))) ∧ Below w.heap.size w w' := by
  have hn3 : n ≤ 3 := by have := (opOkB_of hfo).1; omega
  have hval := (opOkB_of hfo).2.2
  obtain ⟨w0, hw0⟩ : ∃ w0 : World, w0 = w.alloc (.cells #[.int .i64 f.1, .slice (some ⟨bt, ot, none⟩) mt ct] 64) := ⟨_, rfl⟩
  have b0 : Below w.heap.size w w0 := by rw [hw0]; exact below_alloc _ _
  have hs0 : w0.heap.size = w.heap.size + 1 := by rw [hw0]; simp
  obtain ⟨w1, hw1⟩ : ∃ w1 : World, w1 = w0.alloc (.cells (arrB fun _ => 0) 84) := ⟨_, rfl⟩
  have b1 : Below w0.heap.size w0 w1 := by rw [hw1]; exact below_alloc _ _
  have hs1 : w1.heap.size = w.heap.size + 2 := by rw [hw1]; simp [hs0]
  obtain ⟨w2, hw2⟩ : ∃ w2 : World, w2 = w1.alloc (.cells (arrB fun _ => 0) 84) := ⟨_, rfl⟩
  have b2 : Below w1.heap.size w1 w2 := by rw [hw2]; exact below_alloc _ _
  have HR0 : Hid (ArrBt w2 (w.heap.size + 1) fun _ => 0) := by
    have h := (ArrBt.new w0 fun _ => 0)
    rw [← hw1, hs0] at h
    rw [hw2]; exact h.alloc _
  have HV0 : Hid (ArrBt w2 (w.heap.size + 2) (tupF (appT z f ls 0))) := by
    have h := (ArrBt.new w1 fun _ => 0)
    rw [← hw2, hs1] at h
    exact h.congr (fun k _ => by simp [tupF, appT])
  have HB0 := Lib.hid (b0.trans ((b1.mono b0.size).trans (b2.mono (by have := b0.size; have := b1.size; omega))))
  have cf0 : w2.cell? ⟨w.heap.size, 1, none⟩ = some (.slice (some ⟨bt, ot, none⟩) mt ct) := cell_b b2 (cell_b b1 (by rw [hw0]; simp))
  have hs2 : w.heap.size + 2 < w2.heap.size := by rw [hw2]; simp [hs1]
  have hw2' : w2 = ((w.alloc (.cells #[.int .i64 f.1, .slice (some ⟨bt, ot, none⟩) mt ct] 64)).alloc (.cells (arrB fun _ => 0) 84)).alloc (.cells (arrB fun _ => 0) 84) := by rw [hw2, hw1, hw0]
  have HT := Lib.hid ht
  have HC := Lib.hid hc
  have HP := Lib.hid hp
  have HA := Lib.hid ha
  have HFo := Lib.hid hfo
  have HL := Lib.hid hl
  have HVal := Lib.hid hval
  have HF1 := Lib.hid hf1
  have HMt := Lib.hid hmt
  clear hw0 hw1 hw2 b0 b1 b2 hs0 hs1 ht hc hp ha hfo hl hval hf1 hmt
  go_enter Try.func78, Try.ntmps78
  go_wp2_with fail
  refine wp_world (w2 := w2) hw2' ?_
  clear hw2'
  go_wp2_with fail
  go_loopw [12, 13, 15, 17] (fun s12 s13 s15 i wr => ∃ p : Nat, p ≤ K ∧ i = .int .i64 (p : Int) ∧ Hid (ArrBt wr (w.heap.size + 1) fun _ => 0) ∧ Hid (ArrBt wr (w.heap.size + 2) (tupF (appT z f ls p))) ∧ Hid (Below w.heap.size w wr) ∧ wr.cell? ⟨w.heap.size, 1, none⟩ = some (.slice (some ⟨bt, ot, none⟩) mt ct)) (fun _ _ _ i _ => K - (intOf i).toNat)
  case atStart => exact ⟨0, Nat.zero_le _, rfl, HR0, HV0, HB0, cf0⟩
  case round =>
    obtain ⟨p, hpK, rfl, HR, HVr, HBr, df⟩ := hrel
    clear cf0 HR0 HV0 HB0 hs2
    by_cases hlt : p < K
    · have hlt' : (p : Int) < (K : Int) := by omega
      have hci := colL_in HA.out hlt
      have hcl := colL_len ls p
      have HCi := Lib.hid hci
      have HCl := Lib.hid hcl
      clear hci hcl
      go_wp2_with fail
      go_loopw [13, 15, 22] (fun v s15 i wi => ∃ (j : Nat) (a : Int), j ≤ n ∧ i = .int .i64 (j : Int) ∧ v = .int .i64 a ∧ Hid (a = idxA z ((colL ls p).take j)) ∧ wi = wr) (fun _ _ i _ => n - (intOf i).toNat)
      case atStart => exact ⟨0, 0, Nat.zero_le _, rfl, rfl, rfl, rfl⟩
      case round =>
        obtain ⟨j, a, hj, rfl, rfl, HAx, rfl⟩ := hrel
        by_cases hltj : j < n
        · obtain ⟨t, ht⟩ : ∃ t, ls[j]? = some t := ⟨_, List.getElem?_eq_getElem (by have := HL.out; omega)⟩
          obtain ⟨tl, ta⟩ := tups_get HA.out ht
          obtain ⟨x, hx1, hx2, x0, x1⟩ := col_at tl ta hlt
          have e1 := cell_b HBr.out (HP.out j hltj)
          have e2 := cell_b HBr.out (HC.out j t p ht hlt)
          rw [hx2] at e2
          have hcg := colL_get (p := p) ht
          rw [hx2] at hcg
          obtain ⟨q0, q1, q2, q3, q4, q5⟩ := idx_step h1 h2 HCi.out (by have := HCl.out; have := HL.out; omega) hcg
          rw [← HAx.out] at q2 q3 q4 q5
          have HN : Hid (a * z + x = idxA z ((colL ls p).take (j + 1))) := by unfold Hid; rw [idxA_succ hcg, HAx.out]
          have hjm : (j : Int) < (n : Int) := by omega
          have hx255 : x ≤ 255 := by omega
          have hp64 : (p : Int) < 64 := by omega
          clear ht tl ta hx1 hx2 hcg q0 q1
          go_wp2_with fail
          go_roundw
          case rel => exact ⟨j + 1, a * z + x, by omega, by go_num, rfl, HN, by first | rfl | trivial⟩
          case measure => simp [intOf]; omega
        · obtain rfl : j = n := by omega
          have hjm : ¬ (j : Int) < (j : Int) := by omega
          obtain ⟨hi0_, hi1_, hat⟩ := at_get h1 HFo.out (xs := colL ls p) (by rw [HCl.out, HL.out]; exact HF1.out) HCi.out
          obtain ⟨ti, hti⟩ : ∃ ti : Nat, idxA z (colL ls p) = (ti : Int) := ⟨_, (Int.toNat_of_nonneg hi0_).symm⟩
          rw [hti, Int.toNat_natCast] at hat
          rw [hti] at hi1_
          obtain rfl : a = (ti : Int) := by rw [HAx.out, idx_all (by rw [HCl.out, HL.out]; exact Nat.le_refl _), hti]
          obtain ⟨y, hy⟩ : ∃ y, atA z f (colL ls p) = y := ⟨_, rfl⟩
          rw [hy] at hat
          have HY := Lib.hid hy
          obtain ⟨y0, y1⟩ := allIn_get HVal.out hat
          have e2 := cell_b HBr.out (HT.out ti y hat)
          have htm : (ti : Int) < (mt : Int) := by have := HMt.out; omega
          have hp64 : (p : Int) < 64 := by omega
          have cv := HVr.out.cell (k := p) (by omega)
          have cfz := HVr.out.frozen p
          have HV2 : Hid (ArrBt (wr.setCell ⟨w.heap.size + 2, p, none⟩ (.int .u8 y)) (w.heap.size + 2) (tupF (appT z f ls (p + 1)))) := by
            have h := HVr.out.set (k := p) (by omega) y
            have h3 := tupF_snoc (appT z f ls p) y
            rw [appT_len] at h3
            rw [h3] at h
            unfold Hid; rw [appT_succ, HY.out]; exact h
          have HR2 := Lib.hid (HR.out.setOther (g' := w.heap.size + 2) (by omega) p (.int .u8 y))
          have HB2 : Hid (Below w.heap.size w (wr.setCell ⟨w.heap.size + 2, p, none⟩ (.int .u8 y))) := HBr.out.setCell (by show w.heap.size ≤ w.heap.size + 2; omega) _
          have df2 : (wr.setCell ⟨w.heap.size + 2, p, none⟩ (.int .u8 y)).cell? ⟨w.heap.size, 1, none⟩ = some (.slice (some ⟨bt, ot, none⟩) mt ct) := by
            exact (World.cell?_of_block (a := ⟨w.heap.size, 1, none⟩) (Below.heap_setCell _ _ _ _ (by show w.heap.size ≠ w.heap.size + 2; omega))).trans df
          have hy255 : y ≤ 255 := by omega
          clear hat hti hi0_ hi1_ hy
          go_wp2_with fail
          go_roundw
          case rel => exact ⟨p + 1, by omega, by go_num, HR2, HV2, HB2, df2⟩
          case measure => simp [intOf]; omega
    · obtain rfl : p = K := by omega
      have hlt' : ¬ (p : Int) < (p : Int) := by omega
      have HZ := Lib.hid (HR.out.setRow (f' := tupF (appT z f ls p)))
      have HB2 := Lib.hid (below_setRow HBr.out (show w.heap.size ≤ w.heap.size + 1 by omega) (arrB (tupF (appT z f ls p))))
      go_wp2_with (first | (refine ldB HVr.out rfl _ rfl rfl ?_) | (refine stB HR.out rfl _ _ rfl rfl rfl ?_))
      refine bodyPost_ret (retB rfl _ _ _ _ rfl HZ.out) rfl ⟨rfl, HB2.out⟩

end Go.Proofs.Ytfdolbpbddjhmaa
