/-
  Contract: impl.ConstantsOf. Conditions: the bounds that each theorem names.
-/
import Derived.Test.YthgggoodceogkaaConst
namespace Go.Proofs.Ythgggoodceogkaa
open Go.RowKit
set_option linter.unusedVariables false
set_option linter.unusedSimpArgs false

set_option maxHeartbeats 2000000 in
theorem implConstantsOf (lo hi : Nat) (z : Int) (ao : Option Addr) (c n : Nat) (fs : List OpD) (w : World) (hv : OView w lo hi ao n fs) (hhi : hi ≤ w.heap.size) (hs : ∀ (j : Nat) (f : OpD), fs[j]? = some f → f.2.length ≤ maxLen) :
    Calls Try.prog 31 #[.agg #[.int .i64 z, .slice ao n c]] w fun e w' => ResL w w' (valConstantsOf z fs).1 (valConstantsOf z fs).2 e := by
  have hB := below_alloc w (.cells #[.int .i64 z, .slice ao n c] 29)
  have HB := Lib.hid hB
  have hG := isAlg_any lo hi z ao c n fs _ (hv.kept (Kept.of_below hB hhi)) (Nat.le_trans hhi hB.size) hs
  obtain ⟨t, ht⟩ : ∃ t, algOkB z fs = t := ⟨_, rfl⟩
  rw [ht] at hG
  have HG := Lib.hid hG
  obtain ⟨i0, hi0, hz0, hz1, hz2⟩ := info_parts Try.infoInt
  unfold ResL
  cases t with
  | false =>
    rw [show valConstantsOf z fs = ([], false) by simp [valConstantsOf, ht]]
    clear hG hB hs hv ht
    go_enter Try.func31, Try.ntmps31
    go_wp2_with fail
    refine HG.out.mono ?_
    rintro e w1 ⟨rfl, b1⟩
    have HB1 := Lib.hid (HB.out.trans (b1.mono HB.out.size))
    clear b1
    go_wp2_with fail
    go_ret2
    exact ⟨none, 0, 0, rfl, rfl, ⟨World.ownsRow_nil _ _ _ _, fun k h => by simp [Value.ownBlock] at h⟩, HB1.out⟩
  | true =>
    rw [show valConstantsOf z fs = (constV fs, true) by simp [valConstantsOf, ht]]
    have hl := hv.1
    have hn4 : n ≤ 4 := by have := (algOkB_of ht).2.1; omega
    have HV := Lib.hid hv
    have HL := Lib.hid hl
    have HTl := Lib.hid (fun (f : OpD) (hf : f ∈ fs) => table_le ht hf)
    clear hG hB hs hv ht hl
    go_enter Try.func31, Try.ntmps31
    go_wp2_with fail
    refine HG.out.mono ?_
    rintro e w1 ⟨rfl, b1⟩
    have HB1 := Lib.hid (HB.out.trans (b1.mono HB.out.size))
    have ca : w1.cell? ⟨w.heap.size, 1, none⟩ = some (.slice ao n c) := (b1.cell (p := ⟨w.heap.size, 1, none⟩) (by simp)).trans (by simp)
    have hsz : w.heap.size < w1.heap.size := by have := b1.size; simp at this; omega
    clear b1
    go_wp2_with fail
    clear ca
    go_loopw [4, 6, 13] (fun v s6 i wr => ∃ (k t vc : Nat) (va : Option Addr), k ≤ n ∧ i = .int .i64 (k : Int) ∧ v = .slice va t vc ∧ t ≤ k ∧ Hid (wr.ownsRow w.heap.size 3 1 (.slice va t vc) t ((constL (fs.take k)).map (Value.int .i64))) ∧ Hid (Below w.heap.size w wr) ∧ w.heap.size < wr.heap.size) (fun _ _ i _ => n - (intOf i).toNat)
    case atStart => exact ⟨0, 0, 0, none, Nat.zero_le _, rfl, rfl, Nat.le_refl _, World.ownsRow_nil _ _ _ _, HB1, hsz⟩
    case round =>
      obtain ⟨k, t, vc, va, hk, rfl, rfl, htk, HR, HBr, hsr⟩ := hrel
      by_cases hlt : k < n
      · obtain ⟨b, o, rfl, _, hb, hc⟩ := HV.out.at_ (by omega)
        obtain ⟨f, hf⟩ := get_of_lt HV.out.1 hlt
        obtain ⟨a, m, c', c0, c1, _, _, hvt⟩ := hc k f hf
        have e0 : wr.cell? ⟨b, o + k * 2, none⟩ = some (.int .i64 f.1) := cell_b HBr.out c0
        have e1 : wr.cell? ⟨b, o + k * 2 + 1, none⟩ = some (.slice a m c') := cell_b HBr.out c1
        have htl := (HTl.out f (List.mem_of_getElem? hf)).1
        rw [hvt.1] at htl
        obtain ⟨bt, ot, rfl, _, _, hct⟩ := hvt.at_ (by omega)
        obtain ⟨y, hy⟩ := get_of_lt hvt.1 (show 0 < m by omega)
        have ey : wr.cell? ⟨bt, ot, none⟩ = some (.int .i64 y) := cell_b HBr.out (by simpa using hct 0 y hy)
        have hyb : bt < wr.heap.size := World.block_lt_of_cell? wr _ ey
        have hyv : f.2.getD 0 0 = y := by rw [List.getD_eq_getElem?_getD, hy]; rfl
        obtain ⟨r, hr⟩ : ∃ r, f.1 = r := ⟨_, rfl⟩
        rw [hr] at e0
        have HF := Lib.hid hf
        have HRr := Lib.hid hr
        have HYv := Lib.hid hyv
        have hm0 : (0 : Int) < (m : Int) := by omega
        have hm0' : 0 < m := by omega
        clear hc c0 c1 hf hct hy hyv hvt hr htl
        by_cases hr0 : r = 0
        · subst hr0
          go_wp2_with (at_builtin; refine wpList_append_own _ rfl _ _ 33 rfl w.heap.size 3 i0 (.int .i64 0) 1 8 Try.underlying33 hi0 hz0 hz1 hz2 rfl (by decide) (.slice va t vc) t ((constL (fs.take k)).map (Value.int .i64)) rfl ((HR.out.alloc _).alloc _) ⟨wr.heap.size + 1, 0, none⟩ 1 1 [.int .i64 y] rfl rfl (fun j u hj => by rw [← World.size_alloc wr (.cells #[.int .i64 0, .slice (some ⟨bt, ot, none⟩) m c'] 56)]; exact cell_one_new _ _ _ j u hj) (fun x hx => by simp at hx; subst hx; rfl) (by unfold maxLen; omega) (by omega) (by have := HBr.out.size; simp; omega) ?_; intro v' w3 hown' hgrow' hnil')
          obtain ⟨g, cap, rfl⟩ := ownsRow_succ hown'
          have HB3 := Lib.hid (((HBr.out.alloc HBr.out.size (.cells #[.int .i64 0, .slice (some ⟨bt, ot, none⟩) m c'] 56)).alloc (by have := HBr.out.size; simp; omega) (.cells #[.int .i64 y] 3)).grown hgrow' (by have := HBr.out.size; simp; omega) (fun q hq => (HR.out.lt q hq).1))
          have hs3 : w.heap.size < w3.heap.size := by have := hgrow'.size; simp at this; omega
          have HO3 : Hid (w3.ownsRow w.heap.size 3 1 (.slice (some ⟨g, 0, none⟩) (t + 1) cap) (t + 1) ((constL (fs.take (k + 1))).map (Value.int .i64))) := by
            unfold Hid
            rw [constL_yes HF.out HRr.out, HYv.out, List.map_append]
            exact hown'
          clear hown' hgrow' hnil'
          go_wp2_with fail
          go_roundw
          case rel => exact ⟨k + 1, t + 1, cap, _, by omega, by go_num, rfl, by omega, HO3, HB3, hs3⟩
          case measure => simp [intOf]; omega
        · have he : (r == 0) = false := by rw [beq_eq_false_iff_ne]; exact hr0
          have HO2 : Hid ((wr.alloc (.cells #[.int .i64 r, .slice (some ⟨bt, ot, none⟩) m c'] 56)).ownsRow w.heap.size 3 1 (.slice va t vc) t ((constL (fs.take (k + 1))).map (Value.int .i64))) := by
            unfold Hid; rw [constL_no HF.out (by rw [HRr.out]; exact hr0)]; exact HR.out.alloc _
          have HB2 := Lib.hid (HBr.out.alloc HBr.out.size (.cells #[.int .i64 r, .slice (some ⟨bt, ot, none⟩) m c'] 56))
          go_wp2_with fail
          go_roundw
          case rel => exact ⟨k + 1, t, vc, va, by omega, by go_num, rfl, by omega, HO2, HB2, by simp; omega⟩
          case measure => simp [intOf]; omega
      · obtain rfl : k = n := by omega
        have hR := HR.out
        rw [List.take_of_length_le (by have := HL.out; omega)] at hR
        have HVl : Hid (constV fs = Go.Lib.compact (sortL (constL fs))) := (compact_sort (constL fs)).symm
        rcases hR.2 with ⟨h1, h2⟩ | ⟨g, cap, cur, h1, _⟩
        · injection h1 with h3 _ h4
          subst h3 h2 h4
          have h0 : constL fs = [] := by have := hR.1; simpa using this
          have HZ : Hid (constV fs = []) := by unfold Hid constV; rw [h0]; rfl
          have HS := Lib.hid (fun (W : World) => Try.slices_Sort_int_none none 0 W)
          have HCm := Lib.hid (fun (W : World) => Try.slices_Compact_int_empty none 0 W)
          clear hR h0
          go_wp2_with fail
          refine (HS.out _).mono ?_
          rintro e w2 ⟨rfl, rfl⟩
          go_wp2_with fail
          refine (HCm.out _).mono ?_
          rintro e w3 ⟨rfl, rfl⟩
          go_wp2_with fail
          go_ret2
          exact ⟨none, 0, 0, rfl, by rw [HZ.out]; rfl, by rw [HZ.out]; exact ⟨World.ownsRow_nil _ _ _ _, fun k h => by simp [Value.ownBlock] at h⟩, HBr.out⟩
        · injection h1 with h3 h4 h5
          subst h3 h5
          have HS := Lib.hid (sort_own w.heap.size g t vc (constL fs) wr hR (by omega))
          have hgl := (hR.lt g rfl).1
          have HLc : Hid ((Go.Lib.compact (sortL (constL fs))).length ≤ t) := by
            unfold Hid
            rw [compact_sort]
            have h2 := foldl_len (constL fs) []
            have h3 := hR.1
            simp only [List.length_nil, Nat.zero_add, List.length_map, Nat.mul_one] at h2 h3
            omega
          clear hR
          go_wp2_with fail
          refine HS.out.mono ?_
          rintro e w2 ⟨rfl, ho2, hg2⟩
          have HB2 := Lib.hid (HBr.out.grown hg2 HBr.out.size (fun q hq => by injection hq with hq; omega))
          have HCm := Lib.hid (compact_own w.heap.size g t vc (sortL (constL fs)) w2 ho2 (by omega) HLc.out)
          clear ho2 hg2
          go_wp2_with fail
          refine HCm.out.mono ?_
          rintro e w3 ⟨rfl, ho3, hg3⟩
          have HB3 := Lib.hid (HB2.out.grown hg3 HB2.out.size (fun q hq => by injection hq with hq; omega))
          have HO3 := Lib.hid ho3
          clear ho3 hg3
          go_wp2_with fail
          go_ret2
          exact ⟨_, _, vc, rfl, by rw [HVl.out], by rw [HVl.out]; exact OwnsInts.of_row HO3.out, HB3.out⟩

end Go.Proofs.Ythgggoodceogkaa
