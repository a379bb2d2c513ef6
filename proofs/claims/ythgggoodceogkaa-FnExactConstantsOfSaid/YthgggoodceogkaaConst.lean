/-
  Contracts: spec.ConstantsOf and impl.ConstantsOf. Conditions: the bounds that each theorem names.
-/
import Derived.Test.YthgggoodceogkaaSortC
import Derived.Test.YthgggoodceogkaaReduct
import Derived.Test.YthgggoodceogkaaPush
namespace Go.Proofs.Ythgggoodceogkaa
open Go.RowKit
set_option linter.unusedVariables false
set_option linter.unusedSimpArgs false

def constL (fs : List OpD) : List Int := (fs.filter (fun f => decide (f.1 = 0))).map (fun f => f.2.getD 0 0)
theorem constL_yes {fs : List OpD} {k : Nat} {f : OpD} (hf : fs[k]? = some f) (h : f.1 = 0) : constL (fs.take (k + 1)) = constL (fs.take k) ++ [f.2.getD 0 0] := by
  rw [List.take_add_one, hf]; simp [constL, List.filter_append, h]
theorem constL_no {fs : List OpD} {k : Nat} {f : OpD} (hf : fs[k]? = some f) (h : ¬ f.1 = 0) : constL (fs.take (k + 1)) = constL (fs.take k) := by
  rw [List.take_add_one, hf]; simp [constL, List.filter_append, h]
theorem constL_len (fs : List OpD) : (constL fs).length ≤ fs.length := by simpa [constL] using List.length_filter_le _ fs
def constV (fs : List OpD) : List Int := (constL fs).foldl putR []
theorem putR_len (xs : List Int) (x : Int) : (putR xs x).length ≤ xs.length + 1 := by
  induction xs with
  | nil => simp [putR]
  | cons a l ih =>
    rw [putR]
    split
    · simp only [List.length_cons]; omega
    · split <;> simp
theorem foldl_len (xs : List Int) : ∀ acc : List Int, (xs.foldl putR acc).length ≤ acc.length + xs.length := by
  induction xs with
  | nil => intro acc; simp
  | cons x l ih =>
    intro acc
    have h1 := ih (putR acc x)
    have h2 := putR_len acc x
    simp only [List.foldl_cons, List.length_cons] at h1 ⊢
    omega
theorem constV_len (fs : List OpD) : (constV fs).length ≤ fs.length := by
  have h1 := foldl_len (constL fs) []
  have h2 := constL_len fs
  simp only [List.length_nil, Nat.zero_add] at h1
  exact Nat.le_trans h1 h2
theorem constV_yes {fs : List OpD} {k : Nat} {f : OpD} (hf : fs[k]? = some f) (h : f.1 = 0) : constV (fs.take (k + 1)) = putR (constV (fs.take k)) (f.2.getD 0 0) := by
  unfold constV; rw [constL_yes hf h, List.foldl_append]; rfl
theorem constV_no {fs : List OpD} {k : Nat} {f : OpD} (hf : fs[k]? = some f) (h : ¬ f.1 = 0) : constV (fs.take (k + 1)) = constV (fs.take k) := by
  unfold constV; rw [constL_no hf h]
def valConstantsOf (z : Int) (fs : List OpD) : List Int × Bool := if algOkB z fs then (constV fs, true) else ([], false)
theorem smallConstantsOf (z : Int) (fs : List OpD) : (valConstantsOf z fs).1.length ≤ 4194304 := by
  unfold valConstantsOf
  split
  · rename_i h
    have := (algOkB_of h).2.1
    have := constV_len fs
    simp only
    omega
  · simp

set_option maxHeartbeats 1000000 in
theorem specConstantsOf (lo hi : Nat) (z : Int) (ao : Option Addr) (c n : Nat) (fs : List OpD) (w : World) (hv : OView w lo hi ao n fs) (hhi : hi ≤ w.heap.size) (hs : ∀ (j : Nat) (f : OpD), fs[j]? = some f → f.2.length ≤ maxLen) :
    Calls Try.prog 30 #[.agg #[.int .i64 z, .slice ao n c]] w fun e w' => ResL w w' (valConstantsOf z fs).1 (valConstantsOf z fs).2 e := by
  have hB := below_then (below_alloc w (.cells #[.int .i64 z, .slice ao n c] 29)) (below_alloc _ (.cells #[] 3))
  have HB := Lib.hid hB
  have hG := good_any lo hi z ao c n fs _ (hv.kept (Kept.of_below hB hhi)) (Nat.le_trans hhi hB.size) hs
  have hO := own_nil_lit (w.alloc (.cells #[.int .i64 z, .slice ao n c] 29)) (base := w.heap.size) (by simp)
  rw [World.size_alloc] at hO
  have HO := Lib.hid hO
  obtain ⟨t, ht⟩ : ∃ t, algOkB z fs = t := ⟨_, rfl⟩
  rw [ht] at hG
  have HG := Lib.hid hG
  unfold ResL
  cases t with
  | false =>
    rw [show valConstantsOf z fs = ([], false) by simp [valConstantsOf, ht]]
    clear hG hB hs hv ht hO
    go_enter Try.func30, Try.ntmps30
    go_wp2_with fail
    refine HG.out.mono ?_
    rintro e w1 ⟨rfl, b1⟩
    have HB1 := Lib.hid (HB.out.trans (b1.mono HB.out.size))
    have HO1 := Lib.hid (HO.out.kept (grown_of_below b1 none) (own_em _))
    clear b1
    go_wp2_with fail
    go_ret2
    exact ⟨_, 0, 0, rfl, rfl, OwnsInts.of_row HO1.out, HB1.out⟩
  | true =>
    rw [show valConstantsOf z fs = (constV fs, true) by simp [valConstantsOf, ht]]
    have hl := hv.1
    have hn4 : n ≤ 4 := by have := (algOkB_of ht).2.1; omega
    have HV := Lib.hid hv
    have HL := Lib.hid hl
    have HTl := Lib.hid (fun (f : OpD) (hf : f ∈ fs) => table_le ht hf)
    clear hG hB hs hv ht hl hO
    go_enter Try.func30, Try.ntmps30
    go_wp2_with fail
    refine HG.out.mono ?_
    rintro e w1 ⟨rfl, b1⟩
    have HB1 := Lib.hid (HB.out.trans (b1.mono HB.out.size))
    have HO1 := Lib.hid (HO.out.kept (grown_of_below b1 none) (own_em _))
    have ca : w1.cell? ⟨w.heap.size, 1, none⟩ = some (.slice ao n c) := (b1.cell (p := ⟨w.heap.size, 1, none⟩) (by simp; omega)).trans (by go_simp)
    have hsz : w.heap.size + 1 < w1.heap.size := by have := b1.size; simp at this; omega
    clear b1
    go_wp2_with fail
    go_loopw [4, 5] (fun v i wr => ∃ (k bo t d : Nat), k ≤ n ∧ i = .int .i64 (k : Int) ∧ v = .slice (some ⟨bo, 0, none⟩) t d ∧ t ≤ k ∧ Hid (wr.ownsRow w.heap.size 3 1 (.slice (some ⟨bo, 0, none⟩) t d) t ((constV (fs.take k)).map (Value.int .i64))) ∧ Hid (Below w.heap.size w wr) ∧ wr.cell? ⟨w.heap.size, 1, none⟩ = some (.slice ao n c) ∧ w.heap.size < wr.heap.size) (fun _ i _ => n - (intOf i).toNat)
    case atStart => exact ⟨0, w.heap.size + 1, 0, 0, Nat.zero_le _, rfl, rfl, Nat.le_refl _, HO1.out, HB1, ca, by omega⟩
    case round =>
      obtain ⟨k, bo, t, d, hk, rfl, rfl, htk, HR, HBr, da, hsr⟩ := hrel
      clear ca
      by_cases hlt : k < n
      · obtain ⟨b, o, rfl, _, hb, hc⟩ := HV.out.at_ (by omega)
        obtain ⟨f, hf⟩ := get_of_lt HV.out.1 hlt
        obtain ⟨a, m, c', c0, c1, _, _, hvt⟩ := hc k f hf
        have e0 : wr.cell? ⟨b, o + k * 2, none⟩ = some (.int .i64 f.1) := cell_b HBr.out c0
        have e1 : wr.cell? ⟨b, o + k * 2 + 1, none⟩ = some (.slice a m c') := cell_b HBr.out c1
        have htl := (HTl.out f (List.mem_of_getElem? hf)).1
        rw [hvt.1] at htl
        obtain ⟨bt, ot, rfl, _, _, hct⟩ := hvt.at_ (by omega)
        obtain ⟨y, hy⟩ := get_of_lt hvt.1 (show 0 < m by omega)
        have ey : wr.cell? ⟨bt, ot, none⟩ = some (.int .i64 y) := cell_b HBr.out (by simpa using hct 0 y hy)
        have hyv : f.2.getD 0 0 = y := by rw [List.getD_eq_getElem?_getD, hy]; rfl
        obtain ⟨r, hr⟩ : ∃ r, f.1 = r := ⟨_, rfl⟩
        rw [hr] at e0
        have HF := Lib.hid hf
        have HRr := Lib.hid hr
        have HYv := Lib.hid hyv
        have hm0 : (0 : Int) < (m : Int) := by omega
        have hm0' : 0 < m := by omega
        clear hc c0 c1 hf hct hy hyv hvt hr htl
        by_cases hr0 : r = 0
        · subst hr0
          have hp := put_any w.heap.size bo t d (constV (fs.take k)) y wr HR.out (by omega)
          have HP := Lib.hid hp
          have HLn : Hid ((constV (fs.take (k + 1))).length ≤ k + 1) := by
            have := constV_len (fs.take (k + 1)); rw [List.length_take] at this; unfold Hid; omega
          clear hp
          go_wp2_with fail
          refine HP.out.mono ?_
          rintro e w2 ⟨g2, m2, d2, rfl, hm2, ho2, b2⟩
          have HB2 := Lib.hid (HBr.out.trans (b2.mono HBr.out.size))
          have da2 : w2.cell? ⟨w.heap.size, 1, none⟩ = some (.slice (some ⟨b, o, none⟩) n c) := cell_b b2 da
          have hs2 : w.heap.size < w2.heap.size := by have := b2.size; omega
          have ht2 : m2 ≤ k + 1 := by have h_ := HLn.out; rw [constV_yes HF.out HRr.out, HYv.out] at h_; omega
          have HO2 : Hid (w2.ownsRow w.heap.size 3 1 (.slice (some ⟨g2, 0, none⟩) m2 d2) m2 ((constV (fs.take (k + 1))).map (Value.int .i64))) := by
            unfold Hid; rw [constV_yes HF.out HRr.out, HYv.out]; exact ho2
          clear b2 hm2 ho2 e0 e1 ey
          go_wp2_with fail
          go_roundw
          case rel => exact ⟨k + 1, g2, m2, d2, by omega, by go_num, rfl, ht2, HO2, HB2, da2, hs2⟩
          case measure => simp [intOf]; omega
        · have he : (r == 0) = false := by rw [beq_eq_false_iff_ne]; exact hr0
          have HO2 : Hid (wr.ownsRow w.heap.size 3 1 (.slice (some ⟨bo, 0, none⟩) t d) t ((constV (fs.take (k + 1))).map (Value.int .i64))) := by
            unfold Hid; rw [constV_no HF.out (by rw [HRr.out]; exact hr0)]; exact HR.out
          go_wp2_with fail
          go_roundw
          case rel => exact ⟨k + 1, bo, t, d, by omega, by go_num, rfl, by omega, HO2, HBr, da, hsr⟩
          case measure => simp [intOf]; omega
      · obtain rfl : k = n := by omega
        go_wp2_with fail
        go_ret2
        have h := HR.out
        rw [List.take_of_length_le (by have := HL.out; omega)] at h
        exact ⟨_, t, d, rfl, by have := h.1; simpa using this.symm, OwnsInts.of_row h, HBr.out⟩

end Go.Proofs.Ythgggoodceogkaa
