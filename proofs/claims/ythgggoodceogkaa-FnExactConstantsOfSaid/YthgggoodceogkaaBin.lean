/-
  Contract: impl.binaryOperationOf: an operation of two arguments is told by its number. Conditions: the bounds that each theorem names.
-/
import Derived.Test.YthgggoodceogkaaValueOf
namespace Go.Proofs.Ythgggoodceogkaa
open Go.RowKit
set_option linter.unusedVariables false
set_option linter.unusedSimpArgs false

def binB (z : Int) (fs : List OpD) (op : Int) : Bool := takesB z fs op && decide ((opD fs op).1 = 2)
theorem bin_of {z : Int} {fs : List OpD} {op : Int} (h : binB z fs op = true) : takesB z fs op = true ∧ (opD fs op).1 = 2 := by simpa [binB] using h
theorem bin_get {z : Int} {fs : List OpD} {op : Int} (h : binB z fs op = true) : ∃ (k : Nat) (f : OpD), op = (k : Int) ∧ k < fs.length ∧ fs[k]? = some f ∧ opOkB z f = true ∧ f.1 = 2 ∧ opD fs (k : Int) = f ∧ algOkB z fs = true := by
  obtain ⟨h1, h2⟩ := bin_of h
  obtain ⟨k, f, rfl, hk, hf, hfo⟩ := takes_get h1
  have := opD_get hf
  exact ⟨k, f, rfl, hk, hf, hfo, by rw [← this]; exact h2, this, (takes_of h1).1⟩

theorem binOf_no (lo hi : Nat) (z : Int) (ao : Option Addr) (c n : Nat) (fs : List OpD) (op : Int) (w : World) (hv : OView w lo hi ao n fs) (hhi : hi ≤ w.heap.size) (hs : ∀ (j : Nat) (f : OpD), fs[j]? = some f → f.2.length ≤ maxLen) (hno : binB z fs op = false) :
    Calls Try.prog 67 #[.agg #[.int .i64 z, .slice ao n c], .int .i64 op] w fun e w' => e = .returned (.tuple #[.agg #[.int .i64 0, .slice none 0 0], .bool false]) ∧ Below w.heap.size w w' := by
  have hB := ((Below.refl w.heap.size w).alloc (Nat.le_refl _) (.cells #[.int .i64 z, .slice ao n c] 29)).alloc (by simp) (.cells #[.int .i64 0, .slice none 0 0] 56)
  have HB := Lib.hid hB
  have hv1 := hv.kept (Kept.of_below hB hhi)
  have hhi' := Nat.le_trans hhi hB.size
  obtain ⟨t, ht⟩ : ∃ t, takesB z fs op = t := ⟨_, rfl⟩
  cases t with
  | false =>
    have HC := Lib.hid (opOf_no lo hi z ao c n fs op _ hv1 hhi' hs ht)
    clear hB hs hv hno hv1 hhi' ht
    go_enter Try.func67, Try.ntmps67
    go_wp2_with fail
    refine HC.out.mono ?_
    rintro e w1 ⟨rfl, b1⟩
    obtain ⟨hcc, hff⟩ := bcell b1
    have hz : w.heap.size + 1 < w1.heap.size := by have := b1.size; simp at this; omega
    have HB1 := Lib.hid (HB.out.trans (b1.mono HB.out.size))
    clear b1
    go_wp2_with fail
    refine bodyPost_ret (v := .tuple #[.agg #[.int .i64 0, .slice none 0 0], .bool false]) (by simp [results, Try.results67, go_sem, hcc, hz]) rfl ⟨rfl, ((HB1.out.setCell (by show _ ≤ _; simp) _).setCell (by show _ ≤ _; simp) _).alloc (by simpa [World.setCell] using HB1.out.size) _⟩
  | true =>
    obtain ⟨k, f, rfl, hkl, hf, hfo⟩ := takes_get ht
    have HC := Lib.hid (opOf_yes lo hi z ao c n fs k f _ hv1 hhi' hs (takes_of ht).1 hf)
    have hfl := opD_get hf
    have har : ¬ f.1 = 2 := by
      intro h
      rw [binB, ht, hfl, h] at hno
      simp at hno
    obtain ⟨r, hr⟩ : ∃ r, f.1 = r := ⟨_, rfl⟩
    rw [hr] at har
    have HR := Lib.hid hr
    have he : (r == (2 : Int)) = false := by rw [beq_eq_false_iff_ne]; exact har
    have he2 : (r != (2 : Int)) = true := by rw [bne_iff_ne]; exact har
    clear hB hs hv hno hv1 hhi' ht hf hfo hfl hr har
    go_enter Try.func67, Try.ntmps67
    go_wp2_with fail
    refine HC.out.mono ?_
    rintro e w1 ⟨ta, tm, tc, rfl, hm1, hm2, hm3, hvt, b1⟩
    rw [HR.out]
    obtain ⟨hcc, hff⟩ := bcell b1
    have hz : w.heap.size + 1 < w1.heap.size := by have := b1.size; simp at this; omega
    have HB1 := Lib.hid (HB.out.trans (b1.mono HB.out.size))
    clear b1 hm1 hm2 hm3 hvt
    go_wp2_with fail
    refine bodyPost_ret (v := .tuple #[.agg #[.int .i64 0, .slice none 0 0], .bool false]) (by simp [results, Try.results67, go_sem, hcc, hz]) rfl ⟨rfl, ((HB1.out.setCell (by show _ ≤ _; simp) _).setCell (by show _ ≤ _; simp) _).alloc (by simpa [World.setCell] using HB1.out.size) _⟩

theorem binOf_yes (lo hi : Nat) (z : Int) (ao : Option Addr) (c n : Nat) (fs : List OpD) (k : Nat) (f : OpD) (w : World) (hv : OView w lo hi ao n fs) (hhi : hi ≤ w.heap.size) (hs : ∀ (j : Nat) (f : OpD), fs[j]? = some f → f.2.length ≤ maxLen) (hok : algOkB z fs = true) (hf : fs[k]? = some f) (h2 : f.1 = 2) :
    Calls Try.prog 67 #[.agg #[.int .i64 z, .slice ao n c], .int .i64 (k : Int)] w fun e w' => OpAt w w' lo hi f e := by
  have hB := ((Below.refl w.heap.size w).alloc (Nat.le_refl _) (.cells #[.int .i64 z, .slice ao n c] 29)).alloc (by simp) (.cells #[.int .i64 0, .slice none 0 0] 56)
  have HB := Lib.hid hB
  have HC := Lib.hid (opOf_yes lo hi z ao c n fs k f _ (hv.kept (Kept.of_below hB hhi)) (Nat.le_trans hhi hB.size) hs hok hf)
  have H2 := Lib.hid h2
  unfold OpAt
  rw [h2]
  clear hB hs hv hok hf h2
  go_enter Try.func67, Try.ntmps67
  go_wp2_with fail
  refine HC.out.mono ?_
  rintro e w1 ⟨ta, tm, tc, rfl, hm1, hm2, hm3, hvt, b1⟩
  rw [H2.out]
  obtain ⟨hcc, hff⟩ := bcell b1
  have hz : w.heap.size + 1 < w1.heap.size := by have := b1.size; simp at this; omega
  have HB1 := Lib.hid (HB.out.trans (b1.mono HB.out.size))
  have HVT := Lib.hid hvt
  have HM := Lib.hid (And.intro hm1 (And.intro hm2 hm3))
  have hhi2 := Lib.hid (Nat.le_trans hhi HB1.out.size)
  clear b1 hm1 hm2 hm3 hvt
  go_wp2_with fail
  have hB3 := ((HB1.out.setCell (p := ⟨w.heap.size + 1, 0, none⟩) (by show _ ≤ _; simp) (.int .i64 2)).setCell (p := ⟨w.heap.size + 1, 1, none⟩) (by show _ ≤ _; simp) (.slice ta tm tc)).alloc (by simpa [World.setCell] using HB1.out.size) (.cells #[.int .i64 2, .slice ta tm tc] 56)
  have hK : Kept lo hi w1 (((w1.setCell ⟨w.heap.size + 1, 0, none⟩ (.int .i64 2)).setCell ⟨w.heap.size + 1, 1, none⟩ (.slice ta tm tc)).alloc (.cells #[.int .i64 2, .slice ta tm tc] 56)) := by
    intro q h1 h2
    rw [Below.heap_alloc _ _ _ (by have := hhi2.out; simp [World.setCell]; omega), Below.heap_setCell _ _ _ _ (by show q ≠ w.heap.size + 1; omega), Below.heap_setCell _ _ _ _ (by show q ≠ w.heap.size + 1; omega)]
  refine bodyPost_ret (v := .tuple #[.agg #[.int .i64 2, .slice ta tm tc], .bool true]) (by simp [results, Try.results67, go_sem, hcc, hz]) rfl ⟨ta, tm, tc, rfl, HM.out.1, HM.out.2.1, HM.out.2.2, HVT.out.kept hK, hB3⟩

end Go.Proofs.Ythgggoodceogkaa
