/-
  Contracts: spec.l2Takes and impl.operationOf: an operation is told by its number. Conditions: the bounds that each theorem names.
-/
import Derived.Test.YtfdolbpbddjhmaaIsAlg
namespace Go.Proofs.Ytfdolbpbddjhmaa
open Go.RowKit
set_option linter.unusedVariables false
set_option linter.unusedSimpArgs false

def takesB (z : Int) (fs : List OpD) (op : Int) : Bool := algOkB z fs && inB 0 ((fs.length : Int) - 1) op
theorem takes_of {z : Int} {fs : List OpD} {op : Int} (h : takesB z fs op = true) : algOkB z fs = true ∧ 0 ≤ op ∧ op < fs.length := by
  simp only [takesB, inB, Bool.and_eq_true, decide_eq_true_eq] at h
  exact ⟨h.1, h.2.1, by omega⟩
theorem takes_no {z : Int} {fs : List OpD} {op : Int} (h : algOkB z fs = false) : takesB z fs op = false := by simp [takesB, h]
theorem takes_no2 {z : Int} {fs : List OpD} {op : Int} (h : ¬ (0 ≤ op ∧ op < fs.length)) : takesB z fs op = false := by
  have : inB 0 ((fs.length : Int) - 1) op = false := inB_no (by omega)
  simp [takesB, this]
theorem takes_yes {z : Int} {fs : List OpD} {op : Int} (h : algOkB z fs = true) (h0 : 0 ≤ op) (h1 : op < fs.length) : takesB z fs op = true := by
  simp [takesB, h, inB_yes h0 (show op ≤ (fs.length : Int) - 1 by omega)]
theorem takes_get {z : Int} {fs : List OpD} {op : Int} (h : takesB z fs op = true) : ∃ (k : Nat) (f : OpD), op = (k : Int) ∧ k < fs.length ∧ fs[k]? = some f ∧ opOkB z f = true := by
  obtain ⟨h1, h2, h3⟩ := takes_of h
  obtain ⟨k, rfl⟩ : ∃ k : Nat, op = (k : Int) := ⟨op.toNat, by omega⟩
  have hk : k < fs.length := by omega
  exact ⟨k, fs[k], rfl, hk, List.getElem?_eq_getElem hk, (algOkB_of h1).2.2 _ (List.getElem_mem hk)⟩

theorem takes_any (lo hi : Nat) (z : Int) (ao : Option Addr) (c n : Nat) (fs : List OpD) (op : Int) (w : World) (hv : OView w lo hi ao n fs) (hhi : hi ≤ w.heap.size) (hs : ∀ (j : Nat) (f : OpD), fs[j]? = some f → f.2.length ≤ maxLen) :
    Calls Try.prog 72 #[.agg #[.int .i64 z, .slice ao n c], .int .i64 op] w fun e w' => e = .returned (.bool (takesB z fs op)) ∧ Below w.heap.size w w' := by
  have hB := (Below.refl w.heap.size w).alloc (Nat.le_refl _) (.cells #[.int .i64 z, .slice ao n c] 28)
  have hC := good_any lo hi z ao c n fs _ (hv.kept (Kept.of_below hB hhi)) (Nat.le_trans hhi hB.size) hs
  have HB := Lib.hid hB
  obtain ⟨t, ht⟩ : ∃ t, algOkB z fs = t := ⟨_, rfl⟩
  rw [ht] at hC
  have HC := Lib.hid hC
  have hl := hv.1
  cases t with
  | false =>
    rw [takes_no ht]
    clear hC hB hs hv ht hl
    go_enter Try.func72, Try.ntmps72
    go_wp2_with fail
    refine HC.out.mono ?_
    rintro e w1 ⟨rfl, b1⟩
    have HB1 := Lib.hid (HB.out.trans (b1.mono HB.out.size))
    clear b1
    go_wp2_with fail
    go_ret
    exact ⟨rfl, HB1.out⟩
  | true =>
    have h4 : n ≤ 4 := by have := (algOkB_of ht).2.1; omega
    have ht2 : takesB z fs op = inB 0 ((n : Int) - 1) op := by unfold takesB; rw [ht, hl]; rfl
    rw [ht2]
    have hI := Lib.hid (fun w => in_any op 0 ((n : Int) - 1) w)
    clear hC hB hs hv ht hl ht2
    go_enter Try.func72, Try.ntmps72
    go_wp2_with fail
    refine HC.out.mono ?_
    rintro e w1 ⟨rfl, b1⟩
    have c1 : w1.cell? ⟨w.heap.size, 1, none⟩ = some (.slice ao n c) := (b1.cell (p := ⟨w.heap.size, 1, none⟩) (by simp)).trans (by simp)
    have HB1 := Lib.hid (HB.out.trans (b1.mono HB.out.size))
    clear b1
    go_wp2_with fail
    refine (hI.out _).mono ?_
    rintro e w2 ⟨rfl, rfl⟩
    go_wp2_with fail
    go_ret
    exact ⟨rfl, HB1.out⟩

/-! impl.operationOf -/
set_option maxHeartbeats 400000 in
theorem opOf_no (lo hi : Nat) (z : Int) (ao : Option Addr) (c n : Nat) (fs : List OpD) (op : Int) (w : World) (hv : OView w lo hi ao n fs) (hhi : hi ≤ w.heap.size) (hs : ∀ (j : Nat) (f : OpD), fs[j]? = some f → f.2.length ≤ maxLen) (hno : takesB z fs op = false) :
    Calls Try.prog 76 #[.agg #[.int .i64 z, .slice ao n c], .int .i64 op] w fun e w' => e = .returned (.tuple #[.agg #[.int .i64 0, .slice none 0 0], .bool false]) ∧ Below w.heap.size w w' := by
  have hB := ((Below.refl w.heap.size w).alloc (Nat.le_refl _) (.cells #[.int .i64 z, .slice ao n c] 28)).alloc (by simp) (.cells #[.int .i64 0, .slice none 0 0] 64)
  have hC := isAlg_any lo hi z ao c n fs _ (hv.kept (Kept.of_below hB hhi)) (Nat.le_trans hhi hB.size) hs
  have HB := Lib.hid hB
  obtain ⟨t, ht⟩ : ∃ t, algOkB z fs = t := ⟨_, rfl⟩
  rw [ht] at hC
  have HC := Lib.hid hC
  have hl := hv.1
  cases t with
  | false =>
    clear hC hB hs hv ht hl hno
    go_enter Try.func76, Try.ntmps76
    go_wp2_with fail
    refine HC.out.mono ?_
    rintro e w1 ⟨rfl, b1⟩
    obtain ⟨hcc, hff⟩ := bcell b1
    have HB1 := Lib.hid (HB.out.trans (b1.mono HB.out.size))
    clear b1
    go_wp2_with fail
    refine bodyPost_ret (v := .tuple #[.agg #[.int .i64 0, .slice none 0 0], .bool false]) (by simp [results, Try.results76, go_sem, hcc]) rfl ⟨rfl, (HB1.out.setCell (by show _ ≤ _; simp) _).setCell (by show _ ≤ _; simp) _⟩
  | true =>
    have h4 : n ≤ 4 := by have := (algOkB_of ht).2.1; omega
    have hop : ¬ (0 ≤ op ∧ op < (n : Int)) := by
      rw [← hl]
      intro hc
      rw [takes_yes ht hc.1 hc.2] at hno
      cases hno
    clear hC hB hs hv ht hl hno
    by_cases h0 : 0 ≤ op
    · have h1 : (n : Int) ≤ op := by omega
      clear hop
      go_enter Try.func76, Try.ntmps76
      go_wp2_with fail
      refine HC.out.mono ?_
      rintro e w1 ⟨rfl, b1⟩
      obtain ⟨hcc, hff⟩ := bcell b1
      have HB1 := Lib.hid (HB.out.trans (b1.mono HB.out.size))
      clear b1
      go_wp2_with fail
      refine bodyPost_ret (v := .tuple #[.agg #[.int .i64 0, .slice none 0 0], .bool false]) (by simp [results, Try.results76, go_sem, hcc]) rfl ⟨rfl, (HB1.out.setCell (by show _ ≤ _; simp) _).setCell (by show _ ≤ _; simp) _⟩
    · clear hop
      go_enter Try.func76, Try.ntmps76
      go_wp2_with fail
      refine HC.out.mono ?_
      rintro e w1 ⟨rfl, b1⟩
      obtain ⟨hcc, hff⟩ := bcell b1
      have HB1 := Lib.hid (HB.out.trans (b1.mono HB.out.size))
      clear b1
      go_wp2_with fail
      refine bodyPost_ret (v := .tuple #[.agg #[.int .i64 0, .slice none 0 0], .bool false]) (by simp [results, Try.results76, go_sem, hcc]) rfl ⟨rfl, (HB1.out.setCell (by show _ ≤ _; simp) _).setCell (by show _ ≤ _; simp) _⟩

/-- The operation that operationOf tells: it lies where the algebra has it. -/
def OpAt (w w' : World) (lo hi : Nat) (f : OpD) (e : Ending) : Prop :=
  ∃ a m c, e = .returned (.tuple #[.agg #[.int .i64 f.1, .slice a m c], .bool true]) ∧ m = f.2.length ∧ m ≤ c ∧ c ≤ maxLen ∧ IView w' lo hi a m f.2 ∧ Below w.heap.size w w'

set_option maxHeartbeats 400000 in
theorem opOf_yes (lo hi : Nat) (z : Int) (ao : Option Addr) (c n : Nat) (fs : List OpD) (k : Nat) (f : OpD) (w : World) (hv : OView w lo hi ao n fs) (hhi : hi ≤ w.heap.size) (hs : ∀ (j : Nat) (f : OpD), fs[j]? = some f → f.2.length ≤ maxLen) (hok : algOkB z fs = true) (hf : fs[k]? = some f) :
    Calls Try.prog 76 #[.agg #[.int .i64 z, .slice ao n c], .int .i64 (k : Int)] w fun e w' => OpAt w w' lo hi f e := by
  have hB := ((Below.refl w.heap.size w).alloc (Nat.le_refl _) (.cells #[.int .i64 z, .slice ao n c] 28)).alloc (by simp) (.cells #[.int .i64 0, .slice none 0 0] 64)
  have hC := isAlg_any lo hi z ao c n fs _ (hv.kept (Kept.of_below hB hhi)) (Nat.le_trans hhi hB.size) hs
  have HB := Lib.hid hB
  rw [hok] at hC
  have HC := Lib.hid hC
  have hkl : k < n := by rw [← hv.1]; exact (List.getElem?_eq_some_iff.1 hf).1
  have h4 : n ≤ 4 := by have := (algOkB_of hok).2.1; have := hv.1; omega
  obtain ⟨b, o, rfl, hbl, hb, hc⟩ := hv.at_ (by omega)
  obtain ⟨a, m, c', c0, c1, hmc, hcm, hvt⟩ := hc k f hf
  have HMC := Lib.hid (And.intro hmc hcm)
  have HVT := Lib.hid hvt
  obtain ⟨r, hr⟩ : ∃ r, f.1 = r := ⟨_, rfl⟩
  unfold OpAt
  rw [hr] at c0 ⊢
  have C0 := Lib.hid c0
  have C1 := Lib.hid c1
  clear hC hB hs hv hok hf hc hmc hcm hvt hr c0 c1
  go_enter Try.func76, Try.ntmps76
  go_wp2_with fail
  refine HC.out.mono ?_
  rintro e w1 ⟨rfl, b1⟩
  obtain ⟨hcc, hff⟩ := bcell b1
  have HB1 := Lib.hid (HB.out.trans (b1.mono HB.out.size))
  have e0 : w1.cell? ⟨b, o + k * 2, none⟩ = some (.int .i64 r) := (HB1.out.cell (p := ⟨b, _, none⟩) (by show b < _; omega)).trans C0.out
  have e1 : w1.cell? ⟨b, o + k * 2 + 1, none⟩ = some (.slice a m c') := (HB1.out.cell (p := ⟨b, _, none⟩) (by show b < _; omega)).trans C1.out
  clear b1
  go_wp2_with fail
  have HB2 := (HB1.out.setCell (p := ⟨w.heap.size + 1, 0, none⟩) (by show _ ≤ _; simp) (.int .i64 r)).setCell (p := ⟨w.heap.size + 1, 1, none⟩) (by show _ ≤ _; simp) (.slice a m c')
  refine bodyPost_ret (v := .tuple #[.agg #[.int .i64 r, .slice a m c'], .bool true]) (by simp [results, Try.results76, go_sem, hcc]) rfl ⟨a, m, c', rfl, HVT.out.1.symm, HMC.out.1, HMC.out.2, HVT.out.kept (Kept.of_below HB2 hhi), HB2⟩

end Go.Proofs.Ytfdolbpbddjhmaa
