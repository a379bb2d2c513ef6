/-
  Contract: spec.TermOp. Conditions: the bounds that it names.
-/
import Derived.Test.YtplheohkecooeaaOpS
namespace Go.Proofs.Ytplheohkecooeaa
open Go.RowKit
set_option linter.unusedVariables false
set_option linter.unusedSimpArgs false

set_option maxRecDepth 100000 in
set_option maxHeartbeats 2000000 in
theorem sop_no (lo hi : Nat) (z : Int) (ao : Option Addr) (c n : Nat) (fs : List OpD) (lo2 hi2 : Nat) (bo : Option Addr) (d m : Nat) (xs : List Int) (k : Int) (w : World) (hv : OView w lo hi ao n fs) (hhi : hi ≤ w.heap.size) (hs : ∀ (j : Nat) (f : OpD), fs[j]? = some f → f.2.length ≤ maxLen)
    (hx : IView w lo2 hi2 bo m xs) (hhi2 : hi2 ≤ w.heap.size) (hmd : m ≤ d) (hm : d ≤ maxLen) (hno : opB z fs xs k = false) :
    Calls Try.prog 39 #[.agg #[.int .i64 z, .slice ao n c], .slice bo m d, .int .i64 k] w fun e w' => e = .returned (.tuple #[.agg #[.int .i64 0, .slice none 0 0], .bool false]) ∧ Below w.heap.size w w' := by
  have hB := below_then (below_alloc w (.cells #[.int .i64 z, .slice ao n c] 30)) (below_alloc _ (.cells #[.int .i64 0, .slice none 0 0] 54))
  have HB := Lib.hid hB
  have hcall := l3Takes_any lo hi lo2 hi2 z ao bo c n d m fs xs _ (hv.kept (Kept.of_below hB hhi)) (Nat.le_trans hhi hB.size) hs (hx.kept (Kept.of_below hB hhi2)) (Nat.le_trans hhi2 hB.size) (Nat.le_trans hmd hm)
  obtain ⟨r, hr⟩ : ∃ r, isTermB z fs xs = r := ⟨_, rfl⟩
  rw [hr] at hcall
  have HC := Lib.hid hcall
  cases r with
  | false =>
    clear hB hv hs hx hcall hr hno
    go_enter Try.func39, Try.ntmps39
    go_wp2_with fail
    refine HC.out.mono ?_
    rintro e w1 ⟨rfl, b1⟩
    obtain ⟨hcc, hff⟩ := bcell b1
    have HB1 := Lib.hid (HB.out.trans (b1.mono HB.out.size))
    clear b1
    go_wp2_with fail
    refine bodyPost_ret (v := .tuple #[.agg #[.int .i64 0, .slice none 0 0], .bool false]) (by simp [results, Try.results39, go_sem, hcc]) rfl ⟨rfl, (HB1.out.setCell (by show _ ≤ _; simp) _).setCell (by show _ ≤ _; simp) _⟩
  | true =>
    obtain ⟨hok, h60, hend⟩ := isTermB_of hr
    have hlx := hx.1
    have HI := Lib.hid (fun (W : World) => in_any k 0 3 W)
    by_cases hk : 0 ≤ k ∧ k ≤ 3
    · obtain ⟨kn, rfl⟩ : ∃ kn : Nat, k = (kn : Int) := ⟨k.toNat, by omega⟩
      rw [inB_yes hk.1 hk.2] at HI
      have HN := Lib.hid (fun (w1 : World) (hB1 : Below w.heap.size w w1) => fits_any lo2 hi2 bo d m kn xs w1 (hx.kept (Kept.of_below hB1 hhi2)) (by omega))
      have hf : fitsB xs kn = false := by
        unfold opB at hno
        rw [hr, decide_eq_true hk, Bool.true_and, Bool.true_and] at hno
        exact hno
      rw [hf] at HN
      clear hB hv hs hx hcall hr hno hok hend hf hk
      go_enter Try.func39, Try.ntmps39
      go_wp2_with fail
      refine HC.out.mono ?_
      rintro e w1 ⟨rfl, b1⟩
      obtain ⟨hcc, hff⟩ := bcell b1
      have HB1 := Lib.hid (HB.out.trans (b1.mono HB.out.size))
      clear b1
      go_wp2_with fail
      refine (HI.out _).mono ?_
      rintro e w2 ⟨rfl, rfl⟩
      go_wp2_with fail
      refine (HN.out _ HB1.out).mono ?_
      rintro e w2 ⟨rfl, rfl⟩
      go_wp2_with fail
      refine bodyPost_ret (v := .tuple #[.agg #[.int .i64 0, .slice none 0 0], .bool false]) (by simp [results, Try.results39, go_sem, hcc]) rfl ⟨rfl, (HB1.out.setCell (by show _ ≤ _; simp) _).setCell (by show _ ≤ _; simp) _⟩
    · rw [inB_no hk] at HI
      clear hB hv hs hx hcall hr hno hok hend hk
      go_enter Try.func39, Try.ntmps39
      go_wp2_with fail
      refine HC.out.mono ?_
      rintro e w1 ⟨rfl, b1⟩
      obtain ⟨hcc, hff⟩ := bcell b1
      have HB1 := Lib.hid (HB.out.trans (b1.mono HB.out.size))
      clear b1
      go_wp2_with fail
      refine (HI.out _).mono ?_
      rintro e w2 ⟨rfl, rfl⟩
      go_wp2_with fail
      refine bodyPost_ret (v := .tuple #[.agg #[.int .i64 0, .slice none 0 0], .bool false]) (by simp [results, Try.results39, go_sem, hcc]) rfl ⟨rfl, (HB1.out.setCell (by show _ ≤ _; simp) _).setCell (by show _ ≤ _; simp) _⟩

set_option maxRecDepth 100000 in
set_option maxHeartbeats 2000000 in
theorem sop_yes (lo hi : Nat) (z : Int) (ao : Option Addr) (c n : Nat) (fs : List OpD) (lo2 hi2 : Nat) (bo : Option Addr) (d m : Nat) (xs : List Int) (kn n0 : Nat) (w : World) (hv : OView w lo hi ao n fs) (hhi : hi ≤ w.heap.size) (hs : ∀ (j : Nat) (f : OpD), fs[j]? = some f → f.2.length ≤ maxLen)
    (hx : IView w lo2 hi2 bo m xs) (hhi2 : hi2 ≤ w.heap.size) (hmd : m ≤ d) (hm : d ≤ maxLen) (hr : isTermB z fs xs = true) (hk3 : kn ≤ 3) (hf : fitsB xs kn = true) (hn0 : powI z kn = (n0 : Int)) :
    Calls Try.prog 39 #[.agg #[.int .i64 z, .slice ao n c], .slice bo m d, .int .i64 (kn : Int)] w fun e w' => ResO w w' ((kn : Int), opT z fs xs kn n0) true e := by
  have hB := below_then (below_alloc w (.cells #[.int .i64 z, .slice ao n c] 30)) (below_alloc _ (.cells #[.int .i64 0, .slice none 0 0] 54))
  have HB := Lib.hid hB
  have hcall := l3Takes_any lo hi lo2 hi2 z ao bo c n d m fs xs _ (hv.kept (Kept.of_below hB hhi)) (Nat.le_trans hhi hB.size) hs (hx.kept (Kept.of_below hB hhi2)) (Nat.le_trans hhi2 hB.size) (Nat.le_trans hmd hm)
  rw [hr] at hcall
  have HC := Lib.hid hcall
  have hlx := hx.1
  have h60 := (isTermB_of hr).2.1
  have HI := Lib.hid (fun (W : World) => in_any (kn : Int) 0 3 W)
  rw [inB_yes (by omega) (by omega)] at HI
  have HN := Lib.hid (fun (w1 : World) (hB1 : Below w.heap.size w w1) => fits_any lo2 hi2 bo d m kn xs w1 (hx.kept (Kept.of_below hB1 hhi2)) (by omega))
  rw [hf] at HN
  have HO := Lib.hid (fun (W : World) (hb : Below w.heap.size w W) => l3Op_any lo hi z ao c n fs lo2 hi2 bo d m xs kn n0 W (hv.kept (Kept.of_below hb hhi)) (Nat.le_trans hhi hb.size) (hx.kept (Kept.of_below hb hhi2)) (Nat.le_trans hhi2 hb.size) hr hk3 hf hn0)
  have HLen := Lib.hid (opT_len z fs xs kn n0)
  obtain ⟨T, hT⟩ : ∃ T, opT z fs xs kn n0 = T := ⟨_, rfl⟩
  rw [hT] at HO HLen ⊢
  unfold ResO
  clear hB hv hs hx hcall hr hf hn0 hT
  go_enter Try.func39, Try.ntmps39
  go_wp2_with fail
  refine HC.out.mono ?_
  rintro e w1 ⟨rfl, b1⟩
  have cz : w1.cell? ⟨w.heap.size, 0, none⟩ = some (.int .i64 z) := cell_b b1 (by go_simp)
  have ca : w1.cell? ⟨w.heap.size, 1, none⟩ = some (.slice ao n c) := cell_b b1 (by go_simp)
  have hR1 : Hid (w1.heap[w.heap.size + 1]? = some (.cells #[.int .i64 0, .slice none 0 0] 54 (0, 0))) := by
    unfold Hid
    rw [b1.block _ (by simp)]
    have h := heap_alloc_new (w.alloc (.cells #[.int .i64 z, .slice ao n c] 30)) (.cells #[.int .i64 0, .slice none 0 0] 54)
    rw [World.size_alloc] at h
    exact h
  have hs1 : w.heap.size + 1 < w1.heap.size := by have := b1.size; simp at this; omega
  have HB1 := Lib.hid (HB.out.trans (b1.mono HB.out.size))
  clear b1
  go_wp2_with fail
  refine (HI.out _).mono ?_
  rintro e w2 ⟨rfl, rfl⟩
  go_wp2_with fail
  refine (HN.out _ HB1.out).mono ?_
  rintro e w2 ⟨rfl, rfl⟩
  go_wp2_with fail
  refine (HO.out _ HB1.out).mono ?_
  rintro e w2 ⟨g, c', rfl, o2, b2⟩
  have hR2 := (b2.block _ hs1).trans hR1.out
  obtain ⟨r0, r1, rf⟩ := boxC hR2
  have HB2 := Lib.hid (HB1.out.trans (b2.mono HB1.out.size))
  have HO2 := Lib.hid o2
  have HR2 := Lib.hid hR2
  have hgl := (o2.lt g rfl).1
  clear b2 o2 hR2 hR1 cz ca
  go_wp2_with fail
  refine bodyPost_ret (v := .tuple #[.agg #[.int .i64 (kn : Int), .slice (some ⟨g, 0, none⟩) n0 c'], .bool true]) (by simp [results, Try.results39, go_sem, r0, r1]) rfl ⟨some ⟨g, 0, none⟩, n0, c', rfl, HLen.out.symm, ?_, (HB2.out.setCell (by show _ ≤ _; simp) _).setCell (by show _ ≤ _; simp) _⟩
  refine OwnsInts.of_row (ownsRow_base (ownsRow_block HO2.out fun b hb => ?_) (by omega))
  obtain rfl : g = b := by injection hb
  rw [Below.heap_setCell _ _ _ _ (by show g ≠ w.heap.size + 1; omega), Below.heap_setCell _ _ _ _ (by show g ≠ w.heap.size + 1; omega)]

theorem specTermOp (lo hi : Nat) (z : Int) (ao : Option Addr) (c n : Nat) (fs : List OpD) (lo2 hi2 : Nat) (bo : Option Addr) (d m : Nat) (xs : List Int) (k : Int) (w : World) (hv : OView w lo hi ao n fs) (hhi : hi ≤ w.heap.size) (hs : ∀ (j : Nat) (f : OpD), fs[j]? = some f → f.2.length ≤ maxLen)
    (hx : IView w lo2 hi2 bo m xs) (hhi2 : hi2 ≤ w.heap.size) (hmd : m ≤ d) (hm : d ≤ maxLen) (hq : ∀ x, x ∈ xs → (Lit.int .i64 x).wf = true) (hk : (Lit.int .i64 k).wf = true) :
    Calls Try.prog 39 #[.agg #[.int .i64 z, .slice ao n c], .slice bo m d, .int .i64 k] w fun e w' => ResO w w' (valTermOp z fs xs k).1 (valTermOp z fs xs k).2 e := by
  cases h : opB z fs xs k with
  | true =>
    have h' := h
    unfold opB at h'
    simp only [Bool.and_eq_true, decide_eq_true_eq] at h'
    obtain ⟨kn, rfl⟩ : ∃ kn : Nat, k = (kn : Int) := ⟨k.toNat, by omega⟩
    have h1 := (algOkB_of (isTermB_of h'.1).1).1
    have h2 := powI_bd h1.1 h1.2 (k := kn) (by omega)
    obtain ⟨n0, hn0⟩ : ∃ n0 : Nat, powI z kn = (n0 : Int) := ⟨(powI z kn).toNat, by omega⟩
    rw [val_op_yes h hn0]
    exact sop_yes lo hi z ao c n fs lo2 hi2 bo d m xs kn n0 w hv hhi hs hx hhi2 hmd hm h'.1 (by omega) h'.2.2 hn0
  | false =>
    rw [val_op_no h]
    refine (sop_no lo hi z ao c n fs lo2 hi2 bo d m xs k w hv hhi hs hx hhi2 hmd hm h).mono fun e w' ⟨he, hb⟩ => ?_
    subst he
    exact resO_no hb

end Go.Proofs.Ytplheohkecooeaa
