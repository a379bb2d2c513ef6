/-
  Contracts: spec.ValueOf and impl.ValueOf. Conditions: the bounds that each theorem names.
-/
import Derived.Test.YthgggoodceogkaaIdxV
import Derived.Test.YthgggoodceogkaaElems
import Derived.Test.YthgggoodceogkaaIdx
import Derived.Test.YthgggoodceogkaaTakes
namespace Go.Proofs.Ythgggoodceogkaa
open Go.RowKit
set_option linter.unusedVariables false
set_option linter.unusedSimpArgs false

def argsOkB (z : Int) (f : OpD) (xs : List Int) : Bool := decide ((xs.length : Int) = f.1) && allIn z xs
def opD (fs : List OpD) (op : Int) : OpD := fs.getD op.toNat (0, [])
theorem opD_get {fs : List OpD} {k : Nat} {f : OpD} (h : fs[k]? = some f) : opD fs (k : Int) = f := by
  unfold opD; rw [Int.toNat_natCast, List.getD_eq_getElem?_getD, h]; rfl
def valValueOf (z : Int) (fs : List OpD) (op : Int) (xs : List Int) : Int × Bool :=
  if takesB z fs op && argsOkB z (opD fs op) xs then (atA z (opD fs op) xs, true) else (0, false)
theorem valValueOf_no {z : Int} {fs : List OpD} {op : Int} {xs : List Int} (h : takesB z fs op = false) : valValueOf z fs op xs = (0, false) := by simp [valValueOf, h]
theorem valValueOf_args {z : Int} {fs : List OpD} {op : Int} {xs : List Int} (h : argsOkB z (opD fs op) xs = false) : valValueOf z fs op xs = (0, false) := by simp [valValueOf, h]
theorem valValueOf_yes {z : Int} {fs : List OpD} {op : Int} {xs : List Int} (h : takesB z fs op = true) (h2 : argsOkB z (opD fs op) xs = true) : valValueOf z fs op xs = (atA z (opD fs op) xs, true) := by simp [valValueOf, h, h2]
theorem argsOk_of {z : Int} {f : OpD} {xs : List Int} (h : argsOkB z f xs = true) : (xs.length : Int) = f.1 ∧ allIn z xs = true := by simpa [argsOkB] using h
theorem argsOk_len {z : Int} {f : OpD} {xs : List Int} (h : ¬ (xs.length : Int) = f.1) : argsOkB z f xs = false := by simp [argsOkB, h]
theorem argsOk_in {z : Int} {f : OpD} {xs : List Int} (h : allIn z xs = false) : argsOkB z f xs = false := by simp [argsOkB, h]
def IntBool (r : Int × Bool) (e : Ending) : Prop := e = .returned (.tuple #[.int .i64 r.1, .bool r.2])

set_option maxHeartbeats 1000000 in
theorem implValueOf (lo hi : Nat) (z : Int) (ao : Option Addr) (c n : Nat) (fs : List OpD) (op : Int) (lo2 hi2 : Nat) (bo : Option Addr) (d m : Nat) (xs : List Int) (w : World) (hv : OView w lo hi ao n fs) (hhi : hi ≤ w.heap.size) (hs : ∀ (j : Nat) (f : OpD), fs[j]? = some f → f.2.length ≤ maxLen) (wz : (Lit.int .i64 op).wf = true)
    (hx : IView w lo2 hi2 bo m xs) (hhi2 : hi2 ≤ w.heap.size) (hm : m ≤ maxLen) :
    Calls Try.prog 29 #[.agg #[.int .i64 z, .slice ao n c], .int .i64 op, .slice bo m d] w fun e w' => e = .returned (.tuple #[.int .i64 (valValueOf z fs op xs).1, .bool (valValueOf z fs op xs).2]) ∧ Below w.heap.size w w' := by
  unfold maxLen at hm
  have hB := (Below.refl w.heap.size w).alloc (Nat.le_refl _) (.cells #[.int .i64 z, .slice ao n c] 29)
  have HB := Lib.hid hB
  have hv1 := hv.kept (Kept.of_below hB hhi)
  have hx1 := hx.kept (Kept.of_below hB hhi2)
  have hhi' : hi ≤ (w.alloc (.cells #[.int .i64 z, .slice ao n c] 29)).heap.size := Nat.le_trans hhi hB.size
  cases hno : takesB z fs op with
  | false =>
    rw [valValueOf_no hno]
    have HC := Lib.hid (opOf_no lo hi z ao c n fs op _ hv1 hhi' hs hno)
    clear hB hs hv hno hv1 hx hx1 hhi'
    go_enter Try.func29, Try.ntmps29
    go_wp2_with fail
    refine HC.out.mono ?_
    rintro e w1 ⟨rfl, b1⟩
    have HB1 := Lib.hid ((HB.out.trans (b1.mono HB.out.size)).alloc (Nat.le_trans HB.out.size b1.size) (.cells #[.int .i64 0, .slice none 0 0] 56))
    clear b1
    go_wp2_with fail
    go_ret2
    exact ⟨rfl, HB1.out⟩
  | true =>
    obtain ⟨k, f, rfl, hkl, hf, hfo⟩ := takes_get hno
    have hok := (takes_of hno).1
    obtain ⟨⟨h1, h2⟩, hn4, _⟩ := algOkB_of hok
    have HC := Lib.hid (opOf_yes lo hi z ao c n fs k f _ hv1 hhi' hs hok hf)
    have HX := Lib.hid hx
    have hxl := hx.1
    have hfl := opD_get hf
    obtain ⟨r, hr⟩ : ∃ r, f.1 = r := ⟨_, rfl⟩
    have HR := Lib.hid hr
    by_cases hlen : (m : Int) = r
    · subst hlen
      obtain ⟨y, hy⟩ : ∃ y, allIn z xs = y := ⟨_, rfl⟩
      have HY := Lib.hid hy
      have HE := Lib.hid (fun (w1 : World) (hw : Below w.heap.size w w1) => elems_impl lo2 hi2 z bo d m xs w1 (hx.kept (Kept.of_below hw hhi2)) (by unfold maxLen; omega))
      cases y with
      | false =>
        rw [valValueOf_args (by rw [hfl]; exact argsOk_in hy)]
        rw [hy] at HE
        clear hB hs hv hno hv1 hx hx1 hhi' hok hf hfo hfl hr hxl hy
        go_enter Try.func29, Try.ntmps29
        go_wp2_with fail
        refine HC.out.mono ?_
        rintro e w1 ⟨ta, tm, tc, rfl, hm1, hm2, hm3, hvt, b1⟩
        rw [HR.out]
        have HB1 := Lib.hid ((HB.out.trans (b1.mono HB.out.size)).alloc (Nat.le_trans HB.out.size b1.size) (.cells #[.int .i64 (m : Int), .slice ta tm tc] 56))
        have cz : w1.cell? ⟨w.heap.size, 0, none⟩ = some (.int .i64 z) := (b1.cell (p := ⟨w.heap.size, 0, none⟩) (by simp)).trans (by simp)
        have hsz : w.heap.size < w1.heap.size := by have := b1.size; simp at this; omega
        clear b1 hm1 hm2 hm3 hvt
        go_wp2_with fail
        refine (HE.out _ HB1.out).mono ?_
        rintro e w2 ⟨rfl, rfl⟩
        go_wp2_with fail
        go_ret2
        exact ⟨rfl, HB1.out⟩
      | true =>
        have hyes : argsOkB z (opD fs (k : Int)) xs = true := by rw [hfl]; simp [argsOkB, hxl, hr, hy]
        rw [valValueOf_yes hno hyes, hfl]
        obtain ⟨hi0, hi1, hat⟩ := at_get h1 hfo (by rw [hxl, hr]) hy
        have hm3 : m ≤ 3 := by have := (opOkB_of hfo).1; omega
        have HI := Lib.hid (fun (w1 : World) (hw : Below w.heap.size w w1) => idx_impl lo2 hi2 z bo d m xs w1 (hx.kept (Kept.of_below hw hhi2)) h1 h2 hy hm3)
        obtain ⟨i, hi⟩ : ∃ i : Nat, idxA z xs = (i : Int) := ⟨(idxA z xs).toNat, by omega⟩
        rw [hi] at hi1 hat HI
        rw [Int.toNat_natCast] at hat
        obtain ⟨v, hve⟩ : ∃ v, atA z f xs = v := ⟨_, rfl⟩
        rw [hve] at hat ⊢
        rw [hy] at HE
        have HAt := Lib.hid hat
        clear hB hs hv hno hv1 hx hx1 hhi' hok hf hfo hfl hr hxl hy hyes hat hve hi hi0
        go_enter Try.func29, Try.ntmps29
        go_wp2_with fail
        refine HC.out.mono ?_
        rintro e w1 ⟨ta, tm, tc, rfl, rfl, hm2, hm3', hvt, b1⟩
        rw [HR.out]
        have HB1 := Lib.hid ((HB.out.trans (b1.mono HB.out.size)).alloc (Nat.le_trans HB.out.size b1.size) (.cells #[.int .i64 (m : Int), .slice ta f.2.length tc] 56))
        have cz : w1.cell? ⟨w.heap.size, 0, none⟩ = some (.int .i64 z) := (b1.cell (p := ⟨w.heap.size, 0, none⟩) (by simp)).trans (by simp)
        have hsz : w.heap.size < w1.heap.size := by have := b1.size; simp at this; omega
        obtain ⟨bt, ot, rfl, _, hbt, hct⟩ := hvt.at_ (by omega)
        have ct := hct _ _ HAt.out
        have hbl : bt < w1.heap.size := World.block_lt_of_cell? w1 _ ct
        obtain ⟨len, hlen⟩ : ∃ len, f.2.length = len := ⟨_, rfl⟩
        rw [hlen] at HB1 hi1 hm2 ⊢
        clear b1 hvt hct hm3' hlen hbt
        go_wp2_with fail
        refine (HE.out _ HB1.out).mono ?_
        rintro e w2 ⟨rfl, rfl⟩
        go_wp2_with fail
        go_quiet ((go_at_call 61; exact quiet_left (HI.out _ (below_drewN HB1.out _))))
        go_wp2_with fail
        go_ret2
        exact ⟨rfl, below_drewN HB1.out _⟩
    · rw [valValueOf_args (by rw [hfl]; exact argsOk_len (by rw [hxl, hr]; exact hlen))]
      have he : ((m : Int) == r) = false := by rw [beq_eq_false_iff_ne]; exact hlen
      have he2 : ((m : Int) != r) = true := by rw [bne_iff_ne]; exact hlen
      clear hB hs hv hno hv1 hx hx1 hhi' hok hf hfo hfl hr hxl hlen
      go_enter Try.func29, Try.ntmps29
      go_wp2_with fail
      refine HC.out.mono ?_
      rintro e w1 ⟨ta, tm, tc, rfl, hm1, hm2, hm3, hvt, b1⟩
      rw [HR.out]
      have HB1 := Lib.hid ((HB.out.trans (b1.mono HB.out.size)).alloc (Nat.le_trans HB.out.size b1.size) (.cells #[.int .i64 r, .slice ta tm tc] 56))
      clear b1 hm1 hm2 hm3 hvt
      go_wp2_with fail
      go_ret2
      exact ⟨rfl, HB1.out⟩

set_option maxHeartbeats 1000000 in
theorem specValueOf (lo hi : Nat) (z : Int) (ao : Option Addr) (c n : Nat) (fs : List OpD) (op : Int) (lo2 hi2 : Nat) (bo : Option Addr) (d m : Nat) (xs : List Int) (w : World) (hv : OView w lo hi ao n fs) (hhi : hi ≤ w.heap.size) (hs : ∀ (j : Nat) (f : OpD), fs[j]? = some f → f.2.length ≤ maxLen) (wz : (Lit.int .i64 op).wf = true)
    (hx : IView w lo2 hi2 bo m xs) (hhi2 : hi2 ≤ w.heap.size) (hm : m ≤ maxLen) :
    Calls Try.prog 27 #[.agg #[.int .i64 z, .slice ao n c], .int .i64 op, .slice bo m d] w fun e w' => e = .returned (.tuple #[.int .i64 (valValueOf z fs op xs).1, .bool (valValueOf z fs op xs).2]) ∧ Below w.heap.size w w' := by
  unfold maxLen at hm
  have hB := (Below.refl w.heap.size w).alloc (Nat.le_refl _) (.cells #[.int .i64 z, .slice ao n c] 29)
  have HB := Lib.hid hB
  have hG := good_any lo hi z ao c n fs _ (hv.kept (Kept.of_below hB hhi)) (Nat.le_trans hhi hB.size) hs
  obtain ⟨t, ht⟩ : ∃ t, algOkB z fs = t := ⟨_, rfl⟩
  rw [ht] at hG
  have HG := Lib.hid hG
  have hl := hv.1
  cases t with
  | false =>
    rw [valValueOf_no (takes_no ht)]
    clear hG hB hs hv ht hx hl
    go_enter Try.func27, Try.ntmps27
    go_wp2_with fail
    refine HG.out.mono ?_
    rintro e w1 ⟨rfl, b1⟩
    have HB1 := Lib.hid (HB.out.trans (b1.mono HB.out.size))
    clear b1
    go_wp2_with fail
    go_ret2
    exact ⟨rfl, HB1.out⟩
  | true =>
    obtain ⟨⟨h1, h2⟩, hn4, _⟩ := algOkB_of ht
    have hn4' : n ≤ 4 := by omega
    have hI := fun w => in_any op 0 ((n : Int) - 1) w
    obtain ⟨y, hy⟩ : ∃ y, inB 0 ((n : Int) - 1) op = y := ⟨_, rfl⟩
    rw [hy] at hI
    have HI := Lib.hid hI
    have htk : takesB z fs op = y := by unfold takesB; rw [ht, hl, hy]; rfl
    have cells : ∀ w1, Below (w.alloc (.cells #[.int .i64 z, .slice ao n c] 29)).heap.size (w.alloc (.cells #[.int .i64 z, .slice ao n c] 29)) w1 → w1.cell? ⟨w.heap.size, 0, none⟩ = some (.int .i64 z) ∧ w1.cell? ⟨w.heap.size, 1, none⟩ = some (.slice ao n c) := fun w1 b1 =>
      ⟨(b1.cell (p := ⟨w.heap.size, 0, none⟩) (by simp)).trans (by simp), (b1.cell (p := ⟨w.heap.size, 1, none⟩) (by simp)).trans (by simp)⟩
    have HCells := Lib.hid cells
    cases y with
    | false =>
      rw [valValueOf_no htk]
      clear hG hB hs hv ht hx hl hI hy htk cells
      go_enter Try.func27, Try.ntmps27
      go_wp2_with fail
      refine HG.out.mono ?_
      rintro e w1 ⟨rfl, b1⟩
      obtain ⟨cz, ca⟩ := HCells.out w1 b1
      have HB1 := Lib.hid (HB.out.trans (b1.mono HB.out.size))
      clear b1
      go_wp2_with fail
      refine (HI.out _).mono ?_
      rintro e w2 ⟨rfl, rfl⟩
      go_wp2_with fail
      go_ret2
      exact ⟨rfl, HB1.out⟩
    | true =>
      obtain ⟨k, f, rfl, hkl, hf, hfo⟩ := takes_get htk
      rw [hl] at hkl
      obtain ⟨b, o, rfl, _, hb, hc⟩ := hv.at_ (by omega)
      obtain ⟨a, mt, c', c0, c1, hmc, hcm, hvt⟩ := hc k f hf
      obtain ⟨r, hr⟩ : ∃ r, f.1 = r := ⟨_, rfl⟩
      rw [hr] at c0
      have C0 := Lib.hid c0
      have hxl := hx.1
      have hfl := opD_get hf
      have hfl2 : opD fs (k : Int) = f := hfl
      by_cases hlen : (m : Int) = r
      · subst hlen
        obtain ⟨y, hy2⟩ : ∃ y, allIn z xs = y := ⟨_, rfl⟩
        have HE := Lib.hid (fun (w1 : World) (hw : Below w.heap.size w w1) => elems_spec lo2 hi2 z bo d m xs w1 (hx.kept (Kept.of_below hw hhi2)) (by omega) (by omega) (by unfold maxLen; omega))
        rw [hy2] at HE
        cases y with
        | false =>
          rw [valValueOf_args (by rw [hfl]; exact argsOk_in hy2)]
          clear hG hB hs hv ht hx hl hI hy htk cells hc c0 c1 hmc hcm hvt hf hfo hfl hfl2 hr hxl hy2
          go_enter Try.func27, Try.ntmps27
          go_wp2_with fail
          refine HG.out.mono ?_
          rintro e w1 ⟨rfl, b1⟩
          obtain ⟨cz, ca⟩ := HCells.out w1 b1
          have HB1 := Lib.hid (HB.out.trans (b1.mono HB.out.size))
          have e0 : w1.cell? ⟨b, o + k * 2, none⟩ = some (.int .i64 (m : Int)) := (HB1.out.cell (p := ⟨b, _, none⟩) (by show b < _; omega)).trans C0.out
          clear b1
          go_wp2_with fail
          refine (HI.out _).mono ?_
          rintro e w2 ⟨rfl, rfl⟩
          go_wp2_with fail
          refine (HE.out _ HB1.out).mono ?_
          rintro e w2 ⟨rfl, rfl⟩
          go_wp2_with fail
          go_ret2
          exact ⟨rfl, HB1.out⟩
        | true =>
          have hyes : argsOkB z (opD fs (k : Int)) xs = true := by rw [hfl]; simp [argsOkB, hxl, hr, hy2]
          rw [valValueOf_yes htk hyes, hfl]
          have HV := Lib.hid (fun (w1 : World) (hw : Below w.heap.size w w1) => value_spec lo hi lo2 hi2 z (some ⟨b, o, none⟩) bo c n d m k fs f xs w1 (hv.kept (Kept.of_below hw hhi)) (by have := hw.size; omega) ht hf (hx.kept (Kept.of_below hw hhi2)) (by have := hw.size; omega) hy2 hr.symm)
          obtain ⟨v, hve⟩ : ∃ v, atA z f xs = v := ⟨_, rfl⟩
          rw [hve] at HV ⊢
          clear hG hB hs hv ht hx hl hI hy htk cells hc c0 c1 hmc hcm hvt hf hfo hfl hfl2 hr hxl hy2 hyes hve
          go_enter Try.func27, Try.ntmps27
          go_wp2_with fail
          refine HG.out.mono ?_
          rintro e w1 ⟨rfl, b1⟩
          obtain ⟨cz, ca⟩ := HCells.out w1 b1
          have HB1 := Lib.hid (HB.out.trans (b1.mono HB.out.size))
          have e0 : w1.cell? ⟨b, o + k * 2, none⟩ = some (.int .i64 (m : Int)) := (HB1.out.cell (p := ⟨b, _, none⟩) (by show b < _; omega)).trans C0.out
          clear b1
          go_wp2_with fail
          refine (HI.out _).mono ?_
          rintro e w2 ⟨rfl, rfl⟩
          go_wp2_with fail
          refine (HE.out _ HB1.out).mono ?_
          rintro e w2 ⟨rfl, rfl⟩
          go_wp2_with fail
          refine (HV.out _ HB1.out).mono ?_
          rintro e w2 ⟨rfl, b2⟩
          have HB2 := Lib.hid (HB1.out.trans (b2.mono HB1.out.size))
          clear b2
          go_wp2_with fail
          go_ret2
          exact ⟨rfl, HB2.out⟩
      · rw [valValueOf_args (by rw [hfl]; exact argsOk_len (by rw [hxl, hr]; exact hlen))]
        have he : ((m : Int) == r) = false := by rw [beq_eq_false_iff_ne]; exact hlen
        have he2 : ((m : Int) != r) = true := by rw [bne_iff_ne]; exact hlen
        clear hG hB hs hv ht hx hl hI hy htk cells hc c0 c1 hmc hcm hvt hf hfo hfl hfl2 hr hxl hlen
        go_enter Try.func27, Try.ntmps27
        go_wp2_with fail
        refine HG.out.mono ?_
        rintro e w1 ⟨rfl, b1⟩
        obtain ⟨cz, ca⟩ := HCells.out w1 b1
        have HB1 := Lib.hid (HB.out.trans (b1.mono HB.out.size))
        have e0 : w1.cell? ⟨b, o + k * 2, none⟩ = some (.int .i64 r) := (HB1.out.cell (p := ⟨b, _, none⟩) (by show b < _; omega)).trans C0.out
        clear b1
        go_wp2_with fail
        refine (HI.out _).mono ?_
        rintro e w2 ⟨rfl, rfl⟩
        go_wp2_with fail
        go_ret2
        exact ⟨rfl, HB1.out⟩

end Go.Proofs.Ythgggoodceogkaa
