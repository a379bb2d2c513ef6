/-
  Contracts: impl.congruenceOf, impl.IsCongruence. Conditions: the bounds that each theorem names.
-/
import Derived.Test.YtcmjkfcgekmomaaCmpI
import Derived.Test.YtcmjkfcgekmomaaPartL
namespace Go.Proofs.Ytcmjkfcgekmomaa
open Go.RowKit
set_option linter.unusedVariables false
set_option linter.unusedSimpArgs false

theorem gI_bd {z : Nat} {f : OpD} (hz : 1 ≤ z) (h : opOkB (z : Int) f = true) (j : Nat) : 0 ≤ gI f.2 j ∧ gI f.2 j < z := by
  by_cases hj : j < f.2.length
  · exact tab_bd h hj
  · have : gI f.2 j = 0 := by unfold gI; rw [List.getD_eq_getElem?_getD, List.getElem?_eq_none (by omega)]; rfl
    omega
theorem compK_congr {z : Nat} {fs : List OpD} {p p' : Nat → Int} (hz : 1 ≤ z) (h8 : z ≤ 8) (hok : algOkB (z : Int) fs = true) (h : ∀ x, x < z → p x = p' x) : ∀ m, m ≤ z → compK z fs p m = compK z fs p' m
  | 0, _ => rfl
  | m + 1, hm => by
    rw [compK, compK, compK_congr hz h8 hok h m (by omega), h m (by omega)]
    congr 1
    rw [Bool.eq_iff_iff, List.all_eq_true, List.all_eq_true]
    have key : ∀ q ∈ alT z fs (p' m).toNat m fs.length, okT p q = okT p' q := fun q hq => by
      obtain ⟨k, hk, hq⟩ := alT_mem.1 hq
      obtain ⟨j, hj, hq⟩ := opT_mem.1 hq
      obtain ⟨i, hi, _, rfl⟩ := plT_mem.1 hq
      have hko := opAt_ok hok hk
      obtain ⟨a0, a1⟩ := gI_bd hz hko i
      obtain ⟨b0, b1⟩ := gI_bd hz hko (i + m * z ^ j - (p' m).toNat * z ^ j)
      unfold okT prT
      rw [f8_nat a0 (by omega), f8_nat b0 (by omega), h _ (by omega), h _ (by omega)]
    constructor
    · intro h1 q hq
      rw [← key q hq]; exact h1 q hq
    · intro h1 q hq
      rw [key q hq]; exact h1 q hq

/-- An algebra is valid and a list a congruence of it. -/
def cngB (z : Int) (fs : List OpD) (xs : List Int) : Bool := algOkB z fs && (partB z xs && compK z.toNat fs (gI xs) z.toNat)
theorem cngB_alg {z : Int} {fs : List OpD} {xs : List Int} (h : algOkB z fs = false) : cngB z fs xs = false := by simp [cngB, h]
theorem cngB_part {z : Int} {fs : List OpD} {xs : List Int} (h : partB z xs = false) : cngB z fs xs = false := by simp [cngB, h]
theorem cngB_comp {z : Nat} {fs : List OpD} {xs : List Int} (h : algOkB (z : Int) fs = true) (h2 : partB (z : Int) xs = true) : cngB (z : Int) fs xs = compK z fs (gI xs) z := by simp [cngB, h, h2]
theorem cngB_of {z : Int} {fs : List OpD} {xs : List Int} (h : cngB z fs xs = true) : algOkB z fs = true ∧ partB z xs = true ∧ compK z.toNat fs (gI xs) z.toNat = true := by
  simpa [cngB] using h

set_option maxHeartbeats 2000000 in
set_option maxRecDepth 100000 in
theorem congOf_any (lo hi : Nat) (z : Int) (ao : Option Addr) (c n : Nat) (fs : List OpD) (lo2 hi2 : Nat) (bo : Option Addr) (d m : Nat) (xs : List Int) (w : World) (hv : OView w lo hi ao n fs) (hhi : hi ≤ w.heap.size) (hs : ∀ (j : Nat) (f : OpD), fs[j]? = some f → f.2.length ≤ maxLen)
    (hx : IView w lo2 hi2 bo m xs) (hhi2 : hi2 ≤ w.heap.size) (hm : m ≤ maxLen) :
    Calls Try.prog 70 #[.agg #[.int .i64 z, .slice ao n c], .slice bo m d] w fun e w' => ResP w w' (cngB z fs xs) xs e := by
  obtain ⟨w0, hw0⟩ : ∃ w0, w0 = (w.alloc (.cells #[.int .i64 z, .slice ao n c] 31)).alloc (.cells (arrV fun _ => 0) 70) := ⟨_, rfl⟩
  have HX0 : Hid (w0.heap[w.heap.size]? = some (.cells #[.int .i64 z, .slice ao n c] 31 (0, 0))) := by
    unfold Hid; rw [hw0, Below.heap_alloc _ _ _ (by simp)]; exact heap_alloc_new _ _
  have HR0 : Hid (ArrAt w0 (w.heap.size + 1) fun _ => 0) := by
    unfold Hid; rw [hw0]
    have h := ArrAt.new (w.alloc (.cells #[.int .i64 z, .slice ao n c] 31)) fun _ => 0
    simp only [World.size_alloc] at h
    exact h
  have HB0 : Hid (Below w.heap.size w w0) := by unfold Hid; rw [hw0]; exact below_then (below_alloc _ _) (below_alloc _ _)
  have hz0 : w.heap.size + 1 < w0.heap.size := HR0.out.lt
  obtain ⟨cz0, ca0, _⟩ := box_cells HX0.out
  have HC1 := Lib.hid (fun (W : World) (hW : Below w.heap.size w W) => isAlg_any lo hi z ao c n fs W (hv.kept (Kept.of_below hW hhi)) (Nat.le_trans hhi hW.size) hs)
  have HC2 := Lib.hid (fun (W : World) (hW : Below w.heap.size w W) => partOf_any z m d bo xs lo2 hi2 W (hx.kept (Kept.of_below hW hhi2)) (Nat.le_trans hhi2 hW.size) hm)
  rw [hw0] at cz0 ca0
  have HV := Lib.hid hv
  clear hv hx hs hm
  cases hal : algOkB z fs with
  | false =>
    rw [cngB_alg hal]
    simp only [hal] at HC1
    clear hal
    go_enter Try.func70, Try.ntmps70
    go_wp2_with fail
    rw [show (w.alloc (.cells #[.int .i64 z, .slice ao n c] 31)).alloc (.cells #[.int .i64 0, .int .i64 0, .int .i64 0, .int .i64 0, .int .i64 0, .int .i64 0, .int .i64 0, .int .i64 0] 70) = w0 from hw0.symm]
    clear hw0
    refine (HC1.out _ HB0.out).mono ?_
    rintro e w1 ⟨rfl, q1⟩
    have HR1 := Lib.hid (HR0.out.below q1 (by omega))
    have HB1 := Lib.hid (HB0.out.trans (q1.mono HB0.out.size))
    have hz1 : w.heap.size + 1 < w1.heap.size := HR1.out.lt
    clear q1
    have HN := Lib.hid (HR1.out.setRow (f' := fun _ => 0))
    have HN2 := Lib.hid (below_setRow HB1.out (show w.heap.size ≤ w.heap.size + 1 by omega) (arrV fun _ => 0))
    go_wp2_with (refine st8 (f' := fun _ => 0) HR1.out rfl _ _ rfl rfl rfl ?_)
    refine bodyPost_ret (ret8b rfl _ _ _ _ rfl HN.out) rfl ⟨?_, HN2.out⟩
    rw [parF_no]; rfl
  | true =>
    obtain ⟨⟨z1, z8⟩, _, _⟩ := algOkB_of hal
    simp only [hal] at HC1
    have hpo : pOfB z xs = partB z xs := by simp [pOfB, inB_yes z1 z8]
    rw [hpo] at HC2
    unfold ResP at HC2
    obtain ⟨g, hg⟩ : ∃ g, parF (partB z xs) xs = g := ⟨_, rfl⟩
    rw [hg] at HC2
    cases hpt : partB z xs with
    | false =>
      rw [cngB_part hpt]
      simp only [hpt] at HC2
      clear hal hpt hpo hg z1 z8
      go_enter Try.func70, Try.ntmps70
      go_wp2_with fail
      rw [show (w.alloc (.cells #[.int .i64 z, .slice ao n c] 31)).alloc (.cells #[.int .i64 0, .int .i64 0, .int .i64 0, .int .i64 0, .int .i64 0, .int .i64 0, .int .i64 0, .int .i64 0] 70) = w0 from hw0.symm]
      clear hw0
      refine (HC1.out _ HB0.out).mono ?_
      rintro e w1 ⟨rfl, q1⟩
      have HR1 := Lib.hid (HR0.out.below q1 (by omega))
      have HB1 := Lib.hid (HB0.out.trans (q1.mono HB0.out.size))
      have hz1 : w.heap.size + 1 < w1.heap.size := HR1.out.lt
      have HX1 := Lib.hid (q1.block w.heap.size (by omega) |>.trans HX0.out)
      obtain ⟨cz, ca, _⟩ := box_cells HX1.out
      clear q1
      go_wp2_with fail
      refine (HC2.out _ HB1.out).mono ?_
      rintro e w2 ⟨rfl, q2⟩
      have HR2 := Lib.hid (HR1.out.below q2 (by omega))
      have HB2 := Lib.hid (HB1.out.trans (q2.mono HB1.out.size))
      have HX2 := Lib.hid ((q2.block w.heap.size (by omega)).trans HX1.out)
      have HA2 := Lib.hid (ArrAt.new w2 fun _ => 0)
      have hz2 : w.heap.size + 1 < w2.heap.size := HR2.out.lt
      clear q2 cz ca
      obtain ⟨w3, hw3⟩ : ∃ w3, w3 = (w2.alloc (.cells (arrV fun _ => 0) 70)).setRow w2.heap.size (arrV g) := ⟨_, rfl⟩
      have HA3 : Hid (ArrAt w3 w2.heap.size g) := by unfold Hid; rw [hw3]; exact HA2.out.setRow
      have HR3 : Hid (ArrAt w3 (w.heap.size + 1) fun _ => 0) := by unfold Hid; rw [hw3]; exact (HR2.out.alloc _).setRowOther (by omega) _
      have HB3 : Hid (Below w.heap.size w w3) := by unfold Hid; rw [hw3]; exact below_setRow (below_then HB2.out (below_alloc w2 _)) (by omega) _
      have HX3 : Hid (w3.heap[w.heap.size]? = some (.cells #[.int .i64 z, .slice ao n c] 31 (0, 0))) := by
        unfold Hid; rw [hw3]
        exact ((below_setRow (below_alloc w2 (.cells (arrV fun _ => 0) 70)) (Nat.le_refl _) (arrV g)).block _ (by omega)).trans HX2.out
      obtain ⟨cz, ca, _⟩ := box_cells HX3.out
      have hz3 : w2.heap.size < w3.heap.size := HA3.out.lt
      have HW3 := Lib.hid hw3
      clear hw3
      have HN := Lib.hid (HR3.out.setRow (f' := fun _ => 0))
      have HN2 := Lib.hid (below_setRow HB3.out (show w.heap.size ≤ w.heap.size + 1 by omega) (arrV fun _ => 0))
      go_wp2_with (first | (refine st8 (w := w2.alloc (.cells (arrV fun _ => 0) 70)) HA2.out rfl _ _ rfl rfl rfl ?_; rw [← HW3.out]) | (refine st8 (f' := fun _ => 0) HR3.out rfl _ _ rfl rfl rfl ?_))
      refine bodyPost_ret (ret8b rfl _ _ _ _ rfl HN.out) rfl ⟨?_, HN2.out⟩
      rw [parF_no]; rfl
    | true =>
      obtain ⟨zn, rfl⟩ : ∃ zn : Nat, z = (zn : Int) := ⟨z.toNat, by omega⟩
      have hge : g = extP xs := by rw [← hg, hpt, parF_yes]
      have hlz : xs.length = zn := by have := (partB_of hpt).1; omega
      have hcc : compK zn fs g zn = cngB (zn : Int) fs xs := by
        rw [cngB_comp hal hpt]
        exact compK_congr (by omega) (by omega) hal (fun x hx => by rw [hge]; exact extP_lt (by omega)) zn (Nat.le_refl _)
      have HC3 := Lib.hid (fun (W : World) (hW : Below w.heap.size w W) => isComp_any lo hi zn n c ao fs g W (HV.out.kept (Kept.of_below hW hhi)) (Nat.le_trans hhi hW.size) hal (fun x hx => by rw [hge, extP_lt (by omega)]; exact part_bd hpt x hx))
      rw [hcc] at HC3
      have HGe := Lib.hid hge
      simp only [hpt] at HC2
      obtain ⟨b, hb⟩ : ∃ b, cngB (zn : Int) fs xs = b := ⟨_, rfl⟩
      rw [hb] at HC3 ⊢
      clear hal hpt hpo hg hb z1 z8 hge hlz hcc
      go_enter Try.func70, Try.ntmps70
      go_wp2_with fail
      rw [show (w.alloc (.cells #[.int .i64 (zn : Int), .slice ao n c] 31)).alloc (.cells #[.int .i64 0, .int .i64 0, .int .i64 0, .int .i64 0, .int .i64 0, .int .i64 0, .int .i64 0, .int .i64 0] 70) = w0 from hw0.symm]
      clear hw0
      refine (HC1.out _ HB0.out).mono ?_
      rintro e w1 ⟨rfl, q1⟩
      have HR1 := Lib.hid (HR0.out.below q1 (by omega))
      have HB1 := Lib.hid (HB0.out.trans (q1.mono HB0.out.size))
      have hz1 : w.heap.size + 1 < w1.heap.size := HR1.out.lt
      have HX1 := Lib.hid (q1.block w.heap.size (by omega) |>.trans HX0.out)
      obtain ⟨cz, ca, _⟩ := box_cells HX1.out
      clear q1
      go_wp2_with fail
      refine (HC2.out _ HB1.out).mono ?_
      rintro e w2 ⟨rfl, q2⟩
      have HR2 := Lib.hid (HR1.out.below q2 (by omega))
      have HB2 := Lib.hid (HB1.out.trans (q2.mono HB1.out.size))
      have HX2 := Lib.hid ((q2.block w.heap.size (by omega)).trans HX1.out)
      have HA2 := Lib.hid (ArrAt.new w2 fun _ => 0)
      have hz2 : w.heap.size + 1 < w2.heap.size := HR2.out.lt
      clear q2 cz ca
      obtain ⟨w3, hw3⟩ : ∃ w3, w3 = (w2.alloc (.cells (arrV fun _ => 0) 70)).setRow w2.heap.size (arrV g) := ⟨_, rfl⟩
      have HA3 : Hid (ArrAt w3 w2.heap.size g) := by unfold Hid; rw [hw3]; exact HA2.out.setRow
      have HR3 : Hid (ArrAt w3 (w.heap.size + 1) fun _ => 0) := by unfold Hid; rw [hw3]; exact (HR2.out.alloc _).setRowOther (by omega) _
      have HB3 : Hid (Below w.heap.size w w3) := by unfold Hid; rw [hw3]; exact below_setRow (below_then HB2.out (below_alloc w2 _)) (by omega) _
      have HX3 : Hid (w3.heap[w.heap.size]? = some (.cells #[.int .i64 (zn : Int), .slice ao n c] 31 (0, 0))) := by
        unfold Hid; rw [hw3]
        exact ((below_setRow (below_alloc w2 (.cells (arrV fun _ => 0) 70)) (Nat.le_refl _) (arrV g)).block _ (by omega)).trans HX2.out
      obtain ⟨cz, ca, _⟩ := box_cells HX3.out
      have hz3 : w2.heap.size < w3.heap.size := HA3.out.lt
      have HW3 := Lib.hid hw3
      clear hw3
      go_wp2_with (first | (refine st8 (w := w2.alloc (.cells (arrV fun _ => 0) 70)) HA2.out rfl _ _ rfl rfl rfl ?_; rw [← HW3.out]) | (refine ld8w HA3.out rfl _ rfl rfl ?_))
      refine (HC3.out _ HB3.out).mono ?_
      rintro e w4 ⟨rfl, q4⟩
      have HR4 := Lib.hid (HR3.out.below q4 (by omega))
      have HA4 := Lib.hid (HA3.out.below q4 hz3)
      have HB4 := Lib.hid (HB3.out.trans (q4.mono HB3.out.size))
      clear q4 cz ca HW3
      cases b with
      | false =>
        have HN := Lib.hid (HR4.out.setRow (f' := fun _ => 0))
        have HN2 := Lib.hid (below_setRow HB4.out (show w.heap.size ≤ w.heap.size + 1 by omega) (arrV fun _ => 0))
        go_wp2_with (refine st8 (f' := fun _ => 0) HR4.out rfl _ _ rfl rfl rfl ?_)
        refine bodyPost_ret (ret8b rfl _ _ _ _ rfl HN.out) rfl ⟨?_, HN2.out⟩
        rw [parF_no]; rfl
      | true =>
        have HN := Lib.hid (HR4.out.setRow (f' := g))
        have HN2 := Lib.hid (below_setRow HB4.out (show w.heap.size ≤ w.heap.size + 1 by omega) (arrV g))
        go_wp2_with (first | (refine ld8 HA4.out rfl _ rfl rfl ?_) | (refine st8 HR4.out rfl _ _ rfl rfl rfl ?_))
        refine bodyPost_ret (ret8b rfl _ _ _ _ rfl HN.out) rfl ⟨?_, HN2.out⟩
        rw [parF_yes, HGe.out]; rfl

def valIsCongruence (z : Int) (fs : List OpD) (xs : List Int) : Bool × Bool := (cngB z fs xs, algOkB z fs)

set_option maxHeartbeats 1000000 in
set_option maxRecDepth 100000 in
theorem implIsCongruence (lo hi : Nat) (z : Int) (ao : Option Addr) (c n : Nat) (fs : List OpD) (lo2 hi2 : Nat) (bo : Option Addr) (d m : Nat) (xs : List Int) (w : World) (hv : OView w lo hi ao n fs) (hhi : hi ≤ w.heap.size) (hs : ∀ (j : Nat) (f : OpD), fs[j]? = some f → f.2.length ≤ maxLen)
    (hx : IView w lo2 hi2 bo m xs) (hhi2 : hi2 ≤ w.heap.size) (hm : m ≤ maxLen) :
    Calls Try.prog 31 #[.agg #[.int .i64 z, .slice ao n c], .slice bo m d] w fun e w' => e = .returned (.tuple #[.bool (valIsCongruence z fs xs).1, .bool (valIsCongruence z fs xs).2]) ∧ Below w.heap.size w w' := by
  have hB := below_alloc w (.cells #[.int .i64 z, .slice ao n c] 31)
  have HB := Lib.hid hB
  have HC1 := Lib.hid (isAlg_any lo hi z ao c n fs _ (hv.kept (Kept.of_below hB hhi)) (Nat.le_trans hhi hB.size) hs)
  have HC2 := Lib.hid (fun (W : World) (hW : Below w.heap.size w W) => congOf_any lo hi z ao c n fs lo2 hi2 bo d m xs W (hv.kept (Kept.of_below hW hhi)) (Nat.le_trans hhi hW.size) hs (hx.kept (Kept.of_below hW hhi2)) (Nat.le_trans hhi2 hW.size) hm)
  have hX0 : (w.alloc (.cells #[.int .i64 z, .slice ao n c] 31)).heap[w.heap.size]? = some (.cells #[.int .i64 z, .slice ao n c] 31 (0, 0)) := heap_alloc_new _ _
  have HX0 := Lib.hid hX0
  obtain ⟨cz0, ca0, _⟩ := box_cells hX0
  unfold valIsCongruence
  obtain ⟨b, hb⟩ : ∃ b, cngB z fs xs = b := ⟨_, rfl⟩
  unfold ResP at HC2
  obtain ⟨g, hg⟩ : ∃ g, parF b xs = g := ⟨_, rfl⟩
  simp only [hb, hg] at HC2
  clear hv hx hs hm hB hX0 hg
  cases hal : algOkB z fs with
  | false =>
    rw [cngB_alg hal]
    simp only [hal] at HC1
    clear hal hb
    go_enter Try.func31, Try.ntmps31
    go_wp2_with fail
    refine HC1.out.mono ?_
    rintro e w1 ⟨rfl, b1⟩
    have HB1 := Lib.hid (HB.out.trans (b1.mono HB.out.size))
    clear b1
    go_wp2_with fail
    go_ret2
    exact ⟨rfl, HB1.out⟩
  | true =>
    rw [hb]
    simp only [hal] at HC1
    clear hal hb
    go_enter Try.func31, Try.ntmps31
    go_wp2_with fail
    refine HC1.out.mono ?_
    rintro e w1 ⟨rfl, b1⟩
    have HB1 := Lib.hid (HB.out.trans (b1.mono HB.out.size))
    obtain ⟨cz, ca, _⟩ := box_cells ((b1.block w.heap.size (by simp)).trans HX0.out)
    clear b1 cz0 ca0
    go_wp2_with fail
    refine (HC2.out _ HB1.out).mono ?_
    rintro e w2 ⟨rfl, b2⟩
    have HB2 := Lib.hid (HB1.out.trans (b2.mono HB1.out.size))
    have HA2 := Lib.hid (ArrAt.new w2 fun _ => 0)
    have HB3 := Lib.hid (below_setRow (below_then HB2.out (below_alloc w2 (.cells (arrV fun _ => 0) 70))) HB2.out.size (arrV g))
    clear b2 cz ca
    go_wp2_with (refine st8 (w := w2.alloc (.cells (arrV fun _ => 0) 70)) HA2.out rfl _ _ rfl rfl rfl ?_)
    go_ret2
    exact ⟨rfl, HB3.out⟩

end Go.Proofs.Ytcmjkfcgekmomaa
