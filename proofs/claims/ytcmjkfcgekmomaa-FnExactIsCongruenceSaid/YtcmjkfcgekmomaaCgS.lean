/-
  Contracts: spec.l6Is, IsCongruence, l9Takes. Conditions: the bounds that each theorem names.
-/
import Derived.Test.YtcmjkfcgekmomaaCgO
import Derived.Test.YtcmjkfcgekmomaaPshS
import Derived.Test.YtcmjkfcgekmomaaSmL
namespace Go.Proofs.Ytcmjkfcgekmomaa
open Go.RowKit
set_option linter.unusedVariables false
set_option linter.unusedSimpArgs false

set_option maxHeartbeats 1000000 in
theorem l6Is_any (lo hi : Nat) (z : Int) (ao : Option Addr) (c n : Nat) (fs : List OpD) (lo2 hi2 : Nat) (bo : Option Addr) (d m : Nat) (xs : List Int) (w : World) (hv : OView w lo hi ao n fs) (hhi : hi ≤ w.heap.size) (hok : algOkB z fs = true)
    (hx : IView w lo2 hi2 bo m xs) (hhi2 : hi2 ≤ w.heap.size) (hm : m ≤ maxLen) :
    Calls Try.prog 68 #[.agg #[.int .i64 z, .slice ao n c], .slice bo m d] w fun e w' => e = .returned (.bool (cngB z fs xs)) ∧ Below w.heap.size w w' := by
  obtain ⟨⟨z1, z8⟩, _, _⟩ := algOkB_of hok
  have hB := below_alloc w (.cells #[.int .i64 z, .slice ao n c] 31)
  have HB := Lib.hid hB
  have hX0 : (w.alloc (.cells #[.int .i64 z, .slice ao n c] 31)).heap[w.heap.size]? = some (.cells #[.int .i64 z, .slice ao n c] 31 (0, 0)) := heap_alloc_new _ _
  obtain ⟨cz0, ca0, _⟩ := box_cells hX0
  have hx1 := hx.kept (Kept.of_below hB hhi2)
  have HP := Lib.hid (part6_q lo2 hi2 z bo d m xs _ _ hx1 ⟨0, rfl⟩ hm (inB_yes z1 z8))
  have hpo : pOfB z xs = partB z xs := by simp [pOfB, inB_yes z1 z8]
  rw [hpo] at HP
  cases hpt : partB z xs with
  | false =>
    rw [cngB_part hpt]
    simp only [hpt] at HP
    clear hv hx hm hok hB hX0 hx1 hpo hpt z1 z8
    go_enter Try.func68, Try.ntmps68
    go_wp2_with fail
    refine HP.out.mono ?_
    rintro e w1 ⟨rfl, q1⟩
    have HB1 := Lib.hid (below_drawn HB.out q1)
    clear q1
    go_wp2_with fail
    go_ret
    exact ⟨rfl, HB1.out⟩
  | true =>
    obtain ⟨zn, rfl⟩ : ∃ zn : Nat, z = (zn : Int) := ⟨z.toNat, by omega⟩
    have hmz : m = zn := by have := (partB_of hpt).1; have := hx.1; omega
    have hcc : decide (lstP zn (pushF zn fs (gI xs)) = xs) = cngB (zn : Int) fs xs := by
      rw [cngB_comp hok hpt, ← push_iff (by omega) (by omega) hok hpt, Bool.eq_iff_iff]
      simp
    obtain ⟨b, hb⟩ : ∃ b, cngB (zn : Int) fs xs = b := ⟨_, rfl⟩
    rw [hb] at hcc ⊢
    have HPu := Lib.hid (fun (W : World) (hW : Below w.heap.size w W) => l6Push_any lo hi zn n c lo2 hi2 m d ao bo fs xs W (hv.kept (Kept.of_below hW hhi)) (Nat.le_trans hhi hW.size) hok (hx.kept (Kept.of_below hW hhi2)) (Nat.le_trans hhi2 hW.size) hmz (part_bd hpt))
    have HSm := Lib.hid (fun (W0 W : World) (g e_ : Nat) (hW : Below w.heap.size w W0) (ho : W.ownsRow W0.heap.size 3 1 (.slice (some ⟨g, 0, none⟩) zn e_) zn ((lstP zn (pushF zn fs (gI xs))).map (Value.int .i64))) (b2 : Below W0.heap.size W0 W) =>
      l1Same_any W0.heap.size W.heap.size lo2 hi2 (some ⟨g, 0, none⟩) bo e_ zn d m (lstP zn (pushF zn fs (gI xs))) xs W (OwnsInts.of_row ho).view (hx.kept (Kept.of_below (hW.trans (b2.mono hW.size)) hhi2)) (by unfold maxLen; omega) hm)
    rw [hcc] at HSm
    unfold NewInts at HPu
    simp only [hpt] at HP
    clear hv hx hm hok hB hX0 hx1 hpo hpt z1 z8 hcc hb hmz
    go_enter Try.func68, Try.ntmps68
    go_wp2_with fail
    refine HP.out.mono ?_
    rintro e w1 ⟨rfl, q1⟩
    have HB1 := Lib.hid (below_drawn HB.out q1)
    have cz : w1.cell? ⟨w.heap.size, 0, none⟩ = some (.int .i64 (zn : Int)) := by obtain ⟨q, rfl⟩ := q1; exact cz0
    have ca : w1.cell? ⟨w.heap.size, 1, none⟩ = some (.slice ao n c) := by obtain ⟨q, rfl⟩ := q1; exact ca0
    clear q1 cz0 ca0
    go_wp2_with fail
    refine (HPu.out _ HB1.out).mono ?_
    rintro e w2 ⟨g, e_, rfl, ho, b2⟩
    have HO := Lib.hid ho
    have HB2' := Lib.hid b2
    have HB2 := Lib.hid (HB1.out.trans (b2.mono HB1.out.size))
    clear ho b2
    go_wp2_with fail
    refine (HSm.out _ _ _ _ HB1.out HO.out HB2'.out).mono ?_
    rintro e w3 ⟨rfl, q3⟩
    have HB3 := Lib.hid (below_drawn HB2.out q3)
    clear q3
    go_wp2_with fail
    go_ret
    exact ⟨rfl, HB3.out⟩

set_option maxHeartbeats 1000000 in
theorem specIsCongruence (lo hi : Nat) (z : Int) (ao : Option Addr) (c n : Nat) (fs : List OpD) (lo2 hi2 : Nat) (bo : Option Addr) (d m : Nat) (xs : List Int) (w : World) (hv : OView w lo hi ao n fs) (hhi : hi ≤ w.heap.size) (hs : ∀ (j : Nat) (f : OpD), fs[j]? = some f → f.2.length ≤ maxLen)
    (hx : IView w lo2 hi2 bo m xs) (hhi2 : hi2 ≤ w.heap.size) (hm : m ≤ maxLen) :
    Calls Try.prog 30 #[.agg #[.int .i64 z, .slice ao n c], .slice bo m d] w fun e w' => e = .returned (.tuple #[.bool (valIsCongruence z fs xs).1, .bool (valIsCongruence z fs xs).2]) ∧ Below w.heap.size w w' := by
  have hB := below_alloc w (.cells #[.int .i64 z, .slice ao n c] 31)
  have HB := Lib.hid hB
  have HC1 := Lib.hid (good_any lo hi z ao c n fs _ (hv.kept (Kept.of_below hB hhi)) (Nat.le_trans hhi hB.size) hs)
  have hX0 : (w.alloc (.cells #[.int .i64 z, .slice ao n c] 31)).heap[w.heap.size]? = some (.cells #[.int .i64 z, .slice ao n c] 31 (0, 0)) := heap_alloc_new _ _
  have HX0 := Lib.hid hX0
  obtain ⟨cz0, ca0, _⟩ := box_cells hX0
  unfold valIsCongruence
  cases hal : algOkB z fs with
  | false =>
    rw [cngB_alg hal]
    simp only [hal] at HC1
    clear hv hx hs hm hB hX0 hal
    go_enter Try.func30, Try.ntmps30
    go_wp2_with fail
    refine HC1.out.mono ?_
    rintro e w1 ⟨rfl, b1⟩
    have HB1 := Lib.hid (HB.out.trans (b1.mono HB.out.size))
    clear b1
    go_wp2_with fail
    go_ret2
    exact ⟨rfl, HB1.out⟩
  | true =>
    have HC2 := Lib.hid (fun (W : World) (hW : Below w.heap.size w W) => l6Is_any lo hi z ao c n fs lo2 hi2 bo d m xs W (hv.kept (Kept.of_below hW hhi)) (Nat.le_trans hhi hW.size) hal (hx.kept (Kept.of_below hW hhi2)) (Nat.le_trans hhi2 hW.size) hm)
    obtain ⟨b, hb⟩ : ∃ b, cngB z fs xs = b := ⟨_, rfl⟩
    rw [hb] at HC2 ⊢
    simp only [hal] at HC1
    clear hv hx hs hm hB hX0 hal hb
    go_enter Try.func30, Try.ntmps30
    go_wp2_with fail
    refine HC1.out.mono ?_
    rintro e w1 ⟨rfl, b1⟩
    have HB1 := Lib.hid (HB.out.trans (b1.mono HB.out.size))
    obtain ⟨cz, ca, _⟩ := box_cells ((b1.block w.heap.size (by simp)).trans HX0.out)
    clear b1 cz0 ca0
    go_wp2_with fail
    refine (HC2.out _ HB1.out).mono ?_
    rintro e w2 ⟨rfl, b2⟩
    have HB2 := Lib.hid (HB1.out.trans (b2.mono HB1.out.size))
    clear b2
    go_wp2_with fail
    go_ret2
    exact ⟨rfl, HB2.out⟩

set_option maxHeartbeats 1000000 in
theorem takes9_any (lo hi : Nat) (z : Int) (ao : Option Addr) (c n : Nat) (fs : List OpD) (lo2 hi2 : Nat) (bo : Option Addr) (d m : Nat) (xs : List Int) (w : World) (hv : OView w lo hi ao n fs) (hhi : hi ≤ w.heap.size) (hs : ∀ (j : Nat) (f : OpD), fs[j]? = some f → f.2.length ≤ maxLen)
    (hx : IView w lo2 hi2 bo m xs) (hhi2 : hi2 ≤ w.heap.size) (hm : m ≤ maxLen) :
    Calls Try.prog 71 #[.agg #[.int .i64 z, .slice ao n c], .slice bo m d] w fun e w' => e = .returned (.bool (cngB z fs xs)) ∧ Below w.heap.size w w' := by
  have hB := below_alloc w (.cells #[.int .i64 z, .slice ao n c] 31)
  have HB := Lib.hid hB
  have HC1 := Lib.hid (good_any lo hi z ao c n fs _ (hv.kept (Kept.of_below hB hhi)) (Nat.le_trans hhi hB.size) hs)
  have hX0 : (w.alloc (.cells #[.int .i64 z, .slice ao n c] 31)).heap[w.heap.size]? = some (.cells #[.int .i64 z, .slice ao n c] 31 (0, 0)) := heap_alloc_new _ _
  have HX0 := Lib.hid hX0
  obtain ⟨cz0, ca0, _⟩ := box_cells hX0
  cases hal : algOkB z fs with
  | false =>
    rw [cngB_alg hal]
    simp only [hal] at HC1
    clear hv hx hs hm hB hX0 hal
    go_enter Try.func71, Try.ntmps71
    go_wp2_with fail
    refine HC1.out.mono ?_
    rintro e w1 ⟨rfl, b1⟩
    have HB1 := Lib.hid (HB.out.trans (b1.mono HB.out.size))
    clear b1
    go_wp2_with fail
    go_ret
    exact ⟨rfl, HB1.out⟩
  | true =>
    have HC2 := Lib.hid (fun (W : World) (hW : Below w.heap.size w W) => l6Is_any lo hi z ao c n fs lo2 hi2 bo d m xs W (hv.kept (Kept.of_below hW hhi)) (Nat.le_trans hhi hW.size) hal (hx.kept (Kept.of_below hW hhi2)) (Nat.le_trans hhi2 hW.size) hm)
    obtain ⟨b, hb⟩ : ∃ b, cngB z fs xs = b := ⟨_, rfl⟩
    rw [hb] at HC2 ⊢
    simp only [hal] at HC1
    clear hv hx hs hm hB hX0 hal hb
    go_enter Try.func71, Try.ntmps71
    go_wp2_with fail
    refine HC1.out.mono ?_
    rintro e w1 ⟨rfl, b1⟩
    have HB1 := Lib.hid (HB.out.trans (b1.mono HB.out.size))
    obtain ⟨cz, ca, _⟩ := box_cells ((b1.block w.heap.size (by simp)).trans HX0.out)
    clear b1 cz0 ca0
    go_wp2_with fail
    refine (HC2.out _ HB1.out).mono ?_
    rintro e w2 ⟨rfl, b2⟩
    have HB2 := Lib.hid (HB1.out.trans (b2.mono HB1.out.size))
    clear b2
    go_wp2_with fail
    go_ret
    exact ⟨rfl, HB2.out⟩

end Go.Proofs.Ytcmjkfcgekmomaa
