/-
  Contracts: spec.l6Join, IsPartition, IsFiner, MeetPartitions, JoinPartitions. Conditions: the bounds that each theorem names.
-/
import Derived.Test.YtgejpkpilnfddaaPartO
namespace Go.Proofs.Ytgejpkpilnfddaa
open Go.RowKit
set_option linter.unusedVariables false
set_option linter.unusedSimpArgs false

set_option maxHeartbeats 2000000 in
theorem join6_any (lo hi lo2 hi2 : Nat) (ao bo : Option Addr) (c m c2 m2 : Nat) (xs ys : List Int) (w : World) (hx : IView w lo hi ao m xs) (hhi : hi ≤ w.heap.size) (hy : IView w lo2 hi2 bo m2 ys) (hhi2 : hi2 ≤ w.heap.size) (hm : m = m2) (h1 : 1 ≤ m) (h8 : m ≤ 8) (hb : ∀ k, k < m → 0 ≤ gI ys k ∧ gI ys k < m) :
    Calls Try.prog 75 #[.slice ao m c, .slice bo m2 c2] w fun e w' => NewInts w w' m (lstP m (joinA (gI xs) (gI ys) m)) e := by
  subst hm
  have hlx := hx.1
  have HOwn := Lib.hid (own_ints lo hi ao m c xs w hx h1 (by omega))
  obtain ⟨b, o, rfl, _, hbh, hc⟩ := hy.at_ (show 0 < m by omega)
  have hl := hy.1
  have HC0 : Hid (∀ j, j < m → w.cell? ⟨b, o + j, none⟩ = some (.int .i64 (gI ys j))) := fun j hj => hc j _ (get_gI hl hj)
  have hxs : lstP m (gI xs) = xs := by rw [← hlx]; exact lstP_gI xs
  have HXs := Lib.hid hxs
  have HBd := Lib.hid hb
  have hbl : b < w.heap.size := by omega
  clear hx hy hc hl hlx hxs hb hhi hhi2
  unfold NewInts at HOwn ⊢
  go_enter Try.func75, Try.ntmps75
  go_wp2_with fail
  refine HOwn.out.mono ?_
  rintro e w1 ⟨g1, d1, rfl, ho, b1⟩
  have HO1 : Hid (w1.ownsRow w.heap.size 3 1 (.slice (some ⟨g1, 0, none⟩) m d1) m ((lstP m (joinA (gI xs) (gI ys) 0)).map (Value.int .i64))) := by
    unfold Hid
    rw [show joinA (gI xs) (gI ys) 0 = gI xs from rfl, HXs.out]
    exact ho
  have HB1 := Lib.hid b1
  clear ho b1
  go_wp2_with fail
  go_loopw [5, 6] (fun v i wr => ∃ k g d : Nat, k ≤ m ∧ i = .int .i64 (k : Int) ∧ v = .slice (some ⟨g, 0, none⟩) m d ∧ Hid (wr.ownsRow w.heap.size 3 1 (.slice (some ⟨g, 0, none⟩) m d) m ((lstP m (joinA (gI xs) (gI ys) k)).map (Value.int .i64))) ∧ Hid (Below w.heap.size w wr)) (fun _ i _ => m - (intOf i).toNat)
  case atStart => exact ⟨0, _, _, Nat.zero_le _, rfl, rfl, HO1, HB1⟩
  case round =>
    obtain ⟨k, g, d, hk, rfl, rfl, HR, HBr⟩ := hrel
    by_cases hlt : k < m
    · have hkm : (k : Int) < (m : Int) := by omega
      have e1 : wr.cell? ⟨b, o + k, none⟩ = some (.int .i64 (gI ys k)) := (HBr.out.cell (p := ⟨b, o + k, none⟩) hbl).trans (HC0.out k hlt)
      obtain ⟨q0, q1⟩ := HBd.out k hlt
      obtain ⟨v, hv⟩ : ∃ v : Nat, gI ys k = (v : Int) := ⟨(gI ys k).toNat, by omega⟩
      rw [hv] at e1
      have hvm : v < m := by omega
      have hC := unite6_any w.heap.size wr.heap.size (some ⟨g, 0, none⟩) d m k v (lstP m (joinA (gI xs) (gI ys) k)) wr (IView.of_owns HR.out (Nat.le_refl _)) (Nat.le_refl _) hlt hvm h8
      rw [show lstP m (joinF (gI (lstP m (joinA (gI xs) (gI ys) k))) k v) = lstP m (joinA (gI xs) (gI ys) (k + 1)) from lstP_congr fun z hz => by
        show _ = joinF (joinA (gI xs) (gI ys) k) k (gI ys k).toNat z
        rw [hv, Int.toNat_natCast]
        exact joinF_congr (n := m) (fun j hj => gI_lstP _ hj) hlt hvm hz] at hC
      have HC := Lib.hid hC
      unfold NewInts at HC
      clear hC q0 q1 hv
      go_wp2_with fail
      refine HC.out.mono ?_
      rintro e w2 ⟨g2, d2, rfl, ho, b2⟩
      have HO2 := Lib.hid (ownsRow_base ho (b' := w.heap.size) HBr.out.size)
      have HB2 := Lib.hid (HBr.out.trans (b2.mono HBr.out.size))
      clear ho b2
      go_wp2_with fail
      go_roundw
      case rel => exact ⟨k + 1, g2, d2, by omega, by go_num, rfl, HO2, HB2⟩
      case measure => simp [intOf]; omega
    · have hkm : ¬ (k : Int) < (m : Int) := by omega
      obtain rfl : k = m := by omega
      go_wp2_with fail
      go_ret
      exact ⟨g, d, rfl, HR.out, HBr.out⟩

theorem specIsPartition (n : Int) (lo hi : Nat) (ao : Option Addr) (c m : Nat) (xs : List Int) (w : World) (hn : (Lit.int .i64 n).wf = true) (hx : IView w lo hi ao m xs) (hhi : hi ≤ w.heap.size) (hm : m ≤ maxLen) :
    Calls Try.prog 14 #[.int .i64 n, .slice ao m c] w fun e w' => e = .returned (.tuple #[.bool (valIsPartition n xs).1, .bool (valIsPartition n xs).2]) ∧ Below w.heap.size w w' := by
  have HS := Lib.hid (fun w => size6_any n w)
  unfold valIsPartition
  cases hb : inB 1 8 n with
  | false =>
    rw [show pOfB n xs = false by simp [pOfB, hb]]
    simp only [hb] at HS
    clear hx hm hb hn
    go_enter Try.func14, Try.ntmps14
    go_wp2_with fail
    refine (HS.out _).mono ?_
    rintro e w' ⟨rfl, rfl⟩
    go_wp2_with fail
    go_ret2
    exact ⟨rfl, Below.refl _ _⟩
  | true =>
    have HP := Lib.hid (part6_q lo hi n ao c m xs w w hx ⟨0, rfl⟩ hm hb)
    simp only [hb] at HS
    obtain ⟨p, hp⟩ : ∃ p, pOfB n xs = p := ⟨_, rfl⟩
    simp only [hp] at HP
    rw [hp]
    clear hx hm hb hn hp
    go_enter Try.func14, Try.ntmps14
    go_wp2_with fail
    refine (HS.out _).mono ?_
    rintro e w' ⟨rfl, rfl⟩
    go_wp2_with fail
    refine HP.out.mono ?_
    rintro e w1 ⟨rfl, q1⟩
    have HB := Lib.hid (below_drawn (Below.refl w.heap.size w) q1)
    clear q1
    go_wp2_with fail
    go_ret2
    exact ⟨rfl, HB.out⟩

theorem specIsFiner (n : Int) (lo hi : Nat) (ao : Option Addr) (c m : Nat) (xs : List Int) (lo2 hi2 : Nat) (bo : Option Addr) (c2 m2 : Nat) (ys : List Int) (w : World) (hn : (Lit.int .i64 n).wf = true) (hx : IView w lo hi ao m xs) (hhi : hi ≤ w.heap.size) (hm : m ≤ maxLen) (hy : IView w lo2 hi2 bo m2 ys) (hhi2 : hi2 ≤ w.heap.size) (hm2 : m2 ≤ maxLen) :
    Calls Try.prog 29 #[.int .i64 n, .slice ao m c, .slice bo m2 c2] w fun e w' => e = .returned (.tuple #[.bool (valIsFiner n xs ys).1, .bool (valIsFiner n xs ys).2]) ∧ Below w.heap.size w w' := by
  have HT := Lib.hid (two6_any lo hi lo2 hi2 n ao bo c m c2 m2 xs ys w hx hm hy hm2)
  have hl := hx.1
  have hl2 := hy.1
  unfold valIsFiner
  cases ht : twoB n xs ys with
  | false =>
    simp only [ht] at HT
    rw [Bool.false_and]
    clear hx hy hm hm2 ht hn hl hl2
    go_enter Try.func29, Try.ntmps29
    go_wp2_with fail
    refine HT.out.mono ?_
    rintro e w' ⟨rfl, q1⟩
    have HB := Lib.hid (below_drawn (Below.refl w.heap.size w) q1)
    clear q1
    go_wp2_with fail
    go_ret2
    exact ⟨rfl, HB.out⟩
  | true =>
    simp only [ht] at HT
    obtain ⟨p1, p2⟩ := twoB_of ht
    have l1 := pOfB_len p1
    have l2 := pOfB_len p2
    obtain ⟨_, r1⟩ := pOfB_of p1
    obtain ⟨_, r2⟩ := pOfB_of p2
    have k1 := (partB_of r1).2
    have k2 := (partB_of r2).2
    rw [hl] at l1 k1
    rw [hl2] at l2 k2
    have hmm : m = m2 := by omega
    have HC := Lib.hid (fun (q : Nat) => below6_any lo hi lo2 hi2 ao bo c m c2 m2 xs ys (w.drewN q) (hx.kept (Kept.drewN w q)) (hy.kept (Kept.drewN w q)) hmm (by omega) k1)
    rw [Bool.true_and, hl]
    obtain ⟨r, hr⟩ : ∃ r, finB (gI xs) (gI ys) m = r := ⟨_, rfl⟩
    simp only [hr] at HC
    rw [hr]
    clear hx hy hm hm2 ht hn hl hl2 p1 p2 l1 l2 r1 r2 k1 k2 hmm hr
    go_enter Try.func29, Try.ntmps29
    go_wp2_with fail
    refine HT.out.mono ?_
    rintro e w' ⟨rfl, q, rfl⟩
    go_wp2_with fail
    refine (HC.out _).mono ?_
    rintro e w2 ⟨rfl, q2⟩
    have HB := Lib.hid (below_drawn (below_drewN (Below.refl w.heap.size w) q) q2)
    clear q2
    go_wp2_with fail
    go_ret2
    exact ⟨rfl, HB.out⟩

theorem specMeetPartitions (n : Int) (lo hi : Nat) (ao : Option Addr) (c m : Nat) (xs : List Int) (lo2 hi2 : Nat) (bo : Option Addr) (c2 m2 : Nat) (ys : List Int) (w : World) (hn : (Lit.int .i64 n).wf = true) (hx : IView w lo hi ao m xs) (hhi : hi ≤ w.heap.size) (hm : m ≤ maxLen) (hy : IView w lo2 hi2 bo m2 ys) (hhi2 : hi2 ≤ w.heap.size) (hm2 : m2 ≤ maxLen) :
    Calls Try.prog 31 #[.int .i64 n, .slice ao m c, .slice bo m2 c2] w fun e w' => ResL w w' (valMeetPartitions n xs ys).1 (valMeetPartitions n xs ys).2 e := by
  have HT := Lib.hid (two6_any lo hi lo2 hi2 n ao bo c m c2 m2 xs ys w hx hm hy hm2)
  have hl := hx.1
  have hl2 := hy.1
  unfold ResL
  cases ht : twoB n xs ys with
  | false =>
    simp only [ht] at HT
    rw [show valMeetPartitions n xs ys = ([], false) by rw [valMeetPartitions, ht]; rfl]
    clear hx hy hm hm2 ht hn hl hl2
    go_enter Try.func31, Try.ntmps31
    go_wp2_with fail
    refine HT.out.mono ?_
    rintro e w' ⟨rfl, q, rfl⟩
    have HO0 := Lib.hid (World.ownsRow_lit (base := w.heap.size) (e := 3) (size := 1) (w.drewN q) #[] 0 (Nat.le_refl _) (by decide) rfl)
    have HB0 := Lib.hid (below_then (below_drewN (Below.refl w.heap.size w) q) (below_alloc (w.drewN q) (.cells #[] 3)))
    go_wp2_with fail
    go_ret2
    exact ⟨_, _, _, rfl, rfl, OwnsInts.of_row HO0.out, HB0.out⟩
  | true =>
    simp only [ht] at HT
    obtain ⟨p1, p2⟩ := twoB_of ht
    have l1 := pOfB_len p1
    have l2 := pOfB_len p2
    obtain ⟨_, r1⟩ := pOfB_of p1
    obtain ⟨_, r2⟩ := pOfB_of p2
    have k1 := (partB_of r1).2
    have k2 := (partB_of r2).2
    rw [hl] at l1 k1
    rw [hl2] at l2 k2
    have hmm : m = m2 := by omega
    have hv : valMeetPartitions n xs ys = (lstP m (meetF (gI xs) (gI ys)), true) := by rw [valMeetPartitions, if_pos ht, hl]
    rw [hv]
    have HC := Lib.hid (fun (q : Nat) => meet6_any lo hi lo2 hi2 ao bo c m c2 m2 xs ys (w.drewN q) (hx.kept (Kept.drewN w q)) hhi (hy.kept (Kept.drewN w q)) hhi2 hmm (by omega))
    unfold NewInts at HC
    clear hx hy hm hm2 ht hn hl hl2 p1 p2 l1 l2 r1 r2 k1 k2 hmm hv
    go_enter Try.func31, Try.ntmps31
    go_wp2_with fail
    refine HT.out.mono ?_
    rintro e w' ⟨rfl, q, rfl⟩
    go_wp2_with fail
    refine (HC.out _).mono ?_
    rintro e w2 ⟨g, d, rfl, ho, b2⟩
    have HO := Lib.hid (ownsRow_base ho (b' := w.heap.size) (Nat.le_refl _))
    have HB := Lib.hid (below_then (below_drewN (Below.refl w.heap.size w) q) b2)
    clear ho b2
    go_wp2_with fail
    go_ret2
    exact ⟨some ⟨g, 0, none⟩, m, d, rfl, (lstP_len _ _).symm, OwnsInts.of_row HO.out, HB.out⟩

theorem specJoinPartitions (n : Int) (lo hi : Nat) (ao : Option Addr) (c m : Nat) (xs : List Int) (lo2 hi2 : Nat) (bo : Option Addr) (c2 m2 : Nat) (ys : List Int) (w : World) (hn : (Lit.int .i64 n).wf = true) (hx : IView w lo hi ao m xs) (hhi : hi ≤ w.heap.size) (hm : m ≤ maxLen) (hy : IView w lo2 hi2 bo m2 ys) (hhi2 : hi2 ≤ w.heap.size) (hm2 : m2 ≤ maxLen) :
    Calls Try.prog 33 #[.int .i64 n, .slice ao m c, .slice bo m2 c2] w fun e w' => ResL w w' (valJoinPartitions n xs ys).1 (valJoinPartitions n xs ys).2 e := by
  have HT := Lib.hid (two6_any lo hi lo2 hi2 n ao bo c m c2 m2 xs ys w hx hm hy hm2)
  have hl := hx.1
  have hl2 := hy.1
  unfold ResL
  cases ht : twoB n xs ys with
  | false =>
    simp only [ht] at HT
    rw [show valJoinPartitions n xs ys = ([], false) by rw [valJoinPartitions, ht]; rfl]
    clear hx hy hm hm2 ht hn hl hl2
    go_enter Try.func33, Try.ntmps33
    go_wp2_with fail
    refine HT.out.mono ?_
    rintro e w' ⟨rfl, q, rfl⟩
    have HO0 := Lib.hid (World.ownsRow_lit (base := w.heap.size) (e := 3) (size := 1) (w.drewN q) #[] 0 (Nat.le_refl _) (by decide) rfl)
    have HB0 := Lib.hid (below_then (below_drewN (Below.refl w.heap.size w) q) (below_alloc (w.drewN q) (.cells #[] 3)))
    go_wp2_with fail
    go_ret2
    exact ⟨_, _, _, rfl, rfl, OwnsInts.of_row HO0.out, HB0.out⟩
  | true =>
    simp only [ht] at HT
    obtain ⟨p1, p2⟩ := twoB_of ht
    have l1 := pOfB_len p1
    have l2 := pOfB_len p2
    obtain ⟨_, r1⟩ := pOfB_of p1
    obtain ⟨_, r2⟩ := pOfB_of p2
    have k1 := (partB_of r1).2
    have k2 := (partB_of r2).2
    rw [hl] at l1 k1
    rw [hl2] at l2 k2
    have hmm : m = m2 := by omega
    have hv : valJoinPartitions n xs ys = (lstP m (joinA (gI xs) (gI ys) m), true) := by rw [valJoinPartitions, if_pos ht, hl]
    rw [hv]
    have HC := Lib.hid (fun (q : Nat) => join6_any lo hi lo2 hi2 ao bo c m c2 m2 xs ys (w.drewN q) (hx.kept (Kept.drewN w q)) hhi (hy.kept (Kept.drewN w q)) hhi2 hmm (by omega) (by omega) (fun k hk => by have := (okAll_get k2 (k := k) (by omega)).1; omega))
    unfold NewInts at HC
    clear hx hy hm hm2 ht hn hl hl2 p1 p2 l1 l2 r1 r2 k1 k2 hmm hv
    go_enter Try.func33, Try.ntmps33
    go_wp2_with fail
    refine HT.out.mono ?_
    rintro e w' ⟨rfl, q, rfl⟩
    go_wp2_with fail
    refine (HC.out _).mono ?_
    rintro e w2 ⟨g, d, rfl, ho, b2⟩
    have HO := Lib.hid (ownsRow_base ho (b' := w.heap.size) (Nat.le_refl _))
    have HB := Lib.hid (below_then (below_drewN (Below.refl w.heap.size w) q) b2)
    clear ho b2
    go_wp2_with fail
    go_ret2
    exact ⟨some ⟨g, 0, none⟩, m, d, rfl, (lstP_len _ _).symm, OwnsInts.of_row HO.out, HB.out⟩

end Go.Proofs.Ytgejpkpilnfddaa
