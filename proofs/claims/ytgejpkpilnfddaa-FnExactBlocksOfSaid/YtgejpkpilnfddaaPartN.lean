/-
  Contracts: impl.IsPartition, IsFiner, MeetPartitions, JoinPartitions. Conditions: the bounds that each theorem names.
-/
import Derived.Test.YtgejpkpilnfddaaPartL
namespace Go.Proofs.Ytgejpkpilnfddaa
open Go.RowKit
set_option linter.unusedVariables false
set_option linter.unusedSimpArgs false

def valIsPartition (n : Int) (xs : List Int) : Bool × Bool := (pOfB n xs, inB 1 8 n)
def twoB (n : Int) (xs ys : List Int) : Bool := pOfB n xs && pOfB n ys
def valIsFiner (n : Int) (xs ys : List Int) : Bool × Bool := (twoB n xs ys && finB (gI xs) (gI ys) xs.length, twoB n xs ys)
def valMeetPartitions (n : Int) (xs ys : List Int) : List Int × Bool := if twoB n xs ys = true then (lstP xs.length (meetF (gI xs) (gI ys)), true) else ([], false)
def valJoinPartitions (n : Int) (xs ys : List Int) : List Int × Bool := if twoB n xs ys = true then (lstP xs.length (joinA (gI xs) (gI ys) xs.length), true) else ([], false)
theorem pOfB_of {n : Int} {xs : List Int} (h : pOfB n xs = true) : (1 ≤ n ∧ n ≤ 8) ∧ partB n xs = true := by
  simp only [pOfB, inB, Bool.and_eq_true, decide_eq_true_eq] at h
  exact h
theorem pOfB_len {n : Int} {xs : List Int} (h : pOfB n xs = true) : (xs.length : Int) = n ∧ 1 ≤ xs.length ∧ xs.length ≤ 8 := by
  obtain ⟨h1, h2⟩ := pOfB_of h
  obtain ⟨h3, _⟩ := partB_of h2
  omega
theorem twoB_of {n : Int} {xs ys : List Int} (h : twoB n xs ys = true) : pOfB n xs = true ∧ pOfB n ys = true := by simpa [twoB] using h
theorem smallMeetPartitions (n : Int) (xs ys : List Int) : (valMeetPartitions n xs ys).1.length ≤ 4194304 := by
  unfold valMeetPartitions
  split
  · rename_i h
    have := (pOfB_len (twoB_of h).1).2.2
    simp only [lstP_len]; omega
  · simp
theorem smallJoinPartitions (n : Int) (xs ys : List Int) : (valJoinPartitions n xs ys).1.length ≤ 4194304 := by
  unfold valJoinPartitions
  split
  · rename_i h
    have := (pOfB_len (twoB_of h).1).2.2
    simp only [lstP_len]; omega
  · simp

set_option maxHeartbeats 1000000 in
set_option maxRecDepth 100000 in
theorem implIsPartition (n : Int) (lo hi : Nat) (ao : Option Addr) (c m : Nat) (xs : List Int) (w : World) (hn : (Lit.int .i64 n).wf = true) (hx : IView w lo hi ao m xs) (hhi : hi ≤ w.heap.size) (hm : m ≤ maxLen) :
    Calls Try.prog 16 #[.int .i64 n, .slice ao m c] w fun e w' => e = .returned (.tuple #[.bool (valIsPartition n xs).1, .bool (valIsPartition n xs).2]) ∧ Below w.heap.size w w' := by
  have HS := Lib.hid (fun w => isSize_any n w)
  have HP := Lib.hid (partOf_any n m c ao xs lo hi w hx hhi hm)
  unfold valIsPartition
  unfold ResP at HP
  obtain ⟨b, hb⟩ : ∃ b, inB 1 8 n = b := ⟨_, rfl⟩
  obtain ⟨p, hp⟩ : ∃ p, pOfB n xs = p := ⟨_, rfl⟩
  have hno : b = false → p = false := by intro h; subst h; rw [← hp]; simp [pOfB, hb]
  simp only [hb] at HS
  simp only [hp] at HP
  dsimp only
  rw [hb, hp]
  obtain ⟨f, hf⟩ : ∃ f, parF p xs = f := ⟨_, rfl⟩
  simp only [hf] at HP
  clear hx hb hp hf hn
  go_enter Try.func16, Try.ntmps16
  go_wp2_with fail
  refine (HS.out _).mono ?_
  rintro e w' ⟨rfl, rfl⟩
  cases b with
  | false =>
    obtain rfl := hno rfl
    go_wp2_with fail
    go_ret2
    exact ⟨rfl, Below.refl _ _⟩
  | true =>
    go_wp2_with fail
    refine HP.out.mono ?_
    rintro e w1 ⟨rfl, q1⟩
    have HA := Lib.hid (ArrAt.new w1 fun _ => 0)
    have HB := Lib.hid (below_setRow (below_then q1 (below_alloc w1 (.cells (arrV fun _ => 0) 67))) (show w.heap.size ≤ w1.heap.size from q1.size) (arrV f))
    clear q1
    go_wp2_with (refine st8 (w := w1.alloc (.cells (arrV fun _ => 0) 67)) HA.out rfl _ _ rfl rfl rfl ?_)
    go_ret2
    exact ⟨rfl, HB.out⟩

set_option maxHeartbeats 2000000 in
set_option maxRecDepth 100000 in
theorem implIsFiner (n : Int) (lo hi : Nat) (ao : Option Addr) (c m : Nat) (xs : List Int) (lo2 hi2 : Nat) (bo : Option Addr) (c2 m2 : Nat) (ys : List Int) (w : World) (hn : (Lit.int .i64 n).wf = true) (hx : IView w lo hi ao m xs) (hhi : hi ≤ w.heap.size) (hm : m ≤ maxLen) (hy : IView w lo2 hi2 bo m2 ys) (hhi2 : hi2 ≤ w.heap.size) (hm2 : m2 ≤ maxLen) :
    Calls Try.prog 30 #[.int .i64 n, .slice ao m c, .slice bo m2 c2] w fun e w' => e = .returned (.tuple #[.bool (valIsFiner n xs ys).1, .bool (valIsFiner n xs ys).2]) ∧ Below w.heap.size w w' := by
  have HP := Lib.hid (twoP_any n m c m2 c2 ao bo xs ys lo hi lo2 hi2 w hx hhi hm hy hhi2 hm2)
  unfold ResT at HP
  have hl := hx.1
  obtain ⟨b1, hb1⟩ : ∃ b, pOfB n xs = b := ⟨_, rfl⟩
  obtain ⟨b2, hb2⟩ : ∃ b, pOfB n ys = b := ⟨_, rfl⟩
  have htw : twoB n xs ys = (b1 && b2) := by unfold twoB; rw [hb1, hb2]
  simp only [hb1, hb2] at HP
  obtain ⟨f, hf⟩ : ∃ f, parF b1 xs = f := ⟨_, rfl⟩
  obtain ⟨g, hg⟩ : ∃ g, parF b2 ys = g := ⟨_, rfl⟩
  simp only [hf, hg] at HP
  obtain ⟨r, hr⟩ : ∃ r, (twoB n xs ys && finB (gI xs) (gI ys) xs.length) = r := ⟨_, rfl⟩
  have HFin : Hid (b1 = true → b2 = true → finB f g 8 = r ∧ ∀ k, k < 8 → 0 ≤ f k ∧ f k < 8) := fun h1 h2 => by
    subst h1 h2
    obtain ⟨a1, a2⟩ := pOfB_of hb1
    obtain ⟨a3, a4⟩ := pOfB_of hb2
    rw [← hr, htw, ← hf, ← hg, parF_yes, parF_yes, finB_ext a2 a4 a1.2]
    exact ⟨rfl, fun k hk => by have := ext_bd a2 k; omega⟩
  have hno : (b1 && b2) = false → r = false := fun h => by rw [← hr, htw, h]; rfl
  unfold valIsFiner
  dsimp only
  rw [hr, htw]
  have HNo := Lib.hid hno
  clear hx hy hhi hhi2 hm hm2 hb1 hb2 hf hg hr htw hn hl hno
  go_enter Try.func30, Try.ntmps30
  go_wp2_with fail
  refine HP.out.mono ?_
  rintro e w1 ⟨rfl, q1⟩
  have HB1 := Lib.hid q1
  have hz1 := q1.size
  clear q1
  obtain ⟨w2, hw2⟩ : ∃ w2, w2 = (((w1.alloc (.cells (arrV fun _ => 0) 67)).alloc (.cells (arrV fun _ => 0) 67)).setRow w1.heap.size (arrV f)).setRow (w1.heap.size + 1) (arrV g) := ⟨_, rfl⟩
  have HA0 : Hid (ArrAt ((w1.alloc (.cells (arrV fun _ => 0) 67)).alloc (.cells (arrV fun _ => 0) 67)) w1.heap.size fun _ => 0) := (ArrAt.new _ _).alloc _
  have HC0 : Hid (ArrAt ((w1.alloc (.cells (arrV fun _ => 0) 67)).alloc (.cells (arrV fun _ => 0) 67)) (w1.heap.size + 1) fun _ => 0) := by
    have h := ArrAt.new (w1.alloc (.cells (arrV fun _ => 0) 67)) fun _ => 0
    simp only [World.size_alloc] at h
    exact h
  have HC1 := Lib.hid (HC0.out.setRowOther (g' := w1.heap.size) (by omega) (arrV f))
  have HF2 : Hid (ArrAt w2 w1.heap.size f) := by unfold Hid; rw [hw2]; exact (HA0.out.setRow (f' := f)).setRowOther (by omega) _
  have HG2 : Hid (ArrAt w2 (w1.heap.size + 1) g) := by unfold Hid; rw [hw2]; exact HC1.out.setRow
  have HB2 : Hid (Below w.heap.size w w2) := by unfold Hid; rw [hw2]; exact below_setRow (below_setRow (below_then (below_then HB1.out (below_alloc _ _)) (below_alloc _ _)) (by omega) _) (by omega) _
  have HW2 := Lib.hid hw2
  have hz2 := HG2.out.lt
  clear hw2
  cases b1 with
  | false =>
    go_wp2_with (first | (refine st8 (w := (w1.alloc (.cells (arrV fun _ => 0) 67)).alloc (.cells (arrV fun _ => 0) 67)) HA0.out rfl _ _ rfl rfl rfl ?_) | (refine st8 (w := ((w1.alloc (.cells (arrV fun _ => 0) 67)).alloc (.cells (arrV fun _ => 0) 67)).setRow w1.heap.size (arrV f)) HC1.out rfl _ _ rfl rfl rfl ?_; rw [← HW2.out]))
    go_ret2
    exact ⟨by rw [HNo.out rfl]; rfl, HB2.out⟩
  | true =>
    cases b2 with
    | false =>
      go_wp2_with (first | (refine st8 (w := (w1.alloc (.cells (arrV fun _ => 0) 67)).alloc (.cells (arrV fun _ => 0) 67)) HA0.out rfl _ _ rfl rfl rfl ?_) | (refine st8 (w := ((w1.alloc (.cells (arrV fun _ => 0) 67)).alloc (.cells (arrV fun _ => 0) 67)).setRow w1.heap.size (arrV f)) HC1.out rfl _ _ rfl rfl rfl ?_; rw [← HW2.out]))
      go_ret2
      exact ⟨by rw [HNo.out rfl]; rfl, HB2.out⟩
    | true =>
      obtain ⟨hfr, hbd⟩ := HFin.out rfl rfl
      have HC := Lib.hid (isFiner_any f g w2 hbd)
      rw [hfr] at HC
      clear hfr hbd
      go_wp2_with (first | (refine st8 (w := (w1.alloc (.cells (arrV fun _ => 0) 67)).alloc (.cells (arrV fun _ => 0) 67)) HA0.out rfl _ _ rfl rfl rfl ?_) | (refine st8 (w := ((w1.alloc (.cells (arrV fun _ => 0) 67)).alloc (.cells (arrV fun _ => 0) 67)).setRow w1.heap.size (arrV f)) HC1.out rfl _ _ rfl rfl rfl ?_; rw [← HW2.out]) | (refine ld8w HF2.out rfl _ rfl rfl ?_) | (refine ld8w HG2.out rfl _ rfl rfl ?_))
      refine HC.out.mono ?_
      rintro e w3 ⟨rfl, q3⟩
      have HB3 := Lib.hid (HB2.out.trans (q3.mono HB2.out.size))
      clear q3
      go_wp2_with fail
      go_ret2
      exact ⟨rfl, HB3.out⟩

set_option maxHeartbeats 2000000 in
set_option maxRecDepth 100000 in
theorem implMeetPartitions (n : Int) (lo hi : Nat) (ao : Option Addr) (c m : Nat) (xs : List Int) (lo2 hi2 : Nat) (bo : Option Addr) (c2 m2 : Nat) (ys : List Int) (w : World) (hn : (Lit.int .i64 n).wf = true) (hx : IView w lo hi ao m xs) (hhi : hi ≤ w.heap.size) (hm : m ≤ maxLen) (hy : IView w lo2 hi2 bo m2 ys) (hhi2 : hi2 ≤ w.heap.size) (hm2 : m2 ≤ maxLen) :
    Calls Try.prog 32 #[.int .i64 n, .slice ao m c, .slice bo m2 c2] w fun e w' => ResL w w' (valMeetPartitions n xs ys).1 (valMeetPartitions n xs ys).2 e := by
  have HP := Lib.hid (twoP_any n m c m2 c2 ao bo xs ys lo hi lo2 hi2 w hx hhi hm hy hhi2 hm2)
  unfold ResT at HP
  have hl := hx.1
  obtain ⟨b1, hb1⟩ : ∃ b, pOfB n xs = b := ⟨_, rfl⟩
  obtain ⟨b2, hb2⟩ : ∃ b, pOfB n ys = b := ⟨_, rfl⟩
  have htw : twoB n xs ys = (b1 && b2) := by unfold twoB; rw [hb1, hb2]
  simp only [hb1, hb2] at HP
  obtain ⟨f, hf⟩ : ∃ f, parF b1 xs = f := ⟨_, rfl⟩
  obtain ⟨g, hg⟩ : ∃ g, parF b2 ys = g := ⟨_, rfl⟩
  simp only [hf, hg] at HP
  obtain ⟨rv, hr⟩ : ∃ rv, valMeetPartitions n xs ys = rv := ⟨_, rfl⟩
  have HYes : Hid (b1 = true → b2 = true → ((m : Int) = n ∧ 1 ≤ m ∧ m ≤ 8) ∧ rv = (lstP m (meetF f g), true) ∧ (∀ k, k < 8 → 0 ≤ f k ∧ f k < 8) ∧ (∀ k, k < 8 → 0 ≤ g k ∧ g k < 8)) := fun h1 h2 => by
    subst h1 h2
    obtain ⟨a1, a2⟩ := pOfB_of hb1
    obtain ⟨a3, a4⟩ := pOfB_of hb2
    have a5 := pOfB_len hb1
    rw [hl] at a5
    refine ⟨a5, ?_, fun k hk => ?_, fun k hk => ?_⟩
    · rw [← hr, valMeetPartitions, htw, if_pos (show (true && true) = true from rfl), ← hf, ← hg, parF_yes, parF_yes, ← meet_ext a2 a4, hl]
    · rw [← hf, parF_yes]; have := ext_bd a2 k; omega
    · rw [← hg, parF_yes]; have := ext_bd a4 k; omega
  have HNo : Hid ((b1 && b2) = false → rv = ([], false)) := fun h => by rw [← hr, valMeetPartitions, htw, h]; rfl
  rw [hr]
  clear hx hy hhi hhi2 hm hm2 hb1 hb2 hf hg hr htw hn hl
  unfold ResL
  go_enter Try.func32, Try.ntmps32
  go_wp2_with fail
  refine HP.out.mono ?_
  rintro e w1 ⟨rfl, q1⟩
  have HB1 := Lib.hid q1
  have hz1 := q1.size
  clear q1
  obtain ⟨w2, hw2⟩ : ∃ w2, w2 = (((w1.alloc (.cells (arrV fun _ => 0) 67)).alloc (.cells (arrV fun _ => 0) 67)).setRow w1.heap.size (arrV f)).setRow (w1.heap.size + 1) (arrV g) := ⟨_, rfl⟩
  have HA0 : Hid (ArrAt ((w1.alloc (.cells (arrV fun _ => 0) 67)).alloc (.cells (arrV fun _ => 0) 67)) w1.heap.size fun _ => 0) := (ArrAt.new _ _).alloc _
  have HC0 : Hid (ArrAt ((w1.alloc (.cells (arrV fun _ => 0) 67)).alloc (.cells (arrV fun _ => 0) 67)) (w1.heap.size + 1) fun _ => 0) := by
    have h := ArrAt.new (w1.alloc (.cells (arrV fun _ => 0) 67)) fun _ => 0
    simp only [World.size_alloc] at h
    exact h
  have HC1 := Lib.hid (HC0.out.setRowOther (g' := w1.heap.size) (by omega) (arrV f))
  have HF2 : Hid (ArrAt w2 w1.heap.size f) := by unfold Hid; rw [hw2]; exact (HA0.out.setRow (f' := f)).setRowOther (by omega) _
  have HG2 : Hid (ArrAt w2 (w1.heap.size + 1) g) := by unfold Hid; rw [hw2]; exact HC1.out.setRow
  have HB2 : Hid (Below w.heap.size w w2) := by unfold Hid; rw [hw2]; exact below_setRow (below_setRow (below_then (below_then HB1.out (below_alloc _ _)) (below_alloc _ _)) (by omega) _) (by omega) _
  have HW2 := Lib.hid hw2
  have hz2 := HG2.out.lt
  clear hw2
  cases b1 with
  | false =>
    go_wp2_with (first | (refine st8 (w := (w1.alloc (.cells (arrV fun _ => 0) 67)).alloc (.cells (arrV fun _ => 0) 67)) HA0.out rfl _ _ rfl rfl rfl ?_) | (refine st8 (w := ((w1.alloc (.cells (arrV fun _ => 0) 67)).alloc (.cells (arrV fun _ => 0) 67)).setRow w1.heap.size (arrV f)) HC1.out rfl _ _ rfl rfl rfl ?_; rw [← HW2.out]))
    go_ret2
    obtain rfl := HNo.out rfl
    exact ⟨none, 0, 0, rfl, rfl, OwnsInts.of_row (World.ownsRow_nil _ _ _ _), HB2.out⟩
  | true =>
    cases b2 with
    | false =>
      go_wp2_with (first | (refine st8 (w := (w1.alloc (.cells (arrV fun _ => 0) 67)).alloc (.cells (arrV fun _ => 0) 67)) HA0.out rfl _ _ rfl rfl rfl ?_) | (refine st8 (w := ((w1.alloc (.cells (arrV fun _ => 0) 67)).alloc (.cells (arrV fun _ => 0) 67)).setRow w1.heap.size (arrV f)) HC1.out rfl _ _ rfl rfl rfl ?_; rw [← HW2.out]))
      go_ret2
      obtain rfl := HNo.out rfl
      exact ⟨none, 0, 0, rfl, rfl, OwnsInts.of_row (World.ownsRow_nil _ _ _ _), HB2.out⟩
    | true =>
      obtain ⟨⟨hmn, hm1, hm8⟩, rfl, hbf, hbg⟩ := HYes.out rfl rfl
      have HC := Lib.hid (meet_any f g w2)
      have HLs := Lib.hid (fun (W : World) => listP_any (meetF f g) m W hm1 hm8)
      rw [hmn] at HLs
      clear hbf hbg
      go_wp2_with (first | (refine st8 (w := (w1.alloc (.cells (arrV fun _ => 0) 67)).alloc (.cells (arrV fun _ => 0) 67)) HA0.out rfl _ _ rfl rfl rfl ?_) | (refine st8 (w := ((w1.alloc (.cells (arrV fun _ => 0) 67)).alloc (.cells (arrV fun _ => 0) 67)).setRow w1.heap.size (arrV f)) HC1.out rfl _ _ rfl rfl rfl ?_; rw [← HW2.out]) | (refine ld8 HF2.out rfl _ rfl rfl ?_) | (refine ld8 HG2.out rfl _ rfl rfl ?_))
      refine HC.out.mono ?_
      rintro e w3 ⟨rfl, q3⟩
      have HB3 := Lib.hid (HB2.out.trans (q3.mono HB2.out.size))
      have hz3 := q3.size
      clear q3
      go_wp2_with fail
      refine (HLs.out _).mono ?_
      rintro e w4 ⟨g4, d4, rfl, ho, q4⟩
      have HO := Lib.hid (ownsRow_base ho (b' := w.heap.size) (by omega))
      have HB4 := Lib.hid (HB3.out.trans (q4.mono HB3.out.size))
      clear ho q4
      go_wp2_with fail
      go_ret2
      exact ⟨some ⟨g4, 0, none⟩, m, d4, rfl, (lstP_len _ _).symm, OwnsInts.of_row HO.out, HB4.out⟩

set_option maxHeartbeats 2000000 in
set_option maxRecDepth 100000 in
theorem implJoinPartitions (n : Int) (lo hi : Nat) (ao : Option Addr) (c m : Nat) (xs : List Int) (lo2 hi2 : Nat) (bo : Option Addr) (c2 m2 : Nat) (ys : List Int) (w : World) (hn : (Lit.int .i64 n).wf = true) (hx : IView w lo hi ao m xs) (hhi : hi ≤ w.heap.size) (hm : m ≤ maxLen) (hy : IView w lo2 hi2 bo m2 ys) (hhi2 : hi2 ≤ w.heap.size) (hm2 : m2 ≤ maxLen) :
    Calls Try.prog 34 #[.int .i64 n, .slice ao m c, .slice bo m2 c2] w fun e w' => ResL w w' (valJoinPartitions n xs ys).1 (valJoinPartitions n xs ys).2 e := by
  have HP := Lib.hid (twoP_any n m c m2 c2 ao bo xs ys lo hi lo2 hi2 w hx hhi hm hy hhi2 hm2)
  unfold ResT at HP
  have hl := hx.1
  obtain ⟨b1, hb1⟩ : ∃ b, pOfB n xs = b := ⟨_, rfl⟩
  obtain ⟨b2, hb2⟩ : ∃ b, pOfB n ys = b := ⟨_, rfl⟩
  have htw : twoB n xs ys = (b1 && b2) := by unfold twoB; rw [hb1, hb2]
  simp only [hb1, hb2] at HP
  obtain ⟨f, hf⟩ : ∃ f, parF b1 xs = f := ⟨_, rfl⟩
  obtain ⟨g, hg⟩ : ∃ g, parF b2 ys = g := ⟨_, rfl⟩
  simp only [hf, hg] at HP
  obtain ⟨rv, hr⟩ : ∃ rv, valJoinPartitions n xs ys = rv := ⟨_, rfl⟩
  have HYes : Hid (b1 = true → b2 = true → ((m : Int) = n ∧ 1 ≤ m ∧ m ≤ 8) ∧ rv = (lstP m (joinA f g 8), true) ∧ (∀ k, k < 8 → 0 ≤ f k ∧ f k < 8) ∧ (∀ k, k < 8 → 0 ≤ g k ∧ g k < 8)) := fun h1 h2 => by
    subst h1 h2
    obtain ⟨a1, a2⟩ := pOfB_of hb1
    obtain ⟨a3, a4⟩ := pOfB_of hb2
    have a5 := pOfB_len hb1
    rw [hl] at a5
    refine ⟨a5, ?_, fun k hk => ?_, fun k hk => ?_⟩
    · rw [← hr, valJoinPartitions, htw, if_pos (show (true && true) = true from rfl), ← hf, ← hg, parF_yes, parF_yes, ← joinA_ext a2 a4 a1.2, hl]
    · rw [← hf, parF_yes]; have := ext_bd a2 k; omega
    · rw [← hg, parF_yes]; have := ext_bd a4 k; omega
  have HNo : Hid ((b1 && b2) = false → rv = ([], false)) := fun h => by rw [← hr, valJoinPartitions, htw, h]; rfl
  rw [hr]
  clear hx hy hhi hhi2 hm hm2 hb1 hb2 hf hg hr htw hn hl
  unfold ResL
  go_enter Try.func34, Try.ntmps34
  go_wp2_with fail
  refine HP.out.mono ?_
  rintro e w1 ⟨rfl, q1⟩
  have HB1 := Lib.hid q1
  have hz1 := q1.size
  clear q1
  obtain ⟨w2, hw2⟩ : ∃ w2, w2 = (((w1.alloc (.cells (arrV fun _ => 0) 67)).alloc (.cells (arrV fun _ => 0) 67)).setRow w1.heap.size (arrV f)).setRow (w1.heap.size + 1) (arrV g) := ⟨_, rfl⟩
  have HA0 : Hid (ArrAt ((w1.alloc (.cells (arrV fun _ => 0) 67)).alloc (.cells (arrV fun _ => 0) 67)) w1.heap.size fun _ => 0) := (ArrAt.new _ _).alloc _
  have HC0 : Hid (ArrAt ((w1.alloc (.cells (arrV fun _ => 0) 67)).alloc (.cells (arrV fun _ => 0) 67)) (w1.heap.size + 1) fun _ => 0) := by
    have h := ArrAt.new (w1.alloc (.cells (arrV fun _ => 0) 67)) fun _ => 0
    simp only [World.size_alloc] at h
    exact h
  have HC1 := Lib.hid (HC0.out.setRowOther (g' := w1.heap.size) (by omega) (arrV f))
  have HF2 : Hid (ArrAt w2 w1.heap.size f) := by unfold Hid; rw [hw2]; exact (HA0.out.setRow (f' := f)).setRowOther (by omega) _
  have HG2 : Hid (ArrAt w2 (w1.heap.size + 1) g) := by unfold Hid; rw [hw2]; exact HC1.out.setRow
  have HB2 : Hid (Below w.heap.size w w2) := by unfold Hid; rw [hw2]; exact below_setRow (below_setRow (below_then (below_then HB1.out (below_alloc _ _)) (below_alloc _ _)) (by omega) _) (by omega) _
  have HW2 := Lib.hid hw2
  have hz2 := HG2.out.lt
  clear hw2
  cases b1 with
  | false =>
    go_wp2_with (first | (refine st8 (w := (w1.alloc (.cells (arrV fun _ => 0) 67)).alloc (.cells (arrV fun _ => 0) 67)) HA0.out rfl _ _ rfl rfl rfl ?_) | (refine st8 (w := ((w1.alloc (.cells (arrV fun _ => 0) 67)).alloc (.cells (arrV fun _ => 0) 67)).setRow w1.heap.size (arrV f)) HC1.out rfl _ _ rfl rfl rfl ?_; rw [← HW2.out]))
    go_ret2
    obtain rfl := HNo.out rfl
    exact ⟨none, 0, 0, rfl, rfl, OwnsInts.of_row (World.ownsRow_nil _ _ _ _), HB2.out⟩
  | true =>
    cases b2 with
    | false =>
      go_wp2_with (first | (refine st8 (w := (w1.alloc (.cells (arrV fun _ => 0) 67)).alloc (.cells (arrV fun _ => 0) 67)) HA0.out rfl _ _ rfl rfl rfl ?_) | (refine st8 (w := ((w1.alloc (.cells (arrV fun _ => 0) 67)).alloc (.cells (arrV fun _ => 0) 67)).setRow w1.heap.size (arrV f)) HC1.out rfl _ _ rfl rfl rfl ?_; rw [← HW2.out]))
      go_ret2
      obtain rfl := HNo.out rfl
      exact ⟨none, 0, 0, rfl, rfl, OwnsInts.of_row (World.ownsRow_nil _ _ _ _), HB2.out⟩
    | true =>
      obtain ⟨⟨hmn, hm1, hm8⟩, rfl, hbf, hbg⟩ := HYes.out rfl rfl
      have HC := Lib.hid (join_any f g w2 hbf hbg)
      have HLs := Lib.hid (fun (W : World) => listP_any (joinA f g 8) m W hm1 hm8)
      rw [hmn] at HLs
      clear hbf hbg
      go_wp2_with (first | (refine st8 (w := (w1.alloc (.cells (arrV fun _ => 0) 67)).alloc (.cells (arrV fun _ => 0) 67)) HA0.out rfl _ _ rfl rfl rfl ?_) | (refine st8 (w := ((w1.alloc (.cells (arrV fun _ => 0) 67)).alloc (.cells (arrV fun _ => 0) 67)).setRow w1.heap.size (arrV f)) HC1.out rfl _ _ rfl rfl rfl ?_; rw [← HW2.out]) | (refine ld8 HF2.out rfl _ rfl rfl ?_) | (refine ld8 HG2.out rfl _ rfl rfl ?_))
      refine HC.out.mono ?_
      rintro e w3 ⟨rfl, q3⟩
      have HB3 := Lib.hid (HB2.out.trans (q3.mono HB2.out.size))
      have hz3 := q3.size
      clear q3
      go_wp2_with fail
      refine (HLs.out _).mono ?_
      rintro e w4 ⟨g4, d4, rfl, ho, q4⟩
      have HO := Lib.hid (ownsRow_base ho (b' := w.heap.size) (by omega))
      have HB4 := Lib.hid (HB3.out.trans (q4.mono HB3.out.size))
      clear ho q4
      go_wp2_with fail
      go_ret2
      exact ⟨some ⟨g4, 0, none⟩, m, d4, rfl, (lstP_len _ _).symm, OwnsInts.of_row HO.out, HB4.out⟩

end Go.Proofs.Ytgejpkpilnfddaa
