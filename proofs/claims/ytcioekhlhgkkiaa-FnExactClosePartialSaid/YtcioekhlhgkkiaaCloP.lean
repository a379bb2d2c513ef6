/-
  Contracts: spec.ClosePartial and impl.ClosePartial. Conditions: the bounds that each theorem names.
-/
import Derived.Test.YtcioekhlhgkkiaaCloS
import Derived.Test.YtcioekhlhgkkiaaKerI
namespace Go.Proofs.Ytcioekhlhgkkiaa
open Go.RowKit
set_option linter.unusedVariables false
set_option linter.unusedSimpArgs false

def cloIf (z z1 : Int) (fs gs : List OpD) (xs : List Int) : Option (Nat → Int) := if pmB z z1 fs gs xs = true then closV z z1 fs gs (arrL xs) else none
def valClosePartial (z : Int) (fs : List OpD) (z1 : Int) (gs : List OpD) (xs : List Int) : List Int × Bool := (cloL xs.length (cloIf z z1 fs gs xs), (cloIf z z1 fs gs xs).isSome)
theorem smallClosePartial (z : Int) (fs : List OpD) (z1 : Int) (gs : List OpD) (xs : List Int) : (valClosePartial z fs z1 gs xs).1.length ≤ 4194304 := by
  show (cloL xs.length (cloIf z z1 fs gs xs)).length ≤ 4194304
  unfold cloIf
  split
  · rename_i h
    obtain ⟨q1, q2, _⟩ := pmB_of h
    have := (algOkB_of (sameH_of q1).1).1
    cases closV z z1 fs gs (arrL xs) with
    | none => simp [cloL]
    | some g => simp only [cloL, lstP_len]; omega
  · simp [cloL]
theorem pmB_no1 {z z1 : Int} {fs gs : List OpD} (xs : List Int) (h : sameH z z1 fs gs = false) : pmB z z1 fs gs xs = false := by rw [pmB, h]; rfl
theorem pmB_no2 {z z1 : Int} {fs gs : List OpD} {xs : List Int} (h : ¬ (xs.length : Int) = z) : pmB z z1 fs gs xs = false := by rw [pmB, decide_eq_false h]; simp
theorem pmB_no3 {z z1 : Int} {fs gs : List OpD} {xs : List Int} (h : pinB z1 xs = false) : pmB z z1 fs gs xs = false := by rw [pmB, h]; simp
theorem pmB_yes {z z1 : Int} {fs gs : List OpD} {xs : List Int} (h : sameH z z1 fs gs = true) (h2 : (xs.length : Int) = z) (h3 : pinB z1 xs = true) : pmB z z1 fs gs xs = true := by rw [pmB, h, decide_eq_true h2, h3]; rfl

set_option maxHeartbeats 2000000 in
set_option maxRecDepth 100000 in
theorem implClosePartial (lo hi : Nat) (z : Int) (ao : Option Addr) (c n : Nat) (fs : List OpD) (lo2 hi2 : Nat) (z1 : Int) (bo : Option Addr) (d m : Nat) (gs : List OpD) (lo3 hi3 : Nat) (co : Option Addr) (e_ l : Nat) (xs : List Int) (w : World) (hv : OView w lo hi ao n fs) (hhi : hi ≤ w.heap.size) (hs : ∀ (j : Nat) (f : OpD), fs[j]? = some f → f.2.length ≤ maxLen) (hu : OView w lo2 hi2 bo m gs) (hhi2 : hi2 ≤ w.heap.size) (hs2 : ∀ (j : Nat) (f : OpD), gs[j]? = some f → f.2.length ≤ maxLen) (hx : IView w lo3 hi3 co l xs) (hhi3 : hi3 ≤ w.heap.size) (hl : l ≤ maxLen) :
    Calls Try.prog 28 #[.agg #[.int .i64 z, .slice ao n c], .agg #[.int .i64 z1, .slice bo m d], .slice co l e_] w fun en w' => ResL w w' (valClosePartial z fs z1 gs xs).1 (valClosePartial z fs z1 gs xs).2 en := by
  unfold valClosePartial cloIf
  obtain ⟨w1, hw1, hbx, hsz⟩ := bx2_new w z ao n c z1 bo m d 31
  have HBx := Lib.hid hbx
  have hI := fun (W : World) (hW : Bx2 w W z ao n c z1 bo m d) => pm_any lo hi lo2 hi2 lo3 hi3 z z1 ao bo co c n d m e_ l fs gs xs W (hv.kept (Kept.of_below hW.bel hhi)) (Nat.le_trans hhi hW.bel.size) hs (hu.kept (Kept.of_below hW.bel hhi2)) (Nat.le_trans hhi2 hW.bel.size) hs2 (hx.kept (Kept.of_below hW.bel hhi3)) (Nat.le_trans hhi3 hW.bel.size) hl
  obtain ⟨cz, ca, cz1, ca1, cB⟩ := hbx
  obtain ⟨t, ht⟩ : ∃ t, pmB z z1 fs gs xs = t := ⟨_, rfl⟩
  obtain ⟨f, hf⟩ : ∃ f, pmF t xs = f := ⟨_, rfl⟩
  simp only [ht, ResPm, hf] at hI
  rw [ht]
  have HI := Lib.hid hI
  have HFx := Lib.hid hf
  clear hI cB hf
  cases t with
  | false =>
    rw [if_neg (by simp)]
    clear hv hu hx hs hs2 ht
    unfold ResL
    go_enter Try.func28, Try.ntmps28
    go_wp2_with fail
    rw [← hw1]
    clear hw1
    go_wp2_with fail
    refine (HI.out _ HBx.out).mono ?_
    rintro e w2 ⟨rfl, b2⟩
    have HBx2 := Lib.hid (HBx.out.below b2)
    clear b2 cz ca cz1 ca1
    have HA3 := Lib.hid (ArrAt.new w2 fun _ => 0)
    have HB4 := Lib.hid (HBx2.out.bel.trans ((new_row w2 f).2.mono HBx2.out.bel.size))
    go_wp2_with (refine st8 (w := w2.alloc (.cells (arrV fun _ => 0) 57)) (f' := f) HA3.out rfl _ _ rfl rfl rfl ?_)
    go_ret2
    exact ⟨_, _, _, rfl, rfl, OwnsInts.of_row (World.ownsRow_nil _ _ _ _), HB4.out⟩
  | true =>
    rw [if_pos rfl]
    obtain ⟨q1, q2, q3⟩ := pmB_of ht
    obtain ⟨hok, hok2, hty⟩ := sameH_of q1
    obtain ⟨⟨h1, h2⟩, _⟩ := algOkB_of hok
    obtain ⟨⟨k1, k2⟩, _⟩ := algOkB_of hok2
    have hlx := hx.1
    have hfe : f = arrL xs := by rw [← HFx.out, pmF_yes]
    have hout : ∀ k : Nat, z ≤ (k : Int) → f k = -1 := fun k hk => by rw [hfe]; exact arrL_out (by omega)
    have hpart : Part z z1 f := by rw [hfe]; exact pinB_part q3
    rw [← hfe]
    have hC := fun (W : World) (hW : Bx2 w W z ao n c z1 bo m d) => closed_any lo hi lo2 hi2 z z1 ao bo c n d m fs gs f W (hv.kept (Kept.of_below hW.bel hhi)) (Nat.le_trans hhi hW.bel.size) hok (hu.kept (Kept.of_below hW.bel hhi2)) (Nat.le_trans hhi2 hW.bel.size) hok2 hty hpart hout
    obtain ⟨rs, hrs⟩ : ∃ rs, closV z z1 fs gs f = rs := ⟨_, rfl⟩
    rw [hrs] at hC ⊢
    obtain ⟨h_, hh_⟩ : ∃ h_, cloA rs = h_ := ⟨_, rfl⟩
    rw [hh_] at hC
    obtain rfl : z = (l : Int) := by omega
    have HM := Lib.hid (fun (k : Nat → Int) W => listM_any k l W (by omega) (by omega))
    have HLx := Lib.hid hlx
    have HH := Lib.hid hh_
    cases rs with
    | none =>
      have HC : Hid (∀ (W : World) (hW : Bx2 w W (l : Int) ao n c z1 bo m d), Calls Try.prog 66 #[.agg (arrV f), .agg #[.int .i64 (l : Int), .slice ao n c], .agg #[.int .i64 z1, .slice bo m d]] W fun e w' => e = .returned (.tuple #[.agg (arrV h_), .bool false]) ∧ Below W.heap.size W w') := hC
      clear hv hu hx hs hs2 ht q1 q2 q3 hok hok2 hty hfe hout hpart hC hrs hh_ hlx
      unfold ResL
      go_enter Try.func28, Try.ntmps28
      go_wp2_with fail
      rw [← hw1]
      clear hw1
      go_wp2_with fail
      refine (HI.out _ HBx.out).mono ?_
      rintro e w2 ⟨rfl, b2⟩
      have HBx2 := Lib.hid (HBx.out.below b2)
      clear b2 cz ca cz1 ca1
      have HA3 := Lib.hid (ArrAt.new w2 fun _ => 0)
      obtain ⟨w3, hw3⟩ : ∃ w3, w3 = (w2.alloc (.cells (arrV fun _ => 0) 57)).setRow w2.heap.size (arrV f) := ⟨_, rfl⟩
      have HA4 : Hid (ArrAt w3 w2.heap.size f) := by unfold Hid; rw [hw3]; exact (new_row w2 f).1
      have HBx4 : Hid (Bx2 w w3 (l : Int) ao n c z1 bo m d) := by unfold Hid; rw [hw3]; exact HBx2.out.below (new_row w2 f).2
      obtain ⟨cz, ca, cz1, ca1, cB⟩ := HBx4.out
      have HW3 := Lib.hid hw3
      clear hw3 cB
      go_wp2_with (first | (refine st8 (w := w2.alloc (.cells (arrV fun _ => 0) 57)) HA3.out rfl _ _ rfl rfl rfl ?_; rw [← HW3.out]) | (refine ld8 HA4.out rfl _ rfl rfl ?_))
      refine (HC.out _ HBx4.out).mono ?_
      rintro e w5 ⟨rfl, b5⟩
      have HA5 : Hid (ArrAt w5 w2.heap.size f) := HA4.out.below b5 HA4.out.lt
      have HB5 := Lib.hid (below_setRow (HBx4.out.below b5).bel HBx2.out.bel.size (arrV h_))
      clear b5 cz ca cz1 ca1
      go_wp2_with (refine st8 (f' := h_) HA5.out rfl _ _ rfl rfl rfl ?_)
      go_ret2
      exact ⟨_, _, _, rfl, rfl, OwnsInts.of_row (World.ownsRow_nil _ _ _ _), HB5.out⟩
    | some k_ =>
      have HC : Hid (∀ (W : World) (hW : Bx2 w W (l : Int) ao n c z1 bo m d), Calls Try.prog 66 #[.agg (arrV f), .agg #[.int .i64 (l : Int), .slice ao n c], .agg #[.int .i64 z1, .slice bo m d]] W fun e w' => e = .returned (.tuple #[.agg (arrV h_), .bool true]) ∧ Below W.heap.size W w') := hC
      have HK : Hid (lstP l h_ = lstP xs.length k_) := by unfold Hid; rw [HLx.out, ← HH.out]; rfl
      clear hv hu hx hs hs2 ht q1 q2 q3 hok hok2 hty hfe hout hpart hC hrs hh_ hlx
      have HM2 := Lib.hid (HM.out h_)
      rw [show cloL xs.length (some k_) = lstP l h_ from HK.out.symm]
      unfold ResL
      unfold NewInts at HM2
      go_enter Try.func28, Try.ntmps28
      go_wp2_with fail
      rw [← hw1]
      clear hw1
      go_wp2_with fail
      refine (HI.out _ HBx.out).mono ?_
      rintro e w2 ⟨rfl, b2⟩
      have HBx2 := Lib.hid (HBx.out.below b2)
      clear b2 cz ca cz1 ca1
      have HA3 := Lib.hid (ArrAt.new w2 fun _ => 0)
      obtain ⟨w3, hw3⟩ : ∃ w3, w3 = (w2.alloc (.cells (arrV fun _ => 0) 57)).setRow w2.heap.size (arrV f) := ⟨_, rfl⟩
      have HA4 : Hid (ArrAt w3 w2.heap.size f) := by unfold Hid; rw [hw3]; exact (new_row w2 f).1
      have HBx4 : Hid (Bx2 w w3 (l : Int) ao n c z1 bo m d) := by unfold Hid; rw [hw3]; exact HBx2.out.below (new_row w2 f).2
      obtain ⟨cz, ca, cz1, ca1, cB⟩ := HBx4.out
      have HW3 := Lib.hid hw3
      clear hw3 cB
      go_wp2_with (first | (refine st8 (w := w2.alloc (.cells (arrV fun _ => 0) 57)) HA3.out rfl _ _ rfl rfl rfl ?_; rw [← HW3.out]) | (refine ld8 HA4.out rfl _ rfl rfl ?_))
      refine (HC.out _ HBx4.out).mono ?_
      rintro e w5 ⟨rfl, b5⟩
      have HA5 : Hid (ArrAt w5 w2.heap.size f) := HA4.out.below b5 HA4.out.lt
      have HBx5 := Lib.hid (HBx4.out.below b5)
      obtain ⟨w6, hw6⟩ : ∃ w6, w6 = w5.setRow w2.heap.size (arrV h_) := ⟨_, rfl⟩
      have hg2 : w.heap.size + 2 ≤ w2.heap.size := by have := World.block_lt_of_cell? _ _ HBx2.out.z1; simp only at this; omega
      have HBx6 : Hid (Bx2 w w6 (l : Int) ao n c z1 bo m d) := by unfold Hid; rw [hw6]; exact HBx5.out.far (below_setRow (Below.refl _ _) hg2 _)
      have HA6 : Hid (ArrAt w6 w2.heap.size h_) := by unfold Hid; rw [hw6]; exact HA5.out.setRow
      have HW6 := Lib.hid hw6
      clear b5 cz ca cz1 ca1 hw6
      obtain ⟨cz, ca, cz1, ca1, cB⟩ := HBx6.out
      clear cB
      go_wp2_with (first | (refine st8 (f' := h_) HA5.out rfl _ _ rfl rfl rfl ?_; rw [← HW6.out]) | (refine ld8 HA6.out rfl _ rfl rfl ?_))
      refine (HM2.out _).mono ?_
      rintro e w7 ⟨g, dd, rfl, ho, b7⟩
      have HB7 := Lib.hid (HBx6.out.below b7).bel
      have HO7 := Lib.hid (ownsRow_base ho HBx6.out.bel.size)
      clear ho b7 cz ca cz1 ca1
      go_wp2_with fail
      go_ret2
      exact ⟨some ⟨g, 0, none⟩, l, dd, rfl, (lstP_len _ _).symm, OwnsInts.of_row HO7.out, HB7.out⟩

theorem in_pin {z1 x : Int} : inB (-1) (z1 - 1) x = decide (x = -1 ∨ (0 ≤ x ∧ x < z1)) ∨ z1 < 1 := by
  by_cases h : z1 < 1
  · exact .inr h
  · left
    unfold inB
    rw [decide_eq_decide]
    omega

set_option maxHeartbeats 2000000 in
set_option maxRecDepth 100000 in
theorem specClosePartial (lo hi : Nat) (z : Int) (ao : Option Addr) (c n : Nat) (fs : List OpD) (lo2 hi2 : Nat) (z1 : Int) (bo : Option Addr) (d m : Nat) (gs : List OpD) (lo3 hi3 : Nat) (co : Option Addr) (e_ l : Nat) (xs : List Int) (w : World) (hv : OView w lo hi ao n fs) (hhi : hi ≤ w.heap.size) (hs : ∀ (j : Nat) (f : OpD), fs[j]? = some f → f.2.length ≤ maxLen) (hu : OView w lo2 hi2 bo m gs) (hhi2 : hi2 ≤ w.heap.size) (hs2 : ∀ (j : Nat) (f : OpD), gs[j]? = some f → f.2.length ≤ maxLen) (hx : IView w lo3 hi3 co l xs) (hhi3 : hi3 ≤ w.heap.size) (hl : l ≤ maxLen) :
    Calls Try.prog 27 #[.agg #[.int .i64 z, .slice ao n c], .agg #[.int .i64 z1, .slice bo m d], .slice co l e_] w fun en w' => ResL w w' (valClosePartial z fs z1 gs xs).1 (valClosePartial z fs z1 gs xs).2 en := by
  unfold valClosePartial cloIf
  obtain ⟨w1, hw1, hbx, hsz⟩ := bx2_new w z ao n c z1 bo m d 31
  have HBx := Lib.hid hbx
  have hT := fun (W : World) (hW : Bx2 w W z ao n c z1 bo m d) => two_spec lo hi lo2 hi2 z z1 ao bo c n d m fs gs W (hv.kept (Kept.of_below hW.bel hhi)) (Nat.le_trans hhi hW.bel.size) hs (hu.kept (Kept.of_below hW.bel hhi2)) (Nat.le_trans hhi2 hW.bel.size) hs2
  have hlx := hx.1
  obtain ⟨cz, ca, cz1, ca1, cB⟩ := hbx
  obtain ⟨t, ht⟩ : ∃ t, sameH z z1 fs gs = t := ⟨_, rfl⟩
  rw [ht] at hT
  have HT := Lib.hid hT
  unfold maxLen at hl
  clear hT cB
  cases t with
  | false =>
    rw [if_neg (by rw [pmB_no1 xs ht]; simp)]
    clear hv hu hx hs hs2 ht hlx
    unfold ResL
    go_enter Try.func27, Try.ntmps27
    go_wp2_with fail
    rw [← hw1]
    clear hw1
    go_wp2_with fail
    refine (HT.out _ HBx.out).mono ?_
    rintro e w2 ⟨rfl, b2⟩
    have HBx2 := Lib.hid (HBx.out.below b2)
    clear b2 cz ca cz1 ca1
    have HOn : Hid ((w2.alloc (.cells #[] 3)).ownsRow w.heap.size 3 1 (.slice (some ⟨w2.heap.size, 0, none⟩) 0 0) 0 (([] : List Int).map (Value.int .i64))) := World.ownsRow_lit (base := w.heap.size) (e := 3) (size := 1) w2 #[] 0 HBx2.out.bel.size (by decide) rfl
    go_wp2_with fail
    go_ret2
    exact ⟨_, _, _, rfl, rfl, OwnsInts.of_row HOn.out, HBx2.out.bel.trans ((below_alloc w2 _).mono HBx2.out.bel.size)⟩
  | true =>
    obtain ⟨hok, hok2, hty⟩ := sameH_of ht
    obtain ⟨⟨h1, h2⟩, _⟩ := algOkB_of hok
    obtain ⟨⟨k1, k2⟩, _⟩ := algOkB_of hok2
    by_cases hlz : (l : Int) = z
    · have hne : ((l : Int) != z) = false := by simp [hlz]
      have hl8 : l ≤ 8 := by omega
      obtain ⟨b, o, rfl, _, hbh, hc⟩ := hx.at_ (show 0 < l by omega)
      have HC := Lib.hid hc
      have hbw : b < w.heap.size := by omega
      have HLx := Lib.hid hlx
      have hwr : IntKind.i64.wrap (z1 - 1) = z1 - 1 := by rw [IntKind.wrap_i64]; omega
      obtain ⟨ci, hci⟩ : ∃ ci, (if pmB z z1 fs gs xs = true then closV z z1 fs gs (arrL xs) else none) = ci := ⟨_, rfl⟩
      have hce : pinB z1 xs = true → closV z z1 fs gs (arrL xs) = ci := fun h => by rw [← hci, if_pos (pmB_yes ht (by rw [hlx]; exact hlz) h)]
      have HCn : Hid (pinB z1 xs = false → ci = none) := fun h => by rw [← hci, if_neg (by rw [pmB_no3 h]; simp)]
      have HS : Hid (∀ (hpin : pinB z1 xs = true) (W : World) (hW : Bx2 w W z ao n c z1 bo m d), Calls Try.prog 64 #[.agg #[.int .i64 z, .slice ao n c], .agg #[.int .i64 z1, .slice bo m d], .slice (some ⟨b, o, none⟩) l e_] W fun en w' => ResL W w' (cloL l ci) ci.isSome en) := fun hpin W hW => by
        have h := close_spec lo hi lo2 hi2 lo3 hi3 z z1 ao bo (some ⟨b, o, none⟩) c n d m e_ l fs gs xs W (hv.kept (Kept.of_below hW.bel hhi)) (Nat.le_trans hhi hW.bel.size) (hu.kept (Kept.of_below hW.bel hhi2)) (Nat.le_trans hhi2 hW.bel.size) (hx.kept (Kept.of_below hW.bel hhi3)) (Nat.le_trans hhi3 hW.bel.size) hok hok2 hty hlz hpin
        rw [hce hpin] at h
        exact h
      rw [hci, hlx]
      clear hci hce
      clear hv hu hx hs hs2 ht hlx hok hok2 hty hlz hc
      unfold ResL
      go_enter Try.func27, Try.ntmps27
      go_wp2_with fail
      rw [← hw1]
      clear hw1
      go_wp2_with fail
      refine (HT.out _ HBx.out).mono ?_
      rintro e w2 ⟨rfl, b2⟩
      have HBx2 := Lib.hid (HBx.out.below b2)
      clear cz ca cz1 ca1
      obtain ⟨cz, ca, cz1, ca1, cB⟩ := HBx2.out
      clear b2 cB
      go_wp2_with fail
      go_loopw [8] (fun i wr => ∃ k : Nat, k ≤ l ∧ i = .int .i64 (k : Int) ∧ Hid (pinB z1 (xs.take k) = true) ∧ Hid (Bx2 w wr z ao n c z1 bo m d)) (fun i _ => l - (intOf i).toNat)
      case atStart => exact ⟨0, Nat.zero_le _, rfl, rfl, HBx2⟩
      case round =>
        obtain ⟨k, hk, rfl, HK, HBr⟩ := hrel
        clear cz ca cz1 ca1
        obtain ⟨cz, ca, cz1, ca1, cB⟩ := HBr.out
        clear cB
        by_cases hlt : k < l
        · have hkl : (k : Int) < (l : Int) := by omega
          obtain ⟨x, hx⟩ := get_of_lt HLx.out hlt
          have e1 : wr.cell? ⟨b, o + k, none⟩ = some (.int .i64 x) := (HBr.out.bel.cell (p := ⟨b, o + k, none⟩) hbw).trans (HC.out k x hx)
          have hin := fun w => in_any x (-1) (z1 - 1) w
          have hpi : inB (-1) (z1 - 1) x = decide (x = -1 ∨ (0 ≤ x ∧ x < z1)) := by rcases in_pin (z1 := z1) (x := x) with h | h; exact h; omega
          simp only [hpi] at hin
          have HBd := Lib.hid (HBr.out.far ((Below.refl (w.heap.size + 2) wr).drew))
          by_cases hok_ : x = -1 ∨ (0 ≤ x ∧ x < z1)
          · have HK2 : Hid (pinB z1 (xs.take (k + 1)) = true) := pinB_succ hx HK.out hok_
            simp only [decide_eq_true hok_] at hin
            have HIn := Lib.hid hin
            clear hx hok_ hpi hin
            go_wp2_with fail
            refine wp_region_noPanic ?_
            refine wp_region_held_drew (S := fun W => W.cell? ⟨b, o + k, none⟩ = some (.int .i64 x) ∧ W.cell? ⟨w.heap.size + 1, 0, none⟩ = some (.int .i64 z1)) (by kernel_rfl) ?_ (fun hHeld => ?_)
            · exact ⟨e1, cz1⟩
            refine wpAnyH_take (i := 0) (oi := ⟨_, _, _, _, _, _⟩) (v := ?_) rfl (by kernel_rfl) (by kernel_rfl) (by kernel_rfl) (fun _ _ _ h => h) (Or.inl ⟨rfl, ?_⟩) (by assumption) ?_
            rotate_left 1
            · intro w_ hSw; (try dsimp only at hSw); go_simp; (try with_reducible rfl)
            (try simp only [Act.put, List.setIfInBounds_toArray, List.set_cons_zero, List.set_cons_succ])
            refine wpAnyH_take (i := 1) (oi := ⟨_, _, _, _, _, _⟩) (v := ?_) rfl (by kernel_rfl) (by kernel_rfl) (by kernel_rfl) (fun _ _ _ h => h) (Or.inl ⟨rfl, ?_⟩) (by assumption) ?_
            rotate_left 1
            · intro w_ hSw; (try dsimp only at hSw); go_simp; (try with_reducible rfl)
            (try simp only [Act.put, List.setIfInBounds_toArray, List.set_cons_zero, List.set_cons_succ])
            refine wpAnyH_take (i := 2) (oi := ⟨_, _, _, _, _, _⟩) (v := ?_) rfl (by kernel_rfl) (by kernel_rfl) (by kernel_rfl) (fun _ _ _ h => h) (Or.inl ⟨rfl, ?_⟩) (by assumption) ?_
            rotate_left 1
            · intro w_ hSw; (try dsimp only at hSw); go_simp; (try with_reducible rfl)
            (try simp only [Act.put, List.setIfInBounds_toArray, List.set_cons_zero, List.set_cons_succ])
            refine wpAnyH_take (i := 3) (oi := ⟨_, _, _, _, _, _⟩) (v := ?_) rfl (by kernel_rfl) (by kernel_rfl) (by kernel_rfl) (fun _ _ _ h => h) (Or.inl ⟨rfl, ?_⟩) (by assumption) ?_
            rotate_left 1
            · intro w_ hSw; (try dsimp only at hSw); go_simp; (try with_reducible rfl)
            (try simp only [Act.put, List.setIfInBounds_toArray, List.set_cons_zero, List.set_cons_succ])
            refine wpAnyH_take (i := 4) (oi := ⟨_, _, _, _, _, _⟩) (v := ?_) rfl (by kernel_rfl) (by kernel_rfl) (by kernel_rfl) (fun _ _ _ h => h) (Or.inl ⟨rfl, ?_⟩) (by assumption) ?_
            rotate_left 1
            · intro w_ hSw; (try dsimp only at hSw); go_simp; (try with_reducible rfl)
            (try simp only [Act.put, List.setIfInBounds_toArray, List.set_cons_zero, List.set_cons_succ])
            refine wpAnyH_take (i := 5) (oi := ⟨_, _, _, _, _, _⟩) (v := ?_) rfl (by kernel_rfl) (by kernel_rfl) (by kernel_rfl) (fun _ _ _ h => h) (Or.inl ⟨rfl, ?_⟩) (by assumption) ?_
            rotate_left 1
            · intro w_ hSw; (try dsimp only at hSw); go_simp; (try with_reducible rfl)
            (try simp only [Act.put, List.setIfInBounds_toArray, List.set_cons_zero, List.set_cons_succ])
            refine wpAnyH_take (i := 6) (oi := ⟨_, _, _, _, _, _⟩) (v := ?_) rfl (by kernel_rfl) (by kernel_rfl) (by kernel_rfl) (fun _ _ _ h => h) (Or.inl ⟨rfl, ?_⟩) (by assumption) ?_
            rotate_left 1
            · intro w_ hSw; (try dsimp only at hSw); go_simp; (try with_reducible rfl)
            (try simp only [Act.put, List.setIfInBounds_toArray, List.set_cons_zero, List.set_cons_succ])
            refine wpAnyH_ready (rs := [7]) (by kernel_rfl) (by simp) ?_
            refine AllReadyH.cons (o := ⟨_, _, _, _, _, _⟩) rfl (fun K hK => ?_) AllReadyH.nil
            go_simp
            go_at_call 63
            refine (HIn.out _).mono ?_
            rintro e w5 ⟨rfl, rfl⟩
            go_wp2_with fail
            refine hK.out _ _ ?_ (fun hHeld => ?_)
            · exact ⟨e1, cz1⟩
            clear hK K
            (try simp only [Act.put, List.setIfInBounds_toArray, List.set_cons_zero, List.set_cons_succ])
            refine wpAnyH_take (i := 8) (oi := ⟨_, _, _, _, _, _⟩) (v := ?_) rfl (by kernel_rfl) (by kernel_rfl) (by kernel_rfl) (fun _ _ _ h => h) (Or.inl ⟨rfl, ?_⟩) (by assumption) ?_
            rotate_left 1
            · intro w_ hSw; (try dsimp only at hSw); go_simp; (try with_reducible rfl)
            (try simp only [Act.put, List.setIfInBounds_toArray, List.set_cons_zero, List.set_cons_succ])
            refine wpAnyH_done (by kernel_rfl) ?_ _
            refine NoPanic.normal ?_
            go_wp2_with fail
            go_roundw
            case rel => exact ⟨k + 1, by omega, by go_num, HK2, HBd⟩
            case measure => simp [intOf]; omega
          · have HF : Hid (ci = none) := HCn.out (pinB_no hx hok_)
            simp only [decide_eq_false hok_] at hin
            have HIn := Lib.hid hin
            clear hx hok_ hpi hin
            go_wp2_with fail
            refine wp_region_noPanic ?_
            refine wp_region_held_drew (S := fun W => W.cell? ⟨b, o + k, none⟩ = some (.int .i64 x) ∧ W.cell? ⟨w.heap.size + 1, 0, none⟩ = some (.int .i64 z1)) (by kernel_rfl) ?_ (fun hHeld => ?_)
            · exact ⟨e1, cz1⟩
            refine wpAnyH_take (i := 0) (oi := ⟨_, _, _, _, _, _⟩) (v := ?_) rfl (by kernel_rfl) (by kernel_rfl) (by kernel_rfl) (fun _ _ _ h => h) (Or.inl ⟨rfl, ?_⟩) (by assumption) ?_
            rotate_left 1
            · intro w_ hSw; (try dsimp only at hSw); go_simp; (try with_reducible rfl)
            (try simp only [Act.put, List.setIfInBounds_toArray, List.set_cons_zero, List.set_cons_succ])
            refine wpAnyH_take (i := 1) (oi := ⟨_, _, _, _, _, _⟩) (v := ?_) rfl (by kernel_rfl) (by kernel_rfl) (by kernel_rfl) (fun _ _ _ h => h) (Or.inl ⟨rfl, ?_⟩) (by assumption) ?_
            rotate_left 1
            · intro w_ hSw; (try dsimp only at hSw); go_simp; (try with_reducible rfl)
            (try simp only [Act.put, List.setIfInBounds_toArray, List.set_cons_zero, List.set_cons_succ])
            refine wpAnyH_take (i := 2) (oi := ⟨_, _, _, _, _, _⟩) (v := ?_) rfl (by kernel_rfl) (by kernel_rfl) (by kernel_rfl) (fun _ _ _ h => h) (Or.inl ⟨rfl, ?_⟩) (by assumption) ?_
            rotate_left 1
            · intro w_ hSw; (try dsimp only at hSw); go_simp; (try with_reducible rfl)
            (try simp only [Act.put, List.setIfInBounds_toArray, List.set_cons_zero, List.set_cons_succ])
            refine wpAnyH_take (i := 3) (oi := ⟨_, _, _, _, _, _⟩) (v := ?_) rfl (by kernel_rfl) (by kernel_rfl) (by kernel_rfl) (fun _ _ _ h => h) (Or.inl ⟨rfl, ?_⟩) (by assumption) ?_
            rotate_left 1
            · intro w_ hSw; (try dsimp only at hSw); go_simp; (try with_reducible rfl)
            (try simp only [Act.put, List.setIfInBounds_toArray, List.set_cons_zero, List.set_cons_succ])
            refine wpAnyH_take (i := 4) (oi := ⟨_, _, _, _, _, _⟩) (v := ?_) rfl (by kernel_rfl) (by kernel_rfl) (by kernel_rfl) (fun _ _ _ h => h) (Or.inl ⟨rfl, ?_⟩) (by assumption) ?_
            rotate_left 1
            · intro w_ hSw; (try dsimp only at hSw); go_simp; (try with_reducible rfl)
            (try simp only [Act.put, List.setIfInBounds_toArray, List.set_cons_zero, List.set_cons_succ])
            refine wpAnyH_take (i := 5) (oi := ⟨_, _, _, _, _, _⟩) (v := ?_) rfl (by kernel_rfl) (by kernel_rfl) (by kernel_rfl) (fun _ _ _ h => h) (Or.inl ⟨rfl, ?_⟩) (by assumption) ?_
            rotate_left 1
            · intro w_ hSw; (try dsimp only at hSw); go_simp; (try with_reducible rfl)
            (try simp only [Act.put, List.setIfInBounds_toArray, List.set_cons_zero, List.set_cons_succ])
            refine wpAnyH_take (i := 6) (oi := ⟨_, _, _, _, _, _⟩) (v := ?_) rfl (by kernel_rfl) (by kernel_rfl) (by kernel_rfl) (fun _ _ _ h => h) (Or.inl ⟨rfl, ?_⟩) (by assumption) ?_
            rotate_left 1
            · intro w_ hSw; (try dsimp only at hSw); go_simp; (try with_reducible rfl)
            (try simp only [Act.put, List.setIfInBounds_toArray, List.set_cons_zero, List.set_cons_succ])
            refine wpAnyH_ready (rs := [7]) (by kernel_rfl) (by simp) ?_
            refine AllReadyH.cons (o := ⟨_, _, _, _, _, _⟩) rfl (fun K hK => ?_) AllReadyH.nil
            go_simp
            go_at_call 63
            refine (HIn.out _).mono ?_
            rintro e w5 ⟨rfl, rfl⟩
            go_wp2_with fail
            refine hK.out _ _ ?_ (fun hHeld => ?_)
            · exact ⟨e1, cz1⟩
            clear hK K
            (try simp only [Act.put, List.setIfInBounds_toArray, List.set_cons_zero, List.set_cons_succ])
            refine wpAnyH_take (i := 8) (oi := ⟨_, _, _, _, _, _⟩) (v := ?_) rfl (by kernel_rfl) (by kernel_rfl) (by kernel_rfl) (fun _ _ _ h => h) (Or.inl ⟨rfl, ?_⟩) (by assumption) ?_
            rotate_left 1
            · intro w_ hSw; (try dsimp only at hSw); go_simp; (try with_reducible rfl)
            (try simp only [Act.put, List.setIfInBounds_toArray, List.set_cons_zero, List.set_cons_succ])
            refine wpAnyH_done (by kernel_rfl) ?_ _
            refine NoPanic.normal ?_
            obtain ⟨wd, hwd⟩ : ∃ wd : World, wd = wr.drew := ⟨_, rfl⟩
            rw [← hwd] at HBd ⊢
            clear hwd
            have HOn : Hid ((wd.alloc (.cells #[] 3)).ownsRow w.heap.size 3 1 (.slice (some ⟨wd.heap.size, 0, none⟩) 0 0) 0 (([] : List Int).map (Value.int .i64))) := World.ownsRow_lit (base := w.heap.size) (e := 3) (size := 1) wd #[] 0 HBd.out.bel.size (by decide) rfl
            go_wp2_with fail
            go_ret2
            rw [HF.out]
            exact ⟨_, _, _, rfl, rfl, OwnsInts.of_row HOn.out, HBd.out.bel.trans ((below_alloc wd _).mono HBd.out.bel.size)⟩
        · have hkl : ¬ (k : Int) < (l : Int) := by omega
          obtain rfl : k = l := by omega
          have HPin : Hid (pinB z1 xs = true) := by
            have h := HK.out
            rw [List.take_of_length_le (by have := HLx.out; omega)] at h
            exact h
          have HRs := Lib.hid (HS.out HPin.out)
          unfold ResL at HRs
          go_wp2_with fail
          refine (HRs.out _ HBr.out).mono ?_
          rintro e w5 ⟨ga, gm, gd, rfl, hgm, ho, b5⟩
          have HO : Hid (OwnsInts w5 w.heap.size w5.heap.size ga gm gd _) := ⟨ownsRow_base ho.row HBr.out.bel.size, ho.lt⟩
          have HB5 := Lib.hid (HBr.out.below b5).bel
          have HGm := Lib.hid hgm
          clear b5 ho hgm
          go_wp2_with fail
          go_ret2
          exact ⟨ga, gm, gd, rfl, HGm.out, HO.out, HB5.out⟩
    · have hne : ((l : Int) != z) = true := by simp [hlz]
      rw [if_neg (by rw [pmB_no2 (by rw [hlx]; exact hlz)]; simp)]
      clear hv hu hx hs hs2 ht hlx hok hok2 hty hlz
      unfold ResL
      go_enter Try.func27, Try.ntmps27
      go_wp2_with fail
      rw [← hw1]
      clear hw1
      go_wp2_with fail
      refine (HT.out _ HBx.out).mono ?_
      rintro e w2 ⟨rfl, b2⟩
      have HBx2 := Lib.hid (HBx.out.below b2)
      clear cz ca cz1 ca1
      obtain ⟨cz, ca, cz1, ca1, cB⟩ := HBx2.out
      clear b2 cB
      have HOn : Hid ((w2.alloc (.cells #[] 3)).ownsRow w.heap.size 3 1 (.slice (some ⟨w2.heap.size, 0, none⟩) 0 0) 0 (([] : List Int).map (Value.int .i64))) := World.ownsRow_lit (base := w.heap.size) (e := 3) (size := 1) w2 #[] 0 HBx2.out.bel.size (by decide) rfl
      go_wp2_with fail
      go_ret2
      exact ⟨_, _, _, rfl, rfl, OwnsInts.of_row HOn.out, HBx2.out.bel.trans ((below_alloc w2 _).mono HBx2.out.bel.size)⟩

end Go.Proofs.Ytcioekhlhgkkiaa
