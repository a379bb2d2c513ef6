/-
  Contracts: impl.mapOf, impl.homOf. Conditions: the bounds that each theorem names.
-/
import Derived.Test.YtcmjkfcgekmomaaPmI
import Derived.Test.YtcmjkfcgekmomaaFltI
import Derived.Test.YtcmjkfcgekmomaaShelf
namespace Go.Proofs.Ytcmjkfcgekmomaa
open Go.RowKit
set_option linter.unusedVariables false
set_option linter.unusedSimpArgs false

/-- The same with a zero array behind. -/
theorem bx3_new (w : World) (z : Int) (ao : Option Addr) (n c : Nat) (z1 : Int) (bo : Option Addr) (m d : Nat) : ∃ w1, w1 = (((w.alloc (.cells #[.int .i64 z, .slice ao n c] 31)).alloc (.cells #[.int .i64 z1, .slice bo m d] 31)).alloc (.cells #[.int .i64 0, .int .i64 0, .int .i64 0, .int .i64 0, .int .i64 0, .int .i64 0, .int .i64 0, .int .i64 0] 53)) ∧ Bx2 w w1 z ao n c z1 bo m d ∧ w1.heap.size = w.heap.size + 1 + 1 + 1 ∧ ArrAt w1 (w.heap.size + 1 + 1) fun _ => 0 := by
  obtain ⟨w0, h0, hb, hs⟩ := bx2_new w z ao n c z1 bo m d 31
  refine ⟨_, rfl, ?_, by simp, ?_⟩
  · rw [← h0]; exact hb.below (below_alloc _ _)
  · have h := ArrAt.new w0 fun _ => 0
    rw [hs, h0] at h
    exact h
/-- A call's array, stored in a block of its own. -/
theorem new_row (w : World) (f : Nat → Int) : ArrAt ((w.alloc (.cells (arrV fun _ => 0) 53)).setRow w.heap.size (arrV f)) w.heap.size f ∧ Below w.heap.size w ((w.alloc (.cells (arrV fun _ => 0) 53)).setRow w.heap.size (arrV f)) :=
  ⟨(ArrAt.new w fun _ => 0).setRow, below_setRow (below_alloc w _) (Nat.le_refl _) _⟩

/-- A list is a map; a homomorphism. -/
def mapB (z z1 : Int) (fs gs : List OpD) (xs : List Int) : Bool := sameH z z1 fs gs && (decide ((xs.length : Int) = z) && allIn z1 xs)
def homB (z z1 : Int) (fs gs : List OpD) (xs : List Int) : Bool := mapB z z1 fs gs xs && (faultV z z1 fs gs (arrL xs)).isNone
theorem allIn_pin (z1 : Int) (xs : List Int) : allIn z1 xs = (pinB z1 xs && !(xs.any fun y => (-1 : Int) == y)) := by
  unfold allIn pinB
  induction xs with
  | nil => rfl
  | cons x r ih =>
    rw [List.all_cons, List.all_cons, List.any_cons, ih]
    by_cases h : x = -1
    · subst h; simp
    · have h1 : ((-1 : Int) == x) = false := by simp; omega
      simp [h, h1, Bool.and_assoc]
theorem mapB_pm (z z1 : Int) (fs gs : List OpD) (xs : List Int) : mapB z z1 fs gs xs = (pmB z z1 fs gs xs && !(xs.any fun y => (-1 : Int) == y)) := by
  unfold mapB pmB
  rw [allIn_pin, Bool.and_assoc, Bool.and_assoc]
theorem mapB_of {z z1 : Int} {fs gs : List OpD} {xs : List Int} (h : mapB z z1 fs gs xs = true) : sameH z z1 fs gs = true ∧ (xs.length : Int) = z ∧ allIn z1 xs = true := by
  simpa [mapB] using h
theorem pmB_of {z z1 : Int} {fs gs : List OpD} {xs : List Int} (h : pmB z z1 fs gs xs = true) : sameH z z1 fs gs = true ∧ (xs.length : Int) = z ∧ pinB z1 xs = true := by
  simpa [pmB] using h
theorem homB_of {z z1 : Int} {fs gs : List OpD} {xs : List Int} (h : homB z z1 fs gs xs = true) : mapB z z1 fs gs xs = true ∧ faultV z z1 fs gs (arrL xs) = none := by
  simp only [homB, Bool.and_eq_true, Option.isNone_iff_eq_none] at h
  exact h
theorem full_of {z z1 : Int} {xs : List Int} (hl : (xs.length : Int) = z) (ha : allIn z1 xs = true) : Full z z1 (arrL xs) := fun k hk => by
  have hx : xs[k]? = some (xs[k]'(by omega)) := List.getElem?_eq_getElem (by omega)
  rw [arrL_get hx]
  exact allIn_get ha hx

theorem contains_any (lo hi t vc : Nat) (ao : Option Addr) (l : List Int) (x : Int) (W : World) (h : IView W lo hi ao t l) (h0 : 0 < t) (ht : t ≤ 1048576) :
    Calls Try.prog 131 #[.slice ao t vc, .int .i64 x] W fun e w' => e = .returned (.bool (l.any fun y => x == y)) ∧ w' = W := by
  have hl := h.1
  obtain ⟨b, o, rfl, _, _, hc⟩ := h.at_ h0
  refine (Try.slices_Contains (Value.int .i64) (fun x y => x == y) (EqlAt.int Try.prog 3 .i64) b o t vc l x W (by omega) (by omega) (fun j hj => by
    have hj' : j < l.length := hj
    rw [hc j _ (List.getElem?_eq_getElem hj'), getElem!_pos l j hj'])).mono fun e w' ⟨he, hw⟩ => ⟨?_, hw⟩
  rw [he, List.take_of_length_le (by omega)]

section
variable (lo hi lo2 hi2 lo3 hi3 : Nat) (z z1 : Int) (ao bo co : Option Addr) (c n d m e l : Nat) (fs gs : List OpD) (xs : List Int) (w : World)

set_option maxHeartbeats 2000000 in
set_option maxRecDepth 100000 in
theorem map_any (hv : OView w lo hi ao n fs) (hhi : hi ≤ w.heap.size) (hs : ∀ (j : Nat) (f : OpD), fs[j]? = some f → f.2.length ≤ maxLen)
    (hu : OView w lo2 hi2 bo m gs) (hhi2 : hi2 ≤ w.heap.size) (hs2 : ∀ (j : Nat) (f : OpD), gs[j]? = some f → f.2.length ≤ maxLen) (hx : IView w lo3 hi3 co l xs) (hhi3 : hi3 ≤ w.heap.size) (hl : l ≤ maxLen) :
    Calls Try.prog 94 #[.agg #[.int .i64 z, .slice ao n c], .agg #[.int .i64 z1, .slice bo m d], .slice co l e] w fun en w' => ResPm w w' (mapB z z1 fs gs xs) xs en := by
  obtain ⟨w1, hw1, hbx, hsz, hR⟩ := bx3_new w z ao n c z1 bo m d
  have hB := hbx.bel
  have HP := Lib.hid (pm_any lo hi lo2 hi2 lo3 hi3 z z1 ao bo co c n d m e l fs gs xs w1 (hv.kept (Kept.of_below hB hhi)) (Nat.le_trans hhi hB.size) hs (hu.kept (Kept.of_below hB hhi2)) (Nat.le_trans hhi2 hB.size) hs2 (hx.kept (Kept.of_below hB hhi3)) (Nat.le_trans hhi3 hB.size) hl)
  have HX := Lib.hid hx
  have HBx := Lib.hid hbx
  have HR := Lib.hid hR
  obtain ⟨cz, ca, cz1, ca1, _⟩ := hbx
  obtain ⟨t, ht⟩ : ∃ t, pmB z z1 fs gs xs = t := ⟨_, rfl⟩
  obtain ⟨f, hf⟩ : ∃ f, pmF t xs = f := ⟨_, rfl⟩
  rw [ht] at HP
  unfold ResPm at HP
  rw [hf] at HP
  have HFx := Lib.hid hf
  clear hf
  obtain ⟨r, hr⟩ : ∃ r, mapB z z1 fs gs xs = r := ⟨_, rfl⟩
  rw [hr]
  have hrt : r = (t && !(xs.any fun y => (-1 : Int) == y)) := by rw [← hr, mapB_pm, ht]
  have hR2 : t = true → ((xs.length : Int) = z ∧ algOkB z fs = true) := fun h => by
    rw [h] at ht
    obtain ⟨q1, q2, _⟩ := pmB_of ht
    exact ⟨q2, (sameH_of q1).1⟩
  have hXl := hx.1
  clear hv hu hx hs hs2 hB hR ht hr
  unfold ResPm
  go_enter Try.func94, Try.ntmps94
  go_wp2_with fail
  rw [← hw1]
  clear hw1
  go_wp2_with fail
  refine HP.out.mono ?_
  rintro e w2 ⟨rfl, b2⟩
  have HB2 := Lib.hid (HBx.out.below b2).bel
  have HR2 : Hid (ArrAt w2 (w.heap.size + 1 + 1) fun _ => 0) := HR.out.below b2 (by omega)
  have hz2 : w.heap.size + 1 + 1 < w2.heap.size := HR2.out.lt
  have HA3 := Lib.hid (ArrAt.new w2 fun _ => 0)
  obtain ⟨w3, hw3⟩ : ∃ w3, w3 = (w2.alloc (.cells (arrV fun _ => 0) 53)).setRow w2.heap.size (arrV f) := ⟨_, rfl⟩
  have HA4 : Hid (ArrAt w3 w2.heap.size f) := by unfold Hid; rw [hw3]; exact (new_row w2 f).1
  have HR4 : Hid (ArrAt w3 (w.heap.size + 1 + 1) fun _ => 0) := by unfold Hid; rw [hw3]; exact (HR2.out.alloc _).setRowOther (by omega) _
  have HB4 : Hid (Below w.heap.size w w3) := by unfold Hid; rw [hw3]; exact HB2.out.trans ((new_row w2 f).2.mono HB2.out.size)
  have HW3 := Lib.hid hw3
  clear b2 hw3 cz ca cz1 ca1 hsz
  cases t with
  | false =>
    have hrf : r = false := by rw [hrt]; rfl
    subst hrf
    have HN := Lib.hid (HR4.out.setRow (f' := fun _ => 0))
    have HN2 := Lib.hid (below_setRow HB4.out (show w.heap.size ≤ w.heap.size + 1 + 1 by omega) (arrV fun _ => 0))
    clear hrt hR2
    go_wp2_with (first | (refine st8 (w := w2.alloc (.cells (arrV fun _ => 0) 53)) HA3.out rfl _ _ rfl rfl rfl ?_; rw [← HW3.out]) | (refine st8 (f' := fun _ => 0) HR4.out rfl _ _ rfl rfl rfl ?_))
    refine bodyPost_ret (ret8b rfl _ _ _ _ rfl HN.out) rfl ⟨?_, HN2.out⟩
    rw [pmF_no]; rfl
  | true =>
    obtain ⟨q1, q2⟩ := hR2 rfl
    have hl8 : 0 < l ∧ l ≤ 8 := by have := (algOkB_of q2).1; omega
    have HC := Lib.hid (contains_any lo3 hi3 l e co xs (-1) w3 (HX.out.kept (Kept.of_below HB4.out hhi3)) hl8.1 (by omega))
    obtain ⟨u, hu⟩ : ∃ u, (xs.any fun y => (-1 : Int) == y) = u := ⟨_, rfl⟩
    rw [hu] at HC hrt
    have HFe : Hid (f = arrL xs) := by unfold Hid; rw [← HFx.out, pmF_yes]
    clear q1 q2 hR2 hu hXl hl8
    cases u with
    | true =>
      have hrf : r = false := by rw [hrt]; rfl
      subst hrf
      have HN := Lib.hid (HR4.out.setRow (f' := fun _ => 0))
      have HN2 := Lib.hid (below_setRow HB4.out (show w.heap.size ≤ w.heap.size + 1 + 1 by omega) (arrV fun _ => 0))
      clear hrt
      go_wp2_with (first | (refine st8 (w := w2.alloc (.cells (arrV fun _ => 0) 53)) HA3.out rfl _ _ rfl rfl rfl ?_; rw [← HW3.out]) | (go_at_call 131; refine HC.out.mono ?_; rintro e w4 ⟨rfl, rfl⟩) | (refine st8 (f' := fun _ => 0) HR4.out rfl _ _ rfl rfl rfl ?_))
      refine bodyPost_ret (ret8b rfl _ _ _ _ rfl HN.out) rfl ⟨?_, HN2.out⟩
      rw [pmF_no]; rfl
    | false =>
      have hrf : r = true := by rw [hrt]; rfl
      subst hrf
      have HN := Lib.hid (HR4.out.setRow (f' := f))
      have HN2 := Lib.hid (below_setRow HB4.out (show w.heap.size ≤ w.heap.size + 1 + 1 by omega) (arrV f))
      clear hrt
      go_wp2_with (first | (refine st8 (w := w2.alloc (.cells (arrV fun _ => 0) 53)) HA3.out rfl _ _ rfl rfl rfl ?_; rw [← HW3.out]) | (go_at_call 131; refine HC.out.mono ?_; rintro e w4 ⟨rfl, rfl⟩) | (refine ld8 HA4.out rfl _ rfl rfl ?_) | (refine st8 HR4.out rfl _ _ rfl rfl rfl ?_))
      refine bodyPost_ret (ret8b rfl _ _ _ _ rfl HN.out) rfl ⟨?_, HN2.out⟩
      rw [pmF_yes, ← HFe.out]; rfl

set_option maxHeartbeats 2000000 in
set_option maxRecDepth 100000 in
theorem hom_any (hv : OView w lo hi ao n fs) (hhi : hi ≤ w.heap.size) (hs : ∀ (j : Nat) (f : OpD), fs[j]? = some f → f.2.length ≤ maxLen)
    (hu : OView w lo2 hi2 bo m gs) (hhi2 : hi2 ≤ w.heap.size) (hs2 : ∀ (j : Nat) (f : OpD), gs[j]? = some f → f.2.length ≤ maxLen) (hx : IView w lo3 hi3 co l xs) (hhi3 : hi3 ≤ w.heap.size) (hl : l ≤ maxLen) :
    Calls Try.prog 53 #[.agg #[.int .i64 z, .slice ao n c], .agg #[.int .i64 z1, .slice bo m d], .slice co l e] w fun en w' => ResPm w w' (homB z z1 fs gs xs) xs en := by
  obtain ⟨w1, hw1, hbx, hsz, hR⟩ := bx3_new w z ao n c z1 bo m d
  have hB := hbx.bel
  have HP := Lib.hid (map_any lo hi lo2 hi2 lo3 hi3 z z1 ao bo co c n d m e l fs gs xs w1 (hv.kept (Kept.of_below hB hhi)) (Nat.le_trans hhi hB.size) hs (hu.kept (Kept.of_below hB hhi2)) (Nat.le_trans hhi2 hB.size) hs2 (hx.kept (Kept.of_below hB hhi3)) (Nat.le_trans hhi3 hB.size) hl)
  have HV := Lib.hid hv
  have HU := Lib.hid hu
  have HBx := Lib.hid hbx
  have HR := Lib.hid hR
  obtain ⟨cz, ca, cz1, ca1, _⟩ := hbx
  obtain ⟨t, ht⟩ : ∃ t, mapB z z1 fs gs xs = t := ⟨_, rfl⟩
  obtain ⟨f, hf⟩ : ∃ f, pmF t xs = f := ⟨_, rfl⟩
  rw [ht] at HP
  unfold ResPm at HP
  rw [hf] at HP
  have HFx := Lib.hid hf
  clear hf
  obtain ⟨r, hr⟩ : ∃ r, homB z z1 fs gs xs = r := ⟨_, rfl⟩
  rw [hr]
  have hrt : r = (t && (faultV z z1 fs gs (arrL xs)).isNone) := by rw [← hr, homB, ht]
  have HM : Hid (t = true → mapB z z1 fs gs xs = true) := fun h => by rw [ht, h]
  clear hv hu hx hs hs2 hB hR ht hr
  unfold ResPm
  go_enter Try.func53, Try.ntmps53
  go_wp2_with fail
  rw [← hw1]
  clear hw1
  go_wp2_with fail
  refine HP.out.mono ?_
  rintro e w2 ⟨rfl, b2⟩
  have HBx2 := Lib.hid (HBx.out.below b2)
  have HB2 := Lib.hid (HBx.out.below b2).bel
  have HR2 : Hid (ArrAt w2 (w.heap.size + 1 + 1) fun _ => 0) := HR.out.below b2 (by omega)
  have hz2 : w.heap.size + 1 + 1 < w2.heap.size := HR2.out.lt
  have HA3 := Lib.hid (ArrAt.new w2 fun _ => 0)
  obtain ⟨w3, hw3⟩ : ∃ w3, w3 = (w2.alloc (.cells (arrV fun _ => 0) 53)).setRow w2.heap.size (arrV f) := ⟨_, rfl⟩
  have HA4 : Hid (ArrAt w3 w2.heap.size f) := by unfold Hid; rw [hw3]; exact (new_row w2 f).1
  have HR4 : Hid (ArrAt w3 (w.heap.size + 1 + 1) fun _ => 0) := by unfold Hid; rw [hw3]; exact (HR2.out.alloc _).setRowOther (by omega) _
  have HBx4 : Hid (Bx2 w w3 z ao n c z1 bo m d) := by unfold Hid; rw [hw3]; exact HBx2.out.below (new_row w2 f).2
  have HB4 := Lib.hid HBx4.out.bel
  have HW3 := Lib.hid hw3
  clear b2 hw3 cz ca cz1 ca1 hsz
  cases t with
  | false =>
    have hrf : r = false := by rw [hrt]; rfl
    subst hrf
    have HN := Lib.hid (HR4.out.setRow (f' := fun _ => 0))
    have HN2 := Lib.hid (below_setRow HB4.out (show w.heap.size ≤ w.heap.size + 1 + 1 by omega) (arrV fun _ => 0))
    clear hrt HM
    go_wp2_with (first | (refine st8 (w := w2.alloc (.cells (arrV fun _ => 0) 53)) HA3.out rfl _ _ rfl rfl rfl ?_; rw [← HW3.out]) | (refine st8 (f' := fun _ => 0) HR4.out rfl _ _ rfl rfl rfl ?_))
    refine bodyPost_ret (ret8b rfl _ _ _ _ rfl HN.out) rfl ⟨?_, HN2.out⟩
    rw [pmF_no]; rfl
  | true =>
    obtain ⟨q1, q2, q3⟩ := mapB_of (HM.out rfl)
    obtain ⟨q4, q5, q6⟩ := sameH_of q1
    have HFe : Hid (f = arrL xs) := by unfold Hid; rw [← HFx.out, pmF_yes]
    have hfull := full_of q2 q3
    rw [← HFe.out] at hfull hrt
    have HF := Lib.hid (fault_impl lo hi lo2 hi2 z z1 ao bo c n d m fs gs f w3 (HV.out.kept (Kept.of_below HB4.out hhi)) (Nat.le_trans hhi HB4.out.size) q4 (HU.out.kept (Kept.of_below HB4.out hhi2)) (Nat.le_trans hhi2 HB4.out.size) q5 q6 hfull)
    obtain ⟨fl, hfl⟩ : ∃ fl, faultV z z1 fs gs f = fl := ⟨_, rfl⟩
    rw [hfl] at HF hrt
    unfold fltV at HF
    obtain ⟨dz, da, dz1, da1, _⟩ := HBx4.out
    clear q1 q2 q3 q4 q5 q6 hfull hfl HM
    obtain ⟨fk, hfk⟩ : ∃ k : Nat, fltK fl = k := ⟨_, rfl⟩
    obtain ⟨fx, hfx⟩ : ∃ k : Nat, fltX fl = k := ⟨_, rfl⟩
    rw [hfk, hfx] at HF
    obtain ⟨u, hu⟩ : ∃ u, fl.isSome = u := ⟨_, rfl⟩
    rw [hu] at HF
    have hru : r = !u := by rw [hrt, ← hu]; cases fl <;> rfl
    clear hfk hfx hu hrt
    go_wp2_with (first | (refine st8 (w := w2.alloc (.cells (arrV fun _ => 0) 53)) HA3.out rfl _ _ rfl rfl rfl ?_; rw [← HW3.out]) | (refine ld8 HA4.out rfl _ rfl rfl ?_))
    refine HF.out.mono ?_
    rintro e w5 ⟨rfl, b5⟩
    have HA5 : Hid (ArrAt w5 w2.heap.size f) := HA4.out.below b5 HA4.out.lt
    have HR5 : Hid (ArrAt w5 (w.heap.size + 1 + 1) fun _ => 0) := HR4.out.below b5 HR4.out.lt
    have HB5 := Lib.hid (HBx4.out.below b5).bel
    clear b5 dz da dz1 da1
    cases u with
    | true =>
      obtain rfl : r = false := hru
      have HN := Lib.hid (HR5.out.setRow (f' := fun _ => 0))
      have HN2 := Lib.hid (below_setRow HB5.out (show w.heap.size ≤ w.heap.size + 1 + 1 by omega) (arrV fun _ => 0))
      go_wp2_with (refine st8 (f' := fun _ => 0) HR5.out rfl _ _ rfl rfl rfl ?_)
      refine bodyPost_ret (ret8b rfl _ _ _ _ rfl HN.out) rfl ⟨?_, HN2.out⟩
      rw [pmF_no]; rfl
    | false =>
      obtain rfl : r = true := hru
      have HN := Lib.hid (HR5.out.setRow (f' := f))
      have HN2 := Lib.hid (below_setRow HB5.out (show w.heap.size ≤ w.heap.size + 1 + 1 by omega) (arrV f))
      go_wp2_with (first | (refine ld8 HA5.out rfl _ rfl rfl ?_) | (refine st8 HR5.out rfl _ _ rfl rfl rfl ?_))
      refine bodyPost_ret (ret8b rfl _ _ _ _ rfl HN.out) rfl ⟨?_, HN2.out⟩
      rw [pmF_yes, ← HFe.out]; rfl
end

end Go.Proofs.Ytcmjkfcgekmomaa
