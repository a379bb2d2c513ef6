/-
  Contracts: spec.l7Into at lists that may have open images, spec.l7Onto, the method walk of spec.l7Search. Conditions: the bounds that each theorem names.
-/
import Derived.Test.YtmlimbjpehjfnaaCloS
import Derived.Test.YtmlimbjpehjfnaaSrch
namespace Go.Proofs.Ytmlimbjpehjfnaa
open Go.RowKit Go.Shelf
set_option linter.unusedVariables false
set_option linter.unusedSimpArgs false

theorem arrL_lst {l : Nat} {f : Nat → Int} (ho : ∀ k : Nat, (l : Int) ≤ (k : Int) → f k = -1) : arrL (lstP l f) = f := by
  funext k
  by_cases h : k < l
  · exact arrL_get (lstP_get f h)
  · rw [arrL_out (by rw [lstP_len]; omega), ho k (by omega)]
theorem lst_pin {l : Nat} {zb : Int} {f : Nat → Int} (hp : Part (l : Int) zb f) : pinB zb (lstP l f) = true := by
  unfold pinB
  rw [List.all_eq_true]
  intro x hx
  obtain ⟨k, hk, rfl⟩ := List.mem_map.1 hx
  exact decide_eq_true (hp k (by have := List.mem_range.1 hk; omega))
theorem setG_bit {f : Nat → Int} (y : Nat) : ∀ k, (setG f k).testBit y = true ↔ ∃ i, i < k ∧ ¬ f i = -1 ∧ (f i).toNat = y := by
  intro k
  induction k with
  | zero => simp [setG]
  | succ k ih =>
    by_cases h : f k = -1
    · rw [setG_no h, ih]
      constructor
      · rintro ⟨i, a, b, c⟩; exact ⟨i, by omega, b, c⟩
      · rintro ⟨i, a, b, c⟩
        refine ⟨i, ?_, b, c⟩
        rcases Nat.lt_or_ge i k with h2 | h2
        · exact h2
        · exact absurd h (by rw [show k = i by omega]; exact b)
    · rw [setG_yes h, Nat.testBit_or, bit_pow, Bool.or_eq_true, ih, decide_eq_true_eq]
      constructor
      · rintro (⟨i, a, b, c⟩ | e)
        · exact ⟨i, by omega, b, c⟩
        · exact ⟨k, by omega, h, e⟩
      · rintro ⟨i, a, b, c⟩
        rcases Nat.lt_or_ge i k with h2 | h2
        · exact .inl ⟨i, h2, b, c⟩
        · obtain rfl : i = k := by omega
          exact .inr c
theorem oneB_more {f : Nat → Int} {l : Nat} (h : oneB f l = true) (ho : ∀ k, l ≤ k → f k = -1) : ∀ j, oneB f (l + j) = true
  | 0 => h
  | j + 1 => oneB_open (oneB_more h ho j) (ho (l + j) (Nat.le_add_right l j))
theorem mem_take_bit {l k x : Nat} {f : Nat → Int} (hp : ∀ j, j < l → f j = -1 ∨ 0 ≤ f j) (hk : k ≤ l) : ((x : Int) ∈ (lstP l f).take k) ↔ (setG f k).testBit x = true := by
  rw [setG_bit]
  constructor
  · intro h
    obtain ⟨i, hi, e⟩ := List.getElem_of_mem h
    have hik : i < k := by rw [List.length_take] at hi; omega
    have h2 : ((lstP l f).take k)[i]? = some (x : Int) := by rw [List.getElem?_eq_getElem hi, e]
    rw [List.getElem?_take, if_pos hik, lstP_get f (by omega)] at h2
    have h3 : f i = (x : Int) := Option.some.inj h2
    exact ⟨i, hik, by omega, by omega⟩
  · rintro ⟨i, a, b, e⟩
    have h3 : f i = (x : Int) := by rcases hp i (by omega) with h | h <;> omega
    have h2 : ((lstP l f).take k)[i]? = some (x : Int) := by rw [List.getElem?_take, if_pos a, lstP_get f (by omega), h3]
    exact List.mem_of_getElem? h2
theorem IView.takeG {w : World} {lo hi b o n k : Nat} {xs : List Int} (h : IView w lo hi (some ⟨b, o, none⟩) n xs) (hk : k ≤ n) : IView w lo hi (some ⟨b, o, none⟩) k (xs.take k) := by
  obtain ⟨h1, h2⟩ := h
  refine ⟨by rw [List.length_take]; omega, ?_⟩
  by_cases h0 : k = 0
  · exact .inl h0
  · rcases h2 with h2 | ⟨b2, o2, he, hl, hh, hc⟩
    · omega
    · cases he
      refine .inr ⟨b, o, rfl, hl, hh, fun j x hx => ?_⟩
      rw [List.getElem?_take] at hx
      split at hx
      · exact hc j x hx
      · cases hx

set_option maxRecDepth 100000 in
set_option maxHeartbeats 2000000 in
theorem intoG_any (bs g gd l : Nat) (zb : Int) (f : Nat → Int) (w : World) (hr : w.ownsRow bs 3 1 (.slice (some ⟨g, 0, none⟩) l gd) l ((lstP l f).map (Value.int .i64))) (hl : l ≤ 8) (hp : Part (l : Int) zb f) (ho : ∀ k : Nat, (l : Int) ≤ (k : Int) → f k = -1) :
    Calls Try.prog 63 #[.slice (some ⟨g, 0, none⟩) l gd] w fun en w' => en = .returned (.bool (oneB f 8)) ∧ Below w.heap.size w w' := by
  have HX : Hid (IView w bs w.heap.size (some ⟨g, 0, none⟩) l (lstP l f)) := (OwnsInts.of_row hr).view
  have hle : l ≤ gd ∧ gd ≤ maxLen := by
    rcases hr.2 with ⟨h1, _⟩ | ⟨_, _, _, h1, _, _, q1, q2, _⟩
    · cases h1
    · cases h1; exact ⟨q1, q2⟩
  obtain ⟨hle, hm⟩ := hle
  unfold maxLen at hm
  have HP := Lib.hid hp
  have HO := Lib.hid ho
  obtain ⟨r, hr_⟩ : ∃ r, oneB f 8 = r := ⟨_, rfl⟩
  rw [hr_]
  have HRr := Lib.hid hr_
  have HC : Hid (∀ k, k < l → w.cell? ⟨g, k, none⟩ = some (.int .i64 (f k))) := fun k hk => by
    rw [hr.cellAt k (by omega), List.getElem?_map, lstP_get f hk]; rfl
  have hgw := (hr.lt g rfl).2
  clear hr hp ho hr_
  go_enter Try.func63, Try.ntmps63
  go_wp2_with fail
  go_loopw [3] (fun i wr => ∃ k : Nat, k ≤ l ∧ i = .int .i64 (k : Int) ∧ Hid (oneB f k = true) ∧ Hid (Below w.heap.size w wr)) (fun i _ => l - (intOf i).toNat)
  case atStart => exact ⟨0, Nat.zero_le _, rfl, rfl, Below.refl _ _⟩
  case round =>
    obtain ⟨k, hk, rfl, HN, HB⟩ := hrel
    by_cases hlt : k < l
    · have hkl : (k : Int) < (l : Int) := by omega
      have hke : (k : Int) ≤ (gd : Int) := by omega
      have hx := (HB.out.cell (p := ⟨g, k, none⟩) hgw).trans (HC.out k hlt)
      have hb := HP.out k hkl
      obtain ⟨y, hy⟩ : ∃ y, f k = y := ⟨_, rfl⟩
      rw [hy] at hx hb
      have HY := Lib.hid hy
      clear hy
      rcases hb with rfl | ⟨y0, y1⟩
      · have HN2 : Hid (oneB f (k + 1) = true) := oneB_open HN.out HY.out
        have e1 : wr.cell? ⟨g, k, none⟩ = some (.int .i64 (-1)) := hx
        clear hx
        go_wp2_with fail
        refine wp_region_noPanic ?_
        refine wp_region_held_drew (S := fun W => W.cell? ⟨g, k, none⟩ = some (.int .i64 (-1))) (by kernel_rfl) ?_ (fun hHeld => ?_)
        · exact e1
        refine wpAnyH_take (i := 0) (oi := ⟨_, _, _, _, _, _⟩) (v := ?_) rfl (by kernel_rfl) (by kernel_rfl) (by kernel_rfl) (fun _ _ _ h => h) (Or.inl ⟨rfl, ?_⟩) (by assumption) ?_
        rotate_left 1
        · intro w_ hSw; (try dsimp only at hSw); go_simp; (try with_reducible rfl)
        (try simp only [Act.put, List.setIfInBounds_toArray, List.set_cons_zero, List.set_cons_succ])
        refine wpAnyH_take (i := 1) (oi := ⟨_, _, _, _, _, _⟩) (v := ?_) rfl (by kernel_rfl) (by kernel_rfl) (by kernel_rfl) (fun _ _ _ h => h) (Or.inl ⟨rfl, ?_⟩) (by assumption) ?_
        rotate_left 1
        · intro w_ hSw; (try dsimp only at hSw); go_simp; (try with_reducible rfl)
        (try simp only [Act.put, List.setIfInBounds_toArray, List.set_cons_zero, List.set_cons_succ])
        refine wpAnyH_take (i := 2) (oi := ⟨_, _, _, _, _, _⟩) (v := ?_) rfl (by kernel_rfl) (by kernel_rfl) (by kernel_rfl) (fun _ _ _ h => h) (Or.inl ⟨rfl, ?_⟩) (by assumption) ?_
        rotate_left 1
        · intro w_ hSw; (try dsimp only at hSw); go_simp; (try with_reducible rfl)
        (try simp only [Act.put, List.setIfInBounds_toArray, List.set_cons_zero, List.set_cons_succ])
        refine wpAnyH_take (i := 3) (oi := ⟨_, _, _, _, _, _⟩) (v := ?_) rfl (by kernel_rfl) (by kernel_rfl) (by kernel_rfl) (fun _ _ _ h => h) (Or.inl ⟨rfl, ?_⟩) (by assumption) ?_
        rotate_left 1
        · intro w_ hSw; (try dsimp only at hSw); go_simp; (try with_reducible rfl)
        (try simp only [Act.put, List.setIfInBounds_toArray, List.set_cons_zero, List.set_cons_succ])
        refine wpAnyH_take (i := 4) (oi := ⟨_, _, _, _, _, _⟩) (v := ?_) rfl (by kernel_rfl) (by kernel_rfl) (by kernel_rfl) (fun _ _ _ h => h) (Or.inl ⟨rfl, ?_⟩) (by assumption) ?_
        rotate_left 1
        · intro w_ hSw; (try dsimp only at hSw); go_simp; (try with_reducible rfl)
        (try simp only [Act.put, List.setIfInBounds_toArray, List.set_cons_zero, List.set_cons_succ])
        refine wpAnyH_take (i := 5) (oi := ⟨_, _, _, _, _, _⟩) (v := ?_) rfl (by kernel_rfl) (by kernel_rfl) (by kernel_rfl) (fun _ _ _ h => h) (Or.inl ⟨rfl, ?_⟩) (by assumption) ?_
        rotate_left 1
        · intro w_ hSw; (try dsimp only at hSw); go_simp; (try with_reducible rfl)
        (try simp only [Act.put, List.setIfInBounds_toArray, List.set_cons_zero, List.set_cons_succ])
        refine wpAnyH_take (i := 6) (oi := ⟨_, _, _, _, _, _⟩) (v := undef) rfl (by kernel_rfl) (by kernel_rfl) (by kernel_rfl) (fun _ _ _ h => h) (Or.inr ⟨rfl, rfl⟩) (by assumption) ?_
        (try simp only [Act.put, List.setIfInBounds_toArray, List.set_cons_zero, List.set_cons_succ])
        refine wpAnyH_take (i := 7) (oi := ⟨_, _, _, _, _, _⟩) (v := undef) rfl (by kernel_rfl) (by kernel_rfl) (by kernel_rfl) (fun _ _ _ h => h) (Or.inr ⟨rfl, rfl⟩) (by assumption) ?_
        (try simp only [Act.put, List.setIfInBounds_toArray, List.set_cons_zero, List.set_cons_succ])
        refine wpAnyH_take (i := 8) (oi := ⟨_, _, _, _, _, _⟩) (v := undef) rfl (by kernel_rfl) (by kernel_rfl) (by kernel_rfl) (fun _ _ _ h => h) (Or.inr ⟨rfl, rfl⟩) (by assumption) ?_
        (try simp only [Act.put, List.setIfInBounds_toArray, List.set_cons_zero, List.set_cons_succ])
        refine wpAnyH_take (i := 9) (oi := ⟨_, _, _, _, _, _⟩) (v := undef) rfl (by kernel_rfl) (by kernel_rfl) (by kernel_rfl) (fun _ _ _ h => h) (Or.inr ⟨rfl, rfl⟩) (by assumption) ?_
        (try simp only [Act.put, List.setIfInBounds_toArray, List.set_cons_zero, List.set_cons_succ])
        refine wpAnyH_take (i := 10) (oi := ⟨_, _, _, _, _, _⟩) (v := undef) rfl (by kernel_rfl) (by kernel_rfl) (by kernel_rfl) (fun _ _ _ h => h) (Or.inr ⟨rfl, rfl⟩) (by assumption) ?_
        (try simp only [Act.put, List.setIfInBounds_toArray, List.set_cons_zero, List.set_cons_succ])
        refine wpAnyH_take (i := 11) (oi := ⟨_, _, _, _, _, _⟩) (v := undef) rfl (by kernel_rfl) (by kernel_rfl) (by kernel_rfl) (fun _ _ _ h => h) (Or.inr ⟨rfl, rfl⟩) (by assumption) ?_
        (try simp only [Act.put, List.setIfInBounds_toArray, List.set_cons_zero, List.set_cons_succ])
        refine wpAnyH_take (i := 12) (oi := ⟨_, _, _, _, _, _⟩) (v := undef) rfl (by kernel_rfl) (by kernel_rfl) (by kernel_rfl) (fun _ _ _ h => h) (Or.inr ⟨rfl, rfl⟩) (by assumption) ?_
        (try simp only [Act.put, List.setIfInBounds_toArray, List.set_cons_zero, List.set_cons_succ])
        refine wpAnyH_take (i := 13) (oi := ⟨_, _, _, _, _, _⟩) (v := undef) rfl (by kernel_rfl) (by kernel_rfl) (by kernel_rfl) (fun _ _ _ h => h) (Or.inr ⟨rfl, rfl⟩) (by assumption) ?_
        (try simp only [Act.put, List.setIfInBounds_toArray, List.set_cons_zero, List.set_cons_succ])
        refine wpAnyH_take (i := 14) (oi := ⟨_, _, _, _, _, _⟩) (v := ?_) rfl (by kernel_rfl) (by kernel_rfl) (by kernel_rfl) (fun _ _ _ h => h) (Or.inl ⟨rfl, ?_⟩) (by assumption) ?_
        rotate_left 1
        · intro w_ hSw; (try dsimp only at hSw); go_simp; (try with_reducible rfl)
        (try simp only [Act.put, List.setIfInBounds_toArray, List.set_cons_zero, List.set_cons_succ])
        refine wpAnyH_done (by kernel_rfl) ?_ _
        refine NoPanic.normal ?_
        go_wp2_with fail
        go_roundw
        case rel => exact ⟨k + 1, by omega, by go_num, HN2, HB.out.drew⟩
        case measure => simp [intOf]; omega
      · obtain ⟨yn, rfl⟩ : ∃ yn : Nat, y = (yn : Int) := ⟨y.toNat, by omega⟩
        have e1 : wr.cell? ⟨g, k, none⟩ = some (.int .i64 (yn : Int)) := hx
        have hgd : decide (0 ≤ (yn : Int)) = true := by simp
        have hmb := mem_take_bit (x := yn) (k := k) (l := l) (f := f) (fun j hj => (HP.out j (by omega)).imp id And.left) hk
        have hhas := fun (W : World) (hW : Kept bs w.heap.size w W) => l1Has_any bs w.heap.size (some ⟨g, 0, none⟩) gd k ((lstP l f).take k) (yn : Int) W ((HX.out.kept hW).takeG hk) (by unfold maxLen; omega)
        clear hx y0 y1
        by_cases hmem : (yn : Int) ∈ (lstP l f).take k
        · have HF : Hid (r = false) := by
            unfold Hid; rw [← HRr.out]
            exact oneB_twice (by rw [HY.out]; omega) (by rw [HY.out, Int.toNat_natCast]; exact hmb.1 hmem) 8 (by omega)
          simp only [decide_eq_true hmem] at hhas
          have HH := Lib.hid hhas
          clear hmem hhas hmb
          go_wp2_with fail
          refine wp_region_noPanic ?_
          refine wp_region_held_drew (S := fun W => W.cell? ⟨g, k, none⟩ = some (.int .i64 (yn : Int))) (by kernel_rfl) ?_ (fun hHeld => ?_)
          · exact e1
          refine wpAnyH_take (i := 0) (oi := ⟨_, _, _, _, _, _⟩) (v := ?_) rfl (by kernel_rfl) (by kernel_rfl) (by kernel_rfl) (fun _ _ _ h => h) (Or.inl ⟨rfl, ?_⟩) (by assumption) ?_
          rotate_left 1
          · intro w_ hSw; (try dsimp only at hSw); go_simp; (try with_reducible rfl)
          (try simp only [Act.put, List.setIfInBounds_toArray, List.set_cons_zero, List.set_cons_succ])
          refine wpAnyH_take (i := 1) (oi := ⟨_, _, _, _, _, _⟩) (v := ?_) rfl (by kernel_rfl) (by kernel_rfl) (by kernel_rfl) (fun _ _ _ h => h) (Or.inl ⟨rfl, ?_⟩) (by assumption) ?_
          rotate_left 1
          · intro w_ hSw; (try dsimp only at hSw); go_simp; (try with_reducible rfl)
          (try simp only [Act.put, List.setIfInBounds_toArray, List.set_cons_zero, List.set_cons_succ])
          refine wpAnyH_take (i := 2) (oi := ⟨_, _, _, _, _, _⟩) (v := ?_) rfl (by kernel_rfl) (by kernel_rfl) (by kernel_rfl) (fun _ _ _ h => h) (Or.inl ⟨rfl, ?_⟩) (by assumption) ?_
          rotate_left 1
          · intro w_ hSw; (try dsimp only at hSw); go_simp; (try with_reducible rfl)
          (try simp only [Act.put, List.setIfInBounds_toArray, List.set_cons_zero, List.set_cons_succ])
          refine wpAnyH_take (i := 3) (oi := ⟨_, _, _, _, _, _⟩) (v := ?_) rfl (by kernel_rfl) (by kernel_rfl) (by kernel_rfl) (fun _ _ _ h => h) (Or.inl ⟨rfl, ?_⟩) (by assumption) ?_
          rotate_left 1
          · intro w_ hSw; (try dsimp only at hSw); go_simp; (try with_reducible rfl)
          (try simp only [Act.put, List.setIfInBounds_toArray, List.set_cons_zero, List.set_cons_succ])
          refine wpAnyH_take (i := 4) (oi := ⟨_, _, _, _, _, _⟩) (v := ?_) rfl (by kernel_rfl) (by kernel_rfl) (by kernel_rfl) (fun _ _ _ h => h) (Or.inl ⟨rfl, ?_⟩) (by assumption) ?_
          rotate_left 1
          · intro w_ hSw; (try dsimp only at hSw); go_simp; (try with_reducible rfl)
          (try simp only [Act.put, List.setIfInBounds_toArray, List.set_cons_zero, List.set_cons_succ])
          refine wpAnyH_take (i := 5) (oi := ⟨_, _, _, _, _, _⟩) (v := ?_) rfl (by kernel_rfl) (by kernel_rfl) (by kernel_rfl) (fun _ _ _ h => h) (Or.inl ⟨rfl, ?_⟩) (by assumption) ?_
          rotate_left 1
          · intro w_ hSw; (try dsimp only at hSw); go_simp; (try with_reducible rfl)
          (try simp only [Act.put, List.setIfInBounds_toArray, List.set_cons_zero, List.set_cons_succ])
          refine wpAnyH_take (i := 6) (oi := ⟨_, _, _, _, _, _⟩) (v := ?_) rfl (by kernel_rfl) (by kernel_rfl) (by kernel_rfl) (fun _ _ _ h => h) (Or.inl ⟨rfl, ?_⟩) (by assumption) ?_
          rotate_left 1
          · intro w_ hSw; (try dsimp only at hSw); go_simp; (try with_reducible rfl)
          (try simp only [Act.put, List.setIfInBounds_toArray, List.set_cons_zero, List.set_cons_succ])
          refine wpAnyH_take (i := 7) (oi := ⟨_, _, _, _, _, _⟩) (v := ?_) rfl (by kernel_rfl) (by kernel_rfl) (by kernel_rfl) (fun _ _ _ h => h) (Or.inl ⟨rfl, ?_⟩) (by assumption) ?_
          rotate_left 1
          · intro w_ hSw; (try dsimp only at hSw); go_simp; (try with_reducible rfl)
          (try simp only [Act.put, List.setIfInBounds_toArray, List.set_cons_zero, List.set_cons_succ])
          refine wpAnyH_take (i := 8) (oi := ⟨_, _, _, _, _, _⟩) (v := ?_) rfl (by kernel_rfl) (by kernel_rfl) (by kernel_rfl) (fun _ _ _ h => h) (Or.inl ⟨rfl, ?_⟩) (by assumption) ?_
          rotate_left 1
          · intro w_ hSw; (try dsimp only at hSw); go_simp; (try with_reducible rfl)
          (try simp only [Act.put, List.setIfInBounds_toArray, List.set_cons_zero, List.set_cons_succ])
          refine wpAnyH_take (i := 9) (oi := ⟨_, _, _, _, _, _⟩) (v := ?_) rfl (by kernel_rfl) (by kernel_rfl) (by kernel_rfl) (fun _ _ _ h => h) (Or.inl ⟨rfl, ?_⟩) (by assumption) ?_
          rotate_left 1
          · intro w_ hSw; (try dsimp only at hSw); go_simp; (try with_reducible rfl)
          (try simp only [Act.put, List.setIfInBounds_toArray, List.set_cons_zero, List.set_cons_succ])
          refine wpAnyH_take (i := 10) (oi := ⟨_, _, _, _, _, _⟩) (v := ?_) rfl (by kernel_rfl) (by kernel_rfl) (by kernel_rfl) (fun _ _ _ h => h) (Or.inl ⟨rfl, ?_⟩) (by assumption) ?_
          rotate_left 1
          · intro w_ hSw; (try dsimp only at hSw); go_simp; (try with_reducible rfl)
          (try simp only [Act.put, List.setIfInBounds_toArray, List.set_cons_zero, List.set_cons_succ])
          refine wpAnyH_take (i := 11) (oi := ⟨_, _, _, _, _, _⟩) (v := ?_) rfl (by kernel_rfl) (by kernel_rfl) (by kernel_rfl) (fun _ _ _ h => h) (Or.inl ⟨rfl, ?_⟩) (by assumption) ?_
          rotate_left 1
          · intro w_ hSw; (try dsimp only at hSw); go_simp; (try with_reducible rfl)
          (try simp only [Act.put, List.setIfInBounds_toArray, List.set_cons_zero, List.set_cons_succ])
          refine wpAnyH_take (i := 12) (oi := ⟨_, _, _, _, _, _⟩) (v := ?_) rfl (by kernel_rfl) (by kernel_rfl) (by kernel_rfl) (fun _ _ _ h => h) (Or.inl ⟨rfl, ?_⟩) (by assumption) ?_
          rotate_left 1
          · intro w_ hSw; (try dsimp only at hSw); go_simp; (try with_reducible rfl)
          (try simp only [Act.put, List.setIfInBounds_toArray, List.set_cons_zero, List.set_cons_succ])
          refine wpAnyH_ready (rs := [13]) (by kernel_rfl) (by simp) ?_
          refine AllReadyH.cons (o := ⟨_, _, _, _, _, _⟩) rfl (fun K hK => ?_) AllReadyH.nil
          go_simp
          go_at_call 74
          refine (HH.out _ (Kept.of_below HB.out.drew (Nat.le_refl _))).mono ?_
          rintro e w3 ⟨rfl, rfl⟩
          go_wp2_with fail
          refine hK.out _ _ ?_ (fun hHeld => ?_)
          · exact e1
          clear hK K
          (try simp only [Act.put, List.setIfInBounds_toArray, List.set_cons_zero, List.set_cons_succ])
          refine wpAnyH_take (i := 14) (oi := ⟨_, _, _, _, _, _⟩) (v := ?_) rfl (by kernel_rfl) (by kernel_rfl) (by kernel_rfl) (fun _ _ _ h => h) (Or.inl ⟨rfl, ?_⟩) (by assumption) ?_
          rotate_left 1
          · intro w_ hSw; (try dsimp only at hSw); go_simp; (try with_reducible rfl)
          (try simp only [Act.put, List.setIfInBounds_toArray, List.set_cons_zero, List.set_cons_succ])
          refine wpAnyH_done (by kernel_rfl) ?_ _
          refine NoPanic.normal ?_
          go_wp2_with fail
          go_ret
          exact ⟨ret_bool HF.out.symm, HB.out.drew⟩
        · have HN2 : Hid (oneB f (k + 1) = true) := oneB_new HN.out (by
            rw [HY.out, Int.toNat_natCast]
            cases hb : (setG f k).testBit yn with
            | false => rfl
            | true => exact absurd (hmb.2 hb) hmem)
          simp only [decide_eq_false hmem] at hhas
          have HH := Lib.hid hhas
          clear hmem hhas hmb
          go_wp2_with fail
          refine wp_region_noPanic ?_
          refine wp_region_held_drew (S := fun W => W.cell? ⟨g, k, none⟩ = some (.int .i64 (yn : Int))) (by kernel_rfl) ?_ (fun hHeld => ?_)
          · exact e1
          refine wpAnyH_take (i := 0) (oi := ⟨_, _, _, _, _, _⟩) (v := ?_) rfl (by kernel_rfl) (by kernel_rfl) (by kernel_rfl) (fun _ _ _ h => h) (Or.inl ⟨rfl, ?_⟩) (by assumption) ?_
          rotate_left 1
          · intro w_ hSw; (try dsimp only at hSw); go_simp; (try with_reducible rfl)
          (try simp only [Act.put, List.setIfInBounds_toArray, List.set_cons_zero, List.set_cons_succ])
          refine wpAnyH_take (i := 1) (oi := ⟨_, _, _, _, _, _⟩) (v := ?_) rfl (by kernel_rfl) (by kernel_rfl) (by kernel_rfl) (fun _ _ _ h => h) (Or.inl ⟨rfl, ?_⟩) (by assumption) ?_
          rotate_left 1
          · intro w_ hSw; (try dsimp only at hSw); go_simp; (try with_reducible rfl)
          (try simp only [Act.put, List.setIfInBounds_toArray, List.set_cons_zero, List.set_cons_succ])
          refine wpAnyH_take (i := 2) (oi := ⟨_, _, _, _, _, _⟩) (v := ?_) rfl (by kernel_rfl) (by kernel_rfl) (by kernel_rfl) (fun _ _ _ h => h) (Or.inl ⟨rfl, ?_⟩) (by assumption) ?_
          rotate_left 1
          · intro w_ hSw; (try dsimp only at hSw); go_simp; (try with_reducible rfl)
          (try simp only [Act.put, List.setIfInBounds_toArray, List.set_cons_zero, List.set_cons_succ])
          refine wpAnyH_take (i := 3) (oi := ⟨_, _, _, _, _, _⟩) (v := ?_) rfl (by kernel_rfl) (by kernel_rfl) (by kernel_rfl) (fun _ _ _ h => h) (Or.inl ⟨rfl, ?_⟩) (by assumption) ?_
          rotate_left 1
          · intro w_ hSw; (try dsimp only at hSw); go_simp; (try with_reducible rfl)
          (try simp only [Act.put, List.setIfInBounds_toArray, List.set_cons_zero, List.set_cons_succ])
          refine wpAnyH_take (i := 4) (oi := ⟨_, _, _, _, _, _⟩) (v := ?_) rfl (by kernel_rfl) (by kernel_rfl) (by kernel_rfl) (fun _ _ _ h => h) (Or.inl ⟨rfl, ?_⟩) (by assumption) ?_
          rotate_left 1
          · intro w_ hSw; (try dsimp only at hSw); go_simp; (try with_reducible rfl)
          (try simp only [Act.put, List.setIfInBounds_toArray, List.set_cons_zero, List.set_cons_succ])
          refine wpAnyH_take (i := 5) (oi := ⟨_, _, _, _, _, _⟩) (v := ?_) rfl (by kernel_rfl) (by kernel_rfl) (by kernel_rfl) (fun _ _ _ h => h) (Or.inl ⟨rfl, ?_⟩) (by assumption) ?_
          rotate_left 1
          · intro w_ hSw; (try dsimp only at hSw); go_simp; (try with_reducible rfl)
          (try simp only [Act.put, List.setIfInBounds_toArray, List.set_cons_zero, List.set_cons_succ])
          refine wpAnyH_take (i := 6) (oi := ⟨_, _, _, _, _, _⟩) (v := ?_) rfl (by kernel_rfl) (by kernel_rfl) (by kernel_rfl) (fun _ _ _ h => h) (Or.inl ⟨rfl, ?_⟩) (by assumption) ?_
          rotate_left 1
          · intro w_ hSw; (try dsimp only at hSw); go_simp; (try with_reducible rfl)
          (try simp only [Act.put, List.setIfInBounds_toArray, List.set_cons_zero, List.set_cons_succ])
          refine wpAnyH_take (i := 7) (oi := ⟨_, _, _, _, _, _⟩) (v := ?_) rfl (by kernel_rfl) (by kernel_rfl) (by kernel_rfl) (fun _ _ _ h => h) (Or.inl ⟨rfl, ?_⟩) (by assumption) ?_
          rotate_left 1
          · intro w_ hSw; (try dsimp only at hSw); go_simp; (try with_reducible rfl)
          (try simp only [Act.put, List.setIfInBounds_toArray, List.set_cons_zero, List.set_cons_succ])
          refine wpAnyH_take (i := 8) (oi := ⟨_, _, _, _, _, _⟩) (v := ?_) rfl (by kernel_rfl) (by kernel_rfl) (by kernel_rfl) (fun _ _ _ h => h) (Or.inl ⟨rfl, ?_⟩) (by assumption) ?_
          rotate_left 1
          · intro w_ hSw; (try dsimp only at hSw); go_simp; (try with_reducible rfl)
          (try simp only [Act.put, List.setIfInBounds_toArray, List.set_cons_zero, List.set_cons_succ])
          refine wpAnyH_take (i := 9) (oi := ⟨_, _, _, _, _, _⟩) (v := ?_) rfl (by kernel_rfl) (by kernel_rfl) (by kernel_rfl) (fun _ _ _ h => h) (Or.inl ⟨rfl, ?_⟩) (by assumption) ?_
          rotate_left 1
          · intro w_ hSw; (try dsimp only at hSw); go_simp; (try with_reducible rfl)
          (try simp only [Act.put, List.setIfInBounds_toArray, List.set_cons_zero, List.set_cons_succ])
          refine wpAnyH_take (i := 10) (oi := ⟨_, _, _, _, _, _⟩) (v := ?_) rfl (by kernel_rfl) (by kernel_rfl) (by kernel_rfl) (fun _ _ _ h => h) (Or.inl ⟨rfl, ?_⟩) (by assumption) ?_
          rotate_left 1
          · intro w_ hSw; (try dsimp only at hSw); go_simp; (try with_reducible rfl)
          (try simp only [Act.put, List.setIfInBounds_toArray, List.set_cons_zero, List.set_cons_succ])
          refine wpAnyH_take (i := 11) (oi := ⟨_, _, _, _, _, _⟩) (v := ?_) rfl (by kernel_rfl) (by kernel_rfl) (by kernel_rfl) (fun _ _ _ h => h) (Or.inl ⟨rfl, ?_⟩) (by assumption) ?_
          rotate_left 1
          · intro w_ hSw; (try dsimp only at hSw); go_simp; (try with_reducible rfl)
          (try simp only [Act.put, List.setIfInBounds_toArray, List.set_cons_zero, List.set_cons_succ])
          refine wpAnyH_take (i := 12) (oi := ⟨_, _, _, _, _, _⟩) (v := ?_) rfl (by kernel_rfl) (by kernel_rfl) (by kernel_rfl) (fun _ _ _ h => h) (Or.inl ⟨rfl, ?_⟩) (by assumption) ?_
          rotate_left 1
          · intro w_ hSw; (try dsimp only at hSw); go_simp; (try with_reducible rfl)
          (try simp only [Act.put, List.setIfInBounds_toArray, List.set_cons_zero, List.set_cons_succ])
          refine wpAnyH_ready (rs := [13]) (by kernel_rfl) (by simp) ?_
          refine AllReadyH.cons (o := ⟨_, _, _, _, _, _⟩) rfl (fun K hK => ?_) AllReadyH.nil
          go_simp
          go_at_call 74
          refine (HH.out _ (Kept.of_below HB.out.drew (Nat.le_refl _))).mono ?_
          rintro e w3 ⟨rfl, rfl⟩
          go_wp2_with fail
          refine hK.out _ _ ?_ (fun hHeld => ?_)
          · exact e1
          clear hK K
          (try simp only [Act.put, List.setIfInBounds_toArray, List.set_cons_zero, List.set_cons_succ])
          refine wpAnyH_take (i := 14) (oi := ⟨_, _, _, _, _, _⟩) (v := ?_) rfl (by kernel_rfl) (by kernel_rfl) (by kernel_rfl) (fun _ _ _ h => h) (Or.inl ⟨rfl, ?_⟩) (by assumption) ?_
          rotate_left 1
          · intro w_ hSw; (try dsimp only at hSw); go_simp; (try with_reducible rfl)
          (try simp only [Act.put, List.setIfInBounds_toArray, List.set_cons_zero, List.set_cons_succ])
          refine wpAnyH_done (by kernel_rfl) ?_ _
          refine NoPanic.normal ?_
          go_wp2_with fail
          go_roundw
          case rel => exact ⟨k + 1, by omega, by go_num, HN2, HB.out.drew⟩
          case measure => simp [intOf]; omega
    · have hkl : ¬ (k : Int) < (l : Int) := by omega
      obtain rfl : k = l := by omega
      have HT : Hid (r = true) := by
        unfold Hid; rw [← HRr.out]
        have h := oneB_more HN.out (fun j hj => HO.out j (by omega)) (8 - k)
        rw [show k + (8 - k) = 8 by omega] at h
        exact h
      go_wp2_with fail
      go_ret
      exact ⟨ret_bool HT.out.symm, HB.out⟩

/-- All elements are images. -/
def ontoB (zb : Nat) (ys : List Int) : Bool := (List.range zb).all fun y => decide ((y : Int) ∈ ys)
theorem ontoB_no {zb k : Nat} {ys : List Int} (hk : k < zb) (h : ¬ (k : Int) ∈ ys) : ontoB zb ys = false := by
  rw [← Bool.not_eq_true]
  intro ha
  exact h (of_decide_eq_true (List.all_eq_true.1 ha k (List.mem_range.2 hk)))
theorem ontoB_yes {zb : Nat} {ys : List Int} (h : ∀ k, k < zb → (k : Int) ∈ ys) : ontoB zb ys = true :=
  List.all_eq_true.2 fun k hk => decide_eq_true (h k (List.mem_range.1 hk))

set_option maxHeartbeats 1000000 in
theorem onto_spec (lo hi l gd zb : Nat) (ga : Option Addr) (ys : List Int) (w : World) (hx : IView w lo hi ga l ys) (hl : l ≤ 8) (hz : zb ≤ 8) :
    Calls Try.prog 76 #[.int .i64 (zb : Int), .slice ga l gd] w fun en w' => en = .returned (.bool (ontoB zb ys)) ∧ w' = w := by
  have HH := Lib.hid (fun (x : Int) => l1Has_any lo hi ga gd l ys x w hx (by unfold maxLen; omega))
  obtain ⟨r, hr⟩ : ∃ r, ontoB zb ys = r := ⟨_, rfl⟩
  rw [hr]
  have HR := Lib.hid hr
  clear hx hr
  go_enter Try.func76, Try.ntmps76
  go_wp2_with fail
  go_loop [5] (fun i => ∃ k : Nat, k ≤ zb ∧ i = .int .i64 (k : Int) ∧ Hid (∀ j : Nat, j < k → (j : Int) ∈ ys)) (fun i => zb - (intOf i).toNat)
  case atStart => exact ⟨0, Nat.zero_le _, rfl, fun j hj => by omega⟩
  case round =>
    obtain ⟨k, hk, rfl, HN⟩ := hrel
    by_cases hlt : k < zb
    · have hkl : (k : Int) < (zb : Int) := by omega
      have hh := HH.out (k : Int)
      by_cases hmem : (k : Int) ∈ ys
      · have HN2 : Hid (∀ j : Nat, j < k + 1 → (j : Int) ∈ ys) := fun j hj => by
          by_cases e : j = k
          · subst e; exact hmem
          · exact HN.out j (by omega)
        rw [decide_eq_true hmem] at hh
        have HH2 := Lib.hid hh
        clear hh hmem
        go_wp2_with fail
        refine HH2.out.mono ?_
        rintro e w' ⟨rfl, rfl⟩
        go_wp2_with fail
        go_round
        case rel => exact ⟨k + 1, by omega, by go_num, HN2⟩
        case measure => simp [intOf]; omega
      · have HF : Hid (r = false) := by unfold Hid; rw [← HR.out]; exact ontoB_no hlt hmem
        rw [decide_eq_false hmem] at hh
        have HH2 := Lib.hid hh
        clear hh hmem
        go_wp2_with fail
        refine HH2.out.mono ?_
        rintro e w' ⟨rfl, rfl⟩
        go_wp2_with fail
        go_ret
        exact ⟨ret_bool HF.out.symm, rfl⟩
    · have hkl : ¬ (k : Int) < (zb : Int) := by omega
      have HT : Hid (r = true) := by unfold Hid; rw [← HR.out]; exact ontoB_yes fun j hj => HN.out j (by omega)
      go_wp2_with fail
      go_ret
      exact ⟨ret_bool HT.out.symm, rfl⟩

theorem infoIntsW : (Try.prog.info? 42).map (fun i => (i.zero, i.size, i.bytes)) = some (some (.slice none 0 0), 1, 24) := by kernel_rfl
def tS (T : Nat) : Bool := T == 42 || T == 80
def tR (T : Nat) : Bool := T == 42
def tQ (T : Nat) : Bool := T == 80
theorem tR_S : ∀ T, tR T = true → tS T = true := fun T h => by unfold tR at h; unfold tS; rw [h]; rfl
theorem tQ_S : ∀ T, tQ T = true → tS T = true := fun T h => by unfold tQ at h; unfold tS; rw [h]; simp
def spV (l zb : Nat) (ao bo : Option Addr) (c n d m : Nat) (into onto : Bool) (most t : Nat) (fv : Value) : Array Value := #[.int .i64 (l : Int), .slice ao n c, .int .i64 (zb : Int), .slice bo m d, .bool into, .bool onto, .int .i64 (most : Int), .int .i64 (t : Int), fv]
/-- What has been found, as slices of lists of the search's own. -/
def FndV (bs l : Nat) (W : World) (ms : List (List Int)) (vals : List Value) : Prop :=
  ∀ (j : Nat) (xs : List Int), ms[j]? = some xs → ∃ (g gd : Nat), vals[j]? = some (.slice (some ⟨g, 0, none⟩) l gd) ∧ xs.length = l ∧ W.ownsRow bs 3 1 (.slice (some ⟨g, 0, none⟩) l gd) l (xs.map (Value.int .i64))
theorem FndV.turn {bs l : Nat} {W W' : World} {ms : List (List Int)} {vals : List Value} (h : FndV bs l W ms vals) (t : Turn bs tS W W') : FndV bs l W' ms vals := fun j xs hj => by
  obtain ⟨g, gd, a, b, c⟩ := h j xs hj
  exact ⟨g, gd, a, b, t.row c rfl⟩
/-- The world of a search of the model. -/
def SpW (l zb : Nat) (ao bo : Option Addr) (c n d m : Nat) (w0 : World) (bs P : Nat) (into onto : Bool) (most : Nat) (W : World) (s : St) : Prop :=
  ∃ fa fc vals, W.heap[P]? = some (.cells (spV l zb ao bo c n d m into onto most s.1 (.slice fa s.2.length fc)) 80 (0, 0)) ∧ W.ownsRow bs 42 1 (.slice fa s.2.length fc) s.2.length vals ∧ FndV bs l W s.2 vals ∧ Below bs w0 W ∧ bs ≤ W.heap.size
section
variable {l zb : Nat} {fs gs : List OpD} {lo hi lo2 hi2 : Nat} {ao bo : Option Addr} {c n d m : Nat} {w0 : World} {bs P : Nat} {into onto : Bool} {most : Nat}
theorem SpW.below {W W' : World} {s : St} (h : SpW l zb ao bo c n d m w0 bs P into onto most W s) (b : Below W.heap.size W W') : SpW l zb ao bo c n d m w0 bs P into onto most W' s := by
  obtain ⟨fa, fc, vals, h1, h2, h3, h4, h5⟩ := h
  exact ⟨fa, fc, vals, (b.block P (Array.getElem?_eq_some_iff.1 h1).1).trans h1, h2.kept (grown_of_below b none) (own_em _), h3.turn (.of_below b), h4.trans (b.mono h5), Nat.le_trans h5 b.size⟩
theorem SpW.tick {W : World} {t : Nat} {ms : List (List Int)} (h : SpW l zb ao bo c n d m w0 bs P into onto most W (t, ms)) (hP : bs ≤ P) : SpW l zb ao bo c n d m w0 bs P into onto most (W.setCell ⟨P, 7, none⟩ (.int .i64 ((t : Int) + 1))) (t + 1, ms) := by
  obtain ⟨fa, fc, vals, h1, h2, h3, h4, h5⟩ := h
  have tt : Turn bs tS W (W.setCell ⟨P, 7, none⟩ (.int .i64 ((t : Int) + 1))) := Turn.setCell h1 hP rfl 7 _
  refine ⟨fa, fc, vals, ?_, ?_, h3.turn tt, h4.trans (tt.below h5), Nat.le_trans h5 tt.size⟩
  · rw [setCell_eq_setRow W P 7 _ _ _ _ h1, setRow_heap W P _ _ _ _ h1]
    show some (Obj.cells (spV l zb ao bo c n d m into onto most t (.slice fa ms.length fc) |>.setIfInBounds 7 _) _ _) = _
    rw [show ((t : Int) + 1) = ((t + 1 : Nat) : Int) by omega]
    rfl
  · refine ownsRow_block h2 fun g hg => ?_
    rcases h2.2 with ⟨e1, _⟩ | ⟨g2, cap, cur, e1, _, hb, _⟩
    · have e2 := congrArg Value.ownBlock e1
      rw [hg] at e2; simp [Value.ownBlock] at e2
    · rw [e1] at hg
      have e2 : g2 = g := by simpa [Value.ownBlock] using hg
      subst e2
      refine Below.heap_setCell _ _ _ _ (fun e => ?_)
      have e' : g2 = P := e
      subst e'
      rw [h1] at hb
      injection hb with hb
      injection hb with _ e3 _
      exact absurd e3 (by decide)

/-- What a call of walk gives. -/
def WkRes (l zb : Nat) (ao bo : Option Addr) (c n d m : Nat) (w0 : World) (bs P : Nat) (into onto : Bool) (most : Nat) (W W' : World) (s' : St) (e : Ending) : Prop :=
  e = .returned (.tuple #[]) ∧ SpW l zb ao bo c n d m w0 bs P into onto most W' s' ∧ Turn bs tS W W'
def leadB (into : Bool) (f : Nat → Int) : Bool := !into || oneB f 8
def wantB (l zb : Nat) (onto : Bool) (f : Nat → Int) : Bool := !onto || ontoB zb (lstP l f)

set_option maxHeartbeats 40000000 in
set_option maxRecDepth 100000 in
theorem walk_any (hv : OView w0 lo hi ao n fs) (hhi : hi ≤ bs) (hu : OView w0 lo2 hi2 bo m gs) (hhi2 : hi2 ≤ bs) (hok : algOkB (l : Int) fs = true) (hok2 : algOkB (zb : Int) gs = true) (hty : typeV fs = typeV gs) (hP : bs ≤ P) (hmost : most ≤ 1000) :
    ∀ (dd : Nat) (f : Nat → Int) (s : St) (W : World) (g gd : Nat), opens f 8 < dd → Part (l : Int) (zb : Int) f → (∀ k : Nat, (l : Int) ≤ (k : Int) → f k = -1) → alive most s = true → SpW l zb ao bo c n d m w0 bs P into onto most W s → W.ownsRow bs 3 1 (.slice (some ⟨g, 0, none⟩) l gd) l ((lstP l f).map (Value.int .i64)) →
    Calls Try.prog 64 #[.pointer (some ⟨P, 0, none⟩), .slice (some ⟨g, 0, none⟩) l gd] W fun e W' => WkRes l zb ao bo c n d m w0 bs P into onto most W W' (walkS l zb fs gs (leadB into) (wantB l zb onto) most dd f s) e := by
  intro dd
  induction dd with
  | zero => intro f s W g gd h; omega
  | succ dd ih =>
    intro f s W g gd hop hp ho hal hW hrow
    have IH := Lib.hid ih
    obtain ⟨⟨h1, h2⟩, _⟩ := algOkB_of hok
    obtain ⟨⟨k1, k2⟩, _⟩ := algOkB_of hok2
    have hl8 : l ≤ 8 := by omega
    have hz8 : zb ≤ 8 := by omega
    obtain ⟨t0, ms0⟩ := s
    have HQ : Hid ((Part (l : Int) (zb : Int) f ∧ ∀ k : Nat, (l : Int) ≤ (k : Int) → f k = -1) ∧ opens f 8 < dd + 1) := ⟨⟨hp, ho⟩, hop⟩
    have HAl := Lib.hid hal
    have HS0 := Lib.hid hW
    have HRf0 := Lib.hid hrow
    obtain ⟨rs, hrs⟩ : ∃ rs, walkS l zb fs gs (leadB into) (wantB l zb onto) most (dd + 1) f (t0, ms0) = rs := ⟨_, rfl⟩
    have HRs := Lib.hid hrs
    have HC : Hid (∀ (V : World), V.ownsRow bs 3 1 (.slice (some ⟨g, 0, none⟩) l gd) l ((lstP l f).map (Value.int .i64)) → ∀ k, k < l → V.cell? ⟨g, k, none⟩ = some (.int .i64 (f k))) := fun V hV k hk => by
      rw [hV.cellAt k (by omega), List.getElem?_map, lstP_get f hk]; rfl
    have HClose : Hid (∀ (V : World) (s2 : St) (f2 : Nat → Int) (ga : Option Addr) (gd2 : Nat), SpW l zb ao bo c n d m w0 bs P into onto most V s2 → IView V bs V.heap.size ga l (lstP l f2) → Part (l : Int) (zb : Int) f2 → (∀ k : Nat, (l : Int) ≤ (k : Int) → f2 k = -1) → Calls Try.prog 62 #[.agg #[.int .i64 (l : Int), .slice ao n c], .agg #[.int .i64 (zb : Int), .slice bo m d], .slice ga l gd2] V fun en w' => ResL V w' (cloL l (closV (l : Int) (zb : Int) fs gs f2)) (closV (l : Int) (zb : Int) fs gs f2).isSome en) := fun V s2 f2 ga gd2 hV hI hp2 ho2 => by
      obtain ⟨fa, fc, vals, a1, a2, a3, a4, a5⟩ := hV
      have h := close_spec lo hi lo2 hi2 bs V.heap.size (l : Int) (zb : Int) ao bo ga c n d m gd2 l fs gs (lstP l f2) V (hv.kept (Kept.of_below a4 hhi)) (Nat.le_trans hhi a5) (hu.kept (Kept.of_below a4 hhi2)) (Nat.le_trans hhi2 a5) hI (Nat.le_refl _) hok hok2 hty rfl (lst_pin hp2)
      rw [arrL_lst ho2] at h
      exact h
    have HKeep : Hid (∀ (f2 c2 : Nat → Int), Part (l : Int) (zb : Int) f2 → (∀ k : Nat, (l : Int) ≤ (k : Int) → f2 k = -1) → closV (l : Int) (zb : Int) fs gs f2 = some c2 → (Part (l : Int) (zb : Int) c2 ∧ ∀ k : Nat, (l : Int) ≤ (k : Int) → c2 k = -1) ∧ More f2 c2) := fun f2 c2 a b e => closV_keep hok hok2 hty a b e
    rw [hrs]
    unfold WkRes
    clear hv hu hok hok2 hty hp ho hal hW hrow ih hrs hop
    go_enter Try.func64, Try.ntmps64
    go_wp2_with fail
    go_loop [4] (fun i => ∃ k : Nat, k ≤ l ∧ i = .int .i64 (k : Int) ∧ Hid (∀ j, j < k → ¬ f j = -1)) (fun i => l - (intOf i).toNat)
    case atStart => exact ⟨0, Nat.zero_le _, rfl, fun j hj => by omega⟩
    case round =>
      obtain ⟨x, hx, rfl, HN⟩ := hrel
      obtain ⟨fa, fc, vals, a1, a2, a3, a4, a5⟩ := HS0.out
      have HFnd := Lib.hid (And.intro a1 (And.intro a2 (And.intro a3 (And.intro a4 a5))))
      by_cases hxl : x < l
      · have hxl' : (x : Int) < (l : Int) := by omega
        have e1 := HC.out W HRf0.out x hxl
        have hb := HQ.out.1.1 x hxl'
        obtain ⟨u, hu_⟩ : ∃ u, f x = u := ⟨_, rfl⟩
        rw [hu_] at e1 hb
        have HUx := Lib.hid hu_
        clear hu_ a1 a2 a3 a4 a5
        rcases hb with rfl | ⟨u0, u1⟩
        · have HE2 : Hid (rs = kids most (fun y => tryS l zb fs gs (leadB into) (walkS l zb fs gs (leadB into) (wantB l zb onto) most dd) (put8 f x y)) zb 0 (t0, ms0)) := by
            unfold Hid; rw [← HRs.out, walkS_node (firstOpen_some hxl HUx.out HN.out)]
          have hne : ((x : Int) == (l : Int)) = false := by rw [beq_eq_false_iff_ne]; omega
          have hx8 : x < 8 := by omega
          go_wp2_with fail
          go_loopw [5] (fun i wr => ∃ (y : Nat) (sy : St), y ≤ zb ∧ i = .int .i64 (y : Int) ∧ Hid (kids most (fun y => tryS l zb fs gs (leadB into) (walkS l zb fs gs (leadB into) (wantB l zb onto) most dd) (put8 f x y)) (zb - y) y sy = rs) ∧ Hid (SpW l zb ao bo c n d m w0 bs P into onto most wr sy) ∧ Hid (wr.ownsRow bs 3 1 (.slice (some ⟨g, 0, none⟩) l gd) l ((lstP l f).map (Value.int .i64))) ∧ Hid (Turn bs tS W wr)) (fun i _ => zb - (intOf i).toNat)
          case atStart => exact ⟨0, (t0, ms0), Nat.zero_le _, rfl, HE2.out.symm, HS0, HRf0, Turn.refl _ _ _⟩
          case round =>
            obtain ⟨y, sy, hy, rfl, HK, HSy, HRf, HTy⟩ := hrel
            obtain ⟨ty, my⟩ := sy
            obtain ⟨fa, fc, vals, a1, a2, a3, a4, a5⟩ := HSy.out
            obtain ⟨k, hk_⟩ : ∃ k, my.length = k := ⟨_, rfl⟩
            have p2 : wr.cell? ⟨P, 2, none⟩ = some (.int .i64 (zb : Int)) := cell_of_row wr P 2 _ _ _ a1
            have p6 : wr.cell? ⟨P, 6, none⟩ = some (.int .i64 (most : Int)) := cell_of_row wr P 6 _ _ _ a1
            have p7 : wr.cell? ⟨P, 7, none⟩ = some (.int .i64 (ty : Int)) := cell_of_row wr P 7 _ _ _ a1
            have p8 : wr.cell? ⟨P, 8, none⟩ = some (.slice fa k fc) := by rw [← hk_]; exact cell_of_row wr P 8 _ _ _ a1
            have p7f : wr.frozen? ⟨P, 7, none⟩ = false := by simp [World.frozen?, a1]
            have HKl := Lib.hid hk_
            have HA1 := Lib.hid a1
            have HBs := Lib.hid a5
            clear a1 a2 a3 a4 a5 hk_
            by_cases hyz : y < zb
            · have hd1 : decide (y < zb) = true := decide_eq_true hyz
              have hyz' : (y : Int) < (zb : Int) := by omega
              by_cases hkm : k < most
              · have hd2 : decide (k < most) = true := decide_eq_true hkm
                have hkm' : (k : Int) < (most : Int) := by omega
                by_cases hty5 : ty ≤ 5000
                · have hd3 : decide (ty ≤ 5000) = true := decide_eq_true hty5
                  have hd4 : decide ((ty : Int) ≤ 5000) = true := decide_eq_true (by omega)
                  have HAy : Hid (alive most (ty, my) = true) := by
                    unfold Hid alive
                    simp only [Bool.and_eq_true, decide_eq_true_eq]
                    exact ⟨by rw [HKl.out]; exact hkm, hty5⟩
                  obtain ⟨zk, hzk⟩ : ∃ zk, zb - y = zk + 1 := ⟨zb - y - 1, by omega⟩
                  have HZk := Lib.hid hzk
                  clear hzk
                  go_wp2_with fail
                  refine wp_region_noPanic ?_
                  refine wp_region_held_drew (S := fun V => V.cell? ⟨P, 2, none⟩ = some (.int .i64 (zb : Int)) ∧ V.cell? ⟨P, 8, none⟩ = some (.slice fa k fc) ∧ V.cell? ⟨P, 6, none⟩ = some (.int .i64 (most : Int)) ∧ V.cell? ⟨P, 7, none⟩ = some (.int .i64 (ty : Int))) (by kernel_rfl) ?_ (fun hHeld => ?_)
                  · exact ⟨p2, p8, p6, p7⟩
                  refine wpAnyH_take (i := 0) (oi := ⟨_, _, _, _, _, _⟩) (v := ?_) rfl (by kernel_rfl) (by kernel_rfl) (by kernel_rfl) (fun _ _ _ h => h) (Or.inl ⟨rfl, ?_⟩) (by assumption) ?_
                  rotate_left 1
                  · intro w_ hSw; (try dsimp only at hSw); go_simp; (try with_reducible rfl)
                  (try simp only [Act.put, List.setIfInBounds_toArray, List.set_cons_zero, List.set_cons_succ])
                  refine wpAnyH_take (i := 1) (oi := ⟨_, _, _, _, _, _⟩) (v := ?_) rfl (by kernel_rfl) (by kernel_rfl) (by kernel_rfl) (fun _ _ _ h => h) (Or.inl ⟨rfl, ?_⟩) (by assumption) ?_
                  rotate_left 1
                  · intro w_ hSw; (try dsimp only at hSw); go_simp; (try with_reducible rfl)
                  (try simp only [Act.put, List.setIfInBounds_toArray, List.set_cons_zero, List.set_cons_succ])
                  refine wpAnyH_take (i := 2) (oi := ⟨_, _, _, _, _, _⟩) (v := ?_) rfl (by kernel_rfl) (by kernel_rfl) (by kernel_rfl) (fun _ _ _ h => h) (Or.inl ⟨rfl, ?_⟩) (by assumption) ?_
                  rotate_left 1
                  · intro w_ hSw; (try dsimp only at hSw); go_simp; (try with_reducible rfl)
                  (try simp only [Act.put, List.setIfInBounds_toArray, List.set_cons_zero, List.set_cons_succ])
                  refine wpAnyH_take (i := 3) (oi := ⟨_, _, _, _, _, _⟩) (v := ?_) rfl (by kernel_rfl) (by kernel_rfl) (by kernel_rfl) (fun _ _ _ h => h) (Or.inl ⟨rfl, ?_⟩) (by assumption) ?_
                  rotate_left 1
                  · intro w_ hSw; (try dsimp only at hSw); go_simp; (try with_reducible rfl)
                  (try simp only [Act.put, List.setIfInBounds_toArray, List.set_cons_zero, List.set_cons_succ])
                  refine wpAnyH_take (i := 4) (oi := ⟨_, _, _, _, _, _⟩) (v := ?_) rfl (by kernel_rfl) (by kernel_rfl) (by kernel_rfl) (fun _ _ _ h => h) (Or.inl ⟨rfl, ?_⟩) (by assumption) ?_
                  rotate_left 1
                  · intro w_ hSw; (try dsimp only at hSw); go_simp; (try with_reducible rfl)
                  (try simp only [Act.put, List.setIfInBounds_toArray, List.set_cons_zero, List.set_cons_succ])
                  refine wpAnyH_take (i := 5) (oi := ⟨_, _, _, _, _, _⟩) (v := ?_) rfl (by kernel_rfl) (by kernel_rfl) (by kernel_rfl) (fun _ _ _ h => h) (Or.inl ⟨rfl, ?_⟩) (by assumption) ?_
                  rotate_left 1
                  · intro w_ hSw; (try dsimp only at hSw); go_simp; (try with_reducible rfl)
                  (try simp only [Act.put, List.setIfInBounds_toArray, List.set_cons_zero, List.set_cons_succ])
                  refine wpAnyH_take (i := 6) (oi := ⟨_, _, _, _, _, _⟩) (v := ?_) rfl (by kernel_rfl) (by kernel_rfl) (by kernel_rfl) (fun _ _ _ h => h) (Or.inl ⟨rfl, ?_⟩) (by assumption) ?_
                  rotate_left 1
                  · intro w_ hSw; (try dsimp only at hSw); go_simp; (try with_reducible rfl)
                  (try simp only [Act.put, List.setIfInBounds_toArray, List.set_cons_zero, List.set_cons_succ])
                  refine wpAnyH_take (i := 7) (oi := ⟨_, _, _, _, _, _⟩) (v := ?_) rfl (by kernel_rfl) (by kernel_rfl) (by kernel_rfl) (fun _ _ _ h => h) (Or.inl ⟨rfl, ?_⟩) (by assumption) ?_
                  rotate_left 1
                  · intro w_ hSw; (try dsimp only at hSw); go_simp; (try with_reducible rfl)
                  (try simp only [Act.put, List.setIfInBounds_toArray, List.set_cons_zero, List.set_cons_succ])
                  refine wpAnyH_take (i := 8) (oi := ⟨_, _, _, _, _, _⟩) (v := ?_) rfl (by kernel_rfl) (by kernel_rfl) (by kernel_rfl) (fun _ _ _ h => h) (Or.inl ⟨rfl, ?_⟩) (by assumption) ?_
                  rotate_left 1
                  · intro w_ hSw; (try dsimp only at hSw); go_simp; (try with_reducible rfl)
                  (try simp only [Act.put, List.setIfInBounds_toArray, List.set_cons_zero, List.set_cons_succ])
                  refine wpAnyH_take (i := 9) (oi := ⟨_, _, _, _, _, _⟩) (v := ?_) rfl (by kernel_rfl) (by kernel_rfl) (by kernel_rfl) (fun _ _ _ h => h) (Or.inl ⟨rfl, ?_⟩) (by assumption) ?_
                  rotate_left 1
                  · intro w_ hSw; (try dsimp only at hSw); go_simp; (try with_reducible rfl)
                  (try simp only [Act.put, List.setIfInBounds_toArray, List.set_cons_zero, List.set_cons_succ])
                  refine wpAnyH_take (i := 10) (oi := ⟨_, _, _, _, _, _⟩) (v := ?_) rfl (by kernel_rfl) (by kernel_rfl) (by kernel_rfl) (fun _ _ _ h => h) (Or.inl ⟨rfl, ?_⟩) (by assumption) ?_
                  rotate_left 1
                  · intro w_ hSw; (try dsimp only at hSw); go_simp; (try with_reducible rfl)
                  (try simp only [Act.put, List.setIfInBounds_toArray, List.set_cons_zero, List.set_cons_succ])
                  refine wpAnyH_take (i := 11) (oi := ⟨_, _, _, _, _, _⟩) (v := ?_) rfl (by kernel_rfl) (by kernel_rfl) (by kernel_rfl) (fun _ _ _ h => h) (Or.inl ⟨rfl, ?_⟩) (by assumption) ?_
                  rotate_left 1
                  · intro w_ hSw; (try dsimp only at hSw); go_simp; (try with_reducible rfl)
                  (try simp only [Act.put, List.setIfInBounds_toArray, List.set_cons_zero, List.set_cons_succ])
                  refine wpAnyH_take (i := 12) (oi := ⟨_, _, _, _, _, _⟩) (v := ?_) rfl (by kernel_rfl) (by kernel_rfl) (by kernel_rfl) (fun _ _ _ h => h) (Or.inl ⟨rfl, ?_⟩) (by assumption) ?_
                  rotate_left 1
                  · intro w_ hSw; (try dsimp only at hSw); go_simp; (try with_reducible rfl)
                  (try simp only [Act.put, List.setIfInBounds_toArray, List.set_cons_zero, List.set_cons_succ])
                  refine wpAnyH_take (i := 13) (oi := ⟨_, _, _, _, _, _⟩) (v := ?_) rfl (by kernel_rfl) (by kernel_rfl) (by kernel_rfl) (fun _ _ _ h => h) (Or.inl ⟨rfl, ?_⟩) (by assumption) ?_
                  rotate_left 1
                  · intro w_ hSw; (try dsimp only at hSw); go_simp; (try with_reducible rfl)
                  (try simp only [Act.put, List.setIfInBounds_toArray, List.set_cons_zero, List.set_cons_succ])
                  refine wpAnyH_take (i := 14) (oi := ⟨_, _, _, _, _, _⟩) (v := ?_) rfl (by kernel_rfl) (by kernel_rfl) (by kernel_rfl) (fun _ _ _ h => h) (Or.inl ⟨rfl, ?_⟩) (by assumption) ?_
                  rotate_left 1
                  · intro w_ hSw; (try dsimp only at hSw); go_simp; (try with_reducible rfl)
                  (try simp only [Act.put, List.setIfInBounds_toArray, List.set_cons_zero, List.set_cons_succ])
                  refine wpAnyH_take (i := 15) (oi := ⟨_, _, _, _, _, _⟩) (v := ?_) rfl (by kernel_rfl) (by kernel_rfl) (by kernel_rfl) (fun _ _ _ h => h) (Or.inl ⟨rfl, ?_⟩) (by assumption) ?_
                  rotate_left 1
                  · intro w_ hSw; (try dsimp only at hSw); go_simp; (try with_reducible rfl)
                  (try simp only [Act.put, List.setIfInBounds_toArray, List.set_cons_zero, List.set_cons_succ])
                  refine wpAnyH_take (i := 16) (oi := ⟨_, _, _, _, _, _⟩) (v := ?_) rfl (by kernel_rfl) (by kernel_rfl) (by kernel_rfl) (fun _ _ _ h => h) (Or.inl ⟨rfl, ?_⟩) (by assumption) ?_
                  rotate_left 1
                  · intro w_ hSw; (try dsimp only at hSw); go_simp; (try with_reducible rfl)
                  (try simp only [Act.put, List.setIfInBounds_toArray, List.set_cons_zero, List.set_cons_succ])
                  refine wpAnyH_take (i := 17) (oi := ⟨_, _, _, _, _, _⟩) (v := ?_) rfl (by kernel_rfl) (by kernel_rfl) (by kernel_rfl) (fun _ _ _ h => h) (Or.inl ⟨rfl, ?_⟩) (by assumption) ?_
                  rotate_left 1
                  · intro w_ hSw; (try dsimp only at hSw); go_simp; (try with_reducible rfl)
                  (try simp only [Act.put, List.setIfInBounds_toArray, List.set_cons_zero, List.set_cons_succ])
                  refine wpAnyH_take (i := 18) (oi := ⟨_, _, _, _, _, _⟩) (v := ?_) rfl (by kernel_rfl) (by kernel_rfl) (by kernel_rfl) (fun _ _ _ h => h) (Or.inl ⟨rfl, ?_⟩) (by assumption) ?_
                  rotate_left 1
                  · intro w_ hSw; (try dsimp only at hSw); go_simp; (try with_reducible rfl)
                  (try simp only [Act.put, List.setIfInBounds_toArray, List.set_cons_zero, List.set_cons_succ])
                  refine wpAnyH_take (i := 19) (oi := ⟨_, _, _, _, _, _⟩) (v := ?_) rfl (by kernel_rfl) (by kernel_rfl) (by kernel_rfl) (fun _ _ _ h => h) (Or.inl ⟨rfl, ?_⟩) (by assumption) ?_
                  rotate_left 1
                  · intro w_ hSw; (try dsimp only at hSw); go_simp; (try with_reducible rfl)
                  (try simp only [Act.put, List.setIfInBounds_toArray, List.set_cons_zero, List.set_cons_succ])
                  refine wpAnyH_take (i := 20) (oi := ⟨_, _, _, _, _, _⟩) (v := ?_) rfl (by kernel_rfl) (by kernel_rfl) (by kernel_rfl) (fun _ _ _ h => h) (Or.inl ⟨rfl, ?_⟩) (by assumption) ?_
                  rotate_left 1
                  · intro w_ hSw; (try dsimp only at hSw); go_simp; (try with_reducible rfl)
                  (try simp only [Act.put, List.setIfInBounds_toArray, List.set_cons_zero, List.set_cons_succ])
                  refine wpAnyH_take (i := 21) (oi := ⟨_, _, _, _, _, _⟩) (v := ?_) rfl (by kernel_rfl) (by kernel_rfl) (by kernel_rfl) (fun _ _ _ h => h) (Or.inl ⟨rfl, ?_⟩) (by assumption) ?_
                  rotate_left 1
                  · intro w_ hSw; (try dsimp only at hSw); go_simp; (try with_reducible rfl)
                  (try simp only [Act.put, List.setIfInBounds_toArray, List.set_cons_zero, List.set_cons_succ])
                  refine wpAnyH_take (i := 22) (oi := ⟨_, _, _, _, _, _⟩) (v := ?_) rfl (by kernel_rfl) (by kernel_rfl) (by kernel_rfl) (fun _ _ _ h => h) (Or.inl ⟨rfl, ?_⟩) (by assumption) ?_
                  rotate_left 1
                  · intro w_ hSw; (try dsimp only at hSw); go_simp; (try with_reducible rfl)
                  (try simp only [Act.put, List.setIfInBounds_toArray, List.set_cons_zero, List.set_cons_succ])
                  refine wpAnyH_take (i := 23) (oi := ⟨_, _, _, _, _, _⟩) (v := ?_) rfl (by kernel_rfl) (by kernel_rfl) (by kernel_rfl) (fun _ _ _ h => h) (Or.inl ⟨rfl, ?_⟩) (by assumption) ?_
                  rotate_left 1
                  · intro w_ hSw; (try dsimp only at hSw); go_simp; (try with_reducible rfl)
                  (try simp only [Act.put, List.setIfInBounds_toArray, List.set_cons_zero, List.set_cons_succ])
                  refine wpAnyH_take (i := 24) (oi := ⟨_, _, _, _, _, _⟩) (v := ?_) rfl (by kernel_rfl) (by kernel_rfl) (by kernel_rfl) (fun _ _ _ h => h) (Or.inl ⟨rfl, ?_⟩) (by assumption) ?_
                  rotate_left 1
                  · intro w_ hSw; (try dsimp only at hSw); go_simp; (try with_reducible rfl)
                  (try simp only [Act.put, List.setIfInBounds_toArray, List.set_cons_zero, List.set_cons_succ])
                  refine wpAnyH_take (i := 25) (oi := ⟨_, _, _, _, _, _⟩) (v := ?_) rfl (by kernel_rfl) (by kernel_rfl) (by kernel_rfl) (fun _ _ _ h => h) (Or.inl ⟨rfl, ?_⟩) (by assumption) ?_
                  rotate_left 1
                  · intro w_ hSw; (try dsimp only at hSw); go_simp; (try with_reducible rfl)
                  (try simp only [Act.put, List.setIfInBounds_toArray, List.set_cons_zero, List.set_cons_succ])
                  refine wpAnyH_done (by kernel_rfl) ?_ _
                  refine NoPanic.normal ?_
                  obtain ⟨wd, hwd⟩ : ∃ wd : World, wd = wr.drew := ⟨_, rfl⟩
                  have HSd : Hid (SpW l zb ao bo c n d m w0 bs P into onto most wd (ty, my)) := by unfold Hid; rw [hwd]; exact HSy.out.below (below_drew wr)
                  have HRfd : Hid (wd.ownsRow bs 3 1 (.slice (some ⟨g, 0, none⟩) l gd) l ((lstP l f).map (Value.int .i64))) := by unfold Hid; rw [hwd]; exact HRf.out
                  have HTd : Hid (Turn bs tS W wd) := by unfold Hid; rw [hwd]; exact HTy.out.drew
                  have p7d : wd.cell? ⟨P, 7, none⟩ = some (.int .i64 (ty : Int)) := by rw [hwd]; exact p7
                  have p7fd : wd.frozen? ⟨P, 7, none⟩ = false := by rw [hwd]; exact p7f
                  have HA1d : Hid (wd.heap[P]? = some (.cells (spV l zb ao bo c n d m into onto most ty (.slice fa my.length fc)) 80 (0, 0))) := by unfold Hid; rw [hwd]; exact HA1.out
                  have HBsd : Hid (bs ≤ wd.heap.size) := by unfold Hid; rw [hwd]; exact HBs.out
                  rw [← hwd]
                  clear hwd p2 p6 p7 p8 p7f hd1 hd2 hd3 hd4
                  obtain ⟨w4, hw4⟩ : ∃ w4, w4 = wd.setCell ⟨P, 7, none⟩ (.int .i64 ((ty : Int) + 1)) := ⟨_, rfl⟩
                  have HS4 : Hid (SpW l zb ao bo c n d m w0 bs P into onto most w4 (ty + 1, my)) := by unfold Hid; rw [hw4]; exact HSd.out.tick hP
                  have ht4 : Turn bs tS wd w4 := by rw [hw4]; exact Turn.setCell HA1d.out hP rfl 7 _
                  have HRf4 : Hid (w4.ownsRow bs 3 1 (.slice (some ⟨g, 0, none⟩) l gd) l ((lstP l f).map (Value.int .i64))) := ht4.row HRfd.out rfl
                  have HT4 : Hid (Turn bs tS W w4) := HTd.out.trans ht4
                  have HBs4 : Hid (bs ≤ w4.heap.size) := Nat.le_trans HBsd.out ht4.size
                  have HW4 := Lib.hid hw4
                  clear ht4 hw4
                  by_cases hov : ty + 1 > 5000
                  · have hov' : (5000 : Int) < (ty : Int) + 1 := by omega
                    have HE3 : Hid (rs = (ty + 1, my)) := by
                      have h := HK.out
                      rw [HZk.out, kids_over HAy.out hov] at h
                      exact h.symm
                    clear hov
                    go_wp2_with fail
                    rw [← HW4.out]
                    go_wp2_with fail
                    refine bodyPost_ret (results_none rfl _ _ _) rfl ?_
                    exact ⟨rfl, by rw [HE3.out]; exact HS4.out, HT4.out⟩
                  · have hov' : ¬ (5000 : Int) < (ty : Int) + 1 := by omega
                    have HOw := Lib.hid (own_ints bs w4.heap.size (some ⟨g, 0, none⟩) l gd (lstP l f) w4 (OwnsInts.of_row HRf4.out).view (by omega) (by omega))
                    unfold NewInts at HOw
                    clear p7d p7fd
                    have p7e : (wd.setCell ⟨P, 7, none⟩ (.int .i64 ((ty : Int) + 1))).cell? ⟨P, 7, none⟩ = some (.int .i64 ((ty : Int) + 1)) := by
                      rw [← HW4.out]
                      obtain ⟨fa2, fc2, vals2, b1, _⟩ := HS4.out
                      rw [cell_of_row w4 P 7 _ _ _ b1]
                      show some (Value.int .i64 ((ty + 1 : Nat) : Int)) = _
                      rw [show ((ty + 1 : Nat) : Int) = (ty : Int) + 1 by omega]
                    have p7d : wd.cell? ⟨P, 7, none⟩ = some (.int .i64 (ty : Int)) := cell_of_row wd P 7 _ _ _ HA1d.out
                    have p7fd : wd.frozen? ⟨P, 7, none⟩ = false := by have := HA1d.out; simp [World.frozen?, this]
                    go_wp2_with fail
                    rw [← HW4.out]
                    refine HOw.out.mono ?_
                    rintro e w5 ⟨g5, d5, rfl, ho5, b5⟩
                    clear p7e p7d p7fd
                    have hg5 := (ho5.lt g5 rfl).1
                    have c5 : w5.cell? ⟨g5, x, none⟩ = some (.int .i64 (-1)) := by rw [ho5.cellAt x (by omega), List.getElem?_map, lstP_get f hxl, HUx.out]; rfl
                    have c5f : w5.frozen? ⟨g5, x, none⟩ = false := ho5.frozenAt x
                    obtain ⟨w6, hw6⟩ : ∃ w6, w6 = w5.setCell ⟨g5, x, none⟩ (.int .i64 (y : Int)) := ⟨_, rfl⟩
                    have b6 : Below w4.heap.size w4 w6 := by rw [hw6]; exact b5.setCell (p := ⟨g5, x, none⟩) hg5 _
                    have HS6 := Lib.hid (HS4.out.below b6)
                    have HRf6 : Hid (w6.ownsRow bs 3 1 (.slice (some ⟨g, 0, none⟩) l gd) l ((lstP l f).map (Value.int .i64))) := HRf4.out.kept (grown_of_below b6 none) (own_em _)
                    have HT6 : Hid (Turn bs tS W w6) := HT4.out.trans (.of_below b6)
                    have HBs6 : Hid (bs ≤ w6.heap.size) := Nat.le_trans HBs4.out b6.size
                    have hst := (ho5.stored x (.int .i64 (y : Int))).1
                    rw [lstP_set hxl] at hst
                    have HO6 : Hid (w6.ownsRow bs 3 1 (.slice (some ⟨g5, 0, none⟩) l d5) l ((lstP l (put8 f x (y : Int))).map (Value.int .i64))) := by unfold Hid; rw [hw6]; exact ownsRow_base hst HBs4.out
                    have HW6 := Lib.hid hw6
                    have hpp : Part (l : Int) (zb : Int) (put8 f x (y : Int)) := HQ.out.1.1.put (by omega) hyz'
                    have hpo := out_put (y := (y : Int)) HQ.out.1.2 hxl'
                    have HCl := Lib.hid (fun (V : World) (hV : Below w6.heap.size w6 V) => HClose.out V (ty + 1, my) (put8 f x (y : Int)) (some ⟨g5, 0, none⟩) d5 (HS6.out.below hV) ((OwnsInts.of_row (HO6.out.kept (grown_of_below hV none) (own_em _))).view) hpp hpo)
                    obtain ⟨cv, hcv⟩ : ∃ cv, closV (l : Int) (zb : Int) fs gs (put8 f x (y : Int)) = cv := ⟨_, rfl⟩
                    simp only [hcv, ResL] at HCl
                    have HCv := Lib.hid hcv
                    have HKp := Lib.hid (fun c2 e => HKeep.out (put8 f x (y : Int)) c2 hpp hpo e)
                    have hopn : opens (put8 f x (y : Int)) 8 < dd := opens_put hx8 HUx.out (by omega) HQ.out.2
                    have HOpn := Lib.hid hopn
                    obtain ⟨fa6, fc6, vals6, b1, _⟩ := HS6.out
                    have p0 : w6.cell? ⟨P, 0, none⟩ = some (.int .i64 (l : Int)) := cell_of_row w6 P 0 _ _ _ b1
                    have p1 : w6.cell? ⟨P, 1, none⟩ = some (.slice ao n c) := cell_of_row w6 P 1 _ _ _ b1
                    have p2 : w6.cell? ⟨P, 2, none⟩ = some (.int .i64 (zb : Int)) := cell_of_row w6 P 2 _ _ _ b1
                    have p3 : w6.cell? ⟨P, 3, none⟩ = some (.slice bo m d) := cell_of_row w6 P 3 _ _ _ b1
                    have HK2 : Hid (kids most (fun y => tryS l zb fs gs (leadB into) (walkS l zb fs gs (leadB into) (wantB l zb onto) most dd) (put8 f x y)) zk (y + 1) (tryS l zb fs gs (leadB into) (walkS l zb fs gs (leadB into) (wantB l zb onto) most dd) (put8 f x (y : Int)) (ty + 1, my)) = rs) := by
                      have h := HK.out
                      rw [HZk.out, kids_on HAy.out hov] at h
                      exact h
                    have hal2 : alive most (ty + 1, my) = true := by
                      unfold alive
                      simp only [Bool.and_eq_true, decide_eq_true_eq]
                      exact ⟨by rw [HKl.out]; exact hkm, by omega⟩
                    have HA2 := Lib.hid hal2
                    have HG5 := Lib.hid hg5
                    clear hov hpp hpo hopn hcv b1 b5 b6 ho5 hst hw6 hal2 hg5
                    go_wp2_with fail
                    rw [← HW6.out]
                    clear c5 c5f
                    go_wp2_with fail
                    refine wp_region_noPanic ?_
                    refine wp_region_held_drew (S := fun V => V.cell? ⟨P, 0, none⟩ = some (.int .i64 (l : Int)) ∧ V.cell? ⟨P, 1, none⟩ = some (.slice ao n c) ∧ V.cell? ⟨P, 2, none⟩ = some (.int .i64 (zb : Int)) ∧ V.cell? ⟨P, 3, none⟩ = some (.slice bo m d)) (by kernel_rfl) ?_ (fun hHeld => ?_)
                    · exact ⟨p0, p1, p2, p3⟩
                    refine wpAnyH_take (i := 0) (oi := ⟨_, _, _, _, _, _⟩) (v := ?_) rfl (by kernel_rfl) (by kernel_rfl) (by kernel_rfl) (fun _ _ _ h => h) (Or.inl ⟨rfl, ?_⟩) (by assumption) ?_
                    rotate_left 1
                    · intro w_ hSw; (try dsimp only at hSw); go_simp; (try with_reducible rfl)
                    (try simp only [Act.put, List.setIfInBounds_toArray, List.set_cons_zero, List.set_cons_succ])
                    refine wpAnyH_take (i := 1) (oi := ⟨_, _, _, _, _, _⟩) (v := ?_) rfl (by kernel_rfl) (by kernel_rfl) (by kernel_rfl) (fun _ _ _ h => h) (Or.inl ⟨rfl, ?_⟩) (by assumption) ?_
                    rotate_left 1
                    · intro w_ hSw; (try dsimp only at hSw); go_simp; (try with_reducible rfl)
                    (try simp only [Act.put, List.setIfInBounds_toArray, List.set_cons_zero, List.set_cons_succ])
                    refine wpAnyH_take (i := 2) (oi := ⟨_, _, _, _, _, _⟩) (v := ?_) rfl (by kernel_rfl) (by kernel_rfl) (by kernel_rfl) (fun _ _ _ h => h) (Or.inl ⟨rfl, ?_⟩) (by assumption) ?_
                    rotate_left 1
                    · intro w_ hSw; (try dsimp only at hSw); go_simp; (try with_reducible rfl)
                    (try simp only [Act.put, List.setIfInBounds_toArray, List.set_cons_zero, List.set_cons_succ])
                    refine wpAnyH_take (i := 3) (oi := ⟨_, _, _, _, _, _⟩) (v := ?_) rfl (by kernel_rfl) (by kernel_rfl) (by kernel_rfl) (fun _ _ _ h => h) (Or.inl ⟨rfl, ?_⟩) (by assumption) ?_
                    rotate_left 1
                    · intro w_ hSw; (try dsimp only at hSw); go_simp; (try with_reducible rfl)
                    (try simp only [Act.put, List.setIfInBounds_toArray, List.set_cons_zero, List.set_cons_succ])
                    refine wpAnyH_take (i := 4) (oi := ⟨_, _, _, _, _, _⟩) (v := ?_) rfl (by kernel_rfl) (by kernel_rfl) (by kernel_rfl) (fun _ _ _ h => h) (Or.inl ⟨rfl, ?_⟩) (by assumption) ?_
                    rotate_left 1
                    · intro w_ hSw; (try dsimp only at hSw); go_simp; (try with_reducible rfl)
                    (try simp only [Act.put, List.setIfInBounds_toArray, List.set_cons_zero, List.set_cons_succ])
                    refine wpAnyH_take (i := 5) (oi := ⟨_, _, _, _, _, _⟩) (v := ?_) rfl (by kernel_rfl) (by kernel_rfl) (by kernel_rfl) (fun _ _ _ h => h) (Or.inl ⟨rfl, ?_⟩) (by assumption) ?_
                    rotate_left 1
                    · intro w_ hSw; (try dsimp only at hSw); go_simp; (try with_reducible rfl)
                    (try simp only [Act.put, List.setIfInBounds_toArray, List.set_cons_zero, List.set_cons_succ])
                    refine wpAnyH_take (i := 6) (oi := ⟨_, _, _, _, _, _⟩) (v := ?_) rfl (by kernel_rfl) (by kernel_rfl) (by kernel_rfl) (fun _ _ _ h => h) (Or.inl ⟨rfl, ?_⟩) (by assumption) ?_
                    rotate_left 1
                    · intro w_ hSw; (try dsimp only at hSw); go_simp; (try with_reducible rfl)
                    (try simp only [Act.put, List.setIfInBounds_toArray, List.set_cons_zero, List.set_cons_succ])
                    refine wpAnyH_take (i := 7) (oi := ⟨_, _, _, _, _, _⟩) (v := ?_) rfl (by kernel_rfl) (by kernel_rfl) (by kernel_rfl) (fun _ _ _ h => h) (Or.inl ⟨rfl, ?_⟩) (by assumption) ?_
                    rotate_left 1
                    · intro w_ hSw; (try dsimp only at hSw); go_simp; (try with_reducible rfl)
                    (try simp only [Act.put, List.setIfInBounds_toArray, List.set_cons_zero, List.set_cons_succ])
                    refine wpAnyH_take (i := 8) (oi := ⟨_, _, _, _, _, _⟩) (v := ?_) rfl (by kernel_rfl) (by kernel_rfl) (by kernel_rfl) (fun _ _ _ h => h) (Or.inl ⟨rfl, ?_⟩) (by assumption) ?_
                    rotate_left 1
                    · intro w_ hSw; (try dsimp only at hSw); go_simp; (try with_reducible rfl)
                    (try simp only [Act.put, List.setIfInBounds_toArray, List.set_cons_zero, List.set_cons_succ])
                    refine wpAnyH_ready (rs := [9]) (by kernel_rfl) (by simp) ?_
                    refine AllReadyH.cons (o := ⟨_, _, _, _, _, _⟩) rfl (fun K hK => ?_) AllReadyH.nil
                    go_simp
                    go_at_call 62
                    refine (HCl.out _ (below_drew w6)).mono ?_
                    rintro e w7 ⟨ha, hn, hd, rfl, hn2, ho7, b7⟩
                    have b7' : Below w6.heap.size w6 w7 := (below_drew w6).trans b7
                    have HS7 := Lib.hid (HS6.out.below b7')
                    have HT7 : Hid (Turn bs tS W w7) := HT6.out.trans (.of_below b7')
                    have HRf7 : Hid (w7.ownsRow bs 3 1 (.slice (some ⟨g, 0, none⟩) l gd) l ((lstP l f).map (Value.int .i64))) := HRf6.out.kept (grown_of_below b7' none) (own_em _)
                    have HN7 := Lib.hid hn2
                    have HO7 : Hid (w7.ownsRow bs 3 1 (.slice ha hn hd) hn ((cloL l cv).map (Value.int .i64))) := ownsRow_base ho7.row (Nat.le_trans HBs6.out (below_drew w6).size)
                    have q0 := cell_b b7' p0
                    have q1 := cell_b b7' p1
                    have q2 := cell_b b7' p2
                    have q3 := cell_b b7' p3
                    clear b7 b7' ho7 hn2 p0 p1 p2 p3
                    go_wp2_with fail
                    refine hK.out _ _ ?_ (fun hHeld => ?_)
                    · exact ⟨q0, q1, q2, q3⟩
                    clear hK K
                    (try simp only [Act.put, List.setIfInBounds_toArray, List.set_cons_zero, List.set_cons_succ])
                    refine wpAnyH_take (i := 10) (oi := ⟨_, _, _, _, _, _⟩) (v := ?_) rfl (by kernel_rfl) (by kernel_rfl) (by kernel_rfl) (fun _ _ _ h => h) (Or.inl ⟨rfl, ?_⟩) (by assumption) ?_
                    rotate_left 1
                    · intro w_ hSw; (try dsimp only at hSw); go_simp; (try with_reducible rfl)
                    (try simp only [Act.put, List.setIfInBounds_toArray, List.set_cons_zero, List.set_cons_succ])
                    refine wpAnyH_take (i := 11) (oi := ⟨_, _, _, _, _, _⟩) (v := ?_) rfl (by kernel_rfl) (by kernel_rfl) (by kernel_rfl) (fun _ _ _ h => h) (Or.inl ⟨rfl, ?_⟩) (by assumption) ?_
                    rotate_left 1
                    · intro w_ hSw; (try dsimp only at hSw); go_simp; (try with_reducible rfl)
                    (try simp only [Act.put, List.setIfInBounds_toArray, List.set_cons_zero, List.set_cons_succ])
                    refine wpAnyH_take (i := 12) (oi := ⟨_, _, _, _, _, _⟩) (v := ?_) rfl (by kernel_rfl) (by kernel_rfl) (by kernel_rfl) (fun _ _ _ h => h) (Or.inl ⟨rfl, ?_⟩) (by assumption) ?_
                    rotate_left 1
                    · intro w_ hSw; (try dsimp only at hSw); go_simp; (try with_reducible rfl)
                    (try simp only [Act.put, List.setIfInBounds_toArray, List.set_cons_zero, List.set_cons_succ])
                    refine wpAnyH_take (i := 13) (oi := ⟨_, _, _, _, _, _⟩) (v := ?_) rfl (by kernel_rfl) (by kernel_rfl) (by kernel_rfl) (fun _ _ _ h => h) (Or.inl ⟨rfl, ?_⟩) (by assumption) ?_
                    rotate_left 1
                    · intro w_ hSw; (try dsimp only at hSw); go_simp; (try with_reducible rfl)
                    (try simp only [Act.put, List.setIfInBounds_toArray, List.set_cons_zero, List.set_cons_succ])
                    refine wpAnyH_take (i := 14) (oi := ⟨_, _, _, _, _, _⟩) (v := ?_) rfl (by kernel_rfl) (by kernel_rfl) (by kernel_rfl) (fun _ _ _ h => h) (Or.inl ⟨rfl, ?_⟩) (by assumption) ?_
                    rotate_left 1
                    · intro w_ hSw; (try dsimp only at hSw); go_simp; (try with_reducible rfl)
                    (try simp only [Act.put, List.setIfInBounds_toArray, List.set_cons_zero, List.set_cons_succ])
                    refine wpAnyH_done (by kernel_rfl) ?_ _
                    refine NoPanic.normal ?_
                    clear q0 q1 q2 q3
                    have HZ2 : Hid (zk = zb - (y + 1)) := by unfold Hid; have := HZk.out; omega
                    cases cv with
                    | none =>
                      have HE4 : Hid (kids most (fun y => tryS l zb fs gs (leadB into) (walkS l zb fs gs (leadB into) (wantB l zb onto) most dd) (put8 f x y)) (zb - (y + 1)) (y + 1) (ty + 1, my) = rs) := by
                        have h := HK2.out
                        rw [tryS_none HCv.out, HZ2.out] at h
                        exact h
                      go_wp2_with fail
                      go_roundw
                      case rel => exact ⟨y + 1, (ty + 1, my), by omega, by go_num, HE4, HS7, HRf7, HT7⟩
                      case measure => simp [intOf]; omega
                    | some c2 =>
                      obtain ⟨⟨r1, r2⟩, r3⟩ := HKp.out c2 HCv.out
                      have hnl : hn = l := by rw [HN7.out]; exact lstP_len l c2
                      subst hnl
                      have HO8 : Hid (w7.ownsRow bs 3 1 (.slice ha hn hd) hn ((lstP hn c2).map (Value.int .i64))) := HO7.out
                      obtain ⟨hg, hcap, hsl⟩ : ∃ hg cap, Value.slice ha hn hd = .slice (some ⟨hg, 0, none⟩) hn cap := by
                        obtain ⟨l1, hl1⟩ : ∃ l1, hn = l1 + 1 := ⟨hn - 1, by omega⟩
                        have h := HO8.out
                        rw [hl1] at h ⊢
                        exact ownsRow_succ h
                      injection hsl with e1 e2 e3
                      subst e1 e3
                      clear e2
                      have HIn := Lib.hid (intoG_any bs hg hd hn (zb : Int) c2 w7 HO8.out hl8 r1 r2)
                      have HOp2 : Hid (opens c2 8 < dd) := by have := opens_le r3 8; have := HOpn.out; unfold Hid; omega
                      have HR12 : Hid (Part (hn : Int) (zb : Int) c2 ∧ ∀ k : Nat, (hn : Int) ≤ (k : Int) → c2 k = -1) := ⟨r1, r2⟩
                      obtain ⟨fa7, fc7, vals7, d1_, _⟩ := HS7.out
                      have q4 : w7.cell? ⟨P, 4, none⟩ = some (.bool into) := cell_of_row w7 P 4 _ _ _ d1_
                      obtain ⟨ob, hob⟩ : ∃ ob, oneB c2 8 = ob := ⟨_, rfl⟩
                      rw [hob] at HIn
                      have HOb := Lib.hid hob
                      clear r1 r2 r3 d1_ hob
                      by_cases hlead : leadB into c2 = true
                      · have HE5 : Hid (tryS hn zb fs gs (leadB into) (walkS hn zb fs gs (leadB into) (wantB hn zb onto) most dd) (put8 f x (y : Int)) (ty + 1, my) = walkS hn zb fs gs (leadB into) (wantB hn zb onto) most dd c2 (ty + 1, my)) := tryS_yes HCv.out hlead
                        obtain ⟨s9, hs9⟩ : ∃ s9, walkS hn zb fs gs (leadB into) (wantB hn zb onto) most dd c2 (ty + 1, my) = s9 := ⟨_, rfl⟩
                        have HE6 : Hid (kids most (fun y => tryS hn zb fs gs (leadB into) (walkS hn zb fs gs (leadB into) (wantB hn zb onto) most dd) (put8 f x y)) (zb - (y + 1)) (y + 1) s9 = rs) := by
                          have h := HK2.out
                          rw [HE5.out, hs9, HZ2.out] at h
                          exact h
                        have HIH := Lib.hid (fun (V : World) (hV : Below w7.heap.size w7 V) => IH.out c2 (ty + 1, my) V hg hd HOp2.out HR12.out.1 HR12.out.2 HA2.out (HS7.out.below hV) (HO8.out.kept (grown_of_below hV none) (own_em _)))
                        rw [hs9] at HIH
                        unfold WkRes at HIH
                        clear hs9
                        cases into with
                        | false =>
                          clear hlead
                          go_wp2_with fail
                          refine (HIH.out _ (Below.refl _ _)).mono ?_
                          rintro e w9 ⟨rfl, r9, t9⟩
                          have HS9 := Lib.hid r9
                          have HT9 : Hid (Turn bs tS W w9) := HT7.out.trans t9
                          have HRf9 := Lib.hid (t9.row HRf7.out rfl)
                          clear r9 t9 q4
                          go_wp2_with fail
                          go_roundw
                          case rel => exact ⟨y + 1, s9, by omega, by go_num, HE6, HS9, HRf9, HT9⟩
                          case measure => simp [intOf]; omega
                        | true =>
                          obtain rfl : ob = true := by rw [← HOb.out]; simpa [leadB] using hlead
                          clear hlead
                          go_wp2_with fail
                          refine HIn.out.mono ?_
                          rintro e w8 ⟨rfl, b8⟩
                          have HB8 := Lib.hid b8
                          clear b8 q4
                          go_wp2_with fail
                          refine (HIH.out _ HB8.out).mono ?_
                          rintro e w9 ⟨rfl, r9, t9⟩
                          have HS9 := Lib.hid r9
                          have HT9 : Hid (Turn bs tS W w9) := (HT7.out.trans (.of_below HB8.out)).trans t9
                          have HRf9 := Lib.hid (t9.row (HRf7.out.kept (grown_of_below HB8.out none) (own_em _)) rfl)
                          clear r9 t9
                          go_wp2_with fail
                          go_roundw
                          case rel => exact ⟨y + 1, s9, by omega, by go_num, HE6, HS9, HRf9, HT9⟩
                          case measure => simp [intOf]; omega
                      · obtain rfl : into = true := by
                          cases into with
                          | true => rfl
                          | false => exact absurd (by simp [leadB]) hlead
                        obtain rfl : ob = false := by
                          rw [← HOb.out]
                          cases hb : oneB c2 8 with
                          | false => rfl
                          | true => exact absurd (by simp [leadB, hb]) hlead
                        have HE6 : Hid (kids most (fun y => tryS hn zb fs gs (leadB true) (walkS hn zb fs gs (leadB true) (wantB hn zb onto) most dd) (put8 f x y)) (zb - (y + 1)) (y + 1) (ty + 1, my) = rs) := by
                          have h := HK2.out
                          rw [tryS_no HCv.out (by simpa using hlead), HZ2.out] at h
                          exact h
                        clear hlead
                        go_wp2_with fail
                        refine HIn.out.mono ?_
                        rintro e w8 ⟨rfl, b8⟩
                        have HS8 := Lib.hid (HS7.out.below b8)
                        have HT8 : Hid (Turn bs tS W w8) := HT7.out.trans (.of_below b8)
                        have HRf8 : Hid (w8.ownsRow bs 3 1 (.slice (some ⟨g, 0, none⟩) hn gd) hn ((lstP hn f).map (Value.int .i64))) := HRf7.out.kept (grown_of_below b8 none) (own_em _)
                        clear b8 q4
                        go_wp2_with fail
                        go_roundw
                        case rel => exact ⟨y + 1, (ty + 1, my), by omega, by go_num, HE6, HS8, HRf8, HT8⟩
                        case measure => simp [intOf]; omega
                · have hd3 : decide (ty ≤ 5000) = false := decide_eq_false hty5
                  have hd4 : decide ((ty : Int) ≤ 5000) = false := decide_eq_false (by omega)
                  have HE3 : Hid (rs = (ty, my)) := by
                    have h := HK.out
                    rw [kids_dead (by unfold alive; rw [show decide ((ty, my).1 ≤ 5000) = false from decide_eq_false hty5]; simp)] at h
                    exact h.symm
                  go_wp2_with fail
                  refine wp_region_noPanic ?_
                  refine wp_region_held_drew (S := fun V => V.cell? ⟨P, 2, none⟩ = some (.int .i64 (zb : Int)) ∧ V.cell? ⟨P, 8, none⟩ = some (.slice fa k fc) ∧ V.cell? ⟨P, 6, none⟩ = some (.int .i64 (most : Int)) ∧ V.cell? ⟨P, 7, none⟩ = some (.int .i64 (ty : Int))) (by kernel_rfl) ?_ (fun hHeld => ?_)
                  · exact ⟨p2, p8, p6, p7⟩
                  refine wpAnyH_take (i := 0) (oi := ⟨_, _, _, _, _, _⟩) (v := ?_) rfl (by kernel_rfl) (by kernel_rfl) (by kernel_rfl) (fun _ _ _ h => h) (Or.inl ⟨rfl, ?_⟩) (by assumption) ?_
                  rotate_left 1
                  · intro w_ hSw; (try dsimp only at hSw); go_simp; (try with_reducible rfl)
                  (try simp only [Act.put, List.setIfInBounds_toArray, List.set_cons_zero, List.set_cons_succ])
                  refine wpAnyH_take (i := 1) (oi := ⟨_, _, _, _, _, _⟩) (v := ?_) rfl (by kernel_rfl) (by kernel_rfl) (by kernel_rfl) (fun _ _ _ h => h) (Or.inl ⟨rfl, ?_⟩) (by assumption) ?_
                  rotate_left 1
                  · intro w_ hSw; (try dsimp only at hSw); go_simp; (try with_reducible rfl)
                  (try simp only [Act.put, List.setIfInBounds_toArray, List.set_cons_zero, List.set_cons_succ])
                  refine wpAnyH_take (i := 2) (oi := ⟨_, _, _, _, _, _⟩) (v := ?_) rfl (by kernel_rfl) (by kernel_rfl) (by kernel_rfl) (fun _ _ _ h => h) (Or.inl ⟨rfl, ?_⟩) (by assumption) ?_
                  rotate_left 1
                  · intro w_ hSw; (try dsimp only at hSw); go_simp; (try with_reducible rfl)
                  (try simp only [Act.put, List.setIfInBounds_toArray, List.set_cons_zero, List.set_cons_succ])
                  refine wpAnyH_take (i := 3) (oi := ⟨_, _, _, _, _, _⟩) (v := ?_) rfl (by kernel_rfl) (by kernel_rfl) (by kernel_rfl) (fun _ _ _ h => h) (Or.inl ⟨rfl, ?_⟩) (by assumption) ?_
                  rotate_left 1
                  · intro w_ hSw; (try dsimp only at hSw); go_simp; (try with_reducible rfl)
                  (try simp only [Act.put, List.setIfInBounds_toArray, List.set_cons_zero, List.set_cons_succ])
                  refine wpAnyH_take (i := 4) (oi := ⟨_, _, _, _, _, _⟩) (v := ?_) rfl (by kernel_rfl) (by kernel_rfl) (by kernel_rfl) (fun _ _ _ h => h) (Or.inl ⟨rfl, ?_⟩) (by assumption) ?_
                  rotate_left 1
                  · intro w_ hSw; (try dsimp only at hSw); go_simp; (try with_reducible rfl)
                  (try simp only [Act.put, List.setIfInBounds_toArray, List.set_cons_zero, List.set_cons_succ])
                  refine wpAnyH_take (i := 5) (oi := ⟨_, _, _, _, _, _⟩) (v := ?_) rfl (by kernel_rfl) (by kernel_rfl) (by kernel_rfl) (fun _ _ _ h => h) (Or.inl ⟨rfl, ?_⟩) (by assumption) ?_
                  rotate_left 1
                  · intro w_ hSw; (try dsimp only at hSw); go_simp; (try with_reducible rfl)
                  (try simp only [Act.put, List.setIfInBounds_toArray, List.set_cons_zero, List.set_cons_succ])
                  refine wpAnyH_take (i := 6) (oi := ⟨_, _, _, _, _, _⟩) (v := ?_) rfl (by kernel_rfl) (by kernel_rfl) (by kernel_rfl) (fun _ _ _ h => h) (Or.inl ⟨rfl, ?_⟩) (by assumption) ?_
                  rotate_left 1
                  · intro w_ hSw; (try dsimp only at hSw); go_simp; (try with_reducible rfl)
                  (try simp only [Act.put, List.setIfInBounds_toArray, List.set_cons_zero, List.set_cons_succ])
                  refine wpAnyH_take (i := 7) (oi := ⟨_, _, _, _, _, _⟩) (v := ?_) rfl (by kernel_rfl) (by kernel_rfl) (by kernel_rfl) (fun _ _ _ h => h) (Or.inl ⟨rfl, ?_⟩) (by assumption) ?_
                  rotate_left 1
                  · intro w_ hSw; (try dsimp only at hSw); go_simp; (try with_reducible rfl)
                  (try simp only [Act.put, List.setIfInBounds_toArray, List.set_cons_zero, List.set_cons_succ])
                  refine wpAnyH_take (i := 8) (oi := ⟨_, _, _, _, _, _⟩) (v := ?_) rfl (by kernel_rfl) (by kernel_rfl) (by kernel_rfl) (fun _ _ _ h => h) (Or.inl ⟨rfl, ?_⟩) (by assumption) ?_
                  rotate_left 1
                  · intro w_ hSw; (try dsimp only at hSw); go_simp; (try with_reducible rfl)
                  (try simp only [Act.put, List.setIfInBounds_toArray, List.set_cons_zero, List.set_cons_succ])
                  refine wpAnyH_take (i := 9) (oi := ⟨_, _, _, _, _, _⟩) (v := ?_) rfl (by kernel_rfl) (by kernel_rfl) (by kernel_rfl) (fun _ _ _ h => h) (Or.inl ⟨rfl, ?_⟩) (by assumption) ?_
                  rotate_left 1
                  · intro w_ hSw; (try dsimp only at hSw); go_simp; (try with_reducible rfl)
                  (try simp only [Act.put, List.setIfInBounds_toArray, List.set_cons_zero, List.set_cons_succ])
                  refine wpAnyH_take (i := 10) (oi := ⟨_, _, _, _, _, _⟩) (v := ?_) rfl (by kernel_rfl) (by kernel_rfl) (by kernel_rfl) (fun _ _ _ h => h) (Or.inl ⟨rfl, ?_⟩) (by assumption) ?_
                  rotate_left 1
                  · intro w_ hSw; (try dsimp only at hSw); go_simp; (try with_reducible rfl)
                  (try simp only [Act.put, List.setIfInBounds_toArray, List.set_cons_zero, List.set_cons_succ])
                  refine wpAnyH_take (i := 11) (oi := ⟨_, _, _, _, _, _⟩) (v := ?_) rfl (by kernel_rfl) (by kernel_rfl) (by kernel_rfl) (fun _ _ _ h => h) (Or.inl ⟨rfl, ?_⟩) (by assumption) ?_
                  rotate_left 1
                  · intro w_ hSw; (try dsimp only at hSw); go_simp; (try with_reducible rfl)
                  (try simp only [Act.put, List.setIfInBounds_toArray, List.set_cons_zero, List.set_cons_succ])
                  refine wpAnyH_take (i := 12) (oi := ⟨_, _, _, _, _, _⟩) (v := ?_) rfl (by kernel_rfl) (by kernel_rfl) (by kernel_rfl) (fun _ _ _ h => h) (Or.inl ⟨rfl, ?_⟩) (by assumption) ?_
                  rotate_left 1
                  · intro w_ hSw; (try dsimp only at hSw); go_simp; (try with_reducible rfl)
                  (try simp only [Act.put, List.setIfInBounds_toArray, List.set_cons_zero, List.set_cons_succ])
                  refine wpAnyH_take (i := 13) (oi := ⟨_, _, _, _, _, _⟩) (v := ?_) rfl (by kernel_rfl) (by kernel_rfl) (by kernel_rfl) (fun _ _ _ h => h) (Or.inl ⟨rfl, ?_⟩) (by assumption) ?_
                  rotate_left 1
                  · intro w_ hSw; (try dsimp only at hSw); go_simp; (try with_reducible rfl)
                  (try simp only [Act.put, List.setIfInBounds_toArray, List.set_cons_zero, List.set_cons_succ])
                  refine wpAnyH_take (i := 14) (oi := ⟨_, _, _, _, _, _⟩) (v := ?_) rfl (by kernel_rfl) (by kernel_rfl) (by kernel_rfl) (fun _ _ _ h => h) (Or.inl ⟨rfl, ?_⟩) (by assumption) ?_
                  rotate_left 1
                  · intro w_ hSw; (try dsimp only at hSw); go_simp; (try with_reducible rfl)
                  (try simp only [Act.put, List.setIfInBounds_toArray, List.set_cons_zero, List.set_cons_succ])
                  refine wpAnyH_take (i := 15) (oi := ⟨_, _, _, _, _, _⟩) (v := ?_) rfl (by kernel_rfl) (by kernel_rfl) (by kernel_rfl) (fun _ _ _ h => h) (Or.inl ⟨rfl, ?_⟩) (by assumption) ?_
                  rotate_left 1
                  · intro w_ hSw; (try dsimp only at hSw); go_simp; (try with_reducible rfl)
                  (try simp only [Act.put, List.setIfInBounds_toArray, List.set_cons_zero, List.set_cons_succ])
                  refine wpAnyH_take (i := 16) (oi := ⟨_, _, _, _, _, _⟩) (v := ?_) rfl (by kernel_rfl) (by kernel_rfl) (by kernel_rfl) (fun _ _ _ h => h) (Or.inl ⟨rfl, ?_⟩) (by assumption) ?_
                  rotate_left 1
                  · intro w_ hSw; (try dsimp only at hSw); go_simp; (try with_reducible rfl)
                  (try simp only [Act.put, List.setIfInBounds_toArray, List.set_cons_zero, List.set_cons_succ])
                  refine wpAnyH_take (i := 17) (oi := ⟨_, _, _, _, _, _⟩) (v := ?_) rfl (by kernel_rfl) (by kernel_rfl) (by kernel_rfl) (fun _ _ _ h => h) (Or.inl ⟨rfl, ?_⟩) (by assumption) ?_
                  rotate_left 1
                  · intro w_ hSw; (try dsimp only at hSw); go_simp; (try with_reducible rfl)
                  (try simp only [Act.put, List.setIfInBounds_toArray, List.set_cons_zero, List.set_cons_succ])
                  refine wpAnyH_take (i := 18) (oi := ⟨_, _, _, _, _, _⟩) (v := ?_) rfl (by kernel_rfl) (by kernel_rfl) (by kernel_rfl) (fun _ _ _ h => h) (Or.inl ⟨rfl, ?_⟩) (by assumption) ?_
                  rotate_left 1
                  · intro w_ hSw; (try dsimp only at hSw); go_simp; (try with_reducible rfl)
                  (try simp only [Act.put, List.setIfInBounds_toArray, List.set_cons_zero, List.set_cons_succ])
                  refine wpAnyH_take (i := 19) (oi := ⟨_, _, _, _, _, _⟩) (v := ?_) rfl (by kernel_rfl) (by kernel_rfl) (by kernel_rfl) (fun _ _ _ h => h) (Or.inl ⟨rfl, ?_⟩) (by assumption) ?_
                  rotate_left 1
                  · intro w_ hSw; (try dsimp only at hSw); go_simp; (try with_reducible rfl)
                  (try simp only [Act.put, List.setIfInBounds_toArray, List.set_cons_zero, List.set_cons_succ])
                  refine wpAnyH_take (i := 20) (oi := ⟨_, _, _, _, _, _⟩) (v := ?_) rfl (by kernel_rfl) (by kernel_rfl) (by kernel_rfl) (fun _ _ _ h => h) (Or.inl ⟨rfl, ?_⟩) (by assumption) ?_
                  rotate_left 1
                  · intro w_ hSw; (try dsimp only at hSw); go_simp; (try with_reducible rfl)
                  (try simp only [Act.put, List.setIfInBounds_toArray, List.set_cons_zero, List.set_cons_succ])
                  refine wpAnyH_take (i := 21) (oi := ⟨_, _, _, _, _, _⟩) (v := ?_) rfl (by kernel_rfl) (by kernel_rfl) (by kernel_rfl) (fun _ _ _ h => h) (Or.inl ⟨rfl, ?_⟩) (by assumption) ?_
                  rotate_left 1
                  · intro w_ hSw; (try dsimp only at hSw); go_simp; (try with_reducible rfl)
                  (try simp only [Act.put, List.setIfInBounds_toArray, List.set_cons_zero, List.set_cons_succ])
                  refine wpAnyH_take (i := 22) (oi := ⟨_, _, _, _, _, _⟩) (v := ?_) rfl (by kernel_rfl) (by kernel_rfl) (by kernel_rfl) (fun _ _ _ h => h) (Or.inl ⟨rfl, ?_⟩) (by assumption) ?_
                  rotate_left 1
                  · intro w_ hSw; (try dsimp only at hSw); go_simp; (try with_reducible rfl)
                  (try simp only [Act.put, List.setIfInBounds_toArray, List.set_cons_zero, List.set_cons_succ])
                  refine wpAnyH_take (i := 23) (oi := ⟨_, _, _, _, _, _⟩) (v := ?_) rfl (by kernel_rfl) (by kernel_rfl) (by kernel_rfl) (fun _ _ _ h => h) (Or.inl ⟨rfl, ?_⟩) (by assumption) ?_
                  rotate_left 1
                  · intro w_ hSw; (try dsimp only at hSw); go_simp; (try with_reducible rfl)
                  (try simp only [Act.put, List.setIfInBounds_toArray, List.set_cons_zero, List.set_cons_succ])
                  refine wpAnyH_take (i := 24) (oi := ⟨_, _, _, _, _, _⟩) (v := ?_) rfl (by kernel_rfl) (by kernel_rfl) (by kernel_rfl) (fun _ _ _ h => h) (Or.inl ⟨rfl, ?_⟩) (by assumption) ?_
                  rotate_left 1
                  · intro w_ hSw; (try dsimp only at hSw); go_simp; (try with_reducible rfl)
                  (try simp only [Act.put, List.setIfInBounds_toArray, List.set_cons_zero, List.set_cons_succ])
                  refine wpAnyH_take (i := 25) (oi := ⟨_, _, _, _, _, _⟩) (v := ?_) rfl (by kernel_rfl) (by kernel_rfl) (by kernel_rfl) (fun _ _ _ h => h) (Or.inl ⟨rfl, ?_⟩) (by assumption) ?_
                  rotate_left 1
                  · intro w_ hSw; (try dsimp only at hSw); go_simp; (try with_reducible rfl)
                  (try simp only [Act.put, List.setIfInBounds_toArray, List.set_cons_zero, List.set_cons_succ])
                  refine wpAnyH_done (by kernel_rfl) ?_ _
                  refine NoPanic.normal ?_
                  go_wp2_with fail
                  go_end0
                  exact ⟨rfl, by rw [HE3.out]; exact HSy.out.below (below_drew wr), HTy.out.drew⟩
              · have hd2 : decide (k < most) = false := decide_eq_false hkm
                have hkm' : ¬ (k : Int) < (most : Int) := by omega
                have HE3 : Hid (rs = (ty, my)) := by
                  have h := HK.out
                  rw [kids_dead (by unfold alive; rw [show decide ((ty, my).2.length < most) = false from decide_eq_false (by rw [HKl.out]; exact hkm)]; rfl)] at h
                  exact h.symm
                go_wp2_with fail
                refine wp_region_noPanic ?_
                refine wp_region_held_drew (S := fun V => V.cell? ⟨P, 2, none⟩ = some (.int .i64 (zb : Int)) ∧ V.cell? ⟨P, 8, none⟩ = some (.slice fa k fc) ∧ V.cell? ⟨P, 6, none⟩ = some (.int .i64 (most : Int)) ∧ V.cell? ⟨P, 7, none⟩ = some (.int .i64 (ty : Int))) (by kernel_rfl) ?_ (fun hHeld => ?_)
                · exact ⟨p2, p8, p6, p7⟩
                refine wpAnyH_take (i := 0) (oi := ⟨_, _, _, _, _, _⟩) (v := ?_) rfl (by kernel_rfl) (by kernel_rfl) (by kernel_rfl) (fun _ _ _ h => h) (Or.inl ⟨rfl, ?_⟩) (by assumption) ?_
                rotate_left 1
                · intro w_ hSw; (try dsimp only at hSw); go_simp; (try with_reducible rfl)
                (try simp only [Act.put, List.setIfInBounds_toArray, List.set_cons_zero, List.set_cons_succ])
                refine wpAnyH_take (i := 1) (oi := ⟨_, _, _, _, _, _⟩) (v := ?_) rfl (by kernel_rfl) (by kernel_rfl) (by kernel_rfl) (fun _ _ _ h => h) (Or.inl ⟨rfl, ?_⟩) (by assumption) ?_
                rotate_left 1
                · intro w_ hSw; (try dsimp only at hSw); go_simp; (try with_reducible rfl)
                (try simp only [Act.put, List.setIfInBounds_toArray, List.set_cons_zero, List.set_cons_succ])
                refine wpAnyH_take (i := 2) (oi := ⟨_, _, _, _, _, _⟩) (v := ?_) rfl (by kernel_rfl) (by kernel_rfl) (by kernel_rfl) (fun _ _ _ h => h) (Or.inl ⟨rfl, ?_⟩) (by assumption) ?_
                rotate_left 1
                · intro w_ hSw; (try dsimp only at hSw); go_simp; (try with_reducible rfl)
                (try simp only [Act.put, List.setIfInBounds_toArray, List.set_cons_zero, List.set_cons_succ])
                refine wpAnyH_take (i := 3) (oi := ⟨_, _, _, _, _, _⟩) (v := ?_) rfl (by kernel_rfl) (by kernel_rfl) (by kernel_rfl) (fun _ _ _ h => h) (Or.inl ⟨rfl, ?_⟩) (by assumption) ?_
                rotate_left 1
                · intro w_ hSw; (try dsimp only at hSw); go_simp; (try with_reducible rfl)
                (try simp only [Act.put, List.setIfInBounds_toArray, List.set_cons_zero, List.set_cons_succ])
                refine wpAnyH_take (i := 4) (oi := ⟨_, _, _, _, _, _⟩) (v := ?_) rfl (by kernel_rfl) (by kernel_rfl) (by kernel_rfl) (fun _ _ _ h => h) (Or.inl ⟨rfl, ?_⟩) (by assumption) ?_
                rotate_left 1
                · intro w_ hSw; (try dsimp only at hSw); go_simp; (try with_reducible rfl)
                (try simp only [Act.put, List.setIfInBounds_toArray, List.set_cons_zero, List.set_cons_succ])
                refine wpAnyH_take (i := 5) (oi := ⟨_, _, _, _, _, _⟩) (v := ?_) rfl (by kernel_rfl) (by kernel_rfl) (by kernel_rfl) (fun _ _ _ h => h) (Or.inl ⟨rfl, ?_⟩) (by assumption) ?_
                rotate_left 1
                · intro w_ hSw; (try dsimp only at hSw); go_simp; (try with_reducible rfl)
                (try simp only [Act.put, List.setIfInBounds_toArray, List.set_cons_zero, List.set_cons_succ])
                refine wpAnyH_take (i := 6) (oi := ⟨_, _, _, _, _, _⟩) (v := ?_) rfl (by kernel_rfl) (by kernel_rfl) (by kernel_rfl) (fun _ _ _ h => h) (Or.inl ⟨rfl, ?_⟩) (by assumption) ?_
                rotate_left 1
                · intro w_ hSw; (try dsimp only at hSw); go_simp; (try with_reducible rfl)
                (try simp only [Act.put, List.setIfInBounds_toArray, List.set_cons_zero, List.set_cons_succ])
                refine wpAnyH_take (i := 7) (oi := ⟨_, _, _, _, _, _⟩) (v := ?_) rfl (by kernel_rfl) (by kernel_rfl) (by kernel_rfl) (fun _ _ _ h => h) (Or.inl ⟨rfl, ?_⟩) (by assumption) ?_
                rotate_left 1
                · intro w_ hSw; (try dsimp only at hSw); go_simp; (try with_reducible rfl)
                (try simp only [Act.put, List.setIfInBounds_toArray, List.set_cons_zero, List.set_cons_succ])
                refine wpAnyH_take (i := 8) (oi := ⟨_, _, _, _, _, _⟩) (v := ?_) rfl (by kernel_rfl) (by kernel_rfl) (by kernel_rfl) (fun _ _ _ h => h) (Or.inl ⟨rfl, ?_⟩) (by assumption) ?_
                rotate_left 1
                · intro w_ hSw; (try dsimp only at hSw); go_simp; (try with_reducible rfl)
                (try simp only [Act.put, List.setIfInBounds_toArray, List.set_cons_zero, List.set_cons_succ])
                refine wpAnyH_take (i := 9) (oi := ⟨_, _, _, _, _, _⟩) (v := ?_) rfl (by kernel_rfl) (by kernel_rfl) (by kernel_rfl) (fun _ _ _ h => h) (Or.inl ⟨rfl, ?_⟩) (by assumption) ?_
                rotate_left 1
                · intro w_ hSw; (try dsimp only at hSw); go_simp; (try with_reducible rfl)
                (try simp only [Act.put, List.setIfInBounds_toArray, List.set_cons_zero, List.set_cons_succ])
                refine wpAnyH_take (i := 10) (oi := ⟨_, _, _, _, _, _⟩) (v := ?_) rfl (by kernel_rfl) (by kernel_rfl) (by kernel_rfl) (fun _ _ _ h => h) (Or.inl ⟨rfl, ?_⟩) (by assumption) ?_
                rotate_left 1
                · intro w_ hSw; (try dsimp only at hSw); go_simp; (try with_reducible rfl)
                (try simp only [Act.put, List.setIfInBounds_toArray, List.set_cons_zero, List.set_cons_succ])
                refine wpAnyH_take (i := 11) (oi := ⟨_, _, _, _, _, _⟩) (v := ?_) rfl (by kernel_rfl) (by kernel_rfl) (by kernel_rfl) (fun _ _ _ h => h) (Or.inl ⟨rfl, ?_⟩) (by assumption) ?_
                rotate_left 1
                · intro w_ hSw; (try dsimp only at hSw); go_simp; (try with_reducible rfl)
                (try simp only [Act.put, List.setIfInBounds_toArray, List.set_cons_zero, List.set_cons_succ])
                refine wpAnyH_take (i := 12) (oi := ⟨_, _, _, _, _, _⟩) (v := ?_) rfl (by kernel_rfl) (by kernel_rfl) (by kernel_rfl) (fun _ _ _ h => h) (Or.inl ⟨rfl, ?_⟩) (by assumption) ?_
                rotate_left 1
                · intro w_ hSw; (try dsimp only at hSw); go_simp; (try with_reducible rfl)
                (try simp only [Act.put, List.setIfInBounds_toArray, List.set_cons_zero, List.set_cons_succ])
                refine wpAnyH_take (i := 13) (oi := ⟨_, _, _, _, _, _⟩) (v := ?_) rfl (by kernel_rfl) (by kernel_rfl) (by kernel_rfl) (fun _ _ _ h => h) (Or.inl ⟨rfl, ?_⟩) (by assumption) ?_
                rotate_left 1
                · intro w_ hSw; (try dsimp only at hSw); go_simp; (try with_reducible rfl)
                (try simp only [Act.put, List.setIfInBounds_toArray, List.set_cons_zero, List.set_cons_succ])
                refine wpAnyH_take (i := 14) (oi := ⟨_, _, _, _, _, _⟩) (v := ?_) rfl (by kernel_rfl) (by kernel_rfl) (by kernel_rfl) (fun _ _ _ h => h) (Or.inl ⟨rfl, ?_⟩) (by assumption) ?_
                rotate_left 1
                · intro w_ hSw; (try dsimp only at hSw); go_simp; (try with_reducible rfl)
                (try simp only [Act.put, List.setIfInBounds_toArray, List.set_cons_zero, List.set_cons_succ])
                refine wpAnyH_take (i := 15) (oi := ⟨_, _, _, _, _, _⟩) (v := ?_) rfl (by kernel_rfl) (by kernel_rfl) (by kernel_rfl) (fun _ _ _ h => h) (Or.inl ⟨rfl, ?_⟩) (by assumption) ?_
                rotate_left 1
                · intro w_ hSw; (try dsimp only at hSw); go_simp; (try with_reducible rfl)
                (try simp only [Act.put, List.setIfInBounds_toArray, List.set_cons_zero, List.set_cons_succ])
                refine wpAnyH_take (i := 16) (oi := ⟨_, _, _, _, _, _⟩) (v := ?_) rfl (by kernel_rfl) (by kernel_rfl) (by kernel_rfl) (fun _ _ _ h => h) (Or.inl ⟨rfl, ?_⟩) (by assumption) ?_
                rotate_left 1
                · intro w_ hSw; (try dsimp only at hSw); go_simp; (try with_reducible rfl)
                (try simp only [Act.put, List.setIfInBounds_toArray, List.set_cons_zero, List.set_cons_succ])
                refine wpAnyH_take (i := 17) (oi := ⟨_, _, _, _, _, _⟩) (v := ?_) rfl (by kernel_rfl) (by kernel_rfl) (by kernel_rfl) (fun _ _ _ h => h) (Or.inl ⟨rfl, ?_⟩) (by assumption) ?_
                rotate_left 1
                · intro w_ hSw; (try dsimp only at hSw); go_simp; (try with_reducible rfl)
                (try simp only [Act.put, List.setIfInBounds_toArray, List.set_cons_zero, List.set_cons_succ])
                refine wpAnyH_take (i := 18) (oi := ⟨_, _, _, _, _, _⟩) (v := ?_) rfl (by kernel_rfl) (by kernel_rfl) (by kernel_rfl) (fun _ _ _ h => h) (Or.inl ⟨rfl, ?_⟩) (by assumption) ?_
                rotate_left 1
                · intro w_ hSw; (try dsimp only at hSw); go_simp; (try with_reducible rfl)
                (try simp only [Act.put, List.setIfInBounds_toArray, List.set_cons_zero, List.set_cons_succ])
                refine wpAnyH_take (i := 19) (oi := ⟨_, _, _, _, _, _⟩) (v := ?_) rfl (by kernel_rfl) (by kernel_rfl) (by kernel_rfl) (fun _ _ _ h => h) (Or.inl ⟨rfl, ?_⟩) (by assumption) ?_
                rotate_left 1
                · intro w_ hSw; (try dsimp only at hSw); go_simp; (try with_reducible rfl)
                (try simp only [Act.put, List.setIfInBounds_toArray, List.set_cons_zero, List.set_cons_succ])
                refine wpAnyH_take (i := 20) (oi := ⟨_, _, _, _, _, _⟩) (v := undef) rfl (by kernel_rfl) (by kernel_rfl) (by kernel_rfl) (fun _ _ _ h => h) (Or.inr ⟨rfl, rfl⟩) (by assumption) ?_
                (try simp only [Act.put, List.setIfInBounds_toArray, List.set_cons_zero, List.set_cons_succ])
                refine wpAnyH_take (i := 21) (oi := ⟨_, _, _, _, _, _⟩) (v := undef) rfl (by kernel_rfl) (by kernel_rfl) (by kernel_rfl) (fun _ _ _ h => h) (Or.inr ⟨rfl, rfl⟩) (by assumption) ?_
                (try simp only [Act.put, List.setIfInBounds_toArray, List.set_cons_zero, List.set_cons_succ])
                refine wpAnyH_take (i := 22) (oi := ⟨_, _, _, _, _, _⟩) (v := undef) rfl (by kernel_rfl) (by kernel_rfl) (by kernel_rfl) (fun _ _ _ h => h) (Or.inr ⟨rfl, rfl⟩) (by assumption) ?_
                (try simp only [Act.put, List.setIfInBounds_toArray, List.set_cons_zero, List.set_cons_succ])
                refine wpAnyH_take (i := 23) (oi := ⟨_, _, _, _, _, _⟩) (v := undef) rfl (by kernel_rfl) (by kernel_rfl) (by kernel_rfl) (fun _ _ _ h => h) (Or.inr ⟨rfl, rfl⟩) (by assumption) ?_
                (try simp only [Act.put, List.setIfInBounds_toArray, List.set_cons_zero, List.set_cons_succ])
                refine wpAnyH_take (i := 24) (oi := ⟨_, _, _, _, _, _⟩) (v := undef) rfl (by kernel_rfl) (by kernel_rfl) (by kernel_rfl) (fun _ _ _ h => h) (Or.inr ⟨rfl, rfl⟩) (by assumption) ?_
                (try simp only [Act.put, List.setIfInBounds_toArray, List.set_cons_zero, List.set_cons_succ])
                refine wpAnyH_take (i := 25) (oi := ⟨_, _, _, _, _, _⟩) (v := ?_) rfl (by kernel_rfl) (by kernel_rfl) (by kernel_rfl) (fun _ _ _ h => h) (Or.inl ⟨rfl, ?_⟩) (by assumption) ?_
                rotate_left 1
                · intro w_ hSw; (try dsimp only at hSw); go_simp; (try with_reducible rfl)
                (try simp only [Act.put, List.setIfInBounds_toArray, List.set_cons_zero, List.set_cons_succ])
                refine wpAnyH_done (by kernel_rfl) ?_ _
                refine NoPanic.normal ?_
                go_wp2_with fail
                go_end0
                exact ⟨rfl, by rw [HE3.out]; exact HSy.out.below (below_drew wr), HTy.out.drew⟩
            · have hd1 : decide (y < zb) = false := decide_eq_false hyz
              have hyz' : ¬ (y : Int) < (zb : Int) := by omega
              have HE3 : Hid (rs = (ty, my)) := by
                have h := HK.out
                rw [show zb - y = 0 by omega] at h
                exact h.symm
              go_wp2_with fail
              refine wp_region_noPanic ?_
              refine wp_region_held_drew (S := fun V => V.cell? ⟨P, 2, none⟩ = some (.int .i64 (zb : Int)) ∧ V.cell? ⟨P, 8, none⟩ = some (.slice fa k fc) ∧ V.cell? ⟨P, 6, none⟩ = some (.int .i64 (most : Int)) ∧ V.cell? ⟨P, 7, none⟩ = some (.int .i64 (ty : Int))) (by kernel_rfl) ?_ (fun hHeld => ?_)
              · exact ⟨p2, p8, p6, p7⟩
              refine wpAnyH_take (i := 0) (oi := ⟨_, _, _, _, _, _⟩) (v := ?_) rfl (by kernel_rfl) (by kernel_rfl) (by kernel_rfl) (fun _ _ _ h => h) (Or.inl ⟨rfl, ?_⟩) (by assumption) ?_
              rotate_left 1
              · intro w_ hSw; (try dsimp only at hSw); go_simp; (try with_reducible rfl)
              (try simp only [Act.put, List.setIfInBounds_toArray, List.set_cons_zero, List.set_cons_succ])
              refine wpAnyH_take (i := 1) (oi := ⟨_, _, _, _, _, _⟩) (v := ?_) rfl (by kernel_rfl) (by kernel_rfl) (by kernel_rfl) (fun _ _ _ h => h) (Or.inl ⟨rfl, ?_⟩) (by assumption) ?_
              rotate_left 1
              · intro w_ hSw; (try dsimp only at hSw); go_simp; (try with_reducible rfl)
              (try simp only [Act.put, List.setIfInBounds_toArray, List.set_cons_zero, List.set_cons_succ])
              refine wpAnyH_take (i := 2) (oi := ⟨_, _, _, _, _, _⟩) (v := ?_) rfl (by kernel_rfl) (by kernel_rfl) (by kernel_rfl) (fun _ _ _ h => h) (Or.inl ⟨rfl, ?_⟩) (by assumption) ?_
              rotate_left 1
              · intro w_ hSw; (try dsimp only at hSw); go_simp; (try with_reducible rfl)
              (try simp only [Act.put, List.setIfInBounds_toArray, List.set_cons_zero, List.set_cons_succ])
              refine wpAnyH_take (i := 3) (oi := ⟨_, _, _, _, _, _⟩) (v := ?_) rfl (by kernel_rfl) (by kernel_rfl) (by kernel_rfl) (fun _ _ _ h => h) (Or.inl ⟨rfl, ?_⟩) (by assumption) ?_
              rotate_left 1
              · intro w_ hSw; (try dsimp only at hSw); go_simp; (try with_reducible rfl)
              (try simp only [Act.put, List.setIfInBounds_toArray, List.set_cons_zero, List.set_cons_succ])
              refine wpAnyH_take (i := 4) (oi := ⟨_, _, _, _, _, _⟩) (v := ?_) rfl (by kernel_rfl) (by kernel_rfl) (by kernel_rfl) (fun _ _ _ h => h) (Or.inl ⟨rfl, ?_⟩) (by assumption) ?_
              rotate_left 1
              · intro w_ hSw; (try dsimp only at hSw); go_simp; (try with_reducible rfl)
              (try simp only [Act.put, List.setIfInBounds_toArray, List.set_cons_zero, List.set_cons_succ])
              refine wpAnyH_take (i := 5) (oi := ⟨_, _, _, _, _, _⟩) (v := ?_) rfl (by kernel_rfl) (by kernel_rfl) (by kernel_rfl) (fun _ _ _ h => h) (Or.inl ⟨rfl, ?_⟩) (by assumption) ?_
              rotate_left 1
              · intro w_ hSw; (try dsimp only at hSw); go_simp; (try with_reducible rfl)
              (try simp only [Act.put, List.setIfInBounds_toArray, List.set_cons_zero, List.set_cons_succ])
              refine wpAnyH_take (i := 6) (oi := ⟨_, _, _, _, _, _⟩) (v := ?_) rfl (by kernel_rfl) (by kernel_rfl) (by kernel_rfl) (fun _ _ _ h => h) (Or.inl ⟨rfl, ?_⟩) (by assumption) ?_
              rotate_left 1
              · intro w_ hSw; (try dsimp only at hSw); go_simp; (try with_reducible rfl)
              (try simp only [Act.put, List.setIfInBounds_toArray, List.set_cons_zero, List.set_cons_succ])
              refine wpAnyH_take (i := 7) (oi := ⟨_, _, _, _, _, _⟩) (v := ?_) rfl (by kernel_rfl) (by kernel_rfl) (by kernel_rfl) (fun _ _ _ h => h) (Or.inl ⟨rfl, ?_⟩) (by assumption) ?_
              rotate_left 1
              · intro w_ hSw; (try dsimp only at hSw); go_simp; (try with_reducible rfl)
              (try simp only [Act.put, List.setIfInBounds_toArray, List.set_cons_zero, List.set_cons_succ])
              refine wpAnyH_take (i := 8) (oi := ⟨_, _, _, _, _, _⟩) (v := undef) rfl (by kernel_rfl) (by kernel_rfl) (by kernel_rfl) (fun _ _ _ h => h) (Or.inr ⟨rfl, rfl⟩) (by assumption) ?_
              (try simp only [Act.put, List.setIfInBounds_toArray, List.set_cons_zero, List.set_cons_succ])
              refine wpAnyH_take (i := 9) (oi := ⟨_, _, _, _, _, _⟩) (v := undef) rfl (by kernel_rfl) (by kernel_rfl) (by kernel_rfl) (fun _ _ _ h => h) (Or.inr ⟨rfl, rfl⟩) (by assumption) ?_
              (try simp only [Act.put, List.setIfInBounds_toArray, List.set_cons_zero, List.set_cons_succ])
              refine wpAnyH_take (i := 10) (oi := ⟨_, _, _, _, _, _⟩) (v := undef) rfl (by kernel_rfl) (by kernel_rfl) (by kernel_rfl) (fun _ _ _ h => h) (Or.inr ⟨rfl, rfl⟩) (by assumption) ?_
              (try simp only [Act.put, List.setIfInBounds_toArray, List.set_cons_zero, List.set_cons_succ])
              refine wpAnyH_take (i := 11) (oi := ⟨_, _, _, _, _, _⟩) (v := undef) rfl (by kernel_rfl) (by kernel_rfl) (by kernel_rfl) (fun _ _ _ h => h) (Or.inr ⟨rfl, rfl⟩) (by assumption) ?_
              (try simp only [Act.put, List.setIfInBounds_toArray, List.set_cons_zero, List.set_cons_succ])
              refine wpAnyH_take (i := 12) (oi := ⟨_, _, _, _, _, _⟩) (v := undef) rfl (by kernel_rfl) (by kernel_rfl) (by kernel_rfl) (fun _ _ _ h => h) (Or.inr ⟨rfl, rfl⟩) (by assumption) ?_
              (try simp only [Act.put, List.setIfInBounds_toArray, List.set_cons_zero, List.set_cons_succ])
              refine wpAnyH_take (i := 13) (oi := ⟨_, _, _, _, _, _⟩) (v := undef) rfl (by kernel_rfl) (by kernel_rfl) (by kernel_rfl) (fun _ _ _ h => h) (Or.inr ⟨rfl, rfl⟩) (by assumption) ?_
              (try simp only [Act.put, List.setIfInBounds_toArray, List.set_cons_zero, List.set_cons_succ])
              refine wpAnyH_take (i := 14) (oi := ⟨_, _, _, _, _, _⟩) (v := undef) rfl (by kernel_rfl) (by kernel_rfl) (by kernel_rfl) (fun _ _ _ h => h) (Or.inr ⟨rfl, rfl⟩) (by assumption) ?_
              (try simp only [Act.put, List.setIfInBounds_toArray, List.set_cons_zero, List.set_cons_succ])
              refine wpAnyH_take (i := 15) (oi := ⟨_, _, _, _, _, _⟩) (v := undef) rfl (by kernel_rfl) (by kernel_rfl) (by kernel_rfl) (fun _ _ _ h => h) (Or.inr ⟨rfl, rfl⟩) (by assumption) ?_
              (try simp only [Act.put, List.setIfInBounds_toArray, List.set_cons_zero, List.set_cons_succ])
              refine wpAnyH_take (i := 16) (oi := ⟨_, _, _, _, _, _⟩) (v := undef) rfl (by kernel_rfl) (by kernel_rfl) (by kernel_rfl) (fun _ _ _ h => h) (Or.inr ⟨rfl, rfl⟩) (by assumption) ?_
              (try simp only [Act.put, List.setIfInBounds_toArray, List.set_cons_zero, List.set_cons_succ])
              refine wpAnyH_take (i := 17) (oi := ⟨_, _, _, _, _, _⟩) (v := undef) rfl (by kernel_rfl) (by kernel_rfl) (by kernel_rfl) (fun _ _ _ h => h) (Or.inr ⟨rfl, rfl⟩) (by assumption) ?_
              (try simp only [Act.put, List.setIfInBounds_toArray, List.set_cons_zero, List.set_cons_succ])
              refine wpAnyH_take (i := 18) (oi := ⟨_, _, _, _, _, _⟩) (v := ?_) rfl (by kernel_rfl) (by kernel_rfl) (by kernel_rfl) (fun _ _ _ h => h) (Or.inl ⟨rfl, ?_⟩) (by assumption) ?_
              rotate_left 1
              · intro w_ hSw; (try dsimp only at hSw); go_simp; (try with_reducible rfl)
              (try simp only [Act.put, List.setIfInBounds_toArray, List.set_cons_zero, List.set_cons_succ])
              refine wpAnyH_take (i := 19) (oi := ⟨_, _, _, _, _, _⟩) (v := ?_) rfl (by kernel_rfl) (by kernel_rfl) (by kernel_rfl) (fun _ _ _ h => h) (Or.inl ⟨rfl, ?_⟩) (by assumption) ?_
              rotate_left 1
              · intro w_ hSw; (try dsimp only at hSw); go_simp; (try with_reducible rfl)
              (try simp only [Act.put, List.setIfInBounds_toArray, List.set_cons_zero, List.set_cons_succ])
              refine wpAnyH_take (i := 20) (oi := ⟨_, _, _, _, _, _⟩) (v := undef) rfl (by kernel_rfl) (by kernel_rfl) (by kernel_rfl) (fun _ _ _ h => h) (Or.inr ⟨rfl, rfl⟩) (by assumption) ?_
              (try simp only [Act.put, List.setIfInBounds_toArray, List.set_cons_zero, List.set_cons_succ])
              refine wpAnyH_take (i := 21) (oi := ⟨_, _, _, _, _, _⟩) (v := undef) rfl (by kernel_rfl) (by kernel_rfl) (by kernel_rfl) (fun _ _ _ h => h) (Or.inr ⟨rfl, rfl⟩) (by assumption) ?_
              (try simp only [Act.put, List.setIfInBounds_toArray, List.set_cons_zero, List.set_cons_succ])
              refine wpAnyH_take (i := 22) (oi := ⟨_, _, _, _, _, _⟩) (v := undef) rfl (by kernel_rfl) (by kernel_rfl) (by kernel_rfl) (fun _ _ _ h => h) (Or.inr ⟨rfl, rfl⟩) (by assumption) ?_
              (try simp only [Act.put, List.setIfInBounds_toArray, List.set_cons_zero, List.set_cons_succ])
              refine wpAnyH_take (i := 23) (oi := ⟨_, _, _, _, _, _⟩) (v := undef) rfl (by kernel_rfl) (by kernel_rfl) (by kernel_rfl) (fun _ _ _ h => h) (Or.inr ⟨rfl, rfl⟩) (by assumption) ?_
              (try simp only [Act.put, List.setIfInBounds_toArray, List.set_cons_zero, List.set_cons_succ])
              refine wpAnyH_take (i := 24) (oi := ⟨_, _, _, _, _, _⟩) (v := undef) rfl (by kernel_rfl) (by kernel_rfl) (by kernel_rfl) (fun _ _ _ h => h) (Or.inr ⟨rfl, rfl⟩) (by assumption) ?_
              (try simp only [Act.put, List.setIfInBounds_toArray, List.set_cons_zero, List.set_cons_succ])
              refine wpAnyH_take (i := 25) (oi := ⟨_, _, _, _, _, _⟩) (v := ?_) rfl (by kernel_rfl) (by kernel_rfl) (by kernel_rfl) (fun _ _ _ h => h) (Or.inl ⟨rfl, ?_⟩) (by assumption) ?_
              rotate_left 1
              · intro w_ hSw; (try dsimp only at hSw); go_simp; (try with_reducible rfl)
              (try simp only [Act.put, List.setIfInBounds_toArray, List.set_cons_zero, List.set_cons_succ])
              refine wpAnyH_done (by kernel_rfl) ?_ _
              refine NoPanic.normal ?_
              go_wp2_with fail
              go_end0
              exact ⟨rfl, by rw [HE3.out]; exact HSy.out.below (below_drew wr), HTy.out.drew⟩
        · have HN2 : Hid (∀ j, j < x + 1 → ¬ f j = -1) := fun j hj => by
            by_cases e : j = x
            · subst e; rw [HUx.out]; omega
            · exact HN.out j (by omega)
          go_wp2_with fail
          go_round
          case rel => exact ⟨x + 1, by omega, by go_num, HN2⟩
          case measure => simp [intOf]; omega
      · have hxl' : ¬ (x : Int) < (l : Int) := by omega
        obtain rfl : x = l := by omega
        have hne : ((x : Int) == (x : Int)) = true := by simp
        have HE2 : Hid (rs = if wantB x zb onto f = true then (t0, ms0 ++ [lstP x f]) else (t0, ms0)) := by
          unfold Hid; rw [← HRs.out, walkS_leaf (firstOpen_none HN.out)]
        obtain ⟨k, hk_⟩ : ∃ k, ms0.length = k := ⟨_, rfl⟩
        have hvl : vals.length = ms0.length := by have := a2.1; simpa using this
        rw [hk_] at a1 a2 hvl
        have HKl : Hid (ms0.length = k) := hk_
        have HVl : Hid (vals.length = k) := hvl
        have hk1 : k ≤ 1000 := by
          have h := HAl.out
          unfold alive at h
          simp only [Bool.and_eq_true, decide_eq_true_eq] at h
          omega
        have p5 : W.cell? ⟨P, 5, none⟩ = some (.bool onto) := cell_of_row W P 5 _ _ _ a1
        have p2 : W.cell? ⟨P, 2, none⟩ = some (.int .i64 (zb : Int)) := cell_of_row W P 2 _ _ _ a1
        have p8 : W.cell? ⟨P, 8, none⟩ = some (.slice fa k fc) := cell_of_row W P 8 _ _ _ a1
        have HA1 := Lib.hid a1
        have HA2 := Lib.hid a2
        have HA3 := Lib.hid a3
        have HA4 := Lib.hid a4
        have HA5 := Lib.hid a5
        have HOn := Lib.hid (onto_spec bs W.heap.size x gd zb (some ⟨g, 0, none⟩) (lstP x f) W (OwnsInts.of_row HRf0.out).view hl8 hz8)
        obtain ⟨ob, hob⟩ : ∃ ob, ontoB zb (lstP x f) = ob := ⟨_, rfl⟩
        rw [hob] at HOn
        have HOb := Lib.hid hob
        clear a1 a2 a3 a4 a5 hk_ hvl hob HFnd
        cases onto with
        | false =>
          have HE3 : Hid (rs = (t0, ms0 ++ [lstP x f])) := by unfold Hid; rw [HE2.out, if_pos (by simp [wantB])]
          obtain ⟨i0, hi0, hz0, hz1, hz2⟩ := info_parts infoIntsW
          go_wp2_with (at_builtin; refine wpList_append_own _ rfl _ _ 26 rfl bs 42 i0 (.slice none 0 0) 1 24 Try.underlying26 hi0 hz0 hz1 hz2 rfl (by decide) (.slice fa k fc) k vals rfl (HA2.out.alloc _) ⟨W.heap.size, 0, none⟩ 1 1 [.slice (some ⟨g, 0, none⟩) x gd] rfl rfl (cell_one_new _ _ _) (fun x hx => by simp at hx; subst hx; rfl) (by unfold maxLen; omega) (by omega) (by have := HA5.out; simp; omega) ?_; intro v' w3 hown' hgrow' hnil'; obtain ⟨g3, cap, rfl⟩ := ownsRow_succ hown'; have t3 : Turn bs tR W w3 := (Turn.of_below (below_alloc W _)).trans (Turn.grown (HA2.out.alloc _) hgrow' (Nat.le_refl _) rfl); have HP3 := Lib.hid (t3.keep HA1.out rfl); have c8 : w3.cell? ⟨P, 8, none⟩ = some (.slice fa k fc) := cell_of_row w3 P 8 _ _ _ HP3.out; have c8f : w3.frozen? ⟨P, 8, none⟩ = false := (by have := HP3.out; simp [World.frozen?, this]); have HO3 := Lib.hid hown'; have HT3 := Lib.hid t3; clear hown' hgrow' hnil' t3)
          have t3 := HT3.out
          have hP3 := HP3.out
          obtain ⟨w4, hw4⟩ : ∃ w4, w4 = w3.setCell ⟨P, 8, none⟩ (.slice (some ⟨g3, 0, none⟩) (k + 1) cap) := ⟨_, rfl⟩
          have HW4 := Lib.hid hw4
          have tP4 : Turn bs tQ w3 w4 := by rw [hw4]; exact Turn.setCell hP3 hP rfl 8 _
          have HT4 : Hid (Turn bs tS W w4) := (t3.mono (Nat.le_refl _) tR_S).trans (tP4.mono (Nat.le_refl _) tQ_S)
          have HS4 : Hid (SpW x zb ao bo c n d m w0 bs P into false most w4 (t0, ms0 ++ [lstP x f])) := by
            refine ⟨some ⟨g3, 0, none⟩, cap, vals ++ [.slice (some ⟨g, 0, none⟩) x gd], ?_, ?_, ?_, HA4.out.trans (HT4.out.below HA5.out), Nat.le_trans HA5.out HT4.out.size⟩
            · rw [hw4, setCell_eq_setRow w3 P 8 _ _ _ _ hP3, setRow_heap w3 P _ _ _ _ hP3]
              simp only [List.length_append, List.length_cons, List.length_nil, HKl.out]
              rfl
            · have h := tP4.row HO3.out rfl
              simp only [List.length_append, List.length_cons, List.length_nil, HKl.out]
              exact h
            · intro j ys hj
              by_cases hjk : j < k
              · rw [List.getElem?_append_left (by rw [HKl.out]; exact hjk)] at hj
                obtain ⟨h, hd, b1, b2, b3⟩ := (HA3.out.turn HT4.out) j ys hj
                exact ⟨h, hd, by rw [List.getElem?_append_left (by rw [HVl.out]; exact hjk)]; exact b1, b2, b3⟩
              · have hjl : j = k := by
                  have h := (List.getElem?_eq_some_iff.1 hj).1
                  simp only [List.length_append, List.length_cons, List.length_nil, HKl.out] at h
                  omega
                subst hjl
                rw [List.getElem?_append_right (by rw [HKl.out]; exact Nat.le_refl _), HKl.out, Nat.sub_self] at hj
                have hys : lstP x f = ys := by simpa using hj
                subst hys
                exact ⟨g, gd, by rw [List.getElem?_append_right (by rw [HVl.out]; exact Nat.le_refl _), HVl.out, Nat.sub_self]; rfl, lstP_len x f, HT4.out.row HRf0.out rfl⟩
          rw [← HW4.out]
          refine bodyPost_ret (results_none rfl _ _ _) rfl ?_
          exact ⟨rfl, by rw [HE3.out]; exact HS4.out, HT4.out⟩
        | true =>
          cases ob with
          | true =>
            have HE3 : Hid (rs = (t0, ms0 ++ [lstP x f])) := by unfold Hid; rw [HE2.out, if_pos (by simp [wantB, HOb.out])]
            go_wp2_with fail
            refine HOn.out.mono ?_
            rintro e w2 ⟨rfl, hw2⟩
            obtain rfl : W = w2 := hw2.symm
            obtain ⟨i0, hi0, hz0, hz1, hz2⟩ := info_parts infoIntsW
            go_wp2_with (at_builtin; refine wpList_append_own _ rfl _ _ 26 rfl bs 42 i0 (.slice none 0 0) 1 24 Try.underlying26 hi0 hz0 hz1 hz2 rfl (by decide) (.slice fa k fc) k vals rfl (HA2.out.alloc _) ⟨W.heap.size, 0, none⟩ 1 1 [.slice (some ⟨g, 0, none⟩) x gd] rfl rfl (cell_one_new _ _ _) (fun x hx => by simp at hx; subst hx; rfl) (by unfold maxLen; omega) (by omega) (by have := HA5.out; simp; omega) ?_; intro v' w3 hown' hgrow' hnil'; obtain ⟨g3, cap, rfl⟩ := ownsRow_succ hown'; have t3 : Turn bs tR W w3 := (Turn.of_below (below_alloc W _)).trans (Turn.grown (HA2.out.alloc _) hgrow' (Nat.le_refl _) rfl); have HP3 := Lib.hid (t3.keep HA1.out rfl); have c8 : w3.cell? ⟨P, 8, none⟩ = some (.slice fa k fc) := cell_of_row w3 P 8 _ _ _ HP3.out; have c8f : w3.frozen? ⟨P, 8, none⟩ = false := (by have := HP3.out; simp [World.frozen?, this]); have HO3 := Lib.hid hown'; have HT3 := Lib.hid t3; clear hown' hgrow' hnil' t3)
            have t3 := HT3.out
            have hP3 := HP3.out
            obtain ⟨w4, hw4⟩ : ∃ w4, w4 = w3.setCell ⟨P, 8, none⟩ (.slice (some ⟨g3, 0, none⟩) (k + 1) cap) := ⟨_, rfl⟩
            have HW4 := Lib.hid hw4
            have tP4 : Turn bs tQ w3 w4 := by rw [hw4]; exact Turn.setCell hP3 hP rfl 8 _
            have HT4 : Hid (Turn bs tS W w4) := (t3.mono (Nat.le_refl _) tR_S).trans (tP4.mono (Nat.le_refl _) tQ_S)
            have HS4 : Hid (SpW x zb ao bo c n d m w0 bs P into true most w4 (t0, ms0 ++ [lstP x f])) := by
              refine ⟨some ⟨g3, 0, none⟩, cap, vals ++ [.slice (some ⟨g, 0, none⟩) x gd], ?_, ?_, ?_, HA4.out.trans (HT4.out.below HA5.out), Nat.le_trans HA5.out HT4.out.size⟩
              · rw [hw4, setCell_eq_setRow w3 P 8 _ _ _ _ hP3, setRow_heap w3 P _ _ _ _ hP3]
                simp only [List.length_append, List.length_cons, List.length_nil, HKl.out]
                rfl
              · have h := tP4.row HO3.out rfl
                simp only [List.length_append, List.length_cons, List.length_nil, HKl.out]
                exact h
              · intro j ys hj
                by_cases hjk : j < k
                · rw [List.getElem?_append_left (by rw [HKl.out]; exact hjk)] at hj
                  obtain ⟨h, hd, b1, b2, b3⟩ := (HA3.out.turn HT4.out) j ys hj
                  exact ⟨h, hd, by rw [List.getElem?_append_left (by rw [HVl.out]; exact hjk)]; exact b1, b2, b3⟩
                · have hjl : j = k := by
                    have h := (List.getElem?_eq_some_iff.1 hj).1
                    simp only [List.length_append, List.length_cons, List.length_nil, HKl.out] at h
                    omega
                  subst hjl
                  rw [List.getElem?_append_right (by rw [HKl.out]; exact Nat.le_refl _), HKl.out, Nat.sub_self] at hj
                  have hys : lstP x f = ys := by simpa using hj
                  subst hys
                  exact ⟨g, gd, by rw [List.getElem?_append_right (by rw [HVl.out]; exact Nat.le_refl _), HVl.out, Nat.sub_self]; rfl, lstP_len x f, HT4.out.row HRf0.out rfl⟩
            rw [← HW4.out]
            refine bodyPost_ret (results_none rfl _ _ _) rfl ?_
            exact ⟨rfl, by rw [HE3.out]; exact HS4.out, HT4.out⟩
          | false =>
            have HE3 : Hid (rs = (t0, ms0)) := by unfold Hid; rw [HE2.out, if_neg (by simp [wantB, HOb.out])]
            go_wp2_with fail
            refine HOn.out.mono ?_
            rintro e w2 ⟨rfl, hw2⟩
            obtain rfl : W = w2 := hw2.symm
            go_wp2_with fail
            refine bodyPost_ret (results_none rfl _ _ _) rfl ?_
            exact ⟨rfl, by rw [HE3.out]; exact HS0.out, Turn.refl _ _ _⟩
end

end Go.Proofs.Ytmlimbjpehjfnaa
