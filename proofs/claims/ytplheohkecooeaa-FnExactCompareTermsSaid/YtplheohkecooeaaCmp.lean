/-
  Contracts: both CompareTerms, with what they call. Conditions: the bounds that each theorem names.
-/
import Derived.Test.YtplheohkecooeaaTakes3
import Derived.Test.YtplheohkecooeaaTwo
import Derived.Test.YtplheohkecooeaaShelf
import Derived.Test.YtplheohkecooeaaCmpM
namespace Go.Proofs.Ytplheohkecooeaa
open Go.RowKit
set_option linter.unusedVariables false
set_option linter.unusedSimpArgs false
attribute [local go_sem ↓] Go.wp_at_zero Go.wp_at_succ

/-! spec.l3Less, spec.l3Before -/
set_option maxHeartbeats 1000000 in
theorem less_any (lo hi lo2 hi2 : Nat) (ao bo : Option Addr) (c m d m2 : Nat) (s t : List Int) (w : World) (hs : IView w lo hi ao m s) (ht : IView w lo2 hi2 bo m2 t) (he : m = m2) (hm : m ≤ 1048576) :
    Calls Try.prog 113 #[.slice ao m c, .slice bo m2 d] w fun e w' => e = .returned (.bool (cmpL s t == -1)) ∧ Below w.heap.size w w' := by
  subst he
  have HS := Lib.hid hs
  have HT := Lib.hid ht
  obtain ⟨r, hr⟩ : ∃ r, cmpL s t = r := ⟨_, rfl⟩
  have HR := Lib.hid hr
  rw [hr]
  clear hs ht hr
  go_enter Try.func113, Try.ntmps113
  go_wp2
  go_loopw [5] (fun i wr => ∃ k g : Nat, k ≤ m ∧ i = .int .i64 (k : Int) ∧ Hid (cmpL (s.drop k) (t.drop k) = r) ∧ wr = w.drewN g) (fun i _ => m - (intOf i).toNat)
  case atStart => exact ⟨0, 0, Nat.zero_le _, rfl, HR, rfl⟩
  case round =>
    obtain ⟨k, g, hk, rfl, HE, rfl⟩ := hrel
    by_cases hlt : k < m
    · obtain ⟨b, o, rfl, _, _, hc⟩ := HS.out.at_ (by omega)
      obtain ⟨x, hx⟩ := get_of_lt HS.out.1 hlt
      have c0 := hc k x hx
      obtain ⟨b2, o2, rfl, _, _, hc2⟩ := HT.out.at_ (by omega)
      obtain ⟨y, hy⟩ := get_of_lt HT.out.1 hlt
      have c1 := hc2 k y hy
      have HX := Lib.hid hx
      have HY := Lib.hid hy
      have hkm : (k : Int) < (m : Int) := by omega
      clear hc hc2 hx hy
      by_cases hxy : x = y
      · subst hxy
        have hne : (x != x) = false := by simp
        have HN : Hid (cmpL (s.drop (k + 1)) (t.drop (k + 1)) = r) := by unfold Hid; rw [← HE.out, cmpL_eq HX.out HY.out]
        go_wp2
        go_quiet (fail)
        go_wp2
        go_roundw
        case rel => exact ⟨k + 1, _, by omega, by go_num, HN, rfl⟩
        case measure => simp [intOf]; omega
      · have hne : (x != y) = true := by rw [bne_iff_ne]; exact hxy
        by_cases hlt2 : x < y
        · have HN : Hid (-1 = r) := by unfold Hid; rw [← HE.out, cmpL_lt HX.out HY.out hlt2]
          go_wp2
          go_quiet (fail)
          go_wp2
          go_quiet (fail)
          go_wp2
          go_ret
          exact ⟨by rw [← HN.out]; rfl, below_drewN (below_drewN (below_drewN (Below.refl _ _) _) _) _⟩
        · have HN : Hid (1 = r) := by unfold Hid; rw [← HE.out, cmpL_gt HX.out HY.out (by omega)]
          go_wp2
          go_quiet (fail)
          go_wp2
          go_quiet (fail)
          go_wp2
          go_ret
          exact ⟨by rw [← HN.out]; simp [hlt2], below_drewN (below_drewN (below_drewN (Below.refl _ _) _) _) _⟩
    · have HN : Hid (0 = r) := by unfold Hid; rw [← HE.out, cmpL_both (by have := HS.out.1; omega) (by have := HT.out.1; omega)]
      go_wp2
      go_ret
      exact ⟨by rw [← HN.out]; rfl, below_drewN (Below.refl _ _) _⟩

theorem before_any (lo hi lo2 hi2 : Nat) (ao bo : Option Addr) (c m d m2 : Nat) (s t : List Int) (w : World) (hs : IView w lo hi ao m s) (ht : IView w lo2 hi2 bo m2 t) (hm : m ≤ 1048576) (hm2 : m2 ≤ 1048576) :
    Calls Try.prog 90 #[.slice ao m c, .slice bo m2 d] w fun e w' => e = .returned (.bool (befB s t)) ∧ Below w.heap.size w w' := by
  have hl := hs.1
  have hl2 := ht.1
  by_cases he : m = m2
  · subst he
    have hcall := less_any lo hi lo2 hi2 ao bo c m d m s t w hs ht rfl hm
    rw [show (cmpL s t == -1) = befB s t by unfold befB; rw [ordL_len (by omega)]] at hcall
    obtain ⟨r, hr⟩ : ∃ r, befB s t = r := ⟨_, rfl⟩
    rw [hr] at hcall ⊢
    have HC := Lib.hid hcall
    have hne : ((m : Int) != (m : Int)) = false := by simp
    clear hs ht hl hl2 hcall hr
    go_enter Try.func90, Try.ntmps90
    go_wp2_with fail
    refine HC.out.mono ?_
    rintro e w1 ⟨rfl, b1⟩
    have HB1 := Lib.hid b1
    clear b1
    go_wp2_with fail
    go_ret
    exact ⟨rfl, HB1.out⟩
  · have hne : ((m : Int) != (m2 : Int)) = true := by rw [bne_iff_ne]; omega
    by_cases hlt : m < m2
    · rw [befB_lt (by omega)]
      have hlt' : (m : Int) < (m2 : Int) := by omega
      clear hs ht hl hl2
      go_enter Try.func90, Try.ntmps90
      go_wp2
      go_ret
      exact ⟨rfl, Below.refl _ _⟩
    · rw [befB_gt (by omega)]
      have hlt' : ¬ (m : Int) < (m2 : Int) := by omega
      clear hs ht hl hl2
      go_enter Try.func90, Try.ntmps90
      go_wp2
      go_ret
      exact ⟨rfl, Below.refl _ _⟩

/-! slices.Compare, cmp.Or, impl.orderOfLists -/
theorem compareInt_eq (x y : Int) : Lib.compareInt x y = (if x < y then -1 else if y < x then 1 else 0) := by
  unfold Lib.compareInt
  by_cases h1 : x < y
  · simp [h1]
  · by_cases h2 : y < x
    · simp [h1, h2]
    · have : x = y := by omega
      subst this
      simp

set_option maxHeartbeats 1000000 in
theorem compare_any (lo hi lo2 hi2 : Nat) (ao bo : Option Addr) (c m d m2 : Nat) (s t : List Int) (w : World) (hs : IView w lo hi ao m s) (ht : IView w lo2 hi2 bo m2 t) (hm : m ≤ 1048576) (hm2 : m2 ≤ 1048576) :
    Calls Try.prog 116 #[.slice ao m c, .slice bo m2 d] w fun e w' => e = .returned (.int .i64 (cmpL s t)) ∧ w = w' := by
  have HS := Lib.hid hs
  have HT := Lib.hid ht
  obtain ⟨r, hr⟩ : ∃ r, cmpL s t = r := ⟨_, rfl⟩
  have HR := Lib.hid hr
  rw [hr]
  clear hs ht hr
  go_enter Try.func116, Try.ntmps116
  go_wp2
  go_loop [5, 6, 7, 8, 11] (fun _ _ _ _ i => ∃ k : Nat, k ≤ m ∧ k ≤ m2 ∧ i = .int .i64 (k : Int) ∧ Hid (cmpL (s.drop k) (t.drop k) = r)) (fun _ _ _ _ i => m - (intOf i).toNat)
  case atStart => exact ⟨0, Nat.zero_le _, Nat.zero_le _, rfl, HR⟩
  case round =>
    obtain ⟨k, hk, hk2, rfl, HE⟩ := hrel
    by_cases hlt : k < m
    · have hkm : (k : Int) < (m : Int) := by omega
      obtain ⟨b, o, rfl, _, _, hc⟩ := HS.out.at_ (by omega)
      obtain ⟨x, hx⟩ := get_of_lt HS.out.1 hlt
      have c0 := hc k x hx
      by_cases hlt2 : k < m2
      · have hkm2 : (k : Int) < (m2 : Int) := by omega
        obtain ⟨b2, o2, rfl, _, _, hc2⟩ := HT.out.at_ (by omega)
        obtain ⟨y, hy⟩ := get_of_lt HT.out.1 hlt2
        have c1 := hc2 k y hy
        have hcall := Try.cmp_Compare_int x y w
        rw [compareInt_eq] at hcall
        have HX := Lib.hid hx
        have HY := Lib.hid hy
        clear hc hc2 hx hy
        by_cases h1 : x < y
        · rw [if_pos h1] at hcall
          have HC := Lib.hid hcall
          have HN : Hid (-1 = r) := by unfold Hid; rw [← HE.out, cmpL_lt HX.out HY.out h1]
          clear hcall
          go_wp2_with fail
          refine HC.out.mono ?_
          rintro e w1 ⟨rfl, rfl⟩
          go_wp2_with fail
          go_ret
          exact ⟨ret_int HN.out, rfl⟩
        · by_cases h2 : y < x
          · rw [if_neg h1, if_pos h2] at hcall
            have HC := Lib.hid hcall
            have HN : Hid (1 = r) := by unfold Hid; rw [← HE.out, cmpL_gt HX.out HY.out h2]
            clear hcall
            go_wp2_with fail
            refine HC.out.mono ?_
            rintro e w1 ⟨rfl, rfl⟩
            go_wp2_with fail
            go_ret
            exact ⟨ret_int HN.out, rfl⟩
          · rw [if_neg h1, if_neg h2] at hcall
            have HC := Lib.hid hcall
            obtain rfl : x = y := by omega
            have HN : Hid (cmpL (s.drop (k + 1)) (t.drop (k + 1)) = r) := by unfold Hid; rw [← HE.out, cmpL_eq HX.out HY.out]
            clear hcall
            go_wp2_with fail
            refine HC.out.mono ?_
            rintro e w1 ⟨rfl, rfl⟩
            go_wp2_with fail
            go_round
            case rel => exact ⟨k + 1, by omega, by omega, by go_num, HN⟩
            case measure => simp [intOf]; omega
      · have hkm2 : (m2 : Int) ≤ (k : Int) := by omega
        have HN : Hid (1 = r) := by unfold Hid; rw [← HE.out, cmpL_right (by have := HS.out.1; omega) (by have := HT.out.1; omega)]
        clear hc hx
        go_wp2
        go_ret
        exact ⟨ret_int HN.out, rfl⟩
    · have hkm : ¬ (k : Int) < (m : Int) := by omega
      by_cases hlt2 : m < m2
      · have hlt2' : (m : Int) < (m2 : Int) := by omega
        have HN : Hid (-1 = r) := by unfold Hid; rw [← HE.out, cmpL_left (by have := HS.out.1; omega) (by have := HT.out.1; omega)]
        go_wp2
        go_ret
        exact ⟨ret_int HN.out, rfl⟩
      · have hlt2' : ¬ (m : Int) < (m2 : Int) := by omega
        have HN : Hid (0 = r) := by unfold Hid; rw [← HE.out, cmpL_both (by have := HS.out.1; omega) (by have := HT.out.1; omega)]
        go_wp2
        go_ret
        exact ⟨ret_int HN.out, rfl⟩

theorem or_any (lo hi : Nat) (ao : Option Addr) (c : Nat) (x y : Int) (w : World) (h : IView w lo hi ao 2 [x, y]) :
    Calls Try.prog 114 #[.slice ao 2 c] w fun e w' => e = .returned (.int .i64 (if x = 0 then y else x)) ∧ w = w' := by
  obtain ⟨b, o, rfl, _, _, hc⟩ := h.at_ (by omega)
  have c0 : w.cell? ⟨b, o, none⟩ = some (.int .i64 x) := by simpa using hc 0 x rfl
  have c1 : w.cell? ⟨b, o + 1, none⟩ = some (.int .i64 y) := hc 1 y rfl
  clear hc h
  by_cases hx : x = 0
  · subst hx
    rw [if_pos rfl]
    by_cases hy : y = 0
    · subst hy
      go_enter Try.func114, Try.ntmps114
      go_wp2
      refine wp_loop_rounds 3 ?_
      rw [rounds_succ]
      go_wp2
      rw [rounds_succ]
      go_wp2
      rw [rounds_succ]
      go_wp2
      go_ret
      exact ⟨rfl, rfl⟩
    · have hne : (y != 0) = true := by rw [bne_iff_ne]; exact hy
      go_enter Try.func114, Try.ntmps114
      go_wp2
      refine wp_loop_rounds 2 ?_
      rw [rounds_succ]
      go_wp2
      rw [rounds_succ]
      go_wp2
      go_ret
      exact ⟨rfl, rfl⟩
  · rw [if_neg hx]
    have hne : (x != 0) = true := by rw [bne_iff_ne]; exact hx
    go_enter Try.func114, Try.ntmps114
    go_wp2
    refine wp_loop_rounds 1 ?_
    rw [rounds_succ]
    go_wp2
    go_ret
    exact ⟨rfl, rfl⟩

set_option maxHeartbeats 400000 in
theorem order_any (lo hi lo2 hi2 : Nat) (ao bo : Option Addr) (c m d m2 : Nat) (s t : List Int) (w : World) (hs : IView w lo hi ao m s) (ht : IView w lo2 hi2 bo m2 t) (hm : m ≤ 1048576) (hm2 : m2 ≤ 1048576) :
    Calls Try.prog 91 #[.slice ao m c, .slice bo m2 d] w fun e w' => e = .returned (.int .i64 (ordL s t)) ∧ Below w.heap.size w w' := by
  have hl := hs.1
  have hl2 := ht.1
  have hL : Lib.compareInt (m : Int) (m2 : Int) = lenC s t := by
    rw [compareInt_eq]
    unfold lenC
    rw [hl, hl2]
    by_cases h1 : m < m2
    · have h1' : (m : Int) < (m2 : Int) := by omega
      simp [h1]
    · by_cases h2 : m2 < m
      · simp [h1, h2]
      · simp [h1, h2]
  have hc1 := Try.cmp_Compare_int (m : Int) (m2 : Int) w
  rw [hL] at hc1
  have HC1 := Lib.hid hc1
  have HC2 := Lib.hid (compare_any lo hi lo2 hi2 ao bo c m d m2 s t w hs ht hm hm2)
  obtain ⟨x, hx⟩ : ∃ x, lenC s t = x := ⟨_, rfl⟩
  obtain ⟨y, hy⟩ : ∃ y, cmpL s t = y := ⟨_, rfl⟩
  have hO : ordL s t = (if x = 0 then y else x) := by unfold ordL; rw [hx, hy]
  rw [hO]
  rw [hx] at HC1
  rw [hy] at HC2
  have HC3 := Lib.hid (fun cc => or_any w.heap.size (w.heap.size + 1) (some ⟨w.heap.size, 0, none⟩) cc x y (w.alloc (.cells #[.int .i64 x, .int .i64 y] 3)) ⟨rfl, .inr ⟨w.heap.size, 0, rfl, Nat.le_refl _, by omega, fun j v hj => by
    match j, hj with
    | 0, hj => simp at hj; subst hj; simp
    | 1, hj => simp at hj; subst hj; simp⟩⟩)
  obtain ⟨v, hv⟩ : ∃ v, (if x = 0 then y else x) = v := ⟨_, rfl⟩
  rw [hv] at HC3 ⊢
  clear hs ht hl hl2 hL hc1 hx hy hO hv
  go_enter Try.func91, Try.ntmps91
  go_wp2_with fail
  refine HC1.out.mono ?_
  rintro e w1 ⟨rfl, rfl⟩
  go_wp2_with fail
  refine HC2.out.mono ?_
  rintro e w1 ⟨rfl, rfl⟩
  go_wp2_with fail
  refine (HC3.out _).mono ?_
  rintro e w1 ⟨rfl, rfl⟩
  go_wp2_with fail
  go_ret
  exact ⟨rfl, below_alloc _ _⟩

set_option maxHeartbeats 400000 in
theorem implCompareTerms (lo hi : Nat) (z : Int) (ao : Option Addr) (c n : Nat) (fs : List OpD) (lo2 hi2 : Nat) (bo : Option Addr) (d m : Nat) (xs : List Int) (lo3 hi3 : Nat) (co : Option Addr) (d2 m2 : Nat) (ys : List Int) (w : World) (hv : OView w lo hi ao n fs) (hhi : hi ≤ w.heap.size) (hs : ∀ (j : Nat) (f : OpD), fs[j]? = some f → f.2.length ≤ maxLen)
    (hx : IView w lo2 hi2 bo m xs) (hhi2 : hi2 ≤ w.heap.size) (hmd : m ≤ d) (hm : d ≤ maxLen) (hq : ∀ x, x ∈ xs → (Lit.int .i64 x).wf = true)
    (hy : IView w lo3 hi3 co m2 ys) (hhi3 : hi3 ≤ w.heap.size) (hmd2 : m2 ≤ d2) (hm2 : d2 ≤ maxLen) (hq2 : ∀ x, x ∈ ys → (Lit.int .i64 x).wf = true) :
    Calls Try.prog 45 #[.agg #[.int .i64 z, .slice ao n c], .slice bo m d, .slice co m2 d2] w fun e w' => e = .returned (.tuple #[.int .i64 (valCompareTerms z fs xs ys).1, .bool (valCompareTerms z fs xs ys).2]) ∧ Below w.heap.size w w' := by
  have hB0 := below_alloc w (.cells #[.int .i64 z, .slice ao n c] 30)
  have hB := below_then hB0 (below_alloc _ (.cells #[.slice bo m d, .slice co m2 d2] 25))
  have HB := Lib.hid hB
  have hcall := areT_two lo hi lo2 hi2 lo3 hi3 z ao bo co c n d m d2 m2 fs xs ys w _ hB hv hhi hs hx hhi2 hmd hm hq hy hhi3 hmd2 hm2 hq2 (w.heap.size + 1) (by simp) (by simp) (by simp) 2
  obtain ⟨r, hr⟩ : ∃ r, (algOkB z fs && (termB fs xs && termB fs ys)) = r := ⟨_, rfl⟩
  rw [hr] at hcall
  have HC := Lib.hid hcall
  have hval : valCompareTerms z fs xs ys = if r then (ordL xs ys, true) else (0, false) := by unfold valCompareTerms; rw [hr]
  rw [hval]
  cases r with
  | false =>
    clear hB0 hB hv hs hx hq hy hq2 hcall hr hval
    go_enter Try.func45, Try.ntmps45
    go_wp2_with fail
    refine HC.out.mono ?_
    rintro e w1 ⟨rfl, b1⟩
    have HB1 := Lib.hid (HB.out.trans (b1.mono HB.out.size))
    clear b1
    go_wp2_with fail
    go_ret2
    exact ⟨rfl, HB1.out⟩
  | true =>
    simp only [Bool.and_eq_true, termB, decide_eq_true_eq] at hr
    have h60 : m ≤ 60 := by have := hx.1; omega
    have h602 : m2 ≤ 60 := by have := hy.1; omega
    have HX := Lib.hid hx
    have HY := Lib.hid hy
    obtain ⟨v, hve⟩ : ∃ v, ordL xs ys = v := ⟨_, rfl⟩
    have HVe := Lib.hid hve
    rw [hve]
    clear hB0 hB hv hs hx hq hy hq2 hcall hr hval hve
    go_enter Try.func45, Try.ntmps45
    go_wp2_with fail
    refine HC.out.mono ?_
    rintro e w1 ⟨rfl, b1⟩
    have HB1 := Lib.hid (HB.out.trans (b1.mono HB.out.size))
    have hcall := order_any lo2 hi2 lo3 hi3 bo co d m d2 m2 xs ys w1 (HX.out.kept (Kept.of_below HB1.out hhi2)) (HY.out.kept (Kept.of_below HB1.out hhi3)) (by omega) (by omega)
    rw [HVe.out] at hcall
    have HC2 := Lib.hid hcall
    clear b1 hcall
    go_wp2_with fail
    refine HC2.out.mono ?_
    rintro e w2 ⟨rfl, b2⟩
    have HB2 := Lib.hid (HB1.out.trans (b2.mono HB1.out.size))
    clear b2
    go_wp2_with fail
    go_ret2
    exact ⟨rfl, HB2.out⟩

set_option maxHeartbeats 1000000 in
theorem specCompareTerms (lo hi : Nat) (z : Int) (ao : Option Addr) (c n : Nat) (fs : List OpD) (lo2 hi2 : Nat) (bo : Option Addr) (d m : Nat) (xs : List Int) (lo3 hi3 : Nat) (co : Option Addr) (d2 m2 : Nat) (ys : List Int) (w : World) (hv : OView w lo hi ao n fs) (hhi : hi ≤ w.heap.size) (hs : ∀ (j : Nat) (f : OpD), fs[j]? = some f → f.2.length ≤ maxLen)
    (hx : IView w lo2 hi2 bo m xs) (hhi2 : hi2 ≤ w.heap.size) (hmd : m ≤ d) (hm : d ≤ maxLen) (hq : ∀ x, x ∈ xs → (Lit.int .i64 x).wf = true)
    (hy : IView w lo3 hi3 co m2 ys) (hhi3 : hi3 ≤ w.heap.size) (hmd2 : m2 ≤ d2) (hm2 : d2 ≤ maxLen) (hq2 : ∀ x, x ∈ ys → (Lit.int .i64 x).wf = true) :
    Calls Try.prog 44 #[.agg #[.int .i64 z, .slice ao n c], .slice bo m d, .slice co m2 d2] w fun e w' => e = .returned (.tuple #[.int .i64 (valCompareTerms z fs xs ys).1, .bool (valCompareTerms z fs xs ys).2]) ∧ Below w.heap.size w w' := by
  have hB := below_alloc w (.cells #[.int .i64 z, .slice ao n c] 30)
  have HB := Lib.hid hB
  have hcall := l3Takes_any lo hi lo2 hi2 z ao bo c n d m fs xs _ (hv.kept (Kept.of_below hB hhi)) (Nat.le_trans hhi hB.size) hs (hx.kept (Kept.of_below hB hhi2)) (Nat.le_trans hhi2 hB.size) (Nat.le_trans hmd hm)
  obtain ⟨r, hr⟩ : ∃ r, isTermB z fs xs = r := ⟨_, rfl⟩
  rw [hr] at hcall
  have HC := Lib.hid hcall
  have hval : valCompareTerms z fs xs ys = if r && termB fs ys then (ordL xs ys, true) else (0, false) := by
    unfold valCompareTerms; rw [← hr, isTermB, Bool.and_assoc]
  rw [hval]
  cases r with
  | false =>
    rw [Bool.false_and]
    clear hB hv hs hx hq hy hq2 hcall hr hval
    go_enter Try.func44, Try.ntmps44
    go_wp2_with fail
    refine HC.out.mono ?_
    rintro e w1 ⟨rfl, b1⟩
    have HB1 := Lib.hid (HB.out.trans (b1.mono HB.out.size))
    clear b1
    go_wp2_with fail
    go_ret2
    exact ⟨rfl, HB1.out⟩
  | true =>
    rw [Bool.true_and]
    obtain ⟨hok, h60, hend⟩ := isTermB_of hr
    obtain ⟨r2, hr2⟩ : ∃ r2, termB fs ys = r2 := ⟨_, rfl⟩
    rw [hr2]
    have h60' : m ≤ 60 := by have := hx.1; omega
    have HV := Lib.hid hv
    have HX := Lib.hid hx
    have HY := Lib.hid hy
    have HOk := Lib.hid hok
    have HR2 := Lib.hid hr2
    have HCG := Lib.hid (fun (w1 : World) (hB1 : Below w.heap.size w w1) => l3Good_any lo hi lo3 hi3 z ao co c n d2 m2 fs ys w1 (hv.kept (Kept.of_below hB1 hhi)) (Nat.le_trans hhi hB1.size) hok (hy.kept (Kept.of_below hB1 hhi3)) (Nat.le_trans hhi3 hB1.size) (Nat.le_trans hmd2 hm2))
    rw [hr2] at HCG
    cases r2 with
    | false =>
      clear hB hv hs hx hq hy hq2 hcall hr hval hok h60 hend hr2
      go_enter Try.func44, Try.ntmps44
      go_wp2_with fail
      refine HC.out.mono ?_
      rintro e w1 ⟨rfl, b1⟩
      have HB1 := Lib.hid (HB.out.trans (b1.mono HB.out.size))
      have cz : w1.cell? ⟨w.heap.size, 0, none⟩ = some (.int .i64 z) := cell_b b1 (by simp)
      have ca : w1.cell? ⟨w.heap.size, 1, none⟩ = some (.slice ao n c) := cell_b b1 (by simp)
      clear b1
      go_wp2_with fail
      refine (HCG.out _ HB1.out).mono ?_
      rintro e w2 ⟨rfl, b2⟩
      have HB2 := Lib.hid (HB1.out.trans (b2.mono HB1.out.size))
      clear b2
      go_wp2_with fail
      go_ret2
      exact ⟨rfl, HB2.out⟩
    | true =>
      have h602 : m2 ≤ 60 := by
        have h_ := hr2
        simp only [Bool.and_eq_true, termB, decide_eq_true_eq] at h_
        have := hy.1; omega
      have HC1 := Lib.hid (fun (w1 : World) (hB1 : Below w.heap.size w w1) => before_any lo2 hi2 lo3 hi3 bo co d m d2 m2 xs ys w1 (hx.kept (Kept.of_below hB1 hhi2)) (hy.kept (Kept.of_below hB1 hhi3)) (by omega) (by omega))
      have HC2 := Lib.hid (fun (w1 : World) (hB1 : Below w.heap.size w w1) => before_any lo3 hi3 lo2 hi2 co bo d2 m2 d m ys xs w1 (hy.kept (Kept.of_below hB1 hhi3)) (hx.kept (Kept.of_below hB1 hhi2)) (by omega) (by omega))
      have hsw := ordL_swap xs ys
      obtain ⟨v, hve⟩ : ∃ v, ordL xs ys = v := ⟨_, rfl⟩
      have hb1 : befB xs ys = (v == -1) := by unfold befB; rw [hve]
      have hb2 : befB ys xs = (-v == -1) := by unfold befB; rw [hsw, hve]
      rw [hb1] at HC1
      rw [hb2] at HC2
      have hcs := ordL_cases xs ys
      rw [hve] at hcs ⊢
      clear hB hv hs hx hq hy hq2 hcall hr hval hok h60 hend hr2 hsw hve hb1 hb2
      rcases hcs with rfl | rfl | rfl
      · go_enter Try.func44, Try.ntmps44
        go_wp2_with fail
        refine HC.out.mono ?_
        rintro e w1 ⟨rfl, b1⟩
        have HB1 := Lib.hid (HB.out.trans (b1.mono HB.out.size))
        have cz : w1.cell? ⟨w.heap.size, 0, none⟩ = some (.int .i64 z) := cell_b b1 (by simp)
        have ca : w1.cell? ⟨w.heap.size, 1, none⟩ = some (.slice ao n c) := cell_b b1 (by simp)
        clear b1
        go_wp2_with fail
        refine (HCG.out _ HB1.out).mono ?_
        rintro e w2 ⟨rfl, b2⟩
        have HB2 := Lib.hid (HB1.out.trans (b2.mono HB1.out.size))
        clear b2
        go_wp2_with fail
        refine (HC1.out _ HB2.out).mono ?_
        rintro e w3 ⟨rfl, b3⟩
        have HB3 := Lib.hid (HB2.out.trans (b3.mono HB2.out.size))
        clear b3
        go_wp2_with fail
        go_ret2
        exact ⟨rfl, HB3.out⟩
      all_goals
        go_enter Try.func44, Try.ntmps44
        go_wp2_with fail
        refine HC.out.mono ?_
        rintro e w1 ⟨rfl, b1⟩
        have HB1 := Lib.hid (HB.out.trans (b1.mono HB.out.size))
        have cz : w1.cell? ⟨w.heap.size, 0, none⟩ = some (.int .i64 z) := cell_b b1 (by simp)
        have ca : w1.cell? ⟨w.heap.size, 1, none⟩ = some (.slice ao n c) := cell_b b1 (by simp)
        clear b1
        go_wp2_with fail
        refine (HCG.out _ HB1.out).mono ?_
        rintro e w2 ⟨rfl, b2⟩
        have HB2 := Lib.hid (HB1.out.trans (b2.mono HB1.out.size))
        clear b2
        go_wp2_with fail
        refine (HC1.out _ HB2.out).mono ?_
        rintro e w3 ⟨rfl, b3⟩
        have HB3 := Lib.hid (HB2.out.trans (b3.mono HB2.out.size))
        clear b3
        go_wp2_with fail
        refine (HC2.out _ HB3.out).mono ?_
        rintro e w4 ⟨rfl, b4⟩
        have HB4 := Lib.hid (HB3.out.trans (b4.mono HB3.out.size))
        clear b4
        go_wp2_with fail
        go_ret2
        exact ⟨rfl, HB4.out⟩

end Go.Proofs.Ytplheohkecooeaa
