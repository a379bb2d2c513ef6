/-
  Contracts: impl.areTerms, spec.l3Good, spec.l3Takes and both IsTerm: what lists are terms. Conditions: the bounds that each theorem names.
-/
import Derived.Test.YtplheohkecooeaaEnd
import Derived.Test.YtplheohkecooeaaIsAlg
namespace Go.Proofs.Ytplheohkecooeaa
open Go.RowKit
set_option linter.unusedVariables false
set_option linter.unusedSimpArgs false

/-- What the calls of areTerms begin with. -/
theorem areT_box (z : Int) (ao : Option Addr) (c n : Nat) (w : World) : Below w.heap.size w (w.alloc (.cells #[.int .i64 z, .slice ao n c] 30)) := below_alloc _ _

set_option maxHeartbeats 1000000 in
theorem areT_any (lo hi lo2 hi2 : Nat) (z : Int) (ao bo : Option Addr) (c n d m : Nat) (fs : List OpD) (xss : List (List Int)) (w : World) (hv : OView w lo hi ao n fs) (hhi : hi ≤ w.heap.size) (hs : ∀ (j : Nat) (f : OpD), fs[j]? = some f → f.2.length ≤ maxLen)
    (hx : LView w lo2 hi2 bo m xss) (hhi2 : hi2 ≤ w.heap.size) (hm : m ≤ 1048576) (hq : ∀ xs, xs ∈ xss → ∀ x, x ∈ xs → (Lit.int .i64 x).wf = true) :
    Calls Try.prog 64 #[.agg #[.int .i64 z, .slice ao n c], .slice bo m d] w fun e w' => e = .returned (.bool (areB z fs xss)) ∧ Below w.heap.size w w' := by
  have hB := below_alloc w (.cells #[.int .i64 z, .slice ao n c] 30)
  have HB := Lib.hid hB
  have hA := isAlg_any lo hi z ao c n fs _ (hv.kept (Kept.of_below hB hhi)) (Nat.le_trans hhi hB.size) hs
  obtain ⟨t, ht⟩ : ∃ t, algOkB z fs = t := ⟨_, rfl⟩
  rw [ht] at hA
  have HA := Lib.hid hA
  obtain ⟨r, hr⟩ : ∃ r, areB z fs xss = r := ⟨_, rfl⟩
  have HR := Lib.hid hr
  rw [hr]
  have HV := Lib.hid hv
  have HX := Lib.hid hx
  have HQ := Lib.hid hq
  cases t with
  | false =>
    have HN : Hid (false = r) := by unfold Hid; rw [← hr]; simp [areB, ht]
    clear hB hA hv hx hs hq hr ht
    go_enter Try.func64, Try.ntmps64
    go_wp2_with fail
    refine HA.out.mono ?_
    rintro e w1 ⟨rfl, b1⟩
    have HB1 := Lib.hid (HB.out.trans (b1.mono HB.out.size))
    clear b1
    go_wp2_with fail
    go_ret
    exact ⟨ret_bool HN.out, HB1.out⟩
  | true =>
    have HOk := Lib.hid ht
    clear hB hA hv hx hs hq hr ht
    go_enter Try.func64, Try.ntmps64
    go_wp2_with fail
    refine HA.out.mono ?_
    rintro e w1 ⟨rfl, b1⟩
    have HB1 := Lib.hid (HB.out.trans (b1.mono HB.out.size))
    have cz : w1.cell? ⟨w.heap.size, 0, none⟩ = some (.int .i64 z) := cell_b b1 (by simp)
    have ca : w1.cell? ⟨w.heap.size, 1, none⟩ = some (.slice ao n c) := cell_b b1 (by simp)
    have hsz : w.heap.size < w1.heap.size := by have := b1.size; simp at this; omega
    clear b1
    go_wp2_with fail
    go_loopw [6, 7, 8, 14] (fun v6 v7 v8 i wr => ∃ (k : Nat), k ≤ m ∧ i = .int .i64 (k : Int) ∧ Hid ((xss.take k).all (termB fs) = true) ∧ Hid (Below w.heap.size w wr) ∧ wr.cell? ⟨w.heap.size, 0, none⟩ = some (.int .i64 z) ∧ wr.cell? ⟨w.heap.size, 1, none⟩ = some (.slice ao n c) ∧ w.heap.size < wr.heap.size) (fun _ _ _ i _ => m - (intOf i).toNat)
    case atStart => exact ⟨0, Nat.zero_le _, rfl, rfl, HB1, cz, ca, hsz⟩
    case round =>
      obtain ⟨k, hk, rfl, HT, HBr, dz, da, hsr⟩ := hrel
      clear cz ca
      by_cases hlt : k < m
      · obtain ⟨b, o, rfl, _, _, hc⟩ := HX.out.at_ (by omega)
        obtain ⟨xs, hxs⟩ := get_of_lt HX.out.1 hlt
        obtain ⟨a, p, c', c0, hpc, hcm, hvx⟩ := hc k xs hxs
        have e0 : wr.cell? ⟨b, o + k, none⟩ = some (.slice a p c') := cell_b HBr.out c0
        have HXs := Lib.hid hxs
        have hpl := hvx.1
        have hkm : (k : Int) < (m : Int) := by omega
        by_cases h60 : p ≤ 60
        · have hcall := endOf_any lo hi lo2 hi2 z ao a c n c' p fs xs 0 wr (HV.out.kept (Kept.of_below HBr.out hhi)) (Nat.le_trans hhi HBr.out.size) HOk.out (hvx.kept (Kept.of_below HBr.out hhi2)) (Nat.le_trans hhi2 HBr.out.size) h60 (HQ.out xs (List.mem_of_getElem? hxs)) (Nat.zero_le _)
          obtain ⟨q, hq⟩ : ∃ q, endA fs xs 0 = q := ⟨_, rfl⟩
          rw [hq] at hcall
          have HQq := Lib.hid hq
          have HPl := Lib.hid hpl
          cases q with
          | none =>
            have HC := Lib.hid hcall
            have HN : Hid (false = r) := by unfold Hid; rw [← HR.out]; exact (areB_no hxs (termB_none hq)).symm
            clear hc hxs c0 hvx hcall hq hpl
            go_wp2_with fail
            refine HC.out.mono ?_
            rintro e w2 ⟨rfl, b2⟩
            have HB2 := Lib.hid (HBr.out.trans (b2.mono HBr.out.size))
            clear b2
            unfold endV
            go_wp2_with fail
            go_ret
            exact ⟨ret_bool HN.out, HB2.out⟩
          | some q =>
            have HC := Lib.hid hcall
            have hqg := endA_gt hq
            by_cases hqp : q = p
            · subst hqp
              have HY : Hid (termB fs xs = true) := termB_yes (by omega) (by rw [hq, hpl])
              clear hc hxs c0 hvx hcall hq hpl
              go_wp2_with fail
              refine HC.out.mono ?_
              rintro e w2 ⟨rfl, b2⟩
              have HB2 := Lib.hid (HBr.out.trans (b2.mono HBr.out.size))
              have dz2 := cell_b b2 dz
              have da2 := cell_b b2 da
              have hs2 : w.heap.size < w2.heap.size := by have := b2.size; omega
              clear b2 dz da hsr e0
              unfold endV
              go_wp2_with fail
              go_roundw
              case rel => exact ⟨k + 1, by omega, by go_num, areB_succ HXs.out HT.out HY.out, HB2, dz2, da2, hs2⟩
              case measure => simp [intOf]; omega
            · have HN : Hid (false = r) := by unfold Hid; rw [← HR.out]; exact (areB_no hxs (termB_part hq (by omega))).symm
              have hne : ((q : Int) != (p : Int)) = true := by rw [bne_iff_ne]; omega
              clear hc hxs c0 hvx hcall hq hpl
              go_wp2_with fail
              refine HC.out.mono ?_
              rintro e w2 ⟨rfl, b2⟩
              have HB2 := Lib.hid (HBr.out.trans (b2.mono HBr.out.size))
              clear b2
              unfold endV
              go_wp2_with fail
              go_ret
              exact ⟨ret_bool HN.out, HB2.out⟩
        · have HN : Hid (false = r) := by unfold Hid; rw [← HR.out]; exact (areB_no hxs (termB_long (by omega))).symm
          have hp60 : (60 : Int) < (p : Int) := by omega
          clear hc hxs c0 hvx hpl
          go_wp2_with fail
          go_ret
          exact ⟨ret_bool HN.out, HBr.out⟩
      · have HN : Hid (true = r) := by
          unfold Hid
          have h1 := HT.out
          rw [List.take_of_length_le (by have := HX.out.1; omega)] at h1
          rw [← HR.out, areB, HOk.out, h1]; rfl
        go_wp2_with fail
        go_ret
        exact ⟨ret_bool HN.out, HBr.out⟩

/-! spec.l3Good -/
set_option maxHeartbeats 1000000 in
theorem l3Good_any (lo hi lo2 hi2 : Nat) (z : Int) (ao bo : Option Addr) (c n d m : Nat) (fs : List OpD) (xs : List Int) (w : World) (hv : OView w lo hi ao n fs) (hhi : hi ≤ w.heap.size) (hok : algOkB z fs = true)
    (hx : IView w lo2 hi2 bo m xs) (hhi2 : hi2 ≤ w.heap.size) (hm : m ≤ maxLen) :
    Calls Try.prog 74 #[.agg #[.int .i64 z, .slice ao n c], .slice bo m d] w fun e w' => e = .returned (.bool (termB fs xs)) ∧ Below w.heap.size w w' := by
  have hB := below_alloc w (.cells #[.int .i64 z, .slice ao n c] 30)
  have HB := Lib.hid hB
  have hl := hx.1
  by_cases h0 : m = 0
  · subst h0
    have hx0 : xs = [] := List.eq_nil_of_length_eq_zero hl
    subst hx0
    clear hB hv hok hx hl
    go_enter Try.func74, Try.ntmps74
    go_wp2_with fail
    go_ret
    exact ⟨rfl, HB.out⟩
  · by_cases h60 : m ≤ 60
    · have hcall := l3End_any lo hi lo2 hi2 z ao bo c n d m fs xs 0 _ (hv.kept (Kept.of_below hB hhi)) (Nat.le_trans hhi hB.size) hok (hx.kept (Kept.of_below hB hhi2)) (Nat.le_trans hhi2 hB.size) h60 (Nat.zero_le _)
      obtain ⟨q, hq⟩ : ∃ q, endI (endA fs xs 0) = q := ⟨_, rfl⟩
      rw [hq] at hcall
      have HC := Lib.hid hcall
      obtain ⟨r, hr⟩ : ∃ r, termB fs xs = r := ⟨_, rfl⟩
      have hqr : (q == (m : Int)) = r := by
        rw [← hr, ← hq]
        unfold termB
        rw [show decide (xs.length ≤ 60) = true from decide_eq_true (by omega), Bool.true_and, hl]
        cases hE : endA fs xs 0 with
        | none => simp [endI]
        | some e =>
          by_cases he : e = m
          · simp [endI, he]
          · have h1 : ((e : Int) == (m : Int)) = false := by rw [beq_eq_false_iff_ne]; omega
            have h2 : (e == m) = false := by rw [beq_eq_false_iff_ne]; exact he
            simp [endI, h1, h2]
      rw [hr]
      have hm0 : (0 : Int) < (m : Int) := by omega
      clear hB hv hok hx hl hcall hq hr
      go_enter Try.func74, Try.ntmps74
      go_wp2_with fail
      refine HC.out.mono ?_
      rintro e w1 ⟨rfl, b1⟩
      have HB1 := Lib.hid (HB.out.trans (b1.mono HB.out.size))
      clear b1
      go_wp2_with fail
      go_ret
      exact ⟨rfl, HB1.out⟩
    · rw [termB_long (by omega)]
      have hm0 : (0 : Int) < (m : Int) := by omega
      have hm1 : ¬ (m : Int) ≤ 60 := by omega
      clear hB hv hok hx hl
      go_enter Try.func74, Try.ntmps74
      go_wp2_with fail
      go_ret
      exact ⟨rfl, HB.out⟩

set_option maxHeartbeats 1000000 in
theorem l3Takes_any (lo hi lo2 hi2 : Nat) (z : Int) (ao bo : Option Addr) (c n d m : Nat) (fs : List OpD) (xs : List Int) (w : World) (hv : OView w lo hi ao n fs) (hhi : hi ≤ w.heap.size) (hs : ∀ (j : Nat) (f : OpD), fs[j]? = some f → f.2.length ≤ maxLen)
    (hx : IView w lo2 hi2 bo m xs) (hhi2 : hi2 ≤ w.heap.size) (hm : m ≤ maxLen) :
    Calls Try.prog 62 #[.agg #[.int .i64 z, .slice ao n c], .slice bo m d] w fun e w' => e = .returned (.bool (isTermB z fs xs)) ∧ Below w.heap.size w w' := by
  have hB := below_alloc w (.cells #[.int .i64 z, .slice ao n c] 30)
  have HB := Lib.hid hB
  have hG := good_any lo hi z ao c n fs _ (hv.kept (Kept.of_below hB hhi)) (Nat.le_trans hhi hB.size) hs
  obtain ⟨t, ht⟩ : ∃ t, algOkB z fs = t := ⟨_, rfl⟩
  rw [ht] at hG
  have HG := Lib.hid hG
  have hr : isTermB z fs xs = (t && termB fs xs) := by rw [isTermB, ht]
  rw [hr]
  have HV := Lib.hid hv
  have HX := Lib.hid hx
  have HT := Lib.hid ht
  clear hB hv hs hx hG ht hr
  cases t with
  | false =>
    go_enter Try.func62, Try.ntmps62
    go_wp2_with fail
    refine HG.out.mono ?_
    rintro e w1 ⟨rfl, b1⟩
    have HB1 := Lib.hid (HB.out.trans (b1.mono HB.out.size))
    clear b1
    go_wp2_with fail
    go_ret
    exact ⟨rfl, HB1.out⟩
  | true =>
    rw [Bool.true_and]
    obtain ⟨r, hr⟩ : ∃ r, termB fs xs = r := ⟨_, rfl⟩
    have HRr := Lib.hid hr
    rw [hr]
    clear hr
    go_enter Try.func62, Try.ntmps62
    go_wp2_with fail
    refine HG.out.mono ?_
    rintro e w1 ⟨rfl, b1⟩
    have HB1 := Lib.hid (HB.out.trans (b1.mono HB.out.size))
    have cz : w1.cell? ⟨w.heap.size, 0, none⟩ = some (.int .i64 z) := cell_b b1 (by simp)
    have ca : w1.cell? ⟨w.heap.size, 1, none⟩ = some (.slice ao n c) := cell_b b1 (by simp)
    have hcall := l3Good_any lo hi lo2 hi2 z ao bo c n d m fs xs w1 (HV.out.kept (Kept.of_below HB1.out hhi)) (Nat.le_trans hhi HB1.out.size) HT.out (HX.out.kept (Kept.of_below HB1.out hhi2)) (Nat.le_trans hhi2 HB1.out.size) hm
    rw [HRr.out] at hcall
    have HC := Lib.hid hcall
    clear b1 hcall
    go_wp2_with fail
    refine HC.out.mono ?_
    rintro e w2 ⟨rfl, b2⟩
    have HB2 := Lib.hid (HB1.out.trans (b2.mono HB1.out.size))
    clear b2
    go_wp2_with fail
    go_ret
    exact ⟨rfl, HB2.out⟩

/-! Both IsTerm -/
def valIsTerm (z : Int) (fs : List OpD) (xs : List Int) : Bool := isTermB z fs xs

/-- areTerms at a list of one, in the world of a call that laid its algebra and the list. -/
theorem areT_one (lo hi lo2 hi2 : Nat) (z : Int) (ao bo : Option Addr) (c n d m : Nat) (fs : List OpD) (xs : List Int) (w W : World) (hB : Below w.heap.size w W) (hv : OView w lo hi ao n fs) (hhi : hi ≤ w.heap.size) (hs : ∀ (j : Nat) (f : OpD), fs[j]? = some f → f.2.length ≤ maxLen)
    (hx : IView w lo2 hi2 bo m xs) (hhi2 : hi2 ≤ w.heap.size) (hmd : m ≤ d) (hm : d ≤ maxLen) (hq : ∀ x, x ∈ xs → (Lit.int .i64 x).wf = true) (b : Nat) (hb : b < W.heap.size) (hc : W.cell? ⟨b, 0, none⟩ = some (.slice bo m d)) (cc : Nat) :
    Calls Try.prog 64 #[.agg #[.int .i64 z, .slice ao n c], .slice (some ⟨b, 0, none⟩) 1 cc] W fun e w' => e = .returned (.bool (isTermB z fs xs)) ∧ Below W.heap.size W w' := by
  have h := areT_any lo hi 0 W.heap.size z ao (some ⟨b, 0, none⟩) c n cc 1 fs [xs] W (hv.kept (Kept.of_below hB hhi)) (Nat.le_trans hhi hB.size) hs
    (LView.one hc (Nat.zero_le _) hb hmd hm ((hx.kept (Kept.of_below hB hhi2)).mono (Nat.zero_le _) (Nat.le_trans hhi2 hB.size))) (Nat.le_refl _) (by omega) (fun ys hy x hxx => by simp at hy; subst hy; exact hq x hxx)
  rw [areB_one] at h
  exact h

end Go.Proofs.Ytplheohkecooeaa
