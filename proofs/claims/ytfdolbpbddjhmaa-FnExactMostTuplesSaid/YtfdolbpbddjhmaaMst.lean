/-
  Contracts: spec.l1Most, spec.l8Most, spec.MostTuples, impl.MostTuples: the greatest number of tuples. Conditions: the bounds that each theorem names.
-/
import Derived.Test.YtfdolbpbddjhmaaIsAlg
import Derived.Test.YtfdolbpbddjhmaaStep
import Derived.Lib.Hide
namespace Go.Proofs.Ytfdolbpbddjhmaa
open Go.RowKit
set_option linter.unusedVariables false
set_option linter.unusedSimpArgs false

/-- The greatest arity. -/
def mxA (fs : List OpD) : Int := fs.foldl (fun m f => max m f.1) 0
theorem mxA_succ {fs : List OpD} {k : Nat} {f : OpD} (h : fs[k]? = some f) : mxA (fs.take (k + 1)) = max (mxA (fs.take k)) f.1 := by
  unfold mxA
  rw [List.take_add_one, h, List.foldl_append]; rfl
theorem mxA_bd {z : Int} {fs : List OpD} (h : ∀ f ∈ fs, opOkB z f = true) : ∀ k, k ≤ fs.length → 0 ≤ mxA (fs.take k) ∧ mxA (fs.take k) ≤ 3 := by
  intro k
  induction k with
  | zero => intro _; simp [mxA]
  | succ k ih =>
    intro hk
    have hf : fs[k]? = some (fs[k]'(by omega)) := List.getElem?_eq_getElem (by omega)
    obtain ⟨⟨a, b⟩, _⟩ := opOkB_of (h _ (List.mem_of_getElem? hf))
    have := ih (by omega)
    rw [mxA_succ hf]
    omega
def mostV (fs : List OpD) : Int := if mxA fs = 3 then 40 else if mxA fs = 2 then 200 else 300
theorem mostV_3 {fs : List OpD} (h : mxA fs = 3) : mostV fs = 40 := by simp [mostV, h]
theorem mostV_2 {fs : List OpD} (h : mxA fs = 2) : mostV fs = 200 := by simp [mostV, h]
theorem mostV_1 {fs : List OpD} (h : mxA fs ≠ 3) (h2 : mxA fs ≠ 2) : mostV fs = 300 := by simp [mostV, h, h2]
def valMostTuples (z : Int) (fs : List OpD) : Int × Bool := if algOkB z fs then (mostV fs, true) else (0, false)

theorem l1Most_any (a b : Int) (w : World) :
    Calls Try.prog 117 #[.int .i64 a, .int .i64 b] w fun e w' => e = .returned (.int .i64 (max a b)) ∧ w' = w := by
  by_cases h : b < a
  · rw [show max a b = a by omega]
    go_enter Try.func117, Try.ntmps117
    go_wp2
    go_ret
    exact ⟨rfl, rfl⟩
  · rw [show max a b = b by omega]
    go_enter Try.func117, Try.ntmps117
    go_wp2
    go_ret
    exact ⟨rfl, rfl⟩

set_option maxHeartbeats 1000000 in
theorem l8Most_any (lo hi : Nat) (z : Int) (ao : Option Addr) (c n : Nat) (fs : List OpD) (w : World) (hv : OView w lo hi ao n fs) (hhi : hi ≤ w.heap.size) (hok : algOkB z fs = true) :
    Calls Try.prog 68 #[.agg #[.int .i64 z, .slice ao n c]] w fun e w' => e = .returned (.int .i64 (mostV fs)) ∧ Below w.heap.size w w' := by
  obtain ⟨_, hn4_, hall⟩ := algOkB_of hok
  have hn4 : n ≤ 4 := by have := hv.1; omega
  have HV := Lib.hid hv
  have HBd := Lib.hid (fun k (hk : k ≤ n) => mxA_bd hall k (by have := hv.1; omega))
  have HB := Lib.hid ((Below.refl w.heap.size w).alloc (Nat.le_refl _) (.cells #[.int .i64 z, .slice ao n c] 28))
  obtain ⟨mv, hmv⟩ : ∃ mv, mostV fs = mv := ⟨_, rfl⟩
  rw [hmv]
  have HMv := Lib.hid hmv
  clear hv hok hall hn4_ hmv
  go_enter Try.func68, Try.ntmps68
  go_wp2_with fail
  go_loopw [3, 4] (fun v i wr => ∃ (k : Nat) (g : Int), k ≤ n ∧ i = .int .i64 (k : Int) ∧ v = .int .i64 g ∧ Hid (g = mxA (fs.take k)) ∧ wr.cell? ⟨w.heap.size, 1, none⟩ = some (.slice ao n c) ∧ Hid (Below w.heap.size w wr)) (fun _ i _ => n - (intOf i).toNat)
  case atStart => exact ⟨0, 0, Nat.zero_le _, rfl, rfl, rfl, by simp, HB⟩
  case round =>
    obtain ⟨k, g, hk, rfl, rfl, HG, ca, HBr⟩ := hrel
    obtain ⟨g0, g3⟩ := HBd.out k hk
    rw [← HG.out] at g0 g3
    by_cases hlt : k < n
    · obtain ⟨b, o, rfl, _, hb, hc⟩ := HV.out.at_ (by omega)
      obtain ⟨f, hf⟩ := get_of_lt HV.out.1 hlt
      obtain ⟨a, m, c', c0, c1, _, _, _⟩ := hc k f hf
      have e0 : wr.cell? ⟨b, o + k * 2, none⟩ = some (.int .i64 f.1) := (HBr.out.cell (p := ⟨b, _, none⟩) (by show b < _; omega)).trans c0
      have HN : Hid (max g f.1 = mxA (fs.take (k + 1))) := by unfold Hid; rw [mxA_succ hf, HG.out]
      obtain ⟨r, hr⟩ : ∃ r, f.1 = r := ⟨_, rfl⟩
      rw [hr] at e0 HN
      have hM := fun (W : World) => l1Most_any g r W
      obtain ⟨g', hg'⟩ : ∃ g', max g r = g' := ⟨_, rfl⟩
      rw [hg'] at HN
      simp only [hg'] at hM
      have HM := Lib.hid hM
      have hkn : (k : Int) < (n : Int) := by omega
      clear hc c0 c1 hf hr hg' hM
      go_wp2_with fail
      refine (HM.out _).mono ?_
      rintro e w3 ⟨rfl, rfl⟩
      go_wp2_with fail
      go_roundw
      case rel => exact ⟨k + 1, g', by omega, by go_num, rfl, HN, ca, HBr⟩
      case measure => simp [intOf]; omega
    · obtain rfl : k = n := by omega
      have hG := HG.out
      rw [List.take_of_length_le (by have := HV.out.1; omega)] at hG
      have hkn : ¬ (k : Int) < (k : Int) := by omega
      by_cases h3 : g = 3
      · subst h3
        obtain rfl : mv = 40 := HMv.out.symm.trans (mostV_3 hG.symm)
        clear hG
        go_wp2_with fail
        go_ret
        exact ⟨rfl, HBr.out⟩
      · by_cases h2 : g = 2
        · subst h2
          obtain rfl : mv = 200 := HMv.out.symm.trans (mostV_2 hG.symm)
          clear hG
          go_wp2_with fail
          go_ret
          exact ⟨rfl, HBr.out⟩
        · obtain rfl : mv = 300 := HMv.out.symm.trans (mostV_1 (by rw [← hG]; exact h3) (by rw [← hG]; exact h2))
          have e3 : (g == 3) = false := by simp [h3]
          have e2 : (g == 2) = false := by simp [h2]
          clear hG
          go_wp2_with fail
          go_ret
          exact ⟨rfl, HBr.out⟩

set_option maxHeartbeats 1000000 in
theorem specMostTuples (lo hi : Nat) (z : Int) (ao : Option Addr) (c n : Nat) (fs : List OpD) (w : World) (hv : OView w lo hi ao n fs) (hhi : hi ≤ w.heap.size) (hs : ∀ (j : Nat) (f : OpD), fs[j]? = some f → f.2.length ≤ maxLen) :
    Calls Try.prog 29 #[.agg #[.int .i64 z, .slice ao n c]] w fun e w' => e = .returned (.tuple #[.int .i64 (valMostTuples z fs).1, .bool (valMostTuples z fs).2]) ∧ Below w.heap.size w w' := by
  have hB := (Below.refl w.heap.size w).alloc (Nat.le_refl _) (.cells #[.int .i64 z, .slice ao n c] 28)
  have hG := good_any lo hi z ao c n fs _ (hv.kept (Kept.of_below hB hhi)) (Nat.le_trans hhi hB.size) hs
  have HB := Lib.hid hB
  obtain ⟨t, ht⟩ : ∃ t, algOkB z fs = t := ⟨_, rfl⟩
  rw [ht] at hG
  have HG := Lib.hid hG
  cases t with
  | false =>
    rw [show valMostTuples z fs = (0, false) by simp [valMostTuples, ht]]
    clear hG hB hs hv ht
    go_enter Try.func29, Try.ntmps29
    go_wp2_with fail
    refine HG.out.mono ?_
    rintro e w1 ⟨rfl, b1⟩
    have HB1 := Lib.hid (HB.out.trans (b1.mono HB.out.size))
    clear b1
    go_wp2_with fail
    go_ret2
    exact ⟨rfl, HB1.out⟩
  | true =>
    rw [show valMostTuples z fs = (mostV fs, true) by simp [valMostTuples, ht]]
    have HM := Lib.hid (fun (W : World) (hW : Below w.heap.size w W) => l8Most_any lo hi z ao c n fs W (hv.kept (Kept.of_below hW hhi)) (Nat.le_trans hhi hW.size) ht)
    clear hG hB hs hv ht
    go_enter Try.func29, Try.ntmps29
    go_wp2_with fail
    refine HG.out.mono ?_
    rintro e w1 ⟨rfl, b1⟩
    have cz : w1.cell? ⟨w.heap.size, 0, none⟩ = some (.int .i64 z) := (b1.cell (p := ⟨w.heap.size, 0, none⟩) (by simp)).trans (by simp)
    have ca : w1.cell? ⟨w.heap.size, 1, none⟩ = some (.slice ao n c) := (b1.cell (p := ⟨w.heap.size, 1, none⟩) (by simp)).trans (by simp)
    have HB1 := Lib.hid (HB.out.trans (b1.mono HB.out.size))
    clear b1
    go_wp2_with fail
    refine (HM.out _ HB1.out).mono ?_
    rintro e w2 ⟨rfl, b2⟩
    have HB2 := Lib.hid (HB1.out.trans (b2.mono HB1.out.size))
    clear b2
    go_wp2_with fail
    go_ret2
    exact ⟨rfl, HB2.out⟩

set_option maxHeartbeats 2000000 in
theorem implMostTuples (lo hi : Nat) (z : Int) (ao : Option Addr) (c n : Nat) (fs : List OpD) (w : World) (hv : OView w lo hi ao n fs) (hhi : hi ≤ w.heap.size) (hs : ∀ (j : Nat) (f : OpD), fs[j]? = some f → f.2.length ≤ maxLen) :
    Calls Try.prog 30 #[.agg #[.int .i64 z, .slice ao n c]] w fun e w' => e = .returned (.tuple #[.int .i64 (valMostTuples z fs).1, .bool (valMostTuples z fs).2]) ∧ Below w.heap.size w w' := by
  have hB := (Below.refl w.heap.size w).alloc (Nat.le_refl _) (.cells #[.int .i64 z, .slice ao n c] 28)
  have hG := isAlg_any lo hi z ao c n fs _ (hv.kept (Kept.of_below hB hhi)) (Nat.le_trans hhi hB.size) hs
  have HB := Lib.hid hB
  obtain ⟨t, ht⟩ : ∃ t, algOkB z fs = t := ⟨_, rfl⟩
  rw [ht] at hG
  have HG := Lib.hid hG
  cases t with
  | false =>
    rw [show valMostTuples z fs = (0, false) by simp [valMostTuples, ht]]
    clear hG hB hs hv ht
    go_enter Try.func30, Try.ntmps30
    go_wp2_with fail
    refine HG.out.mono ?_
    rintro e w1 ⟨rfl, b1⟩
    have HB1 := Lib.hid (HB.out.trans (b1.mono HB.out.size))
    clear b1
    go_wp2_with fail
    go_ret2
    exact ⟨rfl, HB1.out⟩
  | true =>
    rw [show valMostTuples z fs = (mostV fs, true) by simp [valMostTuples, ht]]
    obtain ⟨_, hn4_, hall⟩ := algOkB_of ht
    have hn4 : n ≤ 4 := by have := hv.1; omega
    have HV := Lib.hid hv
    have HBd := Lib.hid (fun k (hk : k ≤ n) => mxA_bd hall k (by have := hv.1; omega))
    obtain ⟨mv, hmv⟩ : ∃ mv, mostV fs = mv := ⟨_, rfl⟩
    rw [hmv]
    have HMv := Lib.hid hmv
    clear hG hB hs hv ht hall hn4_ hmv
    go_enter Try.func30, Try.ntmps30
    go_wp2_with fail
    refine HG.out.mono ?_
    rintro e w1 ⟨rfl, b1⟩
    have ca1 : w1.cell? ⟨w.heap.size, 1, none⟩ = some (.slice ao n c) := (b1.cell (p := ⟨w.heap.size, 1, none⟩) (by simp)).trans (by simp)
    have HB1 := Lib.hid (HB.out.trans (b1.mono HB.out.size))
    clear b1
    go_wp2_with fail
    go_loopw [4, 6, 13] (fun v s6 i wr => ∃ (k : Nat) (g : Int), k ≤ n ∧ i = .int .i64 (k : Int) ∧ v = .int .i64 g ∧ Hid (g = mxA (fs.take k)) ∧ Hid (Below w.heap.size w wr)) (fun _ _ i _ => n - (intOf i).toNat)
    case atStart => exact ⟨0, 0, Nat.zero_le _, rfl, rfl, rfl, HB1⟩
    case round =>
      obtain ⟨k, g, hk, rfl, rfl, HG', HBr⟩ := hrel
      clear ca1
      obtain ⟨g0, g3⟩ := HBd.out k hk
      rw [← HG'.out] at g0 g3
      by_cases hlt : k < n
      · obtain ⟨b, o, rfl, _, hb, hc⟩ := HV.out.at_ (by omega)
        obtain ⟨f, hf⟩ := get_of_lt HV.out.1 hlt
        obtain ⟨a, m, c', c0, c1, _, _, _⟩ := hc k f hf
        have e0 : wr.cell? ⟨b, o + k * 2, none⟩ = some (.int .i64 f.1) := (HBr.out.cell (p := ⟨b, _, none⟩) (by show b < _; omega)).trans c0
        have e1 : wr.cell? ⟨b, o + k * 2 + 1, none⟩ = some (.slice a m c') := (HBr.out.cell (p := ⟨b, _, none⟩) (by show b < _; omega)).trans c1
        have HN : Hid (max g f.1 = mxA (fs.take (k + 1))) := by unfold Hid; rw [mxA_succ hf, HG'.out]
        obtain ⟨r, hr⟩ : ∃ r, f.1 = r := ⟨_, rfl⟩
        rw [hr] at e0 HN
        have hkn : (k : Int) < (n : Int) := by omega
        have HBn := Lib.hid (HBr.out.alloc HBr.out.size (.cells #[.int .i64 r, .slice a m c'] 64))
        clear hc c0 c1 hf hr
        go_wp2_with fail
        go_roundw
        case rel => exact ⟨k + 1, max g r, by omega, by go_num, by first | rfl | (congr 1; omega) | (congr 1; rw [Int.max_def]), HN, HBn⟩
        case measure => simp [intOf]; omega
      · obtain rfl : k = n := by omega
        have hG := HG'.out
        rw [List.take_of_length_le (by have := HV.out.1; omega)] at hG
        have hkn : ¬ (k : Int) < (k : Int) := by omega
        by_cases h3 : g = 3
        · subst h3
          obtain rfl : mv = 40 := HMv.out.symm.trans (mostV_3 hG.symm)
          clear hG
          go_wp2_with fail
          go_ret2
          exact ⟨rfl, HBr.out⟩
        · by_cases h2 : g = 2
          · subst h2
            obtain rfl : mv = 200 := HMv.out.symm.trans (mostV_2 hG.symm)
            clear hG
            go_wp2_with fail
            go_ret2
            exact ⟨rfl, HBr.out⟩
          · obtain rfl : mv = 300 := HMv.out.symm.trans (mostV_1 (by rw [← hG]; exact h3) (by rw [← hG]; exact h2))
            have e3 : (g == 3) = false := by simp [h3]
            have e2 : (g == 2) = false := by simp [h2]
            clear hG
            go_wp2_with fail
            go_ret2
            exact ⟨rfl, HBr.out⟩

end Go.Proofs.Ytfdolbpbddjhmaa
