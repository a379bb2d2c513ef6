/-
  Contracts: the place of a list of arguments in a table: spec.l2Value and impl.indexOfArgs. Conditions: the bounds that each theorem names.
-/
import Derived.Test.YthnbhkahdboekaaIsAlg
namespace Go.Proofs.Ythnbhkahdboekaa
open Go.RowKit
set_option linter.unusedVariables false
set_option linter.unusedSimpArgs false

def idxA (z : Int) (xs : List Int) : Int := xs.foldl (fun at_ x => at_ * z + x) 0
theorem idxA_nil (z : Int) : idxA z [] = 0 := rfl
theorem idxA_snoc (z : Int) (xs : List Int) (x : Int) : idxA z (xs ++ [x]) = idxA z xs * z + x := by simp [idxA, List.foldl_append]
theorem idxA_succ {z : Int} {xs : List Int} {k : Nat} {x : Int} (hx : xs[k]? = some x) : idxA z (xs.take (k + 1)) = idxA z (xs.take k) * z + x := by
  rw [List.take_add_one, hx, Option.toList_some, idxA_snoc]
theorem mul_step {i p z x : Int} (h0 : 0 ≤ i) (h1 : i < p) (hz : 1 ≤ z) (hx0 : 0 ≤ x) (hx1 : x < z) : 0 ≤ i * z ∧ 0 ≤ i * z + x ∧ i * z + x < p * z := by
  have h2 : 0 ≤ i * z := Int.mul_nonneg h0 (by omega)
  have h3 : i * z ≤ (p - 1) * z := Int.mul_le_mul_of_nonneg_right (by omega) (by omega)
  rw [Int.sub_mul, Int.one_mul] at h3
  omega
theorem idxA_bd {z : Int} {xs : List Int} (h1 : 1 ≤ z) (ha : allIn z xs = true) : ∀ k, k ≤ xs.length → 0 ≤ idxA z (xs.take k) ∧ idxA z (xs.take k) < powI z k := by
  intro k
  induction k with
  | zero => intro _; simp [idxA_nil, powI]
  | succ k ih =>
    intro hk
    obtain ⟨a, b⟩ := ih (by omega)
    have hx : xs[k]? = some (xs[k]'(by omega)) := List.getElem?_eq_getElem (by omega)
    obtain ⟨c, d⟩ := allIn_get ha hx
    rw [idxA_succ hx, powI]
    exact (mul_step a b h1 c d).2
/-- One step of the place, with the bounds that the walk wants. -/
theorem idx_step {z : Int} {xs : List Int} {k : Nat} {x : Int} (h1 : 1 ≤ z) (h2 : z ≤ 8) (ha : allIn z xs = true) (hl : xs.length ≤ 3) (hx : xs[k]? = some x) :
    0 ≤ x ∧ x < z ∧ 0 ≤ idxA z (xs.take k) * z ∧ idxA z (xs.take k) * z ≤ 4096 ∧ 0 ≤ idxA z (xs.take k) ∧ idxA z (xs.take k) ≤ 512 := by
  have hk : k < xs.length := (List.getElem?_eq_some_iff.1 hx).1
  obtain ⟨a, b⟩ := idxA_bd h1 ha k (by omega)
  obtain ⟨c, d⟩ := allIn_get ha hx
  obtain ⟨p1, p2⟩ := powI_bd h1 h2 (k := k) (by omega)
  have h3 : idxA z (xs.take k) * z ≤ idxA z (xs.take k) * 8 := Int.mul_le_mul_of_nonneg_left h2 a
  exact ⟨c, d, Int.mul_nonneg a (by omega), by omega, a, by omega⟩
theorem idx_all {z : Int} {xs : List Int} {k : Nat} (hk : xs.length ≤ k) : idxA z (xs.take k) = idxA z xs := by rw [List.take_of_length_le hk]

theorem idx_impl (lo hi : Nat) (z : Int) (ao : Option Addr) (c n : Nat) (xs : List Int) (w : World) (h : IView w lo hi ao n xs) (h1 : 1 ≤ z) (h2 : z ≤ 8) (ha : allIn z xs = true) (hn : n ≤ 3) :
    Calls Try.prog 105 #[.int .i64 z, .slice ao n c] w fun e w' => e = .returned (.int .i64 (idxA z xs)) ∧ w = w' := by
  have HV := Lib.hid h
  have HA := Lib.hid ha
  clear h ha
  go_enter Try.func105, Try.ntmps105
  go_wp2
  go_loop [5, 10] (fun p i => ∃ (k : Nat) (v : Int), k ≤ n ∧ i = .int .i64 (k : Int) ∧ p = .int .i64 v ∧ Hid (v = idxA z (xs.take k))) (fun _ i => n - (intOf i).toNat)
  case atStart => exact ⟨0, 0, Nat.zero_le _, rfl, rfl, rfl⟩
  case round =>
    obtain ⟨k, v, hk, rfl, rfl, HVal⟩ := hrel
    by_cases hlt : k < n
    · obtain ⟨b, o, rfl, _, _, hc⟩ := HV.out.at_ (by omega)
      obtain ⟨x, hx⟩ := get_of_lt HV.out.1 hlt
      have hcell := hc k x hx
      obtain ⟨q0, q1, q2, q3, q4, q5⟩ := idx_step h1 h2 HA.out (by have := HV.out.1; omega) hx
      rw [← HVal.out] at q2 q3 q4 q5
      have HX := Lib.hid hx
      clear hc hx
      go_wp2
      go_round
      case rel => exact ⟨k + 1, v * z + x, by omega, by go_num, rfl, by unfold Hid; rw [idxA_succ HX.out, HVal.out]⟩
      case measure => simp [intOf]; omega
    · go_wp2
      go_ret
      exact ⟨ret_int (by rw [HVal.out, idx_all (by have := HV.out.1; omega)]), rfl⟩

/-- What stands in a table for a list of arguments. -/
def atA (z : Int) (f : OpD) (xs : List Int) : Int := f.2.getD (idxA z xs).toNat 0
theorem at_get {z : Int} {f : OpD} {xs : List Int} (h1 : 1 ≤ z) (hok : opOkB z f = true) (hl : (xs.length : Int) = f.1) (ha : allIn z xs = true) :
    0 ≤ idxA z xs ∧ idxA z xs < f.2.length ∧ f.2[(idxA z xs).toNat]? = some (atA z f xs) := by
  obtain ⟨⟨a0, a1⟩, hlen, _⟩ := opOkB_of hok
  obtain ⟨b0, b1⟩ := idxA_bd h1 ha xs.length (Nat.le_refl _)
  rw [List.take_length] at b0 b1
  have hr : f.1.toNat = xs.length := by omega
  rw [hr] at hlen
  have hi : (idxA z xs).toNat < f.2.length := by omega
  refine ⟨b0, by omega, ?_⟩
  unfold atA
  rw [List.getD_eq_getElem?_getD, List.getElem?_eq_getElem hi]
  rfl

set_option maxHeartbeats 1000000 in
theorem value_spec (lo hi lo2 hi2 : Nat) (z : Int) (ao bo : Option Addr) (c n d m k : Nat) (fs : List OpD) (f : OpD) (xs : List Int) (w : World) (hv : OView w lo hi ao n fs) (hhi : hi ≤ w.heap.size) (hok : algOkB z fs = true) (hf : fs[k]? = some f)
    (hx : IView w lo2 hi2 bo m xs) (hhi2 : hi2 ≤ w.heap.size) (ha : allIn z xs = true) (hl : (m : Int) = f.1) :
    Calls Try.prog 101 #[.agg #[.int .i64 z, .slice ao n c], .int .i64 (k : Int), .slice bo m d] w fun e w' => e = .returned (.int .i64 (atA z f xs)) ∧ Below w.heap.size w w' := by
  obtain ⟨⟨h1, h2⟩, hn4, hall⟩ := algOkB_of hok
  have hfo := hall f (List.mem_of_getElem? hf)
  have hm3 : m ≤ 3 := by have := (opOkB_of hfo).1; omega
  obtain ⟨hi0, hi1, hat⟩ := at_get h1 hfo (by rw [hx.1]; exact hl) ha
  have hkl : k < n := by rw [← hv.1]; exact (List.getElem?_eq_some_iff.1 hf).1
  have hn4' : n ≤ 4 := by have := hv.1; omega
  have hB := (Below.refl w.heap.size w).alloc (Nat.le_refl _) (.cells #[.int .i64 z, .slice ao n c] 31)
  have HX := Lib.hid (hx.kept (Kept.of_below hB hhi2))
  obtain ⟨b, o, rfl, hbl, hb, hc⟩ := (hv.kept (Kept.of_below hB hhi)).at_ (by omega)
  obtain ⟨a, mt, c', c0, c1, hmc, hcm, hvt⟩ := hc k f hf
  have hmt : f.2.length = mt := hvt.1
  rw [hmt] at hi1
  obtain ⟨bt, ot, rfl, _, _, hct⟩ := hvt.at_ (by omega)
  have hct2 := hct _ _ hat
  obtain ⟨i, hi⟩ : ∃ i : Nat, idxA z xs = (i : Int) := ⟨(idxA z xs).toNat, by omega⟩
  rw [hi] at hi1 hct2
  rw [Int.toNat_natCast] at hct2
  have HI := Lib.hid hi
  have HA := Lib.hid ha
  have HB := Lib.hid hB
  obtain ⟨v, hve⟩ : ∃ v, atA z f xs = v := ⟨_, rfl⟩
  rw [hve] at hct2 ⊢
  clear hv hok hf hx ha hl hfo hall hat hB hc c0 hvt hct hi hve hn4 hi0 hmt
  go_enter Try.func101, Try.ntmps101
  go_wp2
  go_loopw [7, 8] (fun p i wr => ∃ (k : Nat) (v : Int) (q : Nat), k ≤ m ∧ i = .int .i64 (k : Int) ∧ p = .int .i64 v ∧ Hid (v = idxA z (xs.take k)) ∧ wr = (w.alloc (.cells #[.int .i64 z, .slice (some ⟨b, o, none⟩) n c] 31)).drewN q) (fun _ i _ => m - (intOf i).toNat)
  case atStart => exact ⟨0, 0, 0, Nat.zero_le _, rfl, rfl, rfl, rfl⟩
  case round =>
    obtain ⟨k', v', q, hk, rfl, rfl, HVal, rfl⟩ := hrel
    by_cases hlt : k' < m
    · obtain ⟨b2, o2, rfl, _, _, hc2⟩ := HX.out.at_ (by omega)
      obtain ⟨x, hx⟩ := get_of_lt HX.out.1 hlt
      have hcell := hc2 k' x hx
      obtain ⟨q0, q1, q2, q3, q4, q5⟩ := idx_step h1 h2 HA.out (by have := HX.out.1; omega) hx
      rw [← HVal.out] at q2 q3 q4 q5
      have HXx := Lib.hid hx
      have hkm : (k' : Int) < (m : Int) := by omega
      clear hc2 hx
      go_wp2
      go_quiet (fail)
      go_wp2
      go_roundw
      case rel => exact ⟨k' + 1, v' * z + x, _, by omega, by go_num, rfl, by unfold Hid; rw [idxA_succ HXx.out, HVal.out], rfl⟩
      case measure => simp [intOf]; omega
    · have hvi : v' = (i : Int) := by rw [HVal.out, idx_all (by have := HX.out.1; omega), HI.out]
      subst hvi
      go_wp2
      go_ret
      exact ⟨rfl, below_drewN HB.out _⟩

end Go.Proofs.Ythnbhkahdboekaa
