/-
  Contracts: slices.Max, impl.valuesNeeded, impl.valueOfTerm and impl.EvalTerm. Conditions: the bounds that each theorem names.
-/
import Derived.Test.YtplheohkecooeaaFoldI
import Derived.Test.YtplheohkecooeaaTakes3
namespace Go.Proofs.Ytplheohkecooeaa
open Go.RowKit
set_option linter.unusedVariables false
set_option linter.unusedSimpArgs false

/-- The greatest number of a list. -/
def maxL (xs : List Int) : Int := xs.foldl (fun a x => max a x) (xs.headD 0)
theorem maxL_succ {xs : List Int} {k : Nat} {x : Int} (h0 : 0 < k) (hx : xs[k]? = some x) : maxL (xs.take (k + 1)) = max (maxL (xs.take k)) x := by
  unfold maxL
  rw [List.take_add_one, hx, Option.toList_some, List.foldl_append]
  cases xs with
  | nil => simp at hx
  | cons a l => cases k with
    | zero => omega
    | succ k => rfl
theorem foldl_max (l : List Int) : ∀ a : Int, a ≤ l.foldl (fun a x => max a x) a ∧ (∀ x, x ∈ l → x ≤ l.foldl (fun a x => max a x) a) ∧ (l.foldl (fun a x => max a x) a = a ∨ l.foldl (fun a x => max a x) a ∈ l) := by
  induction l with
  | nil => intro a; exact ⟨Int.le_refl _, fun x h => by simp at h, .inl rfl⟩
  | cons b l ih =>
    intro a
    obtain ⟨h1, h2, h3⟩ := ih (max a b)
    refine ⟨by rw [List.foldl_cons]; omega, fun x hx => ?_, ?_⟩
    · rcases List.mem_cons.1 hx with rfl | hx
      · rw [List.foldl_cons]; omega
      · exact h2 x hx
    · rw [List.foldl_cons]
      rcases h3 with h | h
      · rw [h]
        rcases Int.le_total a b with h4 | h4
        · exact .inr (by rw [Int.max_eq_right h4]; exact List.mem_cons_self)
        · exact .inl (Int.max_eq_left h4)
      · exact .inr (List.mem_cons_of_mem _ h)
theorem maxL_ge {xs : List Int} {x : Int} (h : x ∈ xs) : x ≤ maxL xs := (foldl_max xs _).2.1 x h
theorem maxL_mem {xs : List Int} (h : xs ≠ []) : maxL xs ∈ xs := by
  rcases (foldl_max xs (xs.headD 0)).2.2 with e | e
  · unfold maxL; rw [e]
    cases xs with
    | nil => exact absurd rfl h
    | cons a l => exact List.mem_cons_self
  · exact e

theorem max_any (lo hi : Nat) (ao : Option Addr) (c n : Nat) (xs : List Int) (w : World) (hx : IView w lo hi ao n xs) (h0 : 0 < n) (hn : n ≤ 1048576) :
    Calls Try.prog 105 #[.slice ao n c] w fun e w' => e = .returned (.int .i64 (maxL xs)) ∧ w = w' := by
  obtain ⟨b, o, rfl, _, _, hc⟩ := hx.at_ h0
  have hl := hx.1
  obtain ⟨x0, hx0⟩ := get_of_lt hl h0
  have c0 : w.cell? ⟨b, o, none⟩ = some (.int .i64 x0) := by simpa using hc 0 x0 hx0
  have hm0 : maxL (xs.take 1) = x0 := by
    cases xs with
    | nil => simp at hx0
    | cons a l => simp at hx0; subst hx0; simp [maxL]
  have HC := Lib.hid hc
  have HL := Lib.hid hl
  have HM0 := Lib.hid hm0
  have hn1 : ¬ (n : Int) < 1 := by omega
  have hn0 : (0 : Int) < (n : Int) := by omega
  clear hc hx hl hx0 hm0
  go_enter Try.func105, Try.ntmps105
  go_wp2
  go_loop [3, 4] (fun v i => ∃ (k : Nat) (q : Int), 1 ≤ k ∧ k ≤ n ∧ i = .int .i64 (k : Int) ∧ v = .int .i64 q ∧ Hid (q = maxL (xs.take k))) (fun _ i => n - (intOf i).toNat)
  case atStart => exact ⟨1, x0, Nat.le_refl _, h0, rfl, rfl, HM0.out.symm⟩
  case round =>
    obtain ⟨k, q, hk1, hk, rfl, rfl, HQ⟩ := hrel
    by_cases hlt : k < n
    · obtain ⟨x, hxk⟩ := get_of_lt HL.out hlt
      have cx := HC.out k x hxk
      have hkn : (k : Int) < (n : Int) := by omega
      have HN : Hid (max q x = maxL (xs.take (k + 1))) := by unfold Hid; rw [maxL_succ (by omega) hxk, HQ.out]
      clear hxk
      go_wp2
      go_round
      case rel => exact ⟨k + 1, max q x, by omega, by omega, by go_num, by first | rfl | (congr 1; omega) | (congr 1; rw [Int.max_def]), HN⟩
      case measure => simp [intOf]; omega
    · have hkn : ¬ (k : Int) < (n : Int) := by omega
      go_wp2
      go_ret
      exact ⟨ret_int (by rw [HQ.out, List.take_of_length_le (by have := HL.out; omega)]), rfl⟩

theorem needed_any (lo hi : Nat) (ao : Option Addr) (c n : Nat) (xs : List Int) (w : World) (hx : IView w lo hi ao n xs) (h0 : 0 < n) (hn : n ≤ 1048576) (hb : ∀ x, x ∈ xs → -9223372036854775808 ≤ x ∧ x < 6) :
    Calls Try.prog 80 #[.slice ao n c] w fun e w' => e = .returned (.int .i64 (max (maxL xs + 1) 0)) ∧ w = w' := by
  have HM := Lib.hid (max_any lo hi ao c n xs w hx h0 hn)
  have hne : xs ≠ [] := fun e => by have := hx.1; rw [e] at this; simp at this; omega
  have hb2 := hb _ (maxL_mem hne)
  obtain ⟨q, hq⟩ : ∃ q, maxL xs = q := ⟨_, rfl⟩
  rw [hq] at HM hb2 ⊢
  obtain ⟨hb3, hb4⟩ := hb2
  clear hx hne hb hq
  go_enter Try.func80, Try.ntmps80
  go_wp2_with fail
  refine HM.out.mono ?_
  rintro e w' ⟨rfl, rfl⟩
  go_wp2_with fail
  all_goals
    go_ret
    exact ⟨by first | rfl | (exact ret_int (by omega)) | (exact ret_int (by rw [Int.max_def]; split <;> omega)), rfl⟩

theorem valueT_any (lo hi lo2 hi2 lo3 hi3 : Nat) (z : Int) (ao bo vo : Option Addr) (n c m d nv cv : Nat) (fs : List OpD) (xs vs : List Int) (w : World) (hv : OView w lo hi ao n fs) (hhi : hi ≤ w.heap.size) (hok : algOkB z fs = true)
    (hx : IView w lo2 hi2 bo m xs) (hhi2 : hi2 ≤ w.heap.size) (hvs : IView w lo3 hi3 vo nv vs) (hhi3 : hi3 ≤ w.heap.size) (h60 : xs.length ≤ 60) (hend : endA fs xs 0 = some xs.length) (hvok : allIn z vs = true) (hfit : ∀ x, x ∈ xs → x < (nv : Int)) :
    Calls Try.prog 86 #[.agg #[.int .i64 z, .slice ao n c], .slice bo m d, .slice vo nv cv] w fun e w' => e = .returned (.int .i64 (evT z fs vs xs)) ∧ Below w.heap.size w w' := by
  have hmf : ∀ (fn : Fn) (first cap : Array Value) (w : World), (Instr.makeFunc fn first cap).run Try.prog w = .ok (.func fn first cap) w := fun _ _ _ _ => rfl
  have hB := below_then (below_alloc w (.cells #[.int .i64 z, .slice ao n c] 30)) (below_alloc _ (.cells #[.slice vo nv cv] 25))
  have HB := Lib.hid hB
  have HF := Lib.hid (fold_any lo hi lo2 hi2 lo3 hi3 z ao bo vo n c m d nv cv w.heap.size (w.heap.size + 1) fs xs vs _ (hv.kept (Kept.of_below hB hhi)) (Nat.le_trans hhi hB.size) hok (hx.kept (Kept.of_below hB hhi2)) (Nat.le_trans hhi2 hB.size) (hvs.kept (Kept.of_below hB hhi3)) (Nat.le_trans hhi3 hB.size) h60 hend hvok hfit (by go_simp) (by go_simp) (by go_simp))
  obtain ⟨q, hq⟩ : ∃ q, evT z fs vs xs = q := ⟨_, rfl⟩
  rw [hq] at HF ⊢
  clear hB hv hok hx hvs h60 hend hvok hfit hq
  go_enter Try.func86, Try.ntmps86
  go_wp2_with fail
  refine HF.out.mono ?_
  rintro e w1 ⟨rfl, b1⟩
  have HB1 := Lib.hid (HB.out.trans (b1.mono HB.out.size))
  clear b1
  go_wp2_with fail
  go_ret
  exact ⟨rfl, HB1.out⟩

/-- What EvalTerm tells. -/
def fitsB (xs : List Int) (k : Int) : Bool := xs.all fun x => decide (x < k)
def evalB (z : Int) (fs : List OpD) (xs vs : List Int) : Bool := isTermB z fs xs && (decide (vs.length ≤ 6) && (allIn z vs && fitsB xs vs.length))
def valEvalTerm (z : Int) (fs : List OpD) (xs vs : List Int) : Int × Bool := if evalB z fs xs vs then (evT z fs vs xs, true) else (0, false)
theorem fits_max {xs : List Int} {k : Nat} (h : xs ≠ []) : fitsB xs k = decide (max (maxL xs + 1) 0 ≤ (k : Int)) := by
  rw [Bool.eq_iff_iff]
  unfold fitsB
  rw [List.all_eq_true, decide_eq_true_eq]
  constructor
  · intro h1
    have h2 := h1 _ (maxL_mem h)
    simp only [decide_eq_true_eq] at h2
    omega
  · intro h1 x hx
    have := maxL_ge hx
    simp only [decide_eq_true_eq]
    omega

end Go.Proofs.Ytplheohkecooeaa
