/-
  Contracts: the drawn arguments of SplitString and of LessString, and the law's own vBig: texts of at most ten bytes, in new memory of the reader alone. Condition: the code has at most 2^16 bytes, each a byte.
-/
import Derived.Test.YtoljoifldlpinaaDraw
namespace Go.Proofs.Ytoljoifldlpinaa
open Go.RowKit

theorem big_any (ao : Option Addr) (n cap : Nat) (w : World) :
    Calls Try.prog 8 #[.slice ao n cap] w fun e w' => e = .returned (.bool (decide (65536 < n))) ∧ w = w' := by
  go_enter Try.func8, Try.ntmps8
  go_wp2
  go_ret
  refine ⟨ret_bool ?_, rfl⟩
  by_cases h : 65536 < n
  · rw [decide_eq_true h]; simp; omega
  · rw [decide_eq_false h]; simp; omega

/-- The block of a new reader. -/
theorem heap_new (w : World) (o : Obj) : (w.alloc o).heap[w.heap.size]? = some o := by
  show (w.heap.push o)[w.heap.size]? = _
  simp
theorem cur_new {w : World} {ao : Option Addr} {n cap : Nat} (h : CodeOk w w.heap.size ao n) : CurAt (w.alloc (.cells #[.slice ao n cap, .int .i64 0, .int .u64 0] 44 (0, 0))) w.heap.size ao n cap 0 := by
  refine ⟨⟨0, 0, Nat.le_refl _, ?_⟩, h.kept fun k hk => Below.heap_alloc _ _ _ (by omega)⟩
  exact heap_new _ _
/-- Reading on. -/
theorem below_cur {w w1 : World} {o : Obj} (h : (w.alloc o).grownBy w1 (some w.heap.size)) : Below w.heap.size w w1 :=
  ((Below.refl _ _).alloc (Nat.le_refl _) o).grown h (by simp) (fun q hq => by cases hq; exact Nat.le_refl _)

theorem DrawLess_any (ao : Option Addr) (n cap : Nat) (w : World) (h : CodeOk w w.heap.size ao n) (hn : n ≤ 65536) :
    Calls Try.prog 14 #[.slice ao n cap] w fun e w' => ∃ a b : ByteArray, e = .returned (.tuple #[.string a, .string b]) ∧ a.size ≤ 10 ∧ b.size ≤ 10 ∧ Below w.heap.size w w' := by
  have HC := Lib.hid h
  clear h
  go_enter Try.func14, Try.ntmps14
  go_wp2_with fail
  refine (any1_any w.heap.size ao n cap 0 _ (cur_new HC.out) hn (by omega)).mono ?_
  rintro e w1 ⟨a, rfl, ha, hc1, hg1⟩
  have H1 := Lib.hid hc1
  have G1 := Lib.hid hg1
  clear hc1 hg1
  go_wp2_with fail
  refine (any1_any w.heap.size ao n cap 1 w1 H1.out hn (by omega)).mono ?_
  rintro e w2 ⟨b, rfl, hb, hc2, hg2⟩
  have B2 := Lib.hid (below_cur (grownBy_trans G1.out hg2))
  clear hc2 hg2
  go_wp2_with fail
  go_ret2
  exact ⟨a, b, rfl, ha, hb, B2.out⟩

theorem DrawSplit_any (ao : Option Addr) (n cap : Nat) (w : World) (h : CodeOk w w.heap.size ao n) (hn : n ≤ 65536) :
    Calls Try.prog 9 #[.slice ao n cap] w fun e w' => ∃ a b : ByteArray, e = .returned (.tuple #[.string a, .string b]) ∧ a.size ≤ 10 ∧ b.size ≤ 10 ∧ Below w.heap.size w w' := by
  have HC := Lib.hid h
  clear h
  go_enter Try.func9, Try.ntmps9
  go_wp2_with fail
  refine (any1_any w.heap.size ao n cap 0 _ (cur_new HC.out) hn (by omega)).mono ?_
  rintro e w1 ⟨a, rfl, ha, hc1, hg1⟩
  have H1 := Lib.hid hc1
  have G1 := Lib.hid hg1
  clear hc1 hg1
  go_wp2_with fail
  have hlt := H1.out.lt
  refine (of_any w.heap.size ao n cap 1 w1.heap.size 0 5 5 [⟨#[44]⟩, ⟨#[44]⟩, ⟨#[32]⟩, ⟨#[]⟩, ⟨#[44, 44]⟩] _ (H1.out.below ((Below.refl _ _).alloc (Nat.le_refl _) _)) hn (by omega) (by omega) (by simp) (by omega) (by omega) rfl ?_).mono ?_
  · intro j x hx
    rw [Nat.zero_add, World.cell?_alloc_at _ _ _ _ rfl]
    match j, hx with
    | 0, h => cases h; rfl
    | 1, h => cases h; rfl
    | 2, h => cases h; rfl
    | 3, h => cases h; rfl
    | 4, h => cases h; rfl
    | k + 5, h => cases h
  rintro e w2 ⟨b, rfl, hx, hc2, hg2⟩
  have hb : b.size ≤ 10 := by
    simp only [List.mem_cons, List.not_mem_nil, or_false] at hx
    rcases hx with rfl | rfl | rfl | rfl | rfl <;> decide
  have B2 := Lib.hid (below_cur (grownBy_trans G1.out (grownBy_trans (World.grownBy_alloc w1 _ _) hg2)))
  clear hc2 hg2 hx
  go_wp2_with fail
  go_ret2
  exact ⟨a, b, rfl, ha, hb, B2.out⟩

end Go.Proofs.Ytoljoifldlpinaa
