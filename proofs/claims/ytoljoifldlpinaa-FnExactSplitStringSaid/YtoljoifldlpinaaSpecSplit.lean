/-
  Contract: spec.SplitString returns the parts and true, or an empty slice and false. Condition: the string has at most 2^20 bytes.
-/
import Derived.Test.YtoljoifldlpinaaSplit
namespace Go.Proofs.Ytoljoifldlpinaa
open Go.RowKit

/-- The slice holds the parts, in memory of the call's own; beside it true. -/
def HoldsSplitS (w w' : World) (xs : List ByteArray) (e : Ending) : Prop :=
  ∃ g cap, e = .returned (.tuple #[.slice (some ⟨g, 0, none⟩) xs.length cap, .bool true]) ∧ w'.ownsRow w.heap.size 9 1 (.slice (some ⟨g, 0, none⟩) xs.length cap) xs.length (xs.map Value.string) ∧ Below w.heap.size w w'

theorem specSplit_good (s : ByteArray) (c : UInt8) (w : World) (hs : s.size ≤ 4000) :
    Calls Try.prog 17 #[.string s, .string ⟨#[c]⟩] w fun e w' => HoldsSplitS w w' (parts s c) e := by
  have hb0 : ∀ h, (⟨#[c]⟩ : ByteArray)[0]'h = c := fun _ => rfl
  have hS := Lib.hid (split_any s c w (by omega))
  obtain ⟨ps, hp⟩ : ∃ ps, ps = parts s c := ⟨_, rfl⟩
  rw [← hp] at hS ⊢
  clear hp
  go_enter Try.func17, Try.ntmps17
  go_wp2_with fail
  refine hS.out.mono ?_
  rintro e w1 ⟨g, cap, rfl, ho, b1⟩
  have HO := Lib.hid ho
  have HB := Lib.hid b1
  clear ho b1
  go_wp2
  go_ret2
  exact ⟨g, cap, rfl, HO.out, HB.out⟩

theorem specSplit_bad (s sep : ByteArray) (w : World) (h : 4000 < s.size ∨ sep.size ≠ 1) :
    Calls Try.prog 17 #[.string s, .string sep] w fun e w' => (∃ a, e = .returned (.tuple #[.slice a 0 0, .bool false])) ∧ Below w.heap.size w w' := by
  by_cases h2 : sep.size = 1
  · have h1 : 4000 < s.size := by omega
    have h3 : ((sep.size : Int) != 1) = false := by rw [← Bool.not_eq_true, bne_iff_ne]; omega
    have h4 : ((sep.size : Int) == 1) = true := by rw [beq_iff_eq]; omega
    clear h h2
    go_enter Try.func17, Try.ntmps17
    go_wp2
    go_ret2
    exact ⟨⟨_, rfl⟩, (Below.refl _ _).alloc (Nat.le_refl _) _⟩
  · have h3 : ((sep.size : Int) != 1) = true := by rw [bne_iff_ne]; omega
    have h4 : ((sep.size : Int) == 1) = false := by rw [beq_eq_false_iff_ne]; omega
    clear h h2
    go_enter Try.func17, Try.ntmps17
    go_wp2
    go_ret2
    exact ⟨⟨_, rfl⟩, (Below.refl _ _).alloc (Nat.le_refl _) _⟩

end Go.Proofs.Ytoljoifldlpinaa
