/-
  What it means that memory reads as a list of lists of integers. No condition.
-/
import Derived.Test.YtfdolbpbddjhmaaStep
namespace Go.Proofs.Ytfdolbpbddjhmaa
open Go.RowKit
set_option linter.unusedVariables false

/-- The slice '.slice ao n c' reads as the lists xss; it and they lie in blocks from lo on, below hi. -/
def LView (w : World) (lo hi : Nat) (ao : Option Addr) (n : Nat) (xss : List (List Int)) : Prop :=
  xss.length = n ∧ (n = 0 ∨ ∃ b o, ao = some ⟨b, o, none⟩ ∧ lo ≤ b ∧ b < hi ∧ ∀ j xs, xss[j]? = some xs → ∃ a m c, w.cell? ⟨b, o + j, none⟩ = some (.slice a m c) ∧ m ≤ c ∧ c ≤ maxLen ∧ IView w lo hi a m xs)
theorem LView.kept {w w' : World} {lo hi : Nat} {ao : Option Addr} {n : Nat} {xss : List (List Int)} (h : LView w lo hi ao n xss) (hk : Kept lo hi w w') : LView w' lo hi ao n xss := by
  obtain ⟨h1, h2 | ⟨b, o, rfl, hl, hh, hc⟩⟩ := h
  · exact ⟨h1, .inl h2⟩
  · refine ⟨h1, .inr ⟨b, o, rfl, hl, hh, fun j f hf => ?_⟩⟩
    obtain ⟨a, m, c, c0, hm, hcm, hv⟩ := hc j f hf
    exact ⟨a, m, c, (hk.cell (p := ⟨b, _, none⟩) hl hh).trans c0, hm, hcm, hv.kept hk⟩
theorem LView.mono {w : World} {lo hi lo' hi' : Nat} {ao : Option Addr} {n : Nat} {xss : List (List Int)} (h : LView w lo hi ao n xss) (h1 : lo' ≤ lo) (h2 : hi ≤ hi') : LView w lo' hi' ao n xss := by
  obtain ⟨h3, h4 | ⟨b, o, rfl, hl, hh, hc⟩⟩ := h
  · exact ⟨h3, .inl h4⟩
  · refine ⟨h3, .inr ⟨b, o, rfl, by omega, by omega, fun j f hf => ?_⟩⟩
    obtain ⟨a, m, c, c0, hm, hcm, hv⟩ := hc j f hf
    exact ⟨a, m, c, c0, hm, hcm, hv.mono h1 h2⟩
theorem LView.at_ {w : World} {lo hi : Nat} {ao : Option Addr} {n : Nat} {xss : List (List Int)} (h : LView w lo hi ao n xss) (h0 : 0 < n) : ∃ b o, ao = some ⟨b, o, none⟩ ∧ lo ≤ b ∧ b < hi ∧ ∀ j xs, xss[j]? = some xs → ∃ a m c, w.cell? ⟨b, o + j, none⟩ = some (.slice a m c) ∧ m ≤ c ∧ c ≤ maxLen ∧ IView w lo hi a m xs := by
  rcases h.2 with h2 | h2
  · omega
  · exact h2
/-- A list of one: its slice stands in a cell. -/
theorem LView.one {w : World} {lo hi b m c : Nat} {a : Option Addr} {xs : List Int} (hc : w.cell? ⟨b, 0, none⟩ = some (.slice a m c)) (hl : lo ≤ b) (hh : b < hi) (hm : m ≤ c) (hcm : c ≤ maxLen) (hv : IView w lo hi a m xs) : LView w lo hi (some ⟨b, 0, none⟩) 1 [xs] := by
  refine ⟨rfl, .inr ⟨b, 0, rfl, hl, hh, fun j ys hj => ?_⟩⟩
  match j, hj with
  | 0, hj => simp at hj; subst hj; exact ⟨a, m, c, hc, hm, hcm, hv⟩
theorem LView.two {w : World} {lo hi b m c m2 c2 : Nat} {a a2 : Option Addr} {xs ys : List Int} (hc : w.cell? ⟨b, 0, none⟩ = some (.slice a m c)) (hc2 : w.cell? ⟨b, 1, none⟩ = some (.slice a2 m2 c2)) (hl : lo ≤ b) (hh : b < hi) (hm : m ≤ c) (hcm : c ≤ maxLen) (hv : IView w lo hi a m xs) (hm2 : m2 ≤ c2) (hcm2 : c2 ≤ maxLen) (hv2 : IView w lo hi a2 m2 ys) : LView w lo hi (some ⟨b, 0, none⟩) 2 [xs, ys] := by
  refine ⟨rfl, .inr ⟨b, 0, rfl, hl, hh, fun j zs hj => ?_⟩⟩
  match j, hj with
  | 0, hj => simp at hj; subst hj; exact ⟨a, m, c, hc, hm, hcm, hv⟩
  | 1, hj => simp at hj; subst hj; exact ⟨a2, m2, c2, hc2, hm2, hcm2, hv2⟩

end Go.Proofs.Ytfdolbpbddjhmaa
