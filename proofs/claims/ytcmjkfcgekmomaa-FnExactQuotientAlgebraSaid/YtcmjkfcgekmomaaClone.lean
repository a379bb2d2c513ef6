/-
  Contracts: slices.Clone and spec.l1Own at lists of integers. Conditions: the bounds that each theorem names.
-/
import Derived.Test.YtcmjkfcgekmomaaStep
import Derived.Test.YtcmjkfcgekmomaaShelf
import Derived.Deep.RegionWith
import Derived.RangeFuncBox
namespace Go.Proofs.Ytcmjkfcgekmomaa
open Go.RowKit
set_option linter.unusedVariables false
set_option linter.unusedSimpArgs false

/-- A list of integers in new memory. -/
def NewInts (w w' : World) (n : Nat) (xs : List Int) (e : Ending) : Prop :=
  ∃ g d, e = .returned (.slice (some ⟨g, 0, none⟩) n d) ∧ w'.ownsRow w.heap.size 3 1 (.slice (some ⟨g, 0, none⟩) n d) n (xs.map (Value.int .i64)) ∧ Below w.heap.size w w'

theorem cells_getD {w : World} {b o : Nat} {xs : List Int} (hc : ∀ j x, xs[j]? = some x → w.cell? ⟨b, o + j, none⟩ = some (.int .i64 x)) : ∀ j, j < xs.length → w.cell? ⟨b, o + j, none⟩ = some (.int .i64 (xs.getD j 0)) := by
  intro j hj
  have hx : xs[j]? = some (xs[j]'hj) := List.getElem?_eq_getElem hj
  rw [hc j _ hx, List.getD_eq_getElem?_getD, hx]; rfl

theorem clone_ints (lo hi : Nat) (ao : Option Addr) (n c : Nat) (xs : List Int) (w : World) (h : IView w lo hi ao n xs) (h0 : 0 < n) (hn : n ≤ 1048576) :
    Calls Try.prog 125 #[.slice ao n c] w fun e w' => NewInts w w' n xs e := by
  obtain ⟨b, o, rfl, _, _, hc⟩ := h.at_ h0
  have hl := h.1
  refine (Try.slices_Clone_int b o n c xs w (by omega) (by omega) (cells_getD hc)).mono fun e w' ⟨v, he, ho, hne, hb⟩ => ?_
  rw [List.take_of_length_le (by omega)] at ho
  rcases ho.2 with ⟨h, _⟩ | ⟨g, cap, _, h, _⟩
  · exact absurd h hne
  · subst h
    exact ⟨g, cap, he, ho, hb⟩

set_option maxHeartbeats 400000 in
theorem own_ints (lo hi : Nat) (ao : Option Addr) (n c : Nat) (xs : List Int) (w : World) (h : IView w lo hi ao n xs) (h0 : 0 < n) (hn : n ≤ 1048576) :
    Calls Try.prog 139 #[.slice ao n c] w fun e w' => NewInts w w' n xs e := by
  obtain ⟨b, o, rfl, _, _, hc⟩ := h.at_ h0
  have hl := h.1
  obtain ⟨i0, hi0, hz0, hz1, hz2⟩ := info_parts Try.infoInt
  have hown := World.ownsRow_lit (base := w.heap.size) (e := 3) (size := 1) w #[] 0 (Nat.le_refl _) (by decide) rfl
  have hB := (Below.refl w.heap.size w).alloc (Nat.le_refl _) (.cells #[] 3)
  have HO := Lib.hid hown
  have HB := Lib.hid hB
  have hcells : ∀ j u, (xs.map (Value.int .i64))[j]? = some u → (w.alloc (.cells #[] 3)).cell? ((⟨b, o, none⟩ : Addr).add j) = some u := by
    intro j u hu
    rw [List.getElem?_map] at hu
    obtain ⟨x, hx, rfl⟩ := Option.map_eq_some_iff.1 hu
    have hcj := hc j x hx
    rw [show (⟨b, o, none⟩ : Addr).add j = ⟨b, o + j, none⟩ by unfold Addr.add; split <;> simp_all]
    exact (World.cell?_alloc_lt w _ ⟨b, o + j, none⟩ (World.block_lt_of_cell? w _ hcj)).trans hcj
  have HC := Lib.hid hcells
  have HL := Lib.hid hl
  clear hown hB hcells hl hc h
  unfold NewInts
  go_enter Try.func139, Try.ntmps139
  go_wp2_with (at_builtin; refine wpList_append_own _ rfl _ _ 25 rfl w.heap.size 3 i0 (.int .i64 0) 1 8 Try.underlying25 hi0 hz0 hz1 hz2 rfl (by decide) (.slice (some ⟨w.heap.size, 0, none⟩) 0 0) 0 [] rfl HO.out ⟨b, o, none⟩ n c (xs.map (Value.int .i64)) rfl (by rw [List.length_map, HL.out]; omega) HC.out (fun x hx => by obtain ⟨y, _, rfl⟩ := List.mem_map.1 hx; rfl) (by unfold maxLen; omega) (by omega) HB.out.size ?_; intro v' w3 hown' hgrow' hnil')
  rw [Nat.zero_add, List.nil_append] at hown'
  obtain ⟨m, rfl⟩ : ∃ m, n = m + 1 := ⟨n - 1, by omega⟩
  obtain ⟨g, cap, rfl⟩ := ownsRow_succ hown'
  have HO3 := Lib.hid hown'
  have HB3 := Lib.hid (HB.out.grown hgrow' HB.out.size (fun q hq => by have h_ : w.heap.size = q := (by simpa [Value.ownBlock] using hq); omega))
  clear hown' hgrow' hnil'
  go_wp2
  go_ret
  exact ⟨g, cap, rfl, HO3.out, HB3.out⟩

end Go.Proofs.Ytcmjkfcgekmomaa
