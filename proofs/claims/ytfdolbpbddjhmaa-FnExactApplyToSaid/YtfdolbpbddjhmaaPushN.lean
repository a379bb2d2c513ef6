/-
  One more list at the end of a list of lists that the call builds. No condition.
-/
import Derived.Test.YtfdolbpbddjhmaaLL
namespace Go.Proofs.Ytfdolbpbddjhmaa
open Go.RowKit
set_option linter.unusedVariables false
set_option linter.unusedSimpArgs false

theorem own_addr {w : World} {B n c : Nat} {e : TypeId} {s : Nat} {a : Option Addr} {xs : List Value} (h : w.ownsRow B e s (.slice a n c) n xs) : ∃ g, a = addrO g := by
  rcases h.2 with ⟨h1, _⟩ | ⟨g, cap, _, h1, _⟩
  · injection h1 with h1 _ _
    exact ⟨none, h1⟩
  · injection h1 with h1 _ _
    exact ⟨some g, h1⟩
theorem flatL_succ {k m d : Nat} {g : Option Nat} {G : Nat → Option Nat} {C : Nat → Nat} {F : Nat → List Int} (hm : (F k).length = m) : flatL (k + 1) (upd G k g) (upd C k d) F = flatL k G C F ++ [.slice (addrO g) m d] := by
  subst hm
  have h : flatL k (upd G k g) (upd C k d) F = flatL k G C F := flatL_congr fun j hj => ⟨upd_other (by omega), upd_other (by omega), rfl⟩
  rw [← h]
  unfold flatL
  rw [List.range_succ, List.map_append, List.map_cons, List.map_nil, upd_same, upd_same]

/-- The lists so far. -/
def BuiltL (w : World) (lo : Nat) (v : Value) (k : Nat) (F : Nat → List Int) : Prop := ∃ G C, OwnsLL w lo w.heap.size v k G C F
theorem BuiltL.nil (w : World) (lo : Nat) (F : Nat → List Int) : BuiltL w lo (.slice none 0 0) 0 F :=
  ⟨fun _ => none, fun _ => 0, World.ownsRow_nil _ _ _ _, fun k h => by simp [Value.ownBlock] at h, fun j hj => by omega, fun j g hj => by omega, fun i j g hi => by omega⟩
theorem BuiltL.below {w w1 : World} {lo k : Nat} {v : Value} {F : Nat → List Int} (h : BuiltL w lo v k F) (hb : Below w.heap.size w w1) : BuiltL w1 lo v k F := by
  obtain ⟨G, C, h⟩ := h
  exact ⟨G, C, (h.kept (Kept.of_below hb (Nat.le_refl _))).hi_mono hb.size⟩
theorem BuiltL.row {w : World} {lo k : Nat} {v : Value} {F : Nat → List Int} (h : BuiltL w lo v k F) : ∃ xs, w.ownsRow lo 37 1 v k xs ∧ xs.length = k := by
  obtain ⟨G, C, h⟩ := h
  exact ⟨_, h.row, flatL_len _ _ _ _⟩
/-- The first one, as a literal. -/
theorem BuiltL.one {w : World} {lo m d : Nat} {g : Option Nat} {F : Nat → List Int} (hm : (F 0).length = m) (ht : w.ownsRow lo 3 1 (.slice (addrO g) m d) m ((F 0).map (Value.int .i64))) (hlo : lo ≤ w.heap.size) :
    BuiltL (w.alloc (.cells #[.slice (addrO g) m d] 37)) lo (.slice (some ⟨w.heap.size, 0, none⟩) 1 1) 1 F := by
  subst hm
  refine ⟨fun _ => g, fun _ => d, ?_, fun k hk => ?_, fun j hj => ?_, fun j b hj hb => ?_, fun i j b hi hj _ _ => by omega⟩
  · exact World.ownsRow_lit (base := lo) (e := 37) (size := 1) w #[.slice (addrO g) (F 0).length d] 1 hlo (by decide) rfl
  · have : w.heap.size = k := by simpa [Value.ownBlock] using hk
    simp; omega
  · obtain rfl : j = 0 := by omega
    exact ht.alloc _
  · have h1 := (ht.lt b (by rw [own_addrO]; exact hb)).2
    simp; omega

/-- One more. wr: the world ahead of the round; w2: behind the list; w3: behind the append. -/
theorem OwnsLL.pushG {wr w2 w3 : World} {lo k m d : Nat} {g : Option Nat} {v v' : Value} {G : Nat → Option Nat} {C : Nat → Nat} {F : Nat → List Int} (h : OwnsLL wr lo wr.heap.size v k G C F)
    (hb : Below wr.heap.size wr w2) (hlo : lo ≤ wr.heap.size) (hm : (F k).length = m) (ht : w2.ownsRow wr.heap.size 3 1 (.slice (addrO g) m d) m ((F k).map (Value.int .i64))) {ob : Obj}
    (hown : w3.ownsRow lo 37 1 v' (k + 1) (flatL k G C F ++ [.slice (addrO g) m d])) (hgrow : (w2.alloc ob).grownBy w3 v.ownBlock) : ∃ G' C', OwnsLL w3 lo w3.heap.size v' (k + 1) G' C' F ∧ G' = upd G k g := by
  subst hm
  have hrow2 := h.row.kept (grown_of_below hb none) (own_em _)
  have hs3 : w2.heap.size < w3.heap.size := by have := hgrow.size; simp at this; omega
  have hne : ∀ (xs : List Int) (g : Option Nat) (m c B : Nat), w2.ownsRow B 3 1 (.slice (addrO g) m c) m (xs.map (Value.int .i64)) → (Value.slice (addrO g) m c).ownBlock = none ∨ (Value.slice (addrO g) m c).ownBlock ≠ v.ownBlock := by
    intro xs g m c B hq
    cases g with
    | none => exact .inl rfl
    | some b => exact .inr fun e => row_ne hrow2 hq (by decide) (e.symm.trans rfl)
  refine ⟨upd G k g, upd C k d, ⟨?_, fun b hb2 => (hown.lt b hb2).2, fun j hj => ?_, fun j b hj hb2 => ?_, fun i j b hi hj hib hjb => ?_⟩, rfl⟩
  · rw [flatL_succ rfl]; exact hown
  · by_cases hjk : j = k
    · subst hjk
      rw [upd_same, upd_same]
      exact ((ownsRow_base ht hlo).alloc ob).kept hgrow (hne _ _ _ _ _ ht)
    · rw [upd_other hjk, upd_other hjk]
      have h2 := (h.tab j (by omega)).kept (grown_of_below hb none) (own_em _)
      exact (h2.alloc ob).kept hgrow (hne _ _ _ _ _ h2)
  · by_cases hjk : j = k
    · subst hjk
      rw [upd_same] at hb2
      have := (ht.lt b (by rw [own_addrO]; exact hb2)).2; omega
    · rw [upd_other hjk] at hb2
      have := h.lt j b (by omega) hb2; have := hb.size; omega
  · by_cases hik : i = k <;> by_cases hjk : j = k
    · omega
    · subst hik
      rw [upd_same] at hib; rw [upd_other hjk] at hjb
      have := (ht.lt b (by rw [own_addrO]; exact hib)).1; have := h.lt j b (by omega) hjb; omega
    · subst hjk
      rw [upd_same] at hjb; rw [upd_other hik] at hib
      have := (ht.lt b (by rw [own_addrO]; exact hjb)).1; have := h.lt i b (by omega) hib; omega
    · rw [upd_other hik] at hib; rw [upd_other hjk] at hjb
      exact h.inj i j b (by omega) (by omega) hib hjb

theorem OwnsLL.push {wr w2 w3 : World} {lo k m d : Nat} {g : Option Nat} {v v' : Value} {G : Nat → Option Nat} {C : Nat → Nat} {F : Nat → List Int} (h : OwnsLL wr lo wr.heap.size v k G C F)
    (hb : Below wr.heap.size wr w2) (hlo : lo ≤ wr.heap.size) (hm : (F k).length = m) (ht : w2.ownsRow wr.heap.size 3 1 (.slice (addrO g) m d) m ((F k).map (Value.int .i64))) {ob : Obj}
    (hown : w3.ownsRow lo 37 1 v' (k + 1) (flatL k G C F ++ [.slice (addrO g) m d])) (hgrow : (w2.alloc ob).grownBy w3 v.ownBlock) : BuiltL w3 lo v' (k + 1) F := by
  obtain ⟨G', C', h1, _⟩ := h.pushG hb hlo hm ht hown hgrow
  exact ⟨G', C', h1⟩

end Go.Proofs.Ytfdolbpbddjhmaa
