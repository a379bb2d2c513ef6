/-
  Contracts: szIdentity, toIdentity, eqIdentity, markIdentity. Conditions: the bounds that each theorem names.
-/
import Derived.Test.YtplheohkecooeaaBox
import Derived.Deep.RegionHeld3
import Derived.Test.YtplheohkecooeaaSz
import Derived.Test.YtplheohkecooeaaTo
import Derived.Test.YtplheohkecooeaaStep
namespace Go.Proofs.Ytplheohkecooeaa
open Go.RowKit
set_option linter.unusedVariables false
set_option linter.unusedSimpArgs false

theorem Only.widen {lo hi lo' hi' : Nat} {w w' : World} (h : Only lo hi w w') (h1 : lo' ≤ lo) (h2 : hi ≤ hi') : Only lo' hi' w w' := ⟨h.os, h.tape, h.output, h.size, fun k hk ho => h.block k hk (by omega)⟩
theorem boxT0 {w : World} {B : Nat} {a b v : Value} {ty : TypeId} (h : w.heap[B]? = some (.cells #[a, b] ty (0, 0))) : (w.setCell ⟨B, 0, none⟩ v).heap[B]? = some (.cells #[v, b] ty (0, 0)) := by
  simp [World.setCell, Array.getElem?_modify, h]
theorem boxT1 {w : World} {B : Nat} {a b v : Value} {ty : TypeId} (h : w.heap[B]? = some (.cells #[a, b] ty (0, 0))) : (w.setCell ⟨B, 1, none⟩ v).heap[B]? = some (.cells #[a, v] ty (0, 0)) := by
  simp [World.setCell, Array.getElem?_modify, h]

theorem szIdn_any (ao bo : Option Addr) (c d n m : Nat) (left : Int) (w : World) (hn : n ≤ maxLen) (hm : m ≤ maxLen) (h0 : 0 ≤ left) (h1 : left ≤ 1048576) :
    Calls Try.prog 48 #[.agg #[.slice ao n c, .slice bo m d], .int .i64 left] w fun e w' => e = .returned (.int .i64 (szI left (n + m))) ∧ Below w.heap.size w w' := by
  have HB := Lib.hid (below_alloc w (.cells #[.slice ao n c, .slice bo m d] 60))
  have H1 := fun (W : World) => szInts_any ao c n left W hn h0 h1
  by_cases hf : (n : Int) ≤ left
  · simp only [szI_yes hf] at H1
    have H2 := fun (W : World) => szInts_any bo d m (left - n) W hm (by omega) (by omega)
    have hlt : ¬ (left - (n : Int)) < 0 := by omega
    by_cases hg : (m : Int) ≤ left - n
    · simp only [szI_yes hg] at H2
      rw [szI_yes (show ((n + m : Nat) : Int) ≤ left by omega)]
      have hlt2 : ¬ (left - (n : Int) - (m : Int)) < 0 := by omega
      have HC1 := Lib.hid H1
      have HC2 := Lib.hid H2
      clear H1 H2 hn hm
      go_enter Try.func48, Try.ntmps48
      go_wp2_with fail
      refine (HC1.out _).mono ?_
      rintro e w1 ⟨rfl, rfl⟩
      go_wp2_with fail
      refine (HC2.out _).mono ?_
      rintro e w1 ⟨rfl, rfl⟩
      go_wp2_with fail
      go_ret
      exact ⟨ret_int (by omega), HB.out⟩
    · simp only [szI_no hg] at H2
      rw [szI_no (show ¬ ((n + m : Nat) : Int) ≤ left by omega)]
      have HC1 := Lib.hid H1
      have HC2 := Lib.hid H2
      clear H1 H2 hn hm
      go_enter Try.func48, Try.ntmps48
      go_wp2_with fail
      refine (HC1.out _).mono ?_
      rintro e w1 ⟨rfl, rfl⟩
      go_wp2_with fail
      refine (HC2.out _).mono ?_
      rintro e w1 ⟨rfl, rfl⟩
      go_wp2_with fail
      go_ret
      exact ⟨rfl, HB.out⟩
  · simp only [szI_no hf] at H1
    rw [szI_no (show ¬ ((n + m : Nat) : Int) ≤ left by omega)]
    have HC1 := Lib.hid H1
    clear H1 hn hm
    go_enter Try.func48, Try.ntmps48
    go_wp2_with fail
    refine (HC1.out _).mono ?_
    rintro e w1 ⟨rfl, rfl⟩
    go_wp2_with fail
    go_ret
    exact ⟨rfl, HB.out⟩

theorem eqIdn_view (lo hi lo2 hi2 lo3 hi3 lo4 hi4 : Nat) (ao bo ao2 bo2 : Option Addr) (c d c2 d2 n m : Nat) (xs ys : List Int) (w : World) (h : IView w lo hi ao n xs) (h2 : IView w lo2 hi2 bo m ys) (h3 : IView w lo3 hi3 ao2 n xs) (h4 : IView w lo4 hi4 bo2 m ys) (hn : n ≤ maxLen) (hm : m ≤ maxLen)
    (hh : hi ≤ w.heap.size) (hh2 : hi2 ≤ w.heap.size) (hh3 : hi3 ≤ w.heap.size) (hh4 : hi4 ≤ w.heap.size) :
    Calls Try.prog 52 #[.agg #[.slice ao n c, .slice bo m d], .agg #[.slice ao2 n c2, .slice bo2 m d2]] w fun e w' => e = .returned (.bool true) ∧ Below w.heap.size w w' := by
  have hc := Lib.hid (fun (w1 : World) (hb : Below w.heap.size w w1) => eqInts_view lo hi lo3 hi3 ao ao2 c c2 n xs w1 (h.kept (Kept.of_below hb hh)) (h3.kept (Kept.of_below hb hh3)) hn)
  have hd := Lib.hid (fun (w1 : World) (hb : Below w.heap.size w w1) => eqInts_view lo2 hi2 lo4 hi4 bo bo2 d d2 m ys w1 (h2.kept (Kept.of_below hb hh2)) (h4.kept (Kept.of_below hb hh4)) hm)
  clear h h2 h3 h4 hn hm
  have hB := Lib.hid (((Below.refl w.heap.size w).alloc (Nat.le_refl _) (.cells #[.slice ao n c, .slice bo m d] 64)).alloc (by simp) (.cells #[.slice ao2 n c2, .slice bo2 m d2] 64))
  go_enter Try.func52, Try.ntmps52
  go_wp2_with fail
  refine (hc.out _ hB.out).mono ?_
  rintro e w1 ⟨rfl, q, rfl⟩
  have hB1 := Lib.hid (below_drawn hB.out ⟨q, rfl⟩)
  go_wp2_with fail
  refine (hd.out _ hB1.out).mono ?_
  rintro e w1 ⟨rfl, q2, rfl⟩
  have hB2 := Lib.hid (below_drawn hB1.out ⟨q2, rfl⟩)
  go_wp2_with fail
  go_ret
  exact ⟨rfl, below_drewN hB.out _⟩

theorem markIdn_own (lo mid hi n m c d : Nat) (k : Int) (ao bo : Option Addr) (xs ys : List Int) (w : World) (hk0 : 0 ≤ k) (hk : k + (n : Int) + (m : Int) ≤ 4611686018427387904) (h : OwnsInts w lo mid ao n c xs) (h2 : OwnsInts w mid hi bo m d ys) (hlm : lo ≤ mid) (hmh : mid ≤ hi) (hhi : hi ≤ w.heap.size) :
    Calls Try.prog 55 #[.agg #[.slice ao n c, .slice bo m d], .int .i64 k] w fun e w' => e = .returned (.int .i64 (k + (n : Int) + (m : Int))) ∧ OwnsInts w' lo mid ao n c (upFrom k n) ∧ OwnsInts w' mid hi bo m d (upFrom (k + (n : Int)) m) ∧ Only lo hi w w' := by
  have hB := below_alloc w (.cells #[.slice ao n c, .slice bo m d] 64)
  have HC := Lib.hid (markInts_own lo mid n c k ao xs _ hk0 (by omega) (h.kept (Kept.of_below hB (by omega))))
  have H2 := Lib.hid (h2.kept (Kept.of_below hB hhi))
  have HB := Lib.hid (Only.of_below (lo := lo) (hi := hi) hB)
  have hs := hB.size
  clear h h2 hB
  go_enter Try.func55, Try.ntmps55
  go_wp2_with fail
  refine HC.out.mono ?_
  rintro e w1 ⟨rfl, o1, b1⟩
  have cb : w1.cell? ⟨w.heap.size, 1, none⟩ = some (.slice bo m d) := cell_o b1 (by go_simp) (by dsimp only; omega)
  have HC2 := Lib.hid (markInts_own mid hi m d (k + (n : Int)) bo ys w1 (by omega) (by omega) (H2.out.kept (kept_only b1 (by omega) (.inr (Nat.le_refl _)))))
  have HO := Lib.hid o1
  have HB1 := Lib.hid (HB.out.trans (b1.widen (Nat.le_refl _) hmh))
  have hs1 := b1.size
  clear o1 b1 H2
  go_wp2_with fail
  refine HC2.out.mono ?_
  rintro e w2 ⟨rfl, o2, b2⟩
  have HO1 := Lib.hid (HO.out.kept (kept_only b2 (by omega) (.inl (Nat.le_refl _))))
  have HO2 := Lib.hid o2
  have HB2 := Lib.hid (HB1.out.trans (b2.widen hlm (Nat.le_refl _)))
  clear o2 b2
  go_wp2_with fail
  go_ret
  exact ⟨rfl, HO1.out, HO2.out, HB2.out⟩

set_option maxHeartbeats 1000000 in
theorem toIdn_own (lo hi lo2 hi2 : Nat) (ao bo : Option Addr) (c d n m : Nat) (xs ys : List Int) (w : World) (h : IView w lo hi ao n xs) (hhi : hi ≤ w.heap.size) (h2 : IView w lo2 hi2 bo m ys) (hhi2 : hi2 ≤ w.heap.size) (hn : n * 8 ≤ 281474976710656) (hm : m * 8 ≤ 281474976710656) :
    Calls Try.prog 50 #[.agg #[.slice ao n c, .slice bo m d]] w fun e w' => ∃ g g2 mid, e = .returned (.agg #[.slice (some ⟨g, 0, none⟩) n n, .slice (some ⟨g2, 0, none⟩) m m]) ∧ w.heap.size ≤ mid ∧ mid ≤ w'.heap.size ∧ OwnsInts w' w.heap.size mid (some ⟨g, 0, none⟩) n n xs ∧ OwnsInts w' mid w'.heap.size (some ⟨g2, 0, none⟩) m m ys ∧ Below w.heap.size w w' := by
  have hB := ((((Below.refl w.heap.size w).alloc (Nat.le_refl _) (.cells #[.slice ao n c, .slice bo m d] 60)).alloc (by simp) (.cells #[.slice none 0 0, .slice none 0 0] 64)).alloc (by simp; omega) (.cells #[.slice none 0 0, .slice none 0 0] 64))
  have HB := Lib.hid hB
  have H1 := Lib.hid (fun (W : World) (hb : Below w.heap.size w W) => toInts_view lo hi ao c n xs W (h.kept (Kept.of_below hb hhi)) (Nat.le_trans hhi hb.size) hn)
  have H2 := Lib.hid (fun (W : World) (hb : Below w.heap.size w W) => toInts_view lo2 hi2 bo d m ys W (h2.kept (Kept.of_below hb hhi2)) (Nat.le_trans hhi2 hb.size) hm)
  have hR0 : Hid ((((w.alloc (.cells #[.slice ao n c, .slice bo m d] 60)).alloc (.cells #[.slice none 0 0, .slice none 0 0] 64)).alloc (.cells #[.slice none 0 0, .slice none 0 0] 64)).heap[w.heap.size + 1]? = some (.cells #[.slice none 0 0, .slice none 0 0] 64 (0, 0))) := by
    unfold Hid
    rw [Below.heap_alloc _ _ _ (by simp)]
    have h := heap_alloc_new (w.alloc (.cells #[.slice ao n c, .slice bo m d] 60)) (.cells #[.slice none 0 0, .slice none 0 0] 64)
    rw [World.size_alloc] at h
    exact h
  have hO0 : Hid ((((w.alloc (.cells #[.slice ao n c, .slice bo m d] 60)).alloc (.cells #[.slice none 0 0, .slice none 0 0] 64)).alloc (.cells #[.slice none 0 0, .slice none 0 0] 64)).heap[w.heap.size + 1 + 1]? = some (.cells #[.slice none 0 0, .slice none 0 0] 64 (0, 0))) := by
    have h := heap_alloc_new ((w.alloc (.cells #[.slice ao n c, .slice bo m d] 60)).alloc (.cells #[.slice none 0 0, .slice none 0 0] 64)) (.cells #[.slice none 0 0, .slice none 0 0] 64)
    rw [World.size_alloc, World.size_alloc] at h
    exact h
  have cb0 : (((w.alloc (.cells #[.slice ao n c, .slice bo m d] 60)).alloc (.cells #[.slice none 0 0, .slice none 0 0] 64)).alloc (.cells #[.slice none 0 0, .slice none 0 0] 64)).cell? ⟨w.heap.size, 1, none⟩ = some (.slice bo m d) := by go_simp
  have hsz0 := hB.size
  clear h h2 hn hm hB
  go_enter Try.func50, Try.ntmps50
  go_wp2_with fail
  refine (H1.out _ HB.out).mono ?_
  rintro e w1 ⟨rfl, o1, b1⟩
  simp only [World.size_alloc] at o1 ⊢
  have hs1 : w.heap.size + 1 + 1 + 1 < w1.heap.size := (o1.lt _ rfl).2
  have cb1 := cell_b b1 cb0
  have hR1 : Hid (w1.heap[w.heap.size + 1]? = some (.cells #[.slice none 0 0, .slice none 0 0] 64 (0, 0))) := (b1.block _ (by simp)).trans hR0.out
  have hO1 := (b1.block _ (by simp)).trans hO0.out
  obtain ⟨p0, p1, pf⟩ := boxC hO1
  have HO1 := Lib.hid hO1
  have HX1 := Lib.hid o1
  have HB1 := Lib.hid (HB.out.trans (b1.mono HB.out.size))
  obtain ⟨g, hg⟩ : ∃ g : Nat, g = w.heap.size + 1 + 1 + 1 := ⟨_, rfl⟩
  rw [← hg] at HX1 ⊢
  have hgs : w.heap.size + 1 + 1 < g := by omega
  clear hO1 o1 b1 hR0 hO0 cb0 hg
  go_wp2_with fail
  have HB2 := Lib.hid (HB1.out.setCell (p := ⟨w.heap.size + 1 + 1, 0, none⟩) (by show w.heap.size ≤ w.heap.size + 1 + 1; omega) (.slice (some ⟨g, 0, none⟩) n n))
  have HO2 := Lib.hid (boxT0 (v := .slice (some ⟨g, 0, none⟩) n n) HO1.out)
  have HR2 : Hid ((w1.setCell ⟨w.heap.size + 1 + 1, 0, none⟩ (.slice (some ⟨g, 0, none⟩) n n)).heap[w.heap.size + 1]? = some (.cells #[.slice none 0 0, .slice none 0 0] 64 (0, 0))) := (Below.heap_setCell _ _ _ _ (by show w.heap.size + 1 ≠ w.heap.size + 1 + 1; omega)).trans hR1.out
  have HX2 : Hid ((w1.setCell ⟨w.heap.size + 1 + 1, 0, none⟩ (.slice (some ⟨g, 0, none⟩) n n)).ownsRow g 3 1 (.slice (some ⟨g, 0, none⟩) n n) n (xs.map (Value.int .i64))) := ownsRow_block HX1.out fun b hb => by
    obtain rfl : g = b := by injection hb
    exact Below.heap_setCell _ _ _ _ (by show g ≠ w.heap.size + 1 + 1; omega)
  have hs2 : (w1.setCell ⟨w.heap.size + 1 + 1, 0, none⟩ (.slice (some ⟨g, 0, none⟩) n n)).heap.size = w1.heap.size := by simp [World.setCell]
  refine (H2.out _ HB2.out).mono ?_
  rintro e w3 ⟨rfl, o3, b3⟩
  rw [hs2] at o3
  have hs3 := b3.size
  rw [hs2] at hs3
  have hR3 : Hid (w3.heap[w.heap.size + 1]? = some (.cells #[.slice none 0 0, .slice none 0 0] 64 (0, 0))) := (b3.block _ (by omega)).trans HR2.out
  have hO3 := (b3.block (w.heap.size + 1 + 1) (by omega)).trans HO2.out
  obtain ⟨q0, q1, qf⟩ := boxC hO3
  have HO3 := Lib.hid hO3
  have HX3 := Lib.hid (HX2.out.kept (grown_of_below b3 none) (own_em _))
  have HY3 := Lib.hid o3
  have HB3 := Lib.hid (HB2.out.trans (b3.mono HB2.out.size))
  obtain ⟨r0, r1, rf⟩ := boxC hR3.out
  clear hO3 o3 b3 hR1 p0 p1 pf cb1
  simp only [hs2]
  obtain ⟨g2, hg2⟩ : ∃ g2 : Nat, g2 = w1.heap.size := ⟨_, rfl⟩
  rw [← hg2] at HY3 hs1 hs3 ⊢
  have hg2s : g2 < w3.heap.size := (HY3.out.lt g2 rfl).2
  have hgg := (HX1.out.lt g rfl).2
  rw [← hg2] at hgg
  clear hg2 hs2 HX1 HX2 HO1 HO2 HR2
  go_wp2_with fail
  have hfar : ∀ (u1 u2 u3 : Value) (b : Nat), w.heap.size + 1 + 1 < b → (((w3.setCell ⟨w.heap.size + 1 + 1, 1, none⟩ u1).setCell ⟨w.heap.size + 1, 0, none⟩ u2).setCell ⟨w.heap.size + 1, 1, none⟩ u3).heap[b]? = w3.heap[b]? := fun u1 u2 u3 b hb => by
    rw [Below.heap_setCell _ _ _ _ (by show b ≠ w.heap.size + 1; omega), Below.heap_setCell _ _ _ _ (by show b ≠ w.heap.size + 1; omega), Below.heap_setCell _ _ _ _ (by show b ≠ w.heap.size + 1 + 1; omega)]
  refine bodyPost_ret (v := .agg #[.slice (some ⟨g, 0, none⟩) n n, .slice (some ⟨g2, 0, none⟩) m m]) (by simp [results, Try.results50, go_sem, r0, r1]) rfl ⟨g, g2, g2, rfl, by omega, by simp [World.setCell]; omega, ⟨ownsRow_base (ownsRow_block HX3.out fun b hb => ?_) (by omega), fun k hk => ?_⟩, ⟨ownsRow_block HY3.out fun b hb => ?_, fun k hk => ?_⟩, ((HB3.out.setCell (by show _ ≤ _; simp; omega) _).setCell (by show _ ≤ _; simp) _).setCell (by show _ ≤ _; simp) _⟩
  · obtain rfl : g = b := by injection hb
    exact hfar _ _ _ _ (by omega)
  · obtain rfl : g = k := by injection hk
    exact hgg
  · obtain rfl : g2 = b := by injection hb
    exact hfar _ _ _ _ (by omega)
  · obtain rfl : g2 = k := by injection hk
    simp [World.setCell]; omega

end Go.Proofs.Ytplheohkecooeaa
