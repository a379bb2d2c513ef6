/-
  Contracts: the laws' markIntS, markOpS, markAlgebra and heldIntS, heldOpS, heldAlgebra: a list that the call itself made is marked, and holds the marks. Conditions: the bounds that each theorem names.
-/
import Derived.Test.YtcmjkfcgekmomaaOwn
import Derived.Deep.RegionHeld3
namespace Go.Proofs.Ytcmjkfcgekmomaa
open Go.RowKit
set_option linter.unusedVariables false

def upFrom (k : Int) (n : Nat) : List Int := (List.range n).map fun (i : Nat) => k + (i : Int)
theorem upFrom_len (k : Int) (n : Nat) : (upFrom k n).length = n := by simp [upFrom]
theorem upFrom_get {k : Int} {n j : Nat} (hj : j < n) : (upFrom k n)[j]? = some (k + (j : Int)) := by simp [upFrom, hj]
theorem upFrom_set {xs : List Int} {k : Int} {j n : Nat} (hl : xs.length = n) (hj : j < n) :
    ((upFrom k j ++ xs.drop j).map (Value.int .i64)).set j (.int .i64 (k + (j : Int))) = (upFrom k (j + 1) ++ xs.drop (j + 1)).map (Value.int .i64) := by
  have h1 : (upFrom k j).length = j := upFrom_len k j
  have h2 : xs.drop j = xs[j]'(by omega) :: xs.drop (j + 1) := List.drop_eq_getElem_cons (by omega)
  rw [show Value.int .i64 (k + (j : Int)) = Value.int .i64 (k + (j : Int)) from rfl, ← List.map_set, List.set_append_right _ _ (by omega), h1, Nat.sub_self, h2, List.set_cons_zero]
  generalize xs.drop (j + 1) = r
  simp [upFrom, List.range_succ]

theorem markInts_nil (ao : Option Addr) (c : Nat) (k : Int) (w : World) :
    Calls Try.prog 23 #[.slice ao 0 c, .int .i64 k] w fun e w' => e = .returned (.int .i64 k) ∧ w = w' := by
  go_enter Try.func23, Try.ntmps23
  go_wp2
  refine wp_loop_rounds 1 ?_
  rw [rounds_succ]
  go_wp2
  go_ret
  exact ⟨rfl, rfl⟩

set_option maxHeartbeats 1000000 in
theorem markInts_some (b g n c : Nat) (k : Int) (xs : List Int) (w : World) (hk0 : 0 ≤ k) (hk : k + (n : Int) ≤ 4611686018427387904) (h : w.ownsRow b 3 1 (.slice (some ⟨g, 0, none⟩) n c) n (xs.map (Value.int .i64))) :
    Calls Try.prog 23 #[.slice (some ⟨g, 0, none⟩) n c, .int .i64 k] w fun e w' => e = .returned (.int .i64 (k + (n : Int))) ∧ w'.ownsRow b 3 1 (.slice (some ⟨g, 0, none⟩) n c) n ((upFrom k n).map (Value.int .i64)) ∧ w.grownBy w' (some g) := by
  have HO := Lib.hid h
  have hl : xs.length = n := by have := h.1; simpa using this
  have HL := Lib.hid hl
  clear h hl
  go_enter Try.func23, Try.ntmps23
  go_wp2
  go_loopw [1, 5] (fun kk i wr => ∃ j : Nat, j ≤ n ∧ i = .int .i64 j ∧ kk = .int .i64 (k + (j : Int)) ∧ Hid (wr.ownsRow b 3 1 (.slice (some ⟨g, 0, none⟩) n c) n ((upFrom k j ++ xs.drop j).map (Value.int .i64))) ∧ Hid (w.grownBy wr (some g))) (fun _ i _ => n - (intOf i).toNat)
  case atStart => exact ⟨0, Nat.zero_le _, rfl, by simp, by simpa [upFrom] using HO, World.grownBy.refl _ _⟩
  case round =>
    obtain ⟨j, hj, rfl, rfl, HR, HB⟩ := hrel
    by_cases hlt : j < n
    · have hfr := HR.out.frozenAt j
      have hst := HR.out.stored j (.int .i64 (k + (j : Int)))
      rw [upFrom_set HL.out hlt] at hst
      obtain ⟨u, hu⟩ : ∃ u, wr.cell? ⟨g, j, none⟩ = some u := by
        rw [HR.out.cellAt j (by omega)]
        have hl1 := HR.out.1
        exact ⟨_, List.getElem?_eq_getElem (by omega)⟩
      have HST := Lib.hid hst
      clear hst
      go_wp2
      go_roundw
      case rel => exact ⟨j + 1, by omega, by go_num, by go_num, HST.out.1, HB.out.trans HST.out.2⟩
      case measure => simp [intOf]; omega
    · go_wp2
      go_ret
      have hjn : j = n := by omega
      refine ⟨ret_int (by rw [hjn]), ?_, HB.out⟩
      have h := HR.out
      rw [hjn, List.drop_of_length_le (by have := HL.out; omega), List.append_nil] at h
      exact h

theorem heldInts_nil (ao : Option Addr) (c : Nat) (k : Int) (w : World) :
    Calls Try.prog 24 #[.slice ao 0 c, .int .i64 k] w fun e w' => e = .returned (.int .i64 k) ∧ w = w' := by
  go_enter Try.func24, Try.ntmps24
  go_wp2
  refine wp_loop_rounds 1 ?_
  rw [rounds_succ]
  go_wp2
  go_ret
  exact ⟨rfl, rfl⟩

set_option maxHeartbeats 400000 in
theorem heldInts_view (lo hi : Nat) (ao : Option Addr) (c n : Nat) (k : Int) (w : World) (hk0 : 0 ≤ k) (hk : k + (n : Int) ≤ 4611686018427387904) (h : IView w lo hi ao n (upFrom k n)) :
    Calls Try.prog 24 #[.slice ao n c, .int .i64 k] w fun e w' => e = .returned (.int .i64 (k + (n : Int))) ∧ w = w' := by
  rcases h.2 with h0 | ⟨b, o, rfl, _, _, hc⟩
  · subst h0
    exact (heldInts_nil ao c k w).mono fun e w' ⟨he, hw⟩ => ⟨by rw [he]; simp, hw⟩
  have HC := Lib.hid hc
  clear h hc
  go_enter Try.func24, Try.ntmps24
  go_wp2
  go_loop [1, 5] (fun kk i => ∃ j : Nat, j ≤ n ∧ i = .int .i64 j ∧ kk = .int .i64 (k + (j : Int))) (fun _ i => n - (intOf i).toNat)
  case atStart => exact ⟨0, Nat.zero_le _, rfl, by simp⟩
  case round =>
    obtain ⟨j, hj, rfl, rfl⟩ := hrel
    by_cases hlt : j < n
    · have hcell := HC.out j _ (upFrom_get hlt)
      go_wp2
      go_round
      case rel => exact ⟨j + 1, by omega, by go_num, by go_num⟩
      case measure => simp [intOf]; omega
    · go_wp2
      go_ret
      have hjn : j = n := by omega
      exact ⟨ret_int (by rw [hjn]), rfl⟩

/-! The operations. -/
theorem flatN_congrL {n : Nat} {G C : Nat → Nat} {F F' : Nat → OpD} (h : ∀ j, j < n → (F j).1 = (F' j).1 ∧ (F j).2.length = (F' j).2.length) : flatN n G C F = flatN n G C F' := by
  induction n with
  | zero => rfl
  | succ n ih =>
    obtain ⟨a, b⟩ := h n (by omega)
    rw [flatN_succ, flatN_succ, ih fun j hj => h j (by omega), a, b]

/-- What stands behind the store of a mark into the arity of operation j. -/
theorem OwnsOps.setArity {w : World} {lo hi n c g j : Nat} {G C : Nat → Nat} {F : Nat → OpD} (x : Int) (h : OwnsOps w lo hi (.slice (some ⟨g, 0, none⟩) n c) n G C F) (hj : j < n) :
    (w.setCell ⟨g, j * 2, none⟩ (.int .i64 x)).cell? ⟨g, j * 2 + 1, none⟩ = some (.slice (some ⟨G j, 0, none⟩) (F j).2.length (C j)) ∧
    (w.setCell ⟨g, j * 2, none⟩ (.int .i64 x)).ownsRow lo 3 1 (.slice (some ⟨G j, 0, none⟩) (F j).2.length (C j)) (F j).2.length ((F j).2.map (Value.int .i64)) := by
  have hst := h.row.stored (j * 2) (.int .i64 x)
  refine ⟨?_, (h.tab j hj).kept hst.2 (.inr ?_)⟩
  · rw [hst.1.cellAt (j * 2 + 1) (by omega), flatN_set0 (F' := upd F j (x, (F j).2)) hj x (upd_same _ _ _) (fun i hi => upd_other hi)]
    have := (flatN_get (G := G) (C := C) (F := upd F j (x, (F j).2)) hj).2
    rw [upd_same] at this
    exact this
  · intro e
    exact row_ne h.row (h.tab j hj) (by decide) (show some g = some (G j) from e.symm)

theorem OwnsOps.markStep {w w2 : World} {lo hi n c g j : Nat} {G C : Nat → Nat} {F : Nat → OpD} {x : Int} {ys : List Int} (h : OwnsOps w lo hi (.slice (some ⟨g, 0, none⟩) n c) n G C F) (hj : j < n)
    (hg : (w.setCell ⟨g, j * 2, none⟩ (.int .i64 x)).grownBy w2 (some (G j))) (hy : ys.length = (F j).2.length)
    (ht : w2.ownsRow lo 3 1 (.slice (some ⟨G j, 0, none⟩) (F j).2.length (C j)) (F j).2.length (ys.map (Value.int .i64))) :
    OwnsOps w2 lo hi (.slice (some ⟨g, 0, none⟩) n c) n G C (upd F j (x, ys)) := by
  have hst := h.row.stored (j * 2) (.int .i64 x)
  have hgj : ∀ i, i < n → G i ≠ g := fun i hi e => row_ne h.row (h.tab i hi) (by decide) (show some g = some (G i) by rw [e])
  refine ⟨?_, h.rowlt, fun i hi => ?_, h.lt, h.inj⟩
  · have h1 := hst.1
    rw [flatN_set0 (F' := upd F j (x, (F j).2)) hj x (upd_same _ _ _) (fun i hi => upd_other hi), flatN_congrL (F' := upd F j (x, ys)) fun i hi => by
      by_cases hij : i = j
      · subst hij; rw [upd_same, upd_same]; exact ⟨rfl, hy.symm⟩
      · rw [upd_other hij, upd_other hij]; exact ⟨rfl, rfl⟩] at h1
    exact h1.kept hg (.inr (by
      intro e
      exact hgj j hj (by simpa [Value.ownBlock] using e.symm)))
  · by_cases hij : i = j
    · subst hij; rw [upd_same]
      show w2.ownsRow lo 3 1 (.slice (some ⟨G i, 0, none⟩) ys.length (C i)) ys.length (ys.map (Value.int .i64))
      rw [hy]; exact ht
    · rw [upd_other hij]
      have h1 := (h.tab i hi).kept hst.2 (.inr (by intro e; exact hgj i hi (by simpa [Value.ownBlock] using e)))
      exact h1.kept hg (.inr (by
        intro e
        have : G i = G j := by simpa [Value.ownBlock] using e
        exact hij (h.inj i j hi hj this)))

/-- How many marks stand ahead of operation j. -/
def preLen (F : Nat → OpD) : Nat → Nat
  | 0 => 0
  | j + 1 => preLen F j + 1 + (F j).2.length
theorem preLen_mono (F : Nat → OpD) {i j : Nat} (h : i ≤ j) : preLen F i ≤ preLen F j := by
  induction j with
  | zero => obtain rfl : i = 0 := by omega
            exact Nat.le_refl _
  | succ j ih =>
    by_cases hij : i = j + 1
    · subst hij; exact Nat.le_refl _
    · have := ih (by omega)
      simp only [preLen]; omega
theorem preLen_ge (F : Nat → OpD) (n : Nat) : n ≤ preLen F n := by
  induction n with
  | zero => exact Nat.le_refl _
  | succ n ih => simp only [preLen]; omega
def markF (k : Int) (F : Nat → OpD) : Nat → OpD := fun j => (k + (preLen F j : Int), upFrom (k + (preLen F j : Int) + 1) (F j).2.length)
def mixF (k : Int) (F : Nat → OpD) (j : Nat) : Nat → OpD := fun i => if i < j then markF k F i else F i
theorem mixF_zero (k : Int) (F : Nat → OpD) : mixF k F 0 = F := by funext i; simp [mixF]
theorem mixF_at (k : Int) (F : Nat → OpD) (j : Nat) : mixF k F j j = F j := by simp [mixF]
theorem mixF_step (k : Int) (F : Nat → OpD) (j : Nat) : upd (mixF k F j) j (markF k F j) = mixF k F (j + 1) := by
  funext i
  unfold upd mixF
  by_cases h : i = j
  · subst h; simp
  · by_cases h2 : i < j
    · have h3 : i < j + 1 := by omega
      simp [h, h2, h3]
    · have h3 : ¬ i < j + 1 := by omega
      simp [h, h2, h3]
theorem mixF_all (k : Int) (F : Nat → OpD) {n i : Nat} (h : i < n) : mixF k F n i = markF k F i := by simp [mixF, h]

theorem markOps_nil (ao : Option Addr) (c : Nat) (k : Int) (w : World) :
    Calls Try.prog 56 #[.slice ao 0 c, .int .i64 k] w fun e w' => e = .returned (.int .i64 k) ∧ w = w' := by
  go_enter Try.func56, Try.ntmps56
  go_wp2
  refine wp_loop_rounds 1 ?_
  rw [rounds_succ]
  go_wp2
  go_ret
  exact ⟨rfl, rfl⟩

set_option maxHeartbeats 1000000 in
theorem markOps_some (lo hi g n c : Nat) (G C : Nat → Nat) (F : Nat → OpD) (k : Int) (w : World) (hk0 : 0 ≤ k) (hk : k + (preLen F n : Int) ≤ 4611686018427387904) (h : OwnsOps w lo hi (.slice (some ⟨g, 0, none⟩) n c) n G C F) (hgh : lo ≤ g ∧ g < hi) :
    Calls Try.prog 56 #[.slice (some ⟨g, 0, none⟩) n c, .int .i64 k] w fun e w' => e = .returned (.int .i64 (k + (preLen F n : Int))) ∧ OwnsOps w' lo hi (.slice (some ⟨g, 0, none⟩) n c) n G C (markF k F) ∧ Only lo hi w w' := by
  have HO := Lib.hid h
  have hnp := preLen_ge F n
  clear h
  go_enter Try.func56, Try.ntmps56
  go_wp2
  go_loopw [1, 5] (fun kk i wr => ∃ j p : Nat, j ≤ n ∧ i = .int .i64 j ∧ kk = .int .i64 (k + (p : Int)) ∧ Hid (p = preLen F j) ∧ Hid (OwnsOps wr lo hi (.slice (some ⟨g, 0, none⟩) n c) n G C (mixF k F j)) ∧ Hid (Only lo hi w wr)) (fun _ i _ => n - (intOf i).toNat)
  case atStart => exact ⟨0, 0, Nat.zero_le _, rfl, by simp, rfl, by rw [mixF_zero]; exact HO, Only.refl _ _ _⟩
  case round =>
    obtain ⟨j, p, hj, rfl, rfl, HP, HR, HB⟩ := hrel
    by_cases hlt : j < n
    · have hst := HR.out.row.stored (j * 2) (.int .i64 (k + (p : Int)))
      have hfr := HR.out.row.frozenAt (j * 2)
      obtain ⟨u, hu⟩ : ∃ u, wr.cell? ⟨g, j * 2, none⟩ = some u := by
        rw [HR.out.row.cellAt (j * 2) (by omega)]
        have hl1 := HR.out.row.1
        exact ⟨_, List.getElem?_eq_getElem (by omega)⟩
      obtain ⟨hc1, ht1⟩ := HR.out.setArity (k + (p : Int)) hlt
      rw [mixF_at] at hc1 ht1
      have hpm := preLen_mono F (show j + 1 ≤ n by omega)
      have hpe : preLen F (j + 1) = p + 1 + (F j).2.length := by rw [preLen, HP.out]
      rw [hpe] at hpm
      obtain ⟨m, hm⟩ : ∃ m, m = (F j).2.length := ⟨_, rfl⟩
      rw [← hm] at hc1 hpm hpe
      have hcall := markInts_some lo (G j) m (C j) (k + (p : Int) + 1) (F j).2 (wr.setCell ⟨g, j * 2, none⟩ (.int .i64 (k + (p : Int)))) (by omega) (by omega) (by rw [hm]; exact ht1)
      have HCall := Lib.hid hcall
      have HM := Lib.hid hm
      have HPE := Lib.hid hpe
      have HS2 := Lib.hid hst.2
      have hlo := Lib.hid (And.intro ((HR.out.tab j hlt).lt (G j) rfl).1 (HR.out.lt j hlt))
      clear hst ht1 hm hpe hcall
      go_wp2_with fail
      refine HCall.out.mono ?_
      rintro e w2 ⟨rfl, ho2, hg2⟩
      have HN : Hid (OwnsOps w2 lo hi (.slice (some ⟨g, 0, none⟩) n c) n G C (mixF k F (j + 1))) := by
        have h3 := HR.out.markStep (x := k + (p : Int)) (ys := upFrom (k + (p : Int) + 1) m) hlt hg2 (by rw [upFrom_len, mixF_at, HM.out]) (by rw [mixF_at, ← HM.out]; exact ho2)
        have e1 : (k + (p : Int), upFrom (k + (p : Int) + 1) m) = markF k F j := by rw [markF, ← HP.out, ← HM.out]
        rw [e1, mixF_step] at h3
        exact h3
      have HB2 : Hid (Only lo hi w w2) := (HB.out.trans (Only.of_grown HS2.out (by intro q hq; cases hq; exact hgh))).trans (Only.of_grown hg2 (by intro q hq; cases hq; exact hlo.out))
      clear ho2 hg2 hc1 hfr hu
      go_wp2_with fail
      go_roundw
      case rel => exact ⟨j + 1, p + 1 + m, by omega, by go_num, by go_num, HPE.out.symm, HN, HB2⟩
      case measure => simp [intOf]; omega
    · go_wp2
      go_ret
      obtain rfl : j = n := by omega
      exact ⟨ret_int (by rw [HP.out]), HR.out.congr fun i hi => ⟨rfl, rfl, mixF_all k F hi⟩, HB.out⟩

theorem markOps_own (lo hi n c : Nat) (ao : Option Addr) (G C : Nat → Nat) (F : Nat → OpD) (k : Int) (w : World) (hk0 : 0 ≤ k) (hk : k + (preLen F n : Int) ≤ 4611686018427387904) (h : OwnsOps w lo hi (.slice ao n c) n G C F) :
    Calls Try.prog 56 #[.slice ao n c, .int .i64 k] w fun e w' => e = .returned (.int .i64 (k + (preLen F n : Int))) ∧ OwnsOps w' lo hi (.slice ao n c) n G C (markF k F) ∧ Only lo hi w w' := by
  rcases Nat.eq_zero_or_pos n with h0 | h0
  · subst h0
    refine (markOps_nil ao c k w).mono fun e w' ⟨he, hw⟩ => ?_
    subst hw
    exact ⟨by rw [he]; simp [preLen], ⟨h.row, h.rowlt, fun j hj => by omega, fun j hj => by omega, fun i j hi => by omega⟩, Only.refl _ _ _⟩
  · rcases h.row.2 with ⟨_, h1⟩ | ⟨g, cap, cur, he, hg, _⟩
    · omega
    · cases he
      exact markOps_some lo hi g n c G C F k w hk0 hk h ⟨hg, h.rowlt g rfl⟩

theorem markAlg_own (lo hi n c : Nat) (z : Int) (ao : Option Addr) (G C : Nat → Nat) (F : Nat → OpD) (k : Int) (w : World) (hk0 : 0 ≤ k) (hk : k + (preLen F n : Int) ≤ 4611686018427387904) (h : OwnsOps w lo hi (.slice ao n c) n G C F) (hh : hi ≤ w.heap.size) :
    Calls Try.prog 22 #[.agg #[.int .i64 z, .slice ao n c], .int .i64 k] w fun e w' => e = .returned (.int .i64 (k + (preLen F n : Int))) ∧ OwnsOps w' lo hi (.slice ao n c) n G C (markF k F) ∧ Only lo hi w w' := by
  have hB := (Below.refl w.heap.size w).alloc (Nat.le_refl _) (.cells #[.int .i64 z, .slice ao n c] 31)
  have hc := markOps_own lo hi n c ao G C F k _ hk0 hk (h.kept (Kept.of_below hB hh))
  have HB := Lib.hid hB
  obtain ⟨q, hq⟩ : ∃ q, q = k + (preLen F n : Int) := ⟨_, rfl⟩
  rw [← hq] at hc ⊢
  have HC := Lib.hid hc
  clear hc h hB hk hq
  go_enter Try.func22, Try.ntmps22
  go_wp2_with fail
  refine HC.out.mono ?_
  rintro e w1 ⟨rfl, h1, h2⟩
  have H1 := Lib.hid h1
  have H2 := Lib.hid h2
  clear h1 h2
  go_wp2_with fail
  go_ret
  exact ⟨rfl, H1.out, (Only.of_below HB.out).trans H2.out⟩

/-- A list of integers that the call itself made, in a block from lo on, below hi. -/
structure OwnsInts (w : World) (lo hi : Nat) (ao : Option Addr) (n c : Nat) (xs : List Int) : Prop where
  row : w.ownsRow lo 3 1 (.slice ao n c) n (xs.map (Value.int .i64))
  lt : ∀ k, (Value.slice ao n c).ownBlock = some k → k < hi
theorem OwnsInts.of_row {w : World} {lo n c : Nat} {ao : Option Addr} {xs : List Int} (h : w.ownsRow lo 3 1 (.slice ao n c) n (xs.map (Value.int .i64))) : OwnsInts w lo w.heap.size ao n c xs := ⟨h, fun k hk => (h.lt k hk).2⟩
theorem OwnsInts.kept {w w' : World} {lo hi n c : Nat} {ao : Option Addr} {xs : List Int} (h : OwnsInts w lo hi ao n c xs) (hk : Kept lo hi w w') : OwnsInts w' lo hi ao n c xs :=
  ⟨ownsRow_block h.row fun g hg => hk g (h.row.lt g hg).1 (h.lt g hg), h.lt⟩
theorem OwnsInts.view {w : World} {lo hi n c : Nat} {ao : Option Addr} {xs : List Int} (h : OwnsInts w lo hi ao n c xs) : IView w lo hi ao n xs := by
  have hl : xs.length = n := by have := h.row.1; simpa using this
  rcases h.row.2 with ⟨_, h0⟩ | ⟨g, cap, cur, he, hg, _⟩
  · exact ⟨hl, .inl h0⟩
  · cases he
    refine ⟨hl, .inr ⟨g, 0, rfl, hg, h.lt g rfl, fun j x hx => ?_⟩⟩
    have hj : j < xs.length := (List.getElem?_eq_some_iff.1 hx).1
    rw [Nat.zero_add, h.row.cellAt j (by omega), List.getElem?_map, hx]; rfl
theorem markInts_own (lo hi n c : Nat) (k : Int) (ao : Option Addr) (xs : List Int) (w : World) (hk0 : 0 ≤ k) (hk : k + (n : Int) ≤ 4611686018427387904) (h : OwnsInts w lo hi ao n c xs) :
    Calls Try.prog 23 #[.slice ao n c, .int .i64 k] w fun e w' => e = .returned (.int .i64 (k + (n : Int))) ∧ OwnsInts w' lo hi ao n c (upFrom k n) ∧ Only lo hi w w' := by
  rcases Nat.eq_zero_or_pos n with h0 | h0
  · subst h0
    refine (markInts_nil ao c k w).mono fun e w' ⟨he, hw⟩ => ?_
    subst hw
    have hx : xs = [] := List.eq_nil_of_length_eq_zero (by have := h.row.1; simpa using this)
    subst hx
    exact ⟨by rw [he]; simp, h, Only.refl _ _ _⟩
  · rcases h.row.2 with ⟨_, h1⟩ | ⟨g, cap, cur, he, hg, _⟩
    · omega
    · cases he
      refine (markInts_some lo g n c k xs w hk0 hk h.row).mono fun e w' ⟨he, ho, hg2⟩ => ⟨he, ⟨ho, h.lt⟩, Only.of_grown hg2 ?_⟩
      intro q hq
      cases hq
      exact ⟨hg, h.lt g rfl⟩

end Go.Proofs.Ytcmjkfcgekmomaa
