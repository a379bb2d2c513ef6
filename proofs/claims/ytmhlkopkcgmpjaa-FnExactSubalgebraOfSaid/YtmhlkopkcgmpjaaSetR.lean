/-
  Contracts: impl.isClosed, impl.roundsFrom and impl.generatedBy. Conditions: the bounds that each theorem names.
-/
import Derived.Test.YtmhlkopkcgmpjaaSetV
namespace Go.Proofs.Ytmhlkopkcgmpjaa
open Go.RowKit
set_option linter.unusedVariables false
set_option linter.unusedSimpArgs false

theorem closed_any (lo hi : Nat) (z : Int) (ao : Option Addr) (c n : Nat) (fs : List OpD) (s : Nat) (w : World) (hv : OView w lo hi ao n fs) (hhi : hi ≤ w.heap.size) (hok : algOkB z fs = true) (hs : s < 2 ^ 8) :
    Calls Try.prog 90 #[.agg #[.int .i64 z, .slice ao n c], .int .u64 (s : Int)] w fun e w' => e = .returned (.bool (decide (stepN z fs s = s))) ∧ Below w.heap.size w w' := by
  have hB := below_alloc w (.cells #[.int .i64 z, .slice ao n c] 31)
  have HC := Lib.hid (within_any lo hi z ao c n fs s _ (hv.kept (Kept.of_below hB hhi)) (Nat.le_trans hhi hB.size) hok hs)
  have hlt := valO_lt (s := s) (n := 8) hok (algOkB_of hok).1.2 fs.length (Nat.le_refl _)
  have HB := Lib.hid hB
  have HE : Hid (decide (diffN (valO s z fs fs.length) s = 0) = decide (stepN z fs s = s)) := by
    unfold Hid
    have h := isIn_step (n := 8) (s := s) hok (algOkB_of hok).1.2 (Nat.le_refl _)
    by_cases h1 : diffN (valO s z fs fs.length) s = 0
    · rw [decide_eq_true h1, decide_eq_true (h.1 h1)]
    · rw [decide_eq_false h1, decide_eq_false fun h2 => h1 (h.2 h2)]
  have HI := Lib.hid (fun w => isIn_any (valO s z fs fs.length) s w hlt hs)
  clear hv hok hB hlt
  go_enter Try.func90, Try.ntmps90
  go_wp2_with fail
  refine HC.out.mono ?_
  rintro e w1 ⟨rfl, b1⟩
  have HB1 := Lib.hid (below_then HB.out b1)
  clear b1
  go_wp2_with fail
  refine (HI.out _).mono ?_
  rintro e w2 ⟨rfl, rfl⟩
  go_wp2_with fail
  go_ret
  exact ⟨ret_bool HE.out, HB1.out⟩

/-- The rounds: first the set, then what each round adds. -/
def rndL (z : Int) (fs : List OpD) (s : Nat) : Nat → List Nat
  | 0 => [s]
  | k + 1 => rndL z fs s k ++ [diffN (valO (stepK z fs s k) z fs fs.length) (stepK z fs s k)]
theorem rndL_len (z : Int) (fs : List OpD) (s k : Nat) : (rndL z fs s k).length = k + 1 := by
  induction k with
  | zero => rfl
  | succ k ih => simp [rndL, ih]
def orL (ss : List Nat) : Nat := ss.foldl (fun a b => a ||| b) 0
theorem orL_succ {ss : List Nat} {k x : Nat} (hx : ss[k]? = some x) : orL (ss.take (k + 1)) = orL (ss.take k) ||| x := by
  unfold orL
  rw [List.take_add_one, hx, Option.toList_some, List.foldl_append]; rfl
theorem orL_snoc (ss : List Nat) (x : Nat) : orL (ss ++ [x]) = orL ss ||| x := by simp [orL, List.foldl_append]
theorem rnd_next {z : Int} {fs : List OpD} {s : Nat} (hok : algOkB z fs = true) (hs : s < 2 ^ 8) (k : Nat) : stepK z fs s k ||| diffN (valO (stepK z fs s k) z fs fs.length) (stepK z fs s k) = stepK z fs s (k + 1) :=
  or_diff (valO_lt (n := 8) hok (algOkB_of hok).1.2 _ (Nat.le_refl _))
theorem rnd_or {z : Int} {fs : List OpD} {s : Nat} (hok : algOkB z fs = true) (hs : s < 2 ^ 8) (k : Nat) : orL (rndL z fs s k) = stepK z fs s k := by
  induction k with
  | zero => simp [rndL, orL, stepK]
  | succ k ih => rw [rndL, orL_snoc, ih, rnd_next hok hs]
theorem rnd_lt {z : Int} {fs : List OpD} {s n : Nat} (hok : algOkB z fs = true) (hz : z ≤ (n : Int)) (hn : n ≤ 8) (hs : s < 2 ^ n) (k : Nat) : ∀ x, x ∈ rndL z fs s k → x < 2 ^ n := by
  induction k with
  | zero => intro x hx; simp [rndL] at hx; omega
  | succ k ih =>
    intro x hx
    rw [rndL, List.mem_append, List.mem_singleton] at hx
    rcases hx with hx | rfl
    · exact ih x hx
    · exact diffN_lt (valO_lt hok hz _ (Nat.le_refl _)) hn
/-- The least number of rounds behind which nothing is added. -/
def LastR (z : Int) (fs : List OpD) (s k : Nat) : Prop := stepN z fs (stepK z fs s k) = stepK z fs s k ∧ ∀ j, j < k → stepN z fs (stepK z fs s j) ≠ stepK z fs s j
theorem LastR.uniq {z : Int} {fs : List OpD} {s k j : Nat} (h : LastR z fs s k) (h2 : LastR z fs s j) : k = j := by
  rcases Nat.lt_trichotomy k j with h3 | h3 | h3
  · exact absurd h.1 (h2.2 k h3)
  · exact h3
  · exact absurd h2.1 (h.2 j h3)

theorem setV_eq (s : Nat) : setV s = .int .u64 (s : Int) := rfl

set_option maxHeartbeats 2000000 in
theorem rounds_any (lo hi : Nat) (z : Int) (ao : Option Addr) (c n : Nat) (fs : List OpD) (s : Nat) (w : World) (hv : OView w lo hi ao n fs) (hhi : hi ≤ w.heap.size) (hok : algOkB z fs = true) (hs : s < 2 ^ 8) :
    Calls Try.prog 62 #[.agg #[.int .i64 z, .slice ao n c], .int .u64 (s : Int)] w fun e w' => ∃ K g d, e = .returned (.slice (some ⟨g, 0, none⟩) (K + 1) d) ∧ LastR z fs s K ∧ K ≤ 8 ∧ w'.ownsRow w.heap.size 58 1 (.slice (some ⟨g, 0, none⟩) (K + 1) d) (K + 1) ((rndL z fs s K).map setV) ∧ Below w.heap.size w w' := by
  obtain ⟨i0, hi0, hz0, hz1, hz2⟩ := info_parts Try.infoSet
  have HV := Lib.hid hv
  have HS := Lib.hid hs
  have HOk := Lib.hid hok
  have HW := Lib.hid (fun W (hB : Below w.heap.size w W) k => within_any lo hi z ao c n fs (stepK z fs s k) W (hv.kept (Kept.of_below hB hhi)) (Nat.le_trans hhi hB.size) hok (stepK_lt (n := 8) hok (algOkB_of hok).1.2 hs k))
  have HLt := Lib.hid (fun k => stepK_lt (n := 8) hok (algOkB_of hok).1.2 hs k)
  have HB := Lib.hid ((below_alloc w (.cells #[.int .i64 z, .slice ao n c] 31)).alloc (by have := (below_alloc w (.cells #[.int .i64 z, .slice ao n c] 31)).size; exact this) (.cells #[.int .u64 (s : Int)] 58))
  have HO0 : Hid (((w.alloc (.cells #[.int .i64 z, .slice ao n c] 31)).alloc (.cells #[.int .u64 (s : Int)] 58)).ownsRow w.heap.size 58 1 (.slice (some ⟨w.heap.size + 1, 0, none⟩) 1 1) 1 ((rndL z fs s 0).map setV)) := by
    have h_ := World.ownsRow_lit (base := w.heap.size) (e := 58) (size := 1) (w.alloc (.cells #[.int .i64 z, .slice ao n c] 31)) #[.int .u64 (s : Int)] 1 (by simp) (by decide) rfl
    simp only [World.size_alloc] at h_
    exact h_
  clear hv hs hok
  go_enter Try.func62, Try.ntmps62
  go_wp2
  go_loopw [5, 6] (fun v p wr => ∃ (k m g d : Nat), k ≤ 8 ∧ v = .slice (some ⟨g, 0, none⟩) (k + 1) d ∧ p = .int .u64 (m : Int) ∧ Hid (m = stepK z fs s k) ∧ Hid (∀ j, j < k → stepN z fs (stepK z fs s j) ≠ stepK z fs s j) ∧ wr.cell? ⟨w.heap.size, 0, none⟩ = some (.int .i64 z) ∧ wr.cell? ⟨w.heap.size, 1, none⟩ = some (.slice ao n c) ∧ Hid (w.heap.size < g) ∧ Hid (wr.ownsRow w.heap.size 58 1 (.slice (some ⟨g, 0, none⟩) (k + 1) d) (k + 1) ((rndL z fs s k).map setV)) ∧ Hid (Below w.heap.size w wr)) (fun v _ _ => 9 - (match v with | .slice _ q _ => q | _ => 0))
  case atStart => exact ⟨0, s, _, _, by omega, rfl, rfl, rfl, fun j hj => absurd hj (by omega), by simp, by simp, by unfold Hid; omega, HO0, HB⟩
  case round =>
    obtain ⟨k, m, g, d, hk, rfl, rfl, HM, HNot, cz, ca, HG, HR, HBr⟩ := hrel
    have hne : Value.slice (some (⟨g, 0, none⟩ : Addr)) (k + 1) d ≠ .slice none 0 0 := by intro h_; cases h_
    have hWi := HW.out _ HBr.out k
    have hml := HLt.out k
    rw [← HM.out] at hWi hml
    obtain ⟨V, hV⟩ : ∃ V, valO m z fs fs.length = V := ⟨_, rfl⟩
    have hVl : V < 2 ^ 8 := by rw [← hV]; exact valO_lt (n := 8) HOk.out (algOkB_of HOk.out).1.2 _ (Nat.le_refl _)
    rw [hV] at hWi
    obtain ⟨D, hD⟩ : ∃ D, diffN V m = D := ⟨_, rfl⟩
    have hd : bits .andNot .u64 (V : Int) (m : Int) = (D : Int) := by rw [bits_not_set hVl, hD]
    have hDl : D < 2 ^ 8 := by rw [← hD]; exact diffN_lt hVl (Nat.le_refl _)
    have hz_ : D = 0 ↔ stepN z fs m = m := by rw [← hD, ← hV]; exact isIn_step (n := 8) HOk.out (algOkB_of HOk.out).1.2 (Nat.le_refl _)
    have hor : m ||| D = stepK z fs s (k + 1) := by
      rw [← hD, ← hV, HM.out]; exact rnd_next HOk.out HS.out k
    have HNx : Hid (rndL z fs s (k + 1) = rndL z fs s k ++ [D]) := by
      unfold Hid; rw [rndL, ← HM.out, hV, hD]
    have HOr := Lib.hid hor
    have HWi := Lib.hid hWi
    have HZ := Lib.hid hz_
    have HDl := Lib.hid hDl
    have HMl := Lib.hid hml
    clear hWi hor hz_ hV hD hVl
    by_cases h0 : D = 0
    · subst h0
      have hd0 : bits .andNot .u64 (V : Int) (m : Int) = 0 := hd
      clear hd
      go_wp2_with fail
      refine HWi.out.mono ?_
      rintro e w1 ⟨rfl, b1⟩
      have HB1 := Lib.hid (HBr.out.trans (b1.mono HBr.out.size))
      have HR1 := Lib.hid (HR.out.kept (grown_of_below b1 none) (own_em _))
      clear b1
      go_wp2_with fail
      go_ret
      exact ⟨k, g, d, rfl, ⟨by rw [← HM.out]; exact HZ.out.1 trivial, HNot.out⟩, hk, HR1.out, HB1.out⟩
    · have hnot : stepN z fs m ≠ m := fun h_ => h0 (HZ.out.2 h_)
      have hD0 : ((D : Int) == 0) = false := by simp [h0]
      have hor2 : bits .or .u64 (m : Int) (D : Int) = ((m ||| D : Nat) : Int) := bits_or_set HMl.out HDl.out
      have hk8 : k < 8 := stepK_bound (n := 8) HOk.out (algOkB_of HOk.out).1.2 HS.out (by rw [← HM.out]; exact hnot)
      have HNot2 : Hid (∀ j, j < k + 1 → stepN z fs (stepK z fs s j) ≠ stepK z fs s j) := fun j hj => by
        by_cases hjk : j = k
        · rw [hjk, ← HM.out]; exact hnot
        · exact HNot.out j (by omega)
      clear h0 hnot
      go_wp2_with fail
      refine HWi.out.mono ?_
      rintro e w1 ⟨rfl, b1⟩
      have HB1 := Lib.hid (HBr.out.trans (b1.mono HBr.out.size))
      have HR1 := Lib.hid (HR.out.kept (grown_of_below b1 none) (own_em _))
      have cz1 := cell_b b1 cz
      have ca1 := cell_b b1 ca
      clear b1 cz ca
      go_wp2_with (at_builtin; refine wpList_append_own_at _ rfl _ _ 71 rfl w.heap.size 58 i0 (.int .u64 0) 1 8 Try.underlying71 hi0 hz0 hz1 hz2 rfl (by decide) (.slice (some ⟨g, 0, none⟩) (k + 1) d) (k + 1) ((rndL z fs s k).map setV) rfl (HR1.out.alloc _) ⟨w1.heap.size, 0, none⟩ 1 1 [.int .u64 (D : Int)] rfl rfl (cell_one_new _ _ _) (fun x hx => by simp at hx; subst hx; rfl) (by unfold maxLen; omega) (by omega) (by have := HB1.out.size; simp; omega) ?_; intro v' w3 hown' hgrow' hnil' hat')
      obtain ⟨g3, cap, rfl⟩ := ownsRow_succ hown'
      have hg3 : Hid (w.heap.size < g3) := by
        have h1_ := HB1.out.size
        have h2_ := HG.out
        unfold Hid
        rcases hat' with h_ | h_
        · have : g3 = g := by simpa [Value.ownBlock] using h_
          omega
        · have : g3 = w1.heap.size + 1 := by simpa [Value.ownBlock] using h_
          omega
      have hcl : ∀ j v, w1.cell? ⟨w.heap.size, j, none⟩ = some v → w3.cell? ⟨w.heap.size, j, none⟩ = some v := fun j v hv_ => by
        have hlt := World.block_lt_of_cell? w1 _ hv_
        exact (World.cell?_of_block (hgrow'.block _ (by simp at hlt ⊢; omega) (by intro h_; have h2_ := HG.out; simp [Value.ownBlock] at h_; omega))).trans (cell_b (below_alloc _ _) hv_)
      have cz3 := hcl 0 _ cz1
      have ca3 := hcl 1 _ ca1
      have HB3 := Lib.hid ((HB1.out.alloc HB1.out.size (.cells #[.int .u64 (D : Int)] 58)).grown hgrow' (by have := HB1.out.size; simp; omega) (fun q hq => (HR1.out.lt q hq).1))
      have HO3 : Hid (w3.ownsRow w.heap.size 58 1 (.slice (some ⟨g3, 0, none⟩) (k + 1 + 1) cap) (k + 1 + 1) ((rndL z fs s (k + 1)).map setV)) := by
        unfold Hid
        rw [HNx.out, List.map_append]
        exact hown'
      clear hown' hgrow' hnil' hat' hcl cz1 ca1
      go_wp2_with fail
      go_roundw
      case rel => exact ⟨k + 1, m ||| D, g3, cap, by omega, rfl, rfl, HOr.out, HNot2, cz3, ca3, hg3, HO3, HB3⟩
      case measure => simp; omega

theorem generated_any (lo hi : Nat) (z : Int) (ao : Option Addr) (c n : Nat) (fs : List OpD) (s : Nat) (w : World) (hv : OView w lo hi ao n fs) (hhi : hi ≤ w.heap.size) (hok : algOkB z fs = true) (hs : s < 2 ^ z.toNat) :
    Calls Try.prog 55 #[.agg #[.int .i64 z, .slice ao n c], .int .u64 (s : Int)] w fun e w' => e = .returned (.int .u64 (closeN z fs s : Int)) ∧ Below w.heap.size w w' := by
  have hs8 : s < 2 ^ 8 := lt_mono hs (by have := (algOkB_of hok).1; omega)
  have hB := below_alloc w (.cells #[.int .i64 z, .slice ao n c] 31)
  have HC := Lib.hid (rounds_any lo hi z ao c n fs s _ (hv.kept (Kept.of_below hB hhi)) (Nat.le_trans hhi hB.size) hok hs8)
  have HB := Lib.hid hB
  have HOk := Lib.hid hok
  have HS := Lib.hid hs
  have HS8 := Lib.hid hs8
  clear hv hB hok hs hs8
  go_enter Try.func55, Try.ntmps55
  go_wp2_with fail
  refine HC.out.mono ?_
  rintro e w1 ⟨K, g, d, rfl, hlast, hK8, ho, b1⟩
  have HB1 := Lib.hid (below_then HB.out b1)
  have HRow := Lib.hid ho
  have HRes : Hid (orL (rndL z fs s K) = closeN z fs s) := (rnd_or HOk.out HS8.out K).trans (closeN_of HOk.out HS.out hlast.1)
  have HRl := Lib.hid (rnd_lt (n := 8) HOk.out (algOkB_of HOk.out).1.2 (Nat.le_refl _) HS8.out K)
  have HLen := Lib.hid (rndL_len z fs s K)
  obtain ⟨ss, hss⟩ : ∃ ss, rndL z fs s K = ss := ⟨_, rfl⟩
  rw [hss] at HRow HRes HRl HLen
  clear b1 ho hlast hss
  go_wp2_with fail
  go_loop [5, 12] (fun p i => ∃ (j u : Nat), j ≤ K + 1 ∧ i = .int .i64 (j : Int) ∧ p = .int .u64 (u : Int) ∧ Hid (u = orL (ss.take j)) ∧ Hid (u < 2 ^ 8)) (fun _ i => K + 1 - (intOf i).toNat)
  case atStart => exact ⟨0, 0, Nat.zero_le _, rfl, rfl, rfl, by unfold Hid; decide⟩
  case round =>
    obtain ⟨j, u, hj, rfl, rfl, HU, HUl⟩ := hrel
    by_cases hlt : j < K + 1
    · obtain ⟨x, hx⟩ := get_of_lt HLen.out hlt
      have hcell : w1.cell? ⟨g, j, none⟩ = some (.int .u64 (x : Int)) := by
        rw [HRow.out.cellAt j (by omega), List.getElem?_map, hx]; rfl
      have hor2 : bits .or .u64 (u : Int) (x : Int) = ((u ||| x : Nat) : Int) := bits_or_set HUl.out (HRl.out x (List.mem_of_getElem? hx))
      have HX := Lib.hid hx
      have hjn : (j : Int) < (K : Int) + 1 := by omega
      clear hx
      go_wp2_with fail
      go_round
      case rel => exact ⟨j + 1, u ||| x, by omega, by go_num, rfl, by unfold Hid; rw [orL_succ HX.out, HU.out], or_lt HUl.out (HRl.out x (List.mem_of_getElem? HX.out))⟩
      case measure => simp [intOf]; omega
    · go_wp2_with fail
      go_ret
      exact ⟨ret_set (by rw [HU.out, List.take_of_length_le (by have := HLen.out; omega), HRes.out]), HB1.out⟩

end Go.Proofs.Ytmhlkopkcgmpjaa
