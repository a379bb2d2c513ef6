/-
  Contracts: both GenerateSub and both IsGenerating. Conditions: the bounds that each theorem names.
-/
import Derived.Test.YtmhlkopkcgmpjaaSome
import Derived.Test.YtmhlkopkcgmpjaaSetR
import Derived.Test.YtmhlkopkcgmpjaaCloseC
import Derived.Test.YtmhlkopkcgmpjaaSmL
import Derived.Deep.RegionHeld3
namespace Go.Proofs.Ytmhlkopkcgmpjaa
open Go.RowKit
set_option linter.unusedVariables false
set_option linter.unusedSimpArgs false

def valGenerateSub (z : Int) (fs : List OpD) (xs : List Int) : List Int × Bool := if someB z fs xs then (listK (closeN z fs (setN xs)) 8, true) else ([], false)
theorem val_gen_no {z : Int} {fs : List OpD} {xs : List Int} (h : someB z fs xs = false) : valGenerateSub z fs xs = ([], false) := by simp [valGenerateSub, h]
theorem val_gen_yes {z : Int} {fs : List OpD} {xs : List Int} (h : someB z fs xs = true) : valGenerateSub z fs xs = (listK (closeN z fs (setN xs)) 8, true) := by simp [valGenerateSub, h]
theorem smallGenerateSub (z : Int) (fs : List OpD) (xs : List Int) : (valGenerateSub z fs xs).1.length ≤ 4194304 := by
  unfold valGenerateSub
  split
  · have := listK_le (closeN z fs (setN xs)) 8; simp only; omega
  · simp
def valIsGenerating (z : Int) (fs : List OpD) (xs : List Int) : Bool × Bool := (someB z fs xs && decide (closeN z fs (setN xs) = 2 ^ z.toNat - 1), someB z fs xs)
theorem val_isg_no {z : Int} {fs : List OpD} {xs : List Int} (h : someB z fs xs = false) : valIsGenerating z fs xs = (false, false) := by simp [valIsGenerating, h]
theorem val_isg_yes {z : Int} {fs : List OpD} {xs : List Int} (h : someB z fs xs = true) : valIsGenerating z fs xs = (decide (closeN z fs (setN xs) = 2 ^ z.toNat - 1), true) := by simp [valIsGenerating, h]

theorem nat_beq (a b : Nat) : ((a : Int) == (b : Int)) = decide (a = b) := by
  by_cases h : a = b
  · simp [h]
  · have h2 : ¬ (a : Int) = (b : Int) := by omega
    rw [decide_eq_false h, beq_eq_false_iff_ne]; exact h2
theorem ret_two {a b : Bool} (h : a = b) : Ending.returned (.tuple #[.bool a, .bool true]) = .returned (.tuple #[.bool b, .bool true]) := by rw [h]
theorem full_bit (n k : Nat) : (2 ^ n - 1).testBit k = decide (k < n) := Nat.testBit_two_pow_sub_one n k
theorem full_lt (n : Nat) : 2 ^ n - 1 < 2 ^ n := by have := Nat.two_pow_pos n; omega
theorem listK_full_len (n : Nat) : ∀ k, k ≤ n → (listK (2 ^ n - 1) k).length = k := by
  intro k
  induction k with
  | zero => intro _; rfl
  | succ k ih =>
    intro hk
    rw [listK_yes (by rw [full_bit]; exact decide_eq_true (by omega)), List.length_append, ih (by omega)]; rfl
theorem full_iff {s n : Nat} (hs : s < 2 ^ n) : (listK s n).length = n ↔ s = 2 ^ n - 1 := by
  constructor
  · intro h
    apply Classical.byContradiction
    intro hne
    have h1 := listK_lt_len (s := s) (t := 2 ^ n - 1) n hs (full_lt n) (fun k hk => by
      rw [full_bit]
      refine decide_eq_true ?_
      rcases Nat.lt_or_ge k n with h2 | h2
      · exact h2
      · rw [bit_of_lt hs h2] at hk; cases hk) hne
    rw [listK_full_len n n (Nat.le_refl _)] at h1
    omega
  · rintro rfl; exact listK_full_len n n (Nat.le_refl _)

set_option maxHeartbeats 1000000 in
theorem implGenerateSub (lo hi : Nat) (z : Int) (ao : Option Addr) (c n : Nat) (fs : List OpD) (lo2 hi2 : Nat) (bo : Option Addr) (d m : Nat) (xs : List Int) (w : World) (hv : OView w lo hi ao n fs) (hhi : hi ≤ w.heap.size) (hs : ∀ (j : Nat) (f : OpD), fs[j]? = some f → f.2.length ≤ maxLen)
    (hx : IView w lo2 hi2 bo m xs) (hhi2 : hi2 ≤ w.heap.size) (hm : m ≤ maxLen) :
    Calls Try.prog 21 #[.agg #[.int .i64 z, .slice ao n c], .slice bo m d] w fun e w' => ResL w w' (valGenerateSub z fs xs).1 (valGenerateSub z fs xs).2 e := by
  have hB := below_alloc w (.cells #[.int .i64 z, .slice ao n c] 31)
  have HB := Lib.hid hB
  have HX := Lib.hid hx
  have HV := Lib.hid hv
  have hC := someEl_any lo hi lo2 hi2 z ao bo c n d m fs xs _ (hv.kept (Kept.of_below hB hhi)) (Nat.le_trans hhi hB.size) hs (hx.kept (Kept.of_below hB hhi2)) (Nat.le_trans hhi2 hB.size) hm
  obtain ⟨r, hr⟩ : ∃ r, someB z fs xs = r := ⟨_, rfl⟩
  rw [hr] at hC
  have HC := Lib.hid hC
  have cz : (w.alloc (.cells #[.int .i64 z, .slice ao n c] 31)).cell? ⟨w.heap.size, 0, none⟩ = some (.int .i64 z) := by simp
  have ca : (w.alloc (.cells #[.int .i64 z, .slice ao n c] 31)).cell? ⟨w.heap.size, 1, none⟩ = some (.slice ao n c) := by simp
  unfold ResL
  cases r with
  | false =>
    rw [val_gen_no hr]
    go_enter Try.func21, Try.ntmps21
    go_wp2_with fail
    refine HC.out.mono ?_
    rintro e w1 ⟨rfl, b1⟩
    have HB1 := Lib.hid (below_then HB.out b1)
    have cz1 := cell_b b1 cz
    have ca1 := cell_b b1 ca
    have HV1 := Lib.hid (HV.out.kept (Kept.of_below HB1.out hhi))
    have HX1 := Lib.hid (HX.out.kept (Kept.of_below HB1.out hhi2))
    have hs1 := HB1.out.size
    clear hv hs hx hB hC hr b1 cz ca
    go_wp2_with fail
    go_ret2
    exact ⟨none, 0, 0, rfl, rfl, OwnsInts.none_ _ _ _, HB1.out⟩
  | true =>
    rw [val_gen_yes hr]
    obtain ⟨hok, hl20, ha⟩ := someB_of hr
    obtain ⟨hz1, hz2⟩ := alg_dom hok
    have HOk := Lib.hid hok
    have HA := Lib.hid ha
    have hsz : setN xs < 2 ^ z.toNat := setN_lt ha (by omega)
    have HSz := Lib.hid hsz
    have HCl8 := Lib.hid (closeN_lt (n := 8) hok hz2 (lt_mono hsz (by omega)))
    go_enter Try.func21, Try.ntmps21
    go_wp2_with fail
    refine HC.out.mono ?_
    rintro e w1 ⟨rfl, b1⟩
    have HB1 := Lib.hid (below_then HB.out b1)
    have cz1 := cell_b b1 cz
    have ca1 := cell_b b1 ca
    have HV1 := Lib.hid (HV.out.kept (Kept.of_below HB1.out hhi))
    have HX1 := Lib.hid (HX.out.kept (Kept.of_below HB1.out hhi2))
    have hs1 := HB1.out.size
    have HG := Lib.hid (generated_any lo hi z ao c n fs (setN xs) w1 HV1.out (Nat.le_trans hhi hs1) HOk.out HSz.out)
    simp only [if_true] 
    clear hv hs hx hB hC hr b1 cz ca
    go_wp2_with fail
    refine HG.out.mono ?_
    rintro e w2 ⟨rfl, b2⟩
    have HB2 := Lib.hid (HB1.out.trans (b2.mono HB1.out.size))
    have HLi := Lib.hid (list_any (closeN z fs (setN xs)) w2 HCl8.out)
    clear b2
    go_wp2_with fail
    refine HLi.out.mono ?_
    rintro e w3 ⟨a3, m3, d3, rfl, hm3, ho3, b3⟩
    have HB3 := Lib.hid (HB2.out.trans (b3.mono HB2.out.size))
    have HO3 := Lib.hid (ownsRow_base ho3 HB2.out.size)
    have HM3 := Lib.hid hm3
    clear b3 ho3 hm3
    go_wp2_with fail
    go_ret2
    exact ⟨a3, m3, d3, rfl, HM3.out, OwnsInts.of_row HO3.out, HB3.out⟩

set_option maxHeartbeats 1000000 in
theorem specGenerateSub (lo hi : Nat) (z : Int) (ao : Option Addr) (c n : Nat) (fs : List OpD) (lo2 hi2 : Nat) (bo : Option Addr) (d m : Nat) (xs : List Int) (w : World) (hv : OView w lo hi ao n fs) (hhi : hi ≤ w.heap.size) (hs : ∀ (j : Nat) (f : OpD), fs[j]? = some f → f.2.length ≤ maxLen)
    (hx : IView w lo2 hi2 bo m xs) (hhi2 : hi2 ≤ w.heap.size) (hm : m ≤ maxLen) :
    Calls Try.prog 20 #[.agg #[.int .i64 z, .slice ao n c], .slice bo m d] w fun e w' => ResL w w' (valGenerateSub z fs xs).1 (valGenerateSub z fs xs).2 e := by
  have hB := below_alloc w (.cells #[.int .i64 z, .slice ao n c] 31)
  have HB := Lib.hid hB
  have HX := Lib.hid hx
  have HV := Lib.hid hv
  have hC := l5Some_any lo hi lo2 hi2 z ao bo c n d m fs xs _ (hv.kept (Kept.of_below hB hhi)) (Nat.le_trans hhi hB.size) hs (hx.kept (Kept.of_below hB hhi2)) (Nat.le_trans hhi2 hB.size) hm
  obtain ⟨r, hr⟩ : ∃ r, someB z fs xs = r := ⟨_, rfl⟩
  rw [hr] at hC
  have HC := Lib.hid hC
  have cz : (w.alloc (.cells #[.int .i64 z, .slice ao n c] 31)).cell? ⟨w.heap.size, 0, none⟩ = some (.int .i64 z) := by simp
  have ca : (w.alloc (.cells #[.int .i64 z, .slice ao n c] 31)).cell? ⟨w.heap.size, 1, none⟩ = some (.slice ao n c) := by simp
  unfold ResL
  cases r with
  | false =>
    rw [val_gen_no hr]
    go_enter Try.func20, Try.ntmps20
    go_wp2_with fail
    refine HC.out.mono ?_
    rintro e w1 ⟨rfl, b1⟩
    have HB1 := Lib.hid (below_then HB.out b1)
    have cz1 := cell_b b1 cz
    have ca1 := cell_b b1 ca
    have HV1 := Lib.hid (HV.out.kept (Kept.of_below HB1.out hhi))
    have HX1 := Lib.hid (HX.out.kept (Kept.of_below HB1.out hhi2))
    have hs1 := HB1.out.size
    clear hv hs hx hB hC hr b1 cz ca
    go_wp2_with fail
    go_ret2
    exact ⟨_, 0, 0, rfl, rfl, own_nil_res HB1.out, HB1.out.alloc HB1.out.size _⟩
  | true =>
    rw [val_gen_yes hr]
    obtain ⟨hok, hl20, ha⟩ := someB_of hr
    obtain ⟨hz1, hz2⟩ := alg_dom hok
    have HOk := Lib.hid hok
    have HA := Lib.hid ha
    have hsz : setN xs < 2 ^ z.toNat := setN_lt ha (by omega)
    have HSz := Lib.hid hsz
    have HCl8 := Lib.hid (closeN_lt (n := 8) hok hz2 (lt_mono hsz (by omega)))
    go_enter Try.func20, Try.ntmps20
    go_wp2_with fail
    refine HC.out.mono ?_
    rintro e w1 ⟨rfl, b1⟩
    have HB1 := Lib.hid (below_then HB.out b1)
    have cz1 := cell_b b1 cz
    have ca1 := cell_b b1 ca
    have HV1 := Lib.hid (HV.out.kept (Kept.of_below HB1.out hhi))
    have HX1 := Lib.hid (HX.out.kept (Kept.of_below HB1.out hhi2))
    have hs1 := HB1.out.size
    have HG := Lib.hid (l5Close_any lo hi lo2 hi2 z ao bo c n d m fs xs w1 HV1.out (Nat.le_trans hhi hs1) HOk.out HX1.out (Nat.le_trans hhi2 hs1) hm HA.out)
    clear hv hs hx hB hC hr b1 cz ca
    go_wp2_with fail
    refine HG.out.mono ?_
    rintro e w3 ⟨a3, m3, d3, rfl, hm3, ho3, b3⟩
    have HB3 := Lib.hid (HB1.out.trans (b3.mono HB1.out.size))
    have HO3 := Lib.hid (ownsRow_base ho3 HB1.out.size)
    have HM3 := Lib.hid hm3
    clear b3 ho3 hm3
    go_wp2_with fail
    go_ret2
    exact ⟨a3, m3, d3, rfl, HM3.out, OwnsInts.of_row HO3.out, HB3.out⟩

theorem all_val {z : Int} (h1 : 1 ≤ z) (h2 : z ≤ 8) : IntKind.u64.wrap (IntKind.u64.wrap (2 ^ z.toNat) - 1) = ((2 ^ z.toNat - 1 : Nat) : Int) := by
  have h : z = 1 ∨ z = 2 ∨ z = 3 ∨ z = 4 ∨ z = 5 ∨ z = 6 ∨ z = 7 ∨ z = 8 := by omega
  rcases h with rfl | rfl | rfl | rfl | rfl | rfl | rfl | rfl <;> decide
theorem allEl_any (n : Int) (w : World) (h1 : 1 ≤ n) (h8 : n ≤ 8) :
    Calls Try.prog 68 #[.int .i64 n] w fun e w' => e = .returned (.int .u64 ((2 ^ n.toNat - 1 : Nat) : Int)) ∧ w = w' := by
  have h : n = 1 ∨ n = 2 ∨ n = 3 ∨ n = 4 ∨ n = 5 ∨ n = 6 ∨ n = 7 ∨ n = 8 := by omega
  rcases h with rfl | rfl | rfl | rfl | rfl | rfl | rfl | rfl
  · go_enter Try.func68, Try.ntmps68
    go_wp2
    go_ret
    exact ⟨rfl, rfl⟩
  · go_enter Try.func68, Try.ntmps68
    go_wp2
    go_ret
    exact ⟨rfl, rfl⟩
  · go_enter Try.func68, Try.ntmps68
    go_wp2
    go_ret
    exact ⟨rfl, rfl⟩
  · go_enter Try.func68, Try.ntmps68
    go_wp2
    go_ret
    exact ⟨rfl, rfl⟩
  · go_enter Try.func68, Try.ntmps68
    go_wp2
    go_ret
    exact ⟨rfl, rfl⟩
  · go_enter Try.func68, Try.ntmps68
    go_wp2
    go_ret
    exact ⟨rfl, rfl⟩
  · go_enter Try.func68, Try.ntmps68
    go_wp2
    go_ret
    exact ⟨rfl, rfl⟩
  · go_enter Try.func68, Try.ntmps68
    go_wp2
    go_ret
    exact ⟨rfl, rfl⟩

set_option maxRecDepth 100000 in
set_option maxHeartbeats 2000000 in
theorem implIsGenerating (lo hi : Nat) (z : Int) (ao : Option Addr) (c n : Nat) (fs : List OpD) (lo2 hi2 : Nat) (bo : Option Addr) (d m : Nat) (xs : List Int) (w : World) (hv : OView w lo hi ao n fs) (hhi : hi ≤ w.heap.size) (hs : ∀ (j : Nat) (f : OpD), fs[j]? = some f → f.2.length ≤ maxLen)
    (hx : IView w lo2 hi2 bo m xs) (hhi2 : hi2 ≤ w.heap.size) (hm : m ≤ maxLen) :
    Calls Try.prog 38 #[.agg #[.int .i64 z, .slice ao n c], .slice bo m d] w fun e w' => e = .returned (.tuple #[.bool (valIsGenerating z fs xs).1, .bool (valIsGenerating z fs xs).2]) ∧ Below w.heap.size w w' := by
  have hB := below_alloc w (.cells #[.int .i64 z, .slice ao n c] 31)
  have HB := Lib.hid hB
  have HX := Lib.hid hx
  have HV := Lib.hid hv
  have hC := someEl_any lo hi lo2 hi2 z ao bo c n d m fs xs _ (hv.kept (Kept.of_below hB hhi)) (Nat.le_trans hhi hB.size) hs (hx.kept (Kept.of_below hB hhi2)) (Nat.le_trans hhi2 hB.size) hm
  obtain ⟨r, hr⟩ : ∃ r, someB z fs xs = r := ⟨_, rfl⟩
  rw [hr] at hC
  have HC := Lib.hid hC
  have cz : (w.alloc (.cells #[.int .i64 z, .slice ao n c] 31)).cell? ⟨w.heap.size, 0, none⟩ = some (.int .i64 z) := by simp
  have ca : (w.alloc (.cells #[.int .i64 z, .slice ao n c] 31)).cell? ⟨w.heap.size, 1, none⟩ = some (.slice ao n c) := by simp
  cases r with
  | false =>
    rw [val_isg_no hr]
    go_enter Try.func38, Try.ntmps38
    go_wp2_with fail
    refine HC.out.mono ?_
    rintro e w1 ⟨rfl, b1⟩
    have HB1 := Lib.hid (below_then HB.out b1)
    have cz1 := cell_b b1 cz
    have ca1 := cell_b b1 ca
    have HV1 := Lib.hid (HV.out.kept (Kept.of_below HB1.out hhi))
    have HX1 := Lib.hid (HX.out.kept (Kept.of_below HB1.out hhi2))
    have hs1 := HB1.out.size
    clear hv hs hx hB hC hr b1 cz ca
    go_wp2_with fail
    go_ret2
    exact ⟨rfl, HB1.out⟩
  | true =>
    rw [val_isg_yes hr]
    obtain ⟨hok, hl20, ha⟩ := someB_of hr
    obtain ⟨hz1, hz2⟩ := alg_dom hok
    have HOk := Lib.hid hok
    have HA := Lib.hid ha
    have hsz : setN xs < 2 ^ z.toNat := setN_lt ha (by omega)
    have HSz := Lib.hid hsz
    have HCl8 := Lib.hid (closeN_lt (n := 8) hok hz2 (lt_mono hsz (by omega)))
    go_enter Try.func38, Try.ntmps38
    go_wp2_with fail
    refine HC.out.mono ?_
    rintro e w1 ⟨rfl, b1⟩
    have HB1 := Lib.hid (below_then HB.out b1)
    have cz1 := cell_b b1 cz
    have ca1 := cell_b b1 ca
    have HV1 := Lib.hid (HV.out.kept (Kept.of_below HB1.out hhi))
    have HX1 := Lib.hid (HX.out.kept (Kept.of_below HB1.out hhi2))
    have hs1 := HB1.out.size
    have HG := Lib.hid (fun W (hb : Below w1.heap.size w1 W) => generated_any lo hi z ao c n fs (setN xs) W (HV1.out.kept (Kept.of_below hb (Nat.le_trans hhi hs1))) (Nat.le_trans (Nat.le_trans hhi hs1) hb.size) HOk.out HSz.out)
    have HAl := Lib.hid (fun W => allEl_any z W hz1 hz2)
    simp only [if_true]
    clear hv hs hx hB hC hr b1 cz ca
    go_wp2_with fail
    refine wp_region_noPanic ?_
    refine wp_region_held_drew (S := fun W => W.cell? ⟨w.heap.size, 0, none⟩ = some (.int .i64 z) ∧ W.cell? ⟨w.heap.size, 1, none⟩ = some (.slice ao n c)) (by kernel_rfl) ?_ (fun hHeld => ?_)
    · exact ⟨cz1, ca1⟩
    refine wpAnyH_take (i := 0) (oi := ⟨_, _, _, _, _, _⟩) (v := ?_) rfl (by kernel_rfl) (by kernel_rfl) (by kernel_rfl) (fun _ _ _ h => h) (Or.inl ⟨rfl, ?_⟩) (by assumption) ?_
    rotate_left 1
    · intro w_ hSw; (try dsimp only at hSw); go_simp; (try with_reducible rfl)
    (try simp only [Act.put, List.setIfInBounds_toArray, List.set_cons_zero, List.set_cons_succ])
    refine wpAnyH_take (i := 1) (oi := ⟨_, _, _, _, _, _⟩) (v := ?_) rfl (by kernel_rfl) (by kernel_rfl) (by kernel_rfl) (fun _ _ _ h => h) (Or.inl ⟨rfl, ?_⟩) (by assumption) ?_
    rotate_left 1
    · intro w_ hSw; (try dsimp only at hSw); go_simp; (try with_reducible rfl)
    (try simp only [Act.put, List.setIfInBounds_toArray, List.set_cons_zero, List.set_cons_succ])
    refine wpAnyH_take (i := 3) (oi := ⟨_, _, _, _, _, _⟩) (v := ?_) rfl (by kernel_rfl) (by kernel_rfl) (by kernel_rfl) (fun _ _ _ h => h) (Or.inl ⟨rfl, ?_⟩) (by assumption) ?_
    rotate_left 1
    · intro w_ hSw; (try dsimp only at hSw); go_simp; (try with_reducible rfl)
    (try simp only [Act.put, List.setIfInBounds_toArray, List.set_cons_zero, List.set_cons_succ])
    refine wpAnyH_take (i := 4) (oi := ⟨_, _, _, _, _, _⟩) (v := ?_) rfl (by kernel_rfl) (by kernel_rfl) (by kernel_rfl) (fun _ _ _ h => h) (Or.inl ⟨rfl, ?_⟩) (by assumption) ?_
    rotate_left 1
    · intro w_ hSw; (try dsimp only at hSw); go_simp; (try with_reducible rfl)
    (try simp only [Act.put, List.setIfInBounds_toArray, List.set_cons_zero, List.set_cons_succ])
    refine wpAnyH_ready (rs := [2]) (by kernel_rfl) (by simp) ?_
    refine AllReadyH.cons (o := ⟨_, _, _, _, _, _⟩) rfl (fun K hK => ?_) AllReadyH.nil
    go_simp
    go_at_call 55
    refine (HG.out _ (below_drew w1)).mono ?_
    rintro e w2 ⟨rfl, b2⟩
    have bD := below_then (below_drew w1) b2
    have HB2 := Lib.hid (HB1.out.trans (bD.mono HB1.out.size))
    have cz2 := cell_b bD cz1
    have ca2 := cell_b bD ca1
    clear b2 bD
    go_wp2_with fail
    refine hK.out _ _ ?_ (fun hHeld => ?_)
    · exact ⟨cz2, ca2⟩
    clear hK K
    (try simp only [Act.put, List.setIfInBounds_toArray, List.set_cons_zero, List.set_cons_succ])
    refine wpAnyH_ready (rs := [5]) (by kernel_rfl) (by simp) ?_
    refine AllReadyH.cons (o := ⟨_, _, _, _, _, _⟩) rfl (fun K hK => ?_) AllReadyH.nil
    go_simp
    go_at_call 68
    refine (HAl.out _).mono ?_
    rintro e w3 ⟨rfl, rfl⟩
    go_wp2_with fail
    refine hK.out _ _ ?_ (fun hHeld => ?_)
    · exact ⟨cz2, ca2⟩
    clear hK K
    (try simp only [Act.put, List.setIfInBounds_toArray, List.set_cons_zero, List.set_cons_succ])
    refine wpAnyH_take (i := 6) (oi := ⟨_, _, _, _, _, _⟩) (v := ?_) rfl (by kernel_rfl) (by kernel_rfl) (by kernel_rfl) (fun _ _ _ h => h) (Or.inl ⟨rfl, ?_⟩) (by assumption) ?_
    rotate_left 1
    · intro w_ hSw; (try dsimp only at hSw); go_simp; (try with_reducible rfl)
    (try simp only [Act.put, List.setIfInBounds_toArray, List.set_cons_zero, List.set_cons_succ])
    refine wpAnyH_take (i := 7) (oi := ⟨_, _, _, _, _, _⟩) (v := ?_) rfl (by kernel_rfl) (by kernel_rfl) (by kernel_rfl) (fun _ _ _ h => h) (Or.inl ⟨rfl, ?_⟩) (by assumption) ?_
    rotate_left 1
    · intro w_ hSw; (try dsimp only at hSw); go_simp; (try with_reducible rfl)
    (try simp only [Act.put, List.setIfInBounds_toArray, List.set_cons_zero, List.set_cons_succ])
    refine wpAnyH_take (i := 8) (oi := ⟨_, _, _, _, _, _⟩) (v := ?_) rfl (by kernel_rfl) (by kernel_rfl) (by kernel_rfl) (fun _ _ _ h => h) (Or.inl ⟨rfl, ?_⟩) (by assumption) ?_
    rotate_left 1
    · intro w_ hSw; (try dsimp only at hSw); go_simp; (try with_reducible rfl)
    (try simp only [Act.put, List.setIfInBounds_toArray, List.set_cons_zero, List.set_cons_succ])
    refine wpAnyH_done (by kernel_rfl) ?_ _
    refine NoPanic.normal ?_
    go_wp2_with fail
    go_ret2
    exact ⟨ret_two (nat_beq _ _), HB2.out⟩

set_option maxRecDepth 100000 in
set_option maxHeartbeats 2000000 in
theorem specIsGenerating (lo hi : Nat) (z : Int) (ao : Option Addr) (c n : Nat) (fs : List OpD) (lo2 hi2 : Nat) (bo : Option Addr) (d m : Nat) (xs : List Int) (w : World) (hv : OView w lo hi ao n fs) (hhi : hi ≤ w.heap.size) (hs : ∀ (j : Nat) (f : OpD), fs[j]? = some f → f.2.length ≤ maxLen)
    (hx : IView w lo2 hi2 bo m xs) (hhi2 : hi2 ≤ w.heap.size) (hm : m ≤ maxLen) :
    Calls Try.prog 37 #[.agg #[.int .i64 z, .slice ao n c], .slice bo m d] w fun e w' => e = .returned (.tuple #[.bool (valIsGenerating z fs xs).1, .bool (valIsGenerating z fs xs).2]) ∧ Below w.heap.size w w' := by
  have hB := below_alloc w (.cells #[.int .i64 z, .slice ao n c] 31)
  have HB := Lib.hid hB
  have HX := Lib.hid hx
  have HV := Lib.hid hv
  have hC := l5Some_any lo hi lo2 hi2 z ao bo c n d m fs xs _ (hv.kept (Kept.of_below hB hhi)) (Nat.le_trans hhi hB.size) hs (hx.kept (Kept.of_below hB hhi2)) (Nat.le_trans hhi2 hB.size) hm
  obtain ⟨r, hr⟩ : ∃ r, someB z fs xs = r := ⟨_, rfl⟩
  rw [hr] at hC
  have HC := Lib.hid hC
  have cz : (w.alloc (.cells #[.int .i64 z, .slice ao n c] 31)).cell? ⟨w.heap.size, 0, none⟩ = some (.int .i64 z) := by simp
  have ca : (w.alloc (.cells #[.int .i64 z, .slice ao n c] 31)).cell? ⟨w.heap.size, 1, none⟩ = some (.slice ao n c) := by simp
  cases r with
  | false =>
    rw [val_isg_no hr]
    go_enter Try.func37, Try.ntmps37
    go_wp2_with fail
    refine HC.out.mono ?_
    rintro e w1 ⟨rfl, b1⟩
    have HB1 := Lib.hid (below_then HB.out b1)
    have cz1 := cell_b b1 cz
    have ca1 := cell_b b1 ca
    have HV1 := Lib.hid (HV.out.kept (Kept.of_below HB1.out hhi))
    have HX1 := Lib.hid (HX.out.kept (Kept.of_below HB1.out hhi2))
    have hs1 := HB1.out.size
    clear hv hs hx hB hC hr b1 cz ca
    go_wp2_with fail
    go_ret2
    exact ⟨rfl, HB1.out⟩
  | true =>
    rw [val_isg_yes hr]
    obtain ⟨hok, hl20, ha⟩ := someB_of hr
    obtain ⟨hz1, hz2⟩ := alg_dom hok
    have HOk := Lib.hid hok
    have HA := Lib.hid ha
    have hsz : setN xs < 2 ^ z.toNat := setN_lt ha (by omega)
    have HSz := Lib.hid hsz
    have HCl8 := Lib.hid (closeN_lt (n := 8) hok hz2 (lt_mono hsz (by omega)))
    have HF : Hid (∀ k : Nat, k = (listK (closeN z fs (setN xs)) 8).length → ((k : Int) == z) = decide (closeN z fs (setN xs) = 2 ^ z.toNat - 1)) := by
      intro k hk
      have h_ := closeN_lt (n := z.toNat) hok (by omega) hsz
      rw [listK_more h_ (by omega)] at hk
      have h2_ := full_iff h_
      rw [← hk] at h2_
      by_cases h3_ : k = z.toNat
      · rw [decide_eq_true (h2_.1 h3_)]; simp; omega
      · rw [decide_eq_false fun h4_ => h3_ (h2_.2 h4_)]; simp; omega
    go_enter Try.func37, Try.ntmps37
    go_wp2_with fail
    refine HC.out.mono ?_
    rintro e w1 ⟨rfl, b1⟩
    have HB1 := Lib.hid (below_then HB.out b1)
    have cz1 := cell_b b1 cz
    have ca1 := cell_b b1 ca
    have HV1 := Lib.hid (HV.out.kept (Kept.of_below HB1.out hhi))
    have HX1 := Lib.hid (HX.out.kept (Kept.of_below HB1.out hhi2))
    have hs1 := HB1.out.size
    have HG := Lib.hid (fun W (hb : Below w1.heap.size w1 W) => l5Close_any lo hi lo2 hi2 z ao bo c n d m fs xs W (HV1.out.kept (Kept.of_below hb (Nat.le_trans hhi hs1))) (Nat.le_trans (Nat.le_trans hhi hs1) hb.size) HOk.out (HX1.out.kept (Kept.of_below hb (Nat.le_trans hhi2 hs1))) (Nat.le_trans (Nat.le_trans hhi2 hs1) hb.size) hm HA.out)
    clear hv hs hx hB hC hr b1 cz ca
    go_wp2_with fail
    refine wp_region_noPanic ?_
    refine wp_region_held_drew (S := fun W => W.cell? ⟨w.heap.size, 0, none⟩ = some (.int .i64 z) ∧ W.cell? ⟨w.heap.size, 1, none⟩ = some (.slice ao n c)) (by kernel_rfl) ?_ (fun hHeld => ?_)
    · exact ⟨cz1, ca1⟩
    refine wpAnyH_take (i := 0) (oi := ⟨_, _, _, _, _, _⟩) (v := ?_) rfl (by kernel_rfl) (by kernel_rfl) (by kernel_rfl) (fun _ _ _ h => h) (Or.inl ⟨rfl, ?_⟩) (by assumption) ?_
    rotate_left 1
    · intro w_ hSw; (try dsimp only at hSw); go_simp; (try with_reducible rfl)
    (try simp only [Act.put, List.setIfInBounds_toArray, List.set_cons_zero, List.set_cons_succ])
    refine wpAnyH_take (i := 1) (oi := ⟨_, _, _, _, _, _⟩) (v := ?_) rfl (by kernel_rfl) (by kernel_rfl) (by kernel_rfl) (fun _ _ _ h => h) (Or.inl ⟨rfl, ?_⟩) (by assumption) ?_
    rotate_left 1
    · intro w_ hSw; (try dsimp only at hSw); go_simp; (try with_reducible rfl)
    (try simp only [Act.put, List.setIfInBounds_toArray, List.set_cons_zero, List.set_cons_succ])
    refine wpAnyH_take (i := 4) (oi := ⟨_, _, _, _, _, _⟩) (v := ?_) rfl (by kernel_rfl) (by kernel_rfl) (by kernel_rfl) (fun _ _ _ h => h) (Or.inl ⟨rfl, ?_⟩) (by assumption) ?_
    rotate_left 1
    · intro w_ hSw; (try dsimp only at hSw); go_simp; (try with_reducible rfl)
    (try simp only [Act.put, List.setIfInBounds_toArray, List.set_cons_zero, List.set_cons_succ])
    refine wpAnyH_take (i := 5) (oi := ⟨_, _, _, _, _, _⟩) (v := ?_) rfl (by kernel_rfl) (by kernel_rfl) (by kernel_rfl) (fun _ _ _ h => h) (Or.inl ⟨rfl, ?_⟩) (by assumption) ?_
    rotate_left 1
    · intro w_ hSw; (try dsimp only at hSw); go_simp; (try with_reducible rfl)
    (try simp only [Act.put, List.setIfInBounds_toArray, List.set_cons_zero, List.set_cons_succ])
    refine wpAnyH_ready (rs := [2]) (by kernel_rfl) (by simp) ?_
    refine AllReadyH.cons (o := ⟨_, _, _, _, _, _⟩) rfl (fun K hK => ?_) AllReadyH.nil
    go_simp
    go_at_call 53
    refine (HG.out _ (below_drew w1)).mono ?_
    rintro e w2 ⟨a2, m2, d2, rfl, hm2, ho2, b2⟩
    have bD := below_then (below_drew w1) b2
    have HB2 := Lib.hid (HB1.out.trans (bD.mono HB1.out.size))
    have cz2 := cell_b bD cz1
    have ca2 := cell_b bD ca1
    have HM2 := Lib.hid hm2
    clear b2 bD ho2 hm2
    go_wp2_with fail
    refine hK.out _ _ ?_ (fun hHeld => ?_)
    · exact ⟨cz2, ca2⟩
    clear hK K
    (try simp only [Act.put, List.setIfInBounds_toArray, List.set_cons_zero, List.set_cons_succ])
    refine wpAnyH_take (i := 3) (oi := ⟨_, _, _, _, _, _⟩) (v := ?_) rfl (by kernel_rfl) (by kernel_rfl) (by kernel_rfl) (fun _ _ _ h => h) (Or.inl ⟨rfl, ?_⟩) (by assumption) ?_
    rotate_left 1
    · intro w_ hSw; (try dsimp only at hSw); go_simp; (try with_reducible rfl)
    (try simp only [Act.put, List.setIfInBounds_toArray, List.set_cons_zero, List.set_cons_succ])
    refine wpAnyH_take (i := 6) (oi := ⟨_, _, _, _, _, _⟩) (v := ?_) rfl (by kernel_rfl) (by kernel_rfl) (by kernel_rfl) (fun _ _ _ h => h) (Or.inl ⟨rfl, ?_⟩) (by assumption) ?_
    rotate_left 1
    · intro w_ hSw; (try dsimp only at hSw); go_simp; (try with_reducible rfl)
    (try simp only [Act.put, List.setIfInBounds_toArray, List.set_cons_zero, List.set_cons_succ])
    refine wpAnyH_take (i := 7) (oi := ⟨_, _, _, _, _, _⟩) (v := ?_) rfl (by kernel_rfl) (by kernel_rfl) (by kernel_rfl) (fun _ _ _ h => h) (Or.inl ⟨rfl, ?_⟩) (by assumption) ?_
    rotate_left 1
    · intro w_ hSw; (try dsimp only at hSw); go_simp; (try with_reducible rfl)
    (try simp only [Act.put, List.setIfInBounds_toArray, List.set_cons_zero, List.set_cons_succ])
    refine wpAnyH_take (i := 8) (oi := ⟨_, _, _, _, _, _⟩) (v := ?_) rfl (by kernel_rfl) (by kernel_rfl) (by kernel_rfl) (fun _ _ _ h => h) (Or.inl ⟨rfl, ?_⟩) (by assumption) ?_
    rotate_left 1
    · intro w_ hSw; (try dsimp only at hSw); go_simp; (try with_reducible rfl)
    (try simp only [Act.put, List.setIfInBounds_toArray, List.set_cons_zero, List.set_cons_succ])
    refine wpAnyH_done (by kernel_rfl) ?_ _
    refine NoPanic.normal ?_
    go_wp2_with fail
    go_ret2
    exact ⟨ret_two (HF.out m2 HM2.out), HB2.out⟩

end Go.Proofs.Ytmhlkopkcgmpjaa
