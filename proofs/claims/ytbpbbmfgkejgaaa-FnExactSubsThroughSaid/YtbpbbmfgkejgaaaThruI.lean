/-
  Contracts: impl.subuniversesThat with the closure of SubsThrough, impl.SubsThrough. Conditions: the bounds that each theorem names.
-/
import Derived.Test.YtbpbbmfgkejgaaaSortI
import Derived.Test.YtbpbbmfgkejgaaaSubM
import Derived.Test.YtbpbbmfgkejgaaaSetR
import Derived.Test.YtbpbbmfgkejgaaaIsAlg
import Derived.Test.YtbpbbmfgkejgaaaPushL
import Derived.Test.YtbpbbmfgkejgaaaSubI
namespace Go.Proofs.Ytbpbbmfgkejgaaa
open Go.RowKit
set_option linter.unusedVariables false
set_option linter.unusedSimpArgs false

theorem thru_any (s P : Nat) (x : Int) (w : World) (hs : s < 2 ^ 8) (hx0 : 0 ≤ x) (hx8 : x < 8) (hcp : w.cell? ⟨P, 0, none⟩ = some (.int .i64 x)) : Calls Try.prog 52 #[.int .u64 (s : Int), .pointer (some ⟨P, 0, none⟩)] w fun e w' => e = .returned (.bool (s.testBit x.toNat)) ∧ w = w' := by
  have HC := Lib.hid (has_any s x w hs hx0 hx8)
  obtain ⟨u, hu⟩ : ∃ u, s.testBit x.toNat = u := ⟨_, rfl⟩
  rw [hu] at HC ⊢
  clear hu
  go_enter Try.func52, Try.ntmps52
  go_wp2_with fail
  refine HC.out.mono ?_
  rintro e w1 ⟨rfl, rfl⟩
  go_wp2_with fail
  go_ret
  exact ⟨rfl, rfl⟩

theorem thatThrough_any (lo hi : Nat) (z : Int) (ao : Option Addr) (c n X Y : Nat) (fs : List OpD) (s : Nat) (P : Nat) (x : Int) (hx0 : 0 ≤ x) (hx8 : x < 8) (w : World) (hv : OView w lo hi ao n fs) (hhi : hi ≤ w.heap.size) (hok : algOkB z fs = true) (hs : s < 2 ^ 8) (hcp : w.cell? ⟨P, 0, none⟩ = some (.int .i64 x))
    (hX : w.cell? ⟨X, 0, none⟩ = some (.func (.func 52) #[] #[.pointer (some ⟨P, 0, none⟩)])) (hY0 : w.cell? ⟨Y, 0, none⟩ = some (.int .i64 z)) (hY1 : w.cell? ⟨Y, 1, none⟩ = some (.slice ao n c)) :
    Calls Try.prog 74 #[.int .u64 (s : Int), .pointer (some ⟨X, 0, none⟩), .pointer (some ⟨Y, 0, none⟩)] w fun e w' => e = .returned (.bool (subP z fs (fun s => s.testBit x.toNat) s)) ∧ Below w.heap.size w w' := by
  have HK := Lib.hid (thru_any s P x w hs hx0 hx8 hcp)
  have HC := Lib.hid (closed_any lo hi z ao c n fs s w hv hhi hok hs)
  unfold subP
  obtain ⟨u, hu⟩ : ∃ u, decide (stepN z fs s = s) = u := ⟨_, rfl⟩
  rw [hu] at HC ⊢
  dsimp only
  obtain ⟨v, hv2⟩ : ∃ v, s.testBit x.toNat = v := ⟨_, rfl⟩
  rw [hv2] at HK ⊢
  clear hv hok hs hu hv2
  go_enter Try.func74, Try.ntmps74
  cases v with
  | false =>
    go_wp2_with fail
    refine HK.out.mono ?_
    rintro e w1 ⟨rfl, rfl⟩
    go_wp2_with fail
    go_ret
    exact ⟨rfl, Below.refl _ _⟩
  | true =>
    go_wp2_with fail
    refine HK.out.mono ?_
    rintro e w1 ⟨rfl, rfl⟩
    go_wp2_with fail
    refine HC.out.mono ?_
    rintro e w2 ⟨rfl, b2⟩
    have HB2 := Lib.hid b2
    clear b2
    go_wp2_with fail
    go_ret
    exact ⟨rfl, HB2.out⟩

set_option maxHeartbeats 1000000 in
theorem subsThrough_any (lo hi : Nat) (z : Int) (ao : Option Addr) (c n : Nat) (fs : List OpD) (P : Nat) (x : Int) (hx0 : 0 ≤ x) (hx8 : x < 8) (w : World) (hv : OView w lo hi ao n fs) (hhi : hi ≤ w.heap.size) (hok : algOkB z fs = true) (hcp : w.cell? ⟨P, 0, none⟩ = some (.int .i64 x)) (hxz : x < z) :
    Calls Try.prog 37 #[.agg #[.int .i64 z, .slice ao n c], .func (.func 52) #[] #[.pointer (some ⟨P, 0, none⟩)]] w fun e w' =>
      ∃ (g m d : Nat) (ts : List Nat), e = .returned (.slice (some ⟨g, 0, none⟩) m d) ∧ ts.map (fun s => listK s 8) = allL (subP z fs (fun s => s.testBit x.toNat)) (2 ^ z.toNat) ∧ (∀ s, s ∈ ts → s < 2 ^ 8) ∧ m ≤ 256 ∧ w'.ownsRow w.heap.size 53 1 (.slice (some ⟨g, 0, none⟩) m d) m (ts.map setV) ∧ Below w.heap.size w w' := by
  have hmf : ∀ (fn : Fn) (first cap : Array Value) (w : World), (Instr.makeFunc fn first cap).run Try.prog w = .ok (.func fn first cap) w := fun _ _ _ _ => rfl
  obtain ⟨hz1, hz8⟩ := (algOkB_of hok).1
  have hB := below_then (below_alloc w (.cells #[.int .i64 z, .slice ao n c] 31)) (below_alloc _ (.cells #[.func (.func 52) #[] #[.pointer (some ⟨P, 0, none⟩)]] 54))
  have hne : ∃ s, s < 2 ^ z.toNat ∧ subP z fs (fun s => s.testBit x.toNat) s = true := ⟨2 ^ z.toNat - 1, by have := Nat.two_pow_pos z.toNat; omega, by simp only [subP, full_step hok (n := z.toNat) (by omega), Nat.testBit_two_pow_sub_one]; simp; omega⟩
  have hS := setsThat_any z ao c n (w.heap.size + 1) w.heap.size (subP z fs (fun s => s.testBit x.toNat)) ((w.alloc (.cells #[.int .i64 z, .slice ao n c] 31)).alloc (.cells #[.func (.func 52) #[] #[.pointer (some ⟨P, 0, none⟩)]] 54)) hz1 hz8
    (fun s W hs hW => thatThrough_any lo hi z ao c n (w.heap.size + 1) w.heap.size fs s P x hx0 hx8 W (hv.kept (Kept.of_below (hB.trans (hW.mono hB.size)) hhi)) (Nat.le_trans hhi (hB.trans (hW.mono hB.size)).size) hok hs (cell_b hW (cell_b hB (hcp)))
      (cell_b hW (by have h_ := cell_new1 (w.alloc (.cells #[.int .i64 z, .slice ao n c] 31)) (.func (.func 52) #[] #[.pointer (some ⟨P, 0, none⟩)]) 54; rw [World.size_alloc] at h_; exact h_))
      (cell_b hW (cell_b (below_alloc _ _) (by simp))) (cell_b hW (cell_b (below_alloc _ _) (by simp)))) hne
  have HS := Lib.hid hS
  have HB := Lib.hid hB
  clear hv hok hB hne hS
  go_enter Try.func37, Try.ntmps37
  go_wp2_with fail
  refine HS.out.mono ?_
  rintro e w2 ⟨g, m, d, ts, rfl, hts, hlt, hm, ho, b2⟩
  have HB2 := Lib.hid (HB.out.trans (b2.mono HB.out.size))
  have HO := Lib.hid (ownsRow_base ho HB.out.size)
  have HT := Lib.hid hts
  have HL := Lib.hid hlt
  clear b2 ho hts hlt
  go_wp2_with fail
  go_ret
  exact ⟨g, m, d, ts, rfl, HT.out, HL.out, hm, HO.out, HB2.out⟩

theorem areEls_any (lo hi : Nat) (z : Int) (ao : Option Addr) (c n : Nat) (fs : List OpD) (lo2 hi2 : Nat) (bo : Option Addr) (d m : Nat) (xs : List Int) (w : World) (hv : OView w lo hi ao n fs) (hhi : hi ≤ w.heap.size) (hs : ∀ (j : Nat) (f : OpD), fs[j]? = some f → f.2.length ≤ maxLen) (hx : IView w lo2 hi2 bo m xs) (hhi2 : hi2 ≤ w.heap.size) (hm : m ≤ maxLen) :
    Calls Try.prog 51 #[.agg #[.int .i64 z, .slice ao n c], .slice bo m d] w fun e w' => e = .returned (.bool (algOkB z fs && allIn z xs)) ∧ Below w.heap.size w w' := by
  have hB := below_alloc w (.cells #[.int .i64 z, .slice ao n c] 31)
  have HB := Lib.hid hB
  have cz : (w.alloc (.cells #[.int .i64 z, .slice ao n c] 31)).cell? ⟨w.heap.size, 0, none⟩ = some (.int .i64 z) := by simp
  have ca : (w.alloc (.cells #[.int .i64 z, .slice ao n c] 31)).cell? ⟨w.heap.size, 1, none⟩ = some (.slice ao n c) := by simp
  have hC := isAlg_any lo hi z ao c n fs _ (hv.kept (Kept.of_below hB hhi)) (Nat.le_trans hhi hB.size) hs
  have HBel := Lib.hid (fun W (hW : Below w.heap.size w W) => elems_impl lo2 hi2 z bo d m xs W (hx.kept (Kept.of_below hW hhi2)) hm)
  obtain ⟨r, hr⟩ : ∃ r, algOkB z fs = r := ⟨_, rfl⟩
  obtain ⟨u, hu⟩ : ∃ u, allIn z xs = u := ⟨_, rfl⟩
  rw [hr] at hC ⊢
  rw [hu] at HBel ⊢
  have HC := Lib.hid hC
  clear hv hs hx hB hC hr hu
  go_enter Try.func51, Try.ntmps51
  cases r with
  | false =>
    go_wp2_with fail
    refine HC.out.mono ?_
    rintro e w1 ⟨rfl, b1⟩
    have HB1 := Lib.hid (HB.out.trans (b1.mono HB.out.size))
    clear b1
    go_wp2_with fail
    go_ret
    exact ⟨rfl, HB1.out⟩
  | true =>
    go_wp2_with fail
    refine HC.out.mono ?_
    rintro e w1 ⟨rfl, b1⟩
    have HB1 := Lib.hid (HB.out.trans (b1.mono HB.out.size))
    have cz1 := cell_b b1 cz
    have ca1 := cell_b b1 ca
    clear b1 cz ca
    go_wp2_with fail
    refine (HBel.out _ HB1.out).mono ?_
    rintro e w2 ⟨rfl, rfl⟩
    go_wp2_with fail
    go_ret
    exact ⟨rfl, HB1.out⟩

theorem in_one (z x : Int) : allIn z [x] = inB 0 (z - 1) x := by
  unfold inB
  by_cases h : 0 ≤ x ∧ x < z
  · have h2 : 0 ≤ x ∧ x ≤ z - 1 := by omega
    simp [allIn, h, h2]
  · have h2 : ¬ (0 ≤ x ∧ x ≤ z - 1) := by omega
    rw [decide_eq_false h2]
    simp only [allIn, List.all_cons, List.all_nil, Bool.and_true]
    exact decide_eq_false h
theorem one_view {W : World} {b : Nat} {x : Int} (h : W.cell? ⟨b, 0, none⟩ = some (.int .i64 x)) (hb : b < W.heap.size) : IView W b W.heap.size (some ⟨b, 0, none⟩) 1 [x] := by
  refine ⟨rfl, .inr ⟨b, 0, rfl, Nat.le_refl _, hb, fun j y hj => ?_⟩⟩
  match j, hj with
  | 0, hj => simp at hj; subst hj; exact h
theorem smallSubsThrough (z : Int) (fs : List OpD) (x : Int) : (valSubsThrough z fs x).1.length + lsum (valSubsThrough z fs x).1 ≤ 4194304 := by
  unfold valSubsThrough
  cases h : algOkB z fs with
  | false => simp [lsum]
  | true =>
    cases h2 : inB 0 (z - 1) x with
    | false => simp [lsum]
    | true => exact subs_small (algOkB_of h).1.2

set_option maxHeartbeats 1000000 in
theorem implSubsThrough (lo hi : Nat) (z : Int) (ao : Option Addr) (c n : Nat) (fs : List OpD) (x : Int) (w : World) (hv : OView w lo hi ao n fs) (hhi : hi ≤ w.heap.size) (hs : ∀ (j : Nat) (f : OpD), fs[j]? = some f → f.2.length ≤ maxLen) (hx : (Lit.int .i64 x).wf = true) :
    Calls Try.prog 23 #[.agg #[.int .i64 z, .slice ao n c], .int .i64 x] w fun e w' => ResS w w' (valSubsThrough z fs x).1 (valSubsThrough z fs x).2 e := by
  have hmf : ∀ (fn : Fn) (first cap : Array Value) (w : World), (Instr.makeFunc fn first cap).run Try.prog w = .ok (.func fn first cap) w := fun _ _ _ _ => rfl
  have hB : Below w.heap.size w (((w.alloc (.cells #[.int .i64 z, .slice ao n c] 31)).alloc (.cells #[.int .i64 x] 3)).alloc (.cells #[.int .i64 x] 3)) := below_then (below_then (below_alloc _ _) (below_alloc _ _)) (below_alloc _ _)
  have HB := Lib.hid hB
  have HV := Lib.hid hv
  have cz : (((w.alloc (.cells #[.int .i64 z, .slice ao n c] 31)).alloc (.cells #[.int .i64 x] 3)).alloc (.cells #[.int .i64 x] 3)).cell? ⟨w.heap.size, 0, none⟩ = some (.int .i64 z) := cell_b (below_alloc _ _) (cell_b (below_alloc _ _) (by simp))
  have ca : (((w.alloc (.cells #[.int .i64 z, .slice ao n c] 31)).alloc (.cells #[.int .i64 x] 3)).alloc (.cells #[.int .i64 x] 3)).cell? ⟨w.heap.size, 1, none⟩ = some (.slice ao n c) := cell_b (below_alloc _ _) (cell_b (below_alloc _ _) (by simp))
  have cx : (((w.alloc (.cells #[.int .i64 z, .slice ao n c] 31)).alloc (.cells #[.int .i64 x] 3)).alloc (.cells #[.int .i64 x] 3)).cell? ⟨w.heap.size + 1, 0, none⟩ = some (.int .i64 x) := by
    refine cell_b (below_alloc _ _) ?_
    have h_ := cell_new1 (w.alloc (.cells #[.int .i64 z, .slice ao n c] 31)) (.int .i64 x) 3
    rw [World.size_alloc] at h_
    exact h_
  have hv1 : IView (((w.alloc (.cells #[.int .i64 z, .slice ao n c] 31)).alloc (.cells #[.int .i64 x] 3)).alloc (.cells #[.int .i64 x] 3)) (w.heap.size + 1 + 1) (((w.alloc (.cells #[.int .i64 z, .slice ao n c] 31)).alloc (.cells #[.int .i64 x] 3)).alloc (.cells #[.int .i64 x] 3)).heap.size (some ⟨w.heap.size + 1 + 1, 0, none⟩) 1 [x] := by
    refine one_view ?_ (by simp only [World.size_alloc]; omega)
    have h_ := cell_new1 ((w.alloc (.cells #[.int .i64 z, .slice ao n c] 31)).alloc (.cells #[.int .i64 x] 3)) (.int .i64 x) 3
    rw [World.size_alloc, World.size_alloc] at h_
    exact h_
  have HA := Lib.hid (fun cc => areEls_any lo hi z ao c n fs _ _ (some ⟨w.heap.size + 1 + 1, 0, none⟩) cc 1 [x] _ (hv.kept (Kept.of_below hB hhi)) (Nat.le_trans hhi hB.size) hs hv1 (Nat.le_refl _) (by unfold maxLen; omega))
  rw [in_one] at HA
  obtain ⟨r, hr⟩ : ∃ r, (algOkB z fs && inB 0 (z - 1) x) = r := ⟨_, rfl⟩
  rw [hr] at HA
  have HRr := Lib.hid hr
  unfold ResS valSubsThrough
  rw [hr]
  cases r with
  | false =>
    clear hv hs hB hr hv1
    go_enter Try.func23, Try.ntmps23
    go_wp2_with fail
    refine (HA.out _).mono ?_
    rintro e w1 ⟨rfl, b1⟩
    have HB1 := Lib.hid (HB.out.trans (b1.mono HB.out.size))
    clear b1
    go_wp2_with fail
    go_ret2
    obtain ⟨G, C, h_⟩ := BuiltL.nil w1 w.heap.size (fun j => ([] : List (List Int)).getD j [])
    exact ⟨none, 0, 0, rfl, rfl, ⟨G, C, h_⟩, HB1.out⟩
  | true =>
    obtain ⟨hok, hin⟩ := (Bool.and_eq_true _ _ |>.mp hr)
    have hin2 : 0 ≤ x ∧ x ≤ z - 1 := of_decide_eq_true hin
    have hz8 := (algOkB_of hok).1.2
    have HOk := Lib.hid hok
    have HX := Lib.hid hin2
    have HZ := Lib.hid hz8
    clear hv hs hB hr hv1 hok hin hin2 hz8
    go_enter Try.func23, Try.ntmps23
    go_wp2_with fail
    refine (HA.out _).mono ?_
    rintro e w1 ⟨rfl, b1⟩
    have HB1 := Lib.hid (HB.out.trans (b1.mono HB.out.size))
    have cz1 := cell_b b1 cz
    have ca1 := cell_b b1 ca
    have cx1 := cell_b b1 cx
    have HS := Lib.hid (subsThrough_any lo hi z ao c n fs (w.heap.size + 1) x HX.out.1 (by have := HX.out.2; have := HZ.out; omega) w1 (HV.out.kept (Kept.of_below HB1.out hhi)) (Nat.le_trans hhi HB1.out.size) HOk.out cx1 (by have := HX.out.2; omega))
    clear b1 cz ca cx
    go_wp2_with fail
    refine HS.out.mono ?_
    rintro e w3 ⟨g, m, d, ts, rfl, hts, hlt, hm, ho, b3⟩
    have HB3 := Lib.hid (HB1.out.trans (b3.mono HB1.out.size))
    have HLi := Lib.hid (listsOf_any _ g m d ts w3 ho (by omega) hlt)
    have HT := Lib.hid hts
    have HM : Hid (m = (allL (subP z fs fun s => s.testBit x.toNat) (2 ^ z.toNat)).length) := by
      unfold Hid
      rw [← hts, List.length_map]
      have h_ := ho.1
      simpa using h_.symm
    clear b3 ho hts hlt
    go_wp2_with fail
    refine HLi.out.mono ?_
    rintro e w4 ⟨a4, c4, rfl, hbu, b4⟩
    have HB4 := Lib.hid (HB3.out.trans (b4.mono HB3.out.size))
    obtain ⟨G, C, hL⟩ := hbu
    have HL := Lib.hid (hL.lo_mono HB3.out.size)
    clear b4 hL
    go_wp2_with fail
    go_ret2
    exact ⟨a4, m, c4, rfl, HM.out, ⟨G, C, by have h_ := HL.out; rw [HT.out] at h_; exact h_⟩, HB4.out⟩


end Go.Proofs.Ytbpbbmfgkejgaaa
