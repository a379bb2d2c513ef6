/-
  Contracts: impl.subuniversesThat with the closure of AllSubuniverses, impl.AllSubuniverses. Conditions: the bounds that each theorem names.
-/
import Derived.Test.YtbpbbmfgkejgaaaSortI
import Derived.Test.YtbpbbmfgkejgaaaSubM
import Derived.Test.YtbpbbmfgkejgaaaSetR
import Derived.Test.YtbpbbmfgkejgaaaIsAlg
import Derived.Test.YtbpbbmfgkejgaaaPushL
namespace Go.Proofs.Ytbpbbmfgkejgaaa
open Go.RowKit
set_option linter.unusedVariables false
set_option linter.unusedSimpArgs false

theorem cell_new1 (W : World) (v : Value) (T : TypeId) : (W.alloc (.cells #[v] T)).cell? ⟨W.heap.size, 0, none⟩ = some v := by simp

theorem yes_any (s : Nat) (w : World) : Calls Try.prog 38 #[.int .u64 (s : Int)] w fun e w' => e = .returned (.bool true) ∧ w = w' := by
  go_enter Try.func38, Try.ntmps38
  go_wp2
  go_ret
  exact ⟨rfl, rfl⟩

theorem thatAll_any (lo hi : Nat) (z : Int) (ao : Option Addr) (c n X Y : Nat) (fs : List OpD) (s : Nat) (w : World) (hv : OView w lo hi ao n fs) (hhi : hi ≤ w.heap.size) (hok : algOkB z fs = true) (hs : s < 2 ^ 8)
    (hX : w.cell? ⟨X, 0, none⟩ = some (.func (.func 38) #[] #[])) (hY0 : w.cell? ⟨Y, 0, none⟩ = some (.int .i64 z)) (hY1 : w.cell? ⟨Y, 1, none⟩ = some (.slice ao n c)) :
    Calls Try.prog 74 #[.int .u64 (s : Int), .pointer (some ⟨X, 0, none⟩), .pointer (some ⟨Y, 0, none⟩)] w fun e w' => e = .returned (.bool (subP z fs (fun _ => true) s)) ∧ Below w.heap.size w w' := by
  have HK := Lib.hid (yes_any s w)
  have HC := Lib.hid (closed_any lo hi z ao c n fs s w hv hhi hok hs)
  unfold subP
  obtain ⟨u, hu⟩ : ∃ u, decide (stepN z fs s = s) = u := ⟨_, rfl⟩
  rw [hu] at HC ⊢
  clear hv hok hs hu
  go_enter Try.func74, Try.ntmps74
  go_wp2_with fail
  refine HK.out.mono ?_
  rintro e w1 ⟨rfl, rfl⟩
  go_wp2_with fail
  refine HC.out.mono ?_
  rintro e w2 ⟨rfl, b2⟩
  have HB2 := Lib.hid b2
  clear b2
  go_wp2_with fail
  go_ret
  exact ⟨rfl, HB2.out⟩

set_option maxHeartbeats 1000000 in
theorem subsAll_any (lo hi : Nat) (z : Int) (ao : Option Addr) (c n : Nat) (fs : List OpD) (w : World) (hv : OView w lo hi ao n fs) (hhi : hi ≤ w.heap.size) (hok : algOkB z fs = true) :
    Calls Try.prog 37 #[.agg #[.int .i64 z, .slice ao n c], .func (.func 38) #[] #[]] w fun e w' =>
      ∃ (g m d : Nat) (ts : List Nat), e = .returned (.slice (some ⟨g, 0, none⟩) m d) ∧ ts.map (fun s => listK s 8) = allL (subP z fs (fun _ => true)) (2 ^ z.toNat) ∧ (∀ s, s ∈ ts → s < 2 ^ 8) ∧ m ≤ 256 ∧ w'.ownsRow w.heap.size 53 1 (.slice (some ⟨g, 0, none⟩) m d) m (ts.map setV) ∧ Below w.heap.size w w' := by
  have hmf : ∀ (fn : Fn) (first cap : Array Value) (w : World), (Instr.makeFunc fn first cap).run Try.prog w = .ok (.func fn first cap) w := fun _ _ _ _ => rfl
  obtain ⟨hz1, hz8⟩ := (algOkB_of hok).1
  have hB := below_then (below_alloc w (.cells #[.int .i64 z, .slice ao n c] 31)) (below_alloc _ (.cells #[.func (.func 38) #[] #[]] 54))
  have hne : ∃ s, s < 2 ^ z.toNat ∧ subP z fs (fun _ => true) s = true := ⟨2 ^ z.toNat - 1, by have := Nat.two_pow_pos z.toNat; omega, by simp [subP, full_step hok (n := z.toNat) (by omega)]⟩
  have hS := setsThat_any z ao c n (w.heap.size + 1) w.heap.size (subP z fs (fun _ => true)) ((w.alloc (.cells #[.int .i64 z, .slice ao n c] 31)).alloc (.cells #[.func (.func 38) #[] #[]] 54)) hz1 hz8
    (fun s W hs hW => thatAll_any lo hi z ao c n (w.heap.size + 1) w.heap.size fs s W (hv.kept (Kept.of_below (hB.trans (hW.mono hB.size)) hhi)) (Nat.le_trans hhi (hB.trans (hW.mono hB.size)).size) hok hs
      (cell_b hW (by have h_ := cell_new1 (w.alloc (.cells #[.int .i64 z, .slice ao n c] 31)) (.func (.func 38) #[] #[]) 54; rw [World.size_alloc] at h_; exact h_))
      (cell_b hW (cell_b (below_alloc _ _) (by simp))) (cell_b hW (cell_b (below_alloc _ _) (by simp)))) hne
  have HS := Lib.hid hS
  have HB := Lib.hid hB
  clear hv hok hB hne hS
  go_enter Try.func37, Try.ntmps37
  go_wp2_with fail
  refine HS.out.mono ?_
  rintro e w2 ⟨g, m, d, ts, rfl, hts, hlt, hm, ho, b2⟩
  have HB2 := Lib.hid (HB.out.trans (b2.mono HB.out.size))
  have HO := Lib.hid (ownsRow_base ho HB.out.size)
  have HT := Lib.hid hts
  have HL := Lib.hid hlt
  clear b2 ho hts hlt
  go_wp2_with fail
  go_ret
  exact ⟨g, m, d, ts, rfl, HT.out, HL.out, hm, HO.out, HB2.out⟩

theorem subs_small {p : Nat → Bool} {z : Int} (h8 : z ≤ 8) : (allL p (2 ^ z.toNat)).length + lsum (allL p (2 ^ z.toNat)) ≤ 4194304 := by
  have h1 := allL_len p (2 ^ z.toNat)
  have hpow : 2 ^ z.toNat ≤ 2 ^ 8 := Nat.pow_le_pow_right (by decide) (by omega)
  have h2 := lsum_le (k := 8) (ls := allL p (2 ^ z.toNat)) fun y hy => by
    obtain ⟨s, _, _, rfl⟩ := allL_mem.1 hy
    exact listK_le s 8
  unfold lsum
  omega
theorem smallAllSubuniverses (z : Int) (fs : List OpD) : (valAllSubuniverses z fs).1.length + lsum (valAllSubuniverses z fs).1 ≤ 4194304 := by
  unfold valAllSubuniverses
  cases h : algOkB z fs with
  | false => simp [lsum]
  | true => exact subs_small (algOkB_of h).1.2

set_option maxHeartbeats 1000000 in
theorem implAllSubuniverses (lo hi : Nat) (z : Int) (ao : Option Addr) (c n : Nat) (fs : List OpD) (w : World) (hv : OView w lo hi ao n fs) (hhi : hi ≤ w.heap.size) (hs : ∀ (j : Nat) (f : OpD), fs[j]? = some f → f.2.length ≤ maxLen) :
    Calls Try.prog 12 #[.agg #[.int .i64 z, .slice ao n c]] w fun e w' => ResS w w' (valAllSubuniverses z fs).1 (valAllSubuniverses z fs).2 e := by
  have hB := below_alloc w (.cells #[.int .i64 z, .slice ao n c] 31)
  have HB := Lib.hid hB
  have HV := Lib.hid hv
  have cz : (w.alloc (.cells #[.int .i64 z, .slice ao n c] 31)).cell? ⟨w.heap.size, 0, none⟩ = some (.int .i64 z) := by simp
  have ca : (w.alloc (.cells #[.int .i64 z, .slice ao n c] 31)).cell? ⟨w.heap.size, 1, none⟩ = some (.slice ao n c) := by simp
  have hC := isAlg_any lo hi z ao c n fs _ (hv.kept (Kept.of_below hB hhi)) (Nat.le_trans hhi hB.size) hs
  obtain ⟨r, hr⟩ : ∃ r, algOkB z fs = r := ⟨_, rfl⟩
  rw [hr] at hC
  have HC := Lib.hid hC
  have HRr := Lib.hid hr
  unfold ResS valAllSubuniverses
  rw [hr]
  cases r with
  | false =>
    clear hv hs hB hC hr
    go_enter Try.func12, Try.ntmps12
    go_wp2_with fail
    refine HC.out.mono ?_
    rintro e w1 ⟨rfl, b1⟩
    have HB1 := Lib.hid (HB.out.trans (b1.mono HB.out.size))
    clear b1
    go_wp2_with fail
    go_ret2
    obtain ⟨G, C, h_⟩ := BuiltL.nil w1 w.heap.size (fun j => ([] : List (List Int)).getD j [])
    exact ⟨none, 0, 0, rfl, rfl, ⟨G, C, h_⟩, HB1.out⟩
  | true =>
    clear hv hs hB hC hr
    go_enter Try.func12, Try.ntmps12
    go_wp2_with fail
    refine HC.out.mono ?_
    rintro e w1 ⟨rfl, b1⟩
    have HB1 := Lib.hid (HB.out.trans (b1.mono HB.out.size))
    have cz1 := cell_b b1 cz
    have ca1 := cell_b b1 ca
    have HS := Lib.hid (subsAll_any lo hi z ao c n fs w1 (HV.out.kept (Kept.of_below HB1.out hhi)) (Nat.le_trans hhi HB1.out.size) HRr.out)
    clear b1 cz ca
    go_wp2_with fail
    refine HS.out.mono ?_
    rintro e w3 ⟨g, m, d, ts, rfl, hts, hlt, hm, ho, b3⟩
    have HB3 := Lib.hid (HB1.out.trans (b3.mono HB1.out.size))
    have HLi := Lib.hid (listsOf_any _ g m d ts w3 ho (by omega) hlt)
    have HT := Lib.hid hts
    have HM : Hid (m = (allL (subP z fs fun _ => true) (2 ^ z.toNat)).length) := by
      unfold Hid
      rw [← hts, List.length_map]
      have h_ := ho.1
      simpa using h_.symm
    clear b3 ho hts hlt
    go_wp2_with fail
    refine HLi.out.mono ?_
    rintro e w4 ⟨a4, c4, rfl, hbu, b4⟩
    have HB4 := Lib.hid (HB3.out.trans (b4.mono HB3.out.size))
    obtain ⟨G, C, hL⟩ := hbu
    have HL := Lib.hid (hL.lo_mono HB3.out.size)
    clear b4 hL
    go_wp2_with fail
    go_ret2
    exact ⟨a4, m, c4, rfl, HM.out, ⟨G, C, by have h_ := HL.out; rw [HT.out] at h_; exact h_⟩, HB4.out⟩


end Go.Proofs.Ytbpbbmfgkejgaaa
