/-
  Contracts: the laws' szIntSS, toIntSS, eqIntSS, markIntSS, heldIntSS. Conditions: the bounds that each theorem names.
-/
import Derived.Test.YtfdolbpbddjhmaaLL
import Derived.Test.YtfdolbpbddjhmaaSz
import Derived.Test.YtfdolbpbddjhmaaTo
import Derived.Test.YtfdolbpbddjhmaaEq
import Derived.Deep.RegionHeld3
namespace Go.Proofs.Ytfdolbpbddjhmaa
open Go.RowKit
set_option linter.unusedVariables false
set_option linter.unusedSimpArgs false

theorem eqLL_zero (ao bo : Option Addr) (c d : Nat) (w : World) :
    Calls Try.prog 33 #[.slice ao 0 c, .slice bo 0 d] w fun e w' => e = .returned (.bool true) ∧ ∃ q, w' = w.drewN q := by
  go_enter Try.func33, Try.ntmps33
  go_wp2
  refine wp_loop_rounds 1 ?_
  rw [rounds_succ]
  go_wp2
  go_ret
  exact ⟨rfl, 0, rfl⟩

set_option maxHeartbeats 1000000 in
theorem eqLL_some (lo hi lo2 hi2 : Nat) (b o c b2 o2 c2 n : Nat) (ls : List (List Int)) (w : World) (hlen : ls.length = n) (hn : n ≤ maxLen) (hs : ∀ (j : Nat) (xs : List Int), ls[j]? = some xs → xs.length ≤ maxLen)
    (hc : ∀ j xs, ls[j]? = some xs → ∃ a m c, w.cell? ⟨b, o + j, none⟩ = some (.slice a m c) ∧ m ≤ c ∧ c ≤ maxLen ∧ IView w lo hi a m xs)
    (hc2 : ∀ j xs, ls[j]? = some xs → ∃ a m c, w.cell? ⟨b2, o2 + j, none⟩ = some (.slice a m c) ∧ m ≤ c ∧ c ≤ maxLen ∧ IView w lo2 hi2 a m xs) :
    Calls Try.prog 33 #[.slice (some ⟨b, o, none⟩) n c, .slice (some ⟨b2, o2, none⟩) n c2] w fun e w' => e = .returned (.bool true) ∧ ∃ q, w' = w.drewN q := by
  unfold maxLen at hn
  have HL := Lib.hid hlen
  have HC := Lib.hid hc
  have HC2 := Lib.hid hc2
  have HSz := Lib.hid hs
  clear hlen hc hc2 hs
  go_enter Try.func33, Try.ntmps33
  go_wp2_with fail
  go_loopw [5] (fun i wr => ∃ k : Nat, k ≤ n ∧ i = .int .i64 k ∧ Hid (∃ q, wr = w.drewN q)) (fun i _ => n - (intOf i).toNat)
  case atStart => exact ⟨0, Nat.zero_le _, rfl, ⟨0, rfl⟩⟩
  case round =>
    obtain ⟨k, hk, rfl, HQ⟩ := hrel
    by_cases hlt : k < n
    · obtain ⟨f, hf⟩ := get_of_lt HL.out hlt
      obtain ⟨a, m, c', e1, _, _, hv⟩ := HC.out k f hf
      obtain ⟨a2, m2, c2', g1, _, _, hv2⟩ := HC2.out k f hf
      obtain rfl : m2 = m := by have h1 := hv.1; have h2 := hv2.1; omega
      have hm := HSz.out k f hf
      rw [hv.1] at hm
      have hkq : ∀ lo hi, Kept lo hi w wr := fun lo hi => by
        obtain ⟨q, hq⟩ := HQ.out
        rw [hq]; exact Kept.drewN w q
      have e1' : wr.cell? ⟨b, o + k, none⟩ = some (.slice a m2 c') := by
        obtain ⟨q, hq⟩ := HQ.out
        rw [hq]; exact e1
      have g1' : wr.cell? ⟨b2, o2 + k, none⟩ = some (.slice a2 m2 c2') := by
        obtain ⟨q, hq⟩ := HQ.out
        rw [hq]; exact g1
      have hcall : ∀ n, Calls Try.prog 26 #[.slice a m2 c', .slice a2 m2 c2'] (wr.drewN n) fun e w' => e = .returned (.bool true) ∧ ∃ m, w' = wr.drewN m := fun n =>
        (eqInts_view lo hi lo2 hi2 a a2 c' c2' m2 f (wr.drewN n) ((hv.kept (hkq _ _)).kept (Kept.drewN wr n)) ((hv2.kept (hkq _ _)).kept (Kept.drewN wr n)) hm).mono fun e w' ⟨he, q2, hq2⟩ => ⟨he, n + q2, by rw [hq2, World.drewN_drewN]⟩
      have HCall := Lib.hid hcall
      clear hf hv hv2 hm hcall hkq e1 g1
      go_wp2_with fail
      go_quiet ((go_at_call 26; exact (HCall.out _)))
      go_wp2_with fail
      go_roundw
      case rel => exact ⟨k + 1, by omega, by go_num, by obtain ⟨q, hq⟩ := HQ.out; exact ⟨q + nq, by rw [hq, World.drewN_drewN]⟩⟩
      case measure => simp [intOf]; omega
    · go_wp2
      go_ret
      exact ⟨rfl, HQ.out⟩

theorem eqLL_view (lo hi lo2 hi2 : Nat) (ao bo : Option Addr) (c d n : Nat) (ls : List (List Int)) (w : World) (h : LView w lo hi ao n ls) (h2 : LView w lo2 hi2 bo n ls) (hn : n ≤ maxLen) (hs : ∀ (j : Nat) (xs : List Int), ls[j]? = some xs → xs.length ≤ maxLen) :
    Calls Try.prog 33 #[.slice ao n c, .slice bo n d] w fun e w' => e = .returned (.bool true) ∧ ∃ q, w' = w.drewN q := by
  obtain ⟨h1, rfl | ⟨b, o, rfl, _, _, hc⟩⟩ := h
  · exact eqLL_zero ao bo c d w
  · obtain ⟨_, rfl | ⟨b2, o2, rfl, _, _, hc2⟩⟩ := h2
    · exact eqLL_zero _ bo c d w
    · exact eqLL_some lo hi lo2 hi2 b o c b2 o2 d n ls w h1 hn hs hc hc2

theorem markInts_row (b n c : Nat) (g : Option Nat) (k : Int) (xs : List Int) (w : World) (hk0 : 0 ≤ k) (hk : k + (n : Int) ≤ 4611686018427387904) (h : w.ownsRow b 3 1 (.slice (addrO g) n c) n (xs.map (Value.int .i64))) :
    Calls Try.prog 27 #[.slice (addrO g) n c, .int .i64 k] w fun e w' => e = .returned (.int .i64 (k + (n : Int))) ∧ w'.ownsRow b 3 1 (.slice (addrO g) n c) n ((upFrom k n).map (Value.int .i64)) ∧ w.grownBy w' g := by
  cases g with
  | some g => exact markInts_some b g n c k xs w hk0 hk h
  | none =>
    have h0 : n = 0 := by
      rcases h.2 with ⟨_, h0⟩ | ⟨g, cap, cur, he, _⟩
      · exact h0
      · cases he
    subst h0
    have hx : xs = [] := List.eq_nil_of_length_eq_zero (by have := h.1; simpa using this)
    subst hx
    refine (markInts_nil none c k w).mono fun e w' ⟨he, hw⟩ => ?_
    subst hw
    exact ⟨by rw [he]; simp, h, World.grownBy.refl _ _⟩

theorem markLL_nil (ao : Option Addr) (c : Nat) (k : Int) (w : World) :
    Calls Try.prog 34 #[.slice ao 0 c, .int .i64 k] w fun e w' => e = .returned (.int .i64 k) ∧ w = w' := by
  go_enter Try.func34, Try.ntmps34
  go_wp2
  refine wp_loop_rounds 1 ?_
  rw [rounds_succ]
  go_wp2
  go_ret
  exact ⟨rfl, rfl⟩

set_option maxHeartbeats 1000000 in
theorem markLL_some (lo hi R n c : Nat) (G : Nat → Option Nat) (C : Nat → Nat) (F : Nat → List Int) (k : Int) (w : World) (hk0 : 0 ≤ k) (hk : k + (preLL F n : Int) ≤ 4611686018427387904) (h : OwnsLL w lo hi (.slice (some ⟨R, 0, none⟩) n c) n G C F) (hn : n ≤ maxLen) :
    Calls Try.prog 34 #[.slice (some ⟨R, 0, none⟩) n c, .int .i64 k] w fun e w' => e = .returned (.int .i64 (k + (preLL F n : Int))) ∧ OwnsLL w' lo hi (.slice (some ⟨R, 0, none⟩) n c) n G C (markLs k F) ∧ Only lo hi w w' := by
  have HO := Lib.hid h
  unfold maxLen at hn
  clear h
  go_enter Try.func34, Try.ntmps34
  go_wp2
  go_loopw [1, 5] (fun kk i wr => ∃ j p : Nat, j ≤ n ∧ i = .int .i64 j ∧ kk = .int .i64 (k + (p : Int)) ∧ Hid (p = preLL F j) ∧ Hid (OwnsLL wr lo hi (.slice (some ⟨R, 0, none⟩) n c) n G C (mixL k F j)) ∧ Hid (Only lo hi w wr)) (fun _ i _ => n - (intOf i).toNat)
  case atStart => exact ⟨0, 0, Nat.zero_le _, rfl, by simp, rfl, by rw [mixL_zero]; exact HO, Only.refl _ _ _⟩
  case round =>
    obtain ⟨j, p, hj, rfl, rfl, HP, HR, HB⟩ := hrel
    by_cases hlt : j < n
    · have hc1 : wr.cell? ⟨R, j, none⟩ = some (.slice (addrO (G j)) (F j).length (C j)) := by
        rw [HR.out.row.cellAt j (by omega), flatL_get hlt, mixL_at]
      have ht1 := HR.out.tab j hlt
      rw [mixL_at] at ht1
      have hpm := preLL_mono F (show j + 1 ≤ n by omega)
      have hpe : preLL F (j + 1) = p + (F j).length := by rw [preLL, HP.out]
      rw [hpe] at hpm
      obtain ⟨m, hm⟩ : ∃ m, m = (F j).length := ⟨_, rfl⟩
      rw [← hm] at hc1 hpm hpe ht1
      have HCall := Lib.hid (markInts_row lo m (C j) (G j) (k + (p : Int)) (F j) wr (by omega) (by omega) ht1)
      have HM := Lib.hid hm
      have HPE := Lib.hid hpe
      have hlo : Hid (∀ b, G j = some b → lo ≤ b ∧ b < hi) := fun b hb => ⟨((HR.out.tab j hlt).lt b (by rw [own_addrO]; exact hb)).1, HR.out.lt j b hlt hb⟩
      clear ht1 hm hpe
      go_wp2_with fail
      refine HCall.out.mono ?_
      rintro e w2 ⟨rfl, ho2, hg2⟩
      have HN : Hid (OwnsLL w2 lo hi (.slice (some ⟨R, 0, none⟩) n c) n G C (mixL k F (j + 1))) := by
        have h3 := HR.out.turn (ys := upFrom (k + (p : Int)) m) hlt hg2 (by rw [upFrom_len, mixL_at, HM.out]) (by rw [mixL_at, ← HM.out]; exact ho2)
        have e1 : upFrom (k + (p : Int)) m = markLs k F j := by rw [markLs, ← HP.out, ← HM.out]
        rw [e1, mixL_step] at h3
        exact h3
      have HB2 : Hid (Only lo hi w w2) := HB.out.trans (Only.of_grown hg2 (by intro q hq; exact hlo.out q hq))
      clear ho2 hg2 hc1
      go_wp2_with fail
      go_roundw
      case rel => exact ⟨j + 1, p + m, by omega, by go_num, by go_num, HPE.out.symm, HN, HB2⟩
      case measure => simp [intOf]; omega
    · go_wp2
      go_ret
      obtain rfl : j = n := by omega
      exact ⟨ret_int (by rw [HP.out]), HR.out.congrF fun i hi => mixL_all k F hi, HB.out⟩

theorem markLL_own (lo hi n c : Nat) (ao : Option Addr) (G : Nat → Option Nat) (C : Nat → Nat) (F : Nat → List Int) (k : Int) (w : World) (hk0 : 0 ≤ k) (hk : k + (preLL F n : Int) ≤ 4611686018427387904) (h : OwnsLL w lo hi (.slice ao n c) n G C F) (hh : hi ≤ w.heap.size) :
    Calls Try.prog 34 #[.slice ao n c, .int .i64 k] w fun e w' => e = .returned (.int .i64 (k + (preLL F n : Int))) ∧ OwnsLL w' lo hi (.slice ao n c) n G C (markLs k F) ∧ Only lo hi w w' := by
  rcases Nat.eq_zero_or_pos n with h0 | h0
  · subst h0
    refine (markLL_nil ao c k w).mono fun e w' ⟨he, hw⟩ => ?_
    subst hw
    exact ⟨by rw [he]; simp [preLL], h.congrF fun j hj => by omega, Only.refl _ _ _⟩
  · rcases h.row.2 with ⟨_, h1⟩ | ⟨g, cap, cur, he, hg, _, h1, h2, _⟩
    · omega
    · cases he
      exact markLL_some lo hi g n c G C F k w hk0 hk h (by omega)

set_option maxHeartbeats 1000000 in
theorem heldLL_view (lo hi n c : Nat) (ao : Option Addr) (F : Nat → List Int) (k : Int) (w : World) (hk0 : 0 ≤ k) (hk : k + (preLL F n : Int) ≤ 4611686018427387904) (h : LView w lo hi ao n ((List.range n).map (markLs k F))) (hn : n ≤ 4194304 := by first | assumption | omega) :
    Calls Try.prog 35 #[.slice ao n c, .int .i64 k] w fun e w' => e = .returned (.int .i64 (k + (preLL F n : Int))) ∧ w = w' := by
  have HV := Lib.hid h
  clear h
  go_enter Try.func35, Try.ntmps35
  go_wp2
  go_loop [1, 5] (fun kk i => ∃ j p : Nat, j ≤ n ∧ i = .int .i64 j ∧ kk = .int .i64 (k + (p : Int)) ∧ Hid (p = preLL F j)) (fun _ i => n - (intOf i).toNat)
  case atStart => exact ⟨0, 0, Nat.zero_le _, rfl, by simp, rfl⟩
  case round =>
    obtain ⟨j, p, hj, rfl, rfl, HP⟩ := hrel
    by_cases hlt : j < n
    · obtain ⟨b, o, rfl, _, _, hc⟩ := HV.out.at_ (by omega)
      obtain ⟨a, m, c', c0, _, _, hv⟩ := hc j (markLs k F j) (by simp [hlt])
      have hml : (F j).length = m := by have := hv.1; simpa [markLs, upFrom_len] using this
      have hpm := preLL_mono F (show j + 1 ≤ n by omega)
      have hpe : preLL F (j + 1) = p + m := by rw [preLL, HP.out, hml]
      rw [hpe] at hpm
      have hv2 : IView w lo hi a m (upFrom (k + (p : Int)) m) := by
        have := hv
        rw [markLs, ← HP.out, hml] at this
        exact this
      have HCall := Lib.hid (heldInts_view lo hi a c' m (k + (p : Int)) w (by omega) (by omega) hv2)
      have HPE := Lib.hid hpe
      clear hc hv hml hpe hv2
      go_wp2_with fail
      refine HCall.out.mono ?_
      rintro e w2 ⟨rfl, rfl⟩
      go_wp2_with fail
      go_round
      case rel => exact ⟨j + 1, p + m, by omega, by go_num, by go_num, HPE.out.symm⟩
      case measure => simp [intOf]; omega
    · go_wp2
      go_ret
      obtain rfl : j = n := by omega
      exact ⟨ret_int (by rw [HP.out]), rfl⟩

end Go.Proofs.Ytfdolbpbddjhmaa
