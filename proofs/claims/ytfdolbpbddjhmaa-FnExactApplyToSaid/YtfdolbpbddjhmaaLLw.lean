/-
  Contracts: the laws' szIntSS, toIntSS, eqIntSS, markIntSS, heldIntSS. Conditions: the bounds that each theorem names.
-/
import Derived.Test.YtfdolbpbddjhmaaLL
import Derived.Test.YtfdolbpbddjhmaaSz
import Derived.Test.YtfdolbpbddjhmaaTo
import Derived.Test.YtfdolbpbddjhmaaEq
import Derived.Deep.RegionHeld3
import Derived.Test.YtfdolbpbddjhmaaLLr
namespace Go.Proofs.Ytfdolbpbddjhmaa
open Go.RowKit
set_option linter.unusedVariables false
set_option linter.unusedSimpArgs false

theorem szLL_zero (ao : Option Addr) (c : Nat) (left : Int) (w : World) (h0 : 0 ≤ left) (h1 : left ≤ 1048576) :
    Calls Try.prog 36 #[.slice ao 0 c, .int .i64 left] w fun e w' => e = .returned (.int .i64 left) ∧ w = w' := by
  go_enter Try.func36, Try.ntmps36
  go_wp2
  refine wp_loop_rounds 1 ?_
  rw [rounds_succ]
  go_wp2
  go_ret
  exact ⟨by simp, rfl⟩

set_option maxHeartbeats 1000000 in
theorem szLL_some (hi b o c n : Nat) (ls : List (List Int)) (left : Int) (w : World) (hlen : ls.length = n) (hn : n ≤ maxLen) (h0 : 0 ≤ left) (h1 : left ≤ 1048576) (hb : b < hi) (hhi : hi ≤ w.heap.size)
    (hc : ∀ j xs, ls[j]? = some xs → ∃ a m c, w.cell? ⟨b, o + j, none⟩ = some (.slice a m c) ∧ m ≤ c ∧ c ≤ maxLen ∧ IView w 0 hi a m xs) :
    Calls Try.prog 36 #[.slice (some ⟨b, o, none⟩) n c, .int .i64 left] w fun e w' => e = .returned (.int .i64 (szI left (n + lsum ls))) ∧ w = w' := by
  unfold maxLen at hn
  have HL := Lib.hid hlen
  have HC := Lib.hid hc
  clear hlen hc
  by_cases hnl : (n : Int) ≤ left
  · go_enter Try.func36, Try.ntmps36
    go_wp2_with fail
    go_loop [1, 5] (fun l i => ∃ k s : Nat, k ≤ n ∧ i = .int .i64 k ∧ Hid (s = lsum (ls.take k)) ∧ (n + s : Int) ≤ left ∧ l = .int .i64 (left - n - s)) (fun _ i => n - (intOf i).toNat)
    case atStart => exact ⟨0, 0, Nat.zero_le _, rfl, rfl, by omega, by simp⟩
    case round =>
      obtain ⟨k, s, hk, rfl, HS, hs, rfl⟩ := hrel
      by_cases hlt : k < n
      · obtain ⟨f, hf⟩ := get_of_lt HL.out hlt
        obtain ⟨a, m, c', e1, hmc, hcm, hv⟩ := HC.out k f hf
        have hfl : f.length = m := hv.1
        have hcall := Lib.hid (fun w => szInts_any a c' m (left - n - s) w (by omega) (by omega) (by omega))
        have HF := Lib.hid hf
        have HFL := Lib.hid hfl
        clear hf hfl hv hmc hcm
        by_cases hfit : (m : Int) ≤ left - n - s
        · rw [szI_yes hfit] at hcall
          go_wp2_with fail
          refine (hcall.out _).mono ?_
          rintro e w1 ⟨rfl, rfl⟩
          go_wp2_with fail
          go_round
          case rel => exact ⟨k + 1, s + m, by omega, by go_num, by unfold Hid; rw [lsum_succ HF.out, HS.out, HFL.out], by omega, by go_num⟩
          case measure => simp [intOf]; omega
        · rw [szI_no hfit] at hcall
          go_wp2_with fail
          refine (hcall.out _).mono ?_
          rintro e w1 ⟨rfl, rfl⟩
          go_wp2_with fail
          go_ret
          refine ⟨ret_int ?_, rfl⟩
          have h1 := lsum_take_le ls (k + 1)
          rw [lsum_succ HF.out, ← HS.out, HFL.out] at h1
          rw [szI_no (by omega)]
      · go_wp2_with fail
        go_ret
        refine ⟨?_, rfl⟩
        have hs2 : s = lsum ls := by rw [HS.out, lsum_all (by have := HL.out; omega)]
        rw [szI_yes (by omega), ← hs2]
        go_num
  · go_enter Try.func36, Try.ntmps36
    go_wp2_with fail
    go_ret
    exact ⟨ret_int (by rw [szI_no (by omega)]), rfl⟩

theorem szLL_any (hi : Nat) (ao : Option Addr) (c n : Nat) (ls : List (List Int)) (left : Int) (w : World) (h : LView w 0 hi ao n ls) (hn : n ≤ maxLen) (h0 : 0 ≤ left) (h1 : left ≤ 1048576) (hhi : hi ≤ w.heap.size := by first | assumption | omega) :
    Calls Try.prog 36 #[.slice ao n c, .int .i64 left] w fun e w' => e = .returned (.int .i64 (szI left (n + lsum ls))) ∧ Below w.heap.size w w' := by
  obtain ⟨hl, rfl | ⟨b, o, rfl, _, hb, hc⟩⟩ := h
  · obtain rfl : ls = [] := List.eq_nil_of_length_eq_zero hl
    refine (szLL_zero ao c left w h0 h1).mono fun e w' ⟨he, hw⟩ => ⟨he.trans (ret_int ?_), hw ▸ Below.refl _ _⟩
    rw [szI_yes (by simpa [lsum] using h0)]
    simp [lsum]
  · exact (szLL_some hi b o c n ls left w hl hn h0 h1 hb hhi hc).mono fun e w' ⟨he, hw⟩ => ⟨he, hw ▸ Below.refl _ _⟩

set_option maxHeartbeats 1000000 in
theorem toLL_some (hi b o c n : Nat) (ls : List (List Int)) (w : World) (hlen : ls.length = n) (hn : n * 24 ≤ 281474976710656) (hs : ∀ (j : Nat) (xs : List Int), ls[j]? = some xs → xs.length * 8 ≤ 281474976710656) (hn1 : n ≤ 1048576) (hb : b < hi) (hhi : hi ≤ w.heap.size)
    (hc : ∀ j xs, ls[j]? = some xs → ∃ a m c, w.cell? ⟨b, o + j, none⟩ = some (.slice a m c) ∧ m ≤ c ∧ c ≤ maxLen ∧ IView w 0 hi a m xs) :
    Calls Try.prog 38 #[.slice (some ⟨b, o, none⟩) n c] w fun e w' => e = .returned (.slice (some ⟨w.heap.size, 0, none⟩) n n) ∧ MadeLL w w' (some ⟨w.heap.size, 0, none⟩) n n ls := by
  have HL := Lib.hid hlen
  have HC := Lib.hid hc
  have HSz := Lib.hid hs
  clear hlen hc hs
  obtain ⟨w1, hmk, ho1, hb1⟩ := make_ll w n hn1
  have HO := Lib.hid ho1
  have HB := Lib.hid hb1
  clear ho1 hb1
  unfold MadeLL
  obtain ⟨R, hR⟩ : ∃ R : Nat, R = w.heap.size := ⟨_, rfl⟩
  rw [← hR] at hmk HO HB hhi ⊢
  have HR0 := Lib.hid hR
  clear hR
  go_enter Try.func38, Try.ntmps38
  go_wp2_with fail
  go_loopw [4] (fun i wr => ∃ k : Nat, k ≤ n ∧ i = .int .i64 k ∧ Hid (∃ G C F, OwnsLL wr R wr.heap.size (.slice (some ⟨R, 0, none⟩) n n) n G C F ∧ (∀ j, j < k → F j = ls.getD j [])) ∧ Hid (Below R w wr)) (fun i _ => n - (intOf i).toNat)
  case atStart => exact ⟨0, Nat.zero_le _, rfl, ⟨_, _, _, HO.out, fun j hj => by omega⟩, HB⟩
  case round =>
    obtain ⟨k, hk, rfl, HR, HBr⟩ := hrel
    clear HO HB
    have hRw := HR0.out
    by_cases hlt : k < n
    · obtain ⟨f, hf⟩ := get_of_lt HL.out hlt
      obtain ⟨a, m, c', c1, hmc, hcm, hv⟩ := HC.out k f hf
      have e1 : wr.cell? ⟨b, o + k, none⟩ = some (.slice a m c') := (HBr.out.cell (p := ⟨b, _, none⟩) (by show b < _; omega)).trans c1
      have hfl : f.length = m := hv.1
      have hfs := HSz.out k f hf
      have hcall := Lib.hid (toInts_view 0 hi a c' m f wr (hv.kept (Kept.of_below HBr.out (by omega))) (by have := HBr.out.size; omega) (by omega))
      have HF : Hid (ls.getD k [] = f) := by
        unfold Hid
        rw [List.getD_eq_getElem?_getD, hf]; rfl
      have HFL := Lib.hid hfl
      clear hf hfl hv c1 hmc hcm hfs hRw
      go_wp2_with fail
      refine hcall.out.mono ?_
      rintro e w2 ⟨rfl, ho, b2⟩
      have hRw := HR0.out
      obtain ⟨G, C, F, ht, hFs⟩ := HR.out
      have hg := ho.lt wr.heap.size rfl
      have hp := (ht.kept (Kept.of_below b2 (Nat.le_refl _))).put (g := some wr.heap.size) (hi' := w2.heap.size) hlt (ownsRow_base ho (by have := HBr.out.size; omega)) HFL.out.symm (fun q hq => by cases hq; exact hg) (by omega)
      have hrow2 := ht.row.kept (grown_of_below b2 none) (own_em _)
      have f0 := hrow2.frozenAt k
      obtain ⟨u0, o0⟩ : ∃ u, w2.cell? ⟨R, k, none⟩ = some u := by
        rw [hrow2.cellAt k (by omega)]
        exact ⟨_, flatL_get hlt⟩
      have HP := Lib.hid hp
      have HFs := Lib.hid hFs
      have HB2 := Lib.hid (HBr.out.trans (b2.mono (by have := HBr.out.size; omega)))
      clear hp hFs hrow2 ht b2 ho hg hcall HR hRw
      go_wp2_with fail
      go_roundw
      case rel =>
        refine ⟨k + 1, by omega, by go_num, ⟨_, _, _, by rw [show (w2.setCell ⟨R, k, none⟩ (.slice (some ⟨wr.heap.size, 0, none⟩) m m)).heap.size = w2.heap.size by simp [World.setCell]]; exact HP.out.1, fun j hj => ?_⟩, HB2.out.setCell (by show _ ≤ _; exact Nat.le_refl _) _⟩
        by_cases hjk : j = k
        · subst hjk; rw [upd_same]; exact HF.out.symm
        · rw [upd_other hjk]; exact HFs.out j (by omega)
      case measure => simp [intOf]; omega
    · go_wp2_with fail
      go_ret
      obtain rfl : k = n := by omega
      obtain ⟨G, C, F, ht, hFs⟩ := HR.out
      exact ⟨rfl, ⟨G, C, ht.congrF hFs⟩, HBr.out⟩

theorem toLL_zero (ao : Option Addr) (c : Nat) (w : World) :
    Calls Try.prog 38 #[.slice ao 0 c] w fun e w' => e = .returned (.slice (some ⟨w.heap.size, 0, none⟩) 0 0) ∧ MadeLL w w' (some ⟨w.heap.size, 0, none⟩) 0 0 [] := by
  obtain ⟨w1, hmk, ho1, hb1⟩ := make_ll w 0 (by omega)
  have HO := Lib.hid ho1
  have HB := Lib.hid hb1
  have hmk2 : (Instr.makeSlice 46 (.int .i64 0) (.int .i64 0)).run Try.prog w = .ok (.slice (some ⟨w.heap.size, 0, none⟩) 0 0) w1 := hmk
  clear ho1 hb1 hmk
  unfold MadeLL
  go_enter Try.func38, Try.ntmps38
  go_wp2_with fail
  refine wp_loop_rounds 1 ?_
  rw [rounds_succ]
  go_wp2_with fail
  go_ret
  exact ⟨rfl, ⟨_, _, HO.out.congrF fun j hj => by omega⟩, HB.out⟩

theorem toLL_view (hi : Nat) (ao : Option Addr) (c n : Nat) (ls : List (List Int)) (w : World) (h : LView w 0 hi ao n ls) (hhi : hi ≤ w.heap.size) (hn : n * 24 ≤ 281474976710656) (hs : ∀ (j : Nat) (xs : List Int), ls[j]? = some xs → xs.length * 8 ≤ 281474976710656) (hn1 : n ≤ 1048576 := by first | assumption | omega) :
    Calls Try.prog 38 #[.slice ao n c] w fun e w' => ∃ g, e = .returned (.slice (some ⟨g, 0, none⟩) n n) ∧ MadeLL w w' (some ⟨g, 0, none⟩) n n ls := by
  obtain ⟨h1, rfl | ⟨b, o, rfl, _, hb, hc⟩⟩ := h
  · obtain rfl : ls = [] := List.eq_nil_of_length_eq_zero h1
    exact (toLL_zero ao c w).mono fun e w' ⟨he, hm⟩ => ⟨_, he, hm⟩
  · exact (toLL_some hi b o c n ls w h1 hn hs hn1 hb hhi hc).mono fun e w' ⟨he, hm⟩ => ⟨_, he, hm⟩

end Go.Proofs.Ytfdolbpbddjhmaa
