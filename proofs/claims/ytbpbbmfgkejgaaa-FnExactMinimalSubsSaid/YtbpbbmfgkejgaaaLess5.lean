/-
  Contract: spec.l5Less. Conditions: the bounds that it names.
-/
import Derived.Test.YtbpbbmfgkejgaaaOrdM
import Derived.Test.YtbpbbmfgkejgaaaStep
namespace Go.Proofs.Ytbpbbmfgkejgaaa
open Go.RowKit
set_option linter.unusedVariables false
set_option linter.unusedSimpArgs false

theorem l5Less_any (lo hi lo2 hi2 n c d : Nat) (ao bo : Option Addr) (s t : List Int) (w : World) (hs : IView w lo hi ao n s) (ht : IView w lo2 hi2 bo n t) (hn : n ≤ 1048576) :
    Calls Try.prog 55 #[.slice ao n c, .slice bo n d] w fun e w' => e = .returned (.bool (befB s t)) ∧ ∃ q, w' = w.drewN q := by
  have hls := hs.1
  have hlt := ht.1
  have hb : befB s t = (cmpL s t == -1) := by unfold befB; rw [ordL_len (by omega)]
  rw [hb]
  obtain ⟨r, hr⟩ : ∃ r, cmpL s t = r := ⟨_, rfl⟩
  have HR : Hid (cmpL (s.drop 0) (t.drop 0) = r) := by unfold Hid; rw [List.drop_zero, List.drop_zero]; exact hr
  rw [hr]
  have HS := Lib.hid hs
  have HT := Lib.hid ht
  clear hs ht hb hr
  go_enter Try.func55, Try.ntmps55
  go_wp2
  go_loopw [5] (fun i wr => ∃ k q : Nat, k ≤ n ∧ i = .int .i64 (k : Int) ∧ Hid (cmpL (s.drop k) (t.drop k) = r) ∧ wr = w.drewN q) (fun i _ => n - (intOf i).toNat)
  case atStart => exact ⟨0, 0, Nat.zero_le _, rfl, HR, rfl⟩
  case round =>
    obtain ⟨k, q, hk, rfl, HK, rfl⟩ := hrel
    by_cases hlt2 : k < n
    · obtain ⟨b1, o1, rfl, _, _, hc1⟩ := HS.out.at_ (by omega)
      obtain ⟨b2, o2, rfl, _, _, hc2⟩ := HT.out.at_ (by omega)
      obtain ⟨x, hx⟩ := get_of_lt HS.out.1 hlt2
      obtain ⟨y, hy⟩ := get_of_lt HT.out.1 hlt2
      have hcx := hc1 k x hx
      have hcy := hc2 k y hy
      have hkn : (k : Int) < (n : Int) := by omega
      by_cases hxy : x = y
      · subst hxy
        have HN : Hid (cmpL (s.drop (k + 1)) (t.drop (k + 1)) = r) := by unfold Hid; rw [← cmpL_eq hx hy]; exact HK.out
        clear hc1 hc2 hx hy
        go_wp2_with fail
        go_quiet (fail)
        go_wp2_with fail
        go_roundw
        case rel => exact ⟨k + 1, _, by omega, by go_num, HN, rfl⟩
        case measure => simp [intOf]; omega
      · have hne : (x != y) = true := by simp [hxy]
        by_cases hl : x < y
        · have HE : Hid (r = -1) := by unfold Hid; rw [← HK.out]; exact cmpL_lt hx hy hl
          clear hc1 hc2 hx hy hxy
          go_wp2_with fail
          go_quiet (fail)
          go_wp2_with fail
          go_quiet (fail)
          go_wp2_with fail
          go_ret
          exact ⟨ret_bool (by rw [HE.out]; simp [hl]), _, by rw [World.drewN_drewN, World.drewN_drewN]⟩
        · have HE : Hid (r = 1) := by unfold Hid; rw [← HK.out]; exact cmpL_gt hx hy (by omega)
          clear hc1 hc2 hx hy hxy
          go_wp2_with fail
          go_quiet (fail)
          go_wp2_with fail
          go_quiet (fail)
          go_wp2_with fail
          go_ret
          exact ⟨ret_bool (by rw [HE.out]; simp [hl]), _, by rw [World.drewN_drewN, World.drewN_drewN]⟩
    · have hkn : ¬ (k : Int) < (n : Int) := by omega
      have HE : Hid (r = 0) := by
        unfold Hid; rw [← HK.out]
        exact cmpL_both (by have := HS.out.1; omega) (by have := HT.out.1; omega)
      go_wp2_with fail
      go_ret
      exact ⟨by rw [HE.out]; rfl, _, rfl⟩

end Go.Proofs.Ytbpbbmfgkejgaaa
