/-
  Contracts: the two closures of impl.DepthOf. Conditions: the bounds that each theorem names.
-/
import Derived.Test.YtmhlkopkcgmpjaaBackS
import Derived.Test.YtmhlkopkcgmpjaaDepS
namespace Go.Proofs.Ytmhlkopkcgmpjaa
open Go.RowKit Go.Shelf
set_option linter.unusedVariables false
set_option linter.unusedSimpArgs false

theorem leafD_any (v : Int) (W : World) :
    Calls Try.prog 74 #[.int .i64 v] W fun e w' => e = .returned (.int .i64 0) ∧ w' = W := by
  go_enter Try.func74, Try.ntmps74
  go_wp2
  go_ret
  exact ⟨rfl, rfl⟩

set_option maxHeartbeats 1000000 in
theorem nodeD_any (lo2 hi2 m d : Nat) (q : Int) (bo : Option Addr) (xs : List Int) (W : World) (hx : IView W lo2 hi2 bo m xs) (hb : ∀ v, v ∈ xs → 0 ≤ v ∧ v ≤ 60) (hm : m ≤ 60) :
    Calls Try.prog 75 #[.int .i64 q, .slice bo m d] W fun e w' => e = .returned (.int .i64 (depNd q xs)) ∧ W = w' := by
  have hbd := fun k => dep_max (q := 60) (vs := xs.take k) (a := 0) (fun v hv => (hb v (List.mem_of_mem_take hv)).2) (by omega)
  have HX := Lib.hid hx
  have HB := Lib.hid hb
  have HBd := Lib.hid hbd
  clear hx hb hbd
  go_enter Try.func75, Try.ntmps75
  go_wp2
  go_loop [5, 10] (fun p i => ∃ (k : Nat) (g : Int), k ≤ m ∧ i = .int .i64 (k : Int) ∧ p = .int .i64 g ∧ 0 ≤ g ∧ g ≤ 60 ∧ Hid (g = (xs.take k).foldl max 0)) (fun _ i => m - (intOf i).toNat)
  case atStart => exact ⟨0, 0, Nat.zero_le _, rfl, rfl, by omega, by omega, rfl⟩
  case round =>
    obtain ⟨k, g, hk, rfl, rfl, hg0, hg1, HG⟩ := hrel
    by_cases hlt : k < m
    · obtain ⟨b, o, rfl, _, _, hc⟩ := HX.out.at_ (by omega)
      obtain ⟨x, hx⟩ := get_of_lt HX.out.1 hlt
      have hcell := hc k x hx
      obtain ⟨x0, x1⟩ := HB.out x (List.mem_of_getElem? hx)
      have HN : Hid (max g x = (xs.take (k + 1)).foldl max 0) := by unfold Hid; rw [dep_max_succ hx, HG.out]
      have hmx0 : 0 ≤ max g x := by omega
      have hmx1 : max g x ≤ 60 := by omega
      clear hc hx
      go_wp2
      go_round
      case rel => exact ⟨k + 1, max g x, by omega, by go_num, by (try rfl) <;> simp <;> omega, hmx0, hmx1, HN⟩
      case measure => simp [intOf]; omega
    · go_wp2
      go_ret
      have h_ := HG.out
      rw [List.take_of_length_le (by have := HX.out.1; omega)] at h_
      exact ⟨ret_int (by rw [h_]; rfl), rfl⟩

end Go.Proofs.Ytmhlkopkcgmpjaa
