/-
  Contracts: slices.Grow at the nil slice and slices.Concat at lists of integers. Conditions: the bounds that each theorem names.
-/
import Derived.Test.YtplheohkecooeaaWith
import Derived.Lib.AppendZerosOnto
import Derived.Test.YtplheohkecooeaaVarsIn
namespace Go.Proofs.Ytplheohkecooeaa
open Go.RowKit
set_option linter.unusedVariables false
set_option linter.unusedSimpArgs false
attribute [local go_sem ↓] Go.wp_at_zero Go.wp_at_succ

theorem zeros_size (k : Nat) : (Builtin.zeroCells (Value.int .i64 0).cells k).size = k := by
  simp [Builtin.zeroCells, Value.cells]

set_option maxRecDepth 100000 in
set_option maxHeartbeats 1000000 in
theorem grow_nil (n : Nat) (w : World) (h0 : 1 ≤ n) (h1 : n ≤ 1048576) :
    Calls Try.prog 121 #[.slice none 0 0, .int .i64 (n : Int)] w fun e w' => ∃ g D, e = .returned (.slice (some ⟨g, 0, none⟩) 0 D) ∧ w'.ownsRow w.heap.size 3 1 (.slice (some ⟨g, 0, none⟩) 0 D) 0 (([] : List Int).map (Value.int .i64)) ∧ Below w.heap.size w w' := by
  obtain ⟨i0, hi0, hz0, hz1, hz2⟩ := info_parts Try.infoInt
  have hold : (Builtin.firstCells i0.size 0 (.slice none 0 0)).run Try.prog w.drew = .ok ([] : List Value).toArray w.drew := run_firstCells_none w.drew i0.size 0 0 0
  have hr := fun ty => Lib.run_append_grow_zeros (P := Try.prog) w 25 3 ty 3 i0 (.int .i64 0) .i64 .i64 Try.underlying25 Try.underlying3 hi0 hz0 none 0 0 [] hold n (by omega) (by omega) (by omega) (by omega) (by rw [hz2]; omega) (growslice_fits (by omega) (by rw [hz2]; omega))
  rw [Nat.zero_add] at hr
  obtain ⟨G, hG⟩ : ∃ G, G = grownCap w n 0 3 := ⟨_, rfl⟩
  have hGn : n ≤ G := by rw [hG]; exact grownCap_ge w _ _ _
  have hGm : G ≤ maxLen := by rw [hG]; exact grownCap_le_maxLen w n 0 3 (by unfold maxLen; omega)
  rw [← hG] at hr
  obtain ⟨cs, hcs⟩ : ∃ cs : Array Value, cs = ([] : List Value).toArray ++ Builtin.zeroCells (Value.int .i64 0).cells n ++ Builtin.zeroCells (Value.int .i64 0).cells (G - n) := ⟨_, rfl⟩
  have hsz : cs.size = G := by rw [hcs, Array.size_append, Array.size_append, zeros_size, zeros_size]; simp; omega
  rw [← hcs] at hr
  have HO := Lib.hid (World.ownsRow_made (base := w.heap.size) (e := 3) (size := 1) w.drew cs G (Nat.le_refl _) hGm (by omega))
  have HB := Lib.hid ((below_drew w).alloc (Nat.le_refl _) (.cells cs 3))
  have HG := Lib.hid (And.intro hGn hGm)
  have hn0 : ¬ (n : Int) < 0 := by omega
  have hG0 : (0 : Int) ≤ (G : Int) := by omega
  unfold maxLen at hGm
  clear hG hcs hsz hold hi0 hz0 hz1 hz2
  go_enter Try.func121, Try.ntmps121
  go_wp2_with (at_builtin; refine Lib.wpList_append_run _ rfl _ _ _ _ rfl _ _ rfl rfl _ _ (hr _) ?_)
  all_goals
    go_ret
    exact ⟨w.heap.size, G, rfl, HO.out, HB.out⟩

/-- Memory that reads as some lists, none of them nil. -/
def PView (w : World) (b : Nat) (xss : List (List Int)) : Prop :=
  ∀ (j : Nat) (xs : List Int), xss[j]? = some xs → ∃ g p m c, w.cell? ⟨b, j, none⟩ = some (.slice (some ⟨g, p, none⟩) m c) ∧ xs.length = m ∧ ∀ (i : Nat) (x : Int), xs[i]? = some x → w.cell? ⟨g, p + i, none⟩ = some (.int .i64 x)
theorem flat_len_le {xss : List (List Int)} (k : Nat) : ((xss.take k).flatten).length ≤ (xss.flatten).length := by
  conv => rhs; rw [← List.take_append_drop k xss, List.flatten_append, List.length_append]
  omega
theorem flat_len_step {xss : List (List Int)} {k : Nat} {xs : List Int} (hx : xss[k]? = some xs) : ((xss.take (k + 1)).flatten).length = ((xss.take k).flatten).length + xs.length := by
  rw [List.take_add_one, hx, List.flatten_append]; simp

set_option maxRecDepth 100000 in
set_option maxHeartbeats 1000000 in
theorem concat_any (b c n S : Nat) (xss : List (List Int)) (w : World) (hv : PView w b xss) (hl : xss.length = n) (hn : n ≤ 3) (hS : (xss.flatten).length = S) (h0 : 1 ≤ S) (h1 : S ≤ 180) :
    Calls Try.prog 104 #[.slice (some ⟨b, 0, none⟩) n c] w fun e w' => ∃ g D, e = .returned (.slice (some ⟨g, 0, none⟩) S D) ∧ w'.ownsRow w.heap.size 3 1 (.slice (some ⟨g, 0, none⟩) S D) S ((xss.flatten).map (Value.int .i64)) ∧ Below w.heap.size w w' := by
  obtain ⟨i0, hi0, hz0, hz1, hz2⟩ := info_parts Try.infoInt
  have HV := Lib.hid hv
  have HL := Lib.hid hl
  have HS := Lib.hid hS
  obtain ⟨L, hL⟩ : ∃ L, xss.flatten = L := ⟨_, rfl⟩
  have HLf := Lib.hid hL
  rw [hL]
  have HGr := Lib.hid (grow_nil S w h0 (by omega))
  have HLe := Lib.hid (fun k => flat_len_le (xss := xss) k)
  clear hv hl hS hL
  go_enter Try.func104, Try.ntmps104
  go_wp2
  go_loop [3, 5, 11] (fun s _ i => ∃ k t : Nat, k ≤ n ∧ i = .int .i64 (k : Int) ∧ s = .int .i64 (t : Int) ∧ t ≤ S ∧ Hid (t = ((xss.take k).flatten).length)) (fun _ _ i => n - (intOf i).toNat)
  case atStart => exact ⟨0, 0, Nat.zero_le _, rfl, rfl, Nat.zero_le _, rfl⟩
  case round =>
    obtain ⟨k, t, hk, rfl, rfl, htS, HT⟩ := hrel
    by_cases hlt : k < n
    · obtain ⟨xs, hxs⟩ := get_of_lt HL.out hlt
      obtain ⟨g, p, m, c', c0, hm, _⟩ := HV.out k xs hxs
      have hst := flat_len_step hxs
      have hle := HLe.out (k + 1)
      rw [hst, ← HT.out, hm, HS.out] at hle
      have HN : Hid (t + m = ((xss.take (k + 1)).flatten).length) := by unfold Hid; rw [hst, ← HT.out, hm]
      have hkn : (k : Int) < (n : Int) := by omega
      have htm : ¬ ((t : Int) + (m : Int)) < 0 := by omega
      clear hxs hm hst
      go_wp2
      go_round
      case rel => exact ⟨k + 1, t + m, by omega, by go_num, by go_num, hle, HN⟩
      case measure => simp [intOf]; omega
    · have hkn : ¬ (k : Int) < (n : Int) := by omega
      obtain rfl : t = S := by rw [HT.out, List.take_of_length_le (by have := HL.out; omega), HS.out]
      go_wp2_with fail
      refine HGr.out.mono ?_
      rintro e w1 ⟨g, D, rfl, ho1, b1⟩
      have HO1 := Lib.hid ho1
      have HB1 := Lib.hid b1
      clear ho1 b1
      go_wp2_with fail
      go_loopw [6, 8, 27] (fun v _ i wr => ∃ (k g t D : Nat), k ≤ n ∧ i = .int .i64 (k : Int) ∧ v = .slice (some ⟨g, 0, none⟩) t D ∧ t ≤ 180 ∧ Hid (wr.ownsRow w.heap.size 3 1 (.slice (some ⟨g, 0, none⟩) t D) t (((xss.take k).flatten).map (Value.int .i64))) ∧ Hid (Below w.heap.size w wr)) (fun _ _ i _ => n - (intOf i).toNat)
      case atStart => exact ⟨0, g, 0, D, Nat.zero_le _, rfl, rfl, by omega, HO1, HB1⟩
      case round =>
        obtain ⟨k, g, q, D, hk, rfl, rfl, hq, HR, HBr⟩ := hrel
        by_cases hlt : k < n
        · obtain ⟨xs, hxs⟩ := get_of_lt HL.out hlt
          obtain ⟨g2, p, m, c', c0, hm, hc⟩ := HV.out k xs hxs
          have c1 : wr.cell? ⟨b, k, none⟩ = some (.slice (some ⟨g2, p, none⟩) m c') := cell_b HBr.out c0
          have hql : ((xss.take k).flatten).length = q := by have h_ := HR.out.1; rw [List.length_map] at h_; omega
          have hst := flat_len_step hxs
          have hle := HLe.out (k + 1)
          rw [hst, hql, hm, HS.out] at hle
          have HXs := Lib.hid hxs
          have HM := Lib.hid hm
          have hkn : (k : Int) < (n : Int) := by omega
          have hcs : ∀ (j : Nat) (u : Value), (xs.map (Value.int .i64))[j]? = some u → wr.cell? ((⟨g2, p, none⟩ : Addr).add j) = some u := by
            intro j u hu
            rw [List.getElem?_map] at hu
            obtain ⟨y, hy, rfl⟩ := Option.map_eq_some_iff.1 hu
            rw [show (⟨g2, p, none⟩ : Addr).add j = ⟨g2, p + j, none⟩ by unfold Addr.add; split <;> simp_all]
            exact cell_b HBr.out (hc j y hy)
          have HCs := Lib.hid hcs
          clear hxs hm hc c0 hql hst hcs
          go_wp2_with (at_builtin; refine wpList_append_own _ rfl _ _ 25 rfl w.heap.size 3 i0 (.int .i64 0) 1 8 Try.underlying25 hi0 hz0 hz1 hz2 rfl (by decide) (.slice (some ⟨g, 0, none⟩) q D) q (((xss.take k).flatten).map (Value.int .i64)) rfl HR.out ⟨g2, p, none⟩ m c' (xs.map (Value.int .i64)) rfl (by rw [List.length_map, HM.out]; omega) HCs.out (fun x hx => by obtain ⟨y, _, rfl⟩ := List.mem_map.1 hx; rfl) (by unfold maxLen; omega) (by omega) HBr.out.size ?_; intro v' w3 hown' hgrow' hnil')
          obtain ⟨g3, cap, rfl⟩ := own_some (g := 0) (c := 0) hown' (fun e => by have := (hnil'.1 e).1; cases this)
          have HB3 := Lib.hid (HBr.out.grown hgrow' HBr.out.size (fun r hr => (HR.out.lt r hr).1))
          have HO3 : Hid (w3.ownsRow w.heap.size 3 1 (.slice (some ⟨g3, 0, none⟩) (q + m) cap) (q + m) (((xss.take (k + 1)).flatten).map (Value.int .i64))) := by
            unfold Hid
            rw [← flat_step HXs.out, List.map_append]; exact hown'
          clear hown' hgrow' hnil'
          go_wp2_with fail
          go_roundw
          case rel => exact ⟨k + 1, g3, q + m, cap, by omega, by go_num, rfl, by omega, HO3, HB3⟩
          case measure => simp [intOf]; omega
        · have hkn : ¬ (k : Int) < (n : Int) := by omega
          have hR := HR.out
          rw [List.take_of_length_le (by have := HL.out; omega)] at hR
          have hqS : q = t := by have h_ := hR.1; have h2 := HS.out; rw [List.length_map] at h_; omega
          subst hqS
          rw [HLf.out] at hR
          have HRf := Lib.hid hR
          clear hR
          go_wp2
          go_ret
          exact ⟨g, D, rfl, HRf.out, HBr.out⟩

end Go.Proofs.Ytplheohkecooeaa
