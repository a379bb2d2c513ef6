/-
  Contract: spec.l3Asked. Conditions: the bounds that it names.
-/
import Derived.Test.YteealelfghimbaaTwo
import Derived.Test.YteealelfghimbaaVarsOf
import Derived.Test.YteealelfghimbaaDig6
import Derived.Test.YteealelfghimbaaIdn
import Derived.Test.YteealelfghimbaaWith
import Derived.Deep.RegionLaw
namespace Go.Proofs.Yteealelfghimbaa
open Go.RowKit
set_option linter.unusedVariables false
set_option linter.unusedSimpArgs false
attribute [local go_sem ↓] Go.wp_at_zero Go.wp_at_succ

theorem cells_add {W : World} {b o : Nat} {ys : List Int} (h : ∀ j y, ys[j]? = some y → W.cell? ⟨b, o + j, none⟩ = some (.int .i64 y)) : ∀ j y, ys[j]? = some y → W.cell? ((⟨b, o, none⟩ : Addr).add j) = some (.int .i64 y) := fun j y hj => by
  have h1 := h j y hj
  by_cases hj0 : j = 0
  · subst hj0; rw [Nat.add_zero] at h1; simpa [Addr.add] using h1
  · simpa [Addr.add, hj0] using h1

/-- Whether two terms can be checked for an identity. -/
def askT (z : Int) (fs : List OpD) (xs ys : List Int) : Bool := (termB fs xs && termB fs ys) && decide (powI z (varsL (xs ++ ys)).length ≤ 5000)

set_option maxRecDepth 100000 in
set_option maxHeartbeats 4000000 in
theorem l3Asked_any (lo hi : Nat) (z : Int) (ao : Option Addr) (c n : Nat) (fs : List OpD) (lo2 hi2 : Nat) (bo : Option Addr) (d m : Nat) (xs : List Int) (lo3 hi3 : Nat) (co : Option Addr) (d2 m2 : Nat) (ys : List Int) (w : World) (hv : OView w lo hi ao n fs) (hhi : hi ≤ w.heap.size) (hok : algOkB z fs = true)
    (hx : IView w lo2 hi2 bo m xs) (hhi2 : hi2 ≤ w.heap.size) (hmd : m ≤ d) (hm : d ≤ maxLen)
    (hy : IView w lo3 hi3 co m2 ys) (hhi3 : hi3 ≤ w.heap.size) (hmd2 : m2 ≤ d2) (hm2 : d2 ≤ maxLen) :
    Calls Try.prog 83 #[.agg #[.int .i64 z, .slice ao n c], .agg #[.slice bo m d, .slice co m2 d2]] w fun e w' => e = .returned (.bool (askT z fs xs ys)) ∧ Below w.heap.size w w' := by
  have HG1 := fun (W : World) (hb : Below w.heap.size w W) => l3Good_any lo hi lo2 hi2 z ao bo c n d m fs xs W (hv.kept (Kept.of_below hb hhi)) (Nat.le_trans hhi hb.size) hok (hx.kept (Kept.of_below hb hhi2)) (Nat.le_trans hhi2 hb.size) (Nat.le_trans hmd hm)
  have HG2 := fun (W : World) (hb : Below w.heap.size w W) => l3Good_any lo hi lo3 hi3 z ao co c n d2 m2 fs ys W (hv.kept (Kept.of_below hb hhi)) (Nat.le_trans hhi hb.size) hok (hy.kept (Kept.of_below hb hhi3)) (Nat.le_trans hhi3 hb.size) (Nat.le_trans hmd2 hm2)
  have HB := Lib.hid (below_then (below_alloc w (.cells #[.int .i64 z, .slice ao n c] 31)) (below_alloc _ (.cells #[.slice bo m d, .slice co m2 d2] 44)))
  obtain ⟨r, hr⟩ : ∃ r, termB fs xs = r := ⟨_, rfl⟩
  obtain ⟨s, hs⟩ : ∃ s, termB fs ys = s := ⟨_, rfl⟩
  unfold askT
  simp only [hr] at HG1 ⊢
  simp only [hs] at HG2 ⊢
  have HG1 := Lib.hid HG1
  have HG2 := Lib.hid HG2
  cases r with
  | false =>
    simp only [Bool.false_and]
    clear hv hx hy hr hs
    go_enter Try.func83, Try.ntmps83
    go_wp2_with fail
    refine (HG1.out _ HB.out).mono ?_
    rintro e w1 ⟨rfl, b1⟩
    have HB1 := Lib.hid (HB.out.trans (b1.mono HB.out.size))
    clear b1
    go_wp2_with fail
    go_ret
    exact ⟨rfl, HB1.out⟩
  | true =>
    cases s with
    | false =>
      simp only [Bool.and_false, Bool.false_and]
      clear hv hx hy hr hs
      go_enter Try.func83, Try.ntmps83
      go_wp2_with fail
      refine (HG1.out _ HB.out).mono ?_
      rintro e w1 ⟨rfl, b1⟩
      have cz1 : w1.cell? ⟨w.heap.size, 0, none⟩ = some (.int .i64 z) := cell_b b1 (by go_simp)
      have ca1 : w1.cell? ⟨w.heap.size, 1, none⟩ = some (.slice ao n c) := cell_b b1 (by go_simp)
      have cj1 : w1.cell? ⟨w.heap.size + 1, 1, none⟩ = some (.slice co m2 d2) := cell_b b1 (by go_simp)
      have HB1 := Lib.hid (HB.out.trans (b1.mono HB.out.size))
      clear b1
      go_wp2_with fail
      refine (HG2.out _ HB1.out).mono ?_
      rintro e w2 ⟨rfl, b2⟩
      have HB2 := Lib.hid (HB1.out.trans (b2.mono HB1.out.size))
      clear b2
      go_wp2_with fail
      go_ret
      exact ⟨rfl, HB2.out⟩
    | true =>
      simp only [Bool.and_self, Bool.true_and]
      obtain ⟨_, h60, hend⟩ := isTermB_of (show isTermB z fs xs = true by simp [isTermB, hok, hr])
      obtain ⟨_, h602, hend2⟩ := isTermB_of (show isTermB z fs ys = true by simp [isTermB, hok, hs])
      obtain ⟨hz1, hz2⟩ := (algOkB_of hok).1
      have hlt : ∀ x, x ∈ xs ++ ys → x < 6 := fun x hxx => by
        rcases List.mem_append.1 hxx with hxx | hxx
        · obtain ⟨j, hj⟩ := List.getElem?_of_mem hxx
          exact (term_lt hok hend hj).1
        · obtain ⟨j, hj⟩ := List.getElem?_of_mem hxx
          exact (term_lt hok hend2 hj).1
      have hlx := hx.1
      have hly := hy.1
      have hm0 : 0 < m := by have := term_pos hend; omega
      have hm20 : 0 < m2 := by have := term_pos hend2; omega
      have hm60 : m ≤ 60 := by omega
      have hm260 : m2 ≤ 60 := by omega
      obtain ⟨b, o, rfl, _, _, hcx⟩ := hx.at_ hm0
      obtain ⟨b', o', rfl, _, _, hcy⟩ := hy.at_ hm20
      have HOwn := Lib.hid (fun (W : World) (hb : Below w.heap.size w W) => own_part b o m d xs W hlx (fun j x hj => cell_b hb (hcx j x hj)) (by omega))
      have HCy := Lib.hid hcy
      have HLy := Lib.hid hly
      have hL6 := varsL_len (xs ++ ys)
      have hvf := varsF_eq hlt
      have HVs := fun (g k c : Nat) (W : World) (hr : W.ownsRow w.heap.size 3 1 (.slice (some ⟨g, 0, none⟩) k c) k ((xs ++ ys).map (Value.int .i64))) (hk : k ≤ 1048576) => l3Vars_any w.heap.size W.heap.size (some ⟨g, 0, none⟩) c k (xs ++ ys) W (OwnsInts.of_row hr).view (Nat.le_refl _) hk
      simp only [hvf] at HVs
      obtain ⟨L, hL⟩ : ∃ L, (varsL (xs ++ ys)).length = L := ⟨_, rfl⟩
      rw [hL] at hL6
      simp only [hL] at HVs ⊢
      have HVs := Lib.hid HVs
      have HPb := Lib.hid (fun (k : Nat) (hk : k ≤ L) => powI_bd6 hz1 hz2 (k := k) (by omega))
      clear hv hx hy hr hs hok hend hend2 hlt hcx hcy hvf hL hlx hly
      go_enter Try.func83, Try.ntmps83
      go_wp2_with fail
      refine (HG1.out _ HB.out).mono ?_
      rintro e w1 ⟨rfl, b1⟩
      have cz1 : w1.cell? ⟨w.heap.size, 0, none⟩ = some (.int .i64 z) := cell_b b1 (by go_simp)
      have ca1 : w1.cell? ⟨w.heap.size, 1, none⟩ = some (.slice ao n c) := cell_b b1 (by go_simp)
      have ci1 : w1.cell? ⟨w.heap.size + 1, 0, none⟩ = some (.slice (some ⟨b, o, none⟩) m d) := cell_b b1 (by go_simp)
      have cj1 : w1.cell? ⟨w.heap.size + 1, 1, none⟩ = some (.slice (some ⟨b', o', none⟩) m2 d2) := cell_b b1 (by go_simp)
      have HB1 := Lib.hid (HB.out.trans (b1.mono HB.out.size))
      clear b1
      go_wp2_with fail
      refine (HG2.out _ HB1.out).mono ?_
      rintro e w2 ⟨rfl, b2⟩
      have cz2 := cell_b b2 cz1
      have ci2 := cell_b b2 ci1
      have cj2 := cell_b b2 cj1
      have HB2 := Lib.hid (HB1.out.trans (b2.mono HB1.out.size))
      have hs2 := HB2.out.size
      clear b2 cz1 ca1 ci1 cj1
      go_wp2_with fail
      go_region_law ((first
        | (go_simp
           go_at_call 108
           refine (HOwn.out _ ?_).mono ?_
           exact below_then HB2.out (below_drew _)
           rintro e w3 ⟨g, dd, rfl, ho, b3⟩
           have B3 : Below w2.heap.size w2 w3 := below_then (below_drew _) b3
           have HO3 : Hid (w3.ownsRow w2.heap.size 3 1 (.slice (some ⟨g, 0, none⟩) m dd) m (xs.map (Value.int .i64))) := ho
           have cz3 := cell_b B3 cz2
           have cj3 := cell_b B3 cj2
           have hs3 := B3.size
           have HB3 := Lib.hid (below_then HB2.out B3)
           clear ho b3 B3)
        | (refine step_append_ints ?_ _ _ rfl w2.heap.size g m dd xs ?_ ?_ ⟨b', o', none⟩ m2 d2 ys ?_ HLy.out ?_ ?_ ?_ ?_
           (focus (rfl; done))
           (focus (rfl; done))
           (focus (exact HO3.out))
           (focus (rfl; done))
           (focus (exact cells_add (fun j y hj => cell_b HB3.out (HCy.out j y hj))))
           (focus (omega; done))
           (focus (omega; done))
           intro gC cC wC hC hgC hatC
           have hgl := (HO3.out.lt g rfl)
           have bC : Below w.heap.size w wC := HB3.out.grown hgC (by omega) (by intro q hq; cases hq; omega)
           have hwl : w.heap.size < w2.heap.size := World.block_lt_of_cell? w2 _ cz2
           have hwl3 : w.heap.size < w3.heap.size := World.block_lt_of_cell? w3 _ cz3
           have h_ := hgC.block w.heap.size hwl3 (by intro h_; injection h_ with h_; omega)
           have czC : wC.cell? ⟨w.heap.size, 0, none⟩ = some (.int .i64 z) := (show wC.cell? ⟨w.heap.size, 0, none⟩ = w3.cell? ⟨w.heap.size, 0, none⟩ by simp only [World.cell?, h_]).trans cz3
           have HOC := Lib.hid (ownsRow_base hC hs2)
           have HBC := Lib.hid bC
           clear hC hgC hatC bC hgl h_ hwl hwl3)
        | (go_simp
           go_at_call 111
           refine (HVs.out _ _ _ _ HOC.out (by omega)).mono ?_
           rintro e w5 ⟨gv, mv, dv, rfl, rfl, hov, b5⟩
           have cz5 := cell_b b5 czC
           have HB5 := Lib.hid (below_then HBC.out b5)
           clear hov b5)))
      all_goals
        go_wp2_with fail
        go_loop [6, 7] (fun v i => ∃ (j : Nat) (x : Int), j ≤ mv ∧ v = .int .i64 x ∧ i = .int .i64 (j : Int) ∧ Hid (x = powI z j) ∧ 1 ≤ x ∧ x ≤ 262144) (fun _ i => mv - (intOf i).toNat)
        case atStart => exact ⟨0, 1, by omega, rfl, rfl, rfl, by omega, by omega⟩
        case round =>
          obtain ⟨j, x, hj, rfl, rfl, HX, hx0, hx1⟩ := hrel
          by_cases hlt : j < mv
          · have hb := HPb.out (j + 1) (by omega)
            have hmm : powI z (j + 1) = x * z := by rw [powI, HX.out]
            rw [hmm] at hb
            obtain ⟨hb1, hb2⟩ := hb
            have HM := Lib.hid hmm
            have hjm : (j : Int) < (mv : Int) := by omega
            clear hmm
            go_wp2
            go_round
            case rel => exact ⟨j + 1, x * z, by omega, rfl, by go_num, HM.out.symm, hb1, hb2⟩
            case measure => (simp [intOf]) <;> omega
          · obtain rfl : j = mv := by omega
            go_wp2
            go_ret
            exact ⟨by first | rfl | (rw [← HX.out]; done) | (rw [← HX.out]; rfl) | (rw [← HX.out]; simp), HB5.out⟩

end Go.Proofs.Yteealelfghimbaa
