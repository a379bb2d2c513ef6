/-
  Contracts: impl.FirstOnto. Conditions: none beyond the views.
-/
import Derived.Test.YtcioekhlhgkkiaaOneS
namespace Go.Proofs.Ytcioekhlhgkkiaa
open Go.RowKit Go.Shelf
set_option linter.unusedVariables false
set_option linter.unusedSimpArgs false

set_option maxHeartbeats 1000000 in
theorem images_any (f : Nat → Int) (w : World) (hf : ∀ k, k < 8 → f k = -1 ∨ (0 ≤ f k ∧ f k < 8)) :
    Calls Try.prog 74 #[.agg (arrV f)] w fun e w' => e = .returned (.int .u64 (setG f 8 : Int)) ∧ Below w.heap.size w w' := by
  have HA := Lib.hid (ArrAt.new w f)
  have hB := Lib.hid (below_alloc w (.cells (arrV f) 57))
  have HF := Lib.hid hf
  have HLt := Lib.hid (setG_lt hf)
  clear hf
  go_enter Try.func74, Try.ntmps74
  go_wp2_with (refine ld8 HA.out rfl _ rfl rfl ?_)
  go_loop [3, 7] (fun s i => ∃ k v : Nat, k ≤ 8 ∧ i = .int .i64 (k : Int) ∧ s = .int .u64 (v : Int) ∧ Hid (v = setG f k)) (fun _ i => 8 - (intOf i).toNat)
  case atStart => exact ⟨0, 0, by omega, rfl, rfl, rfl⟩
  case round =>
    obtain ⟨k, v, hk, rfl, rfl, HVal⟩ := hrel
    by_cases hlt : k < 8
    · have hkn : (k : Int) < 8 := by omega
      have hix := fun W => run_index8 f hlt W
      have hb := HF.out k hlt
      have HVl : Hid (v < 2 ^ 8) := by unfold Hid; rw [HVal.out]; exact HLt.out k hk
      obtain ⟨x, hx⟩ : ∃ x, f k = x := ⟨_, rfl⟩
      simp only [hx] at hix hb
      have HX := Lib.hid hx
      clear hx
      by_cases hm1 : x = -1
      · have n1 : (x != -1) = false := by simp [hm1]
        have HN : Hid (v = setG f (k + 1)) := by unfold Hid; rw [setG_no (by rw [HX.out]; exact hm1)]; exact HVal.out
        clear hb hm1
        go_wp2_with fail
        go_round
        case rel => exact ⟨k + 1, v, by omega, by go_num, rfl, HN⟩
        case measure => simp [intOf]; omega
      · have n1 : (x != -1) = true := by simp [hm1]
        obtain ⟨x0, x1⟩ : 0 ≤ x ∧ x < 8 := by rcases hb with h | h; exact absurd h hm1; exact h
        have HN : Hid (v ||| 2 ^ x.toNat = setG f (k + 1)) := by unfold Hid; rw [setG_yes (by rw [HX.out]; exact hm1), HX.out, HVal.out]
        clear hb hm1
        go_wp2_with fail
        go_round
        case rel => exact ⟨k + 1, v ||| 2 ^ x.toNat, by omega, by go_num, by rw [put_set HVl.out x0 x1], HN⟩
        case measure => simp [intOf]; omega
    · have hkn : ¬ (k : Int) < 8 := by omega
      obtain rfl : k = 8 := by omega
      go_wp2_with fail
      go_ret
      exact ⟨ret_set (by rw [HVal.out]), hB.out⟩

theorem allEl_any (n : Int) (w : World) (h1 : 1 ≤ n) (h8 : n ≤ 8) :
    Calls Try.prog 82 #[.int .i64 n] w fun e w' => e = .returned (.int .u64 ((2 ^ n.toNat - 1 : Nat) : Int)) ∧ w = w' := by
  have h : n = 1 ∨ n = 2 ∨ n = 3 ∨ n = 4 ∨ n = 5 ∨ n = 6 ∨ n = 7 ∨ n = 8 := by omega
  rcases h with rfl | rfl | rfl | rfl | rfl | rfl | rfl | rfl
  · go_enter Try.func82, Try.ntmps82
    go_wp2
    go_ret
    exact ⟨rfl, rfl⟩
  · go_enter Try.func82, Try.ntmps82
    go_wp2
    go_ret
    exact ⟨rfl, rfl⟩
  · go_enter Try.func82, Try.ntmps82
    go_wp2
    go_ret
    exact ⟨rfl, rfl⟩
  · go_enter Try.func82, Try.ntmps82
    go_wp2
    go_ret
    exact ⟨rfl, rfl⟩
  · go_enter Try.func82, Try.ntmps82
    go_wp2
    go_ret
    exact ⟨rfl, rfl⟩
  · go_enter Try.func82, Try.ntmps82
    go_wp2
    go_ret
    exact ⟨rfl, rfl⟩
  · go_enter Try.func82, Try.ntmps82
    go_wp2
    go_ret
    exact ⟨rfl, rfl⟩
  · go_enter Try.func82, Try.ntmps82
    go_wp2
    go_ret
    exact ⟨rfl, rfl⟩


theorem onto_bits {l zb : Nat} {f : Nat → Int} (hf : Full (l : Int) (zb : Int) f) (ho : ∀ k : Nat, (l : Int) ≤ (k : Int) → f k = -1) (hl : l ≤ 8) : decide (setG f 8 = 2 ^ zb - 1) = wantB l zb true f := by
  have hw : wantB l zb true f = ontoB zb (lstP l f) := by unfold wantB; simp
  rw [hw]
  have hm : ∀ y : Nat, (setG f 8).testBit y = true ↔ ((y : Int) ∈ lstP l f) := by
    intro y
    rw [setG_bit]
    constructor
    · rintro ⟨i, a, b, c⟩
      have hil : i < l := by
        rcases Nat.lt_or_ge i l with h | h
        · exact h
        · exact absurd (ho i (by omega)) b
      have := hf i (by omega)
      exact List.mem_map.2 ⟨i, List.mem_range.2 hil, by omega⟩
    · intro h
      obtain ⟨i, hi, e⟩ := List.mem_map.1 h
      have hil := List.mem_range.1 hi
      exact ⟨i, by omega, by omega, by omega⟩
  by_cases he : setG f 8 = 2 ^ zb - 1
  · rw [decide_eq_true he]
    refine (ontoB_yes fun y hy => (hm y).1 ?_).symm
    rw [he, Nat.testBit_two_pow_sub_one, decide_eq_true hy]
  · rw [decide_eq_false he]
    by_cases hn : ∀ y, y < zb → (y : Int) ∈ lstP l f
    · refine absurd (Nat.eq_of_testBit_eq fun y => ?_) he
      rw [Nat.testBit_two_pow_sub_one]
      by_cases hy : y < zb
      · rw [decide_eq_true hy]; exact (hm y).2 (hn y hy)
      · rw [decide_eq_false hy, ← Bool.not_eq_true]
        intro hb
        obtain ⟨i, hi, e⟩ := List.mem_map.1 ((hm y).1 hb)
        have hil := List.mem_range.1 hi
        have := hf i (by omega)
        omega
    · obtain ⟨y, hy⟩ := Classical.not_forall.1 hn
      obtain ⟨h1, h2⟩ := Classical.not_imp.1 hy
      exact (ontoB_no h1 h2).symm

set_option maxHeartbeats 1000000 in
set_option maxRecDepth 100000 in
theorem ontoTake_any (l zb q : Nat) (f : Nat → Int) (W : World) (hf : Full (l : Int) (zb : Int) f) (ho : ∀ k : Nat, (l : Int) ≤ (k : Int) → f k = -1) (hl : l ≤ 8) (k1 : 1 ≤ zb) (k2 : zb ≤ 8) (hq : W.cell? ⟨q, 0, none⟩ = some (.int .i64 (zb : Int))) :
    Calls Try.prog 81 (#[.agg (arrV f)] ++ #[.pointer (some ⟨q, 0, none⟩)]) W fun e W' => e = .returned (.bool (wantB l zb true f)) ∧ Below W.heap.size W W' := by
  obtain ⟨w1, hw1⟩ : ∃ w1, w1 = W.alloc (.cells (arrV f) 57) := ⟨_, rfl⟩
  have hb1 : Below W.heap.size W w1 := by rw [hw1]; exact below_alloc _ _
  have HA : Hid (ArrAt w1 W.heap.size f) := by unfold Hid; rw [hw1]; exact ArrAt.new _ _
  have HB := Lib.hid hb1
  have hc : w1.cell? ⟨q, 0, none⟩ = some (.int .i64 (zb : Int)) := cell_b hb1 hq
  have HC := Lib.hid hc
  have HI := Lib.hid (fun V => images_any f V (fun k hk => by
    by_cases hkl : k < l
    · have := hf k (by omega); exact .inr ⟨this.1, by omega⟩
    · exact .inl (ho k (by omega))))
  have hL := fun V => allEl_any (zb : Int) V (by omega) (by omega)
  simp only [Int.toNat_natCast] at hL
  have hbits := onto_bits hf ho hl
  obtain ⟨r, hr⟩ : ∃ r, wantB l zb true f = r := ⟨_, rfl⟩
  rw [hr] at hbits ⊢
  obtain ⟨s, hs⟩ : ∃ s, setG f 8 = s := ⟨_, rfl⟩
  obtain ⟨p, hp⟩ : ∃ p, 2 ^ zb - 1 = p := ⟨_, rfl⟩
  simp only [hp] at hL
  simp only [hs] at HI
  rw [hs, hp] at hbits
  have HL := Lib.hid hL
  have hE : ((s : Int) == (p : Int)) = r := by
    rw [← hbits]
    by_cases h : s = p
    · subst h; simp
    · rw [decide_eq_false h, beq_eq_false_iff_ne]; omega
  clear hf ho hbits hr hs hp hL hb1 hq
  show Calls _ _ #[.agg (arrV f), .pointer (some ⟨q, 0, none⟩)] _ _
  go_enter Try.func81, Try.ntmps81
  go_wp2_with fail
  rw [← hw1]
  clear hw1
  refine wp_region_noPanic ?_
  refine wp_region_held_drew (S := fun V => ArrAt V W.heap.size f ∧ V.cell? ⟨q, 0, none⟩ = some (.int .i64 (zb : Int))) (by kernel_rfl) ?_ (fun hHeld => ?_)
  · exact ⟨HA.out, HC.out⟩
  refine wpAnyH_take (i := 0) (oi := ⟨_, _, _, _, _, _⟩) rfl (by kernel_rfl) (by kernel_rfl) (by kernel_rfl) (fun _ _ _ h => h) (ld8Y rfl _ rfl rfl (fun _ h => h.1)) (by assumption) ?_
  (try simp only [Act.put, List.setIfInBounds_toArray, List.set_cons_zero, List.set_cons_succ])
  refine wpAnyH_take (i := 2) (oi := ⟨_, _, _, _, _, _⟩) (v := ?_) rfl (by kernel_rfl) (by kernel_rfl) (by kernel_rfl) (fun _ _ _ h => h) (Or.inl ⟨rfl, ?_⟩) (by assumption) ?_
  rotate_left 1
  · intro w_ hSw; (try dsimp only at hSw); go_simp; (try with_reducible rfl)
  (try simp only [Act.put, List.setIfInBounds_toArray, List.set_cons_zero, List.set_cons_succ])
  refine wpAnyH_take (i := 3) (oi := ⟨_, _, _, _, _, _⟩) (v := ?_) rfl (by kernel_rfl) (by kernel_rfl) (by kernel_rfl) (fun _ _ _ h => h) (Or.inl ⟨rfl, ?_⟩) (by assumption) ?_
  rotate_left 1
  · intro w_ hSw; (try dsimp only at hSw); go_simp; (try with_reducible rfl)
  (try simp only [Act.put, List.setIfInBounds_toArray, List.set_cons_zero, List.set_cons_succ])
  refine wpAnyH_ready (rs := [1]) (by kernel_rfl) (by simp) ?_
  refine AllReadyH.cons (o := ⟨_, _, _, _, _, _⟩) rfl (fun K hK => ?_) AllReadyH.nil
  go_simp
  go_at_call 74
  refine (HI.out _).mono ?_
  rintro e w3 ⟨rfl, b3⟩
  have b3' : Below w1.heap.size w1 w3 := (below_drew w1).trans b3
  have HA3 : Hid (ArrAt w3 W.heap.size f) := HA.out.below b3' HA.out.lt
  have HC3 : Hid (w3.cell? ⟨q, 0, none⟩ = some (.int .i64 (zb : Int))) := cell_b b3' HC.out
  have HB3 : Hid (Below W.heap.size W w3) := HB.out.trans (b3'.mono HB.out.size)
  clear b3 b3'
  refine hK.out _ _ ?_ (fun hHeld => ?_)
  · exact ⟨HA3.out, HC3.out⟩
  clear hK K
  (try simp only [Act.put, List.setIfInBounds_toArray, List.set_cons_zero, List.set_cons_succ])
  refine wpAnyH_ready (rs := [4]) (by kernel_rfl) (by simp) ?_
  refine AllReadyH.cons (o := ⟨_, _, _, _, _, _⟩) rfl (fun K hK => ?_) AllReadyH.nil
  go_simp
  go_at_call 82
  refine (HL.out _).mono ?_
  rintro e w4 ⟨rfl, rfl⟩
  refine hK.out _ _ ?_ (fun hHeld => ?_)
  · exact ⟨HA3.out, HC3.out⟩
  clear hK K
  (try simp only [Act.put, List.setIfInBounds_toArray, List.set_cons_zero, List.set_cons_succ])
  refine wpAnyH_take (i := 5) (oi := ⟨_, _, _, _, _, _⟩) (v := ?_) rfl (by kernel_rfl) (by kernel_rfl) (by kernel_rfl) (fun _ _ _ h => h) (Or.inl ⟨rfl, ?_⟩) (by assumption) ?_
  rotate_left 1
  · intro w_ hSw; (try dsimp only at hSw); go_simp; (try with_reducible rfl)
  (try simp only [Act.put, List.setIfInBounds_toArray, List.set_cons_zero, List.set_cons_succ])
  refine wpAnyH_take (i := 6) (oi := ⟨_, _, _, _, _, _⟩) (v := ?_) rfl (by kernel_rfl) (by kernel_rfl) (by kernel_rfl) (fun _ _ _ h => h) (Or.inl ⟨rfl, ?_⟩) (by assumption) ?_
  rotate_left 1
  · intro w_ hSw; (try dsimp only at hSw); go_simp; (try with_reducible rfl)
  (try simp only [Act.put, List.setIfInBounds_toArray, List.set_cons_zero, List.set_cons_succ])
  refine wpAnyH_done (by kernel_rfl) ?_ _
  refine NoPanic.normal ?_
  go_wp2_with fail
  go_ret
  exact ⟨by first | rfl | (rw [hE]; rfl), HB3.out⟩

set_option maxHeartbeats 1000000 in
theorem implFirstOnto (lo hi : Nat) (z : Int) (ao : Option Addr) (c n : Nat) (fs : List OpD) (lo2 hi2 : Nat) (z1 : Int) (bo : Option Addr) (d m : Nat) (gs : List OpD) (w : World) (hv : OView w lo hi ao n fs) (hhi : hi ≤ w.heap.size) (hs : ∀ (j : Nat) (f : OpD), fs[j]? = some f → f.2.length ≤ maxLen) (hu : OView w lo2 hi2 bo m gs) (hhi2 : hi2 ≤ w.heap.size) (hs2 : ∀ (j : Nat) (f : OpD), gs[j]? = some f → f.2.length ≤ maxLen) :
    Calls Try.prog 45 #[.agg #[.int .i64 z, .slice ao n c], .agg #[.int .i64 z1, .slice bo m d]] w fun e w' => ResL w w' (valFirstOnto z fs z1 gs).1 (valFirstOnto z fs z1 gs).2 e := by
  unfold valFirstOnto
  obtain ⟨w1, hw1, hbx, hsz⟩ := bx2_new w z ao n c z1 bo m d 31
  have HBx := Lib.hid hbx
  have eL : ∀ args w, (callFunc 78 args).run Try.prog w = .ok (.enter 78 args) w := enters_of Try.func78 (by kernel_rfl) rfl
  have eW : ∀ args w, (callFunc 81 args).run Try.prog w = .ok (.enter 81 args) w := enters_of Try.func81 (by kernel_rfl) rfl
  have hI := fun (W : World) (hW : Bx2 w W z ao n c z1 bo m d) => fst_run lo hi z ao c n fs lo2 hi2 z1 bo d m gs false true 78 81 #[.pointer (some ⟨w.heap.size + 1, 0, none⟩)] W (hv.kept (Kept.of_below hW.bel hhi)) (Nat.le_trans hhi hW.bel.size) hs (hu.kept (Kept.of_below hW.bel hhi2)) (Nat.le_trans hhi2 hW.bel.size) hs2 eL eW
    (fun l zb V f h8 z8 hp ho => by
      have e : leadB false f = true := by unfold leadB; simp
      rw [e]; exact anyMap_any f V)
    (fun l zb V f e1 l1 l8 k1 k2 hb hf ho => ontoTake_any l zb (w.heap.size + 1) f V hf ho l8 k1 k2 (by rw [e1]; exact cell_b hb hW.z1))
  obtain ⟨cz, ca, cz1, ca1, cB⟩ := hbx
  have hgd := runV_good false true z fs z1 gs
  obtain ⟨rs, hrs⟩ : ∃ rs, runV false true z fs z1 gs = rs := ⟨_, rfl⟩
  obtain ⟨ok, hok⟩ : ∃ ok, decide (rs.1 ≤ 5000) = ok := ⟨_, rfl⟩
  simp only [hrs, hok] at hI hgd
  rw [hrs]
  have HI := Lib.hid hI
  have HGd := Lib.hid hgd
  clear hI cB hv hu hs hs2 hrs hok eL eW hgd
  go_enter Try.func45, Try.ntmps45
  go_wp2_with fail
  rw [← hw1]
  clear hw1
  go_wp2_with fail
  refine (HI.out _ HBx.out).mono ?_
  rintro e w2 hr2
  obtain ⟨v, fd, rfl, b2, ho2⟩ := hr2.outer HBx.out.bel
  have HF := Lib.hid (And.intro b2 ho2)
  clear b2 ho2 cz ca cz1 ca1 hr2
  go_wp2_with fail
  go_ret2
  exact fst_resL HGd.out HF.out.1 HF.out.2

end Go.Proofs.Ytcioekhlhgkkiaa
