/-
  Contracts: impl.searchHoms for any functions, impl.anyMap, the method isOneToOne of impl.partialMap. Conditions: the bounds that each theorem names.
-/
import Derived.Test.YtmlimbjpehjfnaaGoOn
import Derived.Test.YtmlimbjpehjfnaaSetB
namespace Go.Proofs.Ytmlimbjpehjfnaa
open Go.RowKit Go.Shelf
set_option linter.unusedVariables false
set_option linter.unusedSimpArgs false

theorem anyMap_any (f : Nat → Int) (W : World) : Calls Try.prog 48 #[.agg (arrV f)] W fun e W' => e = .returned (.bool true) ∧ Below W.heap.size W W' := by
  have HB := Lib.hid (below_alloc W (.cells (arrV f) 51))
  go_enter Try.func48, Try.ntmps48
  go_wp2
  go_ret
  exact ⟨rfl, HB.out⟩

/-- The images as a set. -/
def setG (f : Nat → Int) : Nat → Nat
  | 0 => 0
  | k + 1 => if f k = -1 then setG f k else setG f k ||| 2 ^ (f k).toNat
theorem setG_no {f : Nat → Int} {k : Nat} (h : f k = -1) : setG f (k + 1) = setG f k := by rw [setG, if_pos h]
theorem setG_yes {f : Nat → Int} {k : Nat} (h : ¬ f k = -1) : setG f (k + 1) = setG f k ||| 2 ^ (f k).toNat := by rw [setG, if_neg h]
theorem setG_lt {f : Nat → Int} (h : ∀ k, k < 8 → f k = -1 ∨ (0 ≤ f k ∧ f k < 8)) : ∀ k, k ≤ 8 → setG f k < 2 ^ 8 := by
  intro k
  induction k with
  | zero => intro _; exact Nat.two_pow_pos 8
  | succ k ih =>
    intro hk
    by_cases h1 : f k = -1
    · rw [setG_no h1]; exact ih (by omega)
    · rw [setG_yes h1]
      exact or_lt (ih (by omega)) (pow_lt_of (by rcases h k (by omega) with h2 | h2; exact absurd h2 h1; omega))
/-- No two of the first places have the same image. -/
def oneB (f : Nat → Int) : Nat → Bool
  | 0 => true
  | k + 1 => oneB f k && (decide (f k = -1) || !(setG f k).testBit (f k).toNat)
theorem oneB_open {f : Nat → Int} {k : Nat} (h : oneB f k = true) (h1 : f k = -1) : oneB f (k + 1) = true := by rw [oneB, h, h1]; rfl
theorem oneB_new {f : Nat → Int} {k : Nat} (h : oneB f k = true) (h1 : (setG f k).testBit (f k).toNat = false) : oneB f (k + 1) = true := by rw [oneB, h, h1]; simp
theorem oneB_twice {f : Nat → Int} {k : Nat} (h1 : ¬ f k = -1) (h2 : (setG f k).testBit (f k).toNat = true) : ∀ n, k < n → oneB f n = false := by
  intro n
  induction n with
  | zero => intro h; omega
  | succ n ih =>
    intro hk
    by_cases he : k = n
    · subst he; rw [oneB, h2, decide_eq_false h1]; simp
    · rw [oneB, ih (by omega)]; rfl

set_option maxHeartbeats 1000000 in
theorem oneToOne_any (f : Nat → Int) (W : World) (hf : ∀ k, k < 8 → f k = -1 ∨ (0 ≤ f k ∧ f k < 8)) :
    Calls Try.prog 34 #[.agg (arrV f)] W fun e W' => e = .returned (.bool (oneB f 8)) ∧ Below W.heap.size W W' := by
  have HA := Lib.hid (ArrAt.new W f)
  have hB := Lib.hid (below_alloc W (.cells (arrV f) 51))
  have HF := Lib.hid hf
  have HLt := Lib.hid (setG_lt hf)
  obtain ⟨r, hr⟩ : ∃ r, oneB f 8 = r := ⟨_, rfl⟩
  have HR := Lib.hid hr
  rw [hr]
  clear hf hr
  go_enter Try.func34, Try.ntmps34
  go_wp2_with (refine ld8 HA.out rfl _ rfl rfl ?_)
  go_loop [3, 7] (fun s i => ∃ k v : Nat, k ≤ 8 ∧ i = .int .i64 (k : Int) ∧ s = .int .u64 (v : Int) ∧ Hid (v = setG f k) ∧ Hid (oneB f k = true)) (fun _ i => 8 - (intOf i).toNat)
  case atStart => exact ⟨0, 0, by omega, rfl, rfl, rfl, rfl⟩
  case round =>
    obtain ⟨k, v, hk, rfl, rfl, HVal, HOne⟩ := hrel
    by_cases hlt : k < 8
    · have hkn : (k : Int) < 8 := by omega
      have hix := fun W => run_index8 f hlt W
      have hb := HF.out k hlt
      have HVl : Hid (v < 2 ^ 8) := by unfold Hid; rw [HVal.out]; exact HLt.out k hk
      obtain ⟨x, hx⟩ : ∃ x, f k = x := ⟨_, rfl⟩
      simp only [hx] at hix hb
      have HX := Lib.hid hx
      clear hx
      by_cases hm1 : x = -1
      · have n1 : (x == -1) = true := by simp [hm1]
        have HN : Hid (v = setG f (k + 1)) := by unfold Hid; rw [setG_no (by rw [HX.out]; exact hm1)]; exact HVal.out
        have HO2 : Hid (oneB f (k + 1) = true) := oneB_open HOne.out (by rw [HX.out]; exact hm1)
        clear hb hm1
        go_wp2_with fail
        go_round
        case rel => exact ⟨k + 1, v, by omega, by go_num, rfl, HN, HO2⟩
        case measure => simp [intOf]; omega
      · have n1 : (x == -1) = false := by simp [hm1]
        obtain ⟨x0, x1⟩ : 0 ≤ x ∧ x < 8 := by rcases hb with h | h; exact absurd h hm1; exact h
        have hH := fun w => has_any v x w HVl.out x0 x1
        obtain ⟨u, hu⟩ : ∃ u, v.testBit x.toNat = u := ⟨_, rfl⟩
        simp only [hu] at hH
        have HH := Lib.hid hH
        have HU : Hid ((setG f k).testBit (f k).toNat = u) := by unfold Hid; rw [HX.out, ← HVal.out]; exact hu
        have HN : Hid (v ||| 2 ^ x.toNat = setG f (k + 1)) := by unfold Hid; rw [setG_yes (by rw [HX.out]; exact hm1), HX.out, HVal.out]
        have HM1 : Hid (¬ f k = -1) := by unfold Hid; rw [HX.out]; exact hm1
        clear hb hm1 hu hH
        cases u with
        | true =>
          have HFl : Hid (r = false) := by unfold Hid; rw [← HR.out]; exact oneB_twice HM1.out HU.out 8 hlt
          go_wp2_with fail
          refine (HH.out _).mono ?_
          rintro e w' ⟨rfl, rfl⟩
          go_wp2_with fail
          go_ret
          exact ⟨ret_bool HFl.out.symm, hB.out⟩
        | false =>
          have HO2 : Hid (oneB f (k + 1) = true) := oneB_new HOne.out HU.out
          go_wp2_with fail
          refine (HH.out _).mono ?_
          rintro e w' ⟨rfl, rfl⟩
          go_wp2_with fail
          go_round
          case rel => exact ⟨k + 1, v ||| 2 ^ x.toNat, by omega, by go_num, by rw [put_set HVl.out x0 x1], HN, HO2⟩
          case measure => simp [intOf]; omega
    · have hkn : ¬ (k : Int) < 8 := by omega
      obtain rfl : k = 8 := by omega
      go_wp2_with fail
      go_ret
      exact ⟨ret_bool (HR.out.symm.trans HOne.out).symm, hB.out⟩

theorem infoSr : (Try.prog.info? 89).map (·.size) = some 7 := by kernel_rfl
theorem stSr {ops : Array Oper} {rest : List Oper} {o : Oper} {a : Act} {w : World} {Q : Exit → Act → World → Prop} {g l zb t : Nat} {ao bo : Option Addr} {c n d m lf tf : Nat} {tc : Array Value} {old : Array Value} (h : w.heap[g]? = some (.cells old 89 (0, 0))) (h7 : old.size = 7) (hgd : o.guard = none) (x y : Operand) (ho : o.op = .store 89 x y)
    (hx : a.eval x = .pointer (some ⟨g, 0, none⟩)) (hy : a.eval y = .agg (srV l zb ao bo c n d m lf tf tc t)) (k : wpList Try.prog ops Q rest (a.put o.dst undef) (w.setRow g (srV l zb ao bo c n d m lf tf tc t))) : wpList Try.prog ops Q (o :: rest) a w :=
  wpList_store_row hgd 89 x y ho g (srV l zb ao bo c n d m lf tf tc t) hx hy 89 old h infoSr h7 (by simp [srV, Value.oneCell']) k
/-- What a whole search finds. -/
def srchS (l zb : Nat) (fs gs : List OpD) (lead want : (Nat → Int) → Bool) (most : Nat) : St := tryS l zb fs gs lead (walkS l zb fs gs lead want most 9) (fun _ => -1) (0, [])

set_option maxHeartbeats 1000000 in
theorem searchHoms_no (lo hi lo2 hi2 : Nat) (z z1 : Int) (ao bo : Option Addr) (c n d m : Nat) (fs gs : List OpD) (lv tv : Value) (w : World) (hv : OView w lo hi ao n fs) (hhi : hi ≤ w.heap.size) (hs : ∀ (j : Nat) (f : OpD), fs[j]? = some f → f.2.length ≤ maxLen)
    (hu : OView w lo2 hi2 bo m gs) (hhi2 : hi2 ≤ w.heap.size) (hs2 : ∀ (j : Nat) (f : OpD), gs[j]? = some f → f.2.length ≤ maxLen) (hno : sameH z z1 fs gs = false) :
    Calls Try.prog 52 #[.agg #[.int .i64 z, .slice ao n c], .agg #[.int .i64 z1, .slice bo m d], lv, tv] w fun e w' => e = .returned (.bool false) ∧ Below w.heap.size w w' := by
  obtain ⟨w1, hw1, hbx, hsz⟩ := bx2_new w z ao n c z1 bo m d 31
  have HBx := Lib.hid hbx
  have hT := implSameType lo hi z ao c n fs lo2 hi2 z1 bo d m gs w1 (hv.kept (Kept.of_below hbx.bel hhi)) (Nat.le_trans hhi hbx.bel.size) hs (hu.kept (Kept.of_below hbx.bel hhi2)) (Nat.le_trans hhi2 hbx.bel.size) hs2
  obtain ⟨t2, ht2⟩ : ∃ t, (valSameType z fs z1 gs).2 = t := ⟨_, rfl⟩
  have ht1 : (valSameType z fs z1 gs).1 = false := hno
  rw [ht1, ht2] at hT
  have HT := Lib.hid hT
  obtain ⟨cz, ca, cz1, ca1, cB⟩ := hbx
  clear hv hu hs hs2 hno ht1 ht2 hT cB
  go_enter Try.func52, Try.ntmps52
  go_wp2_with fail
  rw [← hw1]
  clear hw1
  go_wp2_with fail
  refine HT.out.mono ?_
  rintro e w2 ⟨rfl, b2⟩
  have HB2 := Lib.hid (HBx.out.below b2).bel
  clear b2
  go_wp2_with fail
  go_ret
  exact ⟨rfl, HB2.out⟩

section
variable {l zb : Nat} {fs gs : List OpD} {lo hi lo2 hi2 : Nat} {ao bo : Option Addr} {c n d m : Nat} {w0 : World} {bs lf tf : Nat} {tc : Array Value} {lead want : (Nat → Int) → Bool} {most : Nat} {R : World → List (List Int) → Prop}
set_option maxHeartbeats 2000000 in
set_option maxRecDepth 100000 in
theorem searchHoms_any (H : ∀ P, bs ≤ P → SrP l zb fs gs lo hi lo2 hi2 ao bo c n d m w0 bs P lf tf tc lead want most R) (hm : 0 < most) (hs : ∀ (j : Nat) (f : OpD), fs[j]? = some f → f.2.length ≤ maxLen) (hs2 : ∀ (j : Nat) (f : OpD), gs[j]? = some f → f.2.length ≤ maxLen) (w : World) (hR : R w []) :
    Calls Try.prog 52 #[.agg #[.int .i64 (l : Int), .slice ao n c], .agg #[.int .i64 (zb : Int), .slice bo m d], .func (.func lf) #[] #[], .func (.func tf) #[] tc] w fun e w' => e = .returned (.bool (decide ((srchS l zb fs gs lead want most).1 ≤ 5000))) ∧ R w' (srchS l zb fs gs lead want most).2 ∧ Below bs w w' := by
  have H0 := H bs (Nat.le_refl _)
  obtain ⟨bw, sw⟩ := H0.hB _ _ hR
  obtain ⟨w1, hw1, hbx, hsz⟩ := bx2_new w (l : Int) ao n c (zb : Int) bo m d 31
  have HBx := Lib.hid hbx
  have b1 := bw.trans (hbx.bel.mono sw)
  have hT := implSameType lo hi (l : Int) ao c n fs lo2 hi2 (zb : Int) bo d m gs w1 (H0.hv.kept (Kept.of_below b1 H0.hhi)) (Nat.le_trans H0.hhi (Nat.le_trans sw hbx.bel.size)) hs (H0.hu.kept (Kept.of_below b1 H0.hhi2)) (Nat.le_trans H0.hhi2 (Nat.le_trans sw hbx.bel.size)) hs2
  have hsame : valSameType (l : Int) fs (zb : Int) gs = (true, true) := by rw [same_yes H0.hok H0.hok2, H0.hty]; simp [sameL]
  rw [hsame] at hT
  have HT := Lib.hid hT
  have HO := Lib.hid (fun W => allOpen_any W)
  have HH := Lib.hid H
  have HR0 := Lib.hid hR
  obtain ⟨cz, ca, cz1, ca1, cB⟩ := hbx
  have HTb : Hid (Turn bs tTA w w1) := .of_below cB
  have HTr : Hid (Turn bs tT2 w w1) := .of_below cB
  obtain ⟨rs, hrs⟩ : ∃ rs, srchS l zb fs gs lead want most = rs := ⟨_, rfl⟩
  have HRs := Lib.hid hrs
  rw [hrs]
  have hsw := sw
  clear hT cB hrs b1 bw hR H0 hsame
  go_enter Try.func52, Try.ntmps52
  go_wp2_with fail
  rw [← hw1]
  clear hw1
  go_wp2_with fail
  refine HT.out.mono ?_
  rintro e w2 ⟨rfl, b2⟩
  have HBx2 := Lib.hid (HBx.out.below b2)
  have HT2 : Hid (Turn bs tTA w w2) := HTb.out.trans (.of_below b2)
  have HTr0 : Hid (Turn bs tT2 w w2) := HTr.out.trans (.of_below b2)
  clear cz ca cz1 ca1 b2
  obtain ⟨cz, ca, cz1, ca1, cB⟩ := HBx2.out
  clear cB
  obtain ⟨w3, hw3⟩ : ∃ w3, w3 = (w2.alloc (.cells #[.int .i64 0, .slice none 0 0, .int .i64 0, .slice none 0 0, .nilFunc, .nilFunc, .int .i64 0] 89)).setRow w2.heap.size (srV l zb ao bo c n d m lf tf tc 0) := ⟨_, rfl⟩
  obtain ⟨P, hP⟩ : ∃ P, P = w2.heap.size := ⟨_, rfl⟩
  have hPb : bs ≤ P := by have := HT2.out.size; omega
  have hnew := heap_alloc_new w2 (.cells #[.int .i64 0, .slice none 0 0, .int .i64 0, .slice none 0 0, .nilFunc, .nilFunc, .int .i64 0] 89)
  have HN := Lib.hid hnew
  have hb3 : Below w2.heap.size w2 w3 := by rw [hw3]; exact below_setRow (below_alloc w2 _) (Nat.le_refl _) _
  have HS3 : Hid (SrW l zb ao bo c n d m P lf tf tc R w3 (0, [])) := by
    refine ⟨?_, (HH.out P hPb).hR _ _ _ HR0.out ((HTr0.out.trans (.of_below hb3)))⟩
    rw [hw3, hP]
    exact setRow_heap _ _ _ _ _ _ hnew
  have HT3 : Hid (Turn bs tTA w w3) := HT2.out.trans (.of_below hb3)
  have HW3 := Lib.hid hw3
  clear hnew hb3 hw3
  go_wp2_with (refine stSr (t := 0) HN.out rfl rfl _ _ rfl rfl rfl ?_; rw [← HW3.out])
  refine (HO.out _).mono ?_
  rintro e w4 ⟨rfl, b4⟩
  rw [← hP]
  have HPe := Lib.hid hP
  clear hP
  have HS4 := Lib.hid (HS3.out.below (HH.out P hPb) b4)
  have HT4 : Hid (Turn bs tTA w w4) := HT3.out.trans (.of_below b4)
  have hal : alive most (0, []) = true := by unfold alive; simp; exact hm
  have HG := Lib.hid (goOn_any (HH.out P hPb) 9 (fun _ => -1) (0, []) w4 (by have := opens_max (fun _ => (-1 : Int)) 8; omega) (fun _ _ => .inl rfl) (fun _ _ => rfl) hal HS4.out)
  have hrs2 : tryS l zb fs gs lead (walkS l zb fs gs lead want most 9) (fun _ => -1) (0, []) = rs := HRs.out
  rw [hrs2] at HG
  unfold GoRes at HG
  clear b4 hal hrs2 cz ca cz1 ca1
  go_wp2_with fail
  (try rw [← HPe.out])
  refine HG.out.mono ?_
  rintro e w5 ⟨rfl, r5, t5⟩
  have HS5 := Lib.hid r5
  have HT5 : Hid (Turn bs tTA w w5) := HT4.out.trans t5
  obtain ⟨ty, hty⟩ : ∃ ty : Nat, rs.1 = ty := ⟨_, rfl⟩
  have c6 : w5.cell? ⟨P, 6, none⟩ = some (.int .i64 (ty : Int)) := by rw [← hty]; exact HS5.out.cell 6
  have HTyv := Lib.hid hty
  clear r5 t5 hty
  have HD : Hid (decide ((ty : Int) ≤ 5000) = decide (rs.1 ≤ 5000)) := by unfold Hid; rw [HTyv.out, decide_eq_decide]; omega
  go_wp2_with fail
  go_ret
  exact ⟨ret_bool HD.out, HS5.out.2, HT5.out.below hsw⟩
end

end Go.Proofs.Ytmlimbjpehjfnaa
