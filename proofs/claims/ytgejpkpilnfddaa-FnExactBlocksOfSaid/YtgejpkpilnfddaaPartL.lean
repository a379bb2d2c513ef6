/-
  Contracts: the method list of impl.partition, impl.twoPartitions. Conditions: the bounds that each theorem names.
-/
import Derived.Test.YtgejpkpilnfddaaPartJ
import Derived.Test.YtgejpkpilnfddaaPartK
import Derived.Test.YtgejpkpilnfddaaClone
import Derived.Deep.DrawnRows
import Derived.BigFrame
namespace Go.Proofs.Ytgejpkpilnfddaa
open Go.RowKit
set_option linter.unusedVariables false
set_option linter.unusedSimpArgs false
attribute [local go_sem ↓] Go.wp_at_zero Go.wp_at_succ

theorem arr_view {w : World} {g n : Nat} {f : Nat → Int} (h : ArrAt w g f) (hn : n ≤ 8) : IView w g (g + 1) (some ⟨g, 0, none⟩) n (lstP n f) :=
  ⟨lstP_len n f, .inr ⟨g, 0, rfl, Nat.le_refl _, by omega, fun j x hx => by
    have hj : j < n := by have := (List.getElem?_eq_some_iff.1 hx).1; rw [lstP_len] at this; exact this
    rw [lstP_get f hj] at hx
    rw [Nat.zero_add, h.cell (by omega)]
    simpa using hx⟩⟩

set_option maxHeartbeats 1000000 in
theorem listP_any (f : Nat → Int) (n : Nat) (w : World) (h1 : 1 ≤ n) (h8 : n ≤ 8) :
    Calls Try.prog 68 #[.agg (arrV f), .int .i64 (n : Int)] w fun e w' => NewInts w w' n (lstP n f) e := by
  have HA := Lib.hid (ArrAt.new w f)
  have hC := fun (c : Nat) => clone_ints w.heap.size (w.heap.size + 1) (some ⟨w.heap.size, 0, none⟩) n c (lstP n f) (w.alloc (.cells (arrV f) 67)) (arr_view HA.out h8) (by omega) (by omega)
  have HC := Lib.hid hC
  have hn8 : (n : Int) ≤ 8 := by omega
  have hB := Lib.hid (below_alloc w (.cells (arrV f) 67))
  clear hC
  unfold NewInts
  go_enter Try.func68, Try.ntmps68
  go_wp2_with fail
  refine (HC.out _).mono ?_
  rintro e w2 ⟨g, d, rfl, ho, b2⟩
  have HO := Lib.hid (ownsRow_base ho (b' := w.heap.size) (by show w.heap.size ≤ (w.alloc _).heap.size; simp))
  have HB := Lib.hid (below_then hB.out b2)
  clear ho b2
  go_wp2_with fail
  go_ret
  exact ⟨g, d, rfl, HO.out, HB.out⟩

theorem ld8w {ops : Array Oper} {rest : List Oper} {o : Oper} {a : Act} {w : World} {Q : Exit → Act → World → Prop} {g : Nat} {f : Nat → Int} (h : ArrAt w g f) (hgd : Region.wanted o (yielded ops a.tmps) = true) (x : Operand) (ho : o.op = .load 67 x)
    (hx : a.eval x = .pointer (some ⟨g, 0, none⟩)) (k : wpList Try.prog ops Q rest (a.put o.dst (.agg (arrV f))) w) : wpList Try.prog ops Q (o :: rest) a w :=
  BigFrame.wpList_want hgd fun _ hK => wp_load_row 67 x ho g hx 67 (arrV f) (0, 0) _ h Try.underlying67 rfl info8 (hK _ _ k)
theorem ld8Y {ops : Array Oper} {S : World → Prop} {op : Oper} {a : Act} {g : Nat} {f : Nat → Int} (hw : Region.wanted op (yielded ops a.tmps) = true) (x : Operand) (ho : op.op = .load 67 x)
    (hx : a.eval x = .pointer (some ⟨g, 0, none⟩)) (hS : ∀ w, S w → ArrAt w g f) : YieldsIf Try.prog ops S op (.agg (arrV f)) a :=
  .inl ⟨hw, fun w hw' => by
    unfold execOp
    simp only [ho, hx, Instr.loadAt, Instr.sureAddr, Sem.run_bind, Sem.run_pure, Result.andThen_ok, (hS w hw').loadV]⟩
theorem step_st8 {ops : Array Oper} {o : Oper} {a : Act} {w : World} {K : Act → World → Prop} {Q : Exit → Act → World → Prop} {E : Prop} {g : Nat} {f f' : Nat → Int} (h : ArrAt w g f) (hgd : o.guard = none) (x y : Operand) (ho : o.op = .store 67 x y)
    (hx : a.eval x = .pointer (some ⟨g, 0, none⟩)) (hy : a.eval y = .agg (arrV f')) (k : K (a.put o.dst undef) (w.setRow g (arrV f'))) : if Region.wanted o (yielded ops a.tmps) = true then Oper.wp Try.prog o a w K Q else E := by
  have hw : Region.wanted o (yielded ops a.tmps) = true := by simp [Region.wanted, hgd]
  rw [if_pos hw]
  exact wp_store_row 67 x y ho g (arrV f') hx hy 67 (arrV f) h info8 rfl (arrV_one f') k
theorem ret8c {fn : Func} {p p2 q : Tmp} (h : fn.results = #[.cell p 67, .cell p2 67, .tmp q]) (tmps : Array Value) (w : World) (g g2 : Nat) (f f2 : Nat → Int) (hp : tmps.getD p undef = .pointer (some ⟨g, 0, none⟩)) (hA : ArrAt w g f)
    (hp2 : tmps.getD p2 undef = .pointer (some ⟨g2, 0, none⟩)) (hA2 : ArrAt w g2 f2) :
    (results fn tmps).run Try.prog w = .ok (.tuple #[.agg (arrV f), .agg (arrV f2), tmps.getD q undef]) w := by
  have hp' : tmps[p]?.getD undef = .pointer (some ⟨g, 0, none⟩) := by simpa using hp
  have hp2' : tmps[p2]?.getD undef = .pointer (some ⟨g2, 0, none⟩) := by simpa using hp2
  simp [results, h, hp', hp2', asAddr, hA.loadV, hA2.loadV]

def ResT (w w' : World) (b1 b2 : Bool) (xs ys : List Int) (e : Ending) : Prop :=
  e = .returned (.tuple #[.agg (arrV (parF b1 xs)), .agg (arrV (parF b2 ys)), .bool (b1 && b2)]) ∧ Below w.heap.size w w'

set_option maxHeartbeats 2000000 in
set_option maxRecDepth 100000 in
theorem twoP_any (n : Int) (m c m2 c2 : Nat) (ao bo : Option Addr) (xs ys : List Int) (lo hi lo2 hi2 : Nat) (w : World) (hx : IView w lo hi ao m xs) (hhi : hi ≤ w.heap.size) (hm : m ≤ maxLen) (hy : IView w lo2 hi2 bo m2 ys) (hhi2 : hi2 ≤ w.heap.size) (hm2 : m2 ≤ maxLen) :
    Calls Try.prog 71 #[.int .i64 n, .slice ao m c, .slice bo m2 c2] w fun e w' => ResT w w' (pOfB n xs) (pOfB n ys) xs ys e := by
  obtain ⟨w0, hw0⟩ : ∃ w0, w0 = (w.alloc (.cells (arrV fun _ => 0) 67)).alloc (.cells (arrV fun _ => 0) 67) := ⟨_, rfl⟩
  have HR0 : Hid (ArrAt w0 w.heap.size fun _ => 0) := by unfold Hid; rw [hw0]; exact (ArrAt.new _ _).alloc _
  have HT0 : Hid (ArrAt w0 (w.heap.size + 1) fun _ => 0) := by
    unfold Hid; rw [hw0]
    have h := ArrAt.new (w.alloc (.cells (arrV fun _ => 0) 67)) fun _ => 0
    simp only [World.size_alloc] at h
    exact h
  have HB0 : Hid (Below w.heap.size w w0) := by unfold Hid; rw [hw0]; exact below_then (below_alloc _ _) (below_alloc _ _)
  have hz0 := HT0.out.lt
  have HC1 := Lib.hid (fun (W : World) (hW : Below w.heap.size w W) => partOf_any n m c ao xs lo hi W (hx.kept (Kept.of_below hW hhi)) (by have := hW.size; omega) hm)
  have HC2 := Lib.hid (fun (W : World) (hW : Below w.heap.size w W) => partOf_any n m2 c2 bo ys lo2 hi2 W (hy.kept (Kept.of_below hW hhi2)) (by have := hW.size; omega) hm2)
  obtain ⟨b1, hb1⟩ : ∃ b, pOfB n xs = b := ⟨_, rfl⟩
  obtain ⟨b2, hb2⟩ : ∃ b, pOfB n ys = b := ⟨_, rfl⟩
  rw [hb1, hb2]
  simp only [hb1] at HC1
  simp only [hb2] at HC2
  obtain ⟨f, hf⟩ : ∃ f, parF b1 xs = f := ⟨_, rfl⟩
  obtain ⟨g, hg⟩ : ∃ g, parF b2 ys = g := ⟨_, rfl⟩
  unfold ResP at HC1 HC2
  unfold ResT
  rw [hf, hg]
  simp only [hf] at HC1
  simp only [hg] at HC2
  clear hx hhi hm hy hhi2 hm2 hb1 hb2 hf hg
  go_enter Try.func71, Try.ntmps71
  go_wp2_with fail
  rw [show (w.alloc (.cells #[.int .i64 0, .int .i64 0, .int .i64 0, .int .i64 0, .int .i64 0, .int .i64 0, .int .i64 0, .int .i64 0] 67)).alloc (.cells #[.int .i64 0, .int .i64 0, .int .i64 0, .int .i64 0, .int .i64 0, .int .i64 0, .int .i64 0, .int .i64 0] 67) = w0 from hw0.symm]
  clear hw0
  refine (HC1.out _ HB0.out).mono ?_
  rintro e w1 ⟨rfl, q1⟩
  have HR1 := Lib.hid (HR0.out.below q1 (by omega))
  have HT1 := Lib.hid (HT0.out.below q1 (by omega))
  have HB1 := Lib.hid (HB0.out.trans (q1.mono HB0.out.size))
  have HA1 := Lib.hid (ArrAt.new w1 fun _ => 0)
  have hz1 := HT1.out.lt
  clear q1 hz0
  obtain ⟨w2, hw2⟩ : ∃ w2, w2 = (w1.alloc (.cells (arrV fun _ => 0) 67)).setRow w1.heap.size (arrV f) := ⟨_, rfl⟩
  have HA2 : Hid (ArrAt w2 w1.heap.size f) := by unfold Hid; rw [hw2]; exact HA1.out.setRow
  have HR2 : Hid (ArrAt w2 w.heap.size fun _ => 0) := by unfold Hid; rw [hw2]; exact (HR1.out.alloc _).setRowOther (by omega) _
  have HT2 : Hid (ArrAt w2 (w.heap.size + 1) fun _ => 0) := by unfold Hid; rw [hw2]; exact (HT1.out.alloc _).setRowOther (by omega) _
  have HB2 : Hid (Below w.heap.size w w2) := by unfold Hid; rw [hw2]; exact below_setRow (below_then HB1.out (below_alloc w1 _)) (by omega) _
  have hz2 := HA2.out.lt
  have HW2 := Lib.hid hw2
  clear hw2
  go_wp2_with (refine st8 (w := w1.alloc (.cells (arrV fun _ => 0) 67)) HA1.out rfl _ _ rfl rfl rfl ?_; rw [← HW2.out])
  refine (HC2.out _ HB2.out).mono ?_
  rintro e w3 ⟨rfl, q3⟩
  have HR3 := Lib.hid (HR2.out.below q3 (by omega))
  have HT3 := Lib.hid (HT2.out.below q3 (by omega))
  have HA3 := Lib.hid (HA2.out.below q3 (by omega))
  have HB3 := Lib.hid (HB2.out.trans (q3.mono HB2.out.size))
  have HD3 := Lib.hid (ArrAt.new w3 fun _ => 0)
  have hz3 := HA3.out.lt
  clear q3 HW2
  obtain ⟨w4, hw4⟩ : ∃ w4, w4 = (w3.alloc (.cells (arrV fun _ => 0) 67)).setRow w3.heap.size (arrV g) := ⟨_, rfl⟩
  have HD4 : Hid (ArrAt w4 w3.heap.size g) := by unfold Hid; rw [hw4]; exact HD3.out.setRow
  have HA4 : Hid (ArrAt w4 w1.heap.size f) := by unfold Hid; rw [hw4]; exact (HA3.out.alloc _).setRowOther (by omega) _
  have HR4 : Hid (ArrAt w4 w.heap.size fun _ => 0) := by unfold Hid; rw [hw4]; exact (HR3.out.alloc _).setRowOther (by omega) _
  have HT4 : Hid (ArrAt w4 (w.heap.size + 1) fun _ => 0) := by unfold Hid; rw [hw4]; exact (HT3.out.alloc _).setRowOther (by omega) _
  have HB4 : Hid (Below w.heap.size w w4) := by unfold Hid; rw [hw4]; exact below_setRow (below_then HB3.out (below_alloc w3 _)) (by omega) _
  have hz4 := HD4.out.lt
  have HW4 := Lib.hid hw4
  clear hw4
  go_wp2_with (refine st8 (w := w3.alloc (.cells (arrV fun _ => 0) 67)) HD3.out rfl _ _ rfl rfl rfl ?_; rw [← HW4.out])
  clear HW4 HC1 HC2
  have HA5 : Hid (ArrAt (w4.drew.setRow w.heap.size (arrV f)) w1.heap.size f) := (show ArrAt w4.drew w1.heap.size f from HA4.out).setRowOther (by omega) _
  have HD5 : Hid (ArrAt (w4.drew.setRow w.heap.size (arrV f)) w3.heap.size g) := (show ArrAt w4.drew w3.heap.size g from HD4.out).setRowOther (by omega) _
  have HT5 : Hid (ArrAt (w4.drew.setRow w.heap.size (arrV f)) (w.heap.size + 1) fun _ => 0) := (show ArrAt w4.drew (w.heap.size + 1) (fun _ => 0) from HT4.out).setRowOther (by omega) _
  have HR5 : Hid (ArrAt (w4.drew.setRow w.heap.size (arrV f)) w.heap.size f) := ArrAt.setRow (show ArrAt w4.drew w.heap.size (fun _ => 0) from HR4.out)
  have HB5 : Hid (Below w.heap.size w (w4.drew.setRow w.heap.size (arrV f))) := below_setRow HB4.out.drew (Nat.le_refl _) _
  have HA6 := Lib.hid (HA5.out.setRowOther (g' := w.heap.size + 1) (by omega) (arrV g))
  have HD6 := Lib.hid (HD5.out.setRowOther (g' := w.heap.size + 1) (by omega) (arrV g))
  have HR6 := Lib.hid (HR5.out.setRowOther (g' := w.heap.size + 1) (by omega) (arrV g))
  have HT6 := Lib.hid (HT5.out.setRow (f' := g))
  have HB6 := Lib.hid (below_setRow HB5.out (show w.heap.size ≤ w.heap.size + 1 by omega) (arrV g))
  cases b1 with
  | true =>
    refine wp_region_noPanic ?_
    refine wp_region_held_drew (S := fun W => ArrAt W w1.heap.size f ∧ ArrAt W w3.heap.size g) (by kernel_rfl) ?_ (fun hHeld => ?_)
    · exact ⟨HA4.out, HD4.out⟩
    refine wpAnyH_take (i := 0) (oi := ⟨_, _, _, _, _, _⟩) rfl (by kernel_rfl) (by kernel_rfl) (by kernel_rfl) (fun _ _ _ h => h) (ld8Y rfl _ rfl rfl (fun _ h => h.1)) (by assumption) ?_
    (try simp only [Act.put, List.setIfInBounds_toArray, List.set_cons_zero, List.set_cons_succ])
    refine wpAnyH_take (i := 1) (oi := ⟨_, _, _, _, _, _⟩) rfl (by kernel_rfl) (by kernel_rfl) (by kernel_rfl) (fun _ _ _ h => h) (ld8Y rfl _ rfl rfl (fun _ h => h.2)) (by assumption) ?_
    (try simp only [Act.put, List.setIfInBounds_toArray, List.set_cons_zero, List.set_cons_succ])
    refine wpAnyH_take (i := 2) (oi := ⟨_, _, _, _, _, _⟩) (v := ?_) rfl (by kernel_rfl) (by kernel_rfl) (by kernel_rfl) (fun _ _ _ h => h) (Or.inl ⟨rfl, ?_⟩) (by assumption) ?_
    rotate_left 1
    · intro w_ hSw; (try dsimp only at hSw); go_simp; (try with_reducible rfl)
    (try simp only [Act.put, List.setIfInBounds_toArray, List.set_cons_zero, List.set_cons_succ])
    refine wpAnyH_take (i := 3) (oi := ⟨_, _, _, _, _, _⟩) (v := ?_) rfl (by kernel_rfl) (by kernel_rfl) (by kernel_rfl) (fun _ _ _ h => h) (Or.inl ⟨rfl, ?_⟩) (by assumption) ?_
    rotate_left 1
    · intro w_ hSw; (try dsimp only at hSw); go_simp; (try with_reducible rfl)
    (try simp only [Act.put, List.setIfInBounds_toArray, List.set_cons_zero, List.set_cons_succ])
    refine wpAnyH_take (i := 4) (oi := ⟨_, _, _, _, _, _⟩) (v := ?_) rfl (by kernel_rfl) (by kernel_rfl) (by kernel_rfl) (fun _ _ _ h => h) (Or.inl ⟨rfl, ?_⟩) (by assumption) ?_
    rotate_left 1
    · intro w_ hSw; (try dsimp only at hSw); go_simp; (try with_reducible rfl)
    (try simp only [Act.put, List.setIfInBounds_toArray, List.set_cons_zero, List.set_cons_succ])
    refine wpAnyH_take (i := 5) (oi := ⟨_, _, _, _, _, _⟩) (v := ?_) rfl (by kernel_rfl) (by kernel_rfl) (by kernel_rfl) (fun _ _ _ h => h) (Or.inl ⟨rfl, ?_⟩) (by assumption) ?_
    rotate_left 1
    · intro w_ hSw; (try dsimp only at hSw); go_simp; (try with_reducible rfl)
    (try simp only [Act.put, List.setIfInBounds_toArray, List.set_cons_zero, List.set_cons_succ])
    refine wpAnyH_ready (rs := [6]) (by kernel_rfl) (by simp) ?_
    refine AllReadyH.cons (o := ⟨_, _, _, _, _, _⟩) rfl (fun K hK => ?_) AllReadyH.nil
    refine step_st8 (show ArrAt w4.drew w.heap.size (fun _ => 0) from HR4.out) rfl _ _ rfl rfl rfl ?_
    refine hK.out _ _ ?_ (fun hHeld => ?_)
    · exact ⟨HA5.out, HD5.out⟩
    clear hK K
    (try simp only [Act.put, List.setIfInBounds_toArray, List.set_cons_zero, List.set_cons_succ])
    refine wpAnyH_ready (rs := [7]) (by kernel_rfl) (by simp) ?_
    refine AllReadyH.cons (o := ⟨_, _, _, _, _, _⟩) rfl (fun K hK => ?_) AllReadyH.nil
    refine step_st8 HT5.out rfl _ _ rfl rfl rfl ?_
    refine hK.out _ _ ?_ (fun hHeld => ?_)
    · exact ⟨HA6.out, HD6.out⟩
    clear hK K
    (try simp only [Act.put, List.setIfInBounds_toArray, List.set_cons_zero, List.set_cons_succ])
    refine wpAnyH_take (i := 8) (oi := ⟨_, _, _, _, _, _⟩) (v := ?_) rfl (by kernel_rfl) (by kernel_rfl) (by kernel_rfl) (fun _ _ _ h => h) (Or.inl ⟨rfl, ?_⟩) (by assumption) ?_
    rotate_left 1
    · intro w_ hSw; (try dsimp only at hSw); go_simp; (try with_reducible rfl)
    (try simp only [Act.put, List.setIfInBounds_toArray, List.set_cons_zero, List.set_cons_succ])
    refine wpAnyH_done (by kernel_rfl) ?_ _
    refine NoPanic.normal ?_
    go_wp2_with fail
    exact bodyPost_ret (ret8c rfl _ _ _ _ _ _ rfl HR6.out rfl HT6.out) rfl ⟨rfl, HB6.out⟩
  | false =>
    refine wp_region_noPanic ?_
    refine wp_region_held_drew (S := fun W => ArrAt W w1.heap.size f ∧ ArrAt W w3.heap.size g) (by kernel_rfl) ?_ (fun hHeld => ?_)
    · exact ⟨HA4.out, HD4.out⟩
    refine wpAnyH_take (i := 0) (oi := ⟨_, _, _, _, _, _⟩) rfl (by kernel_rfl) (by kernel_rfl) (by kernel_rfl) (fun _ _ _ h => h) (ld8Y rfl _ rfl rfl (fun _ h => h.1)) (by assumption) ?_
    (try simp only [Act.put, List.setIfInBounds_toArray, List.set_cons_zero, List.set_cons_succ])
    refine wpAnyH_take (i := 1) (oi := ⟨_, _, _, _, _, _⟩) rfl (by kernel_rfl) (by kernel_rfl) (by kernel_rfl) (fun _ _ _ h => h) (ld8Y rfl _ rfl rfl (fun _ h => h.2)) (by assumption) ?_
    (try simp only [Act.put, List.setIfInBounds_toArray, List.set_cons_zero, List.set_cons_succ])
    refine wpAnyH_take (i := 2) (oi := ⟨_, _, _, _, _, _⟩) (v := ?_) rfl (by kernel_rfl) (by kernel_rfl) (by kernel_rfl) (fun _ _ _ h => h) (Or.inl ⟨rfl, ?_⟩) (by assumption) ?_
    rotate_left 1
    · intro w_ hSw; (try dsimp only at hSw); go_simp; (try with_reducible rfl)
    (try simp only [Act.put, List.setIfInBounds_toArray, List.set_cons_zero, List.set_cons_succ])
    refine wpAnyH_take (i := 3) (oi := ⟨_, _, _, _, _, _⟩) (v := ?_) rfl (by kernel_rfl) (by kernel_rfl) (by kernel_rfl) (fun _ _ _ h => h) (Or.inl ⟨rfl, ?_⟩) (by assumption) ?_
    rotate_left 1
    · intro w_ hSw; (try dsimp only at hSw); go_simp; (try with_reducible rfl)
    (try simp only [Act.put, List.setIfInBounds_toArray, List.set_cons_zero, List.set_cons_succ])
    refine wpAnyH_take (i := 4) (oi := ⟨_, _, _, _, _, _⟩) (v := undef) rfl (by kernel_rfl) (by kernel_rfl) (by kernel_rfl) (fun _ _ _ h => h) (Or.inr ⟨rfl, rfl⟩) (by assumption) ?_
    (try simp only [Act.put, List.setIfInBounds_toArray, List.set_cons_zero, List.set_cons_succ])
    refine wpAnyH_take (i := 5) (oi := ⟨_, _, _, _, _, _⟩) (v := ?_) rfl (by kernel_rfl) (by kernel_rfl) (by kernel_rfl) (fun _ _ _ h => h) (Or.inl ⟨rfl, ?_⟩) (by assumption) ?_
    rotate_left 1
    · intro w_ hSw; (try dsimp only at hSw); go_simp; (try with_reducible rfl)
    (try simp only [Act.put, List.setIfInBounds_toArray, List.set_cons_zero, List.set_cons_succ])
    refine wpAnyH_ready (rs := [6]) (by kernel_rfl) (by simp) ?_
    refine AllReadyH.cons (o := ⟨_, _, _, _, _, _⟩) rfl (fun K hK => ?_) AllReadyH.nil
    refine step_st8 (show ArrAt w4.drew w.heap.size (fun _ => 0) from HR4.out) rfl _ _ rfl rfl rfl ?_
    refine hK.out _ _ ?_ (fun hHeld => ?_)
    · exact ⟨HA5.out, HD5.out⟩
    clear hK K
    (try simp only [Act.put, List.setIfInBounds_toArray, List.set_cons_zero, List.set_cons_succ])
    refine wpAnyH_ready (rs := [7]) (by kernel_rfl) (by simp) ?_
    refine AllReadyH.cons (o := ⟨_, _, _, _, _, _⟩) rfl (fun K hK => ?_) AllReadyH.nil
    refine step_st8 HT5.out rfl _ _ rfl rfl rfl ?_
    refine hK.out _ _ ?_ (fun hHeld => ?_)
    · exact ⟨HA6.out, HD6.out⟩
    clear hK K
    (try simp only [Act.put, List.setIfInBounds_toArray, List.set_cons_zero, List.set_cons_succ])
    refine wpAnyH_take (i := 8) (oi := ⟨_, _, _, _, _, _⟩) (v := ?_) rfl (by kernel_rfl) (by kernel_rfl) (by kernel_rfl) (fun _ _ _ h => h) (Or.inl ⟨rfl, ?_⟩) (by assumption) ?_
    rotate_left 1
    · intro w_ hSw; (try dsimp only at hSw); go_simp; (try with_reducible rfl)
    (try simp only [Act.put, List.setIfInBounds_toArray, List.set_cons_zero, List.set_cons_succ])
    refine wpAnyH_done (by kernel_rfl) ?_ _
    refine NoPanic.normal ?_
    go_wp2_with fail
    exact bodyPost_ret (ret8c rfl _ _ _ _ _ _ rfl HR6.out rfl HT6.out) rfl ⟨rfl, HB6.out⟩

end Go.Proofs.Ytgejpkpilnfddaa
