/-
  Contract: impl.firstHomFound for any functions. Conditions: the bounds that each theorem names.
-/
import Derived.Test.YtcioekhlhgkkiaaSrch
import Derived.Test.YtcioekhlhgkkiaaClone
import Derived.WalkSpells
namespace Go.Proofs.Ytcioekhlhgkkiaa
open Go.RowKit Go.Shelf
set_option linter.unusedVariables false
set_option linter.unusedSimpArgs false

set_option maxHeartbeats 1000000 in
theorem listG_any (f : Nat → Int) (n : Nat) (w : World) (h1 : 1 ≤ n) (h8 : n ≤ 8) :
    Calls Try.prog 67 #[.agg (arrV f), .int .i64 (n : Int)] w fun e w' => NewInts w w' n (lstP n f) e := by
  have HA := Lib.hid (ArrAt.new w f)
  have hC := fun (c : Nat) => clone_ints w.heap.size (w.heap.size + 1) (some ⟨w.heap.size, 0, none⟩) n c (lstP n f) (w.alloc (.cells (arrV f) 57)) (arr_viewG HA.out h8) (by omega) (by omega)
  have HC := Lib.hid hC
  have hn8 : (n : Int) ≤ 8 := by omega
  have hB := Lib.hid (below_alloc w (.cells (arrV f) 57))
  clear hC
  unfold NewInts
  go_enter Try.func67, Try.ntmps67
  go_wp2_with fail
  refine (HC.out _).mono ?_
  rintro e w2 ⟨g, d, rfl, ho, b2⟩
  have HO := Lib.hid (ownsRow_base ho (b' := w.heap.size) (by show w.heap.size ≤ (w.alloc _).heap.size; simp))
  have HB := Lib.hid (below_then hB.out b2)
  clear ho b2
  go_wp2_with fail
  go_ret
  exact ⟨g, d, rfl, HO.out, HB.out⟩

/-- What the variable of the first one holds. -/
def FstV (bs : Nat) (W : World) (l : Nat) (ms : List (List Int)) (v : Value) : Prop :=
  (ms = [] ∧ v = .slice none 0 0) ∨ ∃ xs g dd, ms = [xs] ∧ xs.length = l ∧ v = .slice (some ⟨g, 0, none⟩) l dd ∧ W.ownsRow bs 3 1 (.slice (some ⟨g, 0, none⟩) l dd) l (xs.map (Value.int .i64))
def FstR (w0 : World) (l : Nat) (ao : Option Addr) (n c wf : Nat) (wc : Array Value) (W : World) (ms : List (List Int)) : Prop :=
  Below w0.heap.size w0 W ∧ W.heap[w0.heap.size + 1 + 1]? = some (.cells #[.func (.func wf) #[] wc] 79 (0, 0)) ∧ W.heap[w0.heap.size]? = some (.cells #[.int .i64 (l : Int), .slice ao n c] 31 (0, 0)) ∧
    ∃ v, W.heap[w0.heap.size + 1 + 1 + 1]? = some (.cells #[v] 25 (0, 0)) ∧ FstV w0.heap.size W l ms v
theorem FstR.turn {w0 : World} {l : Nat} {ao : Option Addr} {n c wf : Nat} {wc : Array Value} {W W' : World} {ms : List (List Int)} (h : FstR w0 l ao n c wf wc W ms) (t : Turn w0.heap.size tT2 W W') : FstR w0 l ao n c wf wc W' ms := by
  obtain ⟨h1, h2, h3, v, h4, h5⟩ := h
  refine ⟨h1.trans (t.below h1.size), t.keep h2 rfl, t.keep h3 rfl, v, t.keep h4 rfl, ?_⟩
  rcases h5 with h5 | ⟨xs, g, dd, a, b, c, r⟩
  · exact .inl h5
  · exact .inr ⟨xs, g, dd, a, b, c, t.row r rfl⟩

section
variable (w0 : World) (l zb : Nat) (ao : Option Addr) (n c wf : Nat) (wc : Array Value) (want : (Nat → Int) → Bool)
set_option maxHeartbeats 2000000 in
set_option maxRecDepth 100000 in
theorem fstTake_any (eW : ∀ args w, (callFunc wf args).run Try.prog w = .ok (.enter wf args) w) (h1 : 1 ≤ l) (h8 : l ≤ 8)
    (hW : ∀ (W : World) (f : Nat → Int), Below w0.heap.size w0 W → Full (l : Int) (zb : Int) f → (∀ k : Nat, (l : Int) ≤ (k : Int) → f k = -1) → Calls Try.prog wf (#[.agg (arrV f)] ++ wc) W fun e W' => e = .returned (.bool (want f)) ∧ Below W.heap.size W W')
    (W : World) (f : Nat → Int) (ms : List (List Int)) (hR : FstR w0 l ao n c wf wc W ms) (hf : Full (l : Int) (zb : Int) f) (ho : ∀ k : Nat, (l : Int) ≤ (k : Int) → f k = -1) (hms : ms.length < 1) :
    Calls Try.prog 107 (#[.agg (arrV f)] ++ #[.pointer (some ⟨w0.heap.size + 1 + 1, 0, none⟩), .pointer (some ⟨w0.heap.size, 0, none⟩), .pointer (some ⟨w0.heap.size + 1 + 1 + 1, 0, none⟩)]) W fun e W' => e = .returned (.bool (decide ((if want f = true then ms ++ [lstP l f] else ms).length < 1))) ∧ FstR w0 l ao n c wf wc W' (if want f = true then ms ++ [lstP l f] else ms) ∧ Turn w0.heap.size tT1 W W' := by
  obtain rfl : ms = [] := List.eq_nil_of_length_eq_zero (by omega)
  obtain ⟨w1, hw1⟩ : ∃ w1, w1 = W.alloc (.cells (arrV f) 57) := ⟨_, rfl⟩
  obtain ⟨M, hM⟩ : ∃ M, M = W.heap.size := ⟨_, rfl⟩
  have hb1 : Below W.heap.size W w1 := by rw [hw1]; exact below_alloc _ _
  have HA1 : Hid (ArrAt w1 M f) := by unfold Hid; rw [hw1, hM]; exact ArrAt.new _ _
  have HR1 : Hid (FstR w0 l ao n c wf wc w1 []) := hR.turn (.of_below hb1)
  have HT1 : Hid (Turn w0.heap.size tT1 W w1) := .of_below hb1
  have hw := hW w1 f HR1.out.1 hf ho
  obtain ⟨u, hu⟩ : ∃ u, want f = u := ⟨_, rfl⟩
  rw [hu] at hw ⊢
  have HW := Lib.hid hw
  have c1 : w1.cell? ⟨w0.heap.size + 1 + 1, 0, none⟩ = some (.func (.func wf) #[] wc) := cell_of_row w1 _ 0 _ _ _ HR1.out.2.1
  have HL := Lib.hid (fun W => listG_any f l W h1 h8)
  unfold NewInts at HL
  subst hM
  subst hw1
  clear hR hf ho hW hw hu hb1 hms
  show Calls _ _ #[.agg (arrV f), .pointer (some ⟨w0.heap.size + 1 + 1, 0, none⟩), .pointer (some ⟨w0.heap.size, 0, none⟩), .pointer (some ⟨w0.heap.size + 1 + 1 + 1, 0, none⟩)] _ _
  cases u with
  | false =>
    rw [show (if false = true then ([] : List (List Int)) ++ [lstP l f] else []) = [] from if_neg (by simp)]
    go_enter Try.func107, Try.ntmps107
    go_wp2_with (first | (refine ld8 (w := W.alloc (.cells (arrV f) 57)) HA1.out rfl _ rfl rfl ?_) | (go_at_fn wf; refine HW.out.mono ?_; rintro e w2 ⟨rfl, b2⟩))
    have HR2 : Hid (FstR w0 l ao n c wf wc w2 []) := HR1.out.turn (.of_below b2)
    have HT2 : Hid (Turn w0.heap.size tT1 W w2) := HT1.out.trans (.of_below b2)
    clear HT1 HR1 HA1 HW HL
    go_ret
    refine ⟨?_, ?_, ?_⟩
    · rfl
    · exact HR2.out
    · exact HT2.out
  | true =>
    rw [show (if true = true then ([] : List (List Int)) ++ [lstP l f] else []) = [lstP l f] from if_pos rfl]
    go_enter Try.func107, Try.ntmps107
    go_wp2_with (first | (refine ld8 (w := W.alloc (.cells (arrV f) 57)) HA1.out rfl _ rfl rfl ?_) | (go_at_fn wf; refine HW.out.mono ?_; rintro e w2 ⟨rfl, b2⟩; have HR2 : Hid (FstR w0 l ao n c wf wc w2 []) := HR1.out.turn (.of_below b2); have HT2 : Hid (Turn w0.heap.size tT1 W w2) := HT1.out.trans (.of_below b2); have HA2 : Hid (ArrAt w2 W.heap.size f) := HA1.out.below b2 HA1.out.lt; have c2 : w2.cell? ⟨w0.heap.size, 0, none⟩ = some (.int .i64 (l : Int)) := cell_of_row w2 _ 0 _ _ _ HR2.out.2.2.1; clear b2) | (refine ld8 HA2.out rfl _ rfl rfl ?_) | fail)
    refine (HL.out _).mono ?_
    rintro e w3 ⟨g, dd, rfl, ho3, b3⟩
    have HR3 : Hid (FstR w0 l ao n c wf wc w3 []) := HR2.out.turn (.of_below b3)
    have HT3 : Hid (Turn w0.heap.size tT1 W w3) := HT2.out.trans (.of_below b3)
    have HO3 := Lib.hid (ownsRow_base ho3 (b' := w0.heap.size) HR2.out.1.size)
    obtain ⟨r1, r2, r3, v, r4, r5⟩ := HR3.out
    have HV := Lib.hid r4
    have c4 : w3.cell? ⟨w0.heap.size + 1 + 1 + 1, 0, none⟩ = some v := cell_of_row w3 _ 0 _ _ _ r4
    have c4f : w3.frozen? ⟨w0.heap.size + 1 + 1 + 1, 0, none⟩ = false := by simp [World.frozen?, r4]
    obtain ⟨w4, hw4⟩ : ∃ w4, w4 = w3.setCell ⟨w0.heap.size + 1 + 1 + 1, 0, none⟩ (.slice (some ⟨g, 0, none⟩) l dd) := ⟨_, rfl⟩
    have ht4 : Turn w0.heap.size tT1 w3 w4 := by rw [hw4]; exact Turn.setCell r4 (by omega) rfl 0 _
    have HT4 : Hid (Turn w0.heap.size tT1 W w4) := HT3.out.trans ht4
    have HR4 : Hid (FstR w0 l ao n c wf wc w4 [lstP l f]) := by
      refine ⟨r1.trans (ht4.below r1.size), ht4.keep r2 rfl, ht4.keep r3 rfl, .slice (some ⟨g, 0, none⟩) l dd, ?_, .inr ⟨lstP l f, g, dd, rfl, lstP_len _ _, rfl, ht4.row HO3.out rfl⟩⟩
      rw [hw4, setCell_eq_setRow w3 _ 0 _ _ _ _ r4, setRow_heap w3 _ _ _ _ _ r4]
      rfl
    have HW4 := Lib.hid hw4
    clear r1 r2 r3 r4 r5 ho3 b3 hw4 ht4
    go_wp2_with fail
    rw [← HW4.out]
    go_wp2_with fail
    go_ret
    exact ⟨rfl, HR4.out, HT4.out⟩
end

/-- What a search for the first one gives. -/
def FstRes (w w' : World) (l : Nat) (ms : List (List Int)) (ok : Bool) (e : Ending) : Prop :=
  ∃ v fd, e = .returned (.tuple #[v, .bool fd, .bool ok]) ∧ Below w.heap.size w w' ∧ ((ms = [] ∧ v = .slice none 0 0 ∧ fd = false) ∨ ∃ xs g dd, ms = [xs] ∧ xs.length = l ∧ v = .slice (some ⟨g, 0, none⟩) l dd ∧ fd = true ∧ w'.ownsRow w.heap.size 3 1 (.slice (some ⟨g, 0, none⟩) l dd) l (xs.map (Value.int .i64)))

set_option maxHeartbeats 2000000 in
theorem fst_no (lo hi lo2 hi2 : Nat) (z z1 : Int) (ao bo : Option Addr) (c n d m l : Nat) (fs gs : List OpD) (lf wf : Nat) (wc : Array Value) (w : World) (hv : OView w lo hi ao n fs) (hhi : hi ≤ w.heap.size) (hs : ∀ (j : Nat) (f : OpD), fs[j]? = some f → f.2.length ≤ maxLen)
    (hu : OView w lo2 hi2 bo m gs) (hhi2 : hi2 ≤ w.heap.size) (hs2 : ∀ (j : Nat) (f : OpD), gs[j]? = some f → f.2.length ≤ maxLen) (hno : sameH z z1 fs gs = false) :
    Calls Try.prog 83 #[.agg #[.int .i64 z, .slice ao n c], .agg #[.int .i64 z1, .slice bo m d], .func (.func lf) #[] #[], .func (.func wf) #[] wc] w fun e w' => FstRes w w' l [] false e := by
  obtain ⟨w1, hw1⟩ : ∃ w1, w1 = (((w.alloc (.cells #[.int .i64 z, .slice ao n c] 31)).alloc (.cells #[.int .i64 z1, .slice bo m d] 31)).alloc (.cells #[.func (.func wf) #[] wc] 79)).alloc (.cells #[.slice none 0 0] 25) := ⟨_, rfl⟩
  obtain ⟨wb, hwb, hbx, hsz⟩ := bx2_new w z ao n c z1 bo m d 31
  have hbx1 : Bx2 w w1 z ao n c z1 bo m d := by rw [hw1, ← hwb]; exact (hbx.below (below_alloc _ _)).below (below_alloc _ _)
  have hV : w1.heap[w.heap.size + 1 + 1 + 1]? = some (.cells #[.slice none 0 0] 25 (0, 0)) := by
    rw [hw1, ← hwb]
    have h := heap_alloc_new (wb.alloc (.cells #[.func (.func wf) #[] wc] 79)) (.cells #[.slice none 0 0] 25)
    rw [World.size_alloc, hsz] at h
    exact h
  have HS := Lib.hid (fun lv tv => searchHoms_no lo hi lo2 hi2 z z1 ao bo c n d m fs gs lv tv w1 (hv.kept (Kept.of_below hbx1.bel hhi)) (Nat.le_trans hhi hbx1.bel.size) hs (hu.kept (Kept.of_below hbx1.bel hhi2)) (Nat.le_trans hhi2 hbx1.bel.size) hs2 hno)
  have HBx := Lib.hid hbx1
  obtain ⟨cz, ca, cz1, ca1, cB⟩ := hbx1
  have HV := Lib.hid hV
  have hneq : ∀ W : World, (binOp .neq 25 (.slice none 0 0) (.slice none 0 0)).run Try.prog W = .ok (.bool false) W := fun W => run_neq_slice_nil_any (P := Try.prog) W _ _ none 0 0 0 0 Try.underlying25
  clear hv hu hs hs2 hno cB hbx hsz hwb hV
  unfold FstRes
  go_enter Try.func83, Try.ntmps83
  go_wp2_with fail
  rw [← hw1]
  clear hw1
  go_wp2_with fail
  refine (HS.out _ _).mono ?_
  rintro e w2 ⟨rfl, b2⟩
  have HB2 := Lib.hid (HBx.out.below b2).bel
  have c4' : w2.cell? ⟨w.heap.size + 1 + 1 + 1, 0, none⟩ = some (.slice none 0 0) := cell_b b2 (cell_of_row w1 _ 0 _ _ _ HV.out)
  have c4 : w2.drew.cell? ⟨w.heap.size + 1 + 1 + 1, 0, none⟩ = some (.slice none 0 0) := c4'
  clear c4'
  clear b2 cz ca cz1 ca1
  go_wp2_with fail
  go_region
  go_wp2_with fail
  go_ret3
  refine ⟨_, _, rfl, HB2.out.drew, ?_⟩
  first | exact .inl ⟨rfl, rfl, rfl⟩ | exact .inl ⟨trivial, rfl, rfl⟩

set_option maxHeartbeats 4000000 in
theorem fst_any (lo hi lo2 hi2 : Nat) (l zb : Nat) (ao bo : Option Addr) (c n d m : Nat) (fs gs : List OpD) (lf wf : Nat) (wc : Array Value) (lead want : (Nat → Int) → Bool) (w : World) (hv : OView w lo hi ao n fs) (hhi : hi ≤ w.heap.size) (hs : ∀ (j : Nat) (f : OpD), fs[j]? = some f → f.2.length ≤ maxLen)
    (hu : OView w lo2 hi2 bo m gs) (hhi2 : hi2 ≤ w.heap.size) (hs2 : ∀ (j : Nat) (f : OpD), gs[j]? = some f → f.2.length ≤ maxLen) (hok : algOkB (l : Int) fs = true) (hok2 : algOkB (zb : Int) gs = true) (hty : typeV fs = typeV gs)
    (eL : ∀ args w, (callFunc lf args).run Try.prog w = .ok (.enter lf args) w) (eW : ∀ args w, (callFunc wf args).run Try.prog w = .ok (.enter wf args) w)
    (hL : ∀ (W : World) (f : Nat → Int), Part (l : Int) (zb : Int) f → (∀ k : Nat, (l : Int) ≤ (k : Int) → f k = -1) → Calls Try.prog lf #[.agg (arrV f)] W fun e W' => e = .returned (.bool (lead f)) ∧ Below W.heap.size W W')
    (hW : ∀ (W : World) (f : Nat → Int), Below w.heap.size w W → Full (l : Int) (zb : Int) f → (∀ k : Nat, (l : Int) ≤ (k : Int) → f k = -1) → Calls Try.prog wf (#[.agg (arrV f)] ++ wc) W fun e W' => e = .returned (.bool (want f)) ∧ Below W.heap.size W W') :
    Calls Try.prog 83 #[.agg #[.int .i64 (l : Int), .slice ao n c], .agg #[.int .i64 (zb : Int), .slice bo m d], .func (.func lf) #[] #[], .func (.func wf) #[] wc] w fun e w' => FstRes w w' l (srchS l zb fs gs lead want 1).2 (decide ((srchS l zb fs gs lead want 1).1 ≤ 5000)) e := by
  obtain ⟨⟨h1, h2⟩, _⟩ := algOkB_of hok
  obtain ⟨w1, hw1⟩ : ∃ w1, w1 = (((w.alloc (.cells #[.int .i64 (l : Int), .slice ao n c] 31)).alloc (.cells #[.int .i64 (zb : Int), .slice bo m d] 31)).alloc (.cells #[.func (.func wf) #[] wc] 79)).alloc (.cells #[.slice none 0 0] 25) := ⟨_, rfl⟩
  obtain ⟨wb, hwb, hbx, hsz⟩ := bx2_new w (l : Int) ao n c (zb : Int) bo m d 31
  have hbx1 : Bx2 w w1 (l : Int) ao n c (zb : Int) bo m d := by rw [hw1, ← hwb]; exact (hbx.below (below_alloc _ _)).below (below_alloc _ _)
  have hV : w1.heap[w.heap.size + 1 + 1 + 1]? = some (.cells #[.slice none 0 0] 25 (0, 0)) := by
    rw [hw1, ← hwb]
    have h := heap_alloc_new (wb.alloc (.cells #[.func (.func wf) #[] wc] 79)) (.cells #[.slice none 0 0] 25)
    rw [World.size_alloc, hsz] at h
    exact h
  have hWb : w1.heap[w.heap.size + 1 + 1]? = some (.cells #[.func (.func wf) #[] wc] 79 (0, 0)) := by
    rw [hw1, ← hwb, Below.heap_alloc _ _ _ (by rw [World.size_alloc, hsz]; omega)]
    have h := heap_alloc_new wb (.cells #[.func (.func wf) #[] wc] 79)
    rw [hsz] at h
    exact h
  have hA : w1.heap[w.heap.size]? = some (.cells #[.int .i64 (l : Int), .slice ao n c] 31 (0, 0)) := by
    rw [hw1, Below.heap_alloc _ _ _ (by simp; omega), Below.heap_alloc _ _ _ (by simp; omega), Below.heap_alloc _ _ _ (by simp)]
    exact heap_alloc_new _ _
  have hR1 : FstR w l ao n c wf wc w1 [] := ⟨hbx1.bel, hWb, hA, _, hV, .inl ⟨rfl, rfl⟩⟩
  have eT : ∀ args w, (callFunc 107 args).run Try.prog w = .ok (.enter 107 args) w := enters_of Try.func107 (by kernel_rfl) rfl
  have HP : ∀ P, w.heap.size ≤ P → SrP l zb fs gs lo hi lo2 hi2 ao bo c n d m w w.heap.size P lf 107 #[.pointer (some ⟨w.heap.size + 1 + 1, 0, none⟩), .pointer (some ⟨w.heap.size, 0, none⟩), .pointer (some ⟨w.heap.size + 1 + 1 + 1, 0, none⟩)] lead want 1 (FstR w l ao n c wf wc) := fun P hP =>
    ⟨hv, hhi, hu, hhi2, hok, hok2, hty, eL, eT, hL, fun W f ms hR hf ho hms => fstTake_any w l zb ao n c wf wc want eW (by omega) (by omega) hW W f ms hR hf ho hms, fun W W' ms hR t => hR.turn t, fun W ms hR => ⟨hR.1, hR.1.size⟩, hP⟩
  have HS := Lib.hid (searchHoms_any HP (by omega) hs hs2 w1 hR1)
  obtain ⟨rs, hrs⟩ : ∃ rs, srchS l zb fs gs lead want 1 = rs := ⟨_, rfl⟩
  rw [hrs] at HS ⊢
  obtain ⟨ok, hok_⟩ : ∃ ok, decide (rs.1 ≤ 5000) = ok := ⟨_, rfl⟩
  rw [hok_] at HS ⊢
  obtain ⟨cz, ca, cz1, ca1, cB⟩ := hbx1
  clear hv hu hs hs2 cB hbx hsz hwb hV hWb hA hR1 HP hL hW hok hok2 hty hrs hok_ eL eW eT
  unfold FstRes
  go_enter Try.func83, Try.ntmps83
  go_wp2_with fail
  rw [← hw1]
  clear hw1
  go_wp2_with fail
  refine HS.out.mono ?_
  rintro e w2 ⟨rfl, ⟨r1, r2, r3, v, r4, r5⟩, b2⟩
  have HB2 := Lib.hid r1
  have c4 : w2.drew.cell? ⟨w.heap.size + 1 + 1 + 1, 0, none⟩ = some v := cell_of_row w2 _ 0 _ _ _ r4
  clear b2 cz ca cz1 ca1 r1 r2 r3 r4
  rcases r5 with ⟨p1, rfl⟩ | ⟨xs, g, dd, p1, p2, rfl, p3⟩
  · have hneq : ∀ W : World, (binOp .neq 25 (.slice none 0 0) (.slice none 0 0)).run Try.prog W = .ok (.bool false) W := fun W => run_neq_slice_nil_any (P := Try.prog) W _ _ none 0 0 0 0 Try.underlying25
    have HP1 := Lib.hid p1
    clear p1
    go_wp2_with fail
    go_region
    go_wp2_with fail
    go_ret3
    exact ⟨_, _, rfl, HB2.out.drew, .inl ⟨HP1.out, rfl, rfl⟩⟩
  · have hneq : ∀ W : World, (binOp .neq 25 (.slice (some ⟨g, 0, none⟩) l dd) (.slice none 0 0)).run Try.prog W = .ok (.bool true) W := fun W => run_neq_slice_nil_any (P := Try.prog) W _ _ (some ⟨g, 0, none⟩) l dd 0 0 Try.underlying25
    have HP1 := Lib.hid p1
    have HP2 := Lib.hid p2
    have HP3 := Lib.hid p3
    clear p1 p2 p3
    go_wp2_with fail
    go_region
    go_wp2_with fail
    go_ret3
    exact ⟨_, _, rfl, HB2.out.drew, .inr ⟨xs, g, dd, HP1.out, HP2.out, rfl, rfl, HP3.out⟩⟩

end Go.Proofs.Ytcioekhlhgkkiaa
