/-
  Contract: the method goOn of impl.mapSearch, for any functions that tell what may lead on and take what is found. Conditions: the bounds that it names.
-/
import Derived.Test.YtmlimbjpehjfnaaTurn
import Derived.Test.YtmlimbjpehjfnaaPlc
import Derived.Shelf.Abstract
import Derived.Deep.RegionHeld3
namespace Go.Proofs.Ytmlimbjpehjfnaa
open Go.RowKit Go.Shelf
set_option linter.unusedVariables false
set_option linter.unusedSimpArgs false

theorem arr_viewG {w : World} {g n : Nat} {f : Nat → Int} (h : ArrAt w g f) (hn : n ≤ 8) : IView w g (g + 1) (some ⟨g, 0, none⟩) n (lstP n f) :=
  ⟨lstP_len n f, .inr ⟨g, 0, rfl, Nat.le_refl _, by omega, fun j x hx => by
    have hj : j < n := by have := (List.getElem?_eq_some_iff.1 hx).1; rw [lstP_len] at this; exact this
    rw [lstP_get f hj] at hx
    rw [Nat.zero_add, h.cell (by omega)]
    simpa using hx⟩⟩

def srV (l zb : Nat) (ao bo : Option Addr) (c n d m lf tf : Nat) (tc : Array Value) (t : Nat) : Array Value := #[.int .i64 (l : Int), .slice ao n c, .int .i64 (zb : Int), .slice bo m d, .func (.func lf) #[] #[], .func (.func tf) #[] tc, .int .i64 (t : Int)]
/-- The world of a search: its block, and what has been found. -/
def SrW (l zb : Nat) (ao bo : Option Addr) (c n d m P lf tf : Nat) (tc : Array Value) (R : World → List (List Int) → Prop) (W : World) (s : St) : Prop := W.heap[P]? = some (.cells (srV l zb ao bo c n d m lf tf tc s.1) 89 (0, 0)) ∧ R W s.2
/-- What is asked of the two functions and of what has been found. -/
structure SrP (l zb : Nat) (fs gs : List OpD) (lo hi lo2 hi2 : Nat) (ao bo : Option Addr) (c n d m : Nat) (w0 : World) (bs P lf tf : Nat) (tc : Array Value) (lead want : (Nat → Int) → Bool) (most : Nat) (R : World → List (List Int) → Prop) : Prop where
  hv : OView w0 lo hi ao n fs
  hhi : hi ≤ bs
  hu : OView w0 lo2 hi2 bo m gs
  hhi2 : hi2 ≤ bs
  hok : algOkB (l : Int) fs = true
  hok2 : algOkB (zb : Int) gs = true
  hty : typeV fs = typeV gs
  eL : ∀ args w, (callFunc lf args).run Try.prog w = .ok (.enter lf args) w
  eT : ∀ args w, (callFunc tf args).run Try.prog w = .ok (.enter tf args) w
  hL : ∀ (W : World) (f : Nat → Int), Part (l : Int) (zb : Int) f → (∀ k : Nat, (l : Int) ≤ (k : Int) → f k = -1) → Calls Try.prog lf #[.agg (arrV f)] W fun e W' => e = .returned (.bool (lead f)) ∧ Below W.heap.size W W'
  hT : ∀ (W : World) (f : Nat → Int) (ms : List (List Int)), R W ms → Full (l : Int) (zb : Int) f → (∀ k : Nat, (l : Int) ≤ (k : Int) → f k = -1) → ms.length < most → Calls Try.prog tf (#[.agg (arrV f)] ++ tc) W fun e W' => e = .returned (.bool (decide ((if want f = true then ms ++ [lstP l f] else ms).length < most))) ∧ R W' (if want f = true then ms ++ [lstP l f] else ms) ∧ Turn bs tT1 W W'
  hR : ∀ (W W' : World) (ms : List (List Int)), R W ms → Turn bs tT2 W W' → R W' ms
  hB : ∀ (W : World) (ms : List (List Int)), R W ms → Below bs w0 W ∧ bs ≤ W.heap.size
  hP : bs ≤ P
section
variable {l zb : Nat} {fs gs : List OpD} {lo hi lo2 hi2 : Nat} {ao bo : Option Addr} {c n d m : Nat} {w0 : World} {bs P lf tf : Nat} {tc : Array Value} {lead want : (Nat → Int) → Bool} {most : Nat} {R : World → List (List Int) → Prop}
theorem SrW.cell {W : World} {s : St} (h : SrW l zb ao bo c n d m P lf tf tc R W s) (k : Nat) : W.cell? ⟨P, k, none⟩ = (srV l zb ao bo c n d m lf tf tc s.1)[k]? := cell_of_row W P k _ _ _ h.1
theorem SrW.frozen {W : World} {s : St} (h : SrW l zb ao bo c n d m P lf tf tc R W s) (k : Nat) : W.frozen? ⟨P, k, none⟩ = false := by
  have := h.1
  simp [World.frozen?, this]
theorem SrW.below {W W' : World} {s : St} (H : SrP l zb fs gs lo hi lo2 hi2 ao bo c n d m w0 bs P lf tf tc lead want most R) (h : SrW l zb ao bo c n d m P lf tf tc R W s) (b : Below W.heap.size W W') : SrW l zb ao bo c n d m P lf tf tc R W' s :=
  ⟨(b.block P (Array.getElem?_eq_some_iff.1 h.1).1).trans h.1, H.hR _ _ _ h.2 (.of_below b)⟩
theorem SrW.arrRow {W : World} {s : St} {g : Nat} {f f' : Nat → Int} (H : SrP l zb fs gs lo hi lo2 hi2 ao bo c n d m w0 bs P lf tf tc lead want most R) (h : SrW l zb ao bo c n d m P lf tf tc R W s) (hA : ArrAt W g f) (hg : bs ≤ g) (hne : g ≠ P) : SrW l zb ao bo c n d m P lf tf tc R (W.setRow g (arrV f')) s :=
  ⟨by
    have h1 := h.1
    unfold World.setRow
    show (W.heap.modify g _)[P]? = _
    rw [Array.getElem?_modify, if_neg hne]; exact h1, H.hR _ _ _ h.2 (Turn.setRow hA hg rfl)⟩
theorem SrW.arrSet {W : World} {s : St} {g : Nat} {f : Nat → Int} (H : SrP l zb fs gs lo hi lo2 hi2 ao bo c n d m w0 bs P lf tf tc lead want most R) (h : SrW l zb ao bo c n d m P lf tf tc R W s) (hA : ArrAt W g f) (hg : bs ≤ g) (hne : g ≠ P) (k : Nat) (v : Value) : SrW l zb ao bo c n d m P lf tf tc R (W.setCell ⟨g, k, none⟩ v) s :=
  ⟨(Below.heap_setCell _ _ _ _ (fun e => hne e.symm)).trans h.1, H.hR _ _ _ h.2 (Turn.setCell hA hg rfl k v)⟩
theorem SrW.tick {W : World} {s : St} (H : SrP l zb fs gs lo hi lo2 hi2 ao bo c n d m w0 bs P lf tf tc lead want most R) (h : SrW l zb ao bo c n d m P lf tf tc R W s) : SrW l zb ao bo c n d m P lf tf tc R (W.setCell ⟨P, 6, none⟩ (.int .i64 ((s.1 + 1 : Nat) : Int))) (s.1 + 1, s.2) := by
  refine ⟨?_, H.hR _ _ _ h.2 (Turn.setCell h.1 H.hP rfl 6 _)⟩
  rw [setCell_eq_setRow W P 6 _ _ _ _ h.1, setRow_heap W P _ _ _ _ h.1]
  rfl

/-- What a call of goOn gives. -/
def GoRes (l zb : Nat) (ao bo : Option Addr) (c n d m bs P lf tf : Nat) (tc : Array Value) (most : Nat) (R : World → List (List Int) → Prop) (W W' : World) (s' : St) (e : Ending) : Prop :=
  e = .returned (.bool (alive most s')) ∧ SrW l zb ao bo c n d m P lf tf tc R W' s' ∧ Turn bs tTA W W'

set_option maxHeartbeats 8000000 in
set_option maxRecDepth 100000 in
theorem goOn_any (H : SrP l zb fs gs lo hi lo2 hi2 ao bo c n d m w0 bs P lf tf tc lead want most R) : ∀ (dd : Nat) (f : Nat → Int) (s : St) (W : World), opens f 8 < dd → Part (l : Int) (zb : Int) f → (∀ k : Nat, (l : Int) ≤ (k : Int) → f k = -1) → alive most s = true → SrW l zb ao bo c n d m P lf tf tc R W s →
    Calls Try.prog 68 #[.pointer (some ⟨P, 0, none⟩), .agg (arrV f)] W fun e W' => GoRes l zb ao bo c n d m bs P lf tf tc most R W W' (tryS l zb fs gs lead (walkS l zb fs gs lead want most dd) f s) e := by
  intro dd
  induction dd with
  | zero => intro f s W h; omega
  | succ dd ih =>
    intro f s W hop hp ho hal hW
    have IH := Lib.hid ih
    have HH := Lib.hid H
    obtain ⟨⟨h1, h2⟩, _⟩ := algOkB_of H.hok
    obtain ⟨⟨k1, k2⟩, _⟩ := algOkB_of H.hok2
    obtain ⟨M, hM⟩ : ∃ M, M = W.heap.size := ⟨_, rfl⟩
    obtain ⟨w1, hw1⟩ : ∃ w1, w1 = W.alloc (.cells (arrV f) 51) := ⟨_, rfl⟩
    have HA1 : Hid (ArrAt w1 M f) := by unfold Hid; rw [hw1, hM]; exact ArrAt.new _ _
    have hb1 : Below W.heap.size W w1 := by rw [hw1]; exact below_alloc _ _
    have HS1 : Hid (SrW l zb ao bo c n d m P lf tf tc R w1 s) := hW.below H hb1
    have HT1 : Hid (Turn bs tTA W w1) := .of_below hb1
    have hbsW := (H.hB _ _ hW.2).2
    have hMb : bs ≤ M := by omega
    have HM0 : Hid (W.heap.size ≤ M) := by unfold Hid; omega
    have hMP : M ≠ P := by have := (Array.getElem?_eq_some_iff.1 hW.1).1; omega
    have hl8 : (l : Int) ≤ 8 := h2
    have HAl := Lib.hid hal
    have HPo : Hid (Part (l : Int) (zb : Int) f ∧ ∀ k : Nat, (l : Int) ≤ (k : Int) → f k = -1) := ⟨hp, ho⟩
    have HOp := Lib.hid hop
    obtain ⟨cv, hcv⟩ : ∃ cv, closV (l : Int) (zb : Int) fs gs f = cv := ⟨_, rfl⟩
    have HCv := Lib.hid hcv
    have HCl : Hid (∀ (V : World), SrW l zb ao bo c n d m P lf tf tc R V s → Calls Try.prog 79 #[.agg (arrV f), .agg #[.int .i64 (l : Int), .slice ao n c], .agg #[.int .i64 (zb : Int), .slice bo m d]] V fun e w' => e = .returned (.tuple #[.agg (arrV (cloA cv)), .bool cv.isSome]) ∧ Below V.heap.size V w') := fun V hV => by
      obtain ⟨bV, sV⟩ := H.hB _ _ hV.2
      have h := closed_any lo hi lo2 hi2 (l : Int) (zb : Int) ao bo c n d m fs gs f V (H.hv.kept (Kept.of_below bV H.hhi)) (Nat.le_trans H.hhi sV) H.hok (H.hu.kept (Kept.of_below bV H.hhi2)) (Nat.le_trans H.hhi2 sV) H.hok2 H.hty hp ho
      rw [hcv] at h
      exact h
    obtain ⟨h_, hh_⟩ : ∃ h_, cloA cv = h_ := ⟨_, rfl⟩
    rw [hh_] at HCl
    have HHc := Lib.hid hh_
    obtain ⟨u, hu_⟩ : ∃ u, cv.isSome = u := ⟨_, rfl⟩
    rw [hu_] at HCl
    have HUc := Lib.hid hu_
    have c0 : w1.cell? ⟨P, 0, none⟩ = some (.int .i64 (l : Int)) := HS1.out.cell 0
    have c1 : w1.cell? ⟨P, 1, none⟩ = some (.slice ao n c) := HS1.out.cell 1
    have c2 : w1.cell? ⟨P, 2, none⟩ = some (.int .i64 (zb : Int)) := HS1.out.cell 2
    have c3 : w1.cell? ⟨P, 3, none⟩ = some (.slice bo m d) := HS1.out.cell 3
    obtain ⟨rs, hrs⟩ : ∃ rs, tryS l zb fs gs lead (walkS l zb fs gs lead want most (dd + 1)) f s = rs := ⟨_, rfl⟩
    have HRs := Lib.hid hrs
    rw [hrs]
    unfold GoRes
    have hsr : rs = s → alive most rs = true := fun h => by rw [h]; exact hal
    have HSr := Lib.hid hsr
    have eL := H.eL
    have eT := H.eT
    clear hp ho hal hW hop hcv hh_ hu_ ih hrs hsr hb1 H
    go_enter Try.func68, Try.ntmps68
    go_wp2_with fail
    rw [← hM, ← hw1]
    clear hM hw1
    go_wp2_with fail
    refine wp_region_noPanic ?_
    refine wp_region_held_drew (S := fun V => V.cell? ⟨P, 0, none⟩ = some (.int .i64 (l : Int)) ∧ V.cell? ⟨P, 1, none⟩ = some (.slice ao n c) ∧ V.cell? ⟨P, 2, none⟩ = some (.int .i64 (zb : Int)) ∧ V.cell? ⟨P, 3, none⟩ = some (.slice bo m d)) (by kernel_rfl) ?_ (fun hHeld => ?_)
    · exact ⟨c0, c1, c2, c3⟩
    refine wpAnyH_take (i := 1) (oi := ⟨_, _, _, _, _, _⟩) (v := ?_) rfl (by kernel_rfl) (by kernel_rfl) (by kernel_rfl) (fun _ _ _ h => h) (Or.inl ⟨rfl, ?_⟩) (by assumption) ?_
    rotate_left 1
    · intro w_ hSw; (try dsimp only at hSw); go_simp; (try with_reducible rfl)
    (try simp only [Act.put, List.setIfInBounds_toArray, List.set_cons_zero, List.set_cons_succ])
    refine wpAnyH_take (i := 2) (oi := ⟨_, _, _, _, _, _⟩) (v := ?_) rfl (by kernel_rfl) (by kernel_rfl) (by kernel_rfl) (fun _ _ _ h => h) (Or.inl ⟨rfl, ?_⟩) (by assumption) ?_
    rotate_left 1
    · intro w_ hSw; (try dsimp only at hSw); go_simp; (try with_reducible rfl)
    (try simp only [Act.put, List.setIfInBounds_toArray, List.set_cons_zero, List.set_cons_succ])
    refine wpAnyH_take (i := 3) (oi := ⟨_, _, _, _, _, _⟩) (v := ?_) rfl (by kernel_rfl) (by kernel_rfl) (by kernel_rfl) (fun _ _ _ h => h) (Or.inl ⟨rfl, ?_⟩) (by assumption) ?_
    rotate_left 1
    · intro w_ hSw; (try dsimp only at hSw); go_simp; (try with_reducible rfl)
    (try simp only [Act.put, List.setIfInBounds_toArray, List.set_cons_zero, List.set_cons_succ])
    refine wpAnyH_take (i := 4) (oi := ⟨_, _, _, _, _, _⟩) (v := ?_) rfl (by kernel_rfl) (by kernel_rfl) (by kernel_rfl) (fun _ _ _ h => h) (Or.inl ⟨rfl, ?_⟩) (by assumption) ?_
    rotate_left 1
    · intro w_ hSw; (try dsimp only at hSw); go_simp; (try with_reducible rfl)
    (try simp only [Act.put, List.setIfInBounds_toArray, List.set_cons_zero, List.set_cons_succ])
    refine wpAnyH_take (i := 5) (oi := ⟨_, _, _, _, _, _⟩) (v := ?_) rfl (by kernel_rfl) (by kernel_rfl) (by kernel_rfl) (fun _ _ _ h => h) (Or.inl ⟨rfl, ?_⟩) (by assumption) ?_
    rotate_left 1
    · intro w_ hSw; (try dsimp only at hSw); go_simp; (try with_reducible rfl)
    (try simp only [Act.put, List.setIfInBounds_toArray, List.set_cons_zero, List.set_cons_succ])
    refine wpAnyH_take (i := 6) (oi := ⟨_, _, _, _, _, _⟩) (v := ?_) rfl (by kernel_rfl) (by kernel_rfl) (by kernel_rfl) (fun _ _ _ h => h) (Or.inl ⟨rfl, ?_⟩) (by assumption) ?_
    rotate_left 1
    · intro w_ hSw; (try dsimp only at hSw); go_simp; (try with_reducible rfl)
    (try simp only [Act.put, List.setIfInBounds_toArray, List.set_cons_zero, List.set_cons_succ])
    refine wpAnyH_take (i := 7) (oi := ⟨_, _, _, _, _, _⟩) (v := ?_) rfl (by kernel_rfl) (by kernel_rfl) (by kernel_rfl) (fun _ _ _ h => h) (Or.inl ⟨rfl, ?_⟩) (by assumption) ?_
    rotate_left 1
    · intro w_ hSw; (try dsimp only at hSw); go_simp; (try with_reducible rfl)
    (try simp only [Act.put, List.setIfInBounds_toArray, List.set_cons_zero, List.set_cons_succ])
    refine wpAnyH_take (i := 8) (oi := ⟨_, _, _, _, _, _⟩) (v := ?_) rfl (by kernel_rfl) (by kernel_rfl) (by kernel_rfl) (fun _ _ _ h => h) (Or.inl ⟨rfl, ?_⟩) (by assumption) ?_
    rotate_left 1
    · intro w_ hSw; (try dsimp only at hSw); go_simp; (try with_reducible rfl)
    (try simp only [Act.put, List.setIfInBounds_toArray, List.set_cons_zero, List.set_cons_succ])
    refine wpAnyH_ready (rs := [0]) (by kernel_rfl) (by simp) ?_
    refine AllReadyH.cons (o := ⟨_, _, _, _, _, _⟩) rfl (fun K hK => ?_) AllReadyH.nil
    refine step_ld8 (show ArrAt w1.drew M f from HA1.out) rfl _ rfl rfl ?_
    refine hK.out _ _ ?_ (fun hHeld => ?_)
    · exact ⟨c0, c1, c2, c3⟩
    clear hK K
    (try simp only [Act.put, List.setIfInBounds_toArray, List.set_cons_zero, List.set_cons_succ])
    refine wpAnyH_ready (rs := [9]) (by kernel_rfl) (by simp) ?_
    refine AllReadyH.cons (o := ⟨_, _, _, _, _, _⟩) rfl (fun K hK => ?_) AllReadyH.nil
    go_simp
    go_at_call 79
    refine (HCl.out _ (by exact HS1.out.below HH.out (below_drew w1))).mono ?_
    rintro e w4 ⟨rfl, b4⟩
    have b4' : Below w1.heap.size w1 w4 := (below_drew w1).trans b4
    have HA4 : Hid (ArrAt w4 M f) := HA1.out.below b4' HA1.out.lt
    have HS4 := Lib.hid (HS1.out.below HH.out b4')
    have HT4 : Hid (Turn bs tTA W w4) := HT1.out.trans (.of_below b4')
    have e0 : w4.cell? ⟨P, 0, none⟩ = some (.int .i64 (l : Int)) := HS4.out.cell 0
    have e1 : w4.cell? ⟨P, 1, none⟩ = some (.slice ao n c) := HS4.out.cell 1
    have e2 : w4.cell? ⟨P, 2, none⟩ = some (.int .i64 (zb : Int)) := HS4.out.cell 2
    have e3 : w4.cell? ⟨P, 3, none⟩ = some (.slice bo m d) := HS4.out.cell 3
    have hsz4 : W.heap.size ≤ w4.heap.size := HT4.out.size
    have HA5 : Hid (ArrAt (w4.setRow M (arrV h_)) M h_) := HA4.out.setRow
    have HS5 : Hid (SrW l zb ao bo c n d m P lf tf tc R (w4.setRow M (arrV h_)) s) := HS4.out.arrRow HH.out HA4.out hMb hMP
    have d0 : (w4.setRow M (arrV h_)).cell? ⟨P, 0, none⟩ = some (.int .i64 (l : Int)) := HS5.out.cell 0
    have d1 : (w4.setRow M (arrV h_)).cell? ⟨P, 1, none⟩ = some (.slice ao n c) := HS5.out.cell 1
    have d2 : (w4.setRow M (arrV h_)).cell? ⟨P, 2, none⟩ = some (.int .i64 (zb : Int)) := HS5.out.cell 2
    have d3 : (w4.setRow M (arrV h_)).cell? ⟨P, 3, none⟩ = some (.slice bo m d) := HS5.out.cell 3
    clear b4 b4' c0 c1 c2 c3
    go_wp2_with fail
    refine hK.out _ _ ?_ (fun hHeld => ?_)
    · exact ⟨e0, e1, e2, e3⟩
    clear hK K
    (try simp only [Act.put, List.setIfInBounds_toArray, List.set_cons_zero, List.set_cons_succ])
    refine wpAnyH_take (i := 10) (oi := ⟨_, _, _, _, _, _⟩) (v := ?_) rfl (by kernel_rfl) (by kernel_rfl) (by kernel_rfl) (fun _ _ _ h => h) (Or.inl ⟨rfl, ?_⟩) (by assumption) ?_
    rotate_left 1
    · intro w_ hSw; (try dsimp only at hSw); go_simp; (try with_reducible rfl)
    (try simp only [Act.put, List.setIfInBounds_toArray, List.set_cons_zero, List.set_cons_succ])
    refine wpAnyH_take (i := 11) (oi := ⟨_, _, _, _, _, _⟩) (v := ?_) rfl (by kernel_rfl) (by kernel_rfl) (by kernel_rfl) (fun _ _ _ h => h) (Or.inl ⟨rfl, ?_⟩) (by assumption) ?_
    rotate_left 1
    · intro w_ hSw; (try dsimp only at hSw); go_simp; (try with_reducible rfl)
    (try simp only [Act.put, List.setIfInBounds_toArray, List.set_cons_zero, List.set_cons_succ])
    refine wpAnyH_take (i := 12) (oi := ⟨_, _, _, _, _, _⟩) (v := ?_) rfl (by kernel_rfl) (by kernel_rfl) (by kernel_rfl) (fun _ _ _ h => h) (Or.inl ⟨rfl, ?_⟩) (by assumption) ?_
    rotate_left 1
    · intro w_ hSw; (try dsimp only at hSw); go_simp; (try with_reducible rfl)
    (try simp only [Act.put, List.setIfInBounds_toArray, List.set_cons_zero, List.set_cons_succ])
    refine wpAnyH_ready (rs := [13]) (by kernel_rfl) (by simp) ?_
    refine AllReadyH.cons (o := ⟨_, _, _, _, _, _⟩) rfl (fun K hK => ?_) AllReadyH.nil
    refine step_st8 HA4.out rfl _ _ rfl rfl rfl ?_
    refine hK.out _ _ ?_ (fun hHeld => ?_)
    · exact ⟨d0, d1, d2, d3⟩
    clear hK K
    (try simp only [Act.put, List.setIfInBounds_toArray, List.set_cons_zero, List.set_cons_succ])
    refine wpAnyH_take (i := 14) (oi := ⟨_, _, _, _, _, _⟩) (v := ?_) rfl (by kernel_rfl) (by kernel_rfl) (by kernel_rfl) (fun _ _ _ h => h) (Or.inl ⟨rfl, ?_⟩) (by assumption) ?_
    rotate_left 1
    · intro w_ hSw; (try dsimp only at hSw); go_simp; (try with_reducible rfl)
    (try simp only [Act.put, List.setIfInBounds_toArray, List.set_cons_zero, List.set_cons_succ])
    refine wpAnyH_done (by kernel_rfl) ?_ _
    refine NoPanic.normal ?_
    have HT5x : Hid (W.heap.size ≤ M ∧ M < w4.heap.size) := ⟨HM0.out, HA4.out.lt⟩
    obtain ⟨w5, hw5⟩ : ∃ w5, w5 = w4.setRow M (arrV h_) := ⟨_, rfl⟩
    have HT5 : Hid (Turn bs tTA W w5) := by
      unfold Hid
      refine ⟨by rw [hw5]; exact HT4.out.os, by rw [hw5]; exact HT4.out.tape, by rw [hw5]; exact HT4.out.output, by rw [hw5, setRow_size]; exact HT4.out.size, fun k hk => ?_⟩
      have hkM : k ≠ M := by have := HT5x.out.1; omega
      have he : w5.heap[k]? = w4.heap[k]? := by
        rw [hw5]
        unfold World.setRow
        show (w4.heap.modify M _)[k]? = _
        rw [Array.getElem?_modify, if_neg (fun e => hkM e.symm)]
      rcases HT4.out.block k hk with h | ⟨a0, cs, T, fr, a1, a2⟩
      · exact .inl (he.trans h)
      · exact .inr ⟨a0, cs, T, fr, a1, a2⟩
    rw [← hw5] at HA5 HS5 d0 d1 d2 d3 ⊢
    clear hw5 d0 d1 d2 d3 e0 e1 e2 e3 HA4 HS4 HT4 HA1 HS1 HT1 hsz4
    go_wp2_with fail
    cases cv with
    | none =>
      obtain rfl : u = false := HUc.out.symm
      have HE : Hid (rs = s) := by unfold Hid; rw [← HRs.out, tryS_none HCv.out]
      go_wp2_with fail
      refine wp_region_noPanic ?_
      refine wp_region_held_drew (S := fun V => True) (by kernel_rfl) ?_ (fun hHeld => ?_)
      · trivial
      refine wpAnyH_take (i := 0) (oi := ⟨_, _, _, _, _, _⟩) (v := ?_) rfl (by kernel_rfl) (by kernel_rfl) (by kernel_rfl) (fun _ _ _ h => h) (Or.inl ⟨rfl, ?_⟩) (by assumption) ?_
      rotate_left 1
      · intro w_ hSw; (try dsimp only at hSw); go_simp; (try with_reducible rfl)
      (try simp only [Act.put, List.setIfInBounds_toArray, List.set_cons_zero, List.set_cons_succ])
      refine wpAnyH_take (i := 1) (oi := ⟨_, _, _, _, _, _⟩) (v := ?_) rfl (by kernel_rfl) (by kernel_rfl) (by kernel_rfl) (fun _ _ _ h => h) (Or.inl ⟨rfl, ?_⟩) (by assumption) ?_
      rotate_left 1
      · intro w_ hSw; (try dsimp only at hSw); go_simp; (try with_reducible rfl)
      (try simp only [Act.put, List.setIfInBounds_toArray, List.set_cons_zero, List.set_cons_succ])
      refine wpAnyH_take (i := 2) (oi := ⟨_, _, _, _, _, _⟩) (v := ?_) rfl (by kernel_rfl) (by kernel_rfl) (by kernel_rfl) (fun _ _ _ h => h) (Or.inl ⟨rfl, ?_⟩) (by assumption) ?_
      rotate_left 1
      · intro w_ hSw; (try dsimp only at hSw); go_simp; (try with_reducible rfl)
      (try simp only [Act.put, List.setIfInBounds_toArray, List.set_cons_zero, List.set_cons_succ])
      refine wpAnyH_take (i := 3) (oi := ⟨_, _, _, _, _, _⟩) (v := undef) rfl (by kernel_rfl) (by kernel_rfl) (by kernel_rfl) (fun _ _ _ h => h) (Or.inr ⟨rfl, rfl⟩) (by assumption) ?_
      (try simp only [Act.put, List.setIfInBounds_toArray, List.set_cons_zero, List.set_cons_succ])
      refine wpAnyH_take (i := 4) (oi := ⟨_, _, _, _, _, _⟩) (v := undef) rfl (by kernel_rfl) (by kernel_rfl) (by kernel_rfl) (fun _ _ _ h => h) (Or.inr ⟨rfl, rfl⟩) (by assumption) ?_
      (try simp only [Act.put, List.setIfInBounds_toArray, List.set_cons_zero, List.set_cons_succ])
      refine wpAnyH_take (i := 5) (oi := ⟨_, _, _, _, _, _⟩) (v := undef) rfl (by kernel_rfl) (by kernel_rfl) (by kernel_rfl) (fun _ _ _ h => h) (Or.inr ⟨rfl, rfl⟩) (by assumption) ?_
      (try simp only [Act.put, List.setIfInBounds_toArray, List.set_cons_zero, List.set_cons_succ])
      refine wpAnyH_take (i := 6) (oi := ⟨_, _, _, _, _, _⟩) (v := undef) rfl (by kernel_rfl) (by kernel_rfl) (by kernel_rfl) (fun _ _ _ h => h) (Or.inr ⟨rfl, rfl⟩) (by assumption) ?_
      (try simp only [Act.put, List.setIfInBounds_toArray, List.set_cons_zero, List.set_cons_succ])
      refine wpAnyH_take (i := 7) (oi := ⟨_, _, _, _, _, _⟩) (v := undef) rfl (by kernel_rfl) (by kernel_rfl) (by kernel_rfl) (fun _ _ _ h => h) (Or.inr ⟨rfl, rfl⟩) (by assumption) ?_
      (try simp only [Act.put, List.setIfInBounds_toArray, List.set_cons_zero, List.set_cons_succ])
      refine wpAnyH_take (i := 8) (oi := ⟨_, _, _, _, _, _⟩) (v := undef) rfl (by kernel_rfl) (by kernel_rfl) (by kernel_rfl) (fun _ _ _ h => h) (Or.inr ⟨rfl, rfl⟩) (by assumption) ?_
      (try simp only [Act.put, List.setIfInBounds_toArray, List.set_cons_zero, List.set_cons_succ])
      refine wpAnyH_take (i := 9) (oi := ⟨_, _, _, _, _, _⟩) (v := undef) rfl (by kernel_rfl) (by kernel_rfl) (by kernel_rfl) (fun _ _ _ h => h) (Or.inr ⟨rfl, rfl⟩) (by assumption) ?_
      (try simp only [Act.put, List.setIfInBounds_toArray, List.set_cons_zero, List.set_cons_succ])
      refine wpAnyH_take (i := 10) (oi := ⟨_, _, _, _, _, _⟩) (v := ?_) rfl (by kernel_rfl) (by kernel_rfl) (by kernel_rfl) (fun _ _ _ h => h) (Or.inl ⟨rfl, ?_⟩) (by assumption) ?_
      rotate_left 1
      · intro w_ hSw; (try dsimp only at hSw); go_simp; (try with_reducible rfl)
      (try simp only [Act.put, List.setIfInBounds_toArray, List.set_cons_zero, List.set_cons_succ])
      refine wpAnyH_done (by kernel_rfl) ?_ _
      refine NoPanic.normal ?_
      go_wp2_with fail
      go_ret
      exact ⟨ret_bool (HSr.out HE.out).symm, by rw [HE.out]; exact HS5.out.below HH.out (below_drew w5), HT5.out.drew⟩
    | some c_ =>
      obtain rfl : u = true := HUc.out.symm
      obtain rfl : c_ = h_ := HHc.out
      obtain ⟨⟨q1, q2⟩, q3⟩ := closV_keep HH.out.hok HH.out.hok2 HH.out.hty HPo.out.1 HPo.out.2 HCv.out
      have hle := fun V => HH.out.hL V c_ q1 q2
      have HQ : Hid ((Part (l : Int) (zb : Int) c_ ∧ ∀ k : Nat, (l : Int) ≤ (k : Int) → c_ k = -1) ∧ opens c_ 8 < dd + 1) := ⟨⟨q1, q2⟩, by have := opens_le q3 8; have := HOp.out; omega⟩
      have f4 : w5.cell? ⟨P, 4, none⟩ = some (.func (.func lf) #[] #[]) := HS5.out.cell 4
      obtain ⟨v, hv_⟩ : ∃ v, lead c_ = v := ⟨_, rfl⟩
      simp only [hv_] at hle
      have HLe := Lib.hid hle
      have HVl := Lib.hid hv_
      clear q1 q2 q3 hle hv_
      cases v with
      | false =>
        have HE : Hid (rs = s) := by unfold Hid; rw [← HRs.out, tryS_no HCv.out HVl.out]
        refine wp_region_noPanic ?_
        refine wp_region_held_drew (S := fun V => ArrAt V M c_ ∧ V.cell? ⟨P, 4, none⟩ = some (.func (.func lf) #[] #[])) (by kernel_rfl) ?_ (fun hHeld => ?_)
        · exact ⟨HA5.out, f4⟩
        refine wpAnyH_take (i := 0) (oi := ⟨_, _, _, _, _, _⟩) (v := ?_) rfl (by kernel_rfl) (by kernel_rfl) (by kernel_rfl) (fun _ _ _ h => h) (Or.inl ⟨rfl, ?_⟩) (by assumption) ?_
        rotate_left 1
        · intro w_ hSw; (try dsimp only at hSw); go_simp; (try with_reducible rfl)
        (try simp only [Act.put, List.setIfInBounds_toArray, List.set_cons_zero, List.set_cons_succ])
        refine wpAnyH_take (i := 1) (oi := ⟨_, _, _, _, _, _⟩) (v := ?_) rfl (by kernel_rfl) (by kernel_rfl) (by kernel_rfl) (fun _ _ _ h => h) (Or.inl ⟨rfl, ?_⟩) (by assumption) ?_
        rotate_left 1
        · intro w_ hSw; (try dsimp only at hSw); go_simp; (try with_reducible rfl)
        (try simp only [Act.put, List.setIfInBounds_toArray, List.set_cons_zero, List.set_cons_succ])
        refine wpAnyH_take (i := 2) (oi := ⟨_, _, _, _, _, _⟩) (v := ?_) rfl (by kernel_rfl) (by kernel_rfl) (by kernel_rfl) (fun _ _ _ h => h) (Or.inl ⟨rfl, ?_⟩) (by assumption) ?_
        rotate_left 1
        · intro w_ hSw; (try dsimp only at hSw); go_simp; (try with_reducible rfl)
        (try simp only [Act.put, List.setIfInBounds_toArray, List.set_cons_zero, List.set_cons_succ])
        refine wpAnyH_take (i := 3) (oi := ⟨_, _, _, _, _, _⟩) (v := ?_) rfl (by kernel_rfl) (by kernel_rfl) (by kernel_rfl) (fun _ _ _ h => h) (Or.inl ⟨rfl, ?_⟩) (by assumption) ?_
        rotate_left 1
        · intro w_ hSw; (try dsimp only at hSw); go_simp; (try with_reducible rfl)
        (try simp only [Act.put, List.setIfInBounds_toArray, List.set_cons_zero, List.set_cons_succ])
        refine wpAnyH_take (i := 4) (oi := ⟨_, _, _, _, _, _⟩) (v := ?_) rfl (by kernel_rfl) (by kernel_rfl) (by kernel_rfl) (fun _ _ _ h => h) (Or.inl ⟨rfl, ?_⟩) (by assumption) ?_
        rotate_left 1
        · intro w_ hSw; (try dsimp only at hSw); go_simp; (try with_reducible rfl)
        (try simp only [Act.put, List.setIfInBounds_toArray, List.set_cons_zero, List.set_cons_succ])
        refine wpAnyH_take (i := 5) (oi := ⟨_, _, _, _, _, _⟩) (v := ?_) rfl (by kernel_rfl) (by kernel_rfl) (by kernel_rfl) (fun _ _ _ h => h) (Or.inl ⟨rfl, ?_⟩) (by assumption) ?_
        rotate_left 1
        · intro w_ hSw; (try dsimp only at hSw); go_simp; (try with_reducible rfl)
        (try simp only [Act.put, List.setIfInBounds_toArray, List.set_cons_zero, List.set_cons_succ])
        refine wpAnyH_take (i := 6) (oi := ⟨_, _, _, _, _, _⟩) (v := ?_) rfl (by kernel_rfl) (by kernel_rfl) (by kernel_rfl) (fun _ _ _ h => h) (Or.inl ⟨rfl, ?_⟩) (by assumption) ?_
        rotate_left 1
        · intro w_ hSw; (try dsimp only at hSw); go_simp; (try with_reducible rfl)
        (try simp only [Act.put, List.setIfInBounds_toArray, List.set_cons_zero, List.set_cons_succ])
        refine wpAnyH_take (i := 7) (oi := ⟨_, _, _, _, _, _⟩) rfl (by kernel_rfl) (by kernel_rfl) (by kernel_rfl) (fun _ _ _ h => h) (ld8Y rfl _ rfl rfl (fun _ h => h.1)) (by assumption) ?_
        (try simp only [Act.put, List.setIfInBounds_toArray, List.set_cons_zero, List.set_cons_succ])
        refine wpAnyH_ready (rs := [8]) (by kernel_rfl) (by simp) ?_
        refine AllReadyH.cons (o := ⟨_, _, _, _, _, _⟩) rfl (fun K hK => ?_) AllReadyH.nil
        go_simp
        go_at_fn lf
        refine (HLe.out _).mono ?_
        rintro e w7 ⟨rfl, b7⟩
        have b7' : Below w5.heap.size w5 w7 := (below_drew w5).trans b7
        have HA7 : Hid (ArrAt w7 M c_) := HA5.out.below b7' HA5.out.lt
        have HS7 := Lib.hid (HS5.out.below HH.out b7')
        have HT7 : Hid (Turn bs tTA W w7) := HT5.out.trans (.of_below b7')
        have g4 : w7.cell? ⟨P, 4, none⟩ = some (.func (.func lf) #[] #[]) := HS7.out.cell 4
        clear b7 b7' f4
        go_wp2_with fail
        refine hK.out _ _ ?_ (fun hHeld => ?_)
        · exact ⟨HA7.out, g4⟩
        clear hK K
        (try simp only [Act.put, List.setIfInBounds_toArray, List.set_cons_zero, List.set_cons_succ])
        refine wpAnyH_take (i := 9) (oi := ⟨_, _, _, _, _, _⟩) (v := ?_) rfl (by kernel_rfl) (by kernel_rfl) (by kernel_rfl) (fun _ _ _ h => h) (Or.inl ⟨rfl, ?_⟩) (by assumption) ?_
        rotate_left 1
        · intro w_ hSw; (try dsimp only at hSw); go_simp; (try with_reducible rfl)
        (try simp only [Act.put, List.setIfInBounds_toArray, List.set_cons_zero, List.set_cons_succ])
        refine wpAnyH_take (i := 10) (oi := ⟨_, _, _, _, _, _⟩) (v := ?_) rfl (by kernel_rfl) (by kernel_rfl) (by kernel_rfl) (fun _ _ _ h => h) (Or.inl ⟨rfl, ?_⟩) (by assumption) ?_
        rotate_left 1
        · intro w_ hSw; (try dsimp only at hSw); go_simp; (try with_reducible rfl)
        (try simp only [Act.put, List.setIfInBounds_toArray, List.set_cons_zero, List.set_cons_succ])
        refine wpAnyH_done (by kernel_rfl) ?_ _
        refine NoPanic.normal ?_
        go_wp2_with fail
        go_ret
        exact ⟨ret_bool (HSr.out HE.out).symm, by rw [HE.out]; exact HS7.out, HT7.out⟩
      | true =>
        have HE : Hid (rs = walkS l zb fs gs lead want most (dd + 1) c_ s) := by unfold Hid; rw [← HRs.out, tryS_yes HCv.out HVl.out]
        refine wp_region_noPanic ?_
        refine wp_region_held_drew (S := fun V => ArrAt V M c_ ∧ V.cell? ⟨P, 4, none⟩ = some (.func (.func lf) #[] #[])) (by kernel_rfl) ?_ (fun hHeld => ?_)
        · exact ⟨HA5.out, f4⟩
        refine wpAnyH_take (i := 0) (oi := ⟨_, _, _, _, _, _⟩) (v := ?_) rfl (by kernel_rfl) (by kernel_rfl) (by kernel_rfl) (fun _ _ _ h => h) (Or.inl ⟨rfl, ?_⟩) (by assumption) ?_
        rotate_left 1
        · intro w_ hSw; (try dsimp only at hSw); go_simp; (try with_reducible rfl)
        (try simp only [Act.put, List.setIfInBounds_toArray, List.set_cons_zero, List.set_cons_succ])
        refine wpAnyH_take (i := 1) (oi := ⟨_, _, _, _, _, _⟩) (v := ?_) rfl (by kernel_rfl) (by kernel_rfl) (by kernel_rfl) (fun _ _ _ h => h) (Or.inl ⟨rfl, ?_⟩) (by assumption) ?_
        rotate_left 1
        · intro w_ hSw; (try dsimp only at hSw); go_simp; (try with_reducible rfl)
        (try simp only [Act.put, List.setIfInBounds_toArray, List.set_cons_zero, List.set_cons_succ])
        refine wpAnyH_take (i := 2) (oi := ⟨_, _, _, _, _, _⟩) (v := ?_) rfl (by kernel_rfl) (by kernel_rfl) (by kernel_rfl) (fun _ _ _ h => h) (Or.inl ⟨rfl, ?_⟩) (by assumption) ?_
        rotate_left 1
        · intro w_ hSw; (try dsimp only at hSw); go_simp; (try with_reducible rfl)
        (try simp only [Act.put, List.setIfInBounds_toArray, List.set_cons_zero, List.set_cons_succ])
        refine wpAnyH_take (i := 3) (oi := ⟨_, _, _, _, _, _⟩) (v := ?_) rfl (by kernel_rfl) (by kernel_rfl) (by kernel_rfl) (fun _ _ _ h => h) (Or.inl ⟨rfl, ?_⟩) (by assumption) ?_
        rotate_left 1
        · intro w_ hSw; (try dsimp only at hSw); go_simp; (try with_reducible rfl)
        (try simp only [Act.put, List.setIfInBounds_toArray, List.set_cons_zero, List.set_cons_succ])
        refine wpAnyH_take (i := 4) (oi := ⟨_, _, _, _, _, _⟩) (v := ?_) rfl (by kernel_rfl) (by kernel_rfl) (by kernel_rfl) (fun _ _ _ h => h) (Or.inl ⟨rfl, ?_⟩) (by assumption) ?_
        rotate_left 1
        · intro w_ hSw; (try dsimp only at hSw); go_simp; (try with_reducible rfl)
        (try simp only [Act.put, List.setIfInBounds_toArray, List.set_cons_zero, List.set_cons_succ])
        refine wpAnyH_take (i := 5) (oi := ⟨_, _, _, _, _, _⟩) (v := ?_) rfl (by kernel_rfl) (by kernel_rfl) (by kernel_rfl) (fun _ _ _ h => h) (Or.inl ⟨rfl, ?_⟩) (by assumption) ?_
        rotate_left 1
        · intro w_ hSw; (try dsimp only at hSw); go_simp; (try with_reducible rfl)
        (try simp only [Act.put, List.setIfInBounds_toArray, List.set_cons_zero, List.set_cons_succ])
        refine wpAnyH_take (i := 6) (oi := ⟨_, _, _, _, _, _⟩) (v := ?_) rfl (by kernel_rfl) (by kernel_rfl) (by kernel_rfl) (fun _ _ _ h => h) (Or.inl ⟨rfl, ?_⟩) (by assumption) ?_
        rotate_left 1
        · intro w_ hSw; (try dsimp only at hSw); go_simp; (try with_reducible rfl)
        (try simp only [Act.put, List.setIfInBounds_toArray, List.set_cons_zero, List.set_cons_succ])
        refine wpAnyH_take (i := 7) (oi := ⟨_, _, _, _, _, _⟩) rfl (by kernel_rfl) (by kernel_rfl) (by kernel_rfl) (fun _ _ _ h => h) (ld8Y rfl _ rfl rfl (fun _ h => h.1)) (by assumption) ?_
        (try simp only [Act.put, List.setIfInBounds_toArray, List.set_cons_zero, List.set_cons_succ])
        refine wpAnyH_ready (rs := [8]) (by kernel_rfl) (by simp) ?_
        refine AllReadyH.cons (o := ⟨_, _, _, _, _, _⟩) rfl (fun K hK => ?_) AllReadyH.nil
        go_simp
        go_at_fn lf
        refine (HLe.out _).mono ?_
        rintro e w7 ⟨rfl, b7⟩
        have b7' : Below w5.heap.size w5 w7 := (below_drew w5).trans b7
        have HA7 : Hid (ArrAt w7 M c_) := HA5.out.below b7' HA5.out.lt
        have HS7 := Lib.hid (HS5.out.below HH.out b7')
        have HT7 : Hid (Turn bs tTA W w7) := HT5.out.trans (.of_below b7')
        have g4 : w7.cell? ⟨P, 4, none⟩ = some (.func (.func lf) #[] #[]) := HS7.out.cell 4
        clear b7 b7' f4
        go_wp2_with fail
        refine hK.out _ _ ?_ (fun hHeld => ?_)
        · exact ⟨HA7.out, g4⟩
        clear hK K
        (try simp only [Act.put, List.setIfInBounds_toArray, List.set_cons_zero, List.set_cons_succ])
        refine wpAnyH_take (i := 9) (oi := ⟨_, _, _, _, _, _⟩) (v := ?_) rfl (by kernel_rfl) (by kernel_rfl) (by kernel_rfl) (fun _ _ _ h => h) (Or.inl ⟨rfl, ?_⟩) (by assumption) ?_
        rotate_left 1
        · intro w_ hSw; (try dsimp only at hSw); go_simp; (try with_reducible rfl)
        (try simp only [Act.put, List.setIfInBounds_toArray, List.set_cons_zero, List.set_cons_succ])
        refine wpAnyH_take (i := 10) (oi := ⟨_, _, _, _, _, _⟩) (v := ?_) rfl (by kernel_rfl) (by kernel_rfl) (by kernel_rfl) (fun _ _ _ h => h) (Or.inl ⟨rfl, ?_⟩) (by assumption) ?_
        rotate_left 1
        · intro w_ hSw; (try dsimp only at hSw); go_simp; (try with_reducible rfl)
        (try simp only [Act.put, List.setIfInBounds_toArray, List.set_cons_zero, List.set_cons_succ])
        refine wpAnyH_done (by kernel_rfl) ?_ _
        refine NoPanic.normal ?_
        have c0 : w7.cell? ⟨P, 0, none⟩ = some (.int .i64 (l : Int)) := HS7.out.cell 0
        have HIx := Lib.hid (fun (vc : Nat) => place_impl M (M + 1) M 0 l vc (lstP l c_) (-1) w7 (arr_viewG HA7.out (by omega)) (by omega) (by omega))
        have hll : (l : Int) ≤ 8 := hl8
        rcases firstOpen_cases c_ l with ⟨q1, q2⟩ | ⟨x, q1, q2, q3, q4⟩
        · have hpl : plI (lstP l c_) (-1) = -1 := plI_no (fun hm => by
            obtain ⟨k, hk, e⟩ := List.getElem_of_mem hm
            have hk' : k < l := by rw [lstP_len] at hk; exact hk
            have h := lstP_get c_ hk'
            rw [List.getElem?_eq_getElem hk, e] at h
            exact q2 k hk' (Option.some.inj h).symm)
          rw [hpl] at HIx
          have HE2 : Hid (rs = (s.1, if want c_ = true then s.2 ++ [lstP l c_] else s.2)) := by
            unfold Hid; rw [HE.out, walkS_leaf q1]
            by_cases hw : want c_ = true
            · rw [if_pos hw, if_pos hw]
            · rw [if_neg hw, if_neg hw]
          have hfull : Full (l : Int) (zb : Int) c_ := fun k hk => by
            rcases HQ.out.1.1 k hk with h | h
            · exact absurd h (q2 k (by omega))
            · exact h
          have hal2 := HAl.out
          unfold alive at hal2
          simp only [Bool.and_eq_true, decide_eq_true_eq] at hal2
          have HTk := Lib.hid (fun (V : World) (hV : SrW l zb ao bo c n d m P lf tf tc R V s) => HH.out.hT V c_ s.2 hV.2 hfull HQ.out.1.2 hal2.1)
          have HAv : Hid (alive most rs = decide ((if want c_ = true then s.2 ++ [lstP l c_] else s.2).length < most)) := by
            unfold Hid; rw [HE2.out]; unfold alive; simp only [decide_eq_true hal2.2, Bool.and_true]
          have HS8 := HS7
          have f5 : w7.cell? ⟨P, 5, none⟩ = some (.func (.func tf) #[] tc) := HS7.out.cell 5
          obtain ⟨v, hv_⟩ : ∃ v, decide ((if want c_ = true then s.2 ++ [lstP l c_] else s.2).length < most) = v := ⟨_, rfl⟩
          rw [hv_] at HTk HAv
          clear q1 q2 hpl hfull hal2 hv_ g4
          go_wp2_with fail
          refine (HIx.out _).mono ?_
          rintro e w8 ⟨rfl, hw8⟩
          obtain rfl : w7 = w8 := hw8.symm
          go_wp2_with fail
          refine wp_region_noPanic ?_
          refine wp_region_held_drew (S := fun V => ArrAt V M c_ ∧ V.cell? ⟨P, 5, none⟩ = some (.func (.func tf) #[] tc)) (by kernel_rfl) ?_ (fun hHeld => ?_)
          · exact ⟨HA7.out, f5⟩
          refine wpAnyH_take (i := 0) (oi := ⟨_, _, _, _, _, _⟩) (v := ?_) rfl (by kernel_rfl) (by kernel_rfl) (by kernel_rfl) (fun _ _ _ h => h) (Or.inl ⟨rfl, ?_⟩) (by assumption) ?_
          rotate_left 1
          · intro w_ hSw; (try dsimp only at hSw); go_simp; (try with_reducible rfl)
          (try simp only [Act.put, List.setIfInBounds_toArray, List.set_cons_zero, List.set_cons_succ])
          refine wpAnyH_take (i := 1) (oi := ⟨_, _, _, _, _, _⟩) (v := ?_) rfl (by kernel_rfl) (by kernel_rfl) (by kernel_rfl) (fun _ _ _ h => h) (Or.inl ⟨rfl, ?_⟩) (by assumption) ?_
          rotate_left 1
          · intro w_ hSw; (try dsimp only at hSw); go_simp; (try with_reducible rfl)
          (try simp only [Act.put, List.setIfInBounds_toArray, List.set_cons_zero, List.set_cons_succ])
          refine wpAnyH_take (i := 2) (oi := ⟨_, _, _, _, _, _⟩) (v := ?_) rfl (by kernel_rfl) (by kernel_rfl) (by kernel_rfl) (fun _ _ _ h => h) (Or.inl ⟨rfl, ?_⟩) (by assumption) ?_
          rotate_left 1
          · intro w_ hSw; (try dsimp only at hSw); go_simp; (try with_reducible rfl)
          (try simp only [Act.put, List.setIfInBounds_toArray, List.set_cons_zero, List.set_cons_succ])
          refine wpAnyH_take (i := 3) (oi := ⟨_, _, _, _, _, _⟩) (v := ?_) rfl (by kernel_rfl) (by kernel_rfl) (by kernel_rfl) (fun _ _ _ h => h) (Or.inl ⟨rfl, ?_⟩) (by assumption) ?_
          rotate_left 1
          · intro w_ hSw; (try dsimp only at hSw); go_simp; (try with_reducible rfl)
          (try simp only [Act.put, List.setIfInBounds_toArray, List.set_cons_zero, List.set_cons_succ])
          refine wpAnyH_take (i := 4) (oi := ⟨_, _, _, _, _, _⟩) rfl (by kernel_rfl) (by kernel_rfl) (by kernel_rfl) (fun _ _ _ h => h) (ld8Y rfl _ rfl rfl (fun _ h => h.1)) (by assumption) ?_
          (try simp only [Act.put, List.setIfInBounds_toArray, List.set_cons_zero, List.set_cons_succ])
          refine wpAnyH_ready (rs := [5]) (by kernel_rfl) (by simp) ?_
          refine AllReadyH.cons (o := ⟨_, _, _, _, _, _⟩) rfl (fun K hK => ?_) AllReadyH.nil
          go_simp
          go_at_fn tf
          refine (HTk.out _ (by exact HS8.out.below HH.out (below_drew w7))).mono ?_
          rintro e w9 ⟨rfl, r9, t9⟩
          have HT9 : Hid (Turn bs tT1 w7 w9) := (Turn.of_below (below_drew w7)).trans t9
          have HA9 : Hid (ArrAt w9 M c_) := HT9.out.arr HA7.out rfl
          have HS9 : Hid (SrW l zb ao bo c n d m P lf tf tc R w9 (s.1, if want c_ = true then s.2 ++ [lstP l c_] else s.2)) := ⟨HT9.out.keep HS7.out.1 rfl, r9⟩
          have g5 : w9.cell? ⟨P, 5, none⟩ = some (.func (.func tf) #[] tc) := HS9.out.cell 5
          clear r9 t9 f5
          go_wp2_with fail
          refine hK.out _ _ ?_ (fun hHeld => ?_)
          · exact ⟨HA9.out, g5⟩
          clear hK K
          (try simp only [Act.put, List.setIfInBounds_toArray, List.set_cons_zero, List.set_cons_succ])
          refine wpAnyH_take (i := 6) (oi := ⟨_, _, _, _, _, _⟩) (v := ?_) rfl (by kernel_rfl) (by kernel_rfl) (by kernel_rfl) (fun _ _ _ h => h) (Or.inl ⟨rfl, ?_⟩) (by assumption) ?_
          rotate_left 1
          · intro w_ hSw; (try dsimp only at hSw); go_simp; (try with_reducible rfl)
          (try simp only [Act.put, List.setIfInBounds_toArray, List.set_cons_zero, List.set_cons_succ])
          refine wpAnyH_done (by kernel_rfl) ?_ _
          refine NoPanic.normal ?_
          go_wp2_with fail
          go_ret
          exact ⟨ret_bool HAv.out.symm, by rw [HE2.out]; exact HS9.out, HT7.out.trans (HT9.out.mono (Nat.le_refl _) tT1_A)⟩
        · have hpl : plI (lstP l c_) (-1) = (x : Int) := plI_hit (by rw [lstP_get _ q2, q3]) (fun hm => by
            obtain ⟨k, hk, e⟩ := List.getElem_of_mem hm
            have hk' : k < x := by rw [List.length_take] at hk; omega
            have h : ((lstP l c_).take x)[k]? = some (-1) := by rw [List.getElem?_eq_getElem hk, e]
            rw [List.getElem?_take, if_pos hk', lstP_get c_ (by omega)] at h
            exact q4 k hk' (Option.some.inj h))
          rw [hpl] at HIx
          have HE2 : Hid (rs = kids most (fun y => tryS l zb fs gs lead (walkS l zb fs gs lead want most dd) (put8 c_ x y)) zb 0 s) := by unfold Hid; rw [HE.out, walkS_node q1]
          have HX := Lib.hid (And.intro q2 q3)
          have hx8 : x < 8 := by omega
          have hx8' : (x : Int) < 8 := by omega
          have c2 : w7.cell? ⟨P, 2, none⟩ = some (.int .i64 (zb : Int)) := HS7.out.cell 2
          have HS8 := HS7
          clear q1 q2 q3 q4 hpl g4
          go_wp2_with fail
          refine (HIx.out _).mono ?_
          rintro e w8 ⟨rfl, hw8⟩
          obtain rfl : w7 = w8 := hw8.symm
          clear c0
          go_wp2_with fail
          go_loopw [52] (fun i wr => ∃ (y : Nat) (sy : St) (fc : Nat → Int), y ≤ zb ∧ i = .int .i64 (y : Int) ∧ Hid (kids most (fun y => tryS l zb fs gs lead (walkS l zb fs gs lead want most dd) (put8 c_ x y)) (zb - y) y sy = rs) ∧ Hid (alive most sy = true) ∧ Hid (SrW l zb ao bo c n d m P lf tf tc R wr sy) ∧ Hid (ArrAt wr M fc) ∧ Hid (∀ y, put8 fc x y = put8 c_ x y) ∧ Hid (Turn bs tTA W wr)) (fun i _ => zb - (intOf i).toNat)
          case atStart => exact ⟨0, s, c_, Nat.zero_le _, rfl, HE2.out.symm, HAl, HS7, HA7, fun _ => rfl, HT7⟩
          case round =>
            obtain ⟨y, sy, fc, hy, rfl, HK, HAy, HSy, HArr, HEq, HTy⟩ := hrel
            by_cases hlt : y < zb
            · have hyz : (y : Int) < (zb : Int) := by omega
              have c6 : wr.cell? ⟨P, 6, none⟩ = some (.int .i64 (sy.1 : Int)) := HSy.out.cell 6
              have f6 : wr.frozen? ⟨P, 6, none⟩ = false := HSy.out.frozen 6
              have hs5 : sy.1 ≤ 5000 := by
                have h := HAy.out
                unfold alive at h
                simp only [Bool.and_eq_true, decide_eq_true_eq] at h
                exact h.2
              obtain ⟨zk, hzk⟩ : ∃ zk, zb - y = zk + 1 := ⟨zb - y - 1, by omega⟩
              have HZk := Lib.hid hzk
              have HSt := Lib.hid (HSy.out.tick HH.out)
              have hti : (((sy.1 + 1 : Nat) : Int)) = (sy.1 : Int) + 1 := by omega
              rw [hti] at HSt
              obtain ⟨ty, hty⟩ : ∃ ty : Nat, sy.1 = ty := ⟨_, rfl⟩
              have HTyv := Lib.hid hty
              rw [hty] at c6 hs5 HSt
              obtain ⟨w9, hw9⟩ : ∃ w9, w9 = wr.setCell ⟨P, 6, none⟩ (.int .i64 ((ty : Int) + 1)) := ⟨_, rfl⟩
              rw [← hw9] at HSt
              have HA9 : Hid (ArrAt w9 M fc) := by unfold Hid; rw [hw9]; exact HArr.out.setOther hMP 6 _
              have HT9 : Hid (Turn bs tTA W w9) := by unfold Hid; rw [hw9]; exact HTy.out.trans (Turn.setCell HSy.out.1 HH.out.hP rfl 6 _)
              have c9 : w9.cell? ⟨P, 6, none⟩ = some (.int .i64 ((ty : Int) + 1)) := (HSt.out.cell 6).trans (by show some (Value.int .i64 ((ty + 1 : Nat) : Int)) = _; rw [show ((ty + 1 : Nat) : Int) = (ty : Int) + 1 by omega])
              have HW9 := Lib.hid hw9
              clear hty hzk hti hw9
              by_cases hov : ty + 1 > 5000
              · have hov' : (5000 : Int) < (ty : Int) + 1 := by omega
                have HE3 : Hid (rs = (ty + 1, sy.2)) := by
                  have h := HK.out
                  rw [HZk.out, kids_over HAy.out (by rw [HTyv.out]; exact hov), HTyv.out] at h
                  exact h.symm
                have HF : Hid (alive most rs = false) := by
                  unfold Hid; rw [HE3.out]; unfold alive
                  have : ¬ (ty + 1 ≤ 5000) := by omega
                  simp only [decide_eq_false this, Bool.and_false]
                clear hov
                go_wp2_with fail
                rw [← HW9.out]
                go_wp2_with fail
                go_ret
                exact ⟨ret_bool HF.out.symm, by rw [HE3.out]; exact HSt.out, HT9.out⟩
              · have hov' : ¬ (5000 : Int) < (ty : Int) + 1 := by omega
                have cM := HA9.out.cell hx8
                have cMf := HA9.out.frozen x
                obtain ⟨w10, hw10⟩ : ∃ w10, w10 = w9.setCell ⟨M, x, none⟩ (.int .i64 (y : Int)) := ⟨_, rfl⟩
                have HA10 : Hid (ArrAt w10 M (put8 c_ x (y : Int))) := by unfold Hid; rw [hw10, ← HEq.out]; exact HA9.out.set hx8 _
                have HS10 : Hid (SrW l zb ao bo c n d m P lf tf tc R w10 (ty + 1, sy.2)) := by unfold Hid; rw [hw10]; exact HSt.out.arrSet HH.out HA9.out hMb hMP x _
                have HT10 : Hid (Turn bs tTA W w10) := by
                  unfold Hid
                  refine ⟨by rw [hw10]; exact HT9.out.os, by rw [hw10]; exact HT9.out.tape, by rw [hw10]; exact HT9.out.output, by rw [hw10]; have := HT9.out.size; simpa [World.setCell] using this, fun k hk => ?_⟩
                  have hkM : k ≠ M := by have := HM0.out; omega
                  have he : w10.heap[k]? = w9.heap[k]? := by rw [hw10]; exact Below.heap_setCell _ _ _ _ hkM
                  rcases HT9.out.block k hk with h | ⟨a0, cs, T, fr, a1, a2⟩
                  · exact .inl (he.trans h)
                  · exact .inr ⟨a0, cs, T, fr, a1, a2⟩
                have HW10 := Lib.hid hw10
                have hal3 : alive most (ty + 1, sy.2) = true := by
                  have h := HAy.out
                  unfold alive at h ⊢
                  simp only [Bool.and_eq_true, decide_eq_true_eq] at h ⊢
                  exact ⟨h.1, by omega⟩
                have HG := Lib.hid (IH.out (put8 c_ x (y : Int)) (ty + 1, sy.2) w10 (opens_put hx8 HX.out.2 (by omega) HQ.out.2) (HQ.out.1.1.put (by omega) hyz) (out_put HQ.out.1.2 (by have := HX.out.1; omega)) hal3 HS10.out)
                obtain ⟨s2, hs2⟩ : ∃ s2, tryS l zb fs gs lead (walkS l zb fs gs lead want most dd) (put8 c_ x (y : Int)) (ty + 1, sy.2) = s2 := ⟨_, rfl⟩
                rw [hs2] at HG
                have HK2 : Hid (kids most (fun y => tryS l zb fs gs lead (walkS l zb fs gs lead want most dd) (put8 c_ x y)) zk (y + 1) s2 = rs) := by
                  have h := HK.out
                  rw [HZk.out, kids_on HAy.out (by rw [HTyv.out]; exact hov), HTyv.out, hs2] at h
                  exact h
                unfold GoRes at HG
                obtain ⟨v, hv_⟩ : ∃ v, alive most s2 = v := ⟨_, rfl⟩
                rw [hv_] at HG
                have HVa := Lib.hid hv_
                have cM' : (wr.setCell ⟨P, 6, none⟩ (.int .i64 ((ty : Int) + 1))).cell? ⟨M, x, none⟩ = some (.int .i64 (fc x)) := by rw [← HW9.out]; exact cM
                have cMf' : (wr.setCell ⟨P, 6, none⟩ (.int .i64 ((ty : Int) + 1))).frozen? ⟨M, x, none⟩ = false := by rw [← HW9.out]; exact cMf
                have HA10' : Hid (ArrAt ((wr.setCell ⟨P, 6, none⟩ (.int .i64 ((ty : Int) + 1))).setCell ⟨M, x, none⟩ (.int .i64 (y : Int))) M (put8 c_ x (y : Int))) := by unfold Hid; rw [← HW9.out, ← HW10.out]; exact HA10
                clear hov hal3 hs2 hv_ hw10 cM cMf c9
                go_wp2_with (refine ld8 (w := (wr.setCell ⟨P, 6, none⟩ (.int .i64 ((ty : Int) + 1))).setCell ⟨M, x, none⟩ (.int .i64 (y : Int))) HA10'.out rfl _ rfl rfl ?_; rw [← HW9.out, ← HW10.out])
                refine HG.out.mono ?_
                rintro e w11 ⟨rfl, r11, t11⟩
                have HS11 := Lib.hid r11
                have HA11 : Hid (ArrAt w11 M (put8 c_ x (y : Int))) := t11.arr HA10.out rfl
                have HT11 : Hid (Turn bs tTA W w11) := HT10.out.trans t11
                have HEq2 : Hid (∀ y', put8 (put8 c_ x (y : Int)) x y' = put8 c_ x y') := fun y' => by
                  funext j
                  unfold put8
                  by_cases h : j = x
                  · rw [if_pos h, if_pos h]
                  · rw [if_neg h, if_neg h, if_neg h]
                clear r11 t11
                cases v with
                | false =>
                  have HE3 : Hid (rs = s2) := by
                    have h := HK2.out
                    rw [kids_dead HVa.out] at h
                    exact h.symm
                  go_wp2_with fail
                  go_ret
                  exact ⟨ret_bool (by rw [HE3.out]; exact HVa.out.symm), by rw [HE3.out]; exact HS11.out, HT11.out⟩
                | true =>
                  go_wp2_with fail
                  go_roundw
                  case rel => exact ⟨y + 1, s2, put8 c_ x (y : Int), by omega, by go_num, by have h := HK2.out; rw [show zk = zb - (y + 1) by have := HZk.out; omega] at h; exact h, HVa, HS11, HA11, HEq2, HT11⟩
                  case measure => simp [intOf]; omega
            · have hyz : ¬ (y : Int) < (zb : Int) := by omega
              have HE3 : Hid (rs = sy) := by
                have h := HK.out
                rw [show zb - y = 0 by omega] at h
                exact h.symm
              go_wp2_with fail
              go_ret
              exact ⟨ret_bool (by rw [HE3.out]; exact HAy.out.symm), by rw [HE3.out]; exact HSy.out, HTy.out⟩
end

end Go.Proofs.Ytmlimbjpehjfnaa
