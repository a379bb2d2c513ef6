/-
  QtM, QtI, QtO, RstM, SbQ, RstI, RstS in one text. Conditions: as each theorem names them.
-/
import Derived.Test.YtcmjkfcgekmomaaKrlM
import Derived.Test.YtcmjkfcgekmomaaPartM
import Derived.Test.YtcmjkfcgekmomaaPartL
import Derived.Test.YtcmjkfcgekmomaaPlc
import Derived.Test.YtcmjkfcgekmomaaApp
import Derived.Test.YtcmjkfcgekmomaaBuilt
import Derived.Deep.RegionHeld3
import Derived.Maps.AppendAt
import Derived.Test.YtcmjkfcgekmomaaCgJ
import Derived.Test.YtcmjkfcgekmomaaIsuJ
import Derived.Test.YtcmjkfcgekmomaaPvI
import Derived.Test.YtcmjkfcgekmomaaL9k
namespace Go.Proofs.Ytcmjkfcgekmomaa
section
open Go.RowKit
set_option linter.unusedVariables false
set_option linter.unusedSimpArgs false

/-- The least elements of blocks below k. -/
def leP (f : Nat → Int) : Nat → List Int
  | 0 => []
  | k + 1 => leP f k ++ (if f k = (k : Int) then [(k : Int)] else [])
theorem leP_yes {f : Nat → Int} {k : Nat} (h : f k = (k : Int)) : leP f (k + 1) = leP f k ++ [(k : Int)] := by rw [leP, if_pos h]
theorem leP_no {f : Nat → Int} {k : Nat} (h : ¬ f k = (k : Int)) : leP f (k + 1) = leP f k := by rw [leP, if_neg h, List.append_nil]
theorem leP_mem {f : Nat → Int} {v : Int} : ∀ {k : Nat}, v ∈ leP f k ↔ ∃ y : Nat, y < k ∧ f y = (y : Int) ∧ v = (y : Int)
  | 0 => by simp [leP]
  | k + 1 => by
    rw [leP, List.mem_append, leP_mem (k := k)]
    constructor
    · rintro (⟨y, h1, h2, h3⟩ | h)
      · exact ⟨y, by omega, h2, h3⟩
      · by_cases hk : f k = (k : Int)
        · rw [if_pos hk] at h
          exact ⟨k, by omega, hk, by simpa using h⟩
        · rw [if_neg hk] at h; cases h
    · rintro ⟨y, h1, h2, h3⟩
      by_cases hy : y < k
      · exact .inl ⟨y, hy, h2, h3⟩
      · obtain rfl : y = k := by omega
        right
        rw [if_pos h2, h3]; simp
theorem leP_len (f : Nat → Int) : ∀ k, (leP f k).length ≤ k
  | 0 => Nat.le_refl _
  | k + 1 => by
    have := leP_len f k
    rw [leP, List.length_append]
    split <;> simp <;> omega
theorem leP_congr {f g : Nat → Int} : ∀ {k : Nat}, (∀ x, x < k → f x = g x) → leP f k = leP g k
  | 0, _ => rfl
  | k + 1, h => by rw [leP, leP, leP_congr fun x hx => h x (by omega), h k (by omega)]
theorem leP_pre (f : Nat → Int) (k : Nat) : ∀ d, ∃ r, leP f (k + d) = leP f k ++ r
  | 0 => ⟨[], by simp⟩
  | d + 1 => by
    obtain ⟨r, hr⟩ := leP_pre f k d
    exact ⟨r ++ (if f (k + d) = ((k + d : Nat) : Int) then [((k + d : Nat) : Int)] else []), by rw [← Nat.add_assoc, leP, hr, List.append_assoc]⟩
theorem ixP_app {v : Int} {r : List Int} : ∀ {l : List Int}, v ∈ l → ixP (l ++ r) v = ixP l v
  | [], h => by cases h
  | y :: l, h => by
    rw [List.cons_append, ixP, ixP]
    by_cases hy : y = v
    · rw [if_pos hy, if_pos hy]
    · rw [if_neg hy, if_neg hy, ixP_app (by rcases List.mem_cons.1 h with h | h; exact absurd h.symm hy; exact h)]
theorem plI_app {v : Int} {l r : List Int} (h : v ∈ l) : plI (l ++ r) v = plI l v := by
  unfold plI
  rw [if_pos h, if_pos (List.mem_append_left _ h), ixP_app h]
theorem plI_last {v : Int} {l : List Int} (h : ¬ v ∈ l) : plI (l ++ [v]) v = (l.length : Int) := by
  refine plI_hit (q := l.length) ?_ ?_
  · rw [List.getElem?_append_right (Nat.le_refl _), Nat.sub_self]; rfl
  · rw [List.take_append_of_le_length (Nat.le_refl _), List.take_length]; exact h
/-- The number of the block of an element. -/
def naI (f : Nat → Int) (x : Nat) : Int := plI (leP f (x + 1)) (f x)
theorem naI_new {f : Nat → Int} {x : Nat} (h : f x = (x : Int)) : naI f x = ((leP f x).length : Int) := by
  unfold naI
  rw [leP_yes h, h]
  refine plI_last fun hm => ?_
  obtain ⟨y, h1, h2, h3⟩ := leP_mem.1 hm
  omega
theorem naI_old {f : Nat → Int} {x y : Nat} (h : f x = (y : Int)) (hy : y < x) (hf : f y = (y : Int)) : naI f x = naI f y := by
  unfold naI
  obtain ⟨r, hr⟩ := leP_pre f (y + 1) (x - y)
  rw [show y + 1 + (x - y) = x + 1 by omega] at hr
  rw [hr, h, hf]
  exact plI_app (leP_mem.2 ⟨y, by omega, hf, rfl⟩)
theorem plI_lt {l : List Int} {v : Int} (h : v ∈ l) : 0 ≤ plI l v ∧ plI l v < l.length := by
  unfold plI
  rw [if_pos h]
  have := ixP_lt h
  omega
theorem naI_bd {f : Nat → Int} {n x : Nat} (hf : okAll f n = true) (hx : x < n) : 0 ≤ naI f x ∧ naI f x < (leP f (x + 1)).length := by
  obtain ⟨⟨h0, h1⟩, h2⟩ := okAll_get hf hx
  refine plI_lt (leP_mem.2 ⟨(f x).toNat, by omega, by rw [h2]; omega, by omega⟩)
theorem naI_congr {f g : Nat → Int} {x : Nat} (h : ∀ y, y < x + 1 → f y = g y) : naI f x = naI g x := by
  unfold naI; rw [leP_congr h, h x (by omega)]
end

section
open Go.RowKit
set_option linter.unusedVariables false
set_option linter.unusedSimpArgs false

/-- The cells of a quotient. -/
def qtArr (z : Int) (ao : Option Addr) (n c : Nat) (f : Nat → Int) (va vb : Value) : Array Value :=
  #[.int .i64 z, .slice ao n c, .int .i64 (f 0), .int .i64 (f 1), .int .i64 (f 2), .int .i64 (f 3), .int .i64 (f 4), .int .i64 (f 5), .int .i64 (f 6), .int .i64 (f 7), va, vb]
theorem qt_cells {W : World} {Q : Nat} {z : Int} {ao : Option Addr} {n c : Nat} {f : Nat → Int} {va vb : Value} (h : W.heap[Q]? = some (.cells (qtArr z ao n c f va vb) 76 (0, 0))) :
    W.cell? ⟨Q, 0, none⟩ = some (.int .i64 z) ∧ W.cell? ⟨Q, 1, none⟩ = some (.slice ao n c) ∧ W.cell? ⟨Q, 10, none⟩ = some va ∧ W.cell? ⟨Q, 11, none⟩ = some vb ∧ (∀ j, W.frozen? ⟨Q, j, none⟩ = false) :=
  ⟨by rw [cell_of_row W Q 0 _ _ (0, 0) h]; rfl, by rw [cell_of_row W Q 1 _ _ (0, 0) h]; rfl, by rw [cell_of_row W Q 10 _ _ (0, 0) h]; rfl, by rw [cell_of_row W Q 11 _ _ (0, 0) h]; rfl, fun j => by simp [World.frozen?, h]⟩
theorem qt_set10 {W : World} {Q : Nat} {z : Int} {ao : Option Addr} {n c : Nat} {f : Nat → Int} {va vb : Value} (v : Value) (h : W.heap[Q]? = some (.cells (qtArr z ao n c f va vb) 76 (0, 0))) : (W.setCell ⟨Q, 10, none⟩ v).heap[Q]? = some (.cells (qtArr z ao n c f v vb) 76 (0, 0)) := by
  simp [World.setCell, Array.getElem?_modify, h, qtArr]
theorem qt_set11 {W : World} {Q : Nat} {z : Int} {ao : Option Addr} {n c : Nat} {f : Nat → Int} {va vb : Value} (v : Value) (h : W.heap[Q]? = some (.cells (qtArr z ao n c f va vb) 76 (0, 0))) : (W.setCell ⟨Q, 11, none⟩ v).heap[Q]? = some (.cells (qtArr z ao n c f va v) 76 (0, 0)) := by
  simp [World.setCell, Array.getElem?_modify, h, qtArr]

/-- A quotient under way: its box Q, the array A, the least elements up to k1 and the numbers up to k. -/
structure QtS (W : World) (A Q : Nat) (z : Int) (ao : Option Addr) (n c : Nat) (f : Nat → Int) (k1 k : Nat) (va vb : Value) : Prop where
  box : W.heap[Q]? = some (.cells (qtArr z ao n c f va vb) 76 (0, 0))
  arr : ArrAt W A f
  les : W.ownsRow (Q + 1) 3 1 va (leP f k1).length ((leP f k1).map (Value.int .i64))
  nat : W.ownsRow (Q + 1) 3 1 vb k ((lstP k (naI f)).map (Value.int .i64))
  ne : ∀ b, va.ownBlock = some b → vb.ownBlock ≠ some b
theorem QtS.lt {W : World} {A Q : Nat} {z : Int} {ao : Option Addr} {n c : Nat} {f : Nat → Int} {k1 k : Nat} {va vb : Value} (h : QtS W A Q z ao n c f k1 k va vb) : Q < W.heap.size := (Array.getElem?_eq_some_iff.1 h.box).1
theorem QtS.boxGrown {W w3 : World} {A Q : Nat} {z : Int} {ao : Option Addr} {n c : Nat} {f : Nat → Int} {k1 k : Nat} {va vb : Value} (h : QtS W A Q z ao n c f k1 k va vb) {ob : Obj} (hg : (W.drew.alloc ob).grownBy w3 vb.ownBlock) : w3.heap[Q]? = some (.cells (qtArr z ao n c f va vb) 76 (0, 0)) := by
  have hl := h.lt
  refine (hg.block Q (by simp; omega) (fun e => ?_)).trans ((Below.heap_alloc _ _ _ (show Q < W.drew.heap.size from hl)).trans h.box)
  have := (h.nat.lt Q e.symm).1
  omega
theorem QtS.natPut {W w3 : World} {A Q : Nat} {z : Int} {ao : Option Addr} {n c : Nat} {f : Nat → Int} {k1 k k' : Nat} {va vb v' : Value} (h : QtS W A Q z ao n c f k1 k va vb) (hA : A < Q) {ob : Obj}
    (hown : w3.ownsRow (Q + 1) 3 1 v' k' ((lstP k' (naI f)).map (Value.int .i64))) (hg : (W.drew.alloc ob).grownBy w3 vb.ownBlock) (hat : v'.ownBlock = vb.ownBlock ∨ v'.ownBlock = some (W.drew.alloc ob).heap.size) : QtS (w3.setCell ⟨Q, 11, none⟩ v') A Q z ao n c f k1 k' va v' := by
  have hl := h.lt
  have hs : (W.drew.alloc ob).heap.size = W.heap.size + 1 := by simp
  refine ⟨qt_set11 v' (h.boxGrown hg), ?_, ?_, ownsRow_setCell_below hown (show Q < Q + 1 by omega) _, ?_⟩
  · have h1 : ArrAt (W.drew.alloc ob) A f := ArrAt.alloc (show ArrAt W.drew A f from h.arr) ob
    have h2 := h1.block (hg.block A h1.lt (fun e => by have := (h.nat.lt A e.symm).1; omega))
    exact h2.setOther (by omega) 11 _
  · have h1 : (W.drew.alloc ob).ownsRow (Q + 1) 3 1 va (leP f k1).length ((leP f k1).map (Value.int .i64)) := World.ownsRow.alloc (show W.drew.ownsRow _ _ _ _ _ _ from h.les) ob
    refine ownsRow_setCell_below (h1.kept hg ?_) (show Q < Q + 1 by omega) _
    cases hb : va.ownBlock with
    | none => exact .inl rfl
    | some b => exact .inr (fun e => h.ne b hb e.symm)
  · intro b hb hb2
    rcases hat with e | e
    · exact h.ne b hb (e ▸ hb2)
    · rw [e] at hb2
      injection hb2 with hb2
      have := (h.les.lt b hb).2
      omega
theorem QtS.lesPut {W w3 : World} {A Q : Nat} {z : Int} {ao : Option Addr} {n c : Nat} {f : Nat → Int} {k1 k1' k : Nat} {va vb v' : Value} (h : QtS W A Q z ao n c f k1 k va vb) (hA : A < Q) {ob : Obj}
    (hown : w3.ownsRow (Q + 1) 3 1 v' (leP f k1').length ((leP f k1').map (Value.int .i64))) (hg : (W.alloc ob).grownBy w3 va.ownBlock) (hat : v'.ownBlock = va.ownBlock ∨ v'.ownBlock = some (W.alloc ob).heap.size) :
    QtS (w3.setCell ⟨Q, 10, none⟩ v') A Q z ao n c f k1' k v' vb ∧ w3.heap[Q]? = some (.cells (qtArr z ao n c f va vb) 76 (0, 0)) := by
  have hl := h.lt
  have hs : (W.alloc ob).heap.size = W.heap.size + 1 := by simp
  have hbx : w3.heap[Q]? = some (.cells (qtArr z ao n c f va vb) 76 (0, 0)) := by
    refine (hg.block Q (by omega) (fun e => ?_)).trans ((Below.heap_alloc _ _ _ hl).trans h.box)
    have := (h.les.lt Q e.symm).1
    omega
  refine ⟨⟨qt_set10 v' hbx, ?_, ownsRow_setCell_below hown (show Q < Q + 1 by omega) _, ?_, ?_⟩, hbx⟩
  · have h1 : ArrAt (W.alloc ob) A f := h.arr.alloc ob
    have h2 := h1.block (hg.block A h1.lt (fun e => by have := (h.les.lt A e.symm).1; omega))
    exact h2.setOther (by omega) 10 _
  · refine ownsRow_setCell_below ((h.nat.alloc ob).kept hg ?_) (show Q < Q + 1 by omega) _
    cases hb : va.ownBlock with
    | none =>
      cases hb2 : vb.ownBlock with
      | none => exact .inl rfl
      | some b => exact .inr (by simp)
    | some b => exact .inr (h.ne b hb)
  · intro b hb hb2
    rcases hat with e | e
    · exact h.ne b (e ▸ hb) hb2
    · rw [e] at hb
      injection hb with hb
      have := (h.nat.lt b hb2).2
      omega
theorem QtS.more {W : World} {A Q : Nat} {z : Int} {ao : Option Addr} {n c : Nat} {f : Nat → Int} {k1 k k1' : Nat} {va vb : Value} (h : QtS W A Q z ao n c f k1 k va vb) (he : leP f k1' = leP f k1) : QtS W A Q z ao n c f k1' k va vb :=
  ⟨h.box, h.arr, by rw [he]; exact h.les, h.nat, h.ne⟩

/-- A new quotient. -/
def NewQt (w w' : World) (z : Nat) (ao : Option Addr) (n c : Nat) (f : Nat → Int) (e : Ending) : Prop := ∃ va vb, e = .returned (.pointer (some ⟨w.heap.size + 1 + 1, 0, none⟩)) ∧ QtS w' (w.heap.size + 1) (w.heap.size + 1 + 1) (z : Int) ao n c f z z va vb ∧ Below w.heap.size w w'

set_option maxHeartbeats 8000000 in
set_option maxRecDepth 100000 in
theorem quotBy_any (z : Nat) (ao : Option Addr) (c n : Nat) (f : Nat → Int) (w : World) (hz1 : 1 ≤ z) (hz8 : z ≤ 8) (hf : okAll f z = true) :
    Calls Try.prog 118 #[.agg #[.int .i64 (z : Int), .slice ao n c], .agg (arrV f)] w fun e w' => NewQt w w' z ao n c f e := by
  have HP0 : Hid (ArrAt ((w.alloc (.cells #[.int .i64 (z : Int), .slice ao n c] 31)).alloc (.cells (arrV f) 70)) (w.heap.size + 1) f) := by
    unfold Hid
    have h := ArrAt.new (w.alloc (.cells #[.int .i64 (z : Int), .slice ao n c] 31)) f
    simp only [World.size_alloc] at h
    exact h
  obtain ⟨w2, hw2⟩ : ∃ w2, w2 = (w.alloc (.cells #[.int .i64 (z : Int), .slice ao n c] 31)).alloc (.cells (arrV f) 70) := ⟨_, rfl⟩
  obtain ⟨w3, hw3⟩ : ∃ w3, w3 = w2.alloc (.cells (qtArr (z : Int) ao n c f (.slice none 0 0) (.slice none 0 0)) 76) := ⟨_, rfl⟩
  have hs2 : w2.heap.size = w.heap.size + 1 + 1 := by rw [hw2]; simp
  have HQ0 : Hid (QtS w3 (w.heap.size + 1) (w.heap.size + 1 + 1) (z : Int) ao n c f 0 0 (.slice none 0 0) (.slice none 0 0)) := by
    unfold Hid
    refine ⟨?_, ?_, World.ownsRow_nil _ _ _ _, World.ownsRow_nil _ _ _ _, fun b hb => by simp [Value.ownBlock] at hb⟩
    · rw [hw3, ← hs2]; exact heap_alloc_new _ _
    · rw [hw3]; have h_ := HP0.out; rw [← hw2] at h_; exact h_.alloc _
  have HB0 : Hid (Below w.heap.size w w3) := by unfold Hid; rw [hw3, hw2]; exact below_then (below_then (below_alloc _ _) (below_alloc _ _)) (below_alloc _ _)
  rw [hw2] at hw3
  have HW3 := Lib.hid hw3
  have HFo := Lib.hid hf
  have hzn : (z : Int) ≤ 8 := by omega
  obtain ⟨j0, hj0, hy0, hy1, hy2⟩ := info_parts Try.infoInt
  clear hw2 hw3 hs2 hf
  go_enter Try.func118, Try.ntmps118
  go_wp2_with (refine ld8 HP0.out rfl _ rfl rfl ?_; simp only [arrV])
  have hW3 := HW3.out
  simp only [arrV, qtArr] at hW3
  rw [← hW3]
  clear hW3 HW3 HP0
  obtain ⟨A, hA⟩ : ∃ A, A = w.heap.size + 1 := ⟨_, rfl⟩
  obtain ⟨Q, hQ⟩ : ∃ Q, Q = w.heap.size + 1 + 1 := ⟨_, rfl⟩
  rw [← hQ, ← hA] at HQ0
  rw [← hQ, ← hA]
  have hAQ : A < Q := by omega
  have hwQ : w.heap.size < Q := by omega
  have HAe := Lib.hid hA
  have HQe := Lib.hid hQ
  clear hA hQ
  go_loopw [6, 7, 16] (fun _ _ i wr => ∃ (k : Nat) (va vb : Value), k ≤ z ∧ i = .int .i64 (k : Int) ∧ Hid (QtS wr A Q (z : Int) ao n c f k k va vb) ∧ Hid (Below w.heap.size w wr)) (fun _ _ i _ => z - (intOf i).toNat)
  case atStart => exact ⟨0, _, _, Nat.zero_le _, rfl, HQ0, HB0⟩
  case round =>
    obtain ⟨k, va, vb, hk, rfl, HQk, HBr⟩ := hrel
    clear HQ0 HB0
    by_cases hlt : k < z
    · have hkn : (k : Int) < (z : Int) := by omega
      obtain ⟨⟨h0, h1⟩, hff⟩ := okAll_get HFo.out hlt
      have ek := HQk.out.arr.cell (k := k) (by omega)
      by_cases hfk : f k = (k : Int)
      · obtain ⟨d0, d1, d10, d11_, df⟩ := qt_cells HQk.out.box
        have f10 := df 10
        rw [hfk] at ek
        have HFk := Lib.hid hfk
        have HFf := Lib.hid hff
        have HH := Lib.hid (And.intro h0 h1)
        have hl8 := leP_len f k
        clear d0 d1 d11_ df hfk hff h0 h1
        go_wp2_with (at_builtin; refine wpList_append_own_at _ rfl _ _ 25 rfl (Q + 1) 3 j0 (.int .i64 0) 1 8 Try.underlying25 hj0 hy0 hy1 hy2 rfl (by decide) va (leP f k).length ((leP f k).map (Value.int .i64)) rfl (HQk.out.les.alloc _) ⟨_, 0, none⟩ 1 1 [.int .i64 (k : Int)] rfl rfl (cell_one_new _ _ _) (fun x hx => by simp at hx; subst hx; rfl) (by unfold maxLen; omega) (by omega) (by have := HQk.out.lt; simp; omega) ?_; intro v' w3 hown' hgrow' hnil' hat'; obtain ⟨g', cap', rfl⟩ := ownsRow_succ hown'; have hown2 : w3.ownsRow (Q + 1) 3 1 (.slice (some ⟨g', 0, none⟩) ((leP f k).length + 1) cap') (leP f (k + 1)).length ((leP f (k + 1)).map (Value.int .i64)) := (by rw [leP_yes HFk.out, List.map_append, List.length_append]; exact hown'); have hlp := HQk.out.lesPut hAQ hown2 hgrow' hat'; have HB5_ : Hid (Below w.heap.size w w3) := (HBr.out.alloc HBr.out.size _).grown hgrow' (by have := HBr.out.size; simp; omega) (fun b hb => by have h_ := (HQk.out.les.lt b hb).1; omega); have HQs0 := Lib.hid hlp.1; have hqc := qt_cells hlp.2; have e10 := hqc.2.2.1; have ff10 := hqc.2.2.2.2 10; clear hown' hown2 hgrow' hnil' hat' hlp hqc ek d10 f10)
        clear hl8
        obtain ⟨va2, hva2⟩ : ∃ va2 : Value, va2 = .slice (some ⟨g', 0, none⟩) ((leP f k).length + 1) cap' := ⟨_, rfl⟩
        rw [← hva2] at HQs0 ⊢
        obtain ⟨wi, hwi⟩ : ∃ wi, wi = w3.setCell ⟨Q, 10, none⟩ va2 := ⟨_, rfl⟩
        have HBi : Hid (Below w.heap.size w wi) := by unfold Hid; rw [hwi]; exact HB5_.out.setCell (by show w.heap.size ≤ Q; omega) _
        have HQs := HQs0
        rw [← hwi] at HQs ⊢
        clear hwi hva2 e10 ff10 HQs0 HB5_ HQk HBr
        have hff := HFf.out
        obtain ⟨h0, h1⟩ := HH.out
        have hle := HQs.out.les
        have hmem : f k ∈ leP f (k + 1) := leP_mem.2 ⟨(f k).toNat, by omega, by rw [hff]; omega, by omega⟩
        obtain ⟨t0, ht0⟩ : ∃ t0, (leP f (k + 1)).length = t0 + 1 := ⟨(leP f (k + 1)).length - 1, by have := List.length_pos_of_mem hmem; omega⟩
        rw [ht0] at hle
        obtain ⟨g1, c1, rfl⟩ := ownsRow_succ hle
        obtain ⟨t1, ht1⟩ : ∃ t1, t0 + 1 = t1 := ⟨_, rfl⟩
        rw [ht1] at hle ht0
        have ht1p : 0 < t1 := by omega
        rw [ht1] at HQs
        have hl8 := leP_len f (k + 1)
        have hIx := fun (W : World) (hW : Below wi.heap.size wi W) => place_impl (Q + 1) wi.heap.size g1 0 t1 c1 (leP f (k + 1)) (f k) W ((IView.of_owns hle (Nat.le_refl _)).kept (Kept.of_below hW (Nat.le_refl _))) ht1p (by omega)
        obtain ⟨u, hu⟩ : ∃ u, plI (leP f (k + 1)) (f k) = u := ⟨_, rfl⟩
        have HU : Hid (naI f k = u) := hu
        rw [hu] at hIx
        simp only [HFk.out] at hIx
        have HIx := Lib.hid hIx
        have s10 : wi.cell? ⟨Q, 10, none⟩ = some (.slice (some ⟨g1, 0, none⟩) t1 c1) := (qt_cells HQs.out.box).2.2.1
        have s11 : wi.cell? ⟨Q, 11, none⟩ = some vb := (qt_cells HQs.out.box).2.2.2.1
        clear hle hmem ht1 hl8 hIx hu hff ht0
        go_wp2_with fail
        refine wp_region_noPanic ?_
        refine wp_region_held_drew (S := fun W_ => W_.cell? ⟨Q, 10, none⟩ = some (.slice (some ⟨g1, 0, none⟩) t1 c1)) (by kernel_rfl) ?_ (fun hHeld => ?_)
        · exact s10
        refine wpAnyH_take (i := 0) (oi := ⟨_, _, _, _, _, _⟩) (v := ?_) rfl (by kernel_rfl) (by kernel_rfl) (by kernel_rfl) (fun _ _ _ h => h) (Or.inl ⟨rfl, ?_⟩) (by assumption) ?_
        rotate_left 1
        · intro w_ hSw; (try dsimp only at hSw); go_simp; (try with_reducible rfl)
        (try simp only [Act.put, List.setIfInBounds_toArray, List.set_cons_zero, List.set_cons_succ])
        refine wpAnyH_take (i := 1) (oi := ⟨_, _, _, _, _, _⟩) (v := ?_) rfl (by kernel_rfl) (by kernel_rfl) (by kernel_rfl) (fun _ _ _ h => h) (Or.inl ⟨rfl, ?_⟩) (by assumption) ?_
        rotate_left 1
        · intro w_ hSw; (try dsimp only at hSw); go_simp; (try with_reducible rfl)
        (try simp only [Act.put, List.setIfInBounds_toArray, List.set_cons_zero, List.set_cons_succ])
        refine wpAnyH_take (i := 2) (oi := ⟨_, _, _, _, _, _⟩) (v := ?_) rfl (by kernel_rfl) (by kernel_rfl) (by kernel_rfl) (fun _ _ _ h => h) (Or.inl ⟨rfl, ?_⟩) (by assumption) ?_
        rotate_left 1
        · intro w_ hSw; (try dsimp only at hSw); go_simp; (try with_reducible rfl)
        (try simp only [Act.put, List.setIfInBounds_toArray, List.set_cons_zero, List.set_cons_succ])
        refine wpAnyH_take (i := 3) (oi := ⟨_, _, _, _, _, _⟩) (v := ?_) rfl (by kernel_rfl) (by kernel_rfl) (by kernel_rfl) (fun _ _ _ h => h) (Or.inl ⟨rfl, ?_⟩) (by assumption) ?_
        rotate_left 1
        · intro w_ hSw; (try dsimp only at hSw); go_simp; (try with_reducible rfl)
        (try simp only [Act.put, List.setIfInBounds_toArray, List.set_cons_zero, List.set_cons_succ])
        refine wpAnyH_take (i := 5) (oi := ⟨_, _, _, _, _, _⟩) (v := ?_) rfl (by kernel_rfl) (by kernel_rfl) (by kernel_rfl) (fun _ _ _ h => h) (Or.inl ⟨rfl, ?_⟩) (by assumption) ?_
        rotate_left 1
        · intro w_ hSw; (try dsimp only at hSw); go_simp; (try with_reducible rfl)
        (try simp only [Act.put, List.setIfInBounds_toArray, List.set_cons_zero, List.set_cons_succ])
        refine wpAnyH_take (i := 6) (oi := ⟨_, _, _, _, _, _⟩) (v := ?_) rfl (by kernel_rfl) (by kernel_rfl) (by kernel_rfl) (fun _ _ _ h => h) (Or.inl ⟨rfl, ?_⟩) (by assumption) ?_
        rotate_left 1
        · intro w_ hSw; (try dsimp only at hSw); go_simp; (try with_reducible rfl)
        (try simp only [Act.put, List.setIfInBounds_toArray, List.set_cons_zero, List.set_cons_succ])
        refine wpAnyH_take (i := 7) (oi := ⟨_, _, _, _, _, _⟩) (v := ?_) rfl (by kernel_rfl) (by kernel_rfl) (by kernel_rfl) (fun _ _ _ h => h) (Or.inl ⟨rfl, ?_⟩) (by assumption) ?_
        rotate_left 1
        · intro w_ hSw; (try dsimp only at hSw); go_simp; (try with_reducible rfl)
        (try simp only [Act.put, List.setIfInBounds_toArray, List.set_cons_zero, List.set_cons_succ])
        refine wpAnyH_take (i := 8) (oi := ⟨_, _, _, _, _, _⟩) (v := ?_) rfl (by kernel_rfl) (by kernel_rfl) (by kernel_rfl) (fun _ _ _ h => h) (Or.inl ⟨rfl, ?_⟩) (by assumption) ?_
        rotate_left 1
        · intro w_ hSw; (try dsimp only at hSw); go_simp; (try with_reducible rfl)
        (try simp only [Act.put, List.setIfInBounds_toArray, List.set_cons_zero, List.set_cons_succ])
        refine wpAnyH_take (i := 9) (oi := ⟨_, _, _, _, _, _⟩) (v := ?_) rfl (by kernel_rfl) (by kernel_rfl) (by kernel_rfl) (fun _ _ _ h => h) (Or.inl ⟨rfl, ?_⟩) (by assumption) ?_
        rotate_left 1
        · intro w_ hSw; (try dsimp only at hSw); go_simp; (try with_reducible rfl)
        (try simp only [Act.put, List.setIfInBounds_toArray, List.set_cons_zero, List.set_cons_succ])
        refine wpAnyH_ready (rs := [4, 10]) (by kernel_rfl) (by simp) ?_
        refine (AllReadyH.cons (o := ⟨_, _, _, _, _, _⟩) rfl (fun K hK => ?_) (AllReadyH.cons (o := ⟨_, _, _, _, _, _⟩) rfl (fun K hK => ?_) AllReadyH.nil))
        · go_simp
          refine hK.out _ _ ?_ (fun hHeld => ?_)
          · exact s10
          clear hK K
          (try simp only [Act.put, List.setIfInBounds_toArray, List.set_cons_zero, List.set_cons_succ])
          refine wpAnyH_ready (rs := [10]) (by kernel_rfl) (by simp) ?_
          refine (AllReadyH.cons (o := ⟨_, _, _, _, _, _⟩) rfl (fun K hK => ?_) AllReadyH.nil)
          go_simp
          go_at_call 63
          refine (HIx.out _ (below_drew _)).mono ?_
          rintro e_ w_ ⟨rfl, rfl⟩
          refine hK.out _ _ ?_ (fun hHeld => ?_)
          · exact s10
          clear hK K
          (try simp only [Act.put, List.setIfInBounds_toArray, List.set_cons_zero, List.set_cons_succ])
          refine wpAnyH_ready (rs := [11]) (by kernel_rfl) (by simp) ?_
          refine (AllReadyH.cons (o := ⟨_, _, _, _, _, _⟩) rfl (fun K hK => ?_) AllReadyH.nil)
          go_simp
          refine hK.out _ _ ?_ (fun hHeld => ?_)
          · exact cell_b ((below_alloc _ _).drew) s10
          clear hK K
          (try simp only [Act.put, List.setIfInBounds_toArray, List.set_cons_zero, List.set_cons_succ])
          refine wpAnyH_ready (rs := [12]) (by kernel_rfl) (by simp) ?_
          refine (AllReadyH.cons (o := ⟨_, _, _, _, _, _⟩) rfl (fun K hK => ?_) AllReadyH.nil)
          refine step_append_lies _ rfl _ _ _ rfl (Q + 1) 3 j0 _ 1 8 Try.underlying25 hj0 hy0 hy1 hy2 rfl (by decide) vb k ((lstP k (naI f)).map (Value.int .i64)) rfl (World.ownsRow.alloc (show wi.drew.ownsRow _ _ _ _ _ _ from HQs.out.nat) _) ⟨wi.drew.heap.size, 0, none⟩ 1 1 [.int .i64 u] rfl rfl (cell_one_new _ _ _) (by simp [Value.oneCell']) (by decide) (by unfold maxLen; omega) (by omega) (by have h_ := HQs.out.lt; show Q + 1 ≤ (wi.drew.alloc _).heap.size; simp; omega) _ rfl ?_
          intro g4 cap4 w4 hown4 hgrow4 hat4 hlt4
          have HQ4 := Lib.hid (HQs.out.natPut (k' := k + 1) (v' := .slice (some ⟨g4, 0, none⟩) (k + 1) cap4) hAQ (by rw [lstP_succ, List.map_append, HU.out]; exact hown4) hgrow4 (by rcases hat4 with h | h; exact .inl h.symm; exact .inr (by rw [h]; rfl)))
          have HB4 : Hid (Below w.heap.size w w4) := ((HBi.out.drew).alloc HBi.out.size _).grown hgrow4 (by have := HBi.out.size; show w.heap.size ≤ (wi.drew.alloc _).heap.size; simp; omega) (fun b hb => by have h_ := (HQs.out.nat.lt b hb).1; omega)
          have HBx4 : Hid (w4.heap[Q]? = some (.cells (qtArr (z : Int) ao n c f (.slice (some ⟨g1, 0, none⟩) t1 c1) vb) 76 (0, 0))) := HQs.out.boxGrown hgrow4
          have d11 := (qt_cells HBx4.out).2.2.2.1
          have f11 := (qt_cells HBx4.out).2.2.2.2 11
          clear hown4 hgrow4 hat4
          refine hK.out _ _ ?_ (fun hHeld => ?_)
          · exact (qt_cells HBx4.out).2.2.1
          clear hK K
          (try simp only [Act.put, List.setIfInBounds_toArray, List.set_cons_zero, List.set_cons_succ])
          refine wpAnyH_take (i := 13) (oi := ⟨_, _, _, _, _, _⟩) (v := ?_) rfl (by kernel_rfl) (by kernel_rfl) (by kernel_rfl) (fun _ _ _ h => h) (Or.inl ⟨rfl, ?_⟩) (by assumption) ?_
          rotate_left 1
          · intro w_ hSw; (try dsimp only at hSw); go_simp; (try with_reducible rfl)
          (try simp only [Act.put, List.setIfInBounds_toArray, List.set_cons_zero, List.set_cons_succ])
          refine wpAnyH_take (i := 14) (oi := ⟨_, _, _, _, _, _⟩) (v := ?_) rfl (by kernel_rfl) (by kernel_rfl) (by kernel_rfl) (fun _ _ _ h => h) (Or.inl ⟨rfl, ?_⟩) (by assumption) ?_
          rotate_left 1
          · intro w_ hSw; (try dsimp only at hSw); go_simp; (try with_reducible rfl)
          (try simp only [Act.put, List.setIfInBounds_toArray, List.set_cons_zero, List.set_cons_succ])
          refine wpAnyH_ready (rs := [15]) (by kernel_rfl) (by simp) ?_
          refine (AllReadyH.cons (o := ⟨_, _, _, _, _, _⟩) rfl (fun K hK => ?_) AllReadyH.nil)
          go_simp
          refine hK.out _ _ ?_ (fun hHeld => ?_)
          · exact (qt_cells HQ4.out.box).2.2.1
          clear hK K
          (try simp only [Act.put, List.setIfInBounds_toArray, List.set_cons_zero, List.set_cons_succ])
          refine wpAnyH_done (by kernel_rfl) ?_ _
          refine NoPanic.normal ?_
          have HQ5 : Hid (QtS (w4.setCell ⟨Q, 11, none⟩ (.slice (some ⟨g4, 0, none⟩) (k + 1) cap4)) A Q (z : Int) ao n c f (k + 1) (k + 1) (.slice (some ⟨g1, 0, none⟩) t1 c1) (.slice (some ⟨g4, 0, none⟩) (k + 1) cap4)) := HQ4.out
          have HB5 : Hid (Below w.heap.size w (w4.setCell ⟨Q, 11, none⟩ (.slice (some ⟨g4, 0, none⟩) (k + 1) cap4))) := HB4.out.setCell (by show w.heap.size ≤ Q; omega) _
          clear HQ4 HB4 HBx4 hHeld
          go_wp2_with fail
          go_roundw
          case rel => exact ⟨k + 1, _, _, by omega, by go_num, HQ5, HB5⟩
          case measure => simp [intOf]; omega
        · go_simp
          go_at_call 63
          refine (HIx.out _ (below_drew _)).mono ?_
          rintro e_ w_ ⟨rfl, rfl⟩
          refine hK.out _ _ ?_ (fun hHeld => ?_)
          · exact s10
          clear hK K
          (try simp only [Act.put, List.setIfInBounds_toArray, List.set_cons_zero, List.set_cons_succ])
          refine wpAnyH_ready (rs := [4, 11]) (by kernel_rfl) (by simp) ?_
          refine (AllReadyH.cons (o := ⟨_, _, _, _, _, _⟩) rfl (fun K hK => ?_) (AllReadyH.cons (o := ⟨_, _, _, _, _, _⟩) rfl (fun K hK => ?_) AllReadyH.nil))
          · go_simp
            refine hK.out _ _ ?_ (fun hHeld => ?_)
            · exact s10
            clear hK K
            (try simp only [Act.put, List.setIfInBounds_toArray, List.set_cons_zero, List.set_cons_succ])
            refine wpAnyH_ready (rs := [11]) (by kernel_rfl) (by simp) ?_
            refine (AllReadyH.cons (o := ⟨_, _, _, _, _, _⟩) rfl (fun K hK => ?_) AllReadyH.nil)
            go_simp
            refine hK.out _ _ ?_ (fun hHeld => ?_)
            · exact cell_b ((below_alloc _ _).drew) s10
            clear hK K
            (try simp only [Act.put, List.setIfInBounds_toArray, List.set_cons_zero, List.set_cons_succ])
            refine wpAnyH_ready (rs := [12]) (by kernel_rfl) (by simp) ?_
            refine (AllReadyH.cons (o := ⟨_, _, _, _, _, _⟩) rfl (fun K hK => ?_) AllReadyH.nil)
            refine step_append_lies _ rfl _ _ _ rfl (Q + 1) 3 j0 _ 1 8 Try.underlying25 hj0 hy0 hy1 hy2 rfl (by decide) vb k ((lstP k (naI f)).map (Value.int .i64)) rfl (World.ownsRow.alloc (show wi.drew.ownsRow _ _ _ _ _ _ from HQs.out.nat) _) ⟨wi.drew.heap.size, 0, none⟩ 1 1 [.int .i64 u] rfl rfl (cell_one_new _ _ _) (by simp [Value.oneCell']) (by decide) (by unfold maxLen; omega) (by omega) (by have h_ := HQs.out.lt; show Q + 1 ≤ (wi.drew.alloc _).heap.size; simp; omega) _ rfl ?_
            intro g4 cap4 w4 hown4 hgrow4 hat4 hlt4
            have HQ4 := Lib.hid (HQs.out.natPut (k' := k + 1) (v' := .slice (some ⟨g4, 0, none⟩) (k + 1) cap4) hAQ (by rw [lstP_succ, List.map_append, HU.out]; exact hown4) hgrow4 (by rcases hat4 with h | h; exact .inl h.symm; exact .inr (by rw [h]; rfl)))
            have HB4 : Hid (Below w.heap.size w w4) := ((HBi.out.drew).alloc HBi.out.size _).grown hgrow4 (by have := HBi.out.size; show w.heap.size ≤ (wi.drew.alloc _).heap.size; simp; omega) (fun b hb => by have h_ := (HQs.out.nat.lt b hb).1; omega)
            have HBx4 : Hid (w4.heap[Q]? = some (.cells (qtArr (z : Int) ao n c f (.slice (some ⟨g1, 0, none⟩) t1 c1) vb) 76 (0, 0))) := HQs.out.boxGrown hgrow4
            have d11 := (qt_cells HBx4.out).2.2.2.1
            have f11 := (qt_cells HBx4.out).2.2.2.2 11
            clear hown4 hgrow4 hat4
            refine hK.out _ _ ?_ (fun hHeld => ?_)
            · exact (qt_cells HBx4.out).2.2.1
            clear hK K
            (try simp only [Act.put, List.setIfInBounds_toArray, List.set_cons_zero, List.set_cons_succ])
            refine wpAnyH_take (i := 13) (oi := ⟨_, _, _, _, _, _⟩) (v := ?_) rfl (by kernel_rfl) (by kernel_rfl) (by kernel_rfl) (fun _ _ _ h => h) (Or.inl ⟨rfl, ?_⟩) (by assumption) ?_
            rotate_left 1
            · intro w_ hSw; (try dsimp only at hSw); go_simp; (try with_reducible rfl)
            (try simp only [Act.put, List.setIfInBounds_toArray, List.set_cons_zero, List.set_cons_succ])
            refine wpAnyH_take (i := 14) (oi := ⟨_, _, _, _, _, _⟩) (v := ?_) rfl (by kernel_rfl) (by kernel_rfl) (by kernel_rfl) (fun _ _ _ h => h) (Or.inl ⟨rfl, ?_⟩) (by assumption) ?_
            rotate_left 1
            · intro w_ hSw; (try dsimp only at hSw); go_simp; (try with_reducible rfl)
            (try simp only [Act.put, List.setIfInBounds_toArray, List.set_cons_zero, List.set_cons_succ])
            refine wpAnyH_ready (rs := [15]) (by kernel_rfl) (by simp) ?_
            refine (AllReadyH.cons (o := ⟨_, _, _, _, _, _⟩) rfl (fun K hK => ?_) AllReadyH.nil)
            go_simp
            refine hK.out _ _ ?_ (fun hHeld => ?_)
            · exact (qt_cells HQ4.out.box).2.2.1
            clear hK K
            (try simp only [Act.put, List.setIfInBounds_toArray, List.set_cons_zero, List.set_cons_succ])
            refine wpAnyH_done (by kernel_rfl) ?_ _
            refine NoPanic.normal ?_
            have HQ5 : Hid (QtS (w4.setCell ⟨Q, 11, none⟩ (.slice (some ⟨g4, 0, none⟩) (k + 1) cap4)) A Q (z : Int) ao n c f (k + 1) (k + 1) (.slice (some ⟨g1, 0, none⟩) t1 c1) (.slice (some ⟨g4, 0, none⟩) (k + 1) cap4)) := HQ4.out
            have HB5 : Hid (Below w.heap.size w (w4.setCell ⟨Q, 11, none⟩ (.slice (some ⟨g4, 0, none⟩) (k + 1) cap4))) := HB4.out.setCell (by show w.heap.size ≤ Q; omega) _
            clear HQ4 HB4 HBx4 hHeld
            go_wp2_with fail
            go_roundw
            case rel => exact ⟨k + 1, _, _, by omega, by go_num, HQ5, HB5⟩
            case measure => simp [intOf]; omega
          · go_simp
            refine hK.out _ _ ?_ (fun hHeld => ?_)
            · exact cell_b ((below_alloc _ _).drew) s10
            clear hK K
            (try simp only [Act.put, List.setIfInBounds_toArray, List.set_cons_zero, List.set_cons_succ])
            refine wpAnyH_ready (rs := [4]) (by kernel_rfl) (by simp) ?_
            refine (AllReadyH.cons (o := ⟨_, _, _, _, _, _⟩) rfl (fun K hK => ?_) AllReadyH.nil)
            have s11b : ((wi.alloc (.cells #[.int .i64 u] 3)).drew).cell? ⟨Q, 11, none⟩ = some vb := cell_b ((below_alloc _ _).drew) s11
            go_simp
            refine hK.out _ _ ?_ (fun hHeld => ?_)
            · exact cell_b ((below_alloc _ _).drew) s10
            clear hK K
            (try simp only [Act.put, List.setIfInBounds_toArray, List.set_cons_zero, List.set_cons_succ])
            refine wpAnyH_ready (rs := [12]) (by kernel_rfl) (by simp) ?_
            refine (AllReadyH.cons (o := ⟨_, _, _, _, _, _⟩) rfl (fun K hK => ?_) AllReadyH.nil)
            refine step_append_lies _ rfl _ _ _ rfl (Q + 1) 3 j0 _ 1 8 Try.underlying25 hj0 hy0 hy1 hy2 rfl (by decide) vb k ((lstP k (naI f)).map (Value.int .i64)) rfl (World.ownsRow.alloc (show wi.drew.ownsRow _ _ _ _ _ _ from HQs.out.nat) _) ⟨wi.drew.heap.size, 0, none⟩ 1 1 [.int .i64 u] rfl rfl (cell_one_new _ _ _) (by simp [Value.oneCell']) (by decide) (by unfold maxLen; omega) (by omega) (by have h_ := HQs.out.lt; show Q + 1 ≤ (wi.drew.alloc _).heap.size; simp; omega) _ rfl ?_
            intro g4 cap4 w4 hown4 hgrow4 hat4 hlt4
            have HQ4 := Lib.hid (HQs.out.natPut (k' := k + 1) (v' := .slice (some ⟨g4, 0, none⟩) (k + 1) cap4) hAQ (by rw [lstP_succ, List.map_append, HU.out]; exact hown4) hgrow4 (by rcases hat4 with h | h; exact .inl h.symm; exact .inr (by rw [h]; rfl)))
            have HB4 : Hid (Below w.heap.size w w4) := ((HBi.out.drew).alloc HBi.out.size _).grown hgrow4 (by have := HBi.out.size; show w.heap.size ≤ (wi.drew.alloc _).heap.size; simp; omega) (fun b hb => by have h_ := (HQs.out.nat.lt b hb).1; omega)
            have HBx4 : Hid (w4.heap[Q]? = some (.cells (qtArr (z : Int) ao n c f (.slice (some ⟨g1, 0, none⟩) t1 c1) vb) 76 (0, 0))) := HQs.out.boxGrown hgrow4
            have d11 := (qt_cells HBx4.out).2.2.2.1
            have f11 := (qt_cells HBx4.out).2.2.2.2 11
            clear hown4 hgrow4 hat4
            refine hK.out _ _ ?_ (fun hHeld => ?_)
            · exact (qt_cells HBx4.out).2.2.1
            clear hK K
            (try simp only [Act.put, List.setIfInBounds_toArray, List.set_cons_zero, List.set_cons_succ])
            refine wpAnyH_take (i := 13) (oi := ⟨_, _, _, _, _, _⟩) (v := ?_) rfl (by kernel_rfl) (by kernel_rfl) (by kernel_rfl) (fun _ _ _ h => h) (Or.inl ⟨rfl, ?_⟩) (by assumption) ?_
            rotate_left 1
            · intro w_ hSw; (try dsimp only at hSw); go_simp; (try with_reducible rfl)
            (try simp only [Act.put, List.setIfInBounds_toArray, List.set_cons_zero, List.set_cons_succ])
            refine wpAnyH_take (i := 14) (oi := ⟨_, _, _, _, _, _⟩) (v := ?_) rfl (by kernel_rfl) (by kernel_rfl) (by kernel_rfl) (fun _ _ _ h => h) (Or.inl ⟨rfl, ?_⟩) (by assumption) ?_
            rotate_left 1
            · intro w_ hSw; (try dsimp only at hSw); go_simp; (try with_reducible rfl)
            (try simp only [Act.put, List.setIfInBounds_toArray, List.set_cons_zero, List.set_cons_succ])
            refine wpAnyH_ready (rs := [15]) (by kernel_rfl) (by simp) ?_
            refine (AllReadyH.cons (o := ⟨_, _, _, _, _, _⟩) rfl (fun K hK => ?_) AllReadyH.nil)
            go_simp
            refine hK.out _ _ ?_ (fun hHeld => ?_)
            · exact (qt_cells HQ4.out.box).2.2.1
            clear hK K
            (try simp only [Act.put, List.setIfInBounds_toArray, List.set_cons_zero, List.set_cons_succ])
            refine wpAnyH_done (by kernel_rfl) ?_ _
            refine NoPanic.normal ?_
            have HQ5 : Hid (QtS (w4.setCell ⟨Q, 11, none⟩ (.slice (some ⟨g4, 0, none⟩) (k + 1) cap4)) A Q (z : Int) ao n c f (k + 1) (k + 1) (.slice (some ⟨g1, 0, none⟩) t1 c1) (.slice (some ⟨g4, 0, none⟩) (k + 1) cap4)) := HQ4.out
            have HB5 : Hid (Below w.heap.size w (w4.setCell ⟨Q, 11, none⟩ (.slice (some ⟨g4, 0, none⟩) (k + 1) cap4))) := HB4.out.setCell (by show w.heap.size ≤ Q; omega) _
            clear HQ4 HB4 HBx4 hHeld
            go_wp2_with fail
            go_roundw
            case rel => exact ⟨k + 1, _, _, by omega, by go_num, HQ5, HB5⟩
            case measure => simp [intOf]; omega
      · have HQs : Hid (QtS wr A Q (z : Int) ao n c f (k + 1) k va vb) := HQk.out.more (leP_no hfk)
        have hne : (((k : Int)) == f k) = false := by
          rw [beq_eq_false_iff_ne]; exact fun e => hfk e.symm
        obtain ⟨wi, hwi⟩ : ∃ wi, wi = wr := ⟨_, rfl⟩
        rw [← hwi] at HQs HBr ek ⊢
        have HBi := HBr
        clear hwi HBr HQk
        have hle := HQs.out.les
        have hmem : f k ∈ leP f (k + 1) := leP_mem.2 ⟨(f k).toNat, by omega, by rw [hff]; omega, by omega⟩
        obtain ⟨t0, ht0⟩ : ∃ t0, (leP f (k + 1)).length = t0 + 1 := ⟨(leP f (k + 1)).length - 1, by have := List.length_pos_of_mem hmem; omega⟩
        rw [ht0] at hle
        obtain ⟨g1, c1, rfl⟩ := ownsRow_succ hle
        obtain ⟨t1, ht1⟩ : ∃ t1, t0 + 1 = t1 := ⟨_, rfl⟩
        rw [ht1] at hle ht0
        have ht1p : 0 < t1 := by omega
        rw [ht1] at HQs
        have hl8 := leP_len f (k + 1)
        have hIx := fun (W : World) (hW : Below wi.heap.size wi W) => place_impl (Q + 1) wi.heap.size g1 0 t1 c1 (leP f (k + 1)) (f k) W ((IView.of_owns hle (Nat.le_refl _)).kept (Kept.of_below hW (Nat.le_refl _))) ht1p (by omega)
        obtain ⟨u, hu⟩ : ∃ u, plI (leP f (k + 1)) (f k) = u := ⟨_, rfl⟩
        have HU : Hid (naI f k = u) := hu
        rw [hu] at hIx
        have HIx := Lib.hid hIx
        have s10 : wi.cell? ⟨Q, 10, none⟩ = some (.slice (some ⟨g1, 0, none⟩) t1 c1) := (qt_cells HQs.out.box).2.2.1
        have s11 : wi.cell? ⟨Q, 11, none⟩ = some vb := (qt_cells HQs.out.box).2.2.2.1
        clear hle hmem ht1 hl8 hIx hu hff ht0
        go_wp2_with fail
        refine wp_region_noPanic ?_
        refine wp_region_held_drew (S := fun W_ => W_.cell? ⟨Q, 10, none⟩ = some (.slice (some ⟨g1, 0, none⟩) t1 c1)) (by kernel_rfl) ?_ (fun hHeld => ?_)
        · exact s10
        refine wpAnyH_take (i := 0) (oi := ⟨_, _, _, _, _, _⟩) (v := ?_) rfl (by kernel_rfl) (by kernel_rfl) (by kernel_rfl) (fun _ _ _ h => h) (Or.inl ⟨rfl, ?_⟩) (by assumption) ?_
        rotate_left 1
        · intro w_ hSw; (try dsimp only at hSw); go_simp; (try with_reducible rfl)
        (try simp only [Act.put, List.setIfInBounds_toArray, List.set_cons_zero, List.set_cons_succ])
        refine wpAnyH_take (i := 1) (oi := ⟨_, _, _, _, _, _⟩) (v := ?_) rfl (by kernel_rfl) (by kernel_rfl) (by kernel_rfl) (fun _ _ _ h => h) (Or.inl ⟨rfl, ?_⟩) (by assumption) ?_
        rotate_left 1
        · intro w_ hSw; (try dsimp only at hSw); go_simp; (try with_reducible rfl)
        (try simp only [Act.put, List.setIfInBounds_toArray, List.set_cons_zero, List.set_cons_succ])
        refine wpAnyH_take (i := 2) (oi := ⟨_, _, _, _, _, _⟩) (v := ?_) rfl (by kernel_rfl) (by kernel_rfl) (by kernel_rfl) (fun _ _ _ h => h) (Or.inl ⟨rfl, ?_⟩) (by assumption) ?_
        rotate_left 1
        · intro w_ hSw; (try dsimp only at hSw); go_simp; (try with_reducible rfl)
        (try simp only [Act.put, List.setIfInBounds_toArray, List.set_cons_zero, List.set_cons_succ])
        refine wpAnyH_take (i := 3) (oi := ⟨_, _, _, _, _, _⟩) (v := ?_) rfl (by kernel_rfl) (by kernel_rfl) (by kernel_rfl) (fun _ _ _ h => h) (Or.inl ⟨rfl, ?_⟩) (by assumption) ?_
        rotate_left 1
        · intro w_ hSw; (try dsimp only at hSw); go_simp; (try with_reducible rfl)
        (try simp only [Act.put, List.setIfInBounds_toArray, List.set_cons_zero, List.set_cons_succ])
        refine wpAnyH_take (i := 5) (oi := ⟨_, _, _, _, _, _⟩) (v := ?_) rfl (by kernel_rfl) (by kernel_rfl) (by kernel_rfl) (fun _ _ _ h => h) (Or.inl ⟨rfl, ?_⟩) (by assumption) ?_
        rotate_left 1
        · intro w_ hSw; (try dsimp only at hSw); go_simp; (try with_reducible rfl)
        (try simp only [Act.put, List.setIfInBounds_toArray, List.set_cons_zero, List.set_cons_succ])
        refine wpAnyH_take (i := 6) (oi := ⟨_, _, _, _, _, _⟩) (v := ?_) rfl (by kernel_rfl) (by kernel_rfl) (by kernel_rfl) (fun _ _ _ h => h) (Or.inl ⟨rfl, ?_⟩) (by assumption) ?_
        rotate_left 1
        · intro w_ hSw; (try dsimp only at hSw); go_simp; (try with_reducible rfl)
        (try simp only [Act.put, List.setIfInBounds_toArray, List.set_cons_zero, List.set_cons_succ])
        refine wpAnyH_take (i := 7) (oi := ⟨_, _, _, _, _, _⟩) (v := ?_) rfl (by kernel_rfl) (by kernel_rfl) (by kernel_rfl) (fun _ _ _ h => h) (Or.inl ⟨rfl, ?_⟩) (by assumption) ?_
        rotate_left 1
        · intro w_ hSw; (try dsimp only at hSw); go_simp; (try with_reducible rfl)
        (try simp only [Act.put, List.setIfInBounds_toArray, List.set_cons_zero, List.set_cons_succ])
        refine wpAnyH_take (i := 8) (oi := ⟨_, _, _, _, _, _⟩) (v := ?_) rfl (by kernel_rfl) (by kernel_rfl) (by kernel_rfl) (fun _ _ _ h => h) (Or.inl ⟨rfl, ?_⟩) (by assumption) ?_
        rotate_left 1
        · intro w_ hSw; (try dsimp only at hSw); go_simp; (try with_reducible rfl)
        (try simp only [Act.put, List.setIfInBounds_toArray, List.set_cons_zero, List.set_cons_succ])
        refine wpAnyH_take (i := 9) (oi := ⟨_, _, _, _, _, _⟩) (v := ?_) rfl (by kernel_rfl) (by kernel_rfl) (by kernel_rfl) (fun _ _ _ h => h) (Or.inl ⟨rfl, ?_⟩) (by assumption) ?_
        rotate_left 1
        · intro w_ hSw; (try dsimp only at hSw); go_simp; (try with_reducible rfl)
        (try simp only [Act.put, List.setIfInBounds_toArray, List.set_cons_zero, List.set_cons_succ])
        refine wpAnyH_ready (rs := [4, 10]) (by kernel_rfl) (by simp) ?_
        refine (AllReadyH.cons (o := ⟨_, _, _, _, _, _⟩) rfl (fun K hK => ?_) (AllReadyH.cons (o := ⟨_, _, _, _, _, _⟩) rfl (fun K hK => ?_) AllReadyH.nil))
        · go_simp
          refine hK.out _ _ ?_ (fun hHeld => ?_)
          · exact s10
          clear hK K
          (try simp only [Act.put, List.setIfInBounds_toArray, List.set_cons_zero, List.set_cons_succ])
          refine wpAnyH_ready (rs := [10]) (by kernel_rfl) (by simp) ?_
          refine (AllReadyH.cons (o := ⟨_, _, _, _, _, _⟩) rfl (fun K hK => ?_) AllReadyH.nil)
          go_simp
          go_at_call 63
          refine (HIx.out _ (below_drew _)).mono ?_
          rintro e_ w_ ⟨rfl, rfl⟩
          refine hK.out _ _ ?_ (fun hHeld => ?_)
          · exact s10
          clear hK K
          (try simp only [Act.put, List.setIfInBounds_toArray, List.set_cons_zero, List.set_cons_succ])
          refine wpAnyH_ready (rs := [11]) (by kernel_rfl) (by simp) ?_
          refine (AllReadyH.cons (o := ⟨_, _, _, _, _, _⟩) rfl (fun K hK => ?_) AllReadyH.nil)
          go_simp
          refine hK.out _ _ ?_ (fun hHeld => ?_)
          · exact cell_b ((below_alloc _ _).drew) s10
          clear hK K
          (try simp only [Act.put, List.setIfInBounds_toArray, List.set_cons_zero, List.set_cons_succ])
          refine wpAnyH_ready (rs := [12]) (by kernel_rfl) (by simp) ?_
          refine (AllReadyH.cons (o := ⟨_, _, _, _, _, _⟩) rfl (fun K hK => ?_) AllReadyH.nil)
          refine step_append_lies _ rfl _ _ _ rfl (Q + 1) 3 j0 _ 1 8 Try.underlying25 hj0 hy0 hy1 hy2 rfl (by decide) vb k ((lstP k (naI f)).map (Value.int .i64)) rfl (World.ownsRow.alloc (show wi.drew.ownsRow _ _ _ _ _ _ from HQs.out.nat) _) ⟨wi.drew.heap.size, 0, none⟩ 1 1 [.int .i64 u] rfl rfl (cell_one_new _ _ _) (by simp [Value.oneCell']) (by decide) (by unfold maxLen; omega) (by omega) (by have h_ := HQs.out.lt; show Q + 1 ≤ (wi.drew.alloc _).heap.size; simp; omega) _ rfl ?_
          intro g4 cap4 w4 hown4 hgrow4 hat4 hlt4
          have HQ4 := Lib.hid (HQs.out.natPut (k' := k + 1) (v' := .slice (some ⟨g4, 0, none⟩) (k + 1) cap4) hAQ (by rw [lstP_succ, List.map_append, HU.out]; exact hown4) hgrow4 (by rcases hat4 with h | h; exact .inl h.symm; exact .inr (by rw [h]; rfl)))
          have HB4 : Hid (Below w.heap.size w w4) := ((HBi.out.drew).alloc HBi.out.size _).grown hgrow4 (by have := HBi.out.size; show w.heap.size ≤ (wi.drew.alloc _).heap.size; simp; omega) (fun b hb => by have h_ := (HQs.out.nat.lt b hb).1; omega)
          have HBx4 : Hid (w4.heap[Q]? = some (.cells (qtArr (z : Int) ao n c f (.slice (some ⟨g1, 0, none⟩) t1 c1) vb) 76 (0, 0))) := HQs.out.boxGrown hgrow4
          have d11 := (qt_cells HBx4.out).2.2.2.1
          have f11 := (qt_cells HBx4.out).2.2.2.2 11
          clear hown4 hgrow4 hat4
          refine hK.out _ _ ?_ (fun hHeld => ?_)
          · exact (qt_cells HBx4.out).2.2.1
          clear hK K
          (try simp only [Act.put, List.setIfInBounds_toArray, List.set_cons_zero, List.set_cons_succ])
          refine wpAnyH_take (i := 13) (oi := ⟨_, _, _, _, _, _⟩) (v := ?_) rfl (by kernel_rfl) (by kernel_rfl) (by kernel_rfl) (fun _ _ _ h => h) (Or.inl ⟨rfl, ?_⟩) (by assumption) ?_
          rotate_left 1
          · intro w_ hSw; (try dsimp only at hSw); go_simp; (try with_reducible rfl)
          (try simp only [Act.put, List.setIfInBounds_toArray, List.set_cons_zero, List.set_cons_succ])
          refine wpAnyH_take (i := 14) (oi := ⟨_, _, _, _, _, _⟩) (v := ?_) rfl (by kernel_rfl) (by kernel_rfl) (by kernel_rfl) (fun _ _ _ h => h) (Or.inl ⟨rfl, ?_⟩) (by assumption) ?_
          rotate_left 1
          · intro w_ hSw; (try dsimp only at hSw); go_simp; (try with_reducible rfl)
          (try simp only [Act.put, List.setIfInBounds_toArray, List.set_cons_zero, List.set_cons_succ])
          refine wpAnyH_ready (rs := [15]) (by kernel_rfl) (by simp) ?_
          refine (AllReadyH.cons (o := ⟨_, _, _, _, _, _⟩) rfl (fun K hK => ?_) AllReadyH.nil)
          go_simp
          refine hK.out _ _ ?_ (fun hHeld => ?_)
          · exact (qt_cells HQ4.out.box).2.2.1
          clear hK K
          (try simp only [Act.put, List.setIfInBounds_toArray, List.set_cons_zero, List.set_cons_succ])
          refine wpAnyH_done (by kernel_rfl) ?_ _
          refine NoPanic.normal ?_
          have HQ5 : Hid (QtS (w4.setCell ⟨Q, 11, none⟩ (.slice (some ⟨g4, 0, none⟩) (k + 1) cap4)) A Q (z : Int) ao n c f (k + 1) (k + 1) (.slice (some ⟨g1, 0, none⟩) t1 c1) (.slice (some ⟨g4, 0, none⟩) (k + 1) cap4)) := HQ4.out
          have HB5 : Hid (Below w.heap.size w (w4.setCell ⟨Q, 11, none⟩ (.slice (some ⟨g4, 0, none⟩) (k + 1) cap4))) := HB4.out.setCell (by show w.heap.size ≤ Q; omega) _
          clear HQ4 HB4 HBx4 hHeld
          go_wp2_with fail
          go_roundw
          case rel => exact ⟨k + 1, _, _, by omega, by go_num, HQ5, HB5⟩
          case measure => simp [intOf]; omega
        · go_simp
          go_at_call 63
          refine (HIx.out _ (below_drew _)).mono ?_
          rintro e_ w_ ⟨rfl, rfl⟩
          refine hK.out _ _ ?_ (fun hHeld => ?_)
          · exact s10
          clear hK K
          (try simp only [Act.put, List.setIfInBounds_toArray, List.set_cons_zero, List.set_cons_succ])
          refine wpAnyH_ready (rs := [4, 11]) (by kernel_rfl) (by simp) ?_
          refine (AllReadyH.cons (o := ⟨_, _, _, _, _, _⟩) rfl (fun K hK => ?_) (AllReadyH.cons (o := ⟨_, _, _, _, _, _⟩) rfl (fun K hK => ?_) AllReadyH.nil))
          · go_simp
            refine hK.out _ _ ?_ (fun hHeld => ?_)
            · exact s10
            clear hK K
            (try simp only [Act.put, List.setIfInBounds_toArray, List.set_cons_zero, List.set_cons_succ])
            refine wpAnyH_ready (rs := [11]) (by kernel_rfl) (by simp) ?_
            refine (AllReadyH.cons (o := ⟨_, _, _, _, _, _⟩) rfl (fun K hK => ?_) AllReadyH.nil)
            go_simp
            refine hK.out _ _ ?_ (fun hHeld => ?_)
            · exact cell_b ((below_alloc _ _).drew) s10
            clear hK K
            (try simp only [Act.put, List.setIfInBounds_toArray, List.set_cons_zero, List.set_cons_succ])
            refine wpAnyH_ready (rs := [12]) (by kernel_rfl) (by simp) ?_
            refine (AllReadyH.cons (o := ⟨_, _, _, _, _, _⟩) rfl (fun K hK => ?_) AllReadyH.nil)
            refine step_append_lies _ rfl _ _ _ rfl (Q + 1) 3 j0 _ 1 8 Try.underlying25 hj0 hy0 hy1 hy2 rfl (by decide) vb k ((lstP k (naI f)).map (Value.int .i64)) rfl (World.ownsRow.alloc (show wi.drew.ownsRow _ _ _ _ _ _ from HQs.out.nat) _) ⟨wi.drew.heap.size, 0, none⟩ 1 1 [.int .i64 u] rfl rfl (cell_one_new _ _ _) (by simp [Value.oneCell']) (by decide) (by unfold maxLen; omega) (by omega) (by have h_ := HQs.out.lt; show Q + 1 ≤ (wi.drew.alloc _).heap.size; simp; omega) _ rfl ?_
            intro g4 cap4 w4 hown4 hgrow4 hat4 hlt4
            have HQ4 := Lib.hid (HQs.out.natPut (k' := k + 1) (v' := .slice (some ⟨g4, 0, none⟩) (k + 1) cap4) hAQ (by rw [lstP_succ, List.map_append, HU.out]; exact hown4) hgrow4 (by rcases hat4 with h | h; exact .inl h.symm; exact .inr (by rw [h]; rfl)))
            have HB4 : Hid (Below w.heap.size w w4) := ((HBi.out.drew).alloc HBi.out.size _).grown hgrow4 (by have := HBi.out.size; show w.heap.size ≤ (wi.drew.alloc _).heap.size; simp; omega) (fun b hb => by have h_ := (HQs.out.nat.lt b hb).1; omega)
            have HBx4 : Hid (w4.heap[Q]? = some (.cells (qtArr (z : Int) ao n c f (.slice (some ⟨g1, 0, none⟩) t1 c1) vb) 76 (0, 0))) := HQs.out.boxGrown hgrow4
            have d11 := (qt_cells HBx4.out).2.2.2.1
            have f11 := (qt_cells HBx4.out).2.2.2.2 11
            clear hown4 hgrow4 hat4
            refine hK.out _ _ ?_ (fun hHeld => ?_)
            · exact (qt_cells HBx4.out).2.2.1
            clear hK K
            (try simp only [Act.put, List.setIfInBounds_toArray, List.set_cons_zero, List.set_cons_succ])
            refine wpAnyH_take (i := 13) (oi := ⟨_, _, _, _, _, _⟩) (v := ?_) rfl (by kernel_rfl) (by kernel_rfl) (by kernel_rfl) (fun _ _ _ h => h) (Or.inl ⟨rfl, ?_⟩) (by assumption) ?_
            rotate_left 1
            · intro w_ hSw; (try dsimp only at hSw); go_simp; (try with_reducible rfl)
            (try simp only [Act.put, List.setIfInBounds_toArray, List.set_cons_zero, List.set_cons_succ])
            refine wpAnyH_take (i := 14) (oi := ⟨_, _, _, _, _, _⟩) (v := ?_) rfl (by kernel_rfl) (by kernel_rfl) (by kernel_rfl) (fun _ _ _ h => h) (Or.inl ⟨rfl, ?_⟩) (by assumption) ?_
            rotate_left 1
            · intro w_ hSw; (try dsimp only at hSw); go_simp; (try with_reducible rfl)
            (try simp only [Act.put, List.setIfInBounds_toArray, List.set_cons_zero, List.set_cons_succ])
            refine wpAnyH_ready (rs := [15]) (by kernel_rfl) (by simp) ?_
            refine (AllReadyH.cons (o := ⟨_, _, _, _, _, _⟩) rfl (fun K hK => ?_) AllReadyH.nil)
            go_simp
            refine hK.out _ _ ?_ (fun hHeld => ?_)
            · exact (qt_cells HQ4.out.box).2.2.1
            clear hK K
            (try simp only [Act.put, List.setIfInBounds_toArray, List.set_cons_zero, List.set_cons_succ])
            refine wpAnyH_done (by kernel_rfl) ?_ _
            refine NoPanic.normal ?_
            have HQ5 : Hid (QtS (w4.setCell ⟨Q, 11, none⟩ (.slice (some ⟨g4, 0, none⟩) (k + 1) cap4)) A Q (z : Int) ao n c f (k + 1) (k + 1) (.slice (some ⟨g1, 0, none⟩) t1 c1) (.slice (some ⟨g4, 0, none⟩) (k + 1) cap4)) := HQ4.out
            have HB5 : Hid (Below w.heap.size w (w4.setCell ⟨Q, 11, none⟩ (.slice (some ⟨g4, 0, none⟩) (k + 1) cap4))) := HB4.out.setCell (by show w.heap.size ≤ Q; omega) _
            clear HQ4 HB4 HBx4 hHeld
            go_wp2_with fail
            go_roundw
            case rel => exact ⟨k + 1, _, _, by omega, by go_num, HQ5, HB5⟩
            case measure => simp [intOf]; omega
          · go_simp
            refine hK.out _ _ ?_ (fun hHeld => ?_)
            · exact cell_b ((below_alloc _ _).drew) s10
            clear hK K
            (try simp only [Act.put, List.setIfInBounds_toArray, List.set_cons_zero, List.set_cons_succ])
            refine wpAnyH_ready (rs := [4]) (by kernel_rfl) (by simp) ?_
            refine (AllReadyH.cons (o := ⟨_, _, _, _, _, _⟩) rfl (fun K hK => ?_) AllReadyH.nil)
            have s11b : ((wi.alloc (.cells #[.int .i64 u] 3)).drew).cell? ⟨Q, 11, none⟩ = some vb := cell_b ((below_alloc _ _).drew) s11
            go_simp
            refine hK.out _ _ ?_ (fun hHeld => ?_)
            · exact cell_b ((below_alloc _ _).drew) s10
            clear hK K
            (try simp only [Act.put, List.setIfInBounds_toArray, List.set_cons_zero, List.set_cons_succ])
            refine wpAnyH_ready (rs := [12]) (by kernel_rfl) (by simp) ?_
            refine (AllReadyH.cons (o := ⟨_, _, _, _, _, _⟩) rfl (fun K hK => ?_) AllReadyH.nil)
            refine step_append_lies _ rfl _ _ _ rfl (Q + 1) 3 j0 _ 1 8 Try.underlying25 hj0 hy0 hy1 hy2 rfl (by decide) vb k ((lstP k (naI f)).map (Value.int .i64)) rfl (World.ownsRow.alloc (show wi.drew.ownsRow _ _ _ _ _ _ from HQs.out.nat) _) ⟨wi.drew.heap.size, 0, none⟩ 1 1 [.int .i64 u] rfl rfl (cell_one_new _ _ _) (by simp [Value.oneCell']) (by decide) (by unfold maxLen; omega) (by omega) (by have h_ := HQs.out.lt; show Q + 1 ≤ (wi.drew.alloc _).heap.size; simp; omega) _ rfl ?_
            intro g4 cap4 w4 hown4 hgrow4 hat4 hlt4
            have HQ4 := Lib.hid (HQs.out.natPut (k' := k + 1) (v' := .slice (some ⟨g4, 0, none⟩) (k + 1) cap4) hAQ (by rw [lstP_succ, List.map_append, HU.out]; exact hown4) hgrow4 (by rcases hat4 with h | h; exact .inl h.symm; exact .inr (by rw [h]; rfl)))
            have HB4 : Hid (Below w.heap.size w w4) := ((HBi.out.drew).alloc HBi.out.size _).grown hgrow4 (by have := HBi.out.size; show w.heap.size ≤ (wi.drew.alloc _).heap.size; simp; omega) (fun b hb => by have h_ := (HQs.out.nat.lt b hb).1; omega)
            have HBx4 : Hid (w4.heap[Q]? = some (.cells (qtArr (z : Int) ao n c f (.slice (some ⟨g1, 0, none⟩) t1 c1) vb) 76 (0, 0))) := HQs.out.boxGrown hgrow4
            have d11 := (qt_cells HBx4.out).2.2.2.1
            have f11 := (qt_cells HBx4.out).2.2.2.2 11
            clear hown4 hgrow4 hat4
            refine hK.out _ _ ?_ (fun hHeld => ?_)
            · exact (qt_cells HBx4.out).2.2.1
            clear hK K
            (try simp only [Act.put, List.setIfInBounds_toArray, List.set_cons_zero, List.set_cons_succ])
            refine wpAnyH_take (i := 13) (oi := ⟨_, _, _, _, _, _⟩) (v := ?_) rfl (by kernel_rfl) (by kernel_rfl) (by kernel_rfl) (fun _ _ _ h => h) (Or.inl ⟨rfl, ?_⟩) (by assumption) ?_
            rotate_left 1
            · intro w_ hSw; (try dsimp only at hSw); go_simp; (try with_reducible rfl)
            (try simp only [Act.put, List.setIfInBounds_toArray, List.set_cons_zero, List.set_cons_succ])
            refine wpAnyH_take (i := 14) (oi := ⟨_, _, _, _, _, _⟩) (v := ?_) rfl (by kernel_rfl) (by kernel_rfl) (by kernel_rfl) (fun _ _ _ h => h) (Or.inl ⟨rfl, ?_⟩) (by assumption) ?_
            rotate_left 1
            · intro w_ hSw; (try dsimp only at hSw); go_simp; (try with_reducible rfl)
            (try simp only [Act.put, List.setIfInBounds_toArray, List.set_cons_zero, List.set_cons_succ])
            refine wpAnyH_ready (rs := [15]) (by kernel_rfl) (by simp) ?_
            refine (AllReadyH.cons (o := ⟨_, _, _, _, _, _⟩) rfl (fun K hK => ?_) AllReadyH.nil)
            go_simp
            refine hK.out _ _ ?_ (fun hHeld => ?_)
            · exact (qt_cells HQ4.out.box).2.2.1
            clear hK K
            (try simp only [Act.put, List.setIfInBounds_toArray, List.set_cons_zero, List.set_cons_succ])
            refine wpAnyH_done (by kernel_rfl) ?_ _
            refine NoPanic.normal ?_
            have HQ5 : Hid (QtS (w4.setCell ⟨Q, 11, none⟩ (.slice (some ⟨g4, 0, none⟩) (k + 1) cap4)) A Q (z : Int) ao n c f (k + 1) (k + 1) (.slice (some ⟨g1, 0, none⟩) t1 c1) (.slice (some ⟨g4, 0, none⟩) (k + 1) cap4)) := HQ4.out
            have HB5 : Hid (Below w.heap.size w (w4.setCell ⟨Q, 11, none⟩ (.slice (some ⟨g4, 0, none⟩) (k + 1) cap4))) := HB4.out.setCell (by show w.heap.size ≤ Q; omega) _
            clear HQ4 HB4 HBx4 hHeld
            go_wp2_with fail
            go_roundw
            case rel => exact ⟨k + 1, _, _, by omega, by go_num, HQ5, HB5⟩
            case measure => simp [intOf]; omega
    · have hkn : ¬ (k : Int) < (z : Int) := by omega
      obtain rfl : k = z := by omega
      go_wp2_with fail
      go_ret
      exact ⟨va, vb, by rw [HQe.out]; rfl, by rw [← HQe.out, ← HAe.out]; exact HQk.out, HBr.out⟩
end

section
open Go.RowKit
set_option linter.unusedVariables false
set_option linter.unusedSimpArgs false

theorem okAll_ext {xs : List Int} {n : Nat} (hl : xs.length = n) (h : okAll (gI xs) n = true) : okAll (extP xs) n = true := by
  unfold okAll at h ⊢
  rw [List.all_eq_true] at h ⊢
  intro x hx
  have hx' := List.mem_range.1 hx
  have h1 := h x hx
  obtain ⟨⟨h2, h3⟩, h4⟩ := okP_of h1
  unfold okP at h1 ⊢
  rw [extP_lt (by omega), extP_lt (k := (gI xs x).toNat) (by omega)]
  exact h1

/-- What quotientOf gives. -/
def ResQ (w w' : World) (b : Bool) (z : Int) (ao : Option Addr) (n c : Nat) (xs : List Int) (e : Ending) : Prop :=
  Below w.heap.size w w' ∧ if b = true then ∃ (A Q : Nat) (va vb : Value), e = .returned (.pointer (some ⟨Q, 0, none⟩)) ∧ w.heap.size ≤ A ∧ A < Q ∧ QtS w' A Q z ao n c (extP xs) z.toNat z.toNat va vb else e = .returned (.pointer none)

set_option maxHeartbeats 2000000 in
set_option maxRecDepth 100000 in
theorem quotOf_any (lo hi : Nat) (z : Int) (ao : Option Addr) (c n : Nat) (fs : List OpD) (lo2 hi2 : Nat) (bo : Option Addr) (d m : Nat) (xs : List Int) (w : World) (hv : OView w lo hi ao n fs) (hhi : hi ≤ w.heap.size) (hs : ∀ (j : Nat) (f : OpD), fs[j]? = some f → f.2.length ≤ maxLen)
    (hx : IView w lo2 hi2 bo m xs) (hhi2 : hi2 ≤ w.heap.size) (hm : m ≤ maxLen) :
    Calls Try.prog 73 #[.agg #[.int .i64 z, .slice ao n c], .slice bo m d] w fun e w' => ResQ w w' (cngB z fs xs) z ao n c xs e := by
  have hB := below_alloc w (.cells #[.int .i64 z, .slice ao n c] 31)
  have HB0 := Lib.hid hB
  have HC := Lib.hid (fun (W : World) (hW : Below w.heap.size w W) => congOf_any lo hi z ao c n fs lo2 hi2 bo d m xs W (hv.kept (Kept.of_below hW hhi)) (Nat.le_trans hhi hW.size) hs (hx.kept (Kept.of_below hW hhi2)) (Nat.le_trans hhi2 hW.size) hm)
  have hX0 : (w.alloc (.cells #[.int .i64 z, .slice ao n c] 31)).heap[w.heap.size]? = some (.cells #[.int .i64 z, .slice ao n c] 31 (0, 0)) := heap_alloc_new _ _
  have HX0 := Lib.hid hX0
  obtain ⟨cz0, ca0, _⟩ := box_cells hX0
  unfold ResP at HC
  unfold ResQ
  cases hb : cngB z fs xs with
  | false =>
    obtain ⟨g, hg⟩ : ∃ g, parF false xs = g := ⟨_, rfl⟩
    simp only [hb, hg] at HC
    simp only [Bool.false_eq_true, if_false]
    clear hv hx hs hm hB hX0 hb hg
    go_enter Try.func73, Try.ntmps73
    go_wp2_with fail
    refine (HC.out _ HB0.out).mono ?_
    rintro e w1 ⟨rfl, b1⟩
    have HB1 := Lib.hid (HB0.out.trans (b1.mono HB0.out.size))
    have HX1 := Lib.hid ((b1.block w.heap.size (by simp)).trans HX0.out)
    obtain ⟨cz, ca, _⟩ := box_cells HX1.out
    have HA1 := Lib.hid (ArrAt.new w1 fun _ => 0)
    have hz1_ : w.heap.size < w1.heap.size := (Array.getElem?_eq_some_iff.1 HX1.out).1
    clear b1 cz0 ca0
    obtain ⟨w3, hw3⟩ : ∃ w3, w3 = (w1.alloc (.cells (arrV fun _ => 0) 70)).setRow w1.heap.size (arrV g) := ⟨_, rfl⟩
    have HA3 : Hid (ArrAt w3 w1.heap.size g) := by unfold Hid; rw [hw3]; exact HA1.out.setRow
    have HB3 : Hid (Below w.heap.size w w3) := by unfold Hid; rw [hw3]; exact below_setRow (below_then HB1.out (below_alloc w1 _)) (by omega) _
    have HX3 : Hid (w3.heap[w.heap.size]? = some (.cells #[.int .i64 z, .slice ao n c] 31 (0, 0))) := by
      unfold Hid; rw [hw3]
      exact ((below_setRow (below_alloc w1 (.cells (arrV fun _ => 0) 70)) (Nat.le_refl _) (arrV g)).block _ (by omega)).trans HX1.out
    have HW3 := Lib.hid hw3
    clear hw3 cz ca
    obtain ⟨cz, ca, _⟩ := box_cells HX3.out
    go_wp2_with (refine st8 (w := w1.alloc (.cells (arrV fun _ => 0) 70)) HA1.out rfl _ _ rfl rfl rfl ?_; rw [← HW3.out])
    go_ret
    exact ⟨HB3.out, rfl⟩
  | true =>
    obtain ⟨hok, hpt, _⟩ := cngB_of hb
    obtain ⟨⟨z1, z8⟩, _, _⟩ := algOkB_of hok
    obtain ⟨zn, rfl⟩ : ∃ zn : Nat, z = (zn : Int) := ⟨z.toNat, by omega⟩
    obtain ⟨g, hg⟩ : ∃ g, extP xs = g := ⟨_, rfl⟩
    rw [hb, parF_yes, hg] at HC
    simp only [if_true, hg]
    have hlz : xs.length = zn := by have := (partB_of hpt).1; omega
    have hoA : okAll g zn = true := by rw [← hg]; exact okAll_ext hlz (by have := (partB_of hpt).2; rwa [hlz] at this)
    have HQ := Lib.hid (fun (W : World) => quotBy_any zn ao c n g W (by omega) (by omega) hoA)
    unfold NewQt at HQ
    clear hv hx hs hm hB hX0 hb hg hok hpt z1 z8 hlz hoA
    go_enter Try.func73, Try.ntmps73
    go_wp2_with fail
    refine (HC.out _ HB0.out).mono ?_
    rintro e w1 ⟨rfl, b1⟩
    have HB1 := Lib.hid (HB0.out.trans (b1.mono HB0.out.size))
    have HX1 := Lib.hid ((b1.block w.heap.size (by simp)).trans HX0.out)
    obtain ⟨cz, ca, _⟩ := box_cells HX1.out
    have HA1 := Lib.hid (ArrAt.new w1 fun _ => 0)
    have hz1_ : w.heap.size < w1.heap.size := (Array.getElem?_eq_some_iff.1 HX1.out).1
    clear b1 cz0 ca0
    obtain ⟨w3, hw3⟩ : ∃ w3, w3 = (w1.alloc (.cells (arrV fun _ => 0) 70)).setRow w1.heap.size (arrV g) := ⟨_, rfl⟩
    have HA3 : Hid (ArrAt w3 w1.heap.size g) := by unfold Hid; rw [hw3]; exact HA1.out.setRow
    have HB3 : Hid (Below w.heap.size w w3) := by unfold Hid; rw [hw3]; exact below_setRow (below_then HB1.out (below_alloc w1 _)) (by omega) _
    have HX3 : Hid (w3.heap[w.heap.size]? = some (.cells #[.int .i64 (zn : Int), .slice ao n c] 31 (0, 0))) := by
      unfold Hid; rw [hw3]
      exact ((below_setRow (below_alloc w1 (.cells (arrV fun _ => 0) 70)) (Nat.le_refl _) (arrV g)).block _ (by omega)).trans HX1.out
    have HW3 := Lib.hid hw3
    clear hw3 cz ca
    obtain ⟨cz, ca, _⟩ := box_cells HX3.out
    go_wp2_with (first | (refine st8 (w := w1.alloc (.cells (arrV fun _ => 0) 70)) HA1.out rfl _ _ rfl rfl rfl ?_; rw [← HW3.out]) | (refine ld8 HA3.out rfl _ rfl rfl ?_))
    refine (HQ.out _).mono ?_
    rintro e w4 ⟨va, vb, rfl, hq4, b4⟩
    have HB4 := Lib.hid (HB3.out.trans (b4.mono HB3.out.size))
    have HQ4 := Lib.hid hq4
    have hsz := HB3.out.size
    clear b4 hq4
    go_wp2_with fail
    go_ret
    exact ⟨HB4.out, w3.heap.size + 1, w3.heap.size + 1 + 1, va, vb, rfl, by omega, by omega, by rw [Int.toNat_natCast]; exact HQ4.out⟩

def valNaturalMap (z : Int) (fs : List OpD) (xs : List Int) : List Int × Bool := if cngB z fs xs = true then (lstP z.toNat (naI (gI xs)), true) else ([], false)
theorem smallNaturalMap (z : Int) (fs : List OpD) (xs : List Int) : (valNaturalMap z fs xs).1.length ≤ 4194304 := by
  unfold valNaturalMap
  split
  · rename_i h
    have := (algOkB_of (cngB_of h).1).1
    simp only [lstP_len]; omega
  · simp
theorem na_ext {z : Int} {fs : List OpD} {xs : List Int} (h : cngB z fs xs = true) : lstP z.toNat (naI (extP xs)) = lstP z.toNat (naI (gI xs)) := by
  have := (partB_of (cngB_of h).2.1).1
  exact lstP_congr fun x hx => naI_congr fun y hy => extP_lt (by omega)

set_option maxHeartbeats 1000000 in
theorem implNaturalMap (lo hi : Nat) (z : Int) (ao : Option Addr) (c n : Nat) (fs : List OpD) (lo2 hi2 : Nat) (bo : Option Addr) (d m : Nat) (xs : List Int) (w : World) (hv : OView w lo hi ao n fs) (hhi : hi ≤ w.heap.size) (hs : ∀ (j : Nat) (f : OpD), fs[j]? = some f → f.2.length ≤ maxLen)
    (hx : IView w lo2 hi2 bo m xs) (hhi2 : hi2 ≤ w.heap.size) (hm : m ≤ maxLen) :
    Calls Try.prog 33 #[.agg #[.int .i64 z, .slice ao n c], .slice bo m d] w fun e w' => ResL w w' (valNaturalMap z fs xs).1 (valNaturalMap z fs xs).2 e := by
  have hB := below_alloc w (.cells #[.int .i64 z, .slice ao n c] 31)
  have HB0 := Lib.hid hB
  have HC := Lib.hid (quotOf_any lo hi z ao c n fs lo2 hi2 bo d m xs _ (hv.kept (Kept.of_below hB hhi)) (Nat.le_trans hhi hB.size) hs (hx.kept (Kept.of_below hB hhi2)) (Nat.le_trans hhi2 hB.size) hm)
  unfold ResQ at HC
  unfold ResL valNaturalMap
  cases hb : cngB z fs xs with
  | false =>
    simp only [hb, Bool.false_eq_true, if_false] at HC
    rw [if_neg (by simp)]
    clear hv hx hs hm hB hb
    go_enter Try.func33, Try.ntmps33
    go_wp2_with fail
    refine HC.out.mono ?_
    rintro e w1 ⟨b1, rfl⟩
    have HB1 := Lib.hid (HB0.out.trans (b1.mono HB0.out.size))
    clear b1
    go_wp2_with fail
    go_ret2
    exact ⟨_, _, _, rfl, rfl, OwnsInts.of_row (World.ownsRow_nil _ _ _ _), HB1.out⟩
  | true =>
    have hne := na_ext hb
    simp only [hb, if_true] at HC
    rw [if_pos rfl, ← hne]
    obtain ⟨zn, hzn⟩ : ∃ zn, z.toNat = zn := ⟨_, rfl⟩
    rw [hzn]
    simp only [hzn] at HC
    clear hv hx hs hm hB hb hne hzn
    go_enter Try.func33, Try.ntmps33
    go_wp2_with fail
    refine HC.out.mono ?_
    rintro e w1 ⟨b1, A, Q, va, vb, rfl, hA, hQ, hq⟩
    obtain ⟨a, cc, rfl⟩ := own_form hq.nat
    have HB1 := Lib.hid (HB0.out.trans (b1.mono HB0.out.size))
    obtain ⟨_, _, _, d11, _⟩ := qt_cells hq.box
    have HO := Lib.hid (ownsRow_base hq.nat (b' := w.heap.size) (by have := HB0.out.size; omega))
    clear b1 hq
    go_wp2_with fail
    go_ret2
    exact ⟨_, _, _, rfl, (lstP_len _ _).symm, OwnsInts.of_row HO.out, HB1.out⟩
end

section
open Go.RowKit
set_option linter.unusedVariables false
set_option linter.unusedSimpArgs false

theorem ixP_get {v : Int} : ∀ {l : List Int}, v ∈ l → l[ixP l v]? = some v
  | [], h => by cases h
  | y :: l, h => by
    rw [ixP]
    by_cases hy : y = v
    · rw [if_pos hy, hy]; rfl
    · rw [if_neg hy, List.getElem?_cons_succ]
      exact ixP_get (by rcases List.mem_cons.1 h with h | h; exact absurd h.symm hy; exact h)
theorem plI_inj {l : List Int} {u v : Int} (hu : u ∈ l) (hv : v ∈ l) (h : plI l u = plI l v) : u = v := by
  unfold plI at h
  rw [if_pos hu, if_pos hv] at h
  have h1 := ixP_get hu
  rw [show ixP l u = ixP l v by omega, ixP_get hv] at h1
  exact (Option.some.inj h1).symm
theorem naI_all {f : Nat → Int} {n x : Nat} (hf : okAll f n = true) (hx : x < n) : f x ∈ leP f n ∧ naI f x = plI (leP f n) (f x) := by
  obtain ⟨⟨h0, h1⟩, h2⟩ := okAll_get hf hx
  have hm : f x ∈ leP f (x + 1) := leP_mem.2 ⟨(f x).toNat, by omega, by rw [h2]; omega, by omega⟩
  obtain ⟨r, hr⟩ := leP_pre f (x + 1) (n - (x + 1))
  rw [show x + 1 + (n - (x + 1)) = n by omega] at hr
  exact ⟨by rw [hr]; exact List.mem_append_left _ hm, by rw [hr, plI_app hm]; rfl⟩
theorem naI_iff {f : Nat → Int} {n x y : Nat} (hf : okAll f n = true) (hx : x < n) (hy : y < n) : naI f x = naI f y ↔ f x = f y := by
  obtain ⟨a1, a2⟩ := naI_all hf hx
  obtain ⟨b1, b2⟩ := naI_all hf hy
  constructor
  · intro h
    rw [a2, b2] at h
    exact plI_inj a1 b1 h
  · intro h
    rw [a2, b2, h]
theorem ixP_map {g h : Int → Int} {a : Int} : ∀ {l : List Int}, (∀ b ∈ l, g b = g a ↔ h b = h a) → ixP (l.map g) (g a) = ixP (l.map h) (h a)
  | [], _ => rfl
  | b :: l, hh => by
    rw [List.map_cons, List.map_cons, ixP, ixP, ixP_map fun c hc => hh c (List.mem_cons_of_mem _ hc)]
    have h1 := hh b List.mem_cons_self
    by_cases hb : g b = g a
    · rw [if_pos hb, if_pos (h1.1 hb)]
    · rw [if_neg hb, if_neg (fun e => hb (h1.2 e))]
/-- Equal values in the one where there are in the other: the same partition. -/
theorem kerL_map {g h : Int → Int} {l : List Int} (hh : ∀ a ∈ l, ∀ b ∈ l, g b = g a ↔ h b = h a) : kerL (l.map g) = kerL (l.map h) := by
  unfold kerL
  rw [List.map_map, List.map_map]
  refine List.map_congr_left fun a ha => ?_
  show plI (l.map g) (g a) = plI (l.map h) (h a)
  unfold plI
  rw [if_pos (List.mem_map.2 ⟨a, ha, rfl⟩), if_pos (List.mem_map.2 ⟨a, ha, rfl⟩), ixP_map fun b hb => hh a ha b hb]
end

section
open Go.RowKit
set_option linter.unusedVariables false
set_option linter.unusedSimpArgs false

/-- What subAndQuotient gives. -/
def ResSQ (w w' : World) (b : Bool) (z : Int) (ao : Option Addr) (n c : Nat) (xs ys : List Int) (e : Ending) : Prop :=
  Below w.heap.size w w' ∧ if b = true then ∃ (A Q : Nat) (va vb : Value), e = .returned (.tuple #[.int .u64 ((setN xs : Nat) : Int), .pointer (some ⟨Q, 0, none⟩)]) ∧ w.heap.size ≤ A ∧ A < Q ∧ QtS w' A Q z ao n c (extP ys) z.toNat z.toNat va vb
    else ∃ s : Nat, e = .returned (.tuple #[.int .u64 (s : Int), .pointer none])
def sqB (z : Int) (fs : List OpD) (xs ys : List Int) : Bool := subuB z fs xs && cngB z fs ys
theorem sqB_of {z : Int} {fs : List OpD} {xs ys : List Int} (h : sqB z fs xs ys = true) : subuB z fs xs = true ∧ cngB z fs ys = true := by simpa [sqB] using h

set_option maxHeartbeats 2000000 in
theorem subQ_any (lo hi : Nat) (z : Int) (ao : Option Addr) (c n : Nat) (fs : List OpD) (lo2 hi2 : Nat) (bo : Option Addr) (d m : Nat) (xs : List Int) (lo3 hi3 : Nat) (po : Option Addr) (e_ l : Nat) (ys : List Int) (w : World) (hv : OView w lo hi ao n fs) (hhi : hi ≤ w.heap.size) (hs : ∀ (j : Nat) (f : OpD), fs[j]? = some f → f.2.length ≤ maxLen)
    (hx : IView w lo2 hi2 bo m xs) (hhi2 : hi2 ≤ w.heap.size) (hm : m ≤ maxLen) (hy : IView w lo3 hi3 po l ys) (hhi3 : hi3 ≤ w.heap.size) (hl : l ≤ maxLen) :
    Calls Try.prog 79 #[.agg #[.int .i64 z, .slice ao n c], .slice bo m d, .slice po l e_] w fun e w' => ResSQ w w' (sqB z fs xs ys) z ao n c xs ys e := by
  have hB := below_alloc w (.cells #[.int .i64 z, .slice ao n c] 31)
  have HB0 := Lib.hid hB
  have hX0 : (w.alloc (.cells #[.int .i64 z, .slice ao n c] 31)).heap[w.heap.size]? = some (.cells #[.int .i64 z, .slice ao n c] 31 (0, 0)) := heap_alloc_new _ _
  have HX0 := Lib.hid hX0
  obtain ⟨cz0, ca0, _⟩ := box_cells hX0
  have HS := Lib.hid (subOf_any lo hi z ao c n fs lo2 hi2 bo d m xs _ (hv.kept (Kept.of_below hB hhi)) (Nat.le_trans hhi hB.size) hs (hx.kept (Kept.of_below hB hhi2)) (Nat.le_trans hhi2 hB.size) hm)
  have HC := Lib.hid (fun (W : World) (hW : Below w.heap.size w W) => quotOf_any lo hi z ao c n fs lo3 hi3 po e_ l ys W (hv.kept (Kept.of_below hW hhi)) (Nat.le_trans hhi hW.size) hs (hy.kept (Kept.of_below hW hhi3)) (Nat.le_trans hhi3 hW.size) hl)
  unfold ResQ at HC
  cases h1 : subuB z fs xs with
  | false =>
    simp only [h1, Bool.false_eq_true, if_false] at HS
    rw [show sqB z fs xs ys = false by simp [sqB, h1]]
    clear hv hx hy hs hm hl hB hX0 h1
    go_enter Try.func79, Try.ntmps79
    go_wp2_with fail
    refine HS.out.mono ?_
    rintro e w1 ⟨rfl, b1⟩
    have HB1 := Lib.hid (HB0.out.trans (b1.mono HB0.out.size))
    clear b1
    go_wp2_with fail
    go_ret2
    refine ⟨HB1.out, ?_⟩
    rw [if_neg (by simp)]
    exact ⟨0, rfl⟩
  | true =>
    simp only [h1, if_true] at HS
    obtain ⟨s, hse⟩ : ∃ s, setN xs = s := ⟨_, rfl⟩
    rw [hse] at HS
    have HSe := Lib.hid hse
    obtain ⟨b, hb⟩ : ∃ b, cngB z fs ys = b := ⟨_, rfl⟩
    rw [show sqB z fs xs ys = b by simp [sqB, h1, hb]]
    rw [hb] at HC
    clear hv hx hy hs hm hl hB hX0 h1 hse hb
    go_enter Try.func79, Try.ntmps79
    go_wp2_with fail
    refine HS.out.mono ?_
    rintro e w1 ⟨rfl, b1⟩
    have HB1 := Lib.hid (HB0.out.trans (b1.mono HB0.out.size))
    obtain ⟨cz, ca, _⟩ := box_cells ((b1.block w.heap.size (by simp)).trans HX0.out)
    have hsz := HB1.out.size
    clear b1 cz0 ca0
    go_wp2_with fail
    refine (HC.out _ HB1.out).mono ?_
    rintro e w2 ⟨b2, hr⟩
    have HB2 := Lib.hid (HB1.out.trans (b2.mono HB1.out.size))
    clear b2
    cases b with
    | false =>
      simp only [Bool.false_eq_true, if_false] at hr
      subst hr
      go_wp2_with fail
      go_ret2
      refine ⟨HB2.out, ?_⟩
      rw [if_neg (by simp)]
      exact ⟨s, rfl⟩
    | true =>
      simp only [if_true] at hr
      obtain ⟨A, Q, va, vb, rfl, hA, hQ, hq⟩ := hr
      have HQ := Lib.hid hq
      clear hq
      go_wp2_with fail
      go_ret2
      refine ⟨HB2.out, ?_⟩
      rw [if_pos rfl]
      exact ⟨A, Q, va, vb, by rw [HSe.out]; rfl, by omega, hQ, HQ.out⟩
end

section
open Go.RowKit
set_option linter.unusedVariables false
set_option linter.unusedSimpArgs false

def rstB (z : Int) (fs : List OpD) (xs ys : List Int) : Bool := sqB z fs xs ys && !xs.isEmpty
def valRestrictCongruence (z : Int) (fs : List OpD) (xs ys : List Int) : List Int × Bool := if rstB z fs xs ys = true then (kerL (xs.map fun x => gI ys x.toNat), true) else ([], false)
theorem rstB_of {z : Int} {fs : List OpD} {xs ys : List Int} (h : rstB z fs xs ys = true) : sqB z fs xs ys = true ∧ 1 ≤ xs.length := by
  simp only [rstB, Bool.and_eq_true, Bool.not_eq_true'] at h
  refine ⟨h.1, ?_⟩
  cases xs with
  | nil => simp at h
  | cons x r => simp
theorem rstB_no {z : Int} {fs : List OpD} {xs ys : List Int} (h : sqB z fs xs ys = false) : rstB z fs xs ys = false := by simp [rstB, h]
theorem rstB_nil {z : Int} {fs : List OpD} {ys : List Int} : rstB z fs [] ys = false := by simp [rstB]
theorem subu_len {z : Int} {fs : List OpD} {xs : List Int} (h : subuB z fs xs = true) : xs.length ≤ 8 := by
  obtain ⟨_, h2⟩ := subuB_of h
  have h3 := (isSubB_of h2).2.1
  have := listK_le (setN xs) 8
  rw [h3] at this
  exact this
theorem smallRestrictCongruence (z : Int) (fs : List OpD) (xs ys : List Int) : (valRestrictCongruence z fs xs ys).1.length ≤ 4194304 := by
  unfold valRestrictCongruence
  split
  · rename_i h
    have := subu_len (sqB_of (rstB_of h).1).1
    simp only [kerL_len, List.length_map]; omega
  · simp
theorem rst_same {z : Int} {fs : List OpD} {xs ys : List Int} (h : sqB z fs xs ys = true) : kerL (xs.map fun x => naI (extP ys) x.toNat) = kerL (xs.map fun x => gI ys x.toNat) := by
  obtain ⟨h1, h2⟩ := sqB_of h
  have ha := (isSubB_of (subuB_of h1).2).1
  obtain ⟨hok, hpt, _⟩ := cngB_of h2
  obtain ⟨hl, ho⟩ := partB_of hpt
  have hoe : okAll (extP ys) z.toNat = true := okAll_ext (xs := ys) (n := z.toNat) (by omega) (by rw [show z.toNat = ys.length by omega]; exact ho)
  refine kerL_map fun a ha1 b hb1 => ?_
  have a1 := List.all_eq_true.1 ha a ha1
  have b1 := List.all_eq_true.1 ha b hb1
  simp only [decide_eq_true_eq] at a1 b1
  show naI (extP ys) b.toNat = naI (extP ys) a.toNat ↔ gI ys b.toNat = gI ys a.toNat
  rw [naI_iff hoe (by omega) (by omega), extP_lt (by omega), extP_lt (by omega)]

set_option maxHeartbeats 4000000 in
set_option maxRecDepth 100000 in
theorem implRestrictCongruence (lo hi : Nat) (z : Int) (ao : Option Addr) (c n : Nat) (fs : List OpD) (lo2 hi2 : Nat) (bo : Option Addr) (d m : Nat) (xs : List Int) (lo3 hi3 : Nat) (po : Option Addr) (e_ l : Nat) (ys : List Int) (w : World) (hv : OView w lo hi ao n fs) (hhi : hi ≤ w.heap.size) (hs : ∀ (j : Nat) (f : OpD), fs[j]? = some f → f.2.length ≤ maxLen)
    (hx : IView w lo2 hi2 bo m xs) (hhi2 : hi2 ≤ w.heap.size) (hm : m ≤ maxLen) (hy : IView w lo3 hi3 po l ys) (hhi3 : hi3 ≤ w.heap.size) (hl : l ≤ maxLen) :
    Calls Try.prog 39 #[.agg #[.int .i64 z, .slice ao n c], .slice bo m d, .slice po l e_] w fun e w' => ResL w w' (valRestrictCongruence z fs xs ys).1 (valRestrictCongruence z fs xs ys).2 e := by
  have hB := below_alloc w (.cells #[.int .i64 z, .slice ao n c] 31)
  have HB0 := Lib.hid hB
  have hX0 : (w.alloc (.cells #[.int .i64 z, .slice ao n c] 31)).heap[w.heap.size]? = some (.cells #[.int .i64 z, .slice ao n c] 31 (0, 0)) := heap_alloc_new _ _
  obtain ⟨cz0, ca0, _⟩ := box_cells hX0
  have HS := Lib.hid (subQ_any lo hi z ao c n fs lo2 hi2 bo d m xs lo3 hi3 po e_ l ys _ (hv.kept (Kept.of_below hB hhi)) (Nat.le_trans hhi hB.size) hs (hx.kept (Kept.of_below hB hhi2)) (Nat.le_trans hhi2 hB.size) hm (hy.kept (Kept.of_below hB hhi3)) (Nat.le_trans hhi3 hB.size) hl)
  unfold ResSQ at HS
  unfold ResL valRestrictCongruence
  cases hb : sqB z fs xs ys with
  | false =>
    rw [if_neg (by rw [rstB_no hb]; simp)]
    simp only [hb, Bool.false_eq_true, if_false] at HS
    clear hv hx hy hs hm hl hB hX0 hb
    go_enter Try.func39, Try.ntmps39
    go_wp2_with fail
    refine HS.out.mono ?_
    rintro e w1 ⟨b1, s, rfl⟩
    have HB1 := Lib.hid (HB0.out.trans (b1.mono HB0.out.size))
    clear b1
    go_wp2_with fail
    go_ret2
    exact ⟨_, _, _, rfl, rfl, OwnsInts.of_row (World.ownsRow_nil _ _ _ _), HB1.out⟩
  | true =>
    simp only [hb, if_true] at HS
    by_cases hem : xs = []
    · subst hem
      rw [if_neg (by rw [rstB_nil]; simp)]
      simp only [show setN [] = 0 from rfl] at HS
      clear hv hx hy hs hm hl hB hX0 hb
      go_enter Try.func39, Try.ntmps39
      go_wp2_with fail
      refine HS.out.mono ?_
      rintro e w1 ⟨b1, A, Q, va, vb, rfl, hA, hQ, hq⟩
      have HB1 := Lib.hid (HB0.out.trans (b1.mono HB0.out.size))
      clear b1 hq
      go_wp2_with fail
      go_ret2
      exact ⟨_, _, _, rfl, rfl, OwnsInts.of_row (World.ownsRow_nil _ _ _ _), HB1.out⟩
    · have hyes : rstB z fs xs ys = true := by
        cases xs with
        | nil => exact absurd rfl hem
        | cons x r => simp [rstB, hb]
      rw [if_pos hyes]
      have HSame := Lib.hid (rst_same hb)
      obtain ⟨h1, h2⟩ := sqB_of hb
      have hlen := subu_len h1
      have ha := (isSubB_of (subuB_of h1).2).1
      have hlk := (isSubB_of (subuB_of h1).2).2.1
      obtain ⟨⟨z1, z8⟩, _, _⟩ := algOkB_of (subuB_of h1).1
      have hs0 : ¬ setN xs = 0 := fun e => hem (by rw [← hlk, e]; rfl)
      obtain ⟨s, hse⟩ : ∃ s, setN xs = s := ⟨_, rfl⟩
      rw [hse] at HS hs0
      have hsn : (((s : Nat) : Int) == 0) = false := by rw [beq_eq_false_iff_ne]; omega
      have hlx := hx.1
      have hm1 : 1 ≤ m := by
        rcases Nat.eq_zero_or_pos m with h | h
        · exact absurd (List.length_eq_zero_iff.1 (by omega)) hem
        · exact h
      obtain ⟨b2_, o2_, rfl, _, hb2h, hc2⟩ := hx.at_ (show 0 < m by omega)
      have HC2 := Lib.hid hc2
      have hb2w : b2_ < w.heap.size := by omega
      have hm8 : m ≤ 8 := by omega
      have HLx := Lib.hid hlx
      have HAl := Lib.hid ha
      obtain ⟨f, hf⟩ : ∃ f, extP ys = f := ⟨_, rfl⟩
      rw [hf] at HS HSame
      obtain ⟨zn, hzn⟩ : ∃ zn, z.toNat = zn := ⟨_, rfl⟩
      rw [hzn] at HS
      have hznz : (zn : Int) = z := by omega
      obtain ⟨zp, hzp⟩ : ∃ zp, zn = zp + 1 := ⟨zn - 1, by omega⟩
      obtain ⟨i0, hi0, hz0, hz1, hz2⟩ := info_parts Try.infoInt
      rw [← HSame.out]
      clear hv hx hy hs hm hl hB hX0 hb hem hyes h1 h2 ha hlk hs0 hse hc2 hlx hf hzn
      go_enter Try.func39, Try.ntmps39
      go_wp2_with fail
      refine HS.out.mono ?_
      rintro e w1 ⟨b1, A, Q, va, vb, rfl, hA, hQ, hq⟩
      have HB1 := Lib.hid (HB0.out.trans (b1.mono HB0.out.size))
      have hnat := hq.nat
      rw [hzp] at hnat
      obtain ⟨gn, cn, rfl⟩ := ownsRow_succ hnat
      rw [← hzp] at hnat
      obtain ⟨_, _, _, d11, _⟩ := qt_cells hq.box
      rw [← hzp] at d11
      have HN : Hid (∀ x, x < zn → w1.cell? ⟨gn, x, none⟩ = some (.int .i64 (naI f x))) := fun x hx => by
        have h_ := hnat.cellAt x (by omega)
        rw [List.getElem?_map, lstP_get _ hx] at h_
        exact h_
      have HD := Lib.hid d11
      obtain ⟨B, hBe⟩ : ∃ B, B = w1.heap.size := ⟨_, rfl⟩
      have HBe := Lib.hid hBe
      have HR0 : Hid (w1.ownsRow B 3 1 (.slice none 0 0) 0 (((xs.map fun x => naI f x.toNat).take 0).map (Value.int .i64))) := World.ownsRow_nil _ _ _ _
      have HBr0 : Hid (Below B w1 w1) := Below.refl _ _
      clear b1 hq hnat hBe hzp
      go_wp2_with fail
      go_loopw [10, 12, 28] (fun v _ i wr => ∃ (j vc : Nat) (va : Option Addr), j ≤ m ∧ i = .int .i64 (j : Int) ∧ v = .slice va j vc ∧ Hid (wr.ownsRow B 3 1 (.slice va j vc) j (((xs.map fun x => naI f x.toNat).take j).map (Value.int .i64))) ∧ Hid (Below B w1 wr)) (fun _ _ i _ => m - (intOf i).toNat)
      case atStart => exact ⟨0, 0, none, Nat.zero_le _, rfl, rfl, HR0, HBr0⟩
      case round =>
        obtain ⟨j, vc, va, hj, rfl, rfl, HR, HBr⟩ := hrel
        clear HR0 HBr0 d11
        by_cases hjm : j < m
        · have hjn : (j : Int) < (m : Int) := by omega
          obtain ⟨x, hx⟩ := get_of_lt HLx.out hjm
          obtain ⟨x0, x1⟩ := allIn_get HAl.out hx
          obtain ⟨xn, rfl⟩ : ∃ xn : Nat, x = (xn : Int) := ⟨x.toNat, by omega⟩
          have hBw : Below w1.heap.size w1 wr := by rw [← HBe.out]; exact HBr.out
          have e1 : wr.cell? ⟨b2_, o2_ + j, none⟩ = some (.int .i64 (xn : Int)) := ((HB1.out.trans (hBw.mono HB1.out.size)).cell (p := ⟨b2_, o2_ + j, none⟩) hb2w).trans (HC2.out j _ hx)
          have e2 := cell_b hBw HD.out
          have hxz : xn < zn := by omega
          have e3 := cell_b hBw (HN.out xn hxz)
          obtain ⟨u, hu⟩ : ∃ u, naI f xn = u := ⟨_, rfl⟩
          rw [hu] at e3
          have hk : (xs.map fun x => naI f x.toNat).take (j + 1) = (xs.map fun x => naI f x.toNat).take j ++ [u] := by
            rw [List.take_add_one, List.getElem?_map, hx, ← hu]; rfl
          have HK := Lib.hid hk
          have hBs : B ≤ wr.heap.size := by rw [HBe.out]; exact hBw.size
          have hxzn : (xn : Int) < (zn : Int) := by omega
          clear hx hu hk hBw
          go_wp2_with (at_builtin; refine wpList_append_own _ rfl _ _ 25 rfl B 3 i0 (.int .i64 0) 1 8 Try.underlying25 hi0 hz0 hz1 hz2 rfl (by decide) (.slice va j vc) j (((xs.map fun x => naI f x.toNat).take j).map (Value.int .i64)) rfl (HR.out.alloc _) ⟨_, 0, none⟩ 1 1 [.int .i64 u] rfl rfl (cell_one_new _ _ _) (fun x hx => by simp at hx; subst hx; rfl) (by unfold maxLen; omega) (by omega) (by simp; omega) ?_; intro v' w3 hown' hgrow' hnil')
          obtain ⟨g3, cap, rfl⟩ := ownsRow_succ hown'
          have HB3 := Lib.hid ((HBr.out.alloc hBs (.cells #[.int .i64 u] 3)).grown hgrow' (by simp; omega) (fun q hq => (HR.out.lt q hq).1))
          have HO3 : Hid (w3.ownsRow B 3 1 (.slice (some ⟨g3, 0, none⟩) (j + 1) cap) (j + 1) (((xs.map fun x => naI f x.toNat).take (j + 1)).map (Value.int .i64))) := by
            unfold Hid
            rw [HK.out, List.map_append]
            exact hown'
          clear hown' hgrow' hnil'
          go_wp2_with fail
          go_roundw
          case rel => exact ⟨j + 1, cap, _, by omega, by go_num, rfl, HO3, HB3⟩
          case measure => simp [intOf]; omega
        · have hjn : ¬ (j : Int) < (m : Int) := by omega
          obtain rfl : j = m := by omega
          have hall : (xs.map fun x => naI f x.toNat).take j = xs.map fun x => naI f x.toNat := List.take_of_length_le (by rw [List.length_map]; have := HLx.out; omega)
          have hR := HR.out
          rw [hall] at hR
          obtain ⟨g9, c9, hv9⟩ := own_some (g := 0) (c := 0) hR (fun e => by injection e with _ e2 _; omega)
          injection hv9 with hv9 _ hv8
          subst hv9
          subst hv8
          have hP := pov_any B wr.heap.size (some ⟨g9, 0, none⟩) vc j (xs.map fun x => naI f x.toNat) wr (IView.of_owns hR (Nat.le_refl _)) (Nat.le_refl _) hm1 (by have := HLx.out; omega)
          unfold NewInts at hP
          have HP := Lib.hid hP
          have HBw : Hid (Below w.heap.size w wr) := HB1.out.trans ((show Below w1.heap.size w1 wr by rw [← HBe.out]; exact HBr.out).mono HB1.out.size)
          clear hall hR hP
          go_wp2_with fail
          refine HP.out.mono ?_
          rintro e w4 ⟨g, dd, rfl, ho, b4⟩
          have HO := Lib.hid (ownsRow_base ho HBw.out.size)
          have HB4 := Lib.hid (HBw.out.trans (b4.mono HBw.out.size))
          clear ho b4
          go_wp2_with fail
          go_ret2
          exact ⟨_, _, _, rfl, by rw [kerL_len, List.length_map]; exact HLx.out.symm, OwnsInts.of_row HO.out, HB4.out⟩
end

section
open Go.RowKit
set_option linter.unusedVariables false
set_option linter.unusedSimpArgs false

set_option maxHeartbeats 4000000 in
set_option maxRecDepth 100000 in
theorem specRestrictCongruence (lo hi : Nat) (z : Int) (ao : Option Addr) (c n : Nat) (fs : List OpD) (lo2 hi2 : Nat) (bo : Option Addr) (d m : Nat) (xs : List Int) (lo3 hi3 : Nat) (po : Option Addr) (e_ l : Nat) (ys : List Int) (w : World) (hv : OView w lo hi ao n fs) (hhi : hi ≤ w.heap.size) (hs : ∀ (j : Nat) (f : OpD), fs[j]? = some f → f.2.length ≤ maxLen)
    (hx : IView w lo2 hi2 bo m xs) (hhi2 : hi2 ≤ w.heap.size) (hm : m ≤ maxLen) (hy : IView w lo3 hi3 po l ys) (hhi3 : hi3 ≤ w.heap.size) (hl : l ≤ maxLen) :
    Calls Try.prog 38 #[.agg #[.int .i64 z, .slice ao n c], .slice bo m d, .slice po l e_] w fun e w' => ResL w w' (valRestrictCongruence z fs xs ys).1 (valRestrictCongruence z fs xs ys).2 e := by
  have hB := below_alloc w (.cells #[.int .i64 z, .slice ao n c] 31)
  have HB0 := Lib.hid hB
  have hX0 : (w.alloc (.cells #[.int .i64 z, .slice ao n c] 31)).heap[w.heap.size]? = some (.cells #[.int .i64 z, .slice ao n c] 31 (0, 0)) := heap_alloc_new _ _
  have HX0 := Lib.hid hX0
  obtain ⟨cz0, ca0, _⟩ := box_cells hX0
  have HC := Lib.hid (takes9_any lo hi z ao c n fs lo3 hi3 po e_ l ys _ (hv.kept (Kept.of_below hB hhi)) (Nat.le_trans hhi hB.size) hs (hy.kept (Kept.of_below hB hhi3)) (Nat.le_trans hhi3 hB.size) hl)
  have hlx := hx.1
  unfold ResL valRestrictCongruence
  cases hcg : cngB z fs ys with
  | false =>
    have hb : sqB z fs xs ys = false := by simp [sqB, hcg]
    rw [if_neg (by rw [rstB_no hb]; simp)]
    simp only [hcg] at HC
    clear hv hx hy hs hm hl hB hX0 hcg hb hlx
    go_enter Try.func38, Try.ntmps38
    go_wp2_with fail
    refine HC.out.mono ?_
    rintro e w1 ⟨rfl, b1⟩
    have HB1 := Lib.hid (HB0.out.trans (b1.mono HB0.out.size))
    obtain ⟨cz, ca, _⟩ := box_cells ((b1.block w.heap.size (by simp)).trans HX0.out)
    clear b1 cz0 ca0
    have HO0 := Lib.hid (World.ownsRow_lit (base := w.heap.size) (e := 3) (size := 1) w1 #[] 0 HB1.out.size (by decide) rfl)
    have HBZ := Lib.hid (HB1.out.alloc HB1.out.size (.cells #[] 3))
    go_wp2_with fail
    go_ret2
    exact ⟨_, _, _, rfl, rfl, OwnsInts.of_row HO0.out, HBZ.out⟩
  | true =>
    simp only [hcg] at HC
    obtain ⟨hok, hpt, _⟩ := cngB_of hcg
    by_cases hm0 : m = 0
    · obtain rfl : xs = [] := List.length_eq_zero_iff.1 (by omega)
      subst hm0
      rw [if_neg (by rw [rstB_nil]; simp)]
      clear hv hx hy hs hm hl hB hX0 hcg hlx hok hpt
      go_enter Try.func38, Try.ntmps38
      go_wp2_with fail
      refine HC.out.mono ?_
      rintro e w1 ⟨rfl, b1⟩
      have HB1 := Lib.hid (HB0.out.trans (b1.mono HB0.out.size))
      obtain ⟨cz, ca, _⟩ := box_cells ((b1.block w.heap.size (by simp)).trans HX0.out)
      clear b1 cz0 ca0
      have HO0 := Lib.hid (World.ownsRow_lit (base := w.heap.size) (e := 3) (size := 1) w1 #[] 0 HB1.out.size (by decide) rfl)
      have HBZ := Lib.hid (HB1.out.alloc HB1.out.size (.cells #[] 3))
      go_wp2_with fail
      go_ret2
      exact ⟨_, _, _, rfl, rfl, OwnsInts.of_row HO0.out, HBZ.out⟩
    · have hmn : ((m : Int) == 0) = false := by rw [beq_eq_false_iff_ne]; omega
      have HI := Lib.hid (fun (W : World) (hW : Below w.heap.size w W) => l5Is_any lo hi z ao c n fs lo2 hi2 bo d m xs W (hv.kept (Kept.of_below hW hhi)) (Nat.le_trans hhi hW.size) hok (hx.kept (Kept.of_below hW hhi2)) (Nat.le_trans hhi2 hW.size) hm)
      cases his : isSubB z fs xs with
      | false =>
        have hb : sqB z fs xs ys = false := by simp [sqB, subuB, his]
        rw [if_neg (by rw [rstB_no hb]; simp)]
        simp only [his] at HI
        clear hv hx hy hs hm hl hB hX0 hcg hlx hok hpt his hb
        go_enter Try.func38, Try.ntmps38
        go_wp2_with fail
        refine HC.out.mono ?_
        rintro e w1 ⟨rfl, b1⟩
        have HB1 := Lib.hid (HB0.out.trans (b1.mono HB0.out.size))
        obtain ⟨cz, ca, _⟩ := box_cells ((b1.block w.heap.size (by simp)).trans HX0.out)
        clear b1 cz0 ca0
        go_wp2_with fail
        refine (HI.out _ HB1.out).mono ?_
        rintro e w2 ⟨rfl, b2⟩
        have HB2 := Lib.hid (HB1.out.trans (b2.mono HB1.out.size))
        clear b2
        have HO0 := Lib.hid (World.ownsRow_lit (base := w.heap.size) (e := 3) (size := 1) w2 #[] 0 HB2.out.size (by decide) rfl)
        have HBZ := Lib.hid (HB2.out.alloc HB2.out.size (.cells #[] 3))
        go_wp2_with fail
        go_ret2
        exact ⟨_, _, _, rfl, rfl, OwnsInts.of_row HO0.out, HBZ.out⟩
      | true =>
        simp only [his] at HI
        have hb : sqB z fs xs ys = true := by simp [sqB, subuB, his, hok, hcg]
        have hyes : rstB z fs xs ys = true := by
          cases xs with
          | nil => exact absurd hlx.symm hm0
          | cons x r => simp [rstB, hb]
        rw [if_pos hyes]
        have hlen := subu_len (sqB_of hb).1
        have ha := (isSubB_of his).1
        have hly := hy.1
        have hlz : (ys.length : Int) = z := (partB_of hpt).1
        obtain ⟨⟨z1, z8⟩, _, _⟩ := algOkB_of hok
        obtain ⟨b2_, o2_, rfl, _, hb2h, hc2⟩ := hx.at_ (show 0 < m by omega)
        obtain ⟨b3_, o3_, rfl, _, hb3h, hc3⟩ := hy.at_ (show 0 < l by omega)
        have HC2 := Lib.hid hc2
        have HC3 := Lib.hid (fun (x : Nat) (hx : x < l) => hc3 x _ (get_gI hly hx))
        have hb2w : b2_ < w.heap.size := by omega
        have hb3w : b3_ < w.heap.size := by omega
        have HLx := Lib.hid hlx
        have HAl := Lib.hid ha
        have HZl : Hid (z = (l : Int)) := by unfold Hid; omega
        have hm8 : m ≤ 8 := by omega
        obtain ⟨i0, hi0, hz0, hz1, hz2⟩ := info_parts Try.infoInt
        clear hv hx hy hs hm hl hB hX0 hcg hlx hok hpt his hb hyes hlen ha hly hlz hc2 hc3
        go_enter Try.func38, Try.ntmps38
        go_wp2_with fail
        refine HC.out.mono ?_
        rintro e w1 ⟨rfl, b1⟩
        have HB1 := Lib.hid (HB0.out.trans (b1.mono HB0.out.size))
        obtain ⟨cz, ca, _⟩ := box_cells ((b1.block w.heap.size (by simp)).trans HX0.out)
        clear b1 cz0 ca0
        go_wp2_with fail
        refine (HI.out _ HB1.out).mono ?_
        rintro e w2 ⟨rfl, b2⟩
        have HB2 := Lib.hid (HB1.out.trans (b2.mono HB1.out.size))
        clear b2
        have HO0 : Hid ((w2.alloc (.cells #[] 3)).ownsRow w.heap.size 3 1 (.slice (some ⟨w2.heap.size, 0, none⟩) 0 0) 0 (((xs.map fun x => gI ys x.toNat).take 0).map (Value.int .i64))) := World.ownsRow_lit (base := w.heap.size) (e := 3) (size := 1) w2 #[] 0 HB2.out.size (by decide) rfl
        have HBZ := Lib.hid (HB2.out.alloc HB2.out.size (.cells #[] 3))
        go_wp2_with fail
        go_loopw [8, 9] (fun v i wr => ∃ (j vc g : Nat), j ≤ m ∧ i = .int .i64 (j : Int) ∧ v = .slice (some ⟨g, 0, none⟩) j vc ∧ Hid (wr.ownsRow w.heap.size 3 1 (.slice (some ⟨g, 0, none⟩) j vc) j (((xs.map fun x => gI ys x.toNat).take j).map (Value.int .i64))) ∧ Hid (Below w.heap.size w wr)) (fun _ i _ => m - (intOf i).toNat)
        case atStart => exact ⟨0, 0, _, Nat.zero_le _, rfl, rfl, HO0, HBZ⟩
        case round =>
          obtain ⟨j, vc, g, hj, rfl, rfl, HR, HBr⟩ := hrel
          clear HO0 HBZ cz ca
          by_cases hjm : j < m
          · have hjn : (j : Int) < (m : Int) := by omega
            obtain ⟨x, hx⟩ := get_of_lt HLx.out hjm
            obtain ⟨x0, x1⟩ := allIn_get HAl.out hx
            obtain ⟨xn, rfl⟩ : ∃ xn : Nat, x = (xn : Int) := ⟨x.toNat, by omega⟩
            have e1 : wr.cell? ⟨b2_, o2_ + j, none⟩ = some (.int .i64 (xn : Int)) := (HBr.out.cell (p := ⟨b2_, o2_ + j, none⟩) hb2w).trans (HC2.out j _ hx)
            have hxl : xn < l := by have := HZl.out; omega
            have e3 : wr.cell? ⟨b3_, o3_ + xn, none⟩ = some (.int .i64 (gI ys xn)) := (HBr.out.cell (p := ⟨b3_, o3_ + xn, none⟩) hb3w).trans (HC3.out xn hxl)
            obtain ⟨u, hu⟩ : ∃ u, gI ys xn = u := ⟨_, rfl⟩
            rw [hu] at e3
            have hk : (xs.map fun x => gI ys x.toNat).take (j + 1) = (xs.map fun x => gI ys x.toNat).take j ++ [u] := by
              rw [List.take_add_one, List.getElem?_map, hx, ← hu]; rfl
            have HK := Lib.hid hk
            have hxln : (xn : Int) < (l : Int) := by omega
            clear hx hu hk
            go_wp2_with (at_builtin; refine wpList_append_own _ rfl _ _ 25 rfl w.heap.size 3 i0 (.int .i64 0) 1 8 Try.underlying25 hi0 hz0 hz1 hz2 rfl (by decide) (.slice (some ⟨g, 0, none⟩) j vc) j (((xs.map fun x => gI ys x.toNat).take j).map (Value.int .i64)) rfl (HR.out.alloc _) ⟨_, 0, none⟩ 1 1 [.int .i64 u] rfl rfl (cell_one_new _ _ _) (fun x hx => by simp at hx; subst hx; rfl) (by unfold maxLen; omega) (by omega) (by have := HBr.out.size; simp; omega) ?_; intro v' w3 hown' hgrow' hnil')
            obtain ⟨g3, cap, rfl⟩ := ownsRow_succ hown'
            have HB3 := Lib.hid ((HBr.out.alloc HBr.out.size (.cells #[.int .i64 u] 3)).grown hgrow' (by have := HBr.out.size; simp; omega) (fun q hq => (HR.out.lt q hq).1))
            have HO3 : Hid (w3.ownsRow w.heap.size 3 1 (.slice (some ⟨g3, 0, none⟩) (j + 1) cap) (j + 1) (((xs.map fun x => gI ys x.toNat).take (j + 1)).map (Value.int .i64))) := by
              unfold Hid
              rw [HK.out, List.map_append]
              exact hown'
            clear hown' hgrow' hnil'
            go_wp2_with fail
            go_roundw
            case rel => exact ⟨j + 1, cap, g3, by omega, by go_num, rfl, HO3, HB3⟩
            case measure => simp [intOf]; omega
          · have hjn : ¬ (j : Int) < (m : Int) := by omega
            obtain rfl : j = m := by omega
            have hall : (xs.map fun x => gI ys x.toNat).take j = xs.map fun x => gI ys x.toNat := List.take_of_length_le (by rw [List.length_map]; have := HLx.out; omega)
            have hR := HR.out
            rw [hall] at hR
            have hP := kernel9_spec w.heap.size wr.heap.size (some ⟨g, 0, none⟩) vc j (xs.map fun x => gI ys x.toNat) wr (IView.of_owns hR (Nat.le_refl _)) (Nat.le_refl _) (by omega)
            unfold ListAt at hP
            have HP := Lib.hid hP
            clear hall hR hP
            go_wp2_with fail
            refine HP.out.mono ?_
            rintro e w4 ⟨ga, gm, gd, rfl, hgm, ho, b4⟩
            have HO := Lib.hid (ownsRow_base ho HBr.out.size)
            have HB4 := Lib.hid (HBr.out.trans (b4.mono HBr.out.size))
            have HG := Lib.hid hgm
            clear ho b4 hgm
            go_wp2_with fail
            go_ret2
            exact ⟨_, _, _, rfl, HG.out, OwnsInts.of_row HO.out, HB4.out⟩
end

end Go.Proofs.Ytcmjkfcgekmomaa
