/-
  QtM, QtL, QtI, QtO, RstM, FnC, Two9, PscM, PscI, PscS in one text. Conditions: as each theorem names them.
-/
import Derived.Test.YtcmjkfcgekmomaaKrlM
import Derived.Test.YtcmjkfcgekmomaaPartM
import Derived.Test.YtcmjkfcgekmomaaSetQ
import Derived.Test.YtcmjkfcgekmomaaClone
import Derived.Test.YtcmjkfcgekmomaaStep
import Derived.Test.YtcmjkfcgekmomaaPartL
import Derived.Test.YtcmjkfcgekmomaaPlc
import Derived.Test.YtcmjkfcgekmomaaApp
import Derived.Test.YtcmjkfcgekmomaaBuilt
import Derived.Deep.RegionHeld3
import Derived.Maps.AppendAt
import Derived.Test.YtcmjkfcgekmomaaCgJ
import Derived.Test.YtcmjkfcgekmomaaRiseM
import Derived.Test.YtcmjkfcgekmomaaPartK
import Derived.Deep.MidRow
import Derived.Test.YtcmjkfcgekmomaaPartI
import Derived.Test.YtcmjkfcgekmomaaL9k
namespace Go.Proofs.Ytcmjkfcgekmomaa
section
open Go.RowKit
set_option linter.unusedVariables false
set_option linter.unusedSimpArgs false

/-- The least elements of blocks below k. -/
def leP (f : Nat → Int) : Nat → List Int
  | 0 => []
  | k + 1 => leP f k ++ (if f k = (k : Int) then [(k : Int)] else [])
theorem leP_yes {f : Nat → Int} {k : Nat} (h : f k = (k : Int)) : leP f (k + 1) = leP f k ++ [(k : Int)] := by rw [leP, if_pos h]
theorem leP_no {f : Nat → Int} {k : Nat} (h : ¬ f k = (k : Int)) : leP f (k + 1) = leP f k := by rw [leP, if_neg h, List.append_nil]
theorem leP_mem {f : Nat → Int} {v : Int} : ∀ {k : Nat}, v ∈ leP f k ↔ ∃ y : Nat, y < k ∧ f y = (y : Int) ∧ v = (y : Int)
  | 0 => by simp [leP]
  | k + 1 => by
    rw [leP, List.mem_append, leP_mem (k := k)]
    constructor
    · rintro (⟨y, h1, h2, h3⟩ | h)
      · exact ⟨y, by omega, h2, h3⟩
      · by_cases hk : f k = (k : Int)
        · rw [if_pos hk] at h
          exact ⟨k, by omega, hk, by simpa using h⟩
        · rw [if_neg hk] at h; cases h
    · rintro ⟨y, h1, h2, h3⟩
      by_cases hy : y < k
      · exact .inl ⟨y, hy, h2, h3⟩
      · obtain rfl : y = k := by omega
        right
        rw [if_pos h2, h3]; simp
theorem leP_len (f : Nat → Int) : ∀ k, (leP f k).length ≤ k
  | 0 => Nat.le_refl _
  | k + 1 => by
    have := leP_len f k
    rw [leP, List.length_append]
    split <;> simp <;> omega
theorem leP_congr {f g : Nat → Int} : ∀ {k : Nat}, (∀ x, x < k → f x = g x) → leP f k = leP g k
  | 0, _ => rfl
  | k + 1, h => by rw [leP, leP, leP_congr fun x hx => h x (by omega), h k (by omega)]
theorem leP_pre (f : Nat → Int) (k : Nat) : ∀ d, ∃ r, leP f (k + d) = leP f k ++ r
  | 0 => ⟨[], by simp⟩
  | d + 1 => by
    obtain ⟨r, hr⟩ := leP_pre f k d
    exact ⟨r ++ (if f (k + d) = ((k + d : Nat) : Int) then [((k + d : Nat) : Int)] else []), by rw [← Nat.add_assoc, leP, hr, List.append_assoc]⟩
theorem ixP_app {v : Int} {r : List Int} : ∀ {l : List Int}, v ∈ l → ixP (l ++ r) v = ixP l v
  | [], h => by cases h
  | y :: l, h => by
    rw [List.cons_append, ixP, ixP]
    by_cases hy : y = v
    · rw [if_pos hy, if_pos hy]
    · rw [if_neg hy, if_neg hy, ixP_app (by rcases List.mem_cons.1 h with h | h; exact absurd h.symm hy; exact h)]
theorem plI_app {v : Int} {l r : List Int} (h : v ∈ l) : plI (l ++ r) v = plI l v := by
  unfold plI
  rw [if_pos h, if_pos (List.mem_append_left _ h), ixP_app h]
theorem plI_last {v : Int} {l : List Int} (h : ¬ v ∈ l) : plI (l ++ [v]) v = (l.length : Int) := by
  refine plI_hit (q := l.length) ?_ ?_
  · rw [List.getElem?_append_right (Nat.le_refl _), Nat.sub_self]; rfl
  · rw [List.take_append_of_le_length (Nat.le_refl _), List.take_length]; exact h
/-- The number of the block of an element. -/
def naI (f : Nat → Int) (x : Nat) : Int := plI (leP f (x + 1)) (f x)
theorem naI_new {f : Nat → Int} {x : Nat} (h : f x = (x : Int)) : naI f x = ((leP f x).length : Int) := by
  unfold naI
  rw [leP_yes h, h]
  refine plI_last fun hm => ?_
  obtain ⟨y, h1, h2, h3⟩ := leP_mem.1 hm
  omega
theorem naI_old {f : Nat → Int} {x y : Nat} (h : f x = (y : Int)) (hy : y < x) (hf : f y = (y : Int)) : naI f x = naI f y := by
  unfold naI
  obtain ⟨r, hr⟩ := leP_pre f (y + 1) (x - y)
  rw [show y + 1 + (x - y) = x + 1 by omega] at hr
  rw [hr, h, hf]
  exact plI_app (leP_mem.2 ⟨y, by omega, hf, rfl⟩)
theorem plI_lt {l : List Int} {v : Int} (h : v ∈ l) : 0 ≤ plI l v ∧ plI l v < l.length := by
  unfold plI
  rw [if_pos h]
  have := ixP_lt h
  omega
theorem naI_bd {f : Nat → Int} {n x : Nat} (hf : okAll f n = true) (hx : x < n) : 0 ≤ naI f x ∧ naI f x < (leP f (x + 1)).length := by
  obtain ⟨⟨h0, h1⟩, h2⟩ := okAll_get hf hx
  refine plI_lt (leP_mem.2 ⟨(f x).toNat, by omega, by rw [h2]; omega, by omega⟩)
theorem naI_congr {f g : Nat → Int} {x : Nat} (h : ∀ y, y < x + 1 → f y = g y) : naI f x = naI g x := by
  unfold naI; rw [leP_congr h, h x (by omega)]
end

section
open Go.RowKit
set_option linter.unusedVariables false
set_option linter.unusedSimpArgs false

set_option maxHeartbeats 2000000 in
theorem l9Map_any (lo hi : Nat) (ao : Option Addr) (c m : Nat) (xs : List Int) (w : World) (hx : IView w lo hi ao m xs) (hhi : hi ≤ w.heap.size) (h1 : 1 ≤ m) (h8 : m ≤ 8) (hok : okAll (gI xs) m = true) :
    Calls Try.prog 72 #[.slice ao m c] w fun e w' => NewInts w w' m (lstP m (naI (gI xs))) e := by
  obtain ⟨b, o, rfl, _, hbh, hc⟩ := hx.at_ (show 0 < m by omega)
  have hl := hx.1
  obtain ⟨f, hf⟩ : ∃ f, gI xs = f := ⟨_, rfl⟩
  have HC0 : Hid (∀ j, j < m → w.cell? ⟨b, o + j, none⟩ = some (.int .i64 (f j))) := fun j hj => by rw [← hf]; exact hc j _ (get_gI hl hj)
  rw [hf] at hok ⊢
  have HOk := Lib.hid hok
  have hb : b < w.heap.size := by omega
  obtain ⟨i0, hi0, hz0, hz1, hz2⟩ := info_parts Try.infoInt
  have HO0 := Lib.hid (World.ownsRow_lit (base := w.heap.size) (e := 3) (size := 1) w #[] 0 (Nat.le_refl _) (by decide) rfl)
  have HB0 := Lib.hid (below_alloc w (.cells #[] 3))
  clear hx hc hl hf hok
  unfold NewInts
  go_enter Try.func72, Try.ntmps72
  go_wp2_with fail
  go_loopw [3, 4, 5] (fun v cn i wr => ∃ k g d : Nat, k ≤ m ∧ i = .int .i64 (k : Int) ∧ cn = .int .i64 ((leP f k).length : Int) ∧ v = .slice (some ⟨g, 0, none⟩) k d ∧ Hid (wr.ownsRow w.heap.size 3 1 (.slice (some ⟨g, 0, none⟩) k d) k ((lstP k (naI f)).map (Value.int .i64))) ∧ Hid (Below w.heap.size w wr)) (fun _ _ i _ => m - (intOf i).toNat)
  case atStart => exact ⟨0, _, _, Nat.zero_le _, rfl, rfl, rfl, HO0, HB0⟩
  case round =>
    obtain ⟨k, g, d, hk, rfl, rfl, rfl, HR, HBr⟩ := hrel
    by_cases hlt : k < m
    · have hkm : (k : Int) < (m : Int) := by omega
      have e1 : wr.cell? ⟨b, o + k, none⟩ = some (.int .i64 (f k)) := (HBr.out.cell (p := ⟨b, o + k, none⟩) hb).trans (HC0.out k hlt)
      obtain ⟨⟨h0, hk1⟩, hff⟩ := okAll_get HOk.out hlt
      have hle := leP_len f k
      by_cases hfk : f k = (k : Int)
      · have HNew : Hid (lstP (k + 1) (naI f) = lstP k (naI f) ++ [((leP f k).length : Int)]) := by unfold Hid; rw [lstP_succ, naI_new hfk]
        have HLe : Hid (((leP f (k + 1)).length : Int) = ((leP f k).length : Int) + 1) := by unfold Hid; rw [leP_yes hfk, List.length_append]; simp
        obtain ⟨t, ht⟩ : ∃ t, (leP f k).length = t := ⟨_, rfl⟩
        rw [ht] at HNew HLe hle ⊢
        rw [hfk] at e1
        clear h0 hk1 hff hfk ht
        go_wp2_with (at_builtin; refine wpList_append_own _ rfl _ _ 25 rfl w.heap.size 3 i0 (.int .i64 0) 1 8 Try.underlying25 hi0 hz0 hz1 hz2 rfl (by decide) (.slice (some ⟨g, 0, none⟩) k d) k ((lstP k (naI f)).map (Value.int .i64)) rfl (HR.out.alloc _) ⟨_, 0, none⟩ 1 1 [.int .i64 (t : Int)] rfl rfl (cell_one_new _ _ _) (fun x hx => by simp at hx; subst hx; rfl) (by unfold maxLen; omega) (by omega) (by have := HBr.out.size; simp; omega) ?_; intro v' w3 hown' hgrow' hnil')
        obtain ⟨g3, cap, rfl⟩ := ownsRow_succ hown'
        have HB3 := Lib.hid ((HBr.out.alloc HBr.out.size (.cells #[.int .i64 (t : Int)] 3)).grown hgrow' (by have := HBr.out.size; simp; omega) (fun q hq => (HR.out.lt q hq).1))
        have HO3 : Hid (w3.ownsRow w.heap.size 3 1 (.slice (some ⟨g3, 0, none⟩) (k + 1) cap) (k + 1) ((lstP (k + 1) (naI f)).map (Value.int .i64))) := by
          unfold Hid
          rw [HNew.out, List.map_append]
          exact hown'
        clear hown' hgrow' hnil'
        go_wp2_with fail
        go_roundw
        case rel => exact ⟨k + 1, g3, cap, by omega, by go_num, by rw [HLe.out], rfl, HO3, HB3⟩
        case measure => simp [intOf]; omega
      · obtain ⟨y, hy⟩ : ∃ y : Nat, f k = (y : Int) := ⟨(f k).toNat, by omega⟩
        have hyk : y < k := by
          rcases Nat.lt_or_ge y k with h | h
          · exact h
          · exact absurd (show f k = (k : Int) by omega) hfk
        have hfy : f y = (y : Int) := by rw [hy, Int.toNat_natCast] at hff; exact hff
        obtain ⟨u, hu⟩ : ∃ u, naI f y = u := ⟨_, rfl⟩
        have HNew : Hid (lstP (k + 1) (naI f) = lstP k (naI f) ++ [u]) := by unfold Hid; rw [lstP_succ, naI_old hy hyk hfy, hu]
        have HLe : Hid (leP f (k + 1) = leP f k) := leP_no hfk
        have e2 : wr.cell? ⟨g, y, none⟩ = some (.int .i64 u) := by
          have h_ := HR.out.cellAt y (by omega)
          rw [List.getElem?_map, lstP_get _ hyk, hu] at h_
          exact h_
        have hne : (f k == (k : Int)) = false := by rw [beq_eq_false_iff_ne]; exact hfk
        rw [hy] at e1 hne
        have hykn : (y : Int) < (k : Int) := by omega
        have hymn : (y : Int) < (m : Int) := by omega
        clear h0 hk1 hff hfk hu hy hfy
        go_wp2_with (at_builtin; refine wpList_append_own _ rfl _ _ 25 rfl w.heap.size 3 i0 (.int .i64 0) 1 8 Try.underlying25 hi0 hz0 hz1 hz2 rfl (by decide) (.slice (some ⟨g, 0, none⟩) k d) k ((lstP k (naI f)).map (Value.int .i64)) rfl (HR.out.alloc _) ⟨_, 0, none⟩ 1 1 [.int .i64 u] rfl rfl (cell_one_new _ _ _) (fun x hx => by simp at hx; subst hx; rfl) (by unfold maxLen; omega) (by omega) (by have := HBr.out.size; simp; omega) ?_; intro v' w3 hown' hgrow' hnil')
        obtain ⟨g3, cap, rfl⟩ := ownsRow_succ hown'
        have HB3 := Lib.hid ((HBr.out.alloc HBr.out.size (.cells #[.int .i64 u] 3)).grown hgrow' (by have := HBr.out.size; simp; omega) (fun q hq => (HR.out.lt q hq).1))
        have HO3 : Hid (w3.ownsRow w.heap.size 3 1 (.slice (some ⟨g3, 0, none⟩) (k + 1) cap) (k + 1) ((lstP (k + 1) (naI f)).map (Value.int .i64))) := by
          unfold Hid
          rw [HNew.out, List.map_append]
          exact hown'
        clear hown' hgrow' hnil'
        go_wp2_with fail
        go_roundw
        case rel => exact ⟨k + 1, g3, cap, by omega, by go_num, by rw [HLe.out], rfl, HO3, HB3⟩
        case measure => simp [intOf]; omega
    · have hkm : ¬ (k : Int) < (m : Int) := by omega
      obtain rfl : k = m := by omega
      go_wp2_with fail
      go_ret
      exact ⟨g, d, rfl, HR.out, HBr.out⟩
end

section
open Go.RowKit
set_option linter.unusedVariables false
set_option linter.unusedSimpArgs false

/-- The cells of a quotient. -/
def qtArr (z : Int) (ao : Option Addr) (n c : Nat) (f : Nat → Int) (va vb : Value) : Array Value :=
  #[.int .i64 z, .slice ao n c, .int .i64 (f 0), .int .i64 (f 1), .int .i64 (f 2), .int .i64 (f 3), .int .i64 (f 4), .int .i64 (f 5), .int .i64 (f 6), .int .i64 (f 7), va, vb]
theorem qt_cells {W : World} {Q : Nat} {z : Int} {ao : Option Addr} {n c : Nat} {f : Nat → Int} {va vb : Value} (h : W.heap[Q]? = some (.cells (qtArr z ao n c f va vb) 76 (0, 0))) :
    W.cell? ⟨Q, 0, none⟩ = some (.int .i64 z) ∧ W.cell? ⟨Q, 1, none⟩ = some (.slice ao n c) ∧ W.cell? ⟨Q, 10, none⟩ = some va ∧ W.cell? ⟨Q, 11, none⟩ = some vb ∧ (∀ j, W.frozen? ⟨Q, j, none⟩ = false) :=
  ⟨by rw [cell_of_row W Q 0 _ _ (0, 0) h]; rfl, by rw [cell_of_row W Q 1 _ _ (0, 0) h]; rfl, by rw [cell_of_row W Q 10 _ _ (0, 0) h]; rfl, by rw [cell_of_row W Q 11 _ _ (0, 0) h]; rfl, fun j => by simp [World.frozen?, h]⟩
theorem qt_set10 {W : World} {Q : Nat} {z : Int} {ao : Option Addr} {n c : Nat} {f : Nat → Int} {va vb : Value} (v : Value) (h : W.heap[Q]? = some (.cells (qtArr z ao n c f va vb) 76 (0, 0))) : (W.setCell ⟨Q, 10, none⟩ v).heap[Q]? = some (.cells (qtArr z ao n c f v vb) 76 (0, 0)) := by
  simp [World.setCell, Array.getElem?_modify, h, qtArr]
theorem qt_set11 {W : World} {Q : Nat} {z : Int} {ao : Option Addr} {n c : Nat} {f : Nat → Int} {va vb : Value} (v : Value) (h : W.heap[Q]? = some (.cells (qtArr z ao n c f va vb) 76 (0, 0))) : (W.setCell ⟨Q, 11, none⟩ v).heap[Q]? = some (.cells (qtArr z ao n c f va v) 76 (0, 0)) := by
  simp [World.setCell, Array.getElem?_modify, h, qtArr]

/-- A quotient under way: its box Q, the array A, the least elements up to k1 and the numbers up to k. -/
structure QtS (W : World) (A Q : Nat) (z : Int) (ao : Option Addr) (n c : Nat) (f : Nat → Int) (k1 k : Nat) (va vb : Value) : Prop where
  box : W.heap[Q]? = some (.cells (qtArr z ao n c f va vb) 76 (0, 0))
  arr : ArrAt W A f
  les : W.ownsRow (Q + 1) 3 1 va (leP f k1).length ((leP f k1).map (Value.int .i64))
  nat : W.ownsRow (Q + 1) 3 1 vb k ((lstP k (naI f)).map (Value.int .i64))
  ne : ∀ b, va.ownBlock = some b → vb.ownBlock ≠ some b
theorem QtS.lt {W : World} {A Q : Nat} {z : Int} {ao : Option Addr} {n c : Nat} {f : Nat → Int} {k1 k : Nat} {va vb : Value} (h : QtS W A Q z ao n c f k1 k va vb) : Q < W.heap.size := (Array.getElem?_eq_some_iff.1 h.box).1
theorem QtS.boxGrown {W w3 : World} {A Q : Nat} {z : Int} {ao : Option Addr} {n c : Nat} {f : Nat → Int} {k1 k : Nat} {va vb : Value} (h : QtS W A Q z ao n c f k1 k va vb) {ob : Obj} (hg : (W.drew.alloc ob).grownBy w3 vb.ownBlock) : w3.heap[Q]? = some (.cells (qtArr z ao n c f va vb) 76 (0, 0)) := by
  have hl := h.lt
  refine (hg.block Q (by simp; omega) (fun e => ?_)).trans ((Below.heap_alloc _ _ _ (show Q < W.drew.heap.size from hl)).trans h.box)
  have := (h.nat.lt Q e.symm).1
  omega
theorem QtS.natPut {W w3 : World} {A Q : Nat} {z : Int} {ao : Option Addr} {n c : Nat} {f : Nat → Int} {k1 k k' : Nat} {va vb v' : Value} (h : QtS W A Q z ao n c f k1 k va vb) (hA : A < Q) {ob : Obj}
    (hown : w3.ownsRow (Q + 1) 3 1 v' k' ((lstP k' (naI f)).map (Value.int .i64))) (hg : (W.drew.alloc ob).grownBy w3 vb.ownBlock) (hat : v'.ownBlock = vb.ownBlock ∨ v'.ownBlock = some (W.drew.alloc ob).heap.size) : QtS (w3.setCell ⟨Q, 11, none⟩ v') A Q z ao n c f k1 k' va v' := by
  have hl := h.lt
  have hs : (W.drew.alloc ob).heap.size = W.heap.size + 1 := by simp
  refine ⟨qt_set11 v' (h.boxGrown hg), ?_, ?_, ownsRow_setCell_below hown (show Q < Q + 1 by omega) _, ?_⟩
  · have h1 : ArrAt (W.drew.alloc ob) A f := ArrAt.alloc (show ArrAt W.drew A f from h.arr) ob
    have h2 := h1.block (hg.block A h1.lt (fun e => by have := (h.nat.lt A e.symm).1; omega))
    exact h2.setOther (by omega) 11 _
  · have h1 : (W.drew.alloc ob).ownsRow (Q + 1) 3 1 va (leP f k1).length ((leP f k1).map (Value.int .i64)) := World.ownsRow.alloc (show W.drew.ownsRow _ _ _ _ _ _ from h.les) ob
    refine ownsRow_setCell_below (h1.kept hg ?_) (show Q < Q + 1 by omega) _
    cases hb : va.ownBlock with
    | none => exact .inl rfl
    | some b => exact .inr (fun e => h.ne b hb e.symm)
  · intro b hb hb2
    rcases hat with e | e
    · exact h.ne b hb (e ▸ hb2)
    · rw [e] at hb2
      injection hb2 with hb2
      have := (h.les.lt b hb).2
      omega
theorem QtS.lesPut {W w3 : World} {A Q : Nat} {z : Int} {ao : Option Addr} {n c : Nat} {f : Nat → Int} {k1 k1' k : Nat} {va vb v' : Value} (h : QtS W A Q z ao n c f k1 k va vb) (hA : A < Q) {ob : Obj}
    (hown : w3.ownsRow (Q + 1) 3 1 v' (leP f k1').length ((leP f k1').map (Value.int .i64))) (hg : (W.alloc ob).grownBy w3 va.ownBlock) (hat : v'.ownBlock = va.ownBlock ∨ v'.ownBlock = some (W.alloc ob).heap.size) :
    QtS (w3.setCell ⟨Q, 10, none⟩ v') A Q z ao n c f k1' k v' vb ∧ w3.heap[Q]? = some (.cells (qtArr z ao n c f va vb) 76 (0, 0)) := by
  have hl := h.lt
  have hs : (W.alloc ob).heap.size = W.heap.size + 1 := by simp
  have hbx : w3.heap[Q]? = some (.cells (qtArr z ao n c f va vb) 76 (0, 0)) := by
    refine (hg.block Q (by omega) (fun e => ?_)).trans ((Below.heap_alloc _ _ _ hl).trans h.box)
    have := (h.les.lt Q e.symm).1
    omega
  refine ⟨⟨qt_set10 v' hbx, ?_, ownsRow_setCell_below hown (show Q < Q + 1 by omega) _, ?_, ?_⟩, hbx⟩
  · have h1 : ArrAt (W.alloc ob) A f := h.arr.alloc ob
    have h2 := h1.block (hg.block A h1.lt (fun e => by have := (h.les.lt A e.symm).1; omega))
    exact h2.setOther (by omega) 10 _
  · refine ownsRow_setCell_below ((h.nat.alloc ob).kept hg ?_) (show Q < Q + 1 by omega) _
    cases hb : va.ownBlock with
    | none =>
      cases hb2 : vb.ownBlock with
      | none => exact .inl rfl
      | some b => exact .inr (by simp)
    | some b => exact .inr (h.ne b hb)
  · intro b hb hb2
    rcases hat with e | e
    · exact h.ne b (e ▸ hb) hb2
    · rw [e] at hb
      injection hb with hb
      have := (h.nat.lt b hb2).2
      omega
theorem QtS.more {W : World} {A Q : Nat} {z : Int} {ao : Option Addr} {n c : Nat} {f : Nat → Int} {k1 k k1' : Nat} {va vb : Value} (h : QtS W A Q z ao n c f k1 k va vb) (he : leP f k1' = leP f k1) : QtS W A Q z ao n c f k1' k va vb :=
  ⟨h.box, h.arr, by rw [he]; exact h.les, h.nat, h.ne⟩

/-- A new quotient. -/
def NewQt (w w' : World) (z : Nat) (ao : Option Addr) (n c : Nat) (f : Nat → Int) (e : Ending) : Prop := ∃ va vb, e = .returned (.pointer (some ⟨w.heap.size + 1 + 1, 0, none⟩)) ∧ QtS w' (w.heap.size + 1) (w.heap.size + 1 + 1) (z : Int) ao n c f z z va vb ∧ Below w.heap.size w w'

set_option maxHeartbeats 8000000 in
set_option maxRecDepth 100000 in
theorem quotBy_any (z : Nat) (ao : Option Addr) (c n : Nat) (f : Nat → Int) (w : World) (hz1 : 1 ≤ z) (hz8 : z ≤ 8) (hf : okAll f z = true) :
    Calls Try.prog 118 #[.agg #[.int .i64 (z : Int), .slice ao n c], .agg (arrV f)] w fun e w' => NewQt w w' z ao n c f e := by
  have HP0 : Hid (ArrAt ((w.alloc (.cells #[.int .i64 (z : Int), .slice ao n c] 31)).alloc (.cells (arrV f) 70)) (w.heap.size + 1) f) := by
    unfold Hid
    have h := ArrAt.new (w.alloc (.cells #[.int .i64 (z : Int), .slice ao n c] 31)) f
    simp only [World.size_alloc] at h
    exact h
  obtain ⟨w2, hw2⟩ : ∃ w2, w2 = (w.alloc (.cells #[.int .i64 (z : Int), .slice ao n c] 31)).alloc (.cells (arrV f) 70) := ⟨_, rfl⟩
  obtain ⟨w3, hw3⟩ : ∃ w3, w3 = w2.alloc (.cells (qtArr (z : Int) ao n c f (.slice none 0 0) (.slice none 0 0)) 76) := ⟨_, rfl⟩
  have hs2 : w2.heap.size = w.heap.size + 1 + 1 := by rw [hw2]; simp
  have HQ0 : Hid (QtS w3 (w.heap.size + 1) (w.heap.size + 1 + 1) (z : Int) ao n c f 0 0 (.slice none 0 0) (.slice none 0 0)) := by
    unfold Hid
    refine ⟨?_, ?_, World.ownsRow_nil _ _ _ _, World.ownsRow_nil _ _ _ _, fun b hb => by simp [Value.ownBlock] at hb⟩
    · rw [hw3, ← hs2]; exact heap_alloc_new _ _
    · rw [hw3]; have h_ := HP0.out; rw [← hw2] at h_; exact h_.alloc _
  have HB0 : Hid (Below w.heap.size w w3) := by unfold Hid; rw [hw3, hw2]; exact below_then (below_then (below_alloc _ _) (below_alloc _ _)) (below_alloc _ _)
  rw [hw2] at hw3
  have HW3 := Lib.hid hw3
  have HFo := Lib.hid hf
  have hzn : (z : Int) ≤ 8 := by omega
  obtain ⟨j0, hj0, hy0, hy1, hy2⟩ := info_parts Try.infoInt
  clear hw2 hw3 hs2 hf
  go_enter Try.func118, Try.ntmps118
  go_wp2_with (refine ld8 HP0.out rfl _ rfl rfl ?_; simp only [arrV])
  have hW3 := HW3.out
  simp only [arrV, qtArr] at hW3
  rw [← hW3]
  clear hW3 HW3 HP0
  obtain ⟨A, hA⟩ : ∃ A, A = w.heap.size + 1 := ⟨_, rfl⟩
  obtain ⟨Q, hQ⟩ : ∃ Q, Q = w.heap.size + 1 + 1 := ⟨_, rfl⟩
  rw [← hQ, ← hA] at HQ0
  rw [← hQ, ← hA]
  have hAQ : A < Q := by omega
  have hwQ : w.heap.size < Q := by omega
  have HAe := Lib.hid hA
  have HQe := Lib.hid hQ
  clear hA hQ
  go_loopw [6, 7, 16] (fun _ _ i wr => ∃ (k : Nat) (va vb : Value), k ≤ z ∧ i = .int .i64 (k : Int) ∧ Hid (QtS wr A Q (z : Int) ao n c f k k va vb) ∧ Hid (Below w.heap.size w wr)) (fun _ _ i _ => z - (intOf i).toNat)
  case atStart => exact ⟨0, _, _, Nat.zero_le _, rfl, HQ0, HB0⟩
  case round =>
    obtain ⟨k, va, vb, hk, rfl, HQk, HBr⟩ := hrel
    clear HQ0 HB0
    by_cases hlt : k < z
    · have hkn : (k : Int) < (z : Int) := by omega
      obtain ⟨⟨h0, h1⟩, hff⟩ := okAll_get HFo.out hlt
      have ek := HQk.out.arr.cell (k := k) (by omega)
      by_cases hfk : f k = (k : Int)
      · obtain ⟨d0, d1, d10, d11_, df⟩ := qt_cells HQk.out.box
        have f10 := df 10
        rw [hfk] at ek
        have HFk := Lib.hid hfk
        have HFf := Lib.hid hff
        have HH := Lib.hid (And.intro h0 h1)
        have hl8 := leP_len f k
        clear d0 d1 d11_ df hfk hff h0 h1
        go_wp2_with (at_builtin; refine wpList_append_own_at _ rfl _ _ 25 rfl (Q + 1) 3 j0 (.int .i64 0) 1 8 Try.underlying25 hj0 hy0 hy1 hy2 rfl (by decide) va (leP f k).length ((leP f k).map (Value.int .i64)) rfl (HQk.out.les.alloc _) ⟨_, 0, none⟩ 1 1 [.int .i64 (k : Int)] rfl rfl (cell_one_new _ _ _) (fun x hx => by simp at hx; subst hx; rfl) (by unfold maxLen; omega) (by omega) (by have := HQk.out.lt; simp; omega) ?_; intro v' w3 hown' hgrow' hnil' hat'; obtain ⟨g', cap', rfl⟩ := ownsRow_succ hown'; have hown2 : w3.ownsRow (Q + 1) 3 1 (.slice (some ⟨g', 0, none⟩) ((leP f k).length + 1) cap') (leP f (k + 1)).length ((leP f (k + 1)).map (Value.int .i64)) := (by rw [leP_yes HFk.out, List.map_append, List.length_append]; exact hown'); have hlp := HQk.out.lesPut hAQ hown2 hgrow' hat'; have HB5_ : Hid (Below w.heap.size w w3) := (HBr.out.alloc HBr.out.size _).grown hgrow' (by have := HBr.out.size; simp; omega) (fun b hb => by have h_ := (HQk.out.les.lt b hb).1; omega); have HQs0 := Lib.hid hlp.1; have hqc := qt_cells hlp.2; have e10 := hqc.2.2.1; have ff10 := hqc.2.2.2.2 10; clear hown' hown2 hgrow' hnil' hat' hlp hqc ek d10 f10)
        clear hl8
        obtain ⟨va2, hva2⟩ : ∃ va2 : Value, va2 = .slice (some ⟨g', 0, none⟩) ((leP f k).length + 1) cap' := ⟨_, rfl⟩
        rw [← hva2] at HQs0 ⊢
        obtain ⟨wi, hwi⟩ : ∃ wi, wi = w3.setCell ⟨Q, 10, none⟩ va2 := ⟨_, rfl⟩
        have HBi : Hid (Below w.heap.size w wi) := by unfold Hid; rw [hwi]; exact HB5_.out.setCell (by show w.heap.size ≤ Q; omega) _
        have HQs := HQs0
        rw [← hwi] at HQs ⊢
        clear hwi hva2 e10 ff10 HQs0 HB5_ HQk HBr
        have hff := HFf.out
        obtain ⟨h0, h1⟩ := HH.out
        have hle := HQs.out.les
        have hmem : f k ∈ leP f (k + 1) := leP_mem.2 ⟨(f k).toNat, by omega, by rw [hff]; omega, by omega⟩
        obtain ⟨t0, ht0⟩ : ∃ t0, (leP f (k + 1)).length = t0 + 1 := ⟨(leP f (k + 1)).length - 1, by have := List.length_pos_of_mem hmem; omega⟩
        rw [ht0] at hle
        obtain ⟨g1, c1, rfl⟩ := ownsRow_succ hle
        obtain ⟨t1, ht1⟩ : ∃ t1, t0 + 1 = t1 := ⟨_, rfl⟩
        rw [ht1] at hle ht0
        have ht1p : 0 < t1 := by omega
        rw [ht1] at HQs
        have hl8 := leP_len f (k + 1)
        have hIx := fun (W : World) (hW : Below wi.heap.size wi W) => place_impl (Q + 1) wi.heap.size g1 0 t1 c1 (leP f (k + 1)) (f k) W ((IView.of_owns hle (Nat.le_refl _)).kept (Kept.of_below hW (Nat.le_refl _))) ht1p (by omega)
        obtain ⟨u, hu⟩ : ∃ u, plI (leP f (k + 1)) (f k) = u := ⟨_, rfl⟩
        have HU : Hid (naI f k = u) := hu
        rw [hu] at hIx
        simp only [HFk.out] at hIx
        have HIx := Lib.hid hIx
        have s10 : wi.cell? ⟨Q, 10, none⟩ = some (.slice (some ⟨g1, 0, none⟩) t1 c1) := (qt_cells HQs.out.box).2.2.1
        have s11 : wi.cell? ⟨Q, 11, none⟩ = some vb := (qt_cells HQs.out.box).2.2.2.1
        clear hle hmem ht1 hl8 hIx hu hff ht0
        go_wp2_with fail
        refine wp_region_noPanic ?_
        refine wp_region_held_drew (S := fun W_ => W_.cell? ⟨Q, 10, none⟩ = some (.slice (some ⟨g1, 0, none⟩) t1 c1)) (by kernel_rfl) ?_ (fun hHeld => ?_)
        · exact s10
        refine wpAnyH_take (i := 0) (oi := ⟨_, _, _, _, _, _⟩) (v := ?_) rfl (by kernel_rfl) (by kernel_rfl) (by kernel_rfl) (fun _ _ _ h => h) (Or.inl ⟨rfl, ?_⟩) (by assumption) ?_
        rotate_left 1
        · intro w_ hSw; (try dsimp only at hSw); go_simp; (try with_reducible rfl)
        (try simp only [Act.put, List.setIfInBounds_toArray, List.set_cons_zero, List.set_cons_succ])
        refine wpAnyH_take (i := 1) (oi := ⟨_, _, _, _, _, _⟩) (v := ?_) rfl (by kernel_rfl) (by kernel_rfl) (by kernel_rfl) (fun _ _ _ h => h) (Or.inl ⟨rfl, ?_⟩) (by assumption) ?_
        rotate_left 1
        · intro w_ hSw; (try dsimp only at hSw); go_simp; (try with_reducible rfl)
        (try simp only [Act.put, List.setIfInBounds_toArray, List.set_cons_zero, List.set_cons_succ])
        refine wpAnyH_take (i := 2) (oi := ⟨_, _, _, _, _, _⟩) (v := ?_) rfl (by kernel_rfl) (by kernel_rfl) (by kernel_rfl) (fun _ _ _ h => h) (Or.inl ⟨rfl, ?_⟩) (by assumption) ?_
        rotate_left 1
        · intro w_ hSw; (try dsimp only at hSw); go_simp; (try with_reducible rfl)
        (try simp only [Act.put, List.setIfInBounds_toArray, List.set_cons_zero, List.set_cons_succ])
        refine wpAnyH_take (i := 3) (oi := ⟨_, _, _, _, _, _⟩) (v := ?_) rfl (by kernel_rfl) (by kernel_rfl) (by kernel_rfl) (fun _ _ _ h => h) (Or.inl ⟨rfl, ?_⟩) (by assumption) ?_
        rotate_left 1
        · intro w_ hSw; (try dsimp only at hSw); go_simp; (try with_reducible rfl)
        (try simp only [Act.put, List.setIfInBounds_toArray, List.set_cons_zero, List.set_cons_succ])
        refine wpAnyH_take (i := 5) (oi := ⟨_, _, _, _, _, _⟩) (v := ?_) rfl (by kernel_rfl) (by kernel_rfl) (by kernel_rfl) (fun _ _ _ h => h) (Or.inl ⟨rfl, ?_⟩) (by assumption) ?_
        rotate_left 1
        · intro w_ hSw; (try dsimp only at hSw); go_simp; (try with_reducible rfl)
        (try simp only [Act.put, List.setIfInBounds_toArray, List.set_cons_zero, List.set_cons_succ])
        refine wpAnyH_take (i := 6) (oi := ⟨_, _, _, _, _, _⟩) (v := ?_) rfl (by kernel_rfl) (by kernel_rfl) (by kernel_rfl) (fun _ _ _ h => h) (Or.inl ⟨rfl, ?_⟩) (by assumption) ?_
        rotate_left 1
        · intro w_ hSw; (try dsimp only at hSw); go_simp; (try with_reducible rfl)
        (try simp only [Act.put, List.setIfInBounds_toArray, List.set_cons_zero, List.set_cons_succ])
        refine wpAnyH_take (i := 7) (oi := ⟨_, _, _, _, _, _⟩) (v := ?_) rfl (by kernel_rfl) (by kernel_rfl) (by kernel_rfl) (fun _ _ _ h => h) (Or.inl ⟨rfl, ?_⟩) (by assumption) ?_
        rotate_left 1
        · intro w_ hSw; (try dsimp only at hSw); go_simp; (try with_reducible rfl)
        (try simp only [Act.put, List.setIfInBounds_toArray, List.set_cons_zero, List.set_cons_succ])
        refine wpAnyH_take (i := 8) (oi := ⟨_, _, _, _, _, _⟩) (v := ?_) rfl (by kernel_rfl) (by kernel_rfl) (by kernel_rfl) (fun _ _ _ h => h) (Or.inl ⟨rfl, ?_⟩) (by assumption) ?_
        rotate_left 1
        · intro w_ hSw; (try dsimp only at hSw); go_simp; (try with_reducible rfl)
        (try simp only [Act.put, List.setIfInBounds_toArray, List.set_cons_zero, List.set_cons_succ])
        refine wpAnyH_take (i := 9) (oi := ⟨_, _, _, _, _, _⟩) (v := ?_) rfl (by kernel_rfl) (by kernel_rfl) (by kernel_rfl) (fun _ _ _ h => h) (Or.inl ⟨rfl, ?_⟩) (by assumption) ?_
        rotate_left 1
        · intro w_ hSw; (try dsimp only at hSw); go_simp; (try with_reducible rfl)
        (try simp only [Act.put, List.setIfInBounds_toArray, List.set_cons_zero, List.set_cons_succ])
        refine wpAnyH_ready (rs := [4, 10]) (by kernel_rfl) (by simp) ?_
        refine (AllReadyH.cons (o := ⟨_, _, _, _, _, _⟩) rfl (fun K hK => ?_) (AllReadyH.cons (o := ⟨_, _, _, _, _, _⟩) rfl (fun K hK => ?_) AllReadyH.nil))
        · go_simp
          refine hK.out _ _ ?_ (fun hHeld => ?_)
          · exact s10
          clear hK K
          (try simp only [Act.put, List.setIfInBounds_toArray, List.set_cons_zero, List.set_cons_succ])
          refine wpAnyH_ready (rs := [10]) (by kernel_rfl) (by simp) ?_
          refine (AllReadyH.cons (o := ⟨_, _, _, _, _, _⟩) rfl (fun K hK => ?_) AllReadyH.nil)
          go_simp
          go_at_call 63
          refine (HIx.out _ (below_drew _)).mono ?_
          rintro e_ w_ ⟨rfl, rfl⟩
          refine hK.out _ _ ?_ (fun hHeld => ?_)
          · exact s10
          clear hK K
          (try simp only [Act.put, List.setIfInBounds_toArray, List.set_cons_zero, List.set_cons_succ])
          refine wpAnyH_ready (rs := [11]) (by kernel_rfl) (by simp) ?_
          refine (AllReadyH.cons (o := ⟨_, _, _, _, _, _⟩) rfl (fun K hK => ?_) AllReadyH.nil)
          go_simp
          refine hK.out _ _ ?_ (fun hHeld => ?_)
          · exact cell_b ((below_alloc _ _).drew) s10
          clear hK K
          (try simp only [Act.put, List.setIfInBounds_toArray, List.set_cons_zero, List.set_cons_succ])
          refine wpAnyH_ready (rs := [12]) (by kernel_rfl) (by simp) ?_
          refine (AllReadyH.cons (o := ⟨_, _, _, _, _, _⟩) rfl (fun K hK => ?_) AllReadyH.nil)
          refine step_append_lies _ rfl _ _ _ rfl (Q + 1) 3 j0 _ 1 8 Try.underlying25 hj0 hy0 hy1 hy2 rfl (by decide) vb k ((lstP k (naI f)).map (Value.int .i64)) rfl (World.ownsRow.alloc (show wi.drew.ownsRow _ _ _ _ _ _ from HQs.out.nat) _) ⟨wi.drew.heap.size, 0, none⟩ 1 1 [.int .i64 u] rfl rfl (cell_one_new _ _ _) (by simp [Value.oneCell']) (by decide) (by unfold maxLen; omega) (by omega) (by have h_ := HQs.out.lt; show Q + 1 ≤ (wi.drew.alloc _).heap.size; simp; omega) _ rfl ?_
          intro g4 cap4 w4 hown4 hgrow4 hat4 hlt4
          have HQ4 := Lib.hid (HQs.out.natPut (k' := k + 1) (v' := .slice (some ⟨g4, 0, none⟩) (k + 1) cap4) hAQ (by rw [lstP_succ, List.map_append, HU.out]; exact hown4) hgrow4 (by rcases hat4 with h | h; exact .inl h.symm; exact .inr (by rw [h]; rfl)))
          have HB4 : Hid (Below w.heap.size w w4) := ((HBi.out.drew).alloc HBi.out.size _).grown hgrow4 (by have := HBi.out.size; show w.heap.size ≤ (wi.drew.alloc _).heap.size; simp; omega) (fun b hb => by have h_ := (HQs.out.nat.lt b hb).1; omega)
          have HBx4 : Hid (w4.heap[Q]? = some (.cells (qtArr (z : Int) ao n c f (.slice (some ⟨g1, 0, none⟩) t1 c1) vb) 76 (0, 0))) := HQs.out.boxGrown hgrow4
          have d11 := (qt_cells HBx4.out).2.2.2.1
          have f11 := (qt_cells HBx4.out).2.2.2.2 11
          clear hown4 hgrow4 hat4
          refine hK.out _ _ ?_ (fun hHeld => ?_)
          · exact (qt_cells HBx4.out).2.2.1
          clear hK K
          (try simp only [Act.put, List.setIfInBounds_toArray, List.set_cons_zero, List.set_cons_succ])
          refine wpAnyH_take (i := 13) (oi := ⟨_, _, _, _, _, _⟩) (v := ?_) rfl (by kernel_rfl) (by kernel_rfl) (by kernel_rfl) (fun _ _ _ h => h) (Or.inl ⟨rfl, ?_⟩) (by assumption) ?_
          rotate_left 1
          · intro w_ hSw; (try dsimp only at hSw); go_simp; (try with_reducible rfl)
          (try simp only [Act.put, List.setIfInBounds_toArray, List.set_cons_zero, List.set_cons_succ])
          refine wpAnyH_take (i := 14) (oi := ⟨_, _, _, _, _, _⟩) (v := ?_) rfl (by kernel_rfl) (by kernel_rfl) (by kernel_rfl) (fun _ _ _ h => h) (Or.inl ⟨rfl, ?_⟩) (by assumption) ?_
          rotate_left 1
          · intro w_ hSw; (try dsimp only at hSw); go_simp; (try with_reducible rfl)
          (try simp only [Act.put, List.setIfInBounds_toArray, List.set_cons_zero, List.set_cons_succ])
          refine wpAnyH_ready (rs := [15]) (by kernel_rfl) (by simp) ?_
          refine (AllReadyH.cons (o := ⟨_, _, _, _, _, _⟩) rfl (fun K hK => ?_) AllReadyH.nil)
          go_simp
          refine hK.out _ _ ?_ (fun hHeld => ?_)
          · exact (qt_cells HQ4.out.box).2.2.1
          clear hK K
          (try simp only [Act.put, List.setIfInBounds_toArray, List.set_cons_zero, List.set_cons_succ])
          refine wpAnyH_done (by kernel_rfl) ?_ _
          refine NoPanic.normal ?_
          have HQ5 : Hid (QtS (w4.setCell ⟨Q, 11, none⟩ (.slice (some ⟨g4, 0, none⟩) (k + 1) cap4)) A Q (z : Int) ao n c f (k + 1) (k + 1) (.slice (some ⟨g1, 0, none⟩) t1 c1) (.slice (some ⟨g4, 0, none⟩) (k + 1) cap4)) := HQ4.out
          have HB5 : Hid (Below w.heap.size w (w4.setCell ⟨Q, 11, none⟩ (.slice (some ⟨g4, 0, none⟩) (k + 1) cap4))) := HB4.out.setCell (by show w.heap.size ≤ Q; omega) _
          clear HQ4 HB4 HBx4 hHeld
          go_wp2_with fail
          go_roundw
          case rel => exact ⟨k + 1, _, _, by omega, by go_num, HQ5, HB5⟩
          case measure => simp [intOf]; omega
        · go_simp
          go_at_call 63
          refine (HIx.out _ (below_drew _)).mono ?_
          rintro e_ w_ ⟨rfl, rfl⟩
          refine hK.out _ _ ?_ (fun hHeld => ?_)
          · exact s10
          clear hK K
          (try simp only [Act.put, List.setIfInBounds_toArray, List.set_cons_zero, List.set_cons_succ])
          refine wpAnyH_ready (rs := [4, 11]) (by kernel_rfl) (by simp) ?_
          refine (AllReadyH.cons (o := ⟨_, _, _, _, _, _⟩) rfl (fun K hK => ?_) (AllReadyH.cons (o := ⟨_, _, _, _, _, _⟩) rfl (fun K hK => ?_) AllReadyH.nil))
          · go_simp
            refine hK.out _ _ ?_ (fun hHeld => ?_)
            · exact s10
            clear hK K
            (try simp only [Act.put, List.setIfInBounds_toArray, List.set_cons_zero, List.set_cons_succ])
            refine wpAnyH_ready (rs := [11]) (by kernel_rfl) (by simp) ?_
            refine (AllReadyH.cons (o := ⟨_, _, _, _, _, _⟩) rfl (fun K hK => ?_) AllReadyH.nil)
            go_simp
            refine hK.out _ _ ?_ (fun hHeld => ?_)
            · exact cell_b ((below_alloc _ _).drew) s10
            clear hK K
            (try simp only [Act.put, List.setIfInBounds_toArray, List.set_cons_zero, List.set_cons_succ])
            refine wpAnyH_ready (rs := [12]) (by kernel_rfl) (by simp) ?_
            refine (AllReadyH.cons (o := ⟨_, _, _, _, _, _⟩) rfl (fun K hK => ?_) AllReadyH.nil)
            refine step_append_lies _ rfl _ _ _ rfl (Q + 1) 3 j0 _ 1 8 Try.underlying25 hj0 hy0 hy1 hy2 rfl (by decide) vb k ((lstP k (naI f)).map (Value.int .i64)) rfl (World.ownsRow.alloc (show wi.drew.ownsRow _ _ _ _ _ _ from HQs.out.nat) _) ⟨wi.drew.heap.size, 0, none⟩ 1 1 [.int .i64 u] rfl rfl (cell_one_new _ _ _) (by simp [Value.oneCell']) (by decide) (by unfold maxLen; omega) (by omega) (by have h_ := HQs.out.lt; show Q + 1 ≤ (wi.drew.alloc _).heap.size; simp; omega) _ rfl ?_
            intro g4 cap4 w4 hown4 hgrow4 hat4 hlt4
            have HQ4 := Lib.hid (HQs.out.natPut (k' := k + 1) (v' := .slice (some ⟨g4, 0, none⟩) (k + 1) cap4) hAQ (by rw [lstP_succ, List.map_append, HU.out]; exact hown4) hgrow4 (by rcases hat4 with h | h; exact .inl h.symm; exact .inr (by rw [h]; rfl)))
            have HB4 : Hid (Below w.heap.size w w4) := ((HBi.out.drew).alloc HBi.out.size _).grown hgrow4 (by have := HBi.out.size; show w.heap.size ≤ (wi.drew.alloc _).heap.size; simp; omega) (fun b hb => by have h_ := (HQs.out.nat.lt b hb).1; omega)
            have HBx4 : Hid (w4.heap[Q]? = some (.cells (qtArr (z : Int) ao n c f (.slice (some ⟨g1, 0, none⟩) t1 c1) vb) 76 (0, 0))) := HQs.out.boxGrown hgrow4
            have d11 := (qt_cells HBx4.out).2.2.2.1
            have f11 := (qt_cells HBx4.out).2.2.2.2 11
            clear hown4 hgrow4 hat4
            refine hK.out _ _ ?_ (fun hHeld => ?_)
            · exact (qt_cells HBx4.out).2.2.1
            clear hK K
            (try simp only [Act.put, List.setIfInBounds_toArray, List.set_cons_zero, List.set_cons_succ])
            refine wpAnyH_take (i := 13) (oi := ⟨_, _, _, _, _, _⟩) (v := ?_) rfl (by kernel_rfl) (by kernel_rfl) (by kernel_rfl) (fun _ _ _ h => h) (Or.inl ⟨rfl, ?_⟩) (by assumption) ?_
            rotate_left 1
            · intro w_ hSw; (try dsimp only at hSw); go_simp; (try with_reducible rfl)
            (try simp only [Act.put, List.setIfInBounds_toArray, List.set_cons_zero, List.set_cons_succ])
            refine wpAnyH_take (i := 14) (oi := ⟨_, _, _, _, _, _⟩) (v := ?_) rfl (by kernel_rfl) (by kernel_rfl) (by kernel_rfl) (fun _ _ _ h => h) (Or.inl ⟨rfl, ?_⟩) (by assumption) ?_
            rotate_left 1
            · intro w_ hSw; (try dsimp only at hSw); go_simp; (try with_reducible rfl)
            (try simp only [Act.put, List.setIfInBounds_toArray, List.set_cons_zero, List.set_cons_succ])
            refine wpAnyH_ready (rs := [15]) (by kernel_rfl) (by simp) ?_
            refine (AllReadyH.cons (o := ⟨_, _, _, _, _, _⟩) rfl (fun K hK => ?_) AllReadyH.nil)
            go_simp
            refine hK.out _ _ ?_ (fun hHeld => ?_)
            · exact (qt_cells HQ4.out.box).2.2.1
            clear hK K
            (try simp only [Act.put, List.setIfInBounds_toArray, List.set_cons_zero, List.set_cons_succ])
            refine wpAnyH_done (by kernel_rfl) ?_ _
            refine NoPanic.normal ?_
            have HQ5 : Hid (QtS (w4.setCell ⟨Q, 11, none⟩ (.slice (some ⟨g4, 0, none⟩) (k + 1) cap4)) A Q (z : Int) ao n c f (k + 1) (k + 1) (.slice (some ⟨g1, 0, none⟩) t1 c1) (.slice (some ⟨g4, 0, none⟩) (k + 1) cap4)) := HQ4.out
            have HB5 : Hid (Below w.heap.size w (w4.setCell ⟨Q, 11, none⟩ (.slice (some ⟨g4, 0, none⟩) (k + 1) cap4))) := HB4.out.setCell (by show w.heap.size ≤ Q; omega) _
            clear HQ4 HB4 HBx4 hHeld
            go_wp2_with fail
            go_roundw
            case rel => exact ⟨k + 1, _, _, by omega, by go_num, HQ5, HB5⟩
            case measure => simp [intOf]; omega
          · go_simp
            refine hK.out _ _ ?_ (fun hHeld => ?_)
            · exact cell_b ((below_alloc _ _).drew) s10
            clear hK K
            (try simp only [Act.put, List.setIfInBounds_toArray, List.set_cons_zero, List.set_cons_succ])
            refine wpAnyH_ready (rs := [4]) (by kernel_rfl) (by simp) ?_
            refine (AllReadyH.cons (o := ⟨_, _, _, _, _, _⟩) rfl (fun K hK => ?_) AllReadyH.nil)
            have s11b : ((wi.alloc (.cells #[.int .i64 u] 3)).drew).cell? ⟨Q, 11, none⟩ = some vb := cell_b ((below_alloc _ _).drew) s11
            go_simp
            refine hK.out _ _ ?_ (fun hHeld => ?_)
            · exact cell_b ((below_alloc _ _).drew) s10
            clear hK K
            (try simp only [Act.put, List.setIfInBounds_toArray, List.set_cons_zero, List.set_cons_succ])
            refine wpAnyH_ready (rs := [12]) (by kernel_rfl) (by simp) ?_
            refine (AllReadyH.cons (o := ⟨_, _, _, _, _, _⟩) rfl (fun K hK => ?_) AllReadyH.nil)
            refine step_append_lies _ rfl _ _ _ rfl (Q + 1) 3 j0 _ 1 8 Try.underlying25 hj0 hy0 hy1 hy2 rfl (by decide) vb k ((lstP k (naI f)).map (Value.int .i64)) rfl (World.ownsRow.alloc (show wi.drew.ownsRow _ _ _ _ _ _ from HQs.out.nat) _) ⟨wi.drew.heap.size, 0, none⟩ 1 1 [.int .i64 u] rfl rfl (cell_one_new _ _ _) (by simp [Value.oneCell']) (by decide) (by unfold maxLen; omega) (by omega) (by have h_ := HQs.out.lt; show Q + 1 ≤ (wi.drew.alloc _).heap.size; simp; omega) _ rfl ?_
            intro g4 cap4 w4 hown4 hgrow4 hat4 hlt4
            have HQ4 := Lib.hid (HQs.out.natPut (k' := k + 1) (v' := .slice (some ⟨g4, 0, none⟩) (k + 1) cap4) hAQ (by rw [lstP_succ, List.map_append, HU.out]; exact hown4) hgrow4 (by rcases hat4 with h | h; exact .inl h.symm; exact .inr (by rw [h]; rfl)))
            have HB4 : Hid (Below w.heap.size w w4) := ((HBi.out.drew).alloc HBi.out.size _).grown hgrow4 (by have := HBi.out.size; show w.heap.size ≤ (wi.drew.alloc _).heap.size; simp; omega) (fun b hb => by have h_ := (HQs.out.nat.lt b hb).1; omega)
            have HBx4 : Hid (w4.heap[Q]? = some (.cells (qtArr (z : Int) ao n c f (.slice (some ⟨g1, 0, none⟩) t1 c1) vb) 76 (0, 0))) := HQs.out.boxGrown hgrow4
            have d11 := (qt_cells HBx4.out).2.2.2.1
            have f11 := (qt_cells HBx4.out).2.2.2.2 11
            clear hown4 hgrow4 hat4
            refine hK.out _ _ ?_ (fun hHeld => ?_)
            · exact (qt_cells HBx4.out).2.2.1
            clear hK K
            (try simp only [Act.put, List.setIfInBounds_toArray, List.set_cons_zero, List.set_cons_succ])
            refine wpAnyH_take (i := 13) (oi := ⟨_, _, _, _, _, _⟩) (v := ?_) rfl (by kernel_rfl) (by kernel_rfl) (by kernel_rfl) (fun _ _ _ h => h) (Or.inl ⟨rfl, ?_⟩) (by assumption) ?_
            rotate_left 1
            · intro w_ hSw; (try dsimp only at hSw); go_simp; (try with_reducible rfl)
            (try simp only [Act.put, List.setIfInBounds_toArray, List.set_cons_zero, List.set_cons_succ])
            refine wpAnyH_take (i := 14) (oi := ⟨_, _, _, _, _, _⟩) (v := ?_) rfl (by kernel_rfl) (by kernel_rfl) (by kernel_rfl) (fun _ _ _ h => h) (Or.inl ⟨rfl, ?_⟩) (by assumption) ?_
            rotate_left 1
            · intro w_ hSw; (try dsimp only at hSw); go_simp; (try with_reducible rfl)
            (try simp only [Act.put, List.setIfInBounds_toArray, List.set_cons_zero, List.set_cons_succ])
            refine wpAnyH_ready (rs := [15]) (by kernel_rfl) (by simp) ?_
            refine (AllReadyH.cons (o := ⟨_, _, _, _, _, _⟩) rfl (fun K hK => ?_) AllReadyH.nil)
            go_simp
            refine hK.out _ _ ?_ (fun hHeld => ?_)
            · exact (qt_cells HQ4.out.box).2.2.1
            clear hK K
            (try simp only [Act.put, List.setIfInBounds_toArray, List.set_cons_zero, List.set_cons_succ])
            refine wpAnyH_done (by kernel_rfl) ?_ _
            refine NoPanic.normal ?_
            have HQ5 : Hid (QtS (w4.setCell ⟨Q, 11, none⟩ (.slice (some ⟨g4, 0, none⟩) (k + 1) cap4)) A Q (z : Int) ao n c f (k + 1) (k + 1) (.slice (some ⟨g1, 0, none⟩) t1 c1) (.slice (some ⟨g4, 0, none⟩) (k + 1) cap4)) := HQ4.out
            have HB5 : Hid (Below w.heap.size w (w4.setCell ⟨Q, 11, none⟩ (.slice (some ⟨g4, 0, none⟩) (k + 1) cap4))) := HB4.out.setCell (by show w.heap.size ≤ Q; omega) _
            clear HQ4 HB4 HBx4 hHeld
            go_wp2_with fail
            go_roundw
            case rel => exact ⟨k + 1, _, _, by omega, by go_num, HQ5, HB5⟩
            case measure => simp [intOf]; omega
      · have HQs : Hid (QtS wr A Q (z : Int) ao n c f (k + 1) k va vb) := HQk.out.more (leP_no hfk)
        have hne : (((k : Int)) == f k) = false := by
          rw [beq_eq_false_iff_ne]; exact fun e => hfk e.symm
        obtain ⟨wi, hwi⟩ : ∃ wi, wi = wr := ⟨_, rfl⟩
        rw [← hwi] at HQs HBr ek ⊢
        have HBi := HBr
        clear hwi HBr HQk
        have hle := HQs.out.les
        have hmem : f k ∈ leP f (k + 1) := leP_mem.2 ⟨(f k).toNat, by omega, by rw [hff]; omega, by omega⟩
        obtain ⟨t0, ht0⟩ : ∃ t0, (leP f (k + 1)).length = t0 + 1 := ⟨(leP f (k + 1)).length - 1, by have := List.length_pos_of_mem hmem; omega⟩
        rw [ht0] at hle
        obtain ⟨g1, c1, rfl⟩ := ownsRow_succ hle
        obtain ⟨t1, ht1⟩ : ∃ t1, t0 + 1 = t1 := ⟨_, rfl⟩
        rw [ht1] at hle ht0
        have ht1p : 0 < t1 := by omega
        rw [ht1] at HQs
        have hl8 := leP_len f (k + 1)
        have hIx := fun (W : World) (hW : Below wi.heap.size wi W) => place_impl (Q + 1) wi.heap.size g1 0 t1 c1 (leP f (k + 1)) (f k) W ((IView.of_owns hle (Nat.le_refl _)).kept (Kept.of_below hW (Nat.le_refl _))) ht1p (by omega)
        obtain ⟨u, hu⟩ : ∃ u, plI (leP f (k + 1)) (f k) = u := ⟨_, rfl⟩
        have HU : Hid (naI f k = u) := hu
        rw [hu] at hIx
        have HIx := Lib.hid hIx
        have s10 : wi.cell? ⟨Q, 10, none⟩ = some (.slice (some ⟨g1, 0, none⟩) t1 c1) := (qt_cells HQs.out.box).2.2.1
        have s11 : wi.cell? ⟨Q, 11, none⟩ = some vb := (qt_cells HQs.out.box).2.2.2.1
        clear hle hmem ht1 hl8 hIx hu hff ht0
        go_wp2_with fail
        refine wp_region_noPanic ?_
        refine wp_region_held_drew (S := fun W_ => W_.cell? ⟨Q, 10, none⟩ = some (.slice (some ⟨g1, 0, none⟩) t1 c1)) (by kernel_rfl) ?_ (fun hHeld => ?_)
        · exact s10
        refine wpAnyH_take (i := 0) (oi := ⟨_, _, _, _, _, _⟩) (v := ?_) rfl (by kernel_rfl) (by kernel_rfl) (by kernel_rfl) (fun _ _ _ h => h) (Or.inl ⟨rfl, ?_⟩) (by assumption) ?_
        rotate_left 1
        · intro w_ hSw; (try dsimp only at hSw); go_simp; (try with_reducible rfl)
        (try simp only [Act.put, List.setIfInBounds_toArray, List.set_cons_zero, List.set_cons_succ])
        refine wpAnyH_take (i := 1) (oi := ⟨_, _, _, _, _, _⟩) (v := ?_) rfl (by kernel_rfl) (by kernel_rfl) (by kernel_rfl) (fun _ _ _ h => h) (Or.inl ⟨rfl, ?_⟩) (by assumption) ?_
        rotate_left 1
        · intro w_ hSw; (try dsimp only at hSw); go_simp; (try with_reducible rfl)
        (try simp only [Act.put, List.setIfInBounds_toArray, List.set_cons_zero, List.set_cons_succ])
        refine wpAnyH_take (i := 2) (oi := ⟨_, _, _, _, _, _⟩) (v := ?_) rfl (by kernel_rfl) (by kernel_rfl) (by kernel_rfl) (fun _ _ _ h => h) (Or.inl ⟨rfl, ?_⟩) (by assumption) ?_
        rotate_left 1
        · intro w_ hSw; (try dsimp only at hSw); go_simp; (try with_reducible rfl)
        (try simp only [Act.put, List.setIfInBounds_toArray, List.set_cons_zero, List.set_cons_succ])
        refine wpAnyH_take (i := 3) (oi := ⟨_, _, _, _, _, _⟩) (v := ?_) rfl (by kernel_rfl) (by kernel_rfl) (by kernel_rfl) (fun _ _ _ h => h) (Or.inl ⟨rfl, ?_⟩) (by assumption) ?_
        rotate_left 1
        · intro w_ hSw; (try dsimp only at hSw); go_simp; (try with_reducible rfl)
        (try simp only [Act.put, List.setIfInBounds_toArray, List.set_cons_zero, List.set_cons_succ])
        refine wpAnyH_take (i := 5) (oi := ⟨_, _, _, _, _, _⟩) (v := ?_) rfl (by kernel_rfl) (by kernel_rfl) (by kernel_rfl) (fun _ _ _ h => h) (Or.inl ⟨rfl, ?_⟩) (by assumption) ?_
        rotate_left 1
        · intro w_ hSw; (try dsimp only at hSw); go_simp; (try with_reducible rfl)
        (try simp only [Act.put, List.setIfInBounds_toArray, List.set_cons_zero, List.set_cons_succ])
        refine wpAnyH_take (i := 6) (oi := ⟨_, _, _, _, _, _⟩) (v := ?_) rfl (by kernel_rfl) (by kernel_rfl) (by kernel_rfl) (fun _ _ _ h => h) (Or.inl ⟨rfl, ?_⟩) (by assumption) ?_
        rotate_left 1
        · intro w_ hSw; (try dsimp only at hSw); go_simp; (try with_reducible rfl)
        (try simp only [Act.put, List.setIfInBounds_toArray, List.set_cons_zero, List.set_cons_succ])
        refine wpAnyH_take (i := 7) (oi := ⟨_, _, _, _, _, _⟩) (v := ?_) rfl (by kernel_rfl) (by kernel_rfl) (by kernel_rfl) (fun _ _ _ h => h) (Or.inl ⟨rfl, ?_⟩) (by assumption) ?_
        rotate_left 1
        · intro w_ hSw; (try dsimp only at hSw); go_simp; (try with_reducible rfl)
        (try simp only [Act.put, List.setIfInBounds_toArray, List.set_cons_zero, List.set_cons_succ])
        refine wpAnyH_take (i := 8) (oi := ⟨_, _, _, _, _, _⟩) (v := ?_) rfl (by kernel_rfl) (by kernel_rfl) (by kernel_rfl) (fun _ _ _ h => h) (Or.inl ⟨rfl, ?_⟩) (by assumption) ?_
        rotate_left 1
        · intro w_ hSw; (try dsimp only at hSw); go_simp; (try with_reducible rfl)
        (try simp only [Act.put, List.setIfInBounds_toArray, List.set_cons_zero, List.set_cons_succ])
        refine wpAnyH_take (i := 9) (oi := ⟨_, _, _, _, _, _⟩) (v := ?_) rfl (by kernel_rfl) (by kernel_rfl) (by kernel_rfl) (fun _ _ _ h => h) (Or.inl ⟨rfl, ?_⟩) (by assumption) ?_
        rotate_left 1
        · intro w_ hSw; (try dsimp only at hSw); go_simp; (try with_reducible rfl)
        (try simp only [Act.put, List.setIfInBounds_toArray, List.set_cons_zero, List.set_cons_succ])
        refine wpAnyH_ready (rs := [4, 10]) (by kernel_rfl) (by simp) ?_
        refine (AllReadyH.cons (o := ⟨_, _, _, _, _, _⟩) rfl (fun K hK => ?_) (AllReadyH.cons (o := ⟨_, _, _, _, _, _⟩) rfl (fun K hK => ?_) AllReadyH.nil))
        · go_simp
          refine hK.out _ _ ?_ (fun hHeld => ?_)
          · exact s10
          clear hK K
          (try simp only [Act.put, List.setIfInBounds_toArray, List.set_cons_zero, List.set_cons_succ])
          refine wpAnyH_ready (rs := [10]) (by kernel_rfl) (by simp) ?_
          refine (AllReadyH.cons (o := ⟨_, _, _, _, _, _⟩) rfl (fun K hK => ?_) AllReadyH.nil)
          go_simp
          go_at_call 63
          refine (HIx.out _ (below_drew _)).mono ?_
          rintro e_ w_ ⟨rfl, rfl⟩
          refine hK.out _ _ ?_ (fun hHeld => ?_)
          · exact s10
          clear hK K
          (try simp only [Act.put, List.setIfInBounds_toArray, List.set_cons_zero, List.set_cons_succ])
          refine wpAnyH_ready (rs := [11]) (by kernel_rfl) (by simp) ?_
          refine (AllReadyH.cons (o := ⟨_, _, _, _, _, _⟩) rfl (fun K hK => ?_) AllReadyH.nil)
          go_simp
          refine hK.out _ _ ?_ (fun hHeld => ?_)
          · exact cell_b ((below_alloc _ _).drew) s10
          clear hK K
          (try simp only [Act.put, List.setIfInBounds_toArray, List.set_cons_zero, List.set_cons_succ])
          refine wpAnyH_ready (rs := [12]) (by kernel_rfl) (by simp) ?_
          refine (AllReadyH.cons (o := ⟨_, _, _, _, _, _⟩) rfl (fun K hK => ?_) AllReadyH.nil)
          refine step_append_lies _ rfl _ _ _ rfl (Q + 1) 3 j0 _ 1 8 Try.underlying25 hj0 hy0 hy1 hy2 rfl (by decide) vb k ((lstP k (naI f)).map (Value.int .i64)) rfl (World.ownsRow.alloc (show wi.drew.ownsRow _ _ _ _ _ _ from HQs.out.nat) _) ⟨wi.drew.heap.size, 0, none⟩ 1 1 [.int .i64 u] rfl rfl (cell_one_new _ _ _) (by simp [Value.oneCell']) (by decide) (by unfold maxLen; omega) (by omega) (by have h_ := HQs.out.lt; show Q + 1 ≤ (wi.drew.alloc _).heap.size; simp; omega) _ rfl ?_
          intro g4 cap4 w4 hown4 hgrow4 hat4 hlt4
          have HQ4 := Lib.hid (HQs.out.natPut (k' := k + 1) (v' := .slice (some ⟨g4, 0, none⟩) (k + 1) cap4) hAQ (by rw [lstP_succ, List.map_append, HU.out]; exact hown4) hgrow4 (by rcases hat4 with h | h; exact .inl h.symm; exact .inr (by rw [h]; rfl)))
          have HB4 : Hid (Below w.heap.size w w4) := ((HBi.out.drew).alloc HBi.out.size _).grown hgrow4 (by have := HBi.out.size; show w.heap.size ≤ (wi.drew.alloc _).heap.size; simp; omega) (fun b hb => by have h_ := (HQs.out.nat.lt b hb).1; omega)
          have HBx4 : Hid (w4.heap[Q]? = some (.cells (qtArr (z : Int) ao n c f (.slice (some ⟨g1, 0, none⟩) t1 c1) vb) 76 (0, 0))) := HQs.out.boxGrown hgrow4
          have d11 := (qt_cells HBx4.out).2.2.2.1
          have f11 := (qt_cells HBx4.out).2.2.2.2 11
          clear hown4 hgrow4 hat4
          refine hK.out _ _ ?_ (fun hHeld => ?_)
          · exact (qt_cells HBx4.out).2.2.1
          clear hK K
          (try simp only [Act.put, List.setIfInBounds_toArray, List.set_cons_zero, List.set_cons_succ])
          refine wpAnyH_take (i := 13) (oi := ⟨_, _, _, _, _, _⟩) (v := ?_) rfl (by kernel_rfl) (by kernel_rfl) (by kernel_rfl) (fun _ _ _ h => h) (Or.inl ⟨rfl, ?_⟩) (by assumption) ?_
          rotate_left 1
          · intro w_ hSw; (try dsimp only at hSw); go_simp; (try with_reducible rfl)
          (try simp only [Act.put, List.setIfInBounds_toArray, List.set_cons_zero, List.set_cons_succ])
          refine wpAnyH_take (i := 14) (oi := ⟨_, _, _, _, _, _⟩) (v := ?_) rfl (by kernel_rfl) (by kernel_rfl) (by kernel_rfl) (fun _ _ _ h => h) (Or.inl ⟨rfl, ?_⟩) (by assumption) ?_
          rotate_left 1
          · intro w_ hSw; (try dsimp only at hSw); go_simp; (try with_reducible rfl)
          (try simp only [Act.put, List.setIfInBounds_toArray, List.set_cons_zero, List.set_cons_succ])
          refine wpAnyH_ready (rs := [15]) (by kernel_rfl) (by simp) ?_
          refine (AllReadyH.cons (o := ⟨_, _, _, _, _, _⟩) rfl (fun K hK => ?_) AllReadyH.nil)
          go_simp
          refine hK.out _ _ ?_ (fun hHeld => ?_)
          · exact (qt_cells HQ4.out.box).2.2.1
          clear hK K
          (try simp only [Act.put, List.setIfInBounds_toArray, List.set_cons_zero, List.set_cons_succ])
          refine wpAnyH_done (by kernel_rfl) ?_ _
          refine NoPanic.normal ?_
          have HQ5 : Hid (QtS (w4.setCell ⟨Q, 11, none⟩ (.slice (some ⟨g4, 0, none⟩) (k + 1) cap4)) A Q (z : Int) ao n c f (k + 1) (k + 1) (.slice (some ⟨g1, 0, none⟩) t1 c1) (.slice (some ⟨g4, 0, none⟩) (k + 1) cap4)) := HQ4.out
          have HB5 : Hid (Below w.heap.size w (w4.setCell ⟨Q, 11, none⟩ (.slice (some ⟨g4, 0, none⟩) (k + 1) cap4))) := HB4.out.setCell (by show w.heap.size ≤ Q; omega) _
          clear HQ4 HB4 HBx4 hHeld
          go_wp2_with fail
          go_roundw
          case rel => exact ⟨k + 1, _, _, by omega, by go_num, HQ5, HB5⟩
          case measure => simp [intOf]; omega
        · go_simp
          go_at_call 63
          refine (HIx.out _ (below_drew _)).mono ?_
          rintro e_ w_ ⟨rfl, rfl⟩
          refine hK.out _ _ ?_ (fun hHeld => ?_)
          · exact s10
          clear hK K
          (try simp only [Act.put, List.setIfInBounds_toArray, List.set_cons_zero, List.set_cons_succ])
          refine wpAnyH_ready (rs := [4, 11]) (by kernel_rfl) (by simp) ?_
          refine (AllReadyH.cons (o := ⟨_, _, _, _, _, _⟩) rfl (fun K hK => ?_) (AllReadyH.cons (o := ⟨_, _, _, _, _, _⟩) rfl (fun K hK => ?_) AllReadyH.nil))
          · go_simp
            refine hK.out _ _ ?_ (fun hHeld => ?_)
            · exact s10
            clear hK K
            (try simp only [Act.put, List.setIfInBounds_toArray, List.set_cons_zero, List.set_cons_succ])
            refine wpAnyH_ready (rs := [11]) (by kernel_rfl) (by simp) ?_
            refine (AllReadyH.cons (o := ⟨_, _, _, _, _, _⟩) rfl (fun K hK => ?_) AllReadyH.nil)
            go_simp
            refine hK.out _ _ ?_ (fun hHeld => ?_)
            · exact cell_b ((below_alloc _ _).drew) s10
            clear hK K
            (try simp only [Act.put, List.setIfInBounds_toArray, List.set_cons_zero, List.set_cons_succ])
            refine wpAnyH_ready (rs := [12]) (by kernel_rfl) (by simp) ?_
            refine (AllReadyH.cons (o := ⟨_, _, _, _, _, _⟩) rfl (fun K hK => ?_) AllReadyH.nil)
            refine step_append_lies _ rfl _ _ _ rfl (Q + 1) 3 j0 _ 1 8 Try.underlying25 hj0 hy0 hy1 hy2 rfl (by decide) vb k ((lstP k (naI f)).map (Value.int .i64)) rfl (World.ownsRow.alloc (show wi.drew.ownsRow _ _ _ _ _ _ from HQs.out.nat) _) ⟨wi.drew.heap.size, 0, none⟩ 1 1 [.int .i64 u] rfl rfl (cell_one_new _ _ _) (by simp [Value.oneCell']) (by decide) (by unfold maxLen; omega) (by omega) (by have h_ := HQs.out.lt; show Q + 1 ≤ (wi.drew.alloc _).heap.size; simp; omega) _ rfl ?_
            intro g4 cap4 w4 hown4 hgrow4 hat4 hlt4
            have HQ4 := Lib.hid (HQs.out.natPut (k' := k + 1) (v' := .slice (some ⟨g4, 0, none⟩) (k + 1) cap4) hAQ (by rw [lstP_succ, List.map_append, HU.out]; exact hown4) hgrow4 (by rcases hat4 with h | h; exact .inl h.symm; exact .inr (by rw [h]; rfl)))
            have HB4 : Hid (Below w.heap.size w w4) := ((HBi.out.drew).alloc HBi.out.size _).grown hgrow4 (by have := HBi.out.size; show w.heap.size ≤ (wi.drew.alloc _).heap.size; simp; omega) (fun b hb => by have h_ := (HQs.out.nat.lt b hb).1; omega)
            have HBx4 : Hid (w4.heap[Q]? = some (.cells (qtArr (z : Int) ao n c f (.slice (some ⟨g1, 0, none⟩) t1 c1) vb) 76 (0, 0))) := HQs.out.boxGrown hgrow4
            have d11 := (qt_cells HBx4.out).2.2.2.1
            have f11 := (qt_cells HBx4.out).2.2.2.2 11
            clear hown4 hgrow4 hat4
            refine hK.out _ _ ?_ (fun hHeld => ?_)
            · exact (qt_cells HBx4.out).2.2.1
            clear hK K
            (try simp only [Act.put, List.setIfInBounds_toArray, List.set_cons_zero, List.set_cons_succ])
            refine wpAnyH_take (i := 13) (oi := ⟨_, _, _, _, _, _⟩) (v := ?_) rfl (by kernel_rfl) (by kernel_rfl) (by kernel_rfl) (fun _ _ _ h => h) (Or.inl ⟨rfl, ?_⟩) (by assumption) ?_
            rotate_left 1
            · intro w_ hSw; (try dsimp only at hSw); go_simp; (try with_reducible rfl)
            (try simp only [Act.put, List.setIfInBounds_toArray, List.set_cons_zero, List.set_cons_succ])
            refine wpAnyH_take (i := 14) (oi := ⟨_, _, _, _, _, _⟩) (v := ?_) rfl (by kernel_rfl) (by kernel_rfl) (by kernel_rfl) (fun _ _ _ h => h) (Or.inl ⟨rfl, ?_⟩) (by assumption) ?_
            rotate_left 1
            · intro w_ hSw; (try dsimp only at hSw); go_simp; (try with_reducible rfl)
            (try simp only [Act.put, List.setIfInBounds_toArray, List.set_cons_zero, List.set_cons_succ])
            refine wpAnyH_ready (rs := [15]) (by kernel_rfl) (by simp) ?_
            refine (AllReadyH.cons (o := ⟨_, _, _, _, _, _⟩) rfl (fun K hK => ?_) AllReadyH.nil)
            go_simp
            refine hK.out _ _ ?_ (fun hHeld => ?_)
            · exact (qt_cells HQ4.out.box).2.2.1
            clear hK K
            (try simp only [Act.put, List.setIfInBounds_toArray, List.set_cons_zero, List.set_cons_succ])
            refine wpAnyH_done (by kernel_rfl) ?_ _
            refine NoPanic.normal ?_
            have HQ5 : Hid (QtS (w4.setCell ⟨Q, 11, none⟩ (.slice (some ⟨g4, 0, none⟩) (k + 1) cap4)) A Q (z : Int) ao n c f (k + 1) (k + 1) (.slice (some ⟨g1, 0, none⟩) t1 c1) (.slice (some ⟨g4, 0, none⟩) (k + 1) cap4)) := HQ4.out
            have HB5 : Hid (Below w.heap.size w (w4.setCell ⟨Q, 11, none⟩ (.slice (some ⟨g4, 0, none⟩) (k + 1) cap4))) := HB4.out.setCell (by show w.heap.size ≤ Q; omega) _
            clear HQ4 HB4 HBx4 hHeld
            go_wp2_with fail
            go_roundw
            case rel => exact ⟨k + 1, _, _, by omega, by go_num, HQ5, HB5⟩
            case measure => simp [intOf]; omega
          · go_simp
            refine hK.out _ _ ?_ (fun hHeld => ?_)
            · exact cell_b ((below_alloc _ _).drew) s10
            clear hK K
            (try simp only [Act.put, List.setIfInBounds_toArray, List.set_cons_zero, List.set_cons_succ])
            refine wpAnyH_ready (rs := [4]) (by kernel_rfl) (by simp) ?_
            refine (AllReadyH.cons (o := ⟨_, _, _, _, _, _⟩) rfl (fun K hK => ?_) AllReadyH.nil)
            have s11b : ((wi.alloc (.cells #[.int .i64 u] 3)).drew).cell? ⟨Q, 11, none⟩ = some vb := cell_b ((below_alloc _ _).drew) s11
            go_simp
            refine hK.out _ _ ?_ (fun hHeld => ?_)
            · exact cell_b ((below_alloc _ _).drew) s10
            clear hK K
            (try simp only [Act.put, List.setIfInBounds_toArray, List.set_cons_zero, List.set_cons_succ])
            refine wpAnyH_ready (rs := [12]) (by kernel_rfl) (by simp) ?_
            refine (AllReadyH.cons (o := ⟨_, _, _, _, _, _⟩) rfl (fun K hK => ?_) AllReadyH.nil)
            refine step_append_lies _ rfl _ _ _ rfl (Q + 1) 3 j0 _ 1 8 Try.underlying25 hj0 hy0 hy1 hy2 rfl (by decide) vb k ((lstP k (naI f)).map (Value.int .i64)) rfl (World.ownsRow.alloc (show wi.drew.ownsRow _ _ _ _ _ _ from HQs.out.nat) _) ⟨wi.drew.heap.size, 0, none⟩ 1 1 [.int .i64 u] rfl rfl (cell_one_new _ _ _) (by simp [Value.oneCell']) (by decide) (by unfold maxLen; omega) (by omega) (by have h_ := HQs.out.lt; show Q + 1 ≤ (wi.drew.alloc _).heap.size; simp; omega) _ rfl ?_
            intro g4 cap4 w4 hown4 hgrow4 hat4 hlt4
            have HQ4 := Lib.hid (HQs.out.natPut (k' := k + 1) (v' := .slice (some ⟨g4, 0, none⟩) (k + 1) cap4) hAQ (by rw [lstP_succ, List.map_append, HU.out]; exact hown4) hgrow4 (by rcases hat4 with h | h; exact .inl h.symm; exact .inr (by rw [h]; rfl)))
            have HB4 : Hid (Below w.heap.size w w4) := ((HBi.out.drew).alloc HBi.out.size _).grown hgrow4 (by have := HBi.out.size; show w.heap.size ≤ (wi.drew.alloc _).heap.size; simp; omega) (fun b hb => by have h_ := (HQs.out.nat.lt b hb).1; omega)
            have HBx4 : Hid (w4.heap[Q]? = some (.cells (qtArr (z : Int) ao n c f (.slice (some ⟨g1, 0, none⟩) t1 c1) vb) 76 (0, 0))) := HQs.out.boxGrown hgrow4
            have d11 := (qt_cells HBx4.out).2.2.2.1
            have f11 := (qt_cells HBx4.out).2.2.2.2 11
            clear hown4 hgrow4 hat4
            refine hK.out _ _ ?_ (fun hHeld => ?_)
            · exact (qt_cells HBx4.out).2.2.1
            clear hK K
            (try simp only [Act.put, List.setIfInBounds_toArray, List.set_cons_zero, List.set_cons_succ])
            refine wpAnyH_take (i := 13) (oi := ⟨_, _, _, _, _, _⟩) (v := ?_) rfl (by kernel_rfl) (by kernel_rfl) (by kernel_rfl) (fun _ _ _ h => h) (Or.inl ⟨rfl, ?_⟩) (by assumption) ?_
            rotate_left 1
            · intro w_ hSw; (try dsimp only at hSw); go_simp; (try with_reducible rfl)
            (try simp only [Act.put, List.setIfInBounds_toArray, List.set_cons_zero, List.set_cons_succ])
            refine wpAnyH_take (i := 14) (oi := ⟨_, _, _, _, _, _⟩) (v := ?_) rfl (by kernel_rfl) (by kernel_rfl) (by kernel_rfl) (fun _ _ _ h => h) (Or.inl ⟨rfl, ?_⟩) (by assumption) ?_
            rotate_left 1
            · intro w_ hSw; (try dsimp only at hSw); go_simp; (try with_reducible rfl)
            (try simp only [Act.put, List.setIfInBounds_toArray, List.set_cons_zero, List.set_cons_succ])
            refine wpAnyH_ready (rs := [15]) (by kernel_rfl) (by simp) ?_
            refine (AllReadyH.cons (o := ⟨_, _, _, _, _, _⟩) rfl (fun K hK => ?_) AllReadyH.nil)
            go_simp
            refine hK.out _ _ ?_ (fun hHeld => ?_)
            · exact (qt_cells HQ4.out.box).2.2.1
            clear hK K
            (try simp only [Act.put, List.setIfInBounds_toArray, List.set_cons_zero, List.set_cons_succ])
            refine wpAnyH_done (by kernel_rfl) ?_ _
            refine NoPanic.normal ?_
            have HQ5 : Hid (QtS (w4.setCell ⟨Q, 11, none⟩ (.slice (some ⟨g4, 0, none⟩) (k + 1) cap4)) A Q (z : Int) ao n c f (k + 1) (k + 1) (.slice (some ⟨g1, 0, none⟩) t1 c1) (.slice (some ⟨g4, 0, none⟩) (k + 1) cap4)) := HQ4.out
            have HB5 : Hid (Below w.heap.size w (w4.setCell ⟨Q, 11, none⟩ (.slice (some ⟨g4, 0, none⟩) (k + 1) cap4))) := HB4.out.setCell (by show w.heap.size ≤ Q; omega) _
            clear HQ4 HB4 HBx4 hHeld
            go_wp2_with fail
            go_roundw
            case rel => exact ⟨k + 1, _, _, by omega, by go_num, HQ5, HB5⟩
            case measure => simp [intOf]; omega
    · have hkn : ¬ (k : Int) < (z : Int) := by omega
      obtain rfl : k = z := by omega
      go_wp2_with fail
      go_ret
      exact ⟨va, vb, by rw [HQe.out]; rfl, by rw [← HQe.out, ← HAe.out]; exact HQk.out, HBr.out⟩
end

section
open Go.RowKit
set_option linter.unusedVariables false
set_option linter.unusedSimpArgs false

theorem okAll_ext {xs : List Int} {n : Nat} (hl : xs.length = n) (h : okAll (gI xs) n = true) : okAll (extP xs) n = true := by
  unfold okAll at h ⊢
  rw [List.all_eq_true] at h ⊢
  intro x hx
  have hx' := List.mem_range.1 hx
  have h1 := h x hx
  obtain ⟨⟨h2, h3⟩, h4⟩ := okP_of h1
  unfold okP at h1 ⊢
  rw [extP_lt (by omega), extP_lt (k := (gI xs x).toNat) (by omega)]
  exact h1

/-- What quotientOf gives. -/
def ResQ (w w' : World) (b : Bool) (z : Int) (ao : Option Addr) (n c : Nat) (xs : List Int) (e : Ending) : Prop :=
  Below w.heap.size w w' ∧ if b = true then ∃ (A Q : Nat) (va vb : Value), e = .returned (.pointer (some ⟨Q, 0, none⟩)) ∧ w.heap.size ≤ A ∧ A < Q ∧ QtS w' A Q z ao n c (extP xs) z.toNat z.toNat va vb else e = .returned (.pointer none)

set_option maxHeartbeats 2000000 in
set_option maxRecDepth 100000 in
theorem quotOf_any (lo hi : Nat) (z : Int) (ao : Option Addr) (c n : Nat) (fs : List OpD) (lo2 hi2 : Nat) (bo : Option Addr) (d m : Nat) (xs : List Int) (w : World) (hv : OView w lo hi ao n fs) (hhi : hi ≤ w.heap.size) (hs : ∀ (j : Nat) (f : OpD), fs[j]? = some f → f.2.length ≤ maxLen)
    (hx : IView w lo2 hi2 bo m xs) (hhi2 : hi2 ≤ w.heap.size) (hm : m ≤ maxLen) :
    Calls Try.prog 73 #[.agg #[.int .i64 z, .slice ao n c], .slice bo m d] w fun e w' => ResQ w w' (cngB z fs xs) z ao n c xs e := by
  have hB := below_alloc w (.cells #[.int .i64 z, .slice ao n c] 31)
  have HB0 := Lib.hid hB
  have HC := Lib.hid (fun (W : World) (hW : Below w.heap.size w W) => congOf_any lo hi z ao c n fs lo2 hi2 bo d m xs W (hv.kept (Kept.of_below hW hhi)) (Nat.le_trans hhi hW.size) hs (hx.kept (Kept.of_below hW hhi2)) (Nat.le_trans hhi2 hW.size) hm)
  have hX0 : (w.alloc (.cells #[.int .i64 z, .slice ao n c] 31)).heap[w.heap.size]? = some (.cells #[.int .i64 z, .slice ao n c] 31 (0, 0)) := heap_alloc_new _ _
  have HX0 := Lib.hid hX0
  obtain ⟨cz0, ca0, _⟩ := box_cells hX0
  unfold ResP at HC
  unfold ResQ
  cases hb : cngB z fs xs with
  | false =>
    obtain ⟨g, hg⟩ : ∃ g, parF false xs = g := ⟨_, rfl⟩
    simp only [hb, hg] at HC
    simp only [Bool.false_eq_true, if_false]
    clear hv hx hs hm hB hX0 hb hg
    go_enter Try.func73, Try.ntmps73
    go_wp2_with fail
    refine (HC.out _ HB0.out).mono ?_
    rintro e w1 ⟨rfl, b1⟩
    have HB1 := Lib.hid (HB0.out.trans (b1.mono HB0.out.size))
    have HX1 := Lib.hid ((b1.block w.heap.size (by simp)).trans HX0.out)
    obtain ⟨cz, ca, _⟩ := box_cells HX1.out
    have HA1 := Lib.hid (ArrAt.new w1 fun _ => 0)
    have hz1_ : w.heap.size < w1.heap.size := (Array.getElem?_eq_some_iff.1 HX1.out).1
    clear b1 cz0 ca0
    obtain ⟨w3, hw3⟩ : ∃ w3, w3 = (w1.alloc (.cells (arrV fun _ => 0) 70)).setRow w1.heap.size (arrV g) := ⟨_, rfl⟩
    have HA3 : Hid (ArrAt w3 w1.heap.size g) := by unfold Hid; rw [hw3]; exact HA1.out.setRow
    have HB3 : Hid (Below w.heap.size w w3) := by unfold Hid; rw [hw3]; exact below_setRow (below_then HB1.out (below_alloc w1 _)) (by omega) _
    have HX3 : Hid (w3.heap[w.heap.size]? = some (.cells #[.int .i64 z, .slice ao n c] 31 (0, 0))) := by
      unfold Hid; rw [hw3]
      exact ((below_setRow (below_alloc w1 (.cells (arrV fun _ => 0) 70)) (Nat.le_refl _) (arrV g)).block _ (by omega)).trans HX1.out
    have HW3 := Lib.hid hw3
    clear hw3 cz ca
    obtain ⟨cz, ca, _⟩ := box_cells HX3.out
    go_wp2_with (refine st8 (w := w1.alloc (.cells (arrV fun _ => 0) 70)) HA1.out rfl _ _ rfl rfl rfl ?_; rw [← HW3.out])
    go_ret
    exact ⟨HB3.out, rfl⟩
  | true =>
    obtain ⟨hok, hpt, _⟩ := cngB_of hb
    obtain ⟨⟨z1, z8⟩, _, _⟩ := algOkB_of hok
    obtain ⟨zn, rfl⟩ : ∃ zn : Nat, z = (zn : Int) := ⟨z.toNat, by omega⟩
    obtain ⟨g, hg⟩ : ∃ g, extP xs = g := ⟨_, rfl⟩
    rw [hb, parF_yes, hg] at HC
    simp only [if_true, hg]
    have hlz : xs.length = zn := by have := (partB_of hpt).1; omega
    have hoA : okAll g zn = true := by rw [← hg]; exact okAll_ext hlz (by have := (partB_of hpt).2; rwa [hlz] at this)
    have HQ := Lib.hid (fun (W : World) => quotBy_any zn ao c n g W (by omega) (by omega) hoA)
    unfold NewQt at HQ
    clear hv hx hs hm hB hX0 hb hg hok hpt z1 z8 hlz hoA
    go_enter Try.func73, Try.ntmps73
    go_wp2_with fail
    refine (HC.out _ HB0.out).mono ?_
    rintro e w1 ⟨rfl, b1⟩
    have HB1 := Lib.hid (HB0.out.trans (b1.mono HB0.out.size))
    have HX1 := Lib.hid ((b1.block w.heap.size (by simp)).trans HX0.out)
    obtain ⟨cz, ca, _⟩ := box_cells HX1.out
    have HA1 := Lib.hid (ArrAt.new w1 fun _ => 0)
    have hz1_ : w.heap.size < w1.heap.size := (Array.getElem?_eq_some_iff.1 HX1.out).1
    clear b1 cz0 ca0
    obtain ⟨w3, hw3⟩ : ∃ w3, w3 = (w1.alloc (.cells (arrV fun _ => 0) 70)).setRow w1.heap.size (arrV g) := ⟨_, rfl⟩
    have HA3 : Hid (ArrAt w3 w1.heap.size g) := by unfold Hid; rw [hw3]; exact HA1.out.setRow
    have HB3 : Hid (Below w.heap.size w w3) := by unfold Hid; rw [hw3]; exact below_setRow (below_then HB1.out (below_alloc w1 _)) (by omega) _
    have HX3 : Hid (w3.heap[w.heap.size]? = some (.cells #[.int .i64 (zn : Int), .slice ao n c] 31 (0, 0))) := by
      unfold Hid; rw [hw3]
      exact ((below_setRow (below_alloc w1 (.cells (arrV fun _ => 0) 70)) (Nat.le_refl _) (arrV g)).block _ (by omega)).trans HX1.out
    have HW3 := Lib.hid hw3
    clear hw3 cz ca
    obtain ⟨cz, ca, _⟩ := box_cells HX3.out
    go_wp2_with (first | (refine st8 (w := w1.alloc (.cells (arrV fun _ => 0) 70)) HA1.out rfl _ _ rfl rfl rfl ?_; rw [← HW3.out]) | (refine ld8 HA3.out rfl _ rfl rfl ?_))
    refine (HQ.out _).mono ?_
    rintro e w4 ⟨va, vb, rfl, hq4, b4⟩
    have HB4 := Lib.hid (HB3.out.trans (b4.mono HB3.out.size))
    have HQ4 := Lib.hid hq4
    have hsz := HB3.out.size
    clear b4 hq4
    go_wp2_with fail
    go_ret
    exact ⟨HB4.out, w3.heap.size + 1, w3.heap.size + 1 + 1, va, vb, rfl, by omega, by omega, by rw [Int.toNat_natCast]; exact HQ4.out⟩

def valNaturalMap (z : Int) (fs : List OpD) (xs : List Int) : List Int × Bool := if cngB z fs xs = true then (lstP z.toNat (naI (gI xs)), true) else ([], false)
theorem smallNaturalMap (z : Int) (fs : List OpD) (xs : List Int) : (valNaturalMap z fs xs).1.length ≤ 4194304 := by
  unfold valNaturalMap
  split
  · rename_i h
    have := (algOkB_of (cngB_of h).1).1
    simp only [lstP_len]; omega
  · simp
theorem na_ext {z : Int} {fs : List OpD} {xs : List Int} (h : cngB z fs xs = true) : lstP z.toNat (naI (extP xs)) = lstP z.toNat (naI (gI xs)) := by
  have := (partB_of (cngB_of h).2.1).1
  exact lstP_congr fun x hx => naI_congr fun y hy => extP_lt (by omega)

set_option maxHeartbeats 1000000 in
theorem implNaturalMap (lo hi : Nat) (z : Int) (ao : Option Addr) (c n : Nat) (fs : List OpD) (lo2 hi2 : Nat) (bo : Option Addr) (d m : Nat) (xs : List Int) (w : World) (hv : OView w lo hi ao n fs) (hhi : hi ≤ w.heap.size) (hs : ∀ (j : Nat) (f : OpD), fs[j]? = some f → f.2.length ≤ maxLen)
    (hx : IView w lo2 hi2 bo m xs) (hhi2 : hi2 ≤ w.heap.size) (hm : m ≤ maxLen) :
    Calls Try.prog 33 #[.agg #[.int .i64 z, .slice ao n c], .slice bo m d] w fun e w' => ResL w w' (valNaturalMap z fs xs).1 (valNaturalMap z fs xs).2 e := by
  have hB := below_alloc w (.cells #[.int .i64 z, .slice ao n c] 31)
  have HB0 := Lib.hid hB
  have HC := Lib.hid (quotOf_any lo hi z ao c n fs lo2 hi2 bo d m xs _ (hv.kept (Kept.of_below hB hhi)) (Nat.le_trans hhi hB.size) hs (hx.kept (Kept.of_below hB hhi2)) (Nat.le_trans hhi2 hB.size) hm)
  unfold ResQ at HC
  unfold ResL valNaturalMap
  cases hb : cngB z fs xs with
  | false =>
    simp only [hb, Bool.false_eq_true, if_false] at HC
    rw [if_neg (by simp)]
    clear hv hx hs hm hB hb
    go_enter Try.func33, Try.ntmps33
    go_wp2_with fail
    refine HC.out.mono ?_
    rintro e w1 ⟨b1, rfl⟩
    have HB1 := Lib.hid (HB0.out.trans (b1.mono HB0.out.size))
    clear b1
    go_wp2_with fail
    go_ret2
    exact ⟨_, _, _, rfl, rfl, OwnsInts.of_row (World.ownsRow_nil _ _ _ _), HB1.out⟩
  | true =>
    have hne := na_ext hb
    simp only [hb, if_true] at HC
    rw [if_pos rfl, ← hne]
    obtain ⟨zn, hzn⟩ : ∃ zn, z.toNat = zn := ⟨_, rfl⟩
    rw [hzn]
    simp only [hzn] at HC
    clear hv hx hs hm hB hb hne hzn
    go_enter Try.func33, Try.ntmps33
    go_wp2_with fail
    refine HC.out.mono ?_
    rintro e w1 ⟨b1, A, Q, va, vb, rfl, hA, hQ, hq⟩
    obtain ⟨a, cc, rfl⟩ := own_form hq.nat
    have HB1 := Lib.hid (HB0.out.trans (b1.mono HB0.out.size))
    obtain ⟨_, _, _, d11, _⟩ := qt_cells hq.box
    have HO := Lib.hid (ownsRow_base hq.nat (b' := w.heap.size) (by have := HB0.out.size; omega))
    clear b1 hq
    go_wp2_with fail
    go_ret2
    exact ⟨_, _, _, rfl, (lstP_len _ _).symm, OwnsInts.of_row HO.out, HB1.out⟩
end

section
open Go.RowKit
set_option linter.unusedVariables false
set_option linter.unusedSimpArgs false

theorem ixP_get {v : Int} : ∀ {l : List Int}, v ∈ l → l[ixP l v]? = some v
  | [], h => by cases h
  | y :: l, h => by
    rw [ixP]
    by_cases hy : y = v
    · rw [if_pos hy, hy]; rfl
    · rw [if_neg hy, List.getElem?_cons_succ]
      exact ixP_get (by rcases List.mem_cons.1 h with h | h; exact absurd h.symm hy; exact h)
theorem plI_inj {l : List Int} {u v : Int} (hu : u ∈ l) (hv : v ∈ l) (h : plI l u = plI l v) : u = v := by
  unfold plI at h
  rw [if_pos hu, if_pos hv] at h
  have h1 := ixP_get hu
  rw [show ixP l u = ixP l v by omega, ixP_get hv] at h1
  exact (Option.some.inj h1).symm
theorem naI_all {f : Nat → Int} {n x : Nat} (hf : okAll f n = true) (hx : x < n) : f x ∈ leP f n ∧ naI f x = plI (leP f n) (f x) := by
  obtain ⟨⟨h0, h1⟩, h2⟩ := okAll_get hf hx
  have hm : f x ∈ leP f (x + 1) := leP_mem.2 ⟨(f x).toNat, by omega, by rw [h2]; omega, by omega⟩
  obtain ⟨r, hr⟩ := leP_pre f (x + 1) (n - (x + 1))
  rw [show x + 1 + (n - (x + 1)) = n by omega] at hr
  exact ⟨by rw [hr]; exact List.mem_append_left _ hm, by rw [hr, plI_app hm]; rfl⟩
theorem naI_iff {f : Nat → Int} {n x y : Nat} (hf : okAll f n = true) (hx : x < n) (hy : y < n) : naI f x = naI f y ↔ f x = f y := by
  obtain ⟨a1, a2⟩ := naI_all hf hx
  obtain ⟨b1, b2⟩ := naI_all hf hy
  constructor
  · intro h
    rw [a2, b2] at h
    exact plI_inj a1 b1 h
  · intro h
    rw [a2, b2, h]
theorem ixP_map {g h : Int → Int} {a : Int} : ∀ {l : List Int}, (∀ b ∈ l, g b = g a ↔ h b = h a) → ixP (l.map g) (g a) = ixP (l.map h) (h a)
  | [], _ => rfl
  | b :: l, hh => by
    rw [List.map_cons, List.map_cons, ixP, ixP, ixP_map fun c hc => hh c (List.mem_cons_of_mem _ hc)]
    have h1 := hh b List.mem_cons_self
    by_cases hb : g b = g a
    · rw [if_pos hb, if_pos (h1.1 hb)]
    · rw [if_neg hb, if_neg (fun e => hb (h1.2 e))]
/-- Equal values in the one where there are in the other: the same partition. -/
theorem kerL_map {g h : Int → Int} {l : List Int} (hh : ∀ a ∈ l, ∀ b ∈ l, g b = g a ↔ h b = h a) : kerL (l.map g) = kerL (l.map h) := by
  unfold kerL
  rw [List.map_map, List.map_map]
  refine List.map_congr_left fun a ha => ?_
  show plI (l.map g) (g a) = plI (l.map h) (h a)
  unfold plI
  rw [if_pos (List.mem_map.2 ⟨a, ha, rfl⟩), if_pos (List.mem_map.2 ⟨a, ha, rfl⟩), ixP_map fun b hb => hh a ha b hb]
end

section
open Go.RowKit
set_option linter.unusedVariables false
set_option linter.unusedSimpArgs false

theorem QtS.below {W W' : World} {A Q : Nat} {z : Int} {ao : Option Addr} {n c : Nat} {f : Nat → Int} {k1 k : Nat} {va vb : Value} (h : QtS W A Q z ao n c f k1 k va vb) (hb : Below W.heap.size W W') : QtS W' A Q z ao n c f k1 k va vb :=
  ⟨(hb.block Q h.lt).trans h.box, h.arr.below hb h.arr.lt, h.les.kept (grown_of_below hb none) (own_em _), h.nat.kept (grown_of_below hb none) (own_em _), h.ne⟩
theorem qt_range {W : World} {Q : Nat} {z : Int} {ao : Option Addr} {n c : Nat} {f : Nat → Int} {va vb : Value} (h : W.heap[Q]? = some (.cells (qtArr z ao n c f va vb) 76 (0, 0))) : W.rangeAt Q 2 (arrV f).toList := by
  intro j v hv
  have hj : j < 8 := (List.getElem?_eq_some_iff.1 hv).1
  rw [cell_of_row W Q (2 + j) _ _ (0, 0) h]
  rcases below8 hj with rfl | rfl | rfl | rfl | rfl | rfl | rfl | rfl <;> exact hv

def QtV (w w' : World) (b : Bool) (z : Int) (ao : Option Addr) (n c : Nat) (xs : List Int) (pv : Value) : Prop :=
  if b = true then ∃ (A Q : Nat) (va vb : Value), pv = .pointer (some ⟨Q, 0, none⟩) ∧ w.heap.size ≤ A ∧ A < Q ∧ QtS w' A Q z ao n c (extP xs) z.toNat z.toNat va vb else pv = .pointer none
theorem quotOf_pv (lo hi : Nat) (z : Int) (ao : Option Addr) (c n : Nat) (fs : List OpD) (lo2 hi2 : Nat) (bo : Option Addr) (d m : Nat) (xs : List Int) (w : World) (hv : OView w lo hi ao n fs) (hhi : hi ≤ w.heap.size) (hs : ∀ (j : Nat) (f : OpD), fs[j]? = some f → f.2.length ≤ maxLen)
    (hx : IView w lo2 hi2 bo m xs) (hhi2 : hi2 ≤ w.heap.size) (hm : m ≤ maxLen) :
    Calls Try.prog 73 #[.agg #[.int .i64 z, .slice ao n c], .slice bo m d] w fun e w' => ∃ pv, e = .returned pv ∧ Below w.heap.size w w' ∧ QtV w w' (cngB z fs xs) z ao n c xs pv := by
  refine (quotOf_any lo hi z ao c n fs lo2 hi2 bo d m xs w hv hhi hs hx hhi2 hm).mono ?_
  rintro e w' ⟨hb, hr⟩
  unfold QtV
  cases hc : cngB z fs xs with
  | false =>
    simp only [hc, Bool.false_eq_true, if_false] at hr ⊢
    exact ⟨_, hr, hb, rfl⟩
  | true =>
    simp only [hc, if_true] at hr ⊢
    obtain ⟨A, Q, va, vb, he, h1, h2, h3⟩ := hr
    exact ⟨_, he, hb, A, Q, va, vb, rfl, h1, h2, h3⟩

def fcB (z : Int) (fs : List OpD) (xs ys : List Int) : Bool := cngB z fs xs && (cngB z fs ys && finB (gI xs) (gI ys) xs.length)
/-- What finerAndCoarser gives. -/
def ResFC (w w' : World) (b : Bool) (z : Int) (ao : Option Addr) (n c : Nat) (xs ys : List Int) (e : Ending) : Prop :=
  Below w.heap.size w w' ∧ if b = true then ∃ (A1 Q1 A2 Q2 : Nat) (va1 vb1 va2 vb2 : Value), e = .returned (.tuple #[.pointer (some ⟨Q1, 0, none⟩), .pointer (some ⟨Q2, 0, none⟩)]) ∧ (w.heap.size ≤ A1 ∧ A1 < Q1) ∧ (w.heap.size ≤ A2 ∧ A2 < Q2) ∧ QtS w' A1 Q1 z ao n c (extP xs) z.toNat z.toNat va1 vb1 ∧ QtS w' A2 Q2 z ao n c (extP ys) z.toNat z.toNat va2 vb2
    else e = .returned (.tuple #[.pointer none, .pointer none])

set_option maxHeartbeats 8000000 in
set_option maxRecDepth 100000 in
theorem finCo_any (lo hi : Nat) (z : Int) (ao : Option Addr) (c n : Nat) (fs : List OpD) (lo2 hi2 : Nat) (bo : Option Addr) (d m : Nat) (xs : List Int) (lo3 hi3 : Nat) (po : Option Addr) (e_ l : Nat) (ys : List Int) (w : World) (hv : OView w lo hi ao n fs) (hhi : hi ≤ w.heap.size) (hs : ∀ (j : Nat) (f : OpD), fs[j]? = some f → f.2.length ≤ maxLen)
    (hx : IView w lo2 hi2 bo m xs) (hhi2 : hi2 ≤ w.heap.size) (hm : m ≤ maxLen) (hy : IView w lo3 hi3 po l ys) (hhi3 : hi3 ≤ w.heap.size) (hl : l ≤ maxLen) :
    Calls Try.prog 78 #[.agg #[.int .i64 z, .slice ao n c], .slice bo m d, .slice po l e_] w fun e w' => ResFC w w' (fcB z fs xs ys) z ao n c xs ys e := by
  have hB := below_alloc w (.cells #[.int .i64 z, .slice ao n c] 31)
  have HB0 := Lib.hid hB
  have hX0 : (w.alloc (.cells #[.int .i64 z, .slice ao n c] 31)).heap[w.heap.size]? = some (.cells #[.int .i64 z, .slice ao n c] 31 (0, 0)) := heap_alloc_new _ _
  have HX0 := Lib.hid hX0
  obtain ⟨cz0, ca0, _⟩ := box_cells hX0
  have HC1 := Lib.hid (fun (W : World) (hW : Below w.heap.size w W) => quotOf_pv lo hi z ao c n fs lo2 hi2 bo d m xs W (hv.kept (Kept.of_below hW hhi)) (Nat.le_trans hhi hW.size) hs (hx.kept (Kept.of_below hW hhi2)) (Nat.le_trans hhi2 hW.size) hm)
  have HC2 := Lib.hid (fun (W : World) (hW : Below w.heap.size w W) => quotOf_pv lo hi z ao c n fs lo3 hi3 po e_ l ys W (hv.kept (Kept.of_below hW hhi)) (Nat.le_trans hhi hW.size) hs (hy.kept (Kept.of_below hW hhi3)) (Nat.le_trans hhi3 hW.size) hl)
  clear hv hx hy hs hm hl hB hX0
  go_enter Try.func78, Try.ntmps78
  go_wp2_with fail
  refine wp_region_noPanic ?_
  refine wp_region_held_drew (S := fun W_ => W_.cell? ⟨w.heap.size, 0, none⟩ = some (.int .i64 z) ∧ W_.cell? ⟨w.heap.size, 1, none⟩ = some (.slice ao n c)) (by kernel_rfl) ?_ (fun hHeld => ?_)
  · exact ⟨cz0, ca0⟩
  refine wpAnyH_take (i := 0) (oi := ⟨_, _, _, _, _, _⟩) (v := ?_) rfl (by kernel_rfl) (by kernel_rfl) (by kernel_rfl) (fun _ _ _ h => h) (Or.inl ⟨rfl, ?_⟩) (by assumption) ?_
  rotate_left 1
  · intro w_ hSw; (try dsimp only at hSw); go_simp; (try with_reducible rfl)
  (try simp only [Act.put, List.setIfInBounds_toArray, List.set_cons_zero, List.set_cons_succ])
  refine wpAnyH_take (i := 1) (oi := ⟨_, _, _, _, _, _⟩) (v := ?_) rfl (by kernel_rfl) (by kernel_rfl) (by kernel_rfl) (fun _ _ _ h => h) (Or.inl ⟨rfl, ?_⟩) (by assumption) ?_
  rotate_left 1
  · intro w_ hSw; (try dsimp only at hSw); go_simp; (try with_reducible rfl)
  (try simp only [Act.put, List.setIfInBounds_toArray, List.set_cons_zero, List.set_cons_succ])
  refine wpAnyH_take (i := 3) (oi := ⟨_, _, _, _, _, _⟩) (v := ?_) rfl (by kernel_rfl) (by kernel_rfl) (by kernel_rfl) (fun _ _ _ h => h) (Or.inl ⟨rfl, ?_⟩) (by assumption) ?_
  rotate_left 1
  · intro w_ hSw; (try dsimp only at hSw); go_simp; (try with_reducible rfl)
  (try simp only [Act.put, List.setIfInBounds_toArray, List.set_cons_zero, List.set_cons_succ])
  refine wpAnyH_take (i := 4) (oi := ⟨_, _, _, _, _, _⟩) (v := ?_) rfl (by kernel_rfl) (by kernel_rfl) (by kernel_rfl) (fun _ _ _ h => h) (Or.inl ⟨rfl, ?_⟩) (by assumption) ?_
  rotate_left 1
  · intro w_ hSw; (try dsimp only at hSw); go_simp; (try with_reducible rfl)
  (try simp only [Act.put, List.setIfInBounds_toArray, List.set_cons_zero, List.set_cons_succ])
  refine wpAnyH_ready (rs := [2]) (by kernel_rfl) (by simp) ?_
  refine AllReadyH.cons (o := ⟨_, _, _, _, _, _⟩) rfl (fun K hK => ?_) AllReadyH.nil
  go_simp
  go_at_call 73
  refine (HC1.out _ (HB0.out.drew)).mono ?_
  rintro e_ w2 ⟨pv1, rfl, b2, hq1⟩
  have HB2 := Lib.hid (HB0.out.trans ((below_then (below_drew _) b2).mono HB0.out.size))
  have HX2 := Lib.hid ((b2.block w.heap.size (by show w.heap.size < (w.alloc _).heap.size; simp)).trans HX0.out)
  have HQ1 := Lib.hid hq1
  have cz2 := (box_cells HX2.out).1
  have ca2 := (box_cells HX2.out).2.1
  clear b2 hq1
  refine hK.out _ _ ?_ (fun hHeld => ?_)
  · exact ⟨cz2, ca2⟩
  clear hK K
  (try simp only [Act.put, List.setIfInBounds_toArray, List.set_cons_zero, List.set_cons_succ])
  refine wpAnyH_ready (rs := [5]) (by kernel_rfl) (by simp) ?_
  refine AllReadyH.cons (o := ⟨_, _, _, _, _, _⟩) rfl (fun K hK => ?_) AllReadyH.nil
  go_simp
  go_at_call 73
  refine (HC2.out _ HB2.out).mono ?_
  rintro e_ w3 ⟨pv2, rfl, b3, hq2⟩
  have HB3 := Lib.hid (HB2.out.trans (b3.mono HB2.out.size))
  have HB23 := Lib.hid b3
  have HQ2 := Lib.hid hq2
  clear b3 hq2
  refine hK.out _ _ ?_ (fun hHeld => ?_)
  · exact ⟨cell_b HB23.out cz2, cell_b HB23.out ca2⟩
  clear hK K
  (try simp only [Act.put, List.setIfInBounds_toArray, List.set_cons_zero, List.set_cons_succ])
  refine wpAnyH_take (i := 6) (oi := ⟨_, _, _, _, _, _⟩) (v := ?_) rfl (by kernel_rfl) (by kernel_rfl) (by kernel_rfl) (fun _ _ _ h => h) (Or.inl ⟨rfl, ?_⟩) (by assumption) ?_
  rotate_left 1
  · intro w_ hSw; (try dsimp only at hSw); go_simp; (try with_reducible rfl)
  (try simp only [Act.put, List.setIfInBounds_toArray, List.set_cons_zero, List.set_cons_succ])
  refine wpAnyH_take (i := 7) (oi := ⟨_, _, _, _, _, _⟩) (v := ?_) rfl (by kernel_rfl) (by kernel_rfl) (by kernel_rfl) (fun _ _ _ h => h) (Or.inl ⟨rfl, ?_⟩) (by assumption) ?_
  rotate_left 1
  · intro w_ hSw; (try dsimp only at hSw); go_simp; (try with_reducible rfl)
  (try simp only [Act.put, List.setIfInBounds_toArray, List.set_cons_zero, List.set_cons_succ])
  refine wpAnyH_done (by kernel_rfl) ?_ _
  refine NoPanic.normal ?_
  clear hHeld cz0 ca0 cz2 ca2
  have hQ1 := HQ1.out
  have hQ2 := HQ2.out
  unfold QtV at hQ1 hQ2
  clear HQ1 HQ2 HC1 HC2
  cases h1 : cngB z fs xs with
  | false =>
    have HFc : Hid (fcB z fs xs ys = false) := by unfold Hid fcB; rw [h1]; rfl
    simp only [h1, Bool.false_eq_true, if_false] at hQ1
    subst hQ1
    have HB4 : Hid (Below w.heap.size w w3.drew) := HB3.out.drew
    clear hQ2 h1
    go_wp2_with fail
    refine wp_region_noPanic ?_
    refine wp_region_held_drew (S := fun _ => True) (by kernel_rfl) ?_ (fun hHeld => ?_)
    · trivial
    refine wpAnyH_take (i := 0) (oi := ⟨_, _, _, _, _, _⟩) (v := ?_) rfl (by kernel_rfl) (by kernel_rfl) (by kernel_rfl) (fun _ _ _ h => h) (Or.inl ⟨rfl, ?_⟩) (trivial) ?_
    rotate_left 1
    · intro w_ hSw; (try dsimp only at hSw); go_simp; (try with_reducible rfl)
    (try simp only [Act.put, List.setIfInBounds_toArray, List.set_cons_zero, List.set_cons_succ])
    refine wpAnyH_take (i := 1) (oi := ⟨_, _, _, _, _, _⟩) (v := ?_) rfl (by kernel_rfl) (by kernel_rfl) (by kernel_rfl) (fun _ _ _ h => h) (Or.inl ⟨rfl, ?_⟩) (trivial) ?_
    rotate_left 1
    · intro w_ hSw; (try dsimp only at hSw); go_simp; (try with_reducible rfl)
    (try simp only [Act.put, List.setIfInBounds_toArray, List.set_cons_zero, List.set_cons_succ])
    refine wpAnyH_take (i := 2) (oi := ⟨_, _, _, _, _, _⟩) (v := ?_) rfl (by kernel_rfl) (by kernel_rfl) (by kernel_rfl) (fun _ _ _ h => h) (Or.inl ⟨rfl, ?_⟩) (trivial) ?_
    rotate_left 1
    · intro w_ hSw; (try dsimp only at hSw); go_simp; (try with_reducible rfl)
    (try simp only [Act.put, List.setIfInBounds_toArray, List.set_cons_zero, List.set_cons_succ])
    refine wpAnyH_take (i := 3) (oi := ⟨_, _, _, _, _, _⟩) (v := undef) rfl (by kernel_rfl) (by kernel_rfl) (by kernel_rfl) (fun _ _ _ h => h) (Or.inr ⟨rfl, rfl⟩) (trivial) ?_
    (try simp only [Act.put, List.setIfInBounds_toArray, List.set_cons_zero, List.set_cons_succ])
    refine wpAnyH_take (i := 4) (oi := ⟨_, _, _, _, _, _⟩) (v := undef) rfl (by kernel_rfl) (by kernel_rfl) (by kernel_rfl) (fun _ _ _ h => h) (Or.inr ⟨rfl, rfl⟩) (trivial) ?_
    (try simp only [Act.put, List.setIfInBounds_toArray, List.set_cons_zero, List.set_cons_succ])
    refine wpAnyH_take (i := 5) (oi := ⟨_, _, _, _, _, _⟩) (v := ?_) rfl (by kernel_rfl) (by kernel_rfl) (by kernel_rfl) (fun _ _ _ h => h) (Or.inl ⟨rfl, ?_⟩) (trivial) ?_
    rotate_left 1
    · intro w_ hSw; (try dsimp only at hSw); go_simp; (try with_reducible rfl)
    (try simp only [Act.put, List.setIfInBounds_toArray, List.set_cons_zero, List.set_cons_succ])
    refine wpAnyH_take (i := 6) (oi := ⟨_, _, _, _, _, _⟩) (v := ?_) rfl (by kernel_rfl) (by kernel_rfl) (by kernel_rfl) (fun _ _ _ h => h) (Or.inl ⟨rfl, ?_⟩) (trivial) ?_
    rotate_left 1
    · intro w_ hSw; (try dsimp only at hSw); go_simp; (try with_reducible rfl)
    (try simp only [Act.put, List.setIfInBounds_toArray, List.set_cons_zero, List.set_cons_succ])
    refine wpAnyH_take (i := 7) (oi := ⟨_, _, _, _, _, _⟩) (v := undef) rfl (by kernel_rfl) (by kernel_rfl) (by kernel_rfl) (fun _ _ _ h => h) (Or.inr ⟨rfl, rfl⟩) (trivial) ?_
    (try simp only [Act.put, List.setIfInBounds_toArray, List.set_cons_zero, List.set_cons_succ])
    refine wpAnyH_take (i := 8) (oi := ⟨_, _, _, _, _, _⟩) (v := undef) rfl (by kernel_rfl) (by kernel_rfl) (by kernel_rfl) (fun _ _ _ h => h) (Or.inr ⟨rfl, rfl⟩) (trivial) ?_
    (try simp only [Act.put, List.setIfInBounds_toArray, List.set_cons_zero, List.set_cons_succ])
    refine wpAnyH_take (i := 9) (oi := ⟨_, _, _, _, _, _⟩) (v := undef) rfl (by kernel_rfl) (by kernel_rfl) (by kernel_rfl) (fun _ _ _ h => h) (Or.inr ⟨rfl, rfl⟩) (trivial) ?_
    (try simp only [Act.put, List.setIfInBounds_toArray, List.set_cons_zero, List.set_cons_succ])
    refine wpAnyH_take (i := 10) (oi := ⟨_, _, _, _, _, _⟩) (v := undef) rfl (by kernel_rfl) (by kernel_rfl) (by kernel_rfl) (fun _ _ _ h => h) (Or.inr ⟨rfl, rfl⟩) (trivial) ?_
    (try simp only [Act.put, List.setIfInBounds_toArray, List.set_cons_zero, List.set_cons_succ])
    refine wpAnyH_take (i := 11) (oi := ⟨_, _, _, _, _, _⟩) (v := undef) rfl (by kernel_rfl) (by kernel_rfl) (by kernel_rfl) (fun _ _ _ h => h) (Or.inr ⟨rfl, rfl⟩) (trivial) ?_
    (try simp only [Act.put, List.setIfInBounds_toArray, List.set_cons_zero, List.set_cons_succ])
    refine wpAnyH_take (i := 12) (oi := ⟨_, _, _, _, _, _⟩) (v := undef) rfl (by kernel_rfl) (by kernel_rfl) (by kernel_rfl) (fun _ _ _ h => h) (Or.inr ⟨rfl, rfl⟩) (trivial) ?_
    (try simp only [Act.put, List.setIfInBounds_toArray, List.set_cons_zero, List.set_cons_succ])
    refine wpAnyH_take (i := 13) (oi := ⟨_, _, _, _, _, _⟩) (v := undef) rfl (by kernel_rfl) (by kernel_rfl) (by kernel_rfl) (fun _ _ _ h => h) (Or.inr ⟨rfl, rfl⟩) (trivial) ?_
    (try simp only [Act.put, List.setIfInBounds_toArray, List.set_cons_zero, List.set_cons_succ])
    refine wpAnyH_take (i := 14) (oi := ⟨_, _, _, _, _, _⟩) (v := undef) rfl (by kernel_rfl) (by kernel_rfl) (by kernel_rfl) (fun _ _ _ h => h) (Or.inr ⟨rfl, rfl⟩) (trivial) ?_
    (try simp only [Act.put, List.setIfInBounds_toArray, List.set_cons_zero, List.set_cons_succ])
    refine wpAnyH_take (i := 15) (oi := ⟨_, _, _, _, _, _⟩) (v := undef) rfl (by kernel_rfl) (by kernel_rfl) (by kernel_rfl) (fun _ _ _ h => h) (Or.inr ⟨rfl, rfl⟩) (trivial) ?_
    (try simp only [Act.put, List.setIfInBounds_toArray, List.set_cons_zero, List.set_cons_succ])
    refine wpAnyH_take (i := 16) (oi := ⟨_, _, _, _, _, _⟩) (v := undef) rfl (by kernel_rfl) (by kernel_rfl) (by kernel_rfl) (fun _ _ _ h => h) (Or.inr ⟨rfl, rfl⟩) (trivial) ?_
    (try simp only [Act.put, List.setIfInBounds_toArray, List.set_cons_zero, List.set_cons_succ])
    refine wpAnyH_take (i := 17) (oi := ⟨_, _, _, _, _, _⟩) (v := ?_) rfl (by kernel_rfl) (by kernel_rfl) (by kernel_rfl) (fun _ _ _ h => h) (Or.inl ⟨rfl, ?_⟩) (trivial) ?_
    rotate_left 1
    · intro w_ hSw; (try dsimp only at hSw); go_simp; (try with_reducible rfl)
    (try simp only [Act.put, List.setIfInBounds_toArray, List.set_cons_zero, List.set_cons_succ])
    refine wpAnyH_done (by kernel_rfl) ?_ _
    refine NoPanic.normal ?_
    clear hHeld
    go_wp2_with fail
    go_ret2
    refine ⟨HB4.out, ?_⟩
    rw [if_neg (by simp [HFc.out])]
    rfl
  | true =>
    simp only [h1, if_true] at hQ1
    obtain ⟨A1, Q1, va1, vb1, rfl, hA1, hAQ1, hq1⟩ := hQ1
    cases h2 : cngB z fs ys with
    | false =>
      have HFc : Hid (fcB z fs xs ys = false) := by unfold Hid fcB; rw [h2, Bool.false_and, Bool.and_false]
      simp only [h2, Bool.false_eq_true, if_false] at hQ2
      subst hQ2
      have HB4 : Hid (Below w.heap.size w w3.drew) := HB3.out.drew
      clear h1 h2 hq1
      go_wp2_with fail
      refine wp_region_noPanic ?_
      refine wp_region_held_drew (S := fun _ => True) (by kernel_rfl) ?_ (fun hHeld => ?_)
      · trivial
      refine wpAnyH_take (i := 0) (oi := ⟨_, _, _, _, _, _⟩) (v := ?_) rfl (by kernel_rfl) (by kernel_rfl) (by kernel_rfl) (fun _ _ _ h => h) (Or.inl ⟨rfl, ?_⟩) (trivial) ?_
      rotate_left 1
      · intro w_ hSw; (try dsimp only at hSw); go_simp; (try with_reducible rfl)
      (try simp only [Act.put, List.setIfInBounds_toArray, List.set_cons_zero, List.set_cons_succ])
      refine wpAnyH_take (i := 1) (oi := ⟨_, _, _, _, _, _⟩) (v := ?_) rfl (by kernel_rfl) (by kernel_rfl) (by kernel_rfl) (fun _ _ _ h => h) (Or.inl ⟨rfl, ?_⟩) (trivial) ?_
      rotate_left 1
      · intro w_ hSw; (try dsimp only at hSw); go_simp; (try with_reducible rfl)
      (try simp only [Act.put, List.setIfInBounds_toArray, List.set_cons_zero, List.set_cons_succ])
      refine wpAnyH_take (i := 2) (oi := ⟨_, _, _, _, _, _⟩) (v := ?_) rfl (by kernel_rfl) (by kernel_rfl) (by kernel_rfl) (fun _ _ _ h => h) (Or.inl ⟨rfl, ?_⟩) (trivial) ?_
      rotate_left 1
      · intro w_ hSw; (try dsimp only at hSw); go_simp; (try with_reducible rfl)
      (try simp only [Act.put, List.setIfInBounds_toArray, List.set_cons_zero, List.set_cons_succ])
      refine wpAnyH_take (i := 3) (oi := ⟨_, _, _, _, _, _⟩) (v := ?_) rfl (by kernel_rfl) (by kernel_rfl) (by kernel_rfl) (fun _ _ _ h => h) (Or.inl ⟨rfl, ?_⟩) (trivial) ?_
      rotate_left 1
      · intro w_ hSw; (try dsimp only at hSw); go_simp; (try with_reducible rfl)
      (try simp only [Act.put, List.setIfInBounds_toArray, List.set_cons_zero, List.set_cons_succ])
      refine wpAnyH_take (i := 4) (oi := ⟨_, _, _, _, _, _⟩) (v := ?_) rfl (by kernel_rfl) (by kernel_rfl) (by kernel_rfl) (fun _ _ _ h => h) (Or.inl ⟨rfl, ?_⟩) (trivial) ?_
      rotate_left 1
      · intro w_ hSw; (try dsimp only at hSw); go_simp; (try with_reducible rfl)
      (try simp only [Act.put, List.setIfInBounds_toArray, List.set_cons_zero, List.set_cons_succ])
      refine wpAnyH_take (i := 5) (oi := ⟨_, _, _, _, _, _⟩) (v := ?_) rfl (by kernel_rfl) (by kernel_rfl) (by kernel_rfl) (fun _ _ _ h => h) (Or.inl ⟨rfl, ?_⟩) (trivial) ?_
      rotate_left 1
      · intro w_ hSw; (try dsimp only at hSw); go_simp; (try with_reducible rfl)
      (try simp only [Act.put, List.setIfInBounds_toArray, List.set_cons_zero, List.set_cons_succ])
      refine wpAnyH_take (i := 6) (oi := ⟨_, _, _, _, _, _⟩) (v := ?_) rfl (by kernel_rfl) (by kernel_rfl) (by kernel_rfl) (fun _ _ _ h => h) (Or.inl ⟨rfl, ?_⟩) (trivial) ?_
      rotate_left 1
      · intro w_ hSw; (try dsimp only at hSw); go_simp; (try with_reducible rfl)
      (try simp only [Act.put, List.setIfInBounds_toArray, List.set_cons_zero, List.set_cons_succ])
      refine wpAnyH_take (i := 7) (oi := ⟨_, _, _, _, _, _⟩) (v := undef) rfl (by kernel_rfl) (by kernel_rfl) (by kernel_rfl) (fun _ _ _ h => h) (Or.inr ⟨rfl, rfl⟩) (trivial) ?_
      (try simp only [Act.put, List.setIfInBounds_toArray, List.set_cons_zero, List.set_cons_succ])
      refine wpAnyH_take (i := 8) (oi := ⟨_, _, _, _, _, _⟩) (v := undef) rfl (by kernel_rfl) (by kernel_rfl) (by kernel_rfl) (fun _ _ _ h => h) (Or.inr ⟨rfl, rfl⟩) (trivial) ?_
      (try simp only [Act.put, List.setIfInBounds_toArray, List.set_cons_zero, List.set_cons_succ])
      refine wpAnyH_take (i := 9) (oi := ⟨_, _, _, _, _, _⟩) (v := undef) rfl (by kernel_rfl) (by kernel_rfl) (by kernel_rfl) (fun _ _ _ h => h) (Or.inr ⟨rfl, rfl⟩) (trivial) ?_
      (try simp only [Act.put, List.setIfInBounds_toArray, List.set_cons_zero, List.set_cons_succ])
      refine wpAnyH_take (i := 10) (oi := ⟨_, _, _, _, _, _⟩) (v := undef) rfl (by kernel_rfl) (by kernel_rfl) (by kernel_rfl) (fun _ _ _ h => h) (Or.inr ⟨rfl, rfl⟩) (trivial) ?_
      (try simp only [Act.put, List.setIfInBounds_toArray, List.set_cons_zero, List.set_cons_succ])
      refine wpAnyH_take (i := 11) (oi := ⟨_, _, _, _, _, _⟩) (v := undef) rfl (by kernel_rfl) (by kernel_rfl) (by kernel_rfl) (fun _ _ _ h => h) (Or.inr ⟨rfl, rfl⟩) (trivial) ?_
      (try simp only [Act.put, List.setIfInBounds_toArray, List.set_cons_zero, List.set_cons_succ])
      refine wpAnyH_take (i := 12) (oi := ⟨_, _, _, _, _, _⟩) (v := undef) rfl (by kernel_rfl) (by kernel_rfl) (by kernel_rfl) (fun _ _ _ h => h) (Or.inr ⟨rfl, rfl⟩) (trivial) ?_
      (try simp only [Act.put, List.setIfInBounds_toArray, List.set_cons_zero, List.set_cons_succ])
      refine wpAnyH_take (i := 13) (oi := ⟨_, _, _, _, _, _⟩) (v := undef) rfl (by kernel_rfl) (by kernel_rfl) (by kernel_rfl) (fun _ _ _ h => h) (Or.inr ⟨rfl, rfl⟩) (trivial) ?_
      (try simp only [Act.put, List.setIfInBounds_toArray, List.set_cons_zero, List.set_cons_succ])
      refine wpAnyH_take (i := 14) (oi := ⟨_, _, _, _, _, _⟩) (v := undef) rfl (by kernel_rfl) (by kernel_rfl) (by kernel_rfl) (fun _ _ _ h => h) (Or.inr ⟨rfl, rfl⟩) (trivial) ?_
      (try simp only [Act.put, List.setIfInBounds_toArray, List.set_cons_zero, List.set_cons_succ])
      refine wpAnyH_take (i := 15) (oi := ⟨_, _, _, _, _, _⟩) (v := undef) rfl (by kernel_rfl) (by kernel_rfl) (by kernel_rfl) (fun _ _ _ h => h) (Or.inr ⟨rfl, rfl⟩) (trivial) ?_
      (try simp only [Act.put, List.setIfInBounds_toArray, List.set_cons_zero, List.set_cons_succ])
      refine wpAnyH_take (i := 16) (oi := ⟨_, _, _, _, _, _⟩) (v := undef) rfl (by kernel_rfl) (by kernel_rfl) (by kernel_rfl) (fun _ _ _ h => h) (Or.inr ⟨rfl, rfl⟩) (trivial) ?_
      (try simp only [Act.put, List.setIfInBounds_toArray, List.set_cons_zero, List.set_cons_succ])
      refine wpAnyH_take (i := 17) (oi := ⟨_, _, _, _, _, _⟩) (v := ?_) rfl (by kernel_rfl) (by kernel_rfl) (by kernel_rfl) (fun _ _ _ h => h) (Or.inl ⟨rfl, ?_⟩) (trivial) ?_
      rotate_left 1
      · intro w_ hSw; (try dsimp only at hSw); go_simp; (try with_reducible rfl)
      (try simp only [Act.put, List.setIfInBounds_toArray, List.set_cons_zero, List.set_cons_succ])
      refine wpAnyH_done (by kernel_rfl) ?_ _
      refine NoPanic.normal ?_
      clear hHeld
      go_wp2_with fail
      go_ret2
      refine ⟨HB4.out, ?_⟩
      rw [if_neg (by simp [HFc.out])]
      rfl
    | true =>
      simp only [h2, if_true] at hQ2
      obtain ⟨A2, Q2, va2, vb2, rfl, hA2, hAQ2, hq2⟩ := hQ2
      have hq1' := hq1.below HB23.out
      obtain ⟨hok, hpx, _⟩ := cngB_of h1
      obtain ⟨_, hpy, _⟩ := cngB_of h2
      obtain ⟨⟨z1, z8⟩, _, _⟩ := algOkB_of hok
      obtain ⟨f, hf⟩ : ∃ f, extP xs = f := ⟨_, rfl⟩
      obtain ⟨g, hg⟩ : ∃ g, extP ys = g := ⟨_, rfl⟩
      have hFi := fun (W : World) => isFiner_any f g W (fun k hk => by rw [← hf]; have := ext_bd hpx k; omega)
      have hfe : finB f g 8 = fcB z fs xs ys := by
        rw [← hf, ← hg, finB_ext hpx hpy z8]
        unfold fcB
        rw [h1, h2]; rfl
      rw [hfe] at hFi
      obtain ⟨r, hr⟩ : ∃ r, fcB z fs xs ys = r := ⟨_, rfl⟩
      rw [hr] at hFi
      have HFi := Lib.hid hFi
      have HFc := Lib.hid hr
      rw [hf] at hq1'
      rw [hg] at hq2
      have hbx1 := hq1'.box
      have hbx2 := hq2.box
      have hq1l := hq1'.lt
      have hq2l := hq2.lt
      have hr1 := qt_range hbx1
      have hr2 := qt_range hbx2
      have HQ1 := Lib.hid hq1'
      have HQ2 := Lib.hid hq2
      have HFe := Lib.hid hf
      have HGe := Lib.hid hg
      have hs2 := HB2.out.size
      clear h1 h2 hq1 hq1' hq2 hok hpx hpy hf hg hFi hfe hr z1 z8
      have hA1' : w.heap.size ≤ A1 := by simp at hA1; omega
      go_wp2_with fail
      refine wp_region_noPanic ?_
      refine wp_region_held_drew (S := fun W_ => W_.rangeAt Q1 2 (arrV f).toList ∧ W_.rangeAt Q2 2 (arrV g).toList) (by kernel_rfl) ?_ (fun hHeld => ?_)
      · exact ⟨hr1, hr2⟩
      refine wpAnyH_take (i := 0) (oi := ⟨_, _, _, _, _, _⟩) (v := ?_) rfl (by kernel_rfl) (by kernel_rfl) (by kernel_rfl) (fun _ _ _ h => h) (Or.inl ⟨rfl, ?_⟩) (by assumption) ?_
      rotate_left 1
      · intro w_ hSw; (try dsimp only at hSw); go_simp; (try with_reducible rfl)
      (try simp only [Act.put, List.setIfInBounds_toArray, List.set_cons_zero, List.set_cons_succ])
      refine wpAnyH_take (i := 1) (oi := ⟨_, _, _, _, _, _⟩) (v := ?_) rfl (by kernel_rfl) (by kernel_rfl) (by kernel_rfl) (fun _ _ _ h => h) (Or.inl ⟨rfl, ?_⟩) (by assumption) ?_
      rotate_left 1
      · intro w_ hSw; (try dsimp only at hSw); go_simp; (try with_reducible rfl)
      (try simp only [Act.put, List.setIfInBounds_toArray, List.set_cons_zero, List.set_cons_succ])
      refine wpAnyH_take (i := 2) (oi := ⟨_, _, _, _, _, _⟩) (v := ?_) rfl (by kernel_rfl) (by kernel_rfl) (by kernel_rfl) (fun _ _ _ h => h) (Or.inl ⟨rfl, ?_⟩) (by assumption) ?_
      rotate_left 1
      · intro w_ hSw; (try dsimp only at hSw); go_simp; (try with_reducible rfl)
      (try simp only [Act.put, List.setIfInBounds_toArray, List.set_cons_zero, List.set_cons_succ])
      refine wpAnyH_take (i := 3) (oi := ⟨_, _, _, _, _, _⟩) (v := ?_) rfl (by kernel_rfl) (by kernel_rfl) (by kernel_rfl) (fun _ _ _ h => h) (Or.inl ⟨rfl, ?_⟩) (by assumption) ?_
      rotate_left 1
      · intro w_ hSw; (try dsimp only at hSw); go_simp; (try with_reducible rfl)
      (try simp only [Act.put, List.setIfInBounds_toArray, List.set_cons_zero, List.set_cons_succ])
      refine wpAnyH_take (i := 4) (oi := ⟨_, _, _, _, _, _⟩) (v := ?_) rfl (by kernel_rfl) (by kernel_rfl) (by kernel_rfl) (fun _ _ _ h => h) (Or.inl ⟨rfl, ?_⟩) (by assumption) ?_
      rotate_left 1
      · intro w_ hSw; (try dsimp only at hSw); go_simp; (try with_reducible rfl)
      (try simp only [Act.put, List.setIfInBounds_toArray, List.set_cons_zero, List.set_cons_succ])
      refine wpAnyH_take (i := 5) (oi := ⟨_, _, _, _, _, _⟩) (v := ?_) rfl (by kernel_rfl) (by kernel_rfl) (by kernel_rfl) (fun _ _ _ h => h) (Or.inl ⟨rfl, ?_⟩) (by assumption) ?_
      rotate_left 1
      · intro w_ hSw; (try dsimp only at hSw); go_simp; (try with_reducible rfl)
      (try simp only [Act.put, List.setIfInBounds_toArray, List.set_cons_zero, List.set_cons_succ])
      refine wpAnyH_take (i := 6) (oi := ⟨_, _, _, _, _, _⟩) (v := ?_) rfl (by kernel_rfl) (by kernel_rfl) (by kernel_rfl) (fun _ _ _ h => h) (Or.inl ⟨rfl, ?_⟩) (by assumption) ?_
      rotate_left 1
      · intro w_ hSw; (try dsimp only at hSw); go_simp; (try with_reducible rfl)
      (try simp only [Act.put, List.setIfInBounds_toArray, List.set_cons_zero, List.set_cons_succ])
      refine wpAnyH_take (i := 7) (oi := ⟨_, _, _, _, _, _⟩) (v := ?_) rfl (by kernel_rfl) (by kernel_rfl) (by kernel_rfl) (fun _ _ _ h => h) (Or.inl ⟨rfl, ?_⟩) (by assumption) ?_
      rotate_left 1
      · intro w_ hSw; (try dsimp only at hSw); go_simp; (try with_reducible rfl)
      (try simp only [Act.put, List.setIfInBounds_toArray, List.set_cons_zero, List.set_cons_succ])
      refine wpAnyH_take (i := 8) (oi := ⟨_, _, _, _, _, _⟩) (v := ?_) rfl (by kernel_rfl) (by kernel_rfl) (by kernel_rfl) (fun _ _ _ h => h) (Or.inl ⟨rfl, ?_⟩) (by assumption) ?_
      rotate_left 1
      · intro w_ hSw; (try dsimp only at hSw); go_simp; (try with_reducible rfl)
      (try simp only [Act.put, List.setIfInBounds_toArray, List.set_cons_zero, List.set_cons_succ])
      refine wpAnyH_take (i := 9) (oi := ⟨_, _, _, _, _, _⟩) (v := ?_) rfl (by kernel_rfl) (by kernel_rfl) (by kernel_rfl) (fun _ _ _ h => h) (Or.inl ⟨rfl, ?_⟩) (by assumption) ?_
      rotate_left 1
      · intro w_ hSw; (try dsimp only at hSw); go_simp; (try with_reducible rfl)
      (try simp only [Act.put, List.setIfInBounds_toArray, List.set_cons_zero, List.set_cons_succ])
      refine wpAnyH_take (i := 10) (oi := ⟨_, _, _, _, _, _⟩) (v := .agg (arrV f)) rfl (by kernel_rfl) (by kernel_rfl) (by kernel_rfl) (fun _ _ _ h => h) (yieldsIf_load_mid rfl 70 _ rfl _ 2 rfl (arrV f).toList _ (fun _ h => h.1) Try.underlying70 rfl info8) (by assumption) ?_
      (try simp only [Act.put, List.setIfInBounds_toArray, List.set_cons_zero, List.set_cons_succ])
      refine wpAnyH_take (i := 11) (oi := ⟨_, _, _, _, _, _⟩) (v := ?_) rfl (by kernel_rfl) (by kernel_rfl) (by kernel_rfl) (fun _ _ _ h => h) (Or.inl ⟨rfl, ?_⟩) (by assumption) ?_
      rotate_left 1
      · intro w_ hSw; (try dsimp only at hSw); go_simp; (try with_reducible rfl)
      (try simp only [Act.put, List.setIfInBounds_toArray, List.set_cons_zero, List.set_cons_succ])
      refine wpAnyH_take (i := 12) (oi := ⟨_, _, _, _, _, _⟩) (v := ?_) rfl (by kernel_rfl) (by kernel_rfl) (by kernel_rfl) (fun _ _ _ h => h) (Or.inl ⟨rfl, ?_⟩) (by assumption) ?_
      rotate_left 1
      · intro w_ hSw; (try dsimp only at hSw); go_simp; (try with_reducible rfl)
      (try simp only [Act.put, List.setIfInBounds_toArray, List.set_cons_zero, List.set_cons_succ])
      refine wpAnyH_take (i := 13) (oi := ⟨_, _, _, _, _, _⟩) (v := ?_) rfl (by kernel_rfl) (by kernel_rfl) (by kernel_rfl) (fun _ _ _ h => h) (Or.inl ⟨rfl, ?_⟩) (by assumption) ?_
      rotate_left 1
      · intro w_ hSw; (try dsimp only at hSw); go_simp; (try with_reducible rfl)
      (try simp only [Act.put, List.setIfInBounds_toArray, List.set_cons_zero, List.set_cons_succ])
      refine wpAnyH_take (i := 14) (oi := ⟨_, _, _, _, _, _⟩) (v := .agg (arrV g)) rfl (by kernel_rfl) (by kernel_rfl) (by kernel_rfl) (fun _ _ _ h => h) (yieldsIf_load_mid rfl 70 _ rfl _ 2 rfl (arrV g).toList _ (fun _ h => h.2) Try.underlying70 rfl info8) (by assumption) ?_
      (try simp only [Act.put, List.setIfInBounds_toArray, List.set_cons_zero, List.set_cons_succ])
      refine wpAnyH_ready (rs := [15]) (by kernel_rfl) (by simp) ?_
      refine AllReadyH.cons (o := ⟨_, _, _, _, _, _⟩) rfl (fun K hK => ?_) AllReadyH.nil
      go_simp
      go_at_call 121
      refine (HFi.out _).mono ?_
      rintro e_ w4 ⟨rfl, b4⟩
      have HB4 := Lib.hid (below_then (below_drew w3) b4)
      clear b4
      refine hK.out _ _ ?_ (fun hHeld => ?_)
      · exact ⟨qt_range ((HB4.out.block _ hq1l).trans hbx1), qt_range ((HB4.out.block _ hq2l).trans hbx2)⟩
      clear hK K
      (try simp only [Act.put, List.setIfInBounds_toArray, List.set_cons_zero, List.set_cons_succ])
      refine wpAnyH_take (i := 16) (oi := ⟨_, _, _, _, _, _⟩) (v := ?_) rfl (by kernel_rfl) (by kernel_rfl) (by kernel_rfl) (fun _ _ _ h => h) (Or.inl ⟨rfl, ?_⟩) (by assumption) ?_
      rotate_left 1
      · intro w_ hSw; (try dsimp only at hSw); go_simp; (try with_reducible rfl)
      (try simp only [Act.put, List.setIfInBounds_toArray, List.set_cons_zero, List.set_cons_succ])
      refine wpAnyH_take (i := 17) (oi := ⟨_, _, _, _, _, _⟩) (v := ?_) rfl (by kernel_rfl) (by kernel_rfl) (by kernel_rfl) (fun _ _ _ h => h) (Or.inl ⟨rfl, ?_⟩) (by assumption) ?_
      rotate_left 1
      · intro w_ hSw; (try dsimp only at hSw); go_simp; (try with_reducible rfl)
      (try simp only [Act.put, List.setIfInBounds_toArray, List.set_cons_zero, List.set_cons_succ])
      refine wpAnyH_done (by kernel_rfl) ?_ _
      refine NoPanic.normal ?_
      have HBw := Lib.hid (HB3.out.trans (HB4.out.mono HB3.out.size))
      clear hHeld
      cases r with
      | false =>
        go_wp2_with fail
        go_ret2
        refine ⟨HBw.out, ?_⟩
        rw [if_neg (by simp [HFc.out])]
        rfl
      | true =>
        go_wp2_with fail
        go_ret2
        refine ⟨HBw.out, ?_⟩
        rw [if_pos HFc.out, HFe.out, HGe.out]
        exact ⟨A1, Q1, A2, Q2, va1, vb1, va2, vb2, rfl, ⟨hA1', hAQ1⟩, ⟨by omega, hAQ2⟩, HQ1.out.below HB4.out, HQ2.out.below HB4.out⟩
end

section
open Go.RowKit
set_option linter.unusedVariables false
set_option linter.unusedSimpArgs false

set_option maxHeartbeats 2000000 in
theorem l9Two_any (lo hi : Nat) (z : Int) (ao : Option Addr) (c n : Nat) (fs : List OpD) (lo2 hi2 : Nat) (bo : Option Addr) (d m : Nat) (xs : List Int) (lo3 hi3 : Nat) (po : Option Addr) (e_ l : Nat) (ys : List Int) (w : World) (hv : OView w lo hi ao n fs) (hhi : hi ≤ w.heap.size) (hs : ∀ (j : Nat) (f : OpD), fs[j]? = some f → f.2.length ≤ maxLen)
    (hx : IView w lo2 hi2 bo m xs) (hhi2 : hi2 ≤ w.heap.size) (hm : m ≤ maxLen) (hy : IView w lo3 hi3 po l ys) (hhi3 : hi3 ≤ w.heap.size) (hl : l ≤ maxLen) :
    Calls Try.prog 76 #[.agg #[.int .i64 z, .slice ao n c], .slice bo m d, .slice po l e_] w fun e w' => e = .returned (.bool (fcB z fs xs ys)) ∧ Below w.heap.size w w' := by
  have hB := below_alloc w (.cells #[.int .i64 z, .slice ao n c] 31)
  have HB0 := Lib.hid hB
  have hX0 : (w.alloc (.cells #[.int .i64 z, .slice ao n c] 31)).heap[w.heap.size]? = some (.cells #[.int .i64 z, .slice ao n c] 31 (0, 0)) := heap_alloc_new _ _
  have HX0 := Lib.hid hX0
  obtain ⟨cz0, ca0, _⟩ := box_cells hX0
  have HC := Lib.hid (takes9_any lo hi z ao c n fs lo2 hi2 bo d m xs _ (hv.kept (Kept.of_below hB hhi)) (Nat.le_trans hhi hB.size) hs (hx.kept (Kept.of_below hB hhi2)) (Nat.le_trans hhi2 hB.size) hm)
  have C1 : True := trivial
  cases h1 : cngB z fs xs with
  | false =>
    rw [show fcB z fs xs ys = false by simp [fcB, h1]]
    simp only [h1] at HC
    clear hv hx hy hs hm hl hB hX0 h1
    go_enter Try.func76, Try.ntmps76
    go_wp2_with fail
    refine HC.out.mono ?_
    rintro e w1 ⟨rfl, b1⟩
    have HB1 := Lib.hid (HB0.out.trans (b1.mono HB0.out.size))
    clear b1
    go_wp2_with fail
    go_ret
    exact ⟨rfl, HB1.out⟩
  | true =>
    simp only [h1] at HC
    obtain ⟨hok, hpx, _⟩ := cngB_of h1
    have HI := Lib.hid (fun (W : World) (hW : Below w.heap.size w W) => l6Is_any lo hi z ao c n fs lo3 hi3 po e_ l ys W (hv.kept (Kept.of_below hW hhi)) (Nat.le_trans hhi hW.size) hok (hy.kept (Kept.of_below hW hhi3)) (Nat.le_trans hhi3 hW.size) hl)
    cases h2 : cngB z fs ys with
    | false =>
      rw [show fcB z fs xs ys = false by simp [fcB, h2]]
      simp only [h2] at HI
      clear hv hx hy hs hm hl hB hX0 h1 h2 hok hpx
      go_enter Try.func76, Try.ntmps76
      go_wp2_with fail
      refine HC.out.mono ?_
      rintro e w1 ⟨rfl, b1⟩
      have HB1 := Lib.hid (HB0.out.trans (b1.mono HB0.out.size))
      obtain ⟨cz, ca, _⟩ := box_cells ((b1.block w.heap.size (by simp)).trans HX0.out)
      clear b1 cz0 ca0
      go_wp2_with fail
      refine (HI.out _ HB1.out).mono ?_
      rintro e w2 ⟨rfl, b2⟩
      have HB2 := Lib.hid (HB1.out.trans (b2.mono HB1.out.size))
      clear b2
      go_wp2_with fail
      go_ret
      exact ⟨rfl, HB2.out⟩
    | true =>
      simp only [h2] at HI
      obtain ⟨_, hpy, _⟩ := cngB_of h2
      obtain ⟨⟨z1, z8⟩, _, _⟩ := algOkB_of hok
      obtain ⟨hlx, hox⟩ := partB_of hpx
      obtain ⟨hly, _⟩ := partB_of hpy
      have hxm := hx.1
      have hyl := hy.1
      have HF := Lib.hid (fun (W : World) (hW : Below w.heap.size w W) => below6_any lo2 hi2 lo3 hi3 bo po d m e_ l xs ys W (hx.kept (Kept.of_below hW hhi2)) (hy.kept (Kept.of_below hW hhi3)) (by omega) (by omega) (by rwa [hxm] at hox))
      have hfe : finB (gI xs) (gI ys) m = fcB z fs xs ys := by unfold fcB; rw [h1, h2, hxm]; rfl
      rw [hfe] at HF
      obtain ⟨r, hr⟩ : ∃ r, fcB z fs xs ys = r := ⟨_, rfl⟩
      rw [hr] at HF ⊢
      clear hv hx hy hs hm hl hB hX0 h1 h2 hok hpx hpy z1 z8 hlx hox hly hxm hyl hfe hr
      go_enter Try.func76, Try.ntmps76
      go_wp2_with fail
      refine HC.out.mono ?_
      rintro e w1 ⟨rfl, b1⟩
      have HB1 := Lib.hid (HB0.out.trans (b1.mono HB0.out.size))
      obtain ⟨cz, ca, _⟩ := box_cells ((b1.block w.heap.size (by simp)).trans HX0.out)
      clear b1 cz0 ca0
      go_wp2_with fail
      refine (HI.out _ HB1.out).mono ?_
      rintro e w2 ⟨rfl, b2⟩
      have HB2 := Lib.hid (HB1.out.trans (b2.mono HB1.out.size))
      clear b2
      go_wp2_with fail
      refine (HF.out _ HB2.out).mono ?_
      rintro e w3 ⟨rfl, q3⟩
      have HB3 := Lib.hid (below_drawn HB2.out q3)
      clear q3
      go_wp2_with fail
      go_ret
      exact ⟨rfl, HB3.out⟩

set_option maxHeartbeats 2000000 in
theorem l9Least_any (lo hi : Nat) (ao : Option Addr) (c m : Nat) (xs : List Int) (w : World) (hx : IView w lo hi ao m xs) (hhi : hi ≤ w.heap.size) (h1 : 1 ≤ m) (h8 : m ≤ 8) :
    Calls Try.prog 77 #[.slice ao m c] w fun e w' => NewInts w w' (leP (gI xs) m).length (leP (gI xs) m) e := by
  obtain ⟨b, o, rfl, _, hbh, hc⟩ := hx.at_ (show 0 < m by omega)
  have hl := hx.1
  obtain ⟨f, hf⟩ : ∃ f, gI xs = f := ⟨_, rfl⟩
  have HC0 : Hid (∀ j, j < m → w.cell? ⟨b, o + j, none⟩ = some (.int .i64 (f j))) := fun j hj => by rw [← hf]; exact hc j _ (get_gI hl hj)
  rw [hf]
  have hb : b < w.heap.size := by omega
  obtain ⟨i0, hi0, hz0, hz1, hz2⟩ := info_parts Try.infoInt
  have HO0 := Lib.hid (World.ownsRow_lit (base := w.heap.size) (e := 3) (size := 1) w #[] 0 (Nat.le_refl _) (by decide) rfl)
  have HB0 := Lib.hid (below_alloc w (.cells #[] 3))
  clear hx hc hl hf
  unfold NewInts
  go_enter Try.func77, Try.ntmps77
  go_wp2_with fail
  go_loopw [3, 4] (fun v i wr => ∃ k t g d : Nat, k ≤ m ∧ i = .int .i64 (k : Int) ∧ v = .slice (some ⟨g, 0, none⟩) t d ∧ t ≤ k ∧ Hid (t = (leP f k).length) ∧ Hid (wr.ownsRow w.heap.size 3 1 (.slice (some ⟨g, 0, none⟩) t d) t ((leP f k).map (Value.int .i64))) ∧ Hid (Below w.heap.size w wr)) (fun _ i _ => m - (intOf i).toNat)
  case atStart => exact ⟨0, 0, _, _, Nat.zero_le _, rfl, rfl, Nat.le_refl _, rfl, HO0, HB0⟩
  case round =>
    obtain ⟨k, t, g, d, hk, rfl, rfl, htk, HT, HR, HBr⟩ := hrel
    by_cases hlt : k < m
    · have hkm : (k : Int) < (m : Int) := by omega
      have e1 : wr.cell? ⟨b, o + k, none⟩ = some (.int .i64 (f k)) := (HBr.out.cell (p := ⟨b, o + k, none⟩) hb).trans (HC0.out k hlt)
      by_cases hfk : f k = (k : Int)
      · have HNew : Hid (leP f (k + 1) = leP f k ++ [(k : Int)]) := leP_yes hfk
        have HT1 : Hid (t + 1 = (leP f (k + 1)).length) := by unfold Hid; rw [HNew.out, List.length_append, ← HT.out]; rfl
        rw [hfk] at e1
        clear hfk
        go_wp2_with (at_builtin; refine wpList_append_own _ rfl _ _ 25 rfl w.heap.size 3 i0 (.int .i64 0) 1 8 Try.underlying25 hi0 hz0 hz1 hz2 rfl (by decide) (.slice (some ⟨g, 0, none⟩) t d) t ((leP f k).map (Value.int .i64)) rfl (HR.out.alloc _) ⟨_, 0, none⟩ 1 1 [.int .i64 (k : Int)] rfl rfl (cell_one_new _ _ _) (fun x hx => by simp at hx; subst hx; rfl) (by unfold maxLen; omega) (by omega) (by have := HBr.out.size; simp; omega) ?_; intro v' w3 hown' hgrow' hnil')
        obtain ⟨g3, cap, rfl⟩ := ownsRow_succ hown'
        have HB3 := Lib.hid ((HBr.out.alloc HBr.out.size (.cells #[.int .i64 (k : Int)] 3)).grown hgrow' (by have := HBr.out.size; simp; omega) (fun q hq => (HR.out.lt q hq).1))
        have HO3 : Hid (w3.ownsRow w.heap.size 3 1 (.slice (some ⟨g3, 0, none⟩) (t + 1) cap) (t + 1) ((leP f (k + 1)).map (Value.int .i64))) := by
          unfold Hid
          rw [HNew.out, List.map_append]
          exact hown'
        clear hown' hgrow' hnil'
        go_wp2_with fail
        go_roundw
        case rel => exact ⟨k + 1, t + 1, g3, cap, by omega, by go_num, rfl, by omega, HT1, HO3, HB3⟩
        case measure => simp [intOf]; omega
      · have HT1 : Hid (t = (leP f (k + 1)).length) := by unfold Hid; rw [leP_no hfk]; exact HT.out
        have HR1 : Hid (wr.ownsRow w.heap.size 3 1 (.slice (some ⟨g, 0, none⟩) t d) t ((leP f (k + 1)).map (Value.int .i64))) := by unfold Hid; rw [leP_no hfk]; exact HR.out
        have hne : (f k == (k : Int)) = false := by rw [beq_eq_false_iff_ne]; exact hfk
        clear hfk
        go_wp2_with fail
        go_roundw
        case rel => exact ⟨k + 1, t, g, d, by omega, by go_num, rfl, by omega, HT1, HR1, HBr⟩
        case measure => simp [intOf]; omega
    · have hkm : ¬ (k : Int) < (m : Int) := by omega
      obtain rfl : k = m := by omega
      go_wp2_with fail
      go_ret
      exact ⟨g, d, by rw [← HT.out]; rfl, by rw [← HT.out]; exact HR.out, HBr.out⟩
end

section
open Go.RowKit
set_option linter.unusedVariables false
set_option linter.unusedSimpArgs false

theorem leP_pair (f : Nat → Int) : ∀ k, (leP f k).Pairwise (· < ·)
  | 0 => List.Pairwise.nil
  | k + 1 => by
    rw [leP, List.pairwise_append]
    refine ⟨leP_pair f k, by split <;> simp, fun a ha b hb => ?_⟩
    obtain ⟨y, h1, _, rfl⟩ := leP_mem.1 ha
    split at hb
    · obtain rfl : b = (k : Int) := by simpa using hb
      omega
    · cases hb
theorem leP_lt {f : Nat → Int} {k i j : Nat} {x y : Int} (hx : (leP f k)[i]? = some x) (hy : (leP f k)[j]? = some y) (h : i < j) : x < y := by
  obtain ⟨hi, rfl⟩ := List.getElem?_eq_some_iff.1 hx
  obtain ⟨hj, rfl⟩ := List.getElem?_eq_some_iff.1 hy
  exact List.pairwise_iff_getElem.1 (leP_pair f k) i j hi hj h
/-- The values of the blocks. -/
def pvL (f g : Nat → Int) (n : Nat) : List Int := (leP f n).map fun x => g x.toNat
theorem pvL_len (f g : Nat → Int) (n : Nat) : (pvL f g n).length = (leP f n).length := by unfold pvL; rw [List.length_map]
theorem pvL_get {f g : Nat → Int} {n j x : Nat} (h : (leP f n)[j]? = some (x : Int)) : (pvL f g n)[j]? = some (g x) := by unfold pvL; rw [List.getElem?_map, h]; rfl
/-- The partition of the blocks, up to block k. -/
def puK (f g : Nat → Int) (n k j : Nat) : Int := if j < k then naI f (g ((leP f n).getD j 0).toNat).toNat else (j : Int)
theorem puK_zero (f g : Nat → Int) (n : Nat) : puK f g n 0 = fun (j : Nat) => (j : Int) := by funext j; unfold puK; rw [if_neg (by omega)]
theorem push_same {f g : Nat → Int} {n : Nat} (hf : okAll f n = true) (hg : okAll g n = true) (hfin : ∀ x, x < n → g x = g (f x).toNat) : lstP (leP f n).length (puK f g n (leP f n).length) = kerL (pvL f g n) := by
  apply List.ext_getElem?
  intro j
  by_cases hj : j < (leP f n).length
  · obtain ⟨x, hx⟩ : ∃ x, (leP f n)[j]? = some x := ⟨_, List.getElem?_eq_getElem hj⟩
    obtain ⟨l, hl, hfl, rfl⟩ := leP_mem.1 (List.mem_of_getElem? hx)
    obtain ⟨⟨g0, g1⟩, g2⟩ := okAll_get hg hl
    obtain ⟨y, hy⟩ : ∃ y : Nat, g l = (y : Int) := ⟨(g l).toNat, by omega⟩
    rw [hy, Int.toNat_natCast] at g2
    have hyn : y < n := by omega
    obtain ⟨⟨f0, f1⟩, f2⟩ := okAll_get hf hyn
    have h3 := hfin y hyn
    obtain ⟨v, hv⟩ : ∃ v : Nat, f y = (v : Int) := ⟨(f y).toNat, by omega⟩
    rw [hv, Int.toNat_natCast] at h3
    have h4 := (okAll_get hg (show v < n by omega)).1
    have hfy : f y = (y : Int) := by omega
    have hm : (y : Int) ∈ leP f n := leP_mem.2 ⟨y, hyn, hfy, rfl⟩
    rw [lstP_get _ hj, kerL_get (pvL_get (g := g) hx), hy]
    unfold puK
    rw [if_pos hj, List.getD_eq_getElem?_getD, hx, Option.getD_some, Int.toNat_natCast, hy, Int.toNat_natCast, (naI_all hf hyn).2, hfy]
    have hi := ixP_get hm
    congr 1
    unfold plI
    rw [if_pos hm]
    refine (plI_hit (xs := pvL f g n) (q := ixP (leP f n) (y : Int)) ?_ ?_).symm
    · rw [pvL_get hi, g2]
    · intro hc
      obtain ⟨i, hic⟩ := List.mem_iff_getElem?.1 hc
      have hil : i < ixP (leP f n) (y : Int) := by
        have := (List.getElem?_eq_some_iff.1 hic).1
        rw [List.length_take] at this
        omega
      rw [List.getElem?_take, if_pos hil] at hic
      unfold pvL at hic
      rw [List.getElem?_map] at hic
      obtain ⟨x, hx2, hx3⟩ := Option.map_eq_some_iff.1 hic
      obtain ⟨l2, hl2, _, rfl⟩ := leP_mem.1 (List.mem_of_getElem? hx2)
      rw [Int.toNat_natCast] at hx3
      have h5 := (okAll_get hg hl2).1
      have h6 := leP_lt hx2 hi hil
      omega
  · rw [List.getElem?_eq_none (by rw [lstP_len]; omega), List.getElem?_eq_none (by rw [kerL_len, pvL_len]; omega)]
end

section
open Go.RowKit
set_option linter.unusedVariables false
set_option linter.unusedSimpArgs false

set_option maxHeartbeats 4000000 in
set_option maxRecDepth 100000 in
theorem push9_any (A Q n_ : Nat) (z : Int) (ao : Option Addr) (n c : Nat) (f g : Nat → Int) (va vb : Value) (w : World) (hq : QtS w A Q z ao n c f n_ n_ va vb) (hz : 1 ≤ n_) (h8 : n_ ≤ 8) (hf : okAll f n_ = true) (hg : okAll g n_ = true) :
    Calls Try.prog 85 #[.pointer (some ⟨Q, 0, none⟩), .agg (arrV g)] w fun e w' => e = .returned (.agg (arrV (puK f g n_ (leP f n_).length))) ∧ Below w.heap.size w w' := by
  have hnat := hq.nat
  obtain ⟨zp, hzp⟩ : ∃ zp, n_ = zp + 1 := ⟨n_ - 1, by omega⟩
  rw [hzp] at hnat
  obtain ⟨gn, cn, rfl⟩ := ownsRow_succ hnat
  rw [← hzp] at hnat
  have hmem : f 0 ∈ leP f n_ := by
    obtain ⟨⟨a0, a1⟩, a2⟩ := okAll_get hf (show 0 < n_ by omega)
    exact leP_mem.2 ⟨(f 0).toNat, by omega, by rw [a2]; omega, by omega⟩
  obtain ⟨t0, ht0⟩ : ∃ t0, (leP f n_).length = t0 + 1 := ⟨(leP f n_).length - 1, by have := List.length_pos_of_mem hmem; omega⟩
  have hl8 := leP_len f n_
  have hles := hq.les
  rw [ht0] at hles
  obtain ⟨gl, cl, rfl⟩ := ownsRow_succ hles
  obtain ⟨t, ht⟩ : ∃ t, t0 + 1 = t := ⟨_, rfl⟩
  have d10 := (qt_cells hq.box).2.2.1
  have d11 := (qt_cells hq.box).2.2.2.1
  rw [← hzp] at d11
  rw [ht] at hles d10 ht0
  have HLs : Hid (∀ (j : Nat) (x : Int), (leP f n_)[j]? = some x → w.cell? ⟨gl, j, none⟩ = some (.int .i64 x)) := fun j x hx => by
    have hj : j < t := by have := (List.getElem?_eq_some_iff.1 hx).1; omega
    have h_ := hles.cellAt j (by omega)
    rw [List.getElem?_map, hx] at h_
    exact h_
  have HN : Hid (∀ x, x < n_ → w.cell? ⟨gn, x, none⟩ = some (.int .i64 (naI f x))) := fun x hx => by
    have h_ := hnat.cellAt x (by omega)
    rw [List.getElem?_map, lstP_get _ hx] at h_
    exact h_
  have HQl := Lib.hid hq.lt
  have hgn := (hnat.lt gn rfl).2
  have hQw := hq.lt
  obtain ⟨w0, hw0⟩ : ∃ w0, w0 = (w.alloc (.cells (arrV g) 70)).alloc (.cells (arrV fun _ => 0) 70) := ⟨_, rfl⟩
  have HB0 : Hid (Below w.heap.size w w0) := by unfold Hid; rw [hw0]; exact below_then (below_alloc _ _) (below_alloc _ _)
  have HG0 : Hid (ArrAt w0 w.heap.size g) := by unfold Hid; rw [hw0]; exact (ArrAt.new _ _).alloc _
  have HR0 : Hid (ArrAt w0 (w.heap.size + 1) fun _ => 0) := by
    unfold Hid; rw [hw0]
    have h := ArrAt.new (w.alloc (.cells (arrV g) 70)) fun _ => 0
    simp only [World.size_alloc] at h
    exact h
  have hs0 : w0.heap.size = w.heap.size + 1 + 1 := by rw [hw0]; simp
  have HW0 := Lib.hid hw0
  have HId := Lib.hid (fun (W : World) => identity_any W)
  have HF := Lib.hid hf
  have HG := Lib.hid hg
  have HD10 := Lib.hid d10
  have HD11 := Lib.hid d11
  have HT0 := Lib.hid ht0
  have ht8 : t ≤ 8 := by omega
  clear hq hnat hzp hmem hl8 hles ht d10 d11 hf hg ht0 hw0
  go_enter Try.func85, Try.ntmps85
  go_wp2_with fail
  rw [show (w.alloc (.cells (arrV g) 70)).alloc (.cells #[.int .i64 0, .int .i64 0, .int .i64 0, .int .i64 0, .int .i64 0, .int .i64 0, .int .i64 0, .int .i64 0] 70) = w0 from HW0.out.symm]
  refine (HId.out _).mono ?_
  rintro e w1 ⟨rfl, b1⟩
  have HB1 := Lib.hid (HB0.out.trans (b1.mono HB0.out.size))
  have HG1 := Lib.hid (HG0.out.below b1 (by omega))
  have HR1 := Lib.hid (HR0.out.below b1 (by omega))
  have HA1 := Lib.hid (ArrAt.new w1 fun _ => 0)
  have hs1 := b1.size
  obtain ⟨P, hP⟩ : ∃ P, P = w1.heap.size := ⟨_, rfl⟩
  obtain ⟨w3, hw3⟩ : ∃ w3, w3 = (w1.alloc (.cells (arrV fun _ => 0) 70)).setRow w1.heap.size (arrV fun k => (k : Int)) := ⟨_, rfl⟩
  have HA3 : Hid (ArrAt w3 P (puK f g n_ 0)) := by unfold Hid; rw [hw3, hP, puK_zero]; exact HA1.out.setRow
  have HG3 : Hid (ArrAt w3 w.heap.size g) := by unfold Hid; rw [hw3]; exact (HG1.out.alloc _).setRowOther (by omega) _
  have HR3 : Hid (ArrAt w3 (w.heap.size + 1) fun _ => 0) := by unfold Hid; rw [hw3]; exact (HR1.out.alloc _).setRowOther (by omega) _
  have HB3 : Hid (Below w.heap.size w w3) := by unfold Hid; rw [hw3]; exact below_setRow (below_then HB1.out (below_alloc w1 _)) (by omega) _
  have HW3 := Lib.hid hw3
  have hPw : w.heap.size + 1 < P := by omega
  have d10 := cell_b HB3.out HD10.out
  clear b1 hw3 hs1
  go_wp2_with (refine st8 (w := w1.alloc (.cells (arrV fun _ => 0) 70)) HA1.out rfl _ _ rfl rfl rfl ?_; rw [← HW3.out])
  rw [← hP]
  clear hP HW3
  go_loopw [6, 7, 14] (fun _ _ i wr => ∃ k : Nat, k ≤ t ∧ i = .int .i64 (k : Int) ∧ Hid (ArrAt wr P (puK f g n_ k)) ∧ Hid (ArrAt wr w.heap.size g) ∧ Hid (ArrAt wr (w.heap.size + 1) fun _ => 0) ∧ Hid (Below w.heap.size w wr)) (fun _ _ i _ => t - (intOf i).toNat)
  case atStart => exact ⟨0, Nat.zero_le _, rfl, HA3, HG3, HR3, HB3⟩
  case round =>
    obtain ⟨k, hk, rfl, HA, HGr, HR, HBr⟩ := hrel
    clear HA3 HG3 HR3 HB3 d10
    by_cases hlt : k < t
    · have hkn : (k : Int) < (t : Int) := by omega
      have hk8 : (k : Int) < 8 := by omega
      obtain ⟨x, hx⟩ := get_of_lt HT0.out hlt
      obtain ⟨xn, hxn, hfx, rfl⟩ := leP_mem.1 (List.mem_of_getElem? hx)
      have e1 := cell_b HBr.out (HLs.out k _ hx)
      obtain ⟨⟨g0, g1⟩, _⟩ := okAll_get HG.out hxn
      obtain ⟨yn, hyn⟩ : ∃ yn : Nat, g xn = (yn : Int) := ⟨(g xn).toNat, by omega⟩
      have iy := HGr.out.cell (k := xn) (by omega)
      rw [hyn] at iy g1
      have hyl : yn < n_ := by omega
      have iu := cell_b HBr.out (HN.out yn hyl)
      obtain ⟨u, hu⟩ : ∃ u, naI f yn = u := ⟨_, rfl⟩
      rw [hu] at iu
      have i11 := cell_b HBr.out HD11.out
      have ep := HA.out.cell (k := k) (by omega)
      have ef := HA.out.frozen k
      have hset : put8 (puK f g n_ k) k u = puK f g n_ (k + 1) := by
        funext j
        unfold put8 puK
        by_cases hjk : j = k
        · subst hjk
          rw [if_pos rfl, if_pos (by omega), List.getD_eq_getElem?_getD, hx, Option.getD_some, Int.toNat_natCast, hyn, Int.toNat_natCast, hu]
        · rw [if_neg hjk]
          by_cases hjl : j < k
          · rw [if_pos hjl, if_pos (by omega)]
          · rw [if_neg hjl, if_neg (by omega)]
      have HA4 : Hid (ArrAt (wr.drew.setCell ⟨P, k, none⟩ (.int .i64 u)) P (puK f g n_ (k + 1))) := by
        unfold Hid; rw [← hset]; exact ArrAt.set (show ArrAt wr.drew P _ from HA.out) (by omega) u
      have HG4 : Hid (ArrAt (wr.drew.setCell ⟨P, k, none⟩ (.int .i64 u)) w.heap.size g) := ArrAt.setOther (show ArrAt wr.drew w.heap.size g from HGr.out) (by omega) k _
      have HR4 : Hid (ArrAt (wr.drew.setCell ⟨P, k, none⟩ (.int .i64 u)) (w.heap.size + 1) fun _ => 0) := ArrAt.setOther (show ArrAt wr.drew (w.heap.size + 1) (fun _ => 0) from HR.out) (by omega) k _
      have HB4 : Hid (Below w.heap.size w (wr.drew.setCell ⟨P, k, none⟩ (.int .i64 u))) := (HBr.out.drew).setCell (by show w.heap.size ≤ P; omega) _
      have hQ5 : P ≠ Q := by omega
      have hA5 : P ≠ w.heap.size := by omega
      have hG5 : P ≠ gn := by omega
      have hx8 : (xn : Int) < 8 := by omega
      have hyn_ : (yn : Int) < (n_ : Int) := by omega
      obtain ⟨pv, hpv⟩ : ∃ pv, puK f g n_ k k = pv := ⟨_, rfl⟩
      rw [hpv] at ep
      clear hx hfx g0 g1 hyn hu hset hpv
      go_wp2_with fail
      refine wp_region_noPanic ?_
      refine wp_region_held_drew (S := fun W_ => W_.cell? ⟨Q, 11, none⟩ = some (.slice (some ⟨gn, 0, none⟩) n_ cn) ∧ W_.cell? ⟨w.heap.size, xn, none⟩ = some (.int .i64 (yn : Int)) ∧ W_.cell? ⟨gn, yn, none⟩ = some (.int .i64 u)) (by kernel_rfl) ?_ (fun hHeld => ?_)
      · exact ⟨i11, iy, iu⟩
      refine wpAnyH_take (i := 0) (oi := ⟨_, _, _, _, _, _⟩) (v := ?_) rfl (by kernel_rfl) (by kernel_rfl) (by kernel_rfl) (fun _ _ _ h => h) (Or.inl ⟨rfl, ?_⟩) (by assumption) ?_
      rotate_left 1
      · intro w_ hSw; (try dsimp only at hSw); go_simp; (try with_reducible rfl)
      (try simp only [Act.put, List.setIfInBounds_toArray, List.set_cons_zero, List.set_cons_succ])
      refine wpAnyH_take (i := 1) (oi := ⟨_, _, _, _, _, _⟩) (v := ?_) rfl (by kernel_rfl) (by kernel_rfl) (by kernel_rfl) (fun _ _ _ h => h) (Or.inl ⟨rfl, ?_⟩) (by assumption) ?_
      rotate_left 1
      · intro w_ hSw; (try dsimp only at hSw); go_simp; (try with_reducible rfl)
      (try simp only [Act.put, List.setIfInBounds_toArray, List.set_cons_zero, List.set_cons_succ])
      refine wpAnyH_take (i := 2) (oi := ⟨_, _, _, _, _, _⟩) (v := ?_) rfl (by kernel_rfl) (by kernel_rfl) (by kernel_rfl) (fun _ _ _ h => h) (Or.inl ⟨rfl, ?_⟩) (by assumption) ?_
      rotate_left 1
      · intro w_ hSw; (try dsimp only at hSw); go_simp; (try with_reducible rfl)
      (try simp only [Act.put, List.setIfInBounds_toArray, List.set_cons_zero, List.set_cons_succ])
      refine wpAnyH_take (i := 3) (oi := ⟨_, _, _, _, _, _⟩) (v := ?_) rfl (by kernel_rfl) (by kernel_rfl) (by kernel_rfl) (fun _ _ _ h => h) (Or.inl ⟨rfl, ?_⟩) (by assumption) ?_
      rotate_left 1
      · intro w_ hSw; (try dsimp only at hSw); go_simp; (try with_reducible rfl)
      (try simp only [Act.put, List.setIfInBounds_toArray, List.set_cons_zero, List.set_cons_succ])
      refine wpAnyH_take (i := 4) (oi := ⟨_, _, _, _, _, _⟩) (v := ?_) rfl (by kernel_rfl) (by kernel_rfl) (by kernel_rfl) (fun _ _ _ h => h) (Or.inl ⟨rfl, ?_⟩) (by assumption) ?_
      rotate_left 1
      · intro w_ hSw; (try dsimp only at hSw); go_simp; (try with_reducible rfl)
      (try simp only [Act.put, List.setIfInBounds_toArray, List.set_cons_zero, List.set_cons_succ])
      refine wpAnyH_take (i := 5) (oi := ⟨_, _, _, _, _, _⟩) (v := ?_) rfl (by kernel_rfl) (by kernel_rfl) (by kernel_rfl) (fun _ _ _ h => h) (Or.inl ⟨rfl, ?_⟩) (by assumption) ?_
      rotate_left 1
      · intro w_ hSw; (try dsimp only at hSw); go_simp; (try with_reducible rfl)
      (try simp only [Act.put, List.setIfInBounds_toArray, List.set_cons_zero, List.set_cons_succ])
      refine wpAnyH_take (i := 6) (oi := ⟨_, _, _, _, _, _⟩) (v := ?_) rfl (by kernel_rfl) (by kernel_rfl) (by kernel_rfl) (fun _ _ _ h => h) (Or.inl ⟨rfl, ?_⟩) (by assumption) ?_
      rotate_left 1
      · intro w_ hSw; (try dsimp only at hSw); go_simp; (try with_reducible rfl)
      (try simp only [Act.put, List.setIfInBounds_toArray, List.set_cons_zero, List.set_cons_succ])
      refine wpAnyH_take (i := 7) (oi := ⟨_, _, _, _, _, _⟩) (v := ?_) rfl (by kernel_rfl) (by kernel_rfl) (by kernel_rfl) (fun _ _ _ h => h) (Or.inl ⟨rfl, ?_⟩) (by assumption) ?_
      rotate_left 1
      · intro w_ hSw; (try dsimp only at hSw); go_simp; (try with_reducible rfl)
      (try simp only [Act.put, List.setIfInBounds_toArray, List.set_cons_zero, List.set_cons_succ])
      refine wpAnyH_take (i := 8) (oi := ⟨_, _, _, _, _, _⟩) (v := ?_) rfl (by kernel_rfl) (by kernel_rfl) (by kernel_rfl) (fun _ _ _ h => h) (Or.inl ⟨rfl, ?_⟩) (by assumption) ?_
      rotate_left 1
      · intro w_ hSw; (try dsimp only at hSw); go_simp; (try with_reducible rfl)
      (try simp only [Act.put, List.setIfInBounds_toArray, List.set_cons_zero, List.set_cons_succ])
      refine wpAnyH_take (i := 9) (oi := ⟨_, _, _, _, _, _⟩) (v := ?_) rfl (by kernel_rfl) (by kernel_rfl) (by kernel_rfl) (fun _ _ _ h => h) (Or.inl ⟨rfl, ?_⟩) (by assumption) ?_
      rotate_left 1
      · intro w_ hSw; (try dsimp only at hSw); go_simp; (try with_reducible rfl)
      (try simp only [Act.put, List.setIfInBounds_toArray, List.set_cons_zero, List.set_cons_succ])
      refine wpAnyH_take (i := 10) (oi := ⟨_, _, _, _, _, _⟩) (v := ?_) rfl (by kernel_rfl) (by kernel_rfl) (by kernel_rfl) (fun _ _ _ h => h) (Or.inl ⟨rfl, ?_⟩) (by assumption) ?_
      rotate_left 1
      · intro w_ hSw; (try dsimp only at hSw); go_simp; (try with_reducible rfl)
      (try simp only [Act.put, List.setIfInBounds_toArray, List.set_cons_zero, List.set_cons_succ])
      refine wpAnyH_ready (rs := [11]) (by kernel_rfl) (by simp) ?_
      refine AllReadyH.cons (o := ⟨_, _, _, _, _, _⟩) rfl (fun K hK => ?_) AllReadyH.nil
      go_simp
      refine hK.out _ _ ?_ (fun hHeld => ?_)
      · exact ⟨(World.cell?_setCell_other _ _ _ _ (fun e => hQ5 (congrArg Addr.block e))).trans i11, (World.cell?_setCell_other _ _ _ _ (fun e => hA5 (congrArg Addr.block e))).trans iy, (World.cell?_setCell_other _ _ _ _ (fun e => hG5 (congrArg Addr.block e))).trans iu⟩
      clear hK K
      (try simp only [Act.put, List.setIfInBounds_toArray, List.set_cons_zero, List.set_cons_succ])
      refine wpAnyH_done (by kernel_rfl) ?_ _
      refine NoPanic.normal ?_
      clear hHeld
      go_wp2_with fail
      go_roundw
      case rel => exact ⟨k + 1, by omega, by go_num, HA4, HG4, HR4, HB4⟩
      case measure => simp [intOf]; omega
    · have hkn : ¬ (k : Int) < (t : Int) := by omega
      obtain rfl : k = t := by omega
      have HN5 := Lib.hid (HR.out.setRow (f' := puK f g n_ k))
      have HN6 := Lib.hid (below_setRow HBr.out (show w.heap.size ≤ w.heap.size + 1 by omega) (arrV (puK f g n_ k)))
      go_wp2_with (first | (refine ld8 HA.out rfl _ rfl rfl ?_) | (refine st8 HR.out rfl _ _ rfl rfl rfl ?_))
      exact bodyPost_ret (ret8 rfl _ _ _ _ rfl HN5.out) rfl ⟨by rw [HT0.out], HN6.out⟩

def valPushCongruence (z : Int) (fs : List OpD) (xs ys : List Int) : List Int × Bool := if fcB z fs xs ys = true then (kerL (pvL (gI xs) (gI ys) z.toNat), true) else ([], false)
theorem smallPushCongruence (z : Int) (fs : List OpD) (xs ys : List Int) : (valPushCongruence z fs xs ys).1.length ≤ 4194304 := by
  unfold valPushCongruence
  split
  · rename_i h
    simp only [fcB, Bool.and_eq_true] at h
    have := (algOkB_of (cngB_of h.1).1).1
    have h2 := leP_len (gI xs) z.toNat
    show (kerL (pvL (gI xs) (gI ys) z.toNat)).length ≤ 4194304
    rw [kerL_len, pvL_len]; omega
  · simp
theorem psc_same {z : Int} {fs : List OpD} {xs ys : List Int} (h : fcB z fs xs ys = true) : lstP (leP (extP xs) z.toNat).length (puK (extP xs) (extP ys) z.toNat (leP (extP xs) z.toNat).length) = kerL (pvL (gI xs) (gI ys) z.toNat) := by
  simp only [fcB, Bool.and_eq_true] at h
  obtain ⟨h1, h2, h3⟩ := h
  obtain ⟨hlx, hox⟩ := partB_of (cngB_of h1).2.1
  obtain ⟨hly, hoy⟩ := partB_of (cngB_of h2).2.1
  have hn : z.toNat = xs.length := by omega
  have ox : okAll (extP xs) z.toNat = true := okAll_ext (xs := xs) (by omega) (by rw [hn]; exact hox)
  have oy : okAll (extP ys) z.toNat = true := okAll_ext (xs := ys) (by omega) (by rw [show z.toNat = ys.length by omega]; exact hoy)
  rw [push_same ox oy fun x hx => ?_]
  · unfold pvL
    rw [leP_congr (g := gI xs) fun x hx => extP_lt (by omega)]
    congr 1
    refine List.map_congr_left fun x hx => ?_
    obtain ⟨y, hy, _, rfl⟩ := leP_mem.1 hx
    exact extP_lt (by rw [Int.toNat_natCast]; omega)
  · have h4 := List.all_eq_true.1 h3 x (List.mem_range.2 (by omega))
    have h5 := (okAll_get ox hx).1
    rw [extP_lt (xs := xs) (by omega)] at h5 ⊢
    rw [extP_lt (xs := ys) (by omega), extP_lt (xs := ys) (by omega)]
    simpa using h4

set_option maxHeartbeats 4000000 in
set_option maxRecDepth 100000 in
theorem implPushCongruence (lo hi : Nat) (z : Int) (ao : Option Addr) (c n : Nat) (fs : List OpD) (lo2 hi2 : Nat) (bo : Option Addr) (d m : Nat) (xs : List Int) (lo3 hi3 : Nat) (po : Option Addr) (e_ l : Nat) (ys : List Int) (w : World) (hv : OView w lo hi ao n fs) (hhi : hi ≤ w.heap.size) (hs : ∀ (j : Nat) (f : OpD), fs[j]? = some f → f.2.length ≤ maxLen)
    (hx : IView w lo2 hi2 bo m xs) (hhi2 : hi2 ≤ w.heap.size) (hm : m ≤ maxLen) (hy : IView w lo3 hi3 po l ys) (hhi3 : hi3 ≤ w.heap.size) (hl : l ≤ maxLen) :
    Calls Try.prog 45 #[.agg #[.int .i64 z, .slice ao n c], .slice bo m d, .slice po l e_] w fun e w' => ResL w w' (valPushCongruence z fs xs ys).1 (valPushCongruence z fs xs ys).2 e := by
  have hB := below_alloc w (.cells #[.int .i64 z, .slice ao n c] 31)
  have HB0 := Lib.hid hB
  have hX0 : (w.alloc (.cells #[.int .i64 z, .slice ao n c] 31)).heap[w.heap.size]? = some (.cells #[.int .i64 z, .slice ao n c] 31 (0, 0)) := heap_alloc_new _ _
  obtain ⟨cz0, ca0, _⟩ := box_cells hX0
  have HS := Lib.hid (finCo_any lo hi z ao c n fs lo2 hi2 bo d m xs lo3 hi3 po e_ l ys _ (hv.kept (Kept.of_below hB hhi)) (Nat.le_trans hhi hB.size) hs (hx.kept (Kept.of_below hB hhi2)) (Nat.le_trans hhi2 hB.size) hm (hy.kept (Kept.of_below hB hhi3)) (Nat.le_trans hhi3 hB.size) hl)
  unfold ResFC at HS
  unfold ResL valPushCongruence
  cases hb : fcB z fs xs ys with
  | false =>
    rw [if_neg (by simp)]
    simp only [hb, Bool.false_eq_true, if_false] at HS
    clear hv hx hy hs hm hl hB hX0 hb
    go_enter Try.func45, Try.ntmps45
    go_wp2_with fail
    refine HS.out.mono ?_
    rintro e w1 ⟨b1, rfl⟩
    have HB1 := Lib.hid (HB0.out.trans (b1.mono HB0.out.size))
    clear b1
    go_wp2_with fail
    go_ret2
    exact ⟨_, _, _, rfl, rfl, OwnsInts.of_row (World.ownsRow_nil _ _ _ _), HB1.out⟩
  | true =>
    simp only [hb, if_true] at HS
    rw [if_pos rfl, ← psc_same hb]
    have hb2 := hb
    simp only [fcB, Bool.and_eq_true] at hb2
    obtain ⟨hok, hpx, _⟩ := cngB_of hb2.1
    obtain ⟨_, hpy, _⟩ := cngB_of hb2.2.1
    obtain ⟨⟨z1, z8⟩, _, _⟩ := algOkB_of hok
    obtain ⟨zn, hzn⟩ : ∃ zn : Nat, z.toNat = zn := ⟨_, rfl⟩
    have ox : okAll (extP xs) zn = true := okAll_ext (xs := xs) (by have := (partB_of hpx).1; omega) (by have h3 := partB_of hpx; rw [show zn = xs.length by omega]; exact h3.2)
    have oy : okAll (extP ys) zn = true := okAll_ext (xs := ys) (by have := (partB_of hpy).1; omega) (by have h3 := partB_of hpy; rw [show zn = ys.length by omega]; exact h3.2)
    obtain ⟨f, hf⟩ : ∃ f, extP xs = f := ⟨_, rfl⟩
    obtain ⟨g, hg⟩ : ∃ g, extP ys = g := ⟨_, rfl⟩
    rw [hf] at ox
    rw [hg] at oy
    rw [hzn, hf, hg] at HS ⊢
    have hmem : f 0 ∈ leP f zn := by
      obtain ⟨⟨a0, a1⟩, a2⟩ := okAll_get ox (show 0 < zn by omega)
      exact leP_mem.2 ⟨(f 0).toNat, by omega, by rw [a2]; omega, by omega⟩
    have htp := List.length_pos_of_mem hmem
    have hl8 := leP_len f zn
    have HPu := Lib.hid (fun (A Q : Nat) (va vb : Value) (W : World) (hq : QtS W A Q z ao n c f zn zn va vb) => push9_any A Q zn z ao n c f g va vb W hq (by omega) (by omega) ox oy)
    obtain ⟨t, ht⟩ : ∃ t, (leP f zn).length = t := ⟨_, rfl⟩
    rw [ht] at HPu htp hl8 ⊢
    obtain ⟨r, hr⟩ : ∃ r, puK f g zn t = r := ⟨_, rfl⟩
    rw [hr] at HPu ⊢
    have HLi := Lib.hid (fun (W : World) => listP_any r t W htp (by omega))
    unfold NewInts at HLi
    have HT0 := Lib.hid ht
    clear hv hx hy hs hm hl hB hX0 hb hb2 hok hpx hpy ox oy hf hg hmem htp hl8 z1 z8 hzn ht hr
    go_enter Try.func45, Try.ntmps45
    go_wp2_with fail
    refine HS.out.mono ?_
    rintro e w1 ⟨b1, A1, Q1, A2, Q2, va1, vb1, va2, vb2, rfl, hA1, hA2, hq1, hq2⟩
    have HB1 := Lib.hid (HB0.out.trans (b1.mono HB0.out.size))
    have hles := hq1.les
    rw [HT0.out] at hles
    obtain ⟨al, cl, rfl⟩ := own_form hles
    have d10 := (qt_cells hq1.box).2.2.1
    have HQ1 := Lib.hid hq1
    have hbx2 := hq2.box
    have hq2l := hq2.lt
    have hr2 := qt_range hbx2
    clear b1 hles hq1 hq2
    go_wp2_with fail
    refine wp_region_noPanic ?_
    refine wp_region_held_drew (S := fun W_ => W_.rangeAt Q2 2 (arrV g).toList ∧ W_.cell? ⟨Q1, 10, none⟩ = some (.slice al t cl)) (by kernel_rfl) ?_ (fun hHeld => ?_)
    · exact ⟨hr2, d10⟩
    refine wpAnyH_take (i := 0) (oi := ⟨_, _, _, _, _, _⟩) (v := ?_) rfl (by kernel_rfl) (by kernel_rfl) (by kernel_rfl) (fun _ _ _ h => h) (Or.inl ⟨rfl, ?_⟩) (by assumption) ?_
    rotate_left 1
    · intro w_ hSw; (try dsimp only at hSw); go_simp; (try with_reducible rfl)
    (try simp only [Act.put, List.setIfInBounds_toArray, List.set_cons_zero, List.set_cons_succ])
    refine wpAnyH_take (i := 1) (oi := ⟨_, _, _, _, _, _⟩) (v := ?_) rfl (by kernel_rfl) (by kernel_rfl) (by kernel_rfl) (fun _ _ _ h => h) (Or.inl ⟨rfl, ?_⟩) (by assumption) ?_
    rotate_left 1
    · intro w_ hSw; (try dsimp only at hSw); go_simp; (try with_reducible rfl)
    (try simp only [Act.put, List.setIfInBounds_toArray, List.set_cons_zero, List.set_cons_succ])
    refine wpAnyH_take (i := 2) (oi := ⟨_, _, _, _, _, _⟩) (v := ?_) rfl (by kernel_rfl) (by kernel_rfl) (by kernel_rfl) (fun _ _ _ h => h) (Or.inl ⟨rfl, ?_⟩) (by assumption) ?_
    rotate_left 1
    · intro w_ hSw; (try dsimp only at hSw); go_simp; (try with_reducible rfl)
    (try simp only [Act.put, List.setIfInBounds_toArray, List.set_cons_zero, List.set_cons_succ])
    refine wpAnyH_take (i := 3) (oi := ⟨_, _, _, _, _, _⟩) (v := ?_) rfl (by kernel_rfl) (by kernel_rfl) (by kernel_rfl) (fun _ _ _ h => h) (Or.inl ⟨rfl, ?_⟩) (by assumption) ?_
    rotate_left 1
    · intro w_ hSw; (try dsimp only at hSw); go_simp; (try with_reducible rfl)
    (try simp only [Act.put, List.setIfInBounds_toArray, List.set_cons_zero, List.set_cons_succ])
    refine wpAnyH_take (i := 4) (oi := ⟨_, _, _, _, _, _⟩) (v := .agg (arrV g)) rfl (by kernel_rfl) (by kernel_rfl) (by kernel_rfl) (fun _ _ _ h => h) (yieldsIf_load_mid rfl 70 _ rfl _ 2 rfl (arrV g).toList _ (fun _ h => h.1) Try.underlying70 rfl info8) (by assumption) ?_
    (try simp only [Act.put, List.setIfInBounds_toArray, List.set_cons_zero, List.set_cons_succ])
    refine wpAnyH_take (i := 6) (oi := ⟨_, _, _, _, _, _⟩) (v := ?_) rfl (by kernel_rfl) (by kernel_rfl) (by kernel_rfl) (fun _ _ _ h => h) (Or.inl ⟨rfl, ?_⟩) (by assumption) ?_
    rotate_left 1
    · intro w_ hSw; (try dsimp only at hSw); go_simp; (try with_reducible rfl)
    (try simp only [Act.put, List.setIfInBounds_toArray, List.set_cons_zero, List.set_cons_succ])
    refine wpAnyH_take (i := 7) (oi := ⟨_, _, _, _, _, _⟩) (v := ?_) rfl (by kernel_rfl) (by kernel_rfl) (by kernel_rfl) (fun _ _ _ h => h) (Or.inl ⟨rfl, ?_⟩) (by assumption) ?_
    rotate_left 1
    · intro w_ hSw; (try dsimp only at hSw); go_simp; (try with_reducible rfl)
    (try simp only [Act.put, List.setIfInBounds_toArray, List.set_cons_zero, List.set_cons_succ])
    refine wpAnyH_take (i := 8) (oi := ⟨_, _, _, _, _, _⟩) (v := ?_) rfl (by kernel_rfl) (by kernel_rfl) (by kernel_rfl) (fun _ _ _ h => h) (Or.inl ⟨rfl, ?_⟩) (by assumption) ?_
    rotate_left 1
    · intro w_ hSw; (try dsimp only at hSw); go_simp; (try with_reducible rfl)
    (try simp only [Act.put, List.setIfInBounds_toArray, List.set_cons_zero, List.set_cons_succ])
    refine wpAnyH_take (i := 9) (oi := ⟨_, _, _, _, _, _⟩) (v := ?_) rfl (by kernel_rfl) (by kernel_rfl) (by kernel_rfl) (fun _ _ _ h => h) (Or.inl ⟨rfl, ?_⟩) (by assumption) ?_
    rotate_left 1
    · intro w_ hSw; (try dsimp only at hSw); go_simp; (try with_reducible rfl)
    (try simp only [Act.put, List.setIfInBounds_toArray, List.set_cons_zero, List.set_cons_succ])
    refine wpAnyH_take (i := 10) (oi := ⟨_, _, _, _, _, _⟩) (v := ?_) rfl (by kernel_rfl) (by kernel_rfl) (by kernel_rfl) (fun _ _ _ h => h) (Or.inl ⟨rfl, ?_⟩) (by assumption) ?_
    rotate_left 1
    · intro w_ hSw; (try dsimp only at hSw); go_simp; (try with_reducible rfl)
    (try simp only [Act.put, List.setIfInBounds_toArray, List.set_cons_zero, List.set_cons_succ])
    refine wpAnyH_ready (rs := [5]) (by kernel_rfl) (by simp) ?_
    refine AllReadyH.cons (o := ⟨_, _, _, _, _, _⟩) rfl (fun K hK => ?_) AllReadyH.nil
    go_simp
    go_at_call 85
    refine (HPu.out A1 Q1 _ _ _ (show QtS w1.drew A1 Q1 z ao n c f zn zn _ _ from ⟨HQ1.out.box, HQ1.out.arr, HQ1.out.les, HQ1.out.nat, HQ1.out.ne⟩)).mono ?_
    rintro e_ w2 ⟨rfl, b2⟩
    have HB12 := Lib.hid (below_then (below_drew w1) b2)
    have HB2 := Lib.hid (HB1.out.trans (HB12.out.mono HB1.out.size))
    clear b2
    refine hK.out _ _ ?_ (fun hHeld => ?_)
    · exact ⟨qt_range ((HB12.out.block _ hq2l).trans hbx2), cell_b HB12.out d10⟩
    clear hK K
    (try simp only [Act.put, List.setIfInBounds_toArray, List.set_cons_zero, List.set_cons_succ])
    refine wpAnyH_ready (rs := [11]) (by kernel_rfl) (by simp) ?_
    refine AllReadyH.cons (o := ⟨_, _, _, _, _, _⟩) rfl (fun K hK => ?_) AllReadyH.nil
    go_simp
    go_at_call 86
    refine (HLi.out _).mono ?_
    rintro e_ w3 ⟨g3, d3, rfl, ho3, b3⟩
    have HB3 := Lib.hid (HB2.out.trans (b3.mono HB2.out.size))
    have HB13 := Lib.hid (HB12.out.trans (b3.mono HB12.out.size))
    have HO3 := Lib.hid (ownsRow_base ho3 HB2.out.size)
    clear ho3 b3
    refine hK.out _ _ ?_ (fun hHeld => ?_)
    · exact ⟨qt_range ((HB13.out.block _ hq2l).trans hbx2), cell_b HB13.out d10⟩
    clear hK K
    (try simp only [Act.put, List.setIfInBounds_toArray, List.set_cons_zero, List.set_cons_succ])
    refine wpAnyH_take (i := 12) (oi := ⟨_, _, _, _, _, _⟩) (v := ?_) rfl (by kernel_rfl) (by kernel_rfl) (by kernel_rfl) (fun _ _ _ h => h) (Or.inl ⟨rfl, ?_⟩) (by assumption) ?_
    rotate_left 1
    · intro w_ hSw; (try dsimp only at hSw); go_simp; (try with_reducible rfl)
    (try simp only [Act.put, List.setIfInBounds_toArray, List.set_cons_zero, List.set_cons_succ])
    refine wpAnyH_take (i := 13) (oi := ⟨_, _, _, _, _, _⟩) (v := ?_) rfl (by kernel_rfl) (by kernel_rfl) (by kernel_rfl) (fun _ _ _ h => h) (Or.inl ⟨rfl, ?_⟩) (by assumption) ?_
    rotate_left 1
    · intro w_ hSw; (try dsimp only at hSw); go_simp; (try with_reducible rfl)
    (try simp only [Act.put, List.setIfInBounds_toArray, List.set_cons_zero, List.set_cons_succ])
    refine wpAnyH_done (by kernel_rfl) ?_ _
    refine NoPanic.normal ?_
    clear hHeld
    go_wp2_with fail
    go_ret2
    exact ⟨_, _, _, rfl, (lstP_len _ _).symm, OwnsInts.of_row HO3.out, HB3.out⟩
end

section
open Go.RowKit
set_option linter.unusedVariables false
set_option linter.unusedSimpArgs false

set_option maxHeartbeats 4000000 in
set_option maxRecDepth 100000 in
theorem l9Push_any (lo2 hi2 : Nat) (bo : Option Addr) (d m : Nat) (xs : List Int) (lo3 hi3 : Nat) (po : Option Addr) (e_ : Nat) (ys : List Int) (w : World) (hx : IView w lo2 hi2 bo m xs) (hhi2 : hi2 ≤ w.heap.size) (hy : IView w lo3 hi3 po m ys) (hhi3 : hi3 ≤ w.heap.size) (h1 : 1 ≤ m) (h8 : m ≤ 8) :
    Calls Try.prog 84 #[.slice bo m d, .slice po m e_] w fun e w' => ListAt w w' (kerL (pvL (gI xs) (gI ys) m)) e := by
  have HLe := Lib.hid (l9Least_any lo2 hi2 bo d m xs w hx hhi2 h1 h8)
  have hyl := hy.1
  obtain ⟨b3_, o3_, rfl, _, hb3h, hc3⟩ := hy.at_ (show 0 < m by omega)
  have HC3 := Lib.hid (fun (x : Nat) (hx : x < m) => hc3 x _ (get_gI hyl hx))
  have hb3w : b3_ < w.heap.size := by omega
  unfold NewInts at HLe
  obtain ⟨f, hf⟩ : ∃ f, gI xs = f := ⟨_, rfl⟩
  obtain ⟨g, hg⟩ : ∃ g, gI ys = g := ⟨_, rfl⟩
  rw [hf] at HLe ⊢
  rw [hg] at HC3 ⊢
  have hl8 := leP_len f m
  obtain ⟨t, ht⟩ : ∃ t, (leP f m).length = t := ⟨_, rfl⟩
  rw [ht] at HLe hl8
  have HT0 := Lib.hid ht
  obtain ⟨i0, hi0, hz0, hz1, hz2⟩ := info_parts Try.infoInt
  clear hx hy hyl hc3 hf hg ht hhi2 hhi3
  unfold ListAt
  go_enter Try.func84, Try.ntmps84
  go_wp2_with fail
  refine HLe.out.mono ?_
  rintro e w2 ⟨gl, cl, rfl, ho2, b2⟩
  have HB2 := Lib.hid b2
  have HLs : Hid (∀ (j : Nat) (x : Int), (leP f m)[j]? = some x → w2.cell? ⟨gl, j, none⟩ = some (.int .i64 x)) := fun j x hx => by
    have hj : j < t := by have := (List.getElem?_eq_some_iff.1 hx).1; have := HT0.out; omega
    have h_ := ho2.cellAt j (by omega)
    rw [List.getElem?_map, hx] at h_
    exact h_
  obtain ⟨B, hBe⟩ : ∃ B, B = w2.heap.size := ⟨_, rfl⟩
  have HBe := Lib.hid hBe
  have HR0 : Hid ((w2.alloc (.cells #[] 3)).ownsRow B 3 1 (.slice (some ⟨w2.heap.size, 0, none⟩) 0 0) 0 (((pvL f g m).take 0).map (Value.int .i64))) := World.ownsRow_lit (base := B) (e := 3) (size := 1) w2 #[] 0 (by omega) (by decide) rfl
  have HBr0 : Hid (Below B w2 (w2.alloc (.cells #[] 3))) := (Below.refl _ _).alloc (by omega) _
  clear ho2 b2 hBe
  go_wp2_with fail
  go_loopw [6, 7] (fun v i wr => ∃ (j vc go : Nat), j ≤ t ∧ i = .int .i64 (j : Int) ∧ v = .slice (some ⟨go, 0, none⟩) j vc ∧ Hid (wr.ownsRow B 3 1 (.slice (some ⟨go, 0, none⟩) j vc) j (((pvL f g m).take j).map (Value.int .i64))) ∧ Hid (Below B w2 wr)) (fun _ i _ => t - (intOf i).toNat)
  case atStart => exact ⟨0, 0, _, Nat.zero_le _, rfl, rfl, HR0, HBr0⟩
  case round =>
    obtain ⟨j, vc, go, hj, rfl, rfl, HR, HBr⟩ := hrel
    clear HR0 HBr0
    by_cases hjm : j < t
    · have hjn : (j : Int) < (t : Int) := by omega
      obtain ⟨x, hx⟩ := get_of_lt HT0.out hjm
      obtain ⟨xn, hxn, _, rfl⟩ := leP_mem.1 (List.mem_of_getElem? hx)
      have hBw : Below w2.heap.size w2 wr := by rw [← HBe.out]; exact HBr.out
      have e1 := cell_b hBw (HLs.out j _ hx)
      have e3 : wr.cell? ⟨b3_, o3_ + xn, none⟩ = some (.int .i64 (g xn)) := ((HB2.out.trans (hBw.mono HB2.out.size)).cell (p := ⟨b3_, o3_ + xn, none⟩) hb3w).trans (HC3.out xn hxn)
      have hk : (pvL f g m).take (j + 1) = (pvL f g m).take j ++ [g xn] := by rw [List.take_add_one, pvL_get hx]; rfl
      obtain ⟨u, hu⟩ : ∃ u, g xn = u := ⟨_, rfl⟩
      rw [hu] at e3 hk
      have HK := Lib.hid hk
      have hBs : B ≤ wr.heap.size := by rw [HBe.out]; exact hBw.size
      have hxln : (xn : Int) < (m : Int) := by omega
      clear hx hu hk hBw
      go_wp2_with (at_builtin; refine wpList_append_own _ rfl _ _ 25 rfl B 3 i0 (.int .i64 0) 1 8 Try.underlying25 hi0 hz0 hz1 hz2 rfl (by decide) (.slice (some ⟨go, 0, none⟩) j vc) j (((pvL f g m).take j).map (Value.int .i64)) rfl (HR.out.alloc _) ⟨_, 0, none⟩ 1 1 [.int .i64 u] rfl rfl (cell_one_new _ _ _) (fun x hx => by simp at hx; subst hx; rfl) (by unfold maxLen; omega) (by omega) (by simp; omega) ?_; intro v' w7 hown' hgrow' hnil')
      obtain ⟨g3, cap, rfl⟩ := ownsRow_succ hown'
      have HB7 := Lib.hid ((HBr.out.alloc hBs (.cells #[.int .i64 u] 3)).grown hgrow' (by simp; omega) (fun q hq => (HR.out.lt q hq).1))
      have HO7 : Hid (w7.ownsRow B 3 1 (.slice (some ⟨g3, 0, none⟩) (j + 1) cap) (j + 1) (((pvL f g m).take (j + 1)).map (Value.int .i64))) := by
        unfold Hid
        rw [HK.out, List.map_append]
        exact hown'
      clear hown' hgrow' hnil'
      go_wp2_with fail
      go_roundw
      case rel => exact ⟨j + 1, cap, g3, by omega, by go_num, rfl, HO7, HB7⟩
      case measure => simp [intOf]; omega
    · have hjn : ¬ (j : Int) < (t : Int) := by omega
      obtain rfl : j = t := by omega
      have hall : (pvL f g m).take j = pvL f g m := List.take_of_length_le (by rw [pvL_len]; have := HT0.out; omega)
      have hR := HR.out
      rw [hall] at hR
      have hP := kernel9_spec B wr.heap.size (some ⟨go, 0, none⟩) vc j (pvL f g m) wr (IView.of_owns hR (Nat.le_refl _)) (Nat.le_refl _) (by omega)
      unfold ListAt at hP
      have HP := Lib.hid hP
      have HBw : Hid (Below w.heap.size w wr) := HB2.out.trans ((show Below w2.heap.size w2 wr by rw [← HBe.out]; exact HBr.out).mono HB2.out.size)
      clear hall hR hP
      go_wp2_with fail
      refine HP.out.mono ?_
      rintro e w4 ⟨ga, gm, gd, rfl, hgm, ho, b4⟩
      have HO := Lib.hid (ownsRow_base ho HBw.out.size)
      have HB4 := Lib.hid (HBw.out.trans (b4.mono HBw.out.size))
      have HGm := Lib.hid hgm
      clear ho b4 hgm
      go_wp2_with fail
      go_ret
      exact ⟨ga, gm, gd, rfl, HGm.out, HO.out, HB4.out⟩

set_option maxHeartbeats 2000000 in
theorem specPushCongruence (lo hi : Nat) (z : Int) (ao : Option Addr) (c n : Nat) (fs : List OpD) (lo2 hi2 : Nat) (bo : Option Addr) (d m : Nat) (xs : List Int) (lo3 hi3 : Nat) (po : Option Addr) (e_ l : Nat) (ys : List Int) (w : World) (hv : OView w lo hi ao n fs) (hhi : hi ≤ w.heap.size) (hs : ∀ (j : Nat) (f : OpD), fs[j]? = some f → f.2.length ≤ maxLen)
    (hx : IView w lo2 hi2 bo m xs) (hhi2 : hi2 ≤ w.heap.size) (hm : m ≤ maxLen) (hy : IView w lo3 hi3 po l ys) (hhi3 : hi3 ≤ w.heap.size) (hl : l ≤ maxLen) :
    Calls Try.prog 44 #[.agg #[.int .i64 z, .slice ao n c], .slice bo m d, .slice po l e_] w fun e w' => ResL w w' (valPushCongruence z fs xs ys).1 (valPushCongruence z fs xs ys).2 e := by
  have hB := below_alloc w (.cells #[.int .i64 z, .slice ao n c] 31)
  have HB0 := Lib.hid hB
  have hX0 : (w.alloc (.cells #[.int .i64 z, .slice ao n c] 31)).heap[w.heap.size]? = some (.cells #[.int .i64 z, .slice ao n c] 31 (0, 0)) := heap_alloc_new _ _
  obtain ⟨cz0, ca0, _⟩ := box_cells hX0
  have HC := Lib.hid (l9Two_any lo hi z ao c n fs lo2 hi2 bo d m xs lo3 hi3 po e_ l ys _ (hv.kept (Kept.of_below hB hhi)) (Nat.le_trans hhi hB.size) hs (hx.kept (Kept.of_below hB hhi2)) (Nat.le_trans hhi2 hB.size) hm (hy.kept (Kept.of_below hB hhi3)) (Nat.le_trans hhi3 hB.size) hl)
  unfold ResL valPushCongruence
  cases hb : fcB z fs xs ys with
  | false =>
    rw [if_neg (by simp)]
    simp only [hb] at HC
    clear hv hx hy hs hm hl hB hX0 hb
    go_enter Try.func44, Try.ntmps44
    go_wp2_with fail
    refine HC.out.mono ?_
    rintro e w1 ⟨rfl, b1⟩
    have HB1 := Lib.hid (HB0.out.trans (b1.mono HB0.out.size))
    have HO0 := Lib.hid (World.ownsRow_lit (base := w.heap.size) (e := 3) (size := 1) w1 #[] 0 HB1.out.size (by decide) rfl)
    have HBZ := Lib.hid (HB1.out.alloc HB1.out.size (.cells #[] 3))
    clear b1
    go_wp2_with fail
    go_ret2
    exact ⟨_, _, _, rfl, rfl, OwnsInts.of_row HO0.out, HBZ.out⟩
  | true =>
    simp only [hb] at HC
    rw [if_pos rfl]
    have hb2 := hb
    simp only [fcB, Bool.and_eq_true] at hb2
    obtain ⟨hok, hpx, _⟩ := cngB_of hb2.1
    obtain ⟨_, hpy, _⟩ := cngB_of hb2.2.1
    obtain ⟨⟨z1, z8⟩, _, _⟩ := algOkB_of hok
    have hlx := (partB_of hpx).1
    have hly := (partB_of hpy).1
    have hxm := hx.1
    have hyl := hy.1
    obtain rfl : m = l := by omega
    have hzl : z.toNat = m := by omega
    have HP := Lib.hid (fun (W : World) (hW : Below w.heap.size w W) => l9Push_any lo2 hi2 bo d m xs lo3 hi3 po e_ ys W (hx.kept (Kept.of_below hW hhi2)) (Nat.le_trans hhi2 hW.size) (hy.kept (Kept.of_below hW hhi3)) (Nat.le_trans hhi3 hW.size) (by omega) (by omega))
    unfold ListAt at HP
    rw [hzl]
    clear hv hx hy hs hm hl hB hX0 hb hb2 hok hpx hpy z1 z8 hlx hly hxm hyl hzl
    go_enter Try.func44, Try.ntmps44
    go_wp2_with fail
    refine HC.out.mono ?_
    rintro e w1 ⟨rfl, b1⟩
    have HB1 := Lib.hid (HB0.out.trans (b1.mono HB0.out.size))
    clear b1
    go_wp2_with fail
    refine (HP.out _ HB1.out).mono ?_
    rintro e w2 ⟨ga, gm, gd, rfl, hgm, ho, b2⟩
    have HB2 := Lib.hid (HB1.out.trans (b2.mono HB1.out.size))
    have HO := Lib.hid (ownsRow_base ho HB1.out.size)
    have HGm := Lib.hid hgm
    clear ho b2 hgm
    go_wp2_with fail
    go_ret2
    exact ⟨_, _, _, rfl, HGm.out, OwnsInts.of_row HO.out, HB2.out⟩
end

end Go.Proofs.Ytcmjkfcgekmomaa
