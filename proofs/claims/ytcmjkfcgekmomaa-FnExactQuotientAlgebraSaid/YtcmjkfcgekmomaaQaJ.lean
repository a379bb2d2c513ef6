/-
  QtM, QtL, QtI, QtO, RstM, FnC, Two9, SbaM, OpF, Qal, QalI, QalS, QalT in one text. Conditions: as each theorem names them.
-/
import Derived.Test.YtcmjkfcgekmomaaKrlM
import Derived.Test.YtcmjkfcgekmomaaPartM
import Derived.Test.YtcmjkfcgekmomaaSetQ
import Derived.Test.YtcmjkfcgekmomaaClone
import Derived.Test.YtcmjkfcgekmomaaStep
import Derived.Test.YtcmjkfcgekmomaaPartL
import Derived.Test.YtcmjkfcgekmomaaPlc
import Derived.Test.YtcmjkfcgekmomaaApp
import Derived.Test.YtcmjkfcgekmomaaBuilt
import Derived.Deep.RegionHeld3
import Derived.Maps.AppendAt
import Derived.Test.YtcmjkfcgekmomaaCgJ
import Derived.Test.YtcmjkfcgekmomaaIsuJ
import Derived.Test.YtcmjkfcgekmomaaPartK
import Derived.Deep.MidRow
import Derived.Test.YtcmjkfcgekmomaaDigs
import Derived.Test.YtcmjkfcgekmomaaPlM
import Derived.Test.YtcmjkfcgekmomaaIdx
import Derived.Test.YtcmjkfcgekmomaaMake
import Derived.Shelf.Abstract
import Derived.Deep.DrawnRows
import Derived.Test.YtcmjkfcgekmomaaIdxV
namespace Go.Proofs.Ytcmjkfcgekmomaa
section
open Go.RowKit
set_option linter.unusedVariables false
set_option linter.unusedSimpArgs false

/-- The least elements of blocks below k. -/
def leP (f : Nat → Int) : Nat → List Int
  | 0 => []
  | k + 1 => leP f k ++ (if f k = (k : Int) then [(k : Int)] else [])
theorem leP_yes {f : Nat → Int} {k : Nat} (h : f k = (k : Int)) : leP f (k + 1) = leP f k ++ [(k : Int)] := by rw [leP, if_pos h]
theorem leP_no {f : Nat → Int} {k : Nat} (h : ¬ f k = (k : Int)) : leP f (k + 1) = leP f k := by rw [leP, if_neg h, List.append_nil]
theorem leP_mem {f : Nat → Int} {v : Int} : ∀ {k : Nat}, v ∈ leP f k ↔ ∃ y : Nat, y < k ∧ f y = (y : Int) ∧ v = (y : Int)
  | 0 => by simp [leP]
  | k + 1 => by
    rw [leP, List.mem_append, leP_mem (k := k)]
    constructor
    · rintro (⟨y, h1, h2, h3⟩ | h)
      · exact ⟨y, by omega, h2, h3⟩
      · by_cases hk : f k = (k : Int)
        · rw [if_pos hk] at h
          exact ⟨k, by omega, hk, by simpa using h⟩
        · rw [if_neg hk] at h; cases h
    · rintro ⟨y, h1, h2, h3⟩
      by_cases hy : y < k
      · exact .inl ⟨y, hy, h2, h3⟩
      · obtain rfl : y = k := by omega
        right
        rw [if_pos h2, h3]; simp
theorem leP_len (f : Nat → Int) : ∀ k, (leP f k).length ≤ k
  | 0 => Nat.le_refl _
  | k + 1 => by
    have := leP_len f k
    rw [leP, List.length_append]
    split <;> simp <;> omega
theorem leP_congr {f g : Nat → Int} : ∀ {k : Nat}, (∀ x, x < k → f x = g x) → leP f k = leP g k
  | 0, _ => rfl
  | k + 1, h => by rw [leP, leP, leP_congr fun x hx => h x (by omega), h k (by omega)]
theorem leP_pre (f : Nat → Int) (k : Nat) : ∀ d, ∃ r, leP f (k + d) = leP f k ++ r
  | 0 => ⟨[], by simp⟩
  | d + 1 => by
    obtain ⟨r, hr⟩ := leP_pre f k d
    exact ⟨r ++ (if f (k + d) = ((k + d : Nat) : Int) then [((k + d : Nat) : Int)] else []), by rw [← Nat.add_assoc, leP, hr, List.append_assoc]⟩
theorem ixP_app {v : Int} {r : List Int} : ∀ {l : List Int}, v ∈ l → ixP (l ++ r) v = ixP l v
  | [], h => by cases h
  | y :: l, h => by
    rw [List.cons_append, ixP, ixP]
    by_cases hy : y = v
    · rw [if_pos hy, if_pos hy]
    · rw [if_neg hy, if_neg hy, ixP_app (by rcases List.mem_cons.1 h with h | h; exact absurd h.symm hy; exact h)]
theorem plI_app {v : Int} {l r : List Int} (h : v ∈ l) : plI (l ++ r) v = plI l v := by
  unfold plI
  rw [if_pos h, if_pos (List.mem_append_left _ h), ixP_app h]
theorem plI_last {v : Int} {l : List Int} (h : ¬ v ∈ l) : plI (l ++ [v]) v = (l.length : Int) := by
  refine plI_hit (q := l.length) ?_ ?_
  · rw [List.getElem?_append_right (Nat.le_refl _), Nat.sub_self]; rfl
  · rw [List.take_append_of_le_length (Nat.le_refl _), List.take_length]; exact h
/-- The number of the block of an element. -/
def naI (f : Nat → Int) (x : Nat) : Int := plI (leP f (x + 1)) (f x)
theorem naI_new {f : Nat → Int} {x : Nat} (h : f x = (x : Int)) : naI f x = ((leP f x).length : Int) := by
  unfold naI
  rw [leP_yes h, h]
  refine plI_last fun hm => ?_
  obtain ⟨y, h1, h2, h3⟩ := leP_mem.1 hm
  omega
theorem naI_old {f : Nat → Int} {x y : Nat} (h : f x = (y : Int)) (hy : y < x) (hf : f y = (y : Int)) : naI f x = naI f y := by
  unfold naI
  obtain ⟨r, hr⟩ := leP_pre f (y + 1) (x - y)
  rw [show y + 1 + (x - y) = x + 1 by omega] at hr
  rw [hr, h, hf]
  exact plI_app (leP_mem.2 ⟨y, by omega, hf, rfl⟩)
theorem plI_lt {l : List Int} {v : Int} (h : v ∈ l) : 0 ≤ plI l v ∧ plI l v < l.length := by
  unfold plI
  rw [if_pos h]
  have := ixP_lt h
  omega
theorem naI_bd {f : Nat → Int} {n x : Nat} (hf : okAll f n = true) (hx : x < n) : 0 ≤ naI f x ∧ naI f x < (leP f (x + 1)).length := by
  obtain ⟨⟨h0, h1⟩, h2⟩ := okAll_get hf hx
  refine plI_lt (leP_mem.2 ⟨(f x).toNat, by omega, by rw [h2]; omega, by omega⟩)
theorem naI_congr {f g : Nat → Int} {x : Nat} (h : ∀ y, y < x + 1 → f y = g y) : naI f x = naI g x := by
  unfold naI; rw [leP_congr h, h x (by omega)]
end

section
open Go.RowKit
set_option linter.unusedVariables false
set_option linter.unusedSimpArgs false

set_option maxHeartbeats 2000000 in
theorem l9Map_any (lo hi : Nat) (ao : Option Addr) (c m : Nat) (xs : List Int) (w : World) (hx : IView w lo hi ao m xs) (hhi : hi ≤ w.heap.size) (h1 : 1 ≤ m) (h8 : m ≤ 8) (hok : okAll (gI xs) m = true) :
    Calls Try.prog 72 #[.slice ao m c] w fun e w' => NewInts w w' m (lstP m (naI (gI xs))) e := by
  obtain ⟨b, o, rfl, _, hbh, hc⟩ := hx.at_ (show 0 < m by omega)
  have hl := hx.1
  obtain ⟨f, hf⟩ : ∃ f, gI xs = f := ⟨_, rfl⟩
  have HC0 : Hid (∀ j, j < m → w.cell? ⟨b, o + j, none⟩ = some (.int .i64 (f j))) := fun j hj => by rw [← hf]; exact hc j _ (get_gI hl hj)
  rw [hf] at hok ⊢
  have HOk := Lib.hid hok
  have hb : b < w.heap.size := by omega
  obtain ⟨i0, hi0, hz0, hz1, hz2⟩ := info_parts Try.infoInt
  have HO0 := Lib.hid (World.ownsRow_lit (base := w.heap.size) (e := 3) (size := 1) w #[] 0 (Nat.le_refl _) (by decide) rfl)
  have HB0 := Lib.hid (below_alloc w (.cells #[] 3))
  clear hx hc hl hf hok
  unfold NewInts
  go_enter Try.func72, Try.ntmps72
  go_wp2_with fail
  go_loopw [3, 4, 5] (fun v cn i wr => ∃ k g d : Nat, k ≤ m ∧ i = .int .i64 (k : Int) ∧ cn = .int .i64 ((leP f k).length : Int) ∧ v = .slice (some ⟨g, 0, none⟩) k d ∧ Hid (wr.ownsRow w.heap.size 3 1 (.slice (some ⟨g, 0, none⟩) k d) k ((lstP k (naI f)).map (Value.int .i64))) ∧ Hid (Below w.heap.size w wr)) (fun _ _ i _ => m - (intOf i).toNat)
  case atStart => exact ⟨0, _, _, Nat.zero_le _, rfl, rfl, rfl, HO0, HB0⟩
  case round =>
    obtain ⟨k, g, d, hk, rfl, rfl, rfl, HR, HBr⟩ := hrel
    by_cases hlt : k < m
    · have hkm : (k : Int) < (m : Int) := by omega
      have e1 : wr.cell? ⟨b, o + k, none⟩ = some (.int .i64 (f k)) := (HBr.out.cell (p := ⟨b, o + k, none⟩) hb).trans (HC0.out k hlt)
      obtain ⟨⟨h0, hk1⟩, hff⟩ := okAll_get HOk.out hlt
      have hle := leP_len f k
      by_cases hfk : f k = (k : Int)
      · have HNew : Hid (lstP (k + 1) (naI f) = lstP k (naI f) ++ [((leP f k).length : Int)]) := by unfold Hid; rw [lstP_succ, naI_new hfk]
        have HLe : Hid (((leP f (k + 1)).length : Int) = ((leP f k).length : Int) + 1) := by unfold Hid; rw [leP_yes hfk, List.length_append]; simp
        obtain ⟨t, ht⟩ : ∃ t, (leP f k).length = t := ⟨_, rfl⟩
        rw [ht] at HNew HLe hle ⊢
        rw [hfk] at e1
        clear h0 hk1 hff hfk ht
        go_wp2_with (at_builtin; refine wpList_append_own _ rfl _ _ 25 rfl w.heap.size 3 i0 (.int .i64 0) 1 8 Try.underlying25 hi0 hz0 hz1 hz2 rfl (by decide) (.slice (some ⟨g, 0, none⟩) k d) k ((lstP k (naI f)).map (Value.int .i64)) rfl (HR.out.alloc _) ⟨_, 0, none⟩ 1 1 [.int .i64 (t : Int)] rfl rfl (cell_one_new _ _ _) (fun x hx => by simp at hx; subst hx; rfl) (by unfold maxLen; omega) (by omega) (by have := HBr.out.size; simp; omega) ?_; intro v' w3 hown' hgrow' hnil')
        obtain ⟨g3, cap, rfl⟩ := ownsRow_succ hown'
        have HB3 := Lib.hid ((HBr.out.alloc HBr.out.size (.cells #[.int .i64 (t : Int)] 3)).grown hgrow' (by have := HBr.out.size; simp; omega) (fun q hq => (HR.out.lt q hq).1))
        have HO3 : Hid (w3.ownsRow w.heap.size 3 1 (.slice (some ⟨g3, 0, none⟩) (k + 1) cap) (k + 1) ((lstP (k + 1) (naI f)).map (Value.int .i64))) := by
          unfold Hid
          rw [HNew.out, List.map_append]
          exact hown'
        clear hown' hgrow' hnil'
        go_wp2_with fail
        go_roundw
        case rel => exact ⟨k + 1, g3, cap, by omega, by go_num, by rw [HLe.out], rfl, HO3, HB3⟩
        case measure => simp [intOf]; omega
      · obtain ⟨y, hy⟩ : ∃ y : Nat, f k = (y : Int) := ⟨(f k).toNat, by omega⟩
        have hyk : y < k := by
          rcases Nat.lt_or_ge y k with h | h
          · exact h
          · exact absurd (show f k = (k : Int) by omega) hfk
        have hfy : f y = (y : Int) := by rw [hy, Int.toNat_natCast] at hff; exact hff
        obtain ⟨u, hu⟩ : ∃ u, naI f y = u := ⟨_, rfl⟩
        have HNew : Hid (lstP (k + 1) (naI f) = lstP k (naI f) ++ [u]) := by unfold Hid; rw [lstP_succ, naI_old hy hyk hfy, hu]
        have HLe : Hid (leP f (k + 1) = leP f k) := leP_no hfk
        have e2 : wr.cell? ⟨g, y, none⟩ = some (.int .i64 u) := by
          have h_ := HR.out.cellAt y (by omega)
          rw [List.getElem?_map, lstP_get _ hyk, hu] at h_
          exact h_
        have hne : (f k == (k : Int)) = false := by rw [beq_eq_false_iff_ne]; exact hfk
        rw [hy] at e1 hne
        have hykn : (y : Int) < (k : Int) := by omega
        have hymn : (y : Int) < (m : Int) := by omega
        clear h0 hk1 hff hfk hu hy hfy
        go_wp2_with (at_builtin; refine wpList_append_own _ rfl _ _ 25 rfl w.heap.size 3 i0 (.int .i64 0) 1 8 Try.underlying25 hi0 hz0 hz1 hz2 rfl (by decide) (.slice (some ⟨g, 0, none⟩) k d) k ((lstP k (naI f)).map (Value.int .i64)) rfl (HR.out.alloc _) ⟨_, 0, none⟩ 1 1 [.int .i64 u] rfl rfl (cell_one_new _ _ _) (fun x hx => by simp at hx; subst hx; rfl) (by unfold maxLen; omega) (by omega) (by have := HBr.out.size; simp; omega) ?_; intro v' w3 hown' hgrow' hnil')
        obtain ⟨g3, cap, rfl⟩ := ownsRow_succ hown'
        have HB3 := Lib.hid ((HBr.out.alloc HBr.out.size (.cells #[.int .i64 u] 3)).grown hgrow' (by have := HBr.out.size; simp; omega) (fun q hq => (HR.out.lt q hq).1))
        have HO3 : Hid (w3.ownsRow w.heap.size 3 1 (.slice (some ⟨g3, 0, none⟩) (k + 1) cap) (k + 1) ((lstP (k + 1) (naI f)).map (Value.int .i64))) := by
          unfold Hid
          rw [HNew.out, List.map_append]
          exact hown'
        clear hown' hgrow' hnil'
        go_wp2_with fail
        go_roundw
        case rel => exact ⟨k + 1, g3, cap, by omega, by go_num, by rw [HLe.out], rfl, HO3, HB3⟩
        case measure => simp [intOf]; omega
    · have hkm : ¬ (k : Int) < (m : Int) := by omega
      obtain rfl : k = m := by omega
      go_wp2_with fail
      go_ret
      exact ⟨g, d, rfl, HR.out, HBr.out⟩
end

section
open Go.RowKit
set_option linter.unusedVariables false
set_option linter.unusedSimpArgs false

/-- The cells of a quotient. -/
def qtArr (z : Int) (ao : Option Addr) (n c : Nat) (f : Nat → Int) (va vb : Value) : Array Value :=
  #[.int .i64 z, .slice ao n c, .int .i64 (f 0), .int .i64 (f 1), .int .i64 (f 2), .int .i64 (f 3), .int .i64 (f 4), .int .i64 (f 5), .int .i64 (f 6), .int .i64 (f 7), va, vb]
theorem qt_cells {W : World} {Q : Nat} {z : Int} {ao : Option Addr} {n c : Nat} {f : Nat → Int} {va vb : Value} (h : W.heap[Q]? = some (.cells (qtArr z ao n c f va vb) 76 (0, 0))) :
    W.cell? ⟨Q, 0, none⟩ = some (.int .i64 z) ∧ W.cell? ⟨Q, 1, none⟩ = some (.slice ao n c) ∧ W.cell? ⟨Q, 10, none⟩ = some va ∧ W.cell? ⟨Q, 11, none⟩ = some vb ∧ (∀ j, W.frozen? ⟨Q, j, none⟩ = false) :=
  ⟨by rw [cell_of_row W Q 0 _ _ (0, 0) h]; rfl, by rw [cell_of_row W Q 1 _ _ (0, 0) h]; rfl, by rw [cell_of_row W Q 10 _ _ (0, 0) h]; rfl, by rw [cell_of_row W Q 11 _ _ (0, 0) h]; rfl, fun j => by simp [World.frozen?, h]⟩
theorem qt_set10 {W : World} {Q : Nat} {z : Int} {ao : Option Addr} {n c : Nat} {f : Nat → Int} {va vb : Value} (v : Value) (h : W.heap[Q]? = some (.cells (qtArr z ao n c f va vb) 76 (0, 0))) : (W.setCell ⟨Q, 10, none⟩ v).heap[Q]? = some (.cells (qtArr z ao n c f v vb) 76 (0, 0)) := by
  simp [World.setCell, Array.getElem?_modify, h, qtArr]
theorem qt_set11 {W : World} {Q : Nat} {z : Int} {ao : Option Addr} {n c : Nat} {f : Nat → Int} {va vb : Value} (v : Value) (h : W.heap[Q]? = some (.cells (qtArr z ao n c f va vb) 76 (0, 0))) : (W.setCell ⟨Q, 11, none⟩ v).heap[Q]? = some (.cells (qtArr z ao n c f va v) 76 (0, 0)) := by
  simp [World.setCell, Array.getElem?_modify, h, qtArr]

/-- A quotient under way: its box Q, the array A, the least elements up to k1 and the numbers up to k. -/
structure QtS (W : World) (A Q : Nat) (z : Int) (ao : Option Addr) (n c : Nat) (f : Nat → Int) (k1 k : Nat) (va vb : Value) : Prop where
  box : W.heap[Q]? = some (.cells (qtArr z ao n c f va vb) 76 (0, 0))
  arr : ArrAt W A f
  les : W.ownsRow (Q + 1) 3 1 va (leP f k1).length ((leP f k1).map (Value.int .i64))
  nat : W.ownsRow (Q + 1) 3 1 vb k ((lstP k (naI f)).map (Value.int .i64))
  ne : ∀ b, va.ownBlock = some b → vb.ownBlock ≠ some b
theorem QtS.lt {W : World} {A Q : Nat} {z : Int} {ao : Option Addr} {n c : Nat} {f : Nat → Int} {k1 k : Nat} {va vb : Value} (h : QtS W A Q z ao n c f k1 k va vb) : Q < W.heap.size := (Array.getElem?_eq_some_iff.1 h.box).1
theorem QtS.boxGrown {W w3 : World} {A Q : Nat} {z : Int} {ao : Option Addr} {n c : Nat} {f : Nat → Int} {k1 k : Nat} {va vb : Value} (h : QtS W A Q z ao n c f k1 k va vb) {ob : Obj} (hg : (W.drew.alloc ob).grownBy w3 vb.ownBlock) : w3.heap[Q]? = some (.cells (qtArr z ao n c f va vb) 76 (0, 0)) := by
  have hl := h.lt
  refine (hg.block Q (by simp; omega) (fun e => ?_)).trans ((Below.heap_alloc _ _ _ (show Q < W.drew.heap.size from hl)).trans h.box)
  have := (h.nat.lt Q e.symm).1
  omega
theorem QtS.natPut {W w3 : World} {A Q : Nat} {z : Int} {ao : Option Addr} {n c : Nat} {f : Nat → Int} {k1 k k' : Nat} {va vb v' : Value} (h : QtS W A Q z ao n c f k1 k va vb) (hA : A < Q) {ob : Obj}
    (hown : w3.ownsRow (Q + 1) 3 1 v' k' ((lstP k' (naI f)).map (Value.int .i64))) (hg : (W.drew.alloc ob).grownBy w3 vb.ownBlock) (hat : v'.ownBlock = vb.ownBlock ∨ v'.ownBlock = some (W.drew.alloc ob).heap.size) : QtS (w3.setCell ⟨Q, 11, none⟩ v') A Q z ao n c f k1 k' va v' := by
  have hl := h.lt
  have hs : (W.drew.alloc ob).heap.size = W.heap.size + 1 := by simp
  refine ⟨qt_set11 v' (h.boxGrown hg), ?_, ?_, ownsRow_setCell_below hown (show Q < Q + 1 by omega) _, ?_⟩
  · have h1 : ArrAt (W.drew.alloc ob) A f := ArrAt.alloc (show ArrAt W.drew A f from h.arr) ob
    have h2 := h1.block (hg.block A h1.lt (fun e => by have := (h.nat.lt A e.symm).1; omega))
    exact h2.setOther (by omega) 11 _
  · have h1 : (W.drew.alloc ob).ownsRow (Q + 1) 3 1 va (leP f k1).length ((leP f k1).map (Value.int .i64)) := World.ownsRow.alloc (show W.drew.ownsRow _ _ _ _ _ _ from h.les) ob
    refine ownsRow_setCell_below (h1.kept hg ?_) (show Q < Q + 1 by omega) _
    cases hb : va.ownBlock with
    | none => exact .inl rfl
    | some b => exact .inr (fun e => h.ne b hb e.symm)
  · intro b hb hb2
    rcases hat with e | e
    · exact h.ne b hb (e ▸ hb2)
    · rw [e] at hb2
      injection hb2 with hb2
      have := (h.les.lt b hb).2
      omega
theorem QtS.lesPut {W w3 : World} {A Q : Nat} {z : Int} {ao : Option Addr} {n c : Nat} {f : Nat → Int} {k1 k1' k : Nat} {va vb v' : Value} (h : QtS W A Q z ao n c f k1 k va vb) (hA : A < Q) {ob : Obj}
    (hown : w3.ownsRow (Q + 1) 3 1 v' (leP f k1').length ((leP f k1').map (Value.int .i64))) (hg : (W.alloc ob).grownBy w3 va.ownBlock) (hat : v'.ownBlock = va.ownBlock ∨ v'.ownBlock = some (W.alloc ob).heap.size) :
    QtS (w3.setCell ⟨Q, 10, none⟩ v') A Q z ao n c f k1' k v' vb ∧ w3.heap[Q]? = some (.cells (qtArr z ao n c f va vb) 76 (0, 0)) := by
  have hl := h.lt
  have hs : (W.alloc ob).heap.size = W.heap.size + 1 := by simp
  have hbx : w3.heap[Q]? = some (.cells (qtArr z ao n c f va vb) 76 (0, 0)) := by
    refine (hg.block Q (by omega) (fun e => ?_)).trans ((Below.heap_alloc _ _ _ hl).trans h.box)
    have := (h.les.lt Q e.symm).1
    omega
  refine ⟨⟨qt_set10 v' hbx, ?_, ownsRow_setCell_below hown (show Q < Q + 1 by omega) _, ?_, ?_⟩, hbx⟩
  · have h1 : ArrAt (W.alloc ob) A f := h.arr.alloc ob
    have h2 := h1.block (hg.block A h1.lt (fun e => by have := (h.les.lt A e.symm).1; omega))
    exact h2.setOther (by omega) 10 _
  · refine ownsRow_setCell_below ((h.nat.alloc ob).kept hg ?_) (show Q < Q + 1 by omega) _
    cases hb : va.ownBlock with
    | none =>
      cases hb2 : vb.ownBlock with
      | none => exact .inl rfl
      | some b => exact .inr (by simp)
    | some b => exact .inr (h.ne b hb)
  · intro b hb hb2
    rcases hat with e | e
    · exact h.ne b (e ▸ hb) hb2
    · rw [e] at hb
      injection hb with hb
      have := (h.nat.lt b hb2).2
      omega
theorem QtS.more {W : World} {A Q : Nat} {z : Int} {ao : Option Addr} {n c : Nat} {f : Nat → Int} {k1 k k1' : Nat} {va vb : Value} (h : QtS W A Q z ao n c f k1 k va vb) (he : leP f k1' = leP f k1) : QtS W A Q z ao n c f k1' k va vb :=
  ⟨h.box, h.arr, by rw [he]; exact h.les, h.nat, h.ne⟩

/-- A new quotient. -/
def NewQt (w w' : World) (z : Nat) (ao : Option Addr) (n c : Nat) (f : Nat → Int) (e : Ending) : Prop := ∃ va vb, e = .returned (.pointer (some ⟨w.heap.size + 1 + 1, 0, none⟩)) ∧ QtS w' (w.heap.size + 1) (w.heap.size + 1 + 1) (z : Int) ao n c f z z va vb ∧ Below w.heap.size w w'

set_option maxHeartbeats 8000000 in
set_option maxRecDepth 100000 in
theorem quotBy_any (z : Nat) (ao : Option Addr) (c n : Nat) (f : Nat → Int) (w : World) (hz1 : 1 ≤ z) (hz8 : z ≤ 8) (hf : okAll f z = true) :
    Calls Try.prog 118 #[.agg #[.int .i64 (z : Int), .slice ao n c], .agg (arrV f)] w fun e w' => NewQt w w' z ao n c f e := by
  have HP0 : Hid (ArrAt ((w.alloc (.cells #[.int .i64 (z : Int), .slice ao n c] 31)).alloc (.cells (arrV f) 70)) (w.heap.size + 1) f) := by
    unfold Hid
    have h := ArrAt.new (w.alloc (.cells #[.int .i64 (z : Int), .slice ao n c] 31)) f
    simp only [World.size_alloc] at h
    exact h
  obtain ⟨w2, hw2⟩ : ∃ w2, w2 = (w.alloc (.cells #[.int .i64 (z : Int), .slice ao n c] 31)).alloc (.cells (arrV f) 70) := ⟨_, rfl⟩
  obtain ⟨w3, hw3⟩ : ∃ w3, w3 = w2.alloc (.cells (qtArr (z : Int) ao n c f (.slice none 0 0) (.slice none 0 0)) 76) := ⟨_, rfl⟩
  have hs2 : w2.heap.size = w.heap.size + 1 + 1 := by rw [hw2]; simp
  have HQ0 : Hid (QtS w3 (w.heap.size + 1) (w.heap.size + 1 + 1) (z : Int) ao n c f 0 0 (.slice none 0 0) (.slice none 0 0)) := by
    unfold Hid
    refine ⟨?_, ?_, World.ownsRow_nil _ _ _ _, World.ownsRow_nil _ _ _ _, fun b hb => by simp [Value.ownBlock] at hb⟩
    · rw [hw3, ← hs2]; exact heap_alloc_new _ _
    · rw [hw3]; have h_ := HP0.out; rw [← hw2] at h_; exact h_.alloc _
  have HB0 : Hid (Below w.heap.size w w3) := by unfold Hid; rw [hw3, hw2]; exact below_then (below_then (below_alloc _ _) (below_alloc _ _)) (below_alloc _ _)
  rw [hw2] at hw3
  have HW3 := Lib.hid hw3
  have HFo := Lib.hid hf
  have hzn : (z : Int) ≤ 8 := by omega
  obtain ⟨j0, hj0, hy0, hy1, hy2⟩ := info_parts Try.infoInt
  clear hw2 hw3 hs2 hf
  go_enter Try.func118, Try.ntmps118
  go_wp2_with (refine ld8 HP0.out rfl _ rfl rfl ?_; simp only [arrV])
  have hW3 := HW3.out
  simp only [arrV, qtArr] at hW3
  rw [← hW3]
  clear hW3 HW3 HP0
  obtain ⟨A, hA⟩ : ∃ A, A = w.heap.size + 1 := ⟨_, rfl⟩
  obtain ⟨Q, hQ⟩ : ∃ Q, Q = w.heap.size + 1 + 1 := ⟨_, rfl⟩
  rw [← hQ, ← hA] at HQ0
  rw [← hQ, ← hA]
  have hAQ : A < Q := by omega
  have hwQ : w.heap.size < Q := by omega
  have HAe := Lib.hid hA
  have HQe := Lib.hid hQ
  clear hA hQ
  go_loopw [6, 7, 16] (fun _ _ i wr => ∃ (k : Nat) (va vb : Value), k ≤ z ∧ i = .int .i64 (k : Int) ∧ Hid (QtS wr A Q (z : Int) ao n c f k k va vb) ∧ Hid (Below w.heap.size w wr)) (fun _ _ i _ => z - (intOf i).toNat)
  case atStart => exact ⟨0, _, _, Nat.zero_le _, rfl, HQ0, HB0⟩
  case round =>
    obtain ⟨k, va, vb, hk, rfl, HQk, HBr⟩ := hrel
    clear HQ0 HB0
    by_cases hlt : k < z
    · have hkn : (k : Int) < (z : Int) := by omega
      obtain ⟨⟨h0, h1⟩, hff⟩ := okAll_get HFo.out hlt
      have ek := HQk.out.arr.cell (k := k) (by omega)
      by_cases hfk : f k = (k : Int)
      · obtain ⟨d0, d1, d10, d11_, df⟩ := qt_cells HQk.out.box
        have f10 := df 10
        rw [hfk] at ek
        have HFk := Lib.hid hfk
        have HFf := Lib.hid hff
        have HH := Lib.hid (And.intro h0 h1)
        have hl8 := leP_len f k
        clear d0 d1 d11_ df hfk hff h0 h1
        go_wp2_with (at_builtin; refine wpList_append_own_at _ rfl _ _ 25 rfl (Q + 1) 3 j0 (.int .i64 0) 1 8 Try.underlying25 hj0 hy0 hy1 hy2 rfl (by decide) va (leP f k).length ((leP f k).map (Value.int .i64)) rfl (HQk.out.les.alloc _) ⟨_, 0, none⟩ 1 1 [.int .i64 (k : Int)] rfl rfl (cell_one_new _ _ _) (fun x hx => by simp at hx; subst hx; rfl) (by unfold maxLen; omega) (by omega) (by have := HQk.out.lt; simp; omega) ?_; intro v' w3 hown' hgrow' hnil' hat'; obtain ⟨g', cap', rfl⟩ := ownsRow_succ hown'; have hown2 : w3.ownsRow (Q + 1) 3 1 (.slice (some ⟨g', 0, none⟩) ((leP f k).length + 1) cap') (leP f (k + 1)).length ((leP f (k + 1)).map (Value.int .i64)) := (by rw [leP_yes HFk.out, List.map_append, List.length_append]; exact hown'); have hlp := HQk.out.lesPut hAQ hown2 hgrow' hat'; have HB5_ : Hid (Below w.heap.size w w3) := (HBr.out.alloc HBr.out.size _).grown hgrow' (by have := HBr.out.size; simp; omega) (fun b hb => by have h_ := (HQk.out.les.lt b hb).1; omega); have HQs0 := Lib.hid hlp.1; have hqc := qt_cells hlp.2; have e10 := hqc.2.2.1; have ff10 := hqc.2.2.2.2 10; clear hown' hown2 hgrow' hnil' hat' hlp hqc ek d10 f10)
        clear hl8
        obtain ⟨va2, hva2⟩ : ∃ va2 : Value, va2 = .slice (some ⟨g', 0, none⟩) ((leP f k).length + 1) cap' := ⟨_, rfl⟩
        rw [← hva2] at HQs0 ⊢
        obtain ⟨wi, hwi⟩ : ∃ wi, wi = w3.setCell ⟨Q, 10, none⟩ va2 := ⟨_, rfl⟩
        have HBi : Hid (Below w.heap.size w wi) := by unfold Hid; rw [hwi]; exact HB5_.out.setCell (by show w.heap.size ≤ Q; omega) _
        have HQs := HQs0
        rw [← hwi] at HQs ⊢
        clear hwi hva2 e10 ff10 HQs0 HB5_ HQk HBr
        have hff := HFf.out
        obtain ⟨h0, h1⟩ := HH.out
        have hle := HQs.out.les
        have hmem : f k ∈ leP f (k + 1) := leP_mem.2 ⟨(f k).toNat, by omega, by rw [hff]; omega, by omega⟩
        obtain ⟨t0, ht0⟩ : ∃ t0, (leP f (k + 1)).length = t0 + 1 := ⟨(leP f (k + 1)).length - 1, by have := List.length_pos_of_mem hmem; omega⟩
        rw [ht0] at hle
        obtain ⟨g1, c1, rfl⟩ := ownsRow_succ hle
        obtain ⟨t1, ht1⟩ : ∃ t1, t0 + 1 = t1 := ⟨_, rfl⟩
        rw [ht1] at hle ht0
        have ht1p : 0 < t1 := by omega
        rw [ht1] at HQs
        have hl8 := leP_len f (k + 1)
        have hIx := fun (W : World) (hW : Below wi.heap.size wi W) => place_impl (Q + 1) wi.heap.size g1 0 t1 c1 (leP f (k + 1)) (f k) W ((IView.of_owns hle (Nat.le_refl _)).kept (Kept.of_below hW (Nat.le_refl _))) ht1p (by omega)
        obtain ⟨u, hu⟩ : ∃ u, plI (leP f (k + 1)) (f k) = u := ⟨_, rfl⟩
        have HU : Hid (naI f k = u) := hu
        rw [hu] at hIx
        simp only [HFk.out] at hIx
        have HIx := Lib.hid hIx
        have s10 : wi.cell? ⟨Q, 10, none⟩ = some (.slice (some ⟨g1, 0, none⟩) t1 c1) := (qt_cells HQs.out.box).2.2.1
        have s11 : wi.cell? ⟨Q, 11, none⟩ = some vb := (qt_cells HQs.out.box).2.2.2.1
        clear hle hmem ht1 hl8 hIx hu hff ht0
        go_wp2_with fail
        refine wp_region_noPanic ?_
        refine wp_region_held_drew (S := fun W_ => W_.cell? ⟨Q, 10, none⟩ = some (.slice (some ⟨g1, 0, none⟩) t1 c1)) (by kernel_rfl) ?_ (fun hHeld => ?_)
        · exact s10
        refine wpAnyH_take (i := 0) (oi := ⟨_, _, _, _, _, _⟩) (v := ?_) rfl (by kernel_rfl) (by kernel_rfl) (by kernel_rfl) (fun _ _ _ h => h) (Or.inl ⟨rfl, ?_⟩) (by assumption) ?_
        rotate_left 1
        · intro w_ hSw; (try dsimp only at hSw); go_simp; (try with_reducible rfl)
        (try simp only [Act.put, List.setIfInBounds_toArray, List.set_cons_zero, List.set_cons_succ])
        refine wpAnyH_take (i := 1) (oi := ⟨_, _, _, _, _, _⟩) (v := ?_) rfl (by kernel_rfl) (by kernel_rfl) (by kernel_rfl) (fun _ _ _ h => h) (Or.inl ⟨rfl, ?_⟩) (by assumption) ?_
        rotate_left 1
        · intro w_ hSw; (try dsimp only at hSw); go_simp; (try with_reducible rfl)
        (try simp only [Act.put, List.setIfInBounds_toArray, List.set_cons_zero, List.set_cons_succ])
        refine wpAnyH_take (i := 2) (oi := ⟨_, _, _, _, _, _⟩) (v := ?_) rfl (by kernel_rfl) (by kernel_rfl) (by kernel_rfl) (fun _ _ _ h => h) (Or.inl ⟨rfl, ?_⟩) (by assumption) ?_
        rotate_left 1
        · intro w_ hSw; (try dsimp only at hSw); go_simp; (try with_reducible rfl)
        (try simp only [Act.put, List.setIfInBounds_toArray, List.set_cons_zero, List.set_cons_succ])
        refine wpAnyH_take (i := 3) (oi := ⟨_, _, _, _, _, _⟩) (v := ?_) rfl (by kernel_rfl) (by kernel_rfl) (by kernel_rfl) (fun _ _ _ h => h) (Or.inl ⟨rfl, ?_⟩) (by assumption) ?_
        rotate_left 1
        · intro w_ hSw; (try dsimp only at hSw); go_simp; (try with_reducible rfl)
        (try simp only [Act.put, List.setIfInBounds_toArray, List.set_cons_zero, List.set_cons_succ])
        refine wpAnyH_take (i := 5) (oi := ⟨_, _, _, _, _, _⟩) (v := ?_) rfl (by kernel_rfl) (by kernel_rfl) (by kernel_rfl) (fun _ _ _ h => h) (Or.inl ⟨rfl, ?_⟩) (by assumption) ?_
        rotate_left 1
        · intro w_ hSw; (try dsimp only at hSw); go_simp; (try with_reducible rfl)
        (try simp only [Act.put, List.setIfInBounds_toArray, List.set_cons_zero, List.set_cons_succ])
        refine wpAnyH_take (i := 6) (oi := ⟨_, _, _, _, _, _⟩) (v := ?_) rfl (by kernel_rfl) (by kernel_rfl) (by kernel_rfl) (fun _ _ _ h => h) (Or.inl ⟨rfl, ?_⟩) (by assumption) ?_
        rotate_left 1
        · intro w_ hSw; (try dsimp only at hSw); go_simp; (try with_reducible rfl)
        (try simp only [Act.put, List.setIfInBounds_toArray, List.set_cons_zero, List.set_cons_succ])
        refine wpAnyH_take (i := 7) (oi := ⟨_, _, _, _, _, _⟩) (v := ?_) rfl (by kernel_rfl) (by kernel_rfl) (by kernel_rfl) (fun _ _ _ h => h) (Or.inl ⟨rfl, ?_⟩) (by assumption) ?_
        rotate_left 1
        · intro w_ hSw; (try dsimp only at hSw); go_simp; (try with_reducible rfl)
        (try simp only [Act.put, List.setIfInBounds_toArray, List.set_cons_zero, List.set_cons_succ])
        refine wpAnyH_take (i := 8) (oi := ⟨_, _, _, _, _, _⟩) (v := ?_) rfl (by kernel_rfl) (by kernel_rfl) (by kernel_rfl) (fun _ _ _ h => h) (Or.inl ⟨rfl, ?_⟩) (by assumption) ?_
        rotate_left 1
        · intro w_ hSw; (try dsimp only at hSw); go_simp; (try with_reducible rfl)
        (try simp only [Act.put, List.setIfInBounds_toArray, List.set_cons_zero, List.set_cons_succ])
        refine wpAnyH_take (i := 9) (oi := ⟨_, _, _, _, _, _⟩) (v := ?_) rfl (by kernel_rfl) (by kernel_rfl) (by kernel_rfl) (fun _ _ _ h => h) (Or.inl ⟨rfl, ?_⟩) (by assumption) ?_
        rotate_left 1
        · intro w_ hSw; (try dsimp only at hSw); go_simp; (try with_reducible rfl)
        (try simp only [Act.put, List.setIfInBounds_toArray, List.set_cons_zero, List.set_cons_succ])
        refine wpAnyH_ready (rs := [4, 10]) (by kernel_rfl) (by simp) ?_
        refine (AllReadyH.cons (o := ⟨_, _, _, _, _, _⟩) rfl (fun K hK => ?_) (AllReadyH.cons (o := ⟨_, _, _, _, _, _⟩) rfl (fun K hK => ?_) AllReadyH.nil))
        · go_simp
          refine hK.out _ _ ?_ (fun hHeld => ?_)
          · exact s10
          clear hK K
          (try simp only [Act.put, List.setIfInBounds_toArray, List.set_cons_zero, List.set_cons_succ])
          refine wpAnyH_ready (rs := [10]) (by kernel_rfl) (by simp) ?_
          refine (AllReadyH.cons (o := ⟨_, _, _, _, _, _⟩) rfl (fun K hK => ?_) AllReadyH.nil)
          go_simp
          go_at_call 63
          refine (HIx.out _ (below_drew _)).mono ?_
          rintro e_ w_ ⟨rfl, rfl⟩
          refine hK.out _ _ ?_ (fun hHeld => ?_)
          · exact s10
          clear hK K
          (try simp only [Act.put, List.setIfInBounds_toArray, List.set_cons_zero, List.set_cons_succ])
          refine wpAnyH_ready (rs := [11]) (by kernel_rfl) (by simp) ?_
          refine (AllReadyH.cons (o := ⟨_, _, _, _, _, _⟩) rfl (fun K hK => ?_) AllReadyH.nil)
          go_simp
          refine hK.out _ _ ?_ (fun hHeld => ?_)
          · exact cell_b ((below_alloc _ _).drew) s10
          clear hK K
          (try simp only [Act.put, List.setIfInBounds_toArray, List.set_cons_zero, List.set_cons_succ])
          refine wpAnyH_ready (rs := [12]) (by kernel_rfl) (by simp) ?_
          refine (AllReadyH.cons (o := ⟨_, _, _, _, _, _⟩) rfl (fun K hK => ?_) AllReadyH.nil)
          refine step_append_lies _ rfl _ _ _ rfl (Q + 1) 3 j0 _ 1 8 Try.underlying25 hj0 hy0 hy1 hy2 rfl (by decide) vb k ((lstP k (naI f)).map (Value.int .i64)) rfl (World.ownsRow.alloc (show wi.drew.ownsRow _ _ _ _ _ _ from HQs.out.nat) _) ⟨wi.drew.heap.size, 0, none⟩ 1 1 [.int .i64 u] rfl rfl (cell_one_new _ _ _) (by simp [Value.oneCell']) (by decide) (by unfold maxLen; omega) (by omega) (by have h_ := HQs.out.lt; show Q + 1 ≤ (wi.drew.alloc _).heap.size; simp; omega) _ rfl ?_
          intro g4 cap4 w4 hown4 hgrow4 hat4 hlt4
          have HQ4 := Lib.hid (HQs.out.natPut (k' := k + 1) (v' := .slice (some ⟨g4, 0, none⟩) (k + 1) cap4) hAQ (by rw [lstP_succ, List.map_append, HU.out]; exact hown4) hgrow4 (by rcases hat4 with h | h; exact .inl h.symm; exact .inr (by rw [h]; rfl)))
          have HB4 : Hid (Below w.heap.size w w4) := ((HBi.out.drew).alloc HBi.out.size _).grown hgrow4 (by have := HBi.out.size; show w.heap.size ≤ (wi.drew.alloc _).heap.size; simp; omega) (fun b hb => by have h_ := (HQs.out.nat.lt b hb).1; omega)
          have HBx4 : Hid (w4.heap[Q]? = some (.cells (qtArr (z : Int) ao n c f (.slice (some ⟨g1, 0, none⟩) t1 c1) vb) 76 (0, 0))) := HQs.out.boxGrown hgrow4
          have d11 := (qt_cells HBx4.out).2.2.2.1
          have f11 := (qt_cells HBx4.out).2.2.2.2 11
          clear hown4 hgrow4 hat4
          refine hK.out _ _ ?_ (fun hHeld => ?_)
          · exact (qt_cells HBx4.out).2.2.1
          clear hK K
          (try simp only [Act.put, List.setIfInBounds_toArray, List.set_cons_zero, List.set_cons_succ])
          refine wpAnyH_take (i := 13) (oi := ⟨_, _, _, _, _, _⟩) (v := ?_) rfl (by kernel_rfl) (by kernel_rfl) (by kernel_rfl) (fun _ _ _ h => h) (Or.inl ⟨rfl, ?_⟩) (by assumption) ?_
          rotate_left 1
          · intro w_ hSw; (try dsimp only at hSw); go_simp; (try with_reducible rfl)
          (try simp only [Act.put, List.setIfInBounds_toArray, List.set_cons_zero, List.set_cons_succ])
          refine wpAnyH_take (i := 14) (oi := ⟨_, _, _, _, _, _⟩) (v := ?_) rfl (by kernel_rfl) (by kernel_rfl) (by kernel_rfl) (fun _ _ _ h => h) (Or.inl ⟨rfl, ?_⟩) (by assumption) ?_
          rotate_left 1
          · intro w_ hSw; (try dsimp only at hSw); go_simp; (try with_reducible rfl)
          (try simp only [Act.put, List.setIfInBounds_toArray, List.set_cons_zero, List.set_cons_succ])
          refine wpAnyH_ready (rs := [15]) (by kernel_rfl) (by simp) ?_
          refine (AllReadyH.cons (o := ⟨_, _, _, _, _, _⟩) rfl (fun K hK => ?_) AllReadyH.nil)
          go_simp
          refine hK.out _ _ ?_ (fun hHeld => ?_)
          · exact (qt_cells HQ4.out.box).2.2.1
          clear hK K
          (try simp only [Act.put, List.setIfInBounds_toArray, List.set_cons_zero, List.set_cons_succ])
          refine wpAnyH_done (by kernel_rfl) ?_ _
          refine NoPanic.normal ?_
          have HQ5 : Hid (QtS (w4.setCell ⟨Q, 11, none⟩ (.slice (some ⟨g4, 0, none⟩) (k + 1) cap4)) A Q (z : Int) ao n c f (k + 1) (k + 1) (.slice (some ⟨g1, 0, none⟩) t1 c1) (.slice (some ⟨g4, 0, none⟩) (k + 1) cap4)) := HQ4.out
          have HB5 : Hid (Below w.heap.size w (w4.setCell ⟨Q, 11, none⟩ (.slice (some ⟨g4, 0, none⟩) (k + 1) cap4))) := HB4.out.setCell (by show w.heap.size ≤ Q; omega) _
          clear HQ4 HB4 HBx4 hHeld
          go_wp2_with fail
          go_roundw
          case rel => exact ⟨k + 1, _, _, by omega, by go_num, HQ5, HB5⟩
          case measure => simp [intOf]; omega
        · go_simp
          go_at_call 63
          refine (HIx.out _ (below_drew _)).mono ?_
          rintro e_ w_ ⟨rfl, rfl⟩
          refine hK.out _ _ ?_ (fun hHeld => ?_)
          · exact s10
          clear hK K
          (try simp only [Act.put, List.setIfInBounds_toArray, List.set_cons_zero, List.set_cons_succ])
          refine wpAnyH_ready (rs := [4, 11]) (by kernel_rfl) (by simp) ?_
          refine (AllReadyH.cons (o := ⟨_, _, _, _, _, _⟩) rfl (fun K hK => ?_) (AllReadyH.cons (o := ⟨_, _, _, _, _, _⟩) rfl (fun K hK => ?_) AllReadyH.nil))
          · go_simp
            refine hK.out _ _ ?_ (fun hHeld => ?_)
            · exact s10
            clear hK K
            (try simp only [Act.put, List.setIfInBounds_toArray, List.set_cons_zero, List.set_cons_succ])
            refine wpAnyH_ready (rs := [11]) (by kernel_rfl) (by simp) ?_
            refine (AllReadyH.cons (o := ⟨_, _, _, _, _, _⟩) rfl (fun K hK => ?_) AllReadyH.nil)
            go_simp
            refine hK.out _ _ ?_ (fun hHeld => ?_)
            · exact cell_b ((below_alloc _ _).drew) s10
            clear hK K
            (try simp only [Act.put, List.setIfInBounds_toArray, List.set_cons_zero, List.set_cons_succ])
            refine wpAnyH_ready (rs := [12]) (by kernel_rfl) (by simp) ?_
            refine (AllReadyH.cons (o := ⟨_, _, _, _, _, _⟩) rfl (fun K hK => ?_) AllReadyH.nil)
            refine step_append_lies _ rfl _ _ _ rfl (Q + 1) 3 j0 _ 1 8 Try.underlying25 hj0 hy0 hy1 hy2 rfl (by decide) vb k ((lstP k (naI f)).map (Value.int .i64)) rfl (World.ownsRow.alloc (show wi.drew.ownsRow _ _ _ _ _ _ from HQs.out.nat) _) ⟨wi.drew.heap.size, 0, none⟩ 1 1 [.int .i64 u] rfl rfl (cell_one_new _ _ _) (by simp [Value.oneCell']) (by decide) (by unfold maxLen; omega) (by omega) (by have h_ := HQs.out.lt; show Q + 1 ≤ (wi.drew.alloc _).heap.size; simp; omega) _ rfl ?_
            intro g4 cap4 w4 hown4 hgrow4 hat4 hlt4
            have HQ4 := Lib.hid (HQs.out.natPut (k' := k + 1) (v' := .slice (some ⟨g4, 0, none⟩) (k + 1) cap4) hAQ (by rw [lstP_succ, List.map_append, HU.out]; exact hown4) hgrow4 (by rcases hat4 with h | h; exact .inl h.symm; exact .inr (by rw [h]; rfl)))
            have HB4 : Hid (Below w.heap.size w w4) := ((HBi.out.drew).alloc HBi.out.size _).grown hgrow4 (by have := HBi.out.size; show w.heap.size ≤ (wi.drew.alloc _).heap.size; simp; omega) (fun b hb => by have h_ := (HQs.out.nat.lt b hb).1; omega)
            have HBx4 : Hid (w4.heap[Q]? = some (.cells (qtArr (z : Int) ao n c f (.slice (some ⟨g1, 0, none⟩) t1 c1) vb) 76 (0, 0))) := HQs.out.boxGrown hgrow4
            have d11 := (qt_cells HBx4.out).2.2.2.1
            have f11 := (qt_cells HBx4.out).2.2.2.2 11
            clear hown4 hgrow4 hat4
            refine hK.out _ _ ?_ (fun hHeld => ?_)
            · exact (qt_cells HBx4.out).2.2.1
            clear hK K
            (try simp only [Act.put, List.setIfInBounds_toArray, List.set_cons_zero, List.set_cons_succ])
            refine wpAnyH_take (i := 13) (oi := ⟨_, _, _, _, _, _⟩) (v := ?_) rfl (by kernel_rfl) (by kernel_rfl) (by kernel_rfl) (fun _ _ _ h => h) (Or.inl ⟨rfl, ?_⟩) (by assumption) ?_
            rotate_left 1
            · intro w_ hSw; (try dsimp only at hSw); go_simp; (try with_reducible rfl)
            (try simp only [Act.put, List.setIfInBounds_toArray, List.set_cons_zero, List.set_cons_succ])
            refine wpAnyH_take (i := 14) (oi := ⟨_, _, _, _, _, _⟩) (v := ?_) rfl (by kernel_rfl) (by kernel_rfl) (by kernel_rfl) (fun _ _ _ h => h) (Or.inl ⟨rfl, ?_⟩) (by assumption) ?_
            rotate_left 1
            · intro w_ hSw; (try dsimp only at hSw); go_simp; (try with_reducible rfl)
            (try simp only [Act.put, List.setIfInBounds_toArray, List.set_cons_zero, List.set_cons_succ])
            refine wpAnyH_ready (rs := [15]) (by kernel_rfl) (by simp) ?_
            refine (AllReadyH.cons (o := ⟨_, _, _, _, _, _⟩) rfl (fun K hK => ?_) AllReadyH.nil)
            go_simp
            refine hK.out _ _ ?_ (fun hHeld => ?_)
            · exact (qt_cells HQ4.out.box).2.2.1
            clear hK K
            (try simp only [Act.put, List.setIfInBounds_toArray, List.set_cons_zero, List.set_cons_succ])
            refine wpAnyH_done (by kernel_rfl) ?_ _
            refine NoPanic.normal ?_
            have HQ5 : Hid (QtS (w4.setCell ⟨Q, 11, none⟩ (.slice (some ⟨g4, 0, none⟩) (k + 1) cap4)) A Q (z : Int) ao n c f (k + 1) (k + 1) (.slice (some ⟨g1, 0, none⟩) t1 c1) (.slice (some ⟨g4, 0, none⟩) (k + 1) cap4)) := HQ4.out
            have HB5 : Hid (Below w.heap.size w (w4.setCell ⟨Q, 11, none⟩ (.slice (some ⟨g4, 0, none⟩) (k + 1) cap4))) := HB4.out.setCell (by show w.heap.size ≤ Q; omega) _
            clear HQ4 HB4 HBx4 hHeld
            go_wp2_with fail
            go_roundw
            case rel => exact ⟨k + 1, _, _, by omega, by go_num, HQ5, HB5⟩
            case measure => simp [intOf]; omega
          · go_simp
            refine hK.out _ _ ?_ (fun hHeld => ?_)
            · exact cell_b ((below_alloc _ _).drew) s10
            clear hK K
            (try simp only [Act.put, List.setIfInBounds_toArray, List.set_cons_zero, List.set_cons_succ])
            refine wpAnyH_ready (rs := [4]) (by kernel_rfl) (by simp) ?_
            refine (AllReadyH.cons (o := ⟨_, _, _, _, _, _⟩) rfl (fun K hK => ?_) AllReadyH.nil)
            have s11b : ((wi.alloc (.cells #[.int .i64 u] 3)).drew).cell? ⟨Q, 11, none⟩ = some vb := cell_b ((below_alloc _ _).drew) s11
            go_simp
            refine hK.out _ _ ?_ (fun hHeld => ?_)
            · exact cell_b ((below_alloc _ _).drew) s10
            clear hK K
            (try simp only [Act.put, List.setIfInBounds_toArray, List.set_cons_zero, List.set_cons_succ])
            refine wpAnyH_ready (rs := [12]) (by kernel_rfl) (by simp) ?_
            refine (AllReadyH.cons (o := ⟨_, _, _, _, _, _⟩) rfl (fun K hK => ?_) AllReadyH.nil)
            refine step_append_lies _ rfl _ _ _ rfl (Q + 1) 3 j0 _ 1 8 Try.underlying25 hj0 hy0 hy1 hy2 rfl (by decide) vb k ((lstP k (naI f)).map (Value.int .i64)) rfl (World.ownsRow.alloc (show wi.drew.ownsRow _ _ _ _ _ _ from HQs.out.nat) _) ⟨wi.drew.heap.size, 0, none⟩ 1 1 [.int .i64 u] rfl rfl (cell_one_new _ _ _) (by simp [Value.oneCell']) (by decide) (by unfold maxLen; omega) (by omega) (by have h_ := HQs.out.lt; show Q + 1 ≤ (wi.drew.alloc _).heap.size; simp; omega) _ rfl ?_
            intro g4 cap4 w4 hown4 hgrow4 hat4 hlt4
            have HQ4 := Lib.hid (HQs.out.natPut (k' := k + 1) (v' := .slice (some ⟨g4, 0, none⟩) (k + 1) cap4) hAQ (by rw [lstP_succ, List.map_append, HU.out]; exact hown4) hgrow4 (by rcases hat4 with h | h; exact .inl h.symm; exact .inr (by rw [h]; rfl)))
            have HB4 : Hid (Below w.heap.size w w4) := ((HBi.out.drew).alloc HBi.out.size _).grown hgrow4 (by have := HBi.out.size; show w.heap.size ≤ (wi.drew.alloc _).heap.size; simp; omega) (fun b hb => by have h_ := (HQs.out.nat.lt b hb).1; omega)
            have HBx4 : Hid (w4.heap[Q]? = some (.cells (qtArr (z : Int) ao n c f (.slice (some ⟨g1, 0, none⟩) t1 c1) vb) 76 (0, 0))) := HQs.out.boxGrown hgrow4
            have d11 := (qt_cells HBx4.out).2.2.2.1
            have f11 := (qt_cells HBx4.out).2.2.2.2 11
            clear hown4 hgrow4 hat4
            refine hK.out _ _ ?_ (fun hHeld => ?_)
            · exact (qt_cells HBx4.out).2.2.1
            clear hK K
            (try simp only [Act.put, List.setIfInBounds_toArray, List.set_cons_zero, List.set_cons_succ])
            refine wpAnyH_take (i := 13) (oi := ⟨_, _, _, _, _, _⟩) (v := ?_) rfl (by kernel_rfl) (by kernel_rfl) (by kernel_rfl) (fun _ _ _ h => h) (Or.inl ⟨rfl, ?_⟩) (by assumption) ?_
            rotate_left 1
            · intro w_ hSw; (try dsimp only at hSw); go_simp; (try with_reducible rfl)
            (try simp only [Act.put, List.setIfInBounds_toArray, List.set_cons_zero, List.set_cons_succ])
            refine wpAnyH_take (i := 14) (oi := ⟨_, _, _, _, _, _⟩) (v := ?_) rfl (by kernel_rfl) (by kernel_rfl) (by kernel_rfl) (fun _ _ _ h => h) (Or.inl ⟨rfl, ?_⟩) (by assumption) ?_
            rotate_left 1
            · intro w_ hSw; (try dsimp only at hSw); go_simp; (try with_reducible rfl)
            (try simp only [Act.put, List.setIfInBounds_toArray, List.set_cons_zero, List.set_cons_succ])
            refine wpAnyH_ready (rs := [15]) (by kernel_rfl) (by simp) ?_
            refine (AllReadyH.cons (o := ⟨_, _, _, _, _, _⟩) rfl (fun K hK => ?_) AllReadyH.nil)
            go_simp
            refine hK.out _ _ ?_ (fun hHeld => ?_)
            · exact (qt_cells HQ4.out.box).2.2.1
            clear hK K
            (try simp only [Act.put, List.setIfInBounds_toArray, List.set_cons_zero, List.set_cons_succ])
            refine wpAnyH_done (by kernel_rfl) ?_ _
            refine NoPanic.normal ?_
            have HQ5 : Hid (QtS (w4.setCell ⟨Q, 11, none⟩ (.slice (some ⟨g4, 0, none⟩) (k + 1) cap4)) A Q (z : Int) ao n c f (k + 1) (k + 1) (.slice (some ⟨g1, 0, none⟩) t1 c1) (.slice (some ⟨g4, 0, none⟩) (k + 1) cap4)) := HQ4.out
            have HB5 : Hid (Below w.heap.size w (w4.setCell ⟨Q, 11, none⟩ (.slice (some ⟨g4, 0, none⟩) (k + 1) cap4))) := HB4.out.setCell (by show w.heap.size ≤ Q; omega) _
            clear HQ4 HB4 HBx4 hHeld
            go_wp2_with fail
            go_roundw
            case rel => exact ⟨k + 1, _, _, by omega, by go_num, HQ5, HB5⟩
            case measure => simp [intOf]; omega
      · have HQs : Hid (QtS wr A Q (z : Int) ao n c f (k + 1) k va vb) := HQk.out.more (leP_no hfk)
        have hne : (((k : Int)) == f k) = false := by
          rw [beq_eq_false_iff_ne]; exact fun e => hfk e.symm
        obtain ⟨wi, hwi⟩ : ∃ wi, wi = wr := ⟨_, rfl⟩
        rw [← hwi] at HQs HBr ek ⊢
        have HBi := HBr
        clear hwi HBr HQk
        have hle := HQs.out.les
        have hmem : f k ∈ leP f (k + 1) := leP_mem.2 ⟨(f k).toNat, by omega, by rw [hff]; omega, by omega⟩
        obtain ⟨t0, ht0⟩ : ∃ t0, (leP f (k + 1)).length = t0 + 1 := ⟨(leP f (k + 1)).length - 1, by have := List.length_pos_of_mem hmem; omega⟩
        rw [ht0] at hle
        obtain ⟨g1, c1, rfl⟩ := ownsRow_succ hle
        obtain ⟨t1, ht1⟩ : ∃ t1, t0 + 1 = t1 := ⟨_, rfl⟩
        rw [ht1] at hle ht0
        have ht1p : 0 < t1 := by omega
        rw [ht1] at HQs
        have hl8 := leP_len f (k + 1)
        have hIx := fun (W : World) (hW : Below wi.heap.size wi W) => place_impl (Q + 1) wi.heap.size g1 0 t1 c1 (leP f (k + 1)) (f k) W ((IView.of_owns hle (Nat.le_refl _)).kept (Kept.of_below hW (Nat.le_refl _))) ht1p (by omega)
        obtain ⟨u, hu⟩ : ∃ u, plI (leP f (k + 1)) (f k) = u := ⟨_, rfl⟩
        have HU : Hid (naI f k = u) := hu
        rw [hu] at hIx
        have HIx := Lib.hid hIx
        have s10 : wi.cell? ⟨Q, 10, none⟩ = some (.slice (some ⟨g1, 0, none⟩) t1 c1) := (qt_cells HQs.out.box).2.2.1
        have s11 : wi.cell? ⟨Q, 11, none⟩ = some vb := (qt_cells HQs.out.box).2.2.2.1
        clear hle hmem ht1 hl8 hIx hu hff ht0
        go_wp2_with fail
        refine wp_region_noPanic ?_
        refine wp_region_held_drew (S := fun W_ => W_.cell? ⟨Q, 10, none⟩ = some (.slice (some ⟨g1, 0, none⟩) t1 c1)) (by kernel_rfl) ?_ (fun hHeld => ?_)
        · exact s10
        refine wpAnyH_take (i := 0) (oi := ⟨_, _, _, _, _, _⟩) (v := ?_) rfl (by kernel_rfl) (by kernel_rfl) (by kernel_rfl) (fun _ _ _ h => h) (Or.inl ⟨rfl, ?_⟩) (by assumption) ?_
        rotate_left 1
        · intro w_ hSw; (try dsimp only at hSw); go_simp; (try with_reducible rfl)
        (try simp only [Act.put, List.setIfInBounds_toArray, List.set_cons_zero, List.set_cons_succ])
        refine wpAnyH_take (i := 1) (oi := ⟨_, _, _, _, _, _⟩) (v := ?_) rfl (by kernel_rfl) (by kernel_rfl) (by kernel_rfl) (fun _ _ _ h => h) (Or.inl ⟨rfl, ?_⟩) (by assumption) ?_
        rotate_left 1
        · intro w_ hSw; (try dsimp only at hSw); go_simp; (try with_reducible rfl)
        (try simp only [Act.put, List.setIfInBounds_toArray, List.set_cons_zero, List.set_cons_succ])
        refine wpAnyH_take (i := 2) (oi := ⟨_, _, _, _, _, _⟩) (v := ?_) rfl (by kernel_rfl) (by kernel_rfl) (by kernel_rfl) (fun _ _ _ h => h) (Or.inl ⟨rfl, ?_⟩) (by assumption) ?_
        rotate_left 1
        · intro w_ hSw; (try dsimp only at hSw); go_simp; (try with_reducible rfl)
        (try simp only [Act.put, List.setIfInBounds_toArray, List.set_cons_zero, List.set_cons_succ])
        refine wpAnyH_take (i := 3) (oi := ⟨_, _, _, _, _, _⟩) (v := ?_) rfl (by kernel_rfl) (by kernel_rfl) (by kernel_rfl) (fun _ _ _ h => h) (Or.inl ⟨rfl, ?_⟩) (by assumption) ?_
        rotate_left 1
        · intro w_ hSw; (try dsimp only at hSw); go_simp; (try with_reducible rfl)
        (try simp only [Act.put, List.setIfInBounds_toArray, List.set_cons_zero, List.set_cons_succ])
        refine wpAnyH_take (i := 5) (oi := ⟨_, _, _, _, _, _⟩) (v := ?_) rfl (by kernel_rfl) (by kernel_rfl) (by kernel_rfl) (fun _ _ _ h => h) (Or.inl ⟨rfl, ?_⟩) (by assumption) ?_
        rotate_left 1
        · intro w_ hSw; (try dsimp only at hSw); go_simp; (try with_reducible rfl)
        (try simp only [Act.put, List.setIfInBounds_toArray, List.set_cons_zero, List.set_cons_succ])
        refine wpAnyH_take (i := 6) (oi := ⟨_, _, _, _, _, _⟩) (v := ?_) rfl (by kernel_rfl) (by kernel_rfl) (by kernel_rfl) (fun _ _ _ h => h) (Or.inl ⟨rfl, ?_⟩) (by assumption) ?_
        rotate_left 1
        · intro w_ hSw; (try dsimp only at hSw); go_simp; (try with_reducible rfl)
        (try simp only [Act.put, List.setIfInBounds_toArray, List.set_cons_zero, List.set_cons_succ])
        refine wpAnyH_take (i := 7) (oi := ⟨_, _, _, _, _, _⟩) (v := ?_) rfl (by kernel_rfl) (by kernel_rfl) (by kernel_rfl) (fun _ _ _ h => h) (Or.inl ⟨rfl, ?_⟩) (by assumption) ?_
        rotate_left 1
        · intro w_ hSw; (try dsimp only at hSw); go_simp; (try with_reducible rfl)
        (try simp only [Act.put, List.setIfInBounds_toArray, List.set_cons_zero, List.set_cons_succ])
        refine wpAnyH_take (i := 8) (oi := ⟨_, _, _, _, _, _⟩) (v := ?_) rfl (by kernel_rfl) (by kernel_rfl) (by kernel_rfl) (fun _ _ _ h => h) (Or.inl ⟨rfl, ?_⟩) (by assumption) ?_
        rotate_left 1
        · intro w_ hSw; (try dsimp only at hSw); go_simp; (try with_reducible rfl)
        (try simp only [Act.put, List.setIfInBounds_toArray, List.set_cons_zero, List.set_cons_succ])
        refine wpAnyH_take (i := 9) (oi := ⟨_, _, _, _, _, _⟩) (v := ?_) rfl (by kernel_rfl) (by kernel_rfl) (by kernel_rfl) (fun _ _ _ h => h) (Or.inl ⟨rfl, ?_⟩) (by assumption) ?_
        rotate_left 1
        · intro w_ hSw; (try dsimp only at hSw); go_simp; (try with_reducible rfl)
        (try simp only [Act.put, List.setIfInBounds_toArray, List.set_cons_zero, List.set_cons_succ])
        refine wpAnyH_ready (rs := [4, 10]) (by kernel_rfl) (by simp) ?_
        refine (AllReadyH.cons (o := ⟨_, _, _, _, _, _⟩) rfl (fun K hK => ?_) (AllReadyH.cons (o := ⟨_, _, _, _, _, _⟩) rfl (fun K hK => ?_) AllReadyH.nil))
        · go_simp
          refine hK.out _ _ ?_ (fun hHeld => ?_)
          · exact s10
          clear hK K
          (try simp only [Act.put, List.setIfInBounds_toArray, List.set_cons_zero, List.set_cons_succ])
          refine wpAnyH_ready (rs := [10]) (by kernel_rfl) (by simp) ?_
          refine (AllReadyH.cons (o := ⟨_, _, _, _, _, _⟩) rfl (fun K hK => ?_) AllReadyH.nil)
          go_simp
          go_at_call 63
          refine (HIx.out _ (below_drew _)).mono ?_
          rintro e_ w_ ⟨rfl, rfl⟩
          refine hK.out _ _ ?_ (fun hHeld => ?_)
          · exact s10
          clear hK K
          (try simp only [Act.put, List.setIfInBounds_toArray, List.set_cons_zero, List.set_cons_succ])
          refine wpAnyH_ready (rs := [11]) (by kernel_rfl) (by simp) ?_
          refine (AllReadyH.cons (o := ⟨_, _, _, _, _, _⟩) rfl (fun K hK => ?_) AllReadyH.nil)
          go_simp
          refine hK.out _ _ ?_ (fun hHeld => ?_)
          · exact cell_b ((below_alloc _ _).drew) s10
          clear hK K
          (try simp only [Act.put, List.setIfInBounds_toArray, List.set_cons_zero, List.set_cons_succ])
          refine wpAnyH_ready (rs := [12]) (by kernel_rfl) (by simp) ?_
          refine (AllReadyH.cons (o := ⟨_, _, _, _, _, _⟩) rfl (fun K hK => ?_) AllReadyH.nil)
          refine step_append_lies _ rfl _ _ _ rfl (Q + 1) 3 j0 _ 1 8 Try.underlying25 hj0 hy0 hy1 hy2 rfl (by decide) vb k ((lstP k (naI f)).map (Value.int .i64)) rfl (World.ownsRow.alloc (show wi.drew.ownsRow _ _ _ _ _ _ from HQs.out.nat) _) ⟨wi.drew.heap.size, 0, none⟩ 1 1 [.int .i64 u] rfl rfl (cell_one_new _ _ _) (by simp [Value.oneCell']) (by decide) (by unfold maxLen; omega) (by omega) (by have h_ := HQs.out.lt; show Q + 1 ≤ (wi.drew.alloc _).heap.size; simp; omega) _ rfl ?_
          intro g4 cap4 w4 hown4 hgrow4 hat4 hlt4
          have HQ4 := Lib.hid (HQs.out.natPut (k' := k + 1) (v' := .slice (some ⟨g4, 0, none⟩) (k + 1) cap4) hAQ (by rw [lstP_succ, List.map_append, HU.out]; exact hown4) hgrow4 (by rcases hat4 with h | h; exact .inl h.symm; exact .inr (by rw [h]; rfl)))
          have HB4 : Hid (Below w.heap.size w w4) := ((HBi.out.drew).alloc HBi.out.size _).grown hgrow4 (by have := HBi.out.size; show w.heap.size ≤ (wi.drew.alloc _).heap.size; simp; omega) (fun b hb => by have h_ := (HQs.out.nat.lt b hb).1; omega)
          have HBx4 : Hid (w4.heap[Q]? = some (.cells (qtArr (z : Int) ao n c f (.slice (some ⟨g1, 0, none⟩) t1 c1) vb) 76 (0, 0))) := HQs.out.boxGrown hgrow4
          have d11 := (qt_cells HBx4.out).2.2.2.1
          have f11 := (qt_cells HBx4.out).2.2.2.2 11
          clear hown4 hgrow4 hat4
          refine hK.out _ _ ?_ (fun hHeld => ?_)
          · exact (qt_cells HBx4.out).2.2.1
          clear hK K
          (try simp only [Act.put, List.setIfInBounds_toArray, List.set_cons_zero, List.set_cons_succ])
          refine wpAnyH_take (i := 13) (oi := ⟨_, _, _, _, _, _⟩) (v := ?_) rfl (by kernel_rfl) (by kernel_rfl) (by kernel_rfl) (fun _ _ _ h => h) (Or.inl ⟨rfl, ?_⟩) (by assumption) ?_
          rotate_left 1
          · intro w_ hSw; (try dsimp only at hSw); go_simp; (try with_reducible rfl)
          (try simp only [Act.put, List.setIfInBounds_toArray, List.set_cons_zero, List.set_cons_succ])
          refine wpAnyH_take (i := 14) (oi := ⟨_, _, _, _, _, _⟩) (v := ?_) rfl (by kernel_rfl) (by kernel_rfl) (by kernel_rfl) (fun _ _ _ h => h) (Or.inl ⟨rfl, ?_⟩) (by assumption) ?_
          rotate_left 1
          · intro w_ hSw; (try dsimp only at hSw); go_simp; (try with_reducible rfl)
          (try simp only [Act.put, List.setIfInBounds_toArray, List.set_cons_zero, List.set_cons_succ])
          refine wpAnyH_ready (rs := [15]) (by kernel_rfl) (by simp) ?_
          refine (AllReadyH.cons (o := ⟨_, _, _, _, _, _⟩) rfl (fun K hK => ?_) AllReadyH.nil)
          go_simp
          refine hK.out _ _ ?_ (fun hHeld => ?_)
          · exact (qt_cells HQ4.out.box).2.2.1
          clear hK K
          (try simp only [Act.put, List.setIfInBounds_toArray, List.set_cons_zero, List.set_cons_succ])
          refine wpAnyH_done (by kernel_rfl) ?_ _
          refine NoPanic.normal ?_
          have HQ5 : Hid (QtS (w4.setCell ⟨Q, 11, none⟩ (.slice (some ⟨g4, 0, none⟩) (k + 1) cap4)) A Q (z : Int) ao n c f (k + 1) (k + 1) (.slice (some ⟨g1, 0, none⟩) t1 c1) (.slice (some ⟨g4, 0, none⟩) (k + 1) cap4)) := HQ4.out
          have HB5 : Hid (Below w.heap.size w (w4.setCell ⟨Q, 11, none⟩ (.slice (some ⟨g4, 0, none⟩) (k + 1) cap4))) := HB4.out.setCell (by show w.heap.size ≤ Q; omega) _
          clear HQ4 HB4 HBx4 hHeld
          go_wp2_with fail
          go_roundw
          case rel => exact ⟨k + 1, _, _, by omega, by go_num, HQ5, HB5⟩
          case measure => simp [intOf]; omega
        · go_simp
          go_at_call 63
          refine (HIx.out _ (below_drew _)).mono ?_
          rintro e_ w_ ⟨rfl, rfl⟩
          refine hK.out _ _ ?_ (fun hHeld => ?_)
          · exact s10
          clear hK K
          (try simp only [Act.put, List.setIfInBounds_toArray, List.set_cons_zero, List.set_cons_succ])
          refine wpAnyH_ready (rs := [4, 11]) (by kernel_rfl) (by simp) ?_
          refine (AllReadyH.cons (o := ⟨_, _, _, _, _, _⟩) rfl (fun K hK => ?_) (AllReadyH.cons (o := ⟨_, _, _, _, _, _⟩) rfl (fun K hK => ?_) AllReadyH.nil))
          · go_simp
            refine hK.out _ _ ?_ (fun hHeld => ?_)
            · exact s10
            clear hK K
            (try simp only [Act.put, List.setIfInBounds_toArray, List.set_cons_zero, List.set_cons_succ])
            refine wpAnyH_ready (rs := [11]) (by kernel_rfl) (by simp) ?_
            refine (AllReadyH.cons (o := ⟨_, _, _, _, _, _⟩) rfl (fun K hK => ?_) AllReadyH.nil)
            go_simp
            refine hK.out _ _ ?_ (fun hHeld => ?_)
            · exact cell_b ((below_alloc _ _).drew) s10
            clear hK K
            (try simp only [Act.put, List.setIfInBounds_toArray, List.set_cons_zero, List.set_cons_succ])
            refine wpAnyH_ready (rs := [12]) (by kernel_rfl) (by simp) ?_
            refine (AllReadyH.cons (o := ⟨_, _, _, _, _, _⟩) rfl (fun K hK => ?_) AllReadyH.nil)
            refine step_append_lies _ rfl _ _ _ rfl (Q + 1) 3 j0 _ 1 8 Try.underlying25 hj0 hy0 hy1 hy2 rfl (by decide) vb k ((lstP k (naI f)).map (Value.int .i64)) rfl (World.ownsRow.alloc (show wi.drew.ownsRow _ _ _ _ _ _ from HQs.out.nat) _) ⟨wi.drew.heap.size, 0, none⟩ 1 1 [.int .i64 u] rfl rfl (cell_one_new _ _ _) (by simp [Value.oneCell']) (by decide) (by unfold maxLen; omega) (by omega) (by have h_ := HQs.out.lt; show Q + 1 ≤ (wi.drew.alloc _).heap.size; simp; omega) _ rfl ?_
            intro g4 cap4 w4 hown4 hgrow4 hat4 hlt4
            have HQ4 := Lib.hid (HQs.out.natPut (k' := k + 1) (v' := .slice (some ⟨g4, 0, none⟩) (k + 1) cap4) hAQ (by rw [lstP_succ, List.map_append, HU.out]; exact hown4) hgrow4 (by rcases hat4 with h | h; exact .inl h.symm; exact .inr (by rw [h]; rfl)))
            have HB4 : Hid (Below w.heap.size w w4) := ((HBi.out.drew).alloc HBi.out.size _).grown hgrow4 (by have := HBi.out.size; show w.heap.size ≤ (wi.drew.alloc _).heap.size; simp; omega) (fun b hb => by have h_ := (HQs.out.nat.lt b hb).1; omega)
            have HBx4 : Hid (w4.heap[Q]? = some (.cells (qtArr (z : Int) ao n c f (.slice (some ⟨g1, 0, none⟩) t1 c1) vb) 76 (0, 0))) := HQs.out.boxGrown hgrow4
            have d11 := (qt_cells HBx4.out).2.2.2.1
            have f11 := (qt_cells HBx4.out).2.2.2.2 11
            clear hown4 hgrow4 hat4
            refine hK.out _ _ ?_ (fun hHeld => ?_)
            · exact (qt_cells HBx4.out).2.2.1
            clear hK K
            (try simp only [Act.put, List.setIfInBounds_toArray, List.set_cons_zero, List.set_cons_succ])
            refine wpAnyH_take (i := 13) (oi := ⟨_, _, _, _, _, _⟩) (v := ?_) rfl (by kernel_rfl) (by kernel_rfl) (by kernel_rfl) (fun _ _ _ h => h) (Or.inl ⟨rfl, ?_⟩) (by assumption) ?_
            rotate_left 1
            · intro w_ hSw; (try dsimp only at hSw); go_simp; (try with_reducible rfl)
            (try simp only [Act.put, List.setIfInBounds_toArray, List.set_cons_zero, List.set_cons_succ])
            refine wpAnyH_take (i := 14) (oi := ⟨_, _, _, _, _, _⟩) (v := ?_) rfl (by kernel_rfl) (by kernel_rfl) (by kernel_rfl) (fun _ _ _ h => h) (Or.inl ⟨rfl, ?_⟩) (by assumption) ?_
            rotate_left 1
            · intro w_ hSw; (try dsimp only at hSw); go_simp; (try with_reducible rfl)
            (try simp only [Act.put, List.setIfInBounds_toArray, List.set_cons_zero, List.set_cons_succ])
            refine wpAnyH_ready (rs := [15]) (by kernel_rfl) (by simp) ?_
            refine (AllReadyH.cons (o := ⟨_, _, _, _, _, _⟩) rfl (fun K hK => ?_) AllReadyH.nil)
            go_simp
            refine hK.out _ _ ?_ (fun hHeld => ?_)
            · exact (qt_cells HQ4.out.box).2.2.1
            clear hK K
            (try simp only [Act.put, List.setIfInBounds_toArray, List.set_cons_zero, List.set_cons_succ])
            refine wpAnyH_done (by kernel_rfl) ?_ _
            refine NoPanic.normal ?_
            have HQ5 : Hid (QtS (w4.setCell ⟨Q, 11, none⟩ (.slice (some ⟨g4, 0, none⟩) (k + 1) cap4)) A Q (z : Int) ao n c f (k + 1) (k + 1) (.slice (some ⟨g1, 0, none⟩) t1 c1) (.slice (some ⟨g4, 0, none⟩) (k + 1) cap4)) := HQ4.out
            have HB5 : Hid (Below w.heap.size w (w4.setCell ⟨Q, 11, none⟩ (.slice (some ⟨g4, 0, none⟩) (k + 1) cap4))) := HB4.out.setCell (by show w.heap.size ≤ Q; omega) _
            clear HQ4 HB4 HBx4 hHeld
            go_wp2_with fail
            go_roundw
            case rel => exact ⟨k + 1, _, _, by omega, by go_num, HQ5, HB5⟩
            case measure => simp [intOf]; omega
          · go_simp
            refine hK.out _ _ ?_ (fun hHeld => ?_)
            · exact cell_b ((below_alloc _ _).drew) s10
            clear hK K
            (try simp only [Act.put, List.setIfInBounds_toArray, List.set_cons_zero, List.set_cons_succ])
            refine wpAnyH_ready (rs := [4]) (by kernel_rfl) (by simp) ?_
            refine (AllReadyH.cons (o := ⟨_, _, _, _, _, _⟩) rfl (fun K hK => ?_) AllReadyH.nil)
            have s11b : ((wi.alloc (.cells #[.int .i64 u] 3)).drew).cell? ⟨Q, 11, none⟩ = some vb := cell_b ((below_alloc _ _).drew) s11
            go_simp
            refine hK.out _ _ ?_ (fun hHeld => ?_)
            · exact cell_b ((below_alloc _ _).drew) s10
            clear hK K
            (try simp only [Act.put, List.setIfInBounds_toArray, List.set_cons_zero, List.set_cons_succ])
            refine wpAnyH_ready (rs := [12]) (by kernel_rfl) (by simp) ?_
            refine (AllReadyH.cons (o := ⟨_, _, _, _, _, _⟩) rfl (fun K hK => ?_) AllReadyH.nil)
            refine step_append_lies _ rfl _ _ _ rfl (Q + 1) 3 j0 _ 1 8 Try.underlying25 hj0 hy0 hy1 hy2 rfl (by decide) vb k ((lstP k (naI f)).map (Value.int .i64)) rfl (World.ownsRow.alloc (show wi.drew.ownsRow _ _ _ _ _ _ from HQs.out.nat) _) ⟨wi.drew.heap.size, 0, none⟩ 1 1 [.int .i64 u] rfl rfl (cell_one_new _ _ _) (by simp [Value.oneCell']) (by decide) (by unfold maxLen; omega) (by omega) (by have h_ := HQs.out.lt; show Q + 1 ≤ (wi.drew.alloc _).heap.size; simp; omega) _ rfl ?_
            intro g4 cap4 w4 hown4 hgrow4 hat4 hlt4
            have HQ4 := Lib.hid (HQs.out.natPut (k' := k + 1) (v' := .slice (some ⟨g4, 0, none⟩) (k + 1) cap4) hAQ (by rw [lstP_succ, List.map_append, HU.out]; exact hown4) hgrow4 (by rcases hat4 with h | h; exact .inl h.symm; exact .inr (by rw [h]; rfl)))
            have HB4 : Hid (Below w.heap.size w w4) := ((HBi.out.drew).alloc HBi.out.size _).grown hgrow4 (by have := HBi.out.size; show w.heap.size ≤ (wi.drew.alloc _).heap.size; simp; omega) (fun b hb => by have h_ := (HQs.out.nat.lt b hb).1; omega)
            have HBx4 : Hid (w4.heap[Q]? = some (.cells (qtArr (z : Int) ao n c f (.slice (some ⟨g1, 0, none⟩) t1 c1) vb) 76 (0, 0))) := HQs.out.boxGrown hgrow4
            have d11 := (qt_cells HBx4.out).2.2.2.1
            have f11 := (qt_cells HBx4.out).2.2.2.2 11
            clear hown4 hgrow4 hat4
            refine hK.out _ _ ?_ (fun hHeld => ?_)
            · exact (qt_cells HBx4.out).2.2.1
            clear hK K
            (try simp only [Act.put, List.setIfInBounds_toArray, List.set_cons_zero, List.set_cons_succ])
            refine wpAnyH_take (i := 13) (oi := ⟨_, _, _, _, _, _⟩) (v := ?_) rfl (by kernel_rfl) (by kernel_rfl) (by kernel_rfl) (fun _ _ _ h => h) (Or.inl ⟨rfl, ?_⟩) (by assumption) ?_
            rotate_left 1
            · intro w_ hSw; (try dsimp only at hSw); go_simp; (try with_reducible rfl)
            (try simp only [Act.put, List.setIfInBounds_toArray, List.set_cons_zero, List.set_cons_succ])
            refine wpAnyH_take (i := 14) (oi := ⟨_, _, _, _, _, _⟩) (v := ?_) rfl (by kernel_rfl) (by kernel_rfl) (by kernel_rfl) (fun _ _ _ h => h) (Or.inl ⟨rfl, ?_⟩) (by assumption) ?_
            rotate_left 1
            · intro w_ hSw; (try dsimp only at hSw); go_simp; (try with_reducible rfl)
            (try simp only [Act.put, List.setIfInBounds_toArray, List.set_cons_zero, List.set_cons_succ])
            refine wpAnyH_ready (rs := [15]) (by kernel_rfl) (by simp) ?_
            refine (AllReadyH.cons (o := ⟨_, _, _, _, _, _⟩) rfl (fun K hK => ?_) AllReadyH.nil)
            go_simp
            refine hK.out _ _ ?_ (fun hHeld => ?_)
            · exact (qt_cells HQ4.out.box).2.2.1
            clear hK K
            (try simp only [Act.put, List.setIfInBounds_toArray, List.set_cons_zero, List.set_cons_succ])
            refine wpAnyH_done (by kernel_rfl) ?_ _
            refine NoPanic.normal ?_
            have HQ5 : Hid (QtS (w4.setCell ⟨Q, 11, none⟩ (.slice (some ⟨g4, 0, none⟩) (k + 1) cap4)) A Q (z : Int) ao n c f (k + 1) (k + 1) (.slice (some ⟨g1, 0, none⟩) t1 c1) (.slice (some ⟨g4, 0, none⟩) (k + 1) cap4)) := HQ4.out
            have HB5 : Hid (Below w.heap.size w (w4.setCell ⟨Q, 11, none⟩ (.slice (some ⟨g4, 0, none⟩) (k + 1) cap4))) := HB4.out.setCell (by show w.heap.size ≤ Q; omega) _
            clear HQ4 HB4 HBx4 hHeld
            go_wp2_with fail
            go_roundw
            case rel => exact ⟨k + 1, _, _, by omega, by go_num, HQ5, HB5⟩
            case measure => simp [intOf]; omega
    · have hkn : ¬ (k : Int) < (z : Int) := by omega
      obtain rfl : k = z := by omega
      go_wp2_with fail
      go_ret
      exact ⟨va, vb, by rw [HQe.out]; rfl, by rw [← HQe.out, ← HAe.out]; exact HQk.out, HBr.out⟩
end

section
open Go.RowKit
set_option linter.unusedVariables false
set_option linter.unusedSimpArgs false

theorem okAll_ext {xs : List Int} {n : Nat} (hl : xs.length = n) (h : okAll (gI xs) n = true) : okAll (extP xs) n = true := by
  unfold okAll at h ⊢
  rw [List.all_eq_true] at h ⊢
  intro x hx
  have hx' := List.mem_range.1 hx
  have h1 := h x hx
  obtain ⟨⟨h2, h3⟩, h4⟩ := okP_of h1
  unfold okP at h1 ⊢
  rw [extP_lt (by omega), extP_lt (k := (gI xs x).toNat) (by omega)]
  exact h1

/-- What quotientOf gives. -/
def ResQ (w w' : World) (b : Bool) (z : Int) (ao : Option Addr) (n c : Nat) (xs : List Int) (e : Ending) : Prop :=
  Below w.heap.size w w' ∧ if b = true then ∃ (A Q : Nat) (va vb : Value), e = .returned (.pointer (some ⟨Q, 0, none⟩)) ∧ w.heap.size ≤ A ∧ A < Q ∧ QtS w' A Q z ao n c (extP xs) z.toNat z.toNat va vb else e = .returned (.pointer none)

set_option maxHeartbeats 2000000 in
set_option maxRecDepth 100000 in
theorem quotOf_any (lo hi : Nat) (z : Int) (ao : Option Addr) (c n : Nat) (fs : List OpD) (lo2 hi2 : Nat) (bo : Option Addr) (d m : Nat) (xs : List Int) (w : World) (hv : OView w lo hi ao n fs) (hhi : hi ≤ w.heap.size) (hs : ∀ (j : Nat) (f : OpD), fs[j]? = some f → f.2.length ≤ maxLen)
    (hx : IView w lo2 hi2 bo m xs) (hhi2 : hi2 ≤ w.heap.size) (hm : m ≤ maxLen) :
    Calls Try.prog 73 #[.agg #[.int .i64 z, .slice ao n c], .slice bo m d] w fun e w' => ResQ w w' (cngB z fs xs) z ao n c xs e := by
  have hB := below_alloc w (.cells #[.int .i64 z, .slice ao n c] 31)
  have HB0 := Lib.hid hB
  have HC := Lib.hid (fun (W : World) (hW : Below w.heap.size w W) => congOf_any lo hi z ao c n fs lo2 hi2 bo d m xs W (hv.kept (Kept.of_below hW hhi)) (Nat.le_trans hhi hW.size) hs (hx.kept (Kept.of_below hW hhi2)) (Nat.le_trans hhi2 hW.size) hm)
  have hX0 : (w.alloc (.cells #[.int .i64 z, .slice ao n c] 31)).heap[w.heap.size]? = some (.cells #[.int .i64 z, .slice ao n c] 31 (0, 0)) := heap_alloc_new _ _
  have HX0 := Lib.hid hX0
  obtain ⟨cz0, ca0, _⟩ := box_cells hX0
  unfold ResP at HC
  unfold ResQ
  cases hb : cngB z fs xs with
  | false =>
    obtain ⟨g, hg⟩ : ∃ g, parF false xs = g := ⟨_, rfl⟩
    simp only [hb, hg] at HC
    simp only [Bool.false_eq_true, if_false]
    clear hv hx hs hm hB hX0 hb hg
    go_enter Try.func73, Try.ntmps73
    go_wp2_with fail
    refine (HC.out _ HB0.out).mono ?_
    rintro e w1 ⟨rfl, b1⟩
    have HB1 := Lib.hid (HB0.out.trans (b1.mono HB0.out.size))
    have HX1 := Lib.hid ((b1.block w.heap.size (by simp)).trans HX0.out)
    obtain ⟨cz, ca, _⟩ := box_cells HX1.out
    have HA1 := Lib.hid (ArrAt.new w1 fun _ => 0)
    have hz1_ : w.heap.size < w1.heap.size := (Array.getElem?_eq_some_iff.1 HX1.out).1
    clear b1 cz0 ca0
    obtain ⟨w3, hw3⟩ : ∃ w3, w3 = (w1.alloc (.cells (arrV fun _ => 0) 70)).setRow w1.heap.size (arrV g) := ⟨_, rfl⟩
    have HA3 : Hid (ArrAt w3 w1.heap.size g) := by unfold Hid; rw [hw3]; exact HA1.out.setRow
    have HB3 : Hid (Below w.heap.size w w3) := by unfold Hid; rw [hw3]; exact below_setRow (below_then HB1.out (below_alloc w1 _)) (by omega) _
    have HX3 : Hid (w3.heap[w.heap.size]? = some (.cells #[.int .i64 z, .slice ao n c] 31 (0, 0))) := by
      unfold Hid; rw [hw3]
      exact ((below_setRow (below_alloc w1 (.cells (arrV fun _ => 0) 70)) (Nat.le_refl _) (arrV g)).block _ (by omega)).trans HX1.out
    have HW3 := Lib.hid hw3
    clear hw3 cz ca
    obtain ⟨cz, ca, _⟩ := box_cells HX3.out
    go_wp2_with (refine st8 (w := w1.alloc (.cells (arrV fun _ => 0) 70)) HA1.out rfl _ _ rfl rfl rfl ?_; rw [← HW3.out])
    go_ret
    exact ⟨HB3.out, rfl⟩
  | true =>
    obtain ⟨hok, hpt, _⟩ := cngB_of hb
    obtain ⟨⟨z1, z8⟩, _, _⟩ := algOkB_of hok
    obtain ⟨zn, rfl⟩ : ∃ zn : Nat, z = (zn : Int) := ⟨z.toNat, by omega⟩
    obtain ⟨g, hg⟩ : ∃ g, extP xs = g := ⟨_, rfl⟩
    rw [hb, parF_yes, hg] at HC
    simp only [if_true, hg]
    have hlz : xs.length = zn := by have := (partB_of hpt).1; omega
    have hoA : okAll g zn = true := by rw [← hg]; exact okAll_ext hlz (by have := (partB_of hpt).2; rwa [hlz] at this)
    have HQ := Lib.hid (fun (W : World) => quotBy_any zn ao c n g W (by omega) (by omega) hoA)
    unfold NewQt at HQ
    clear hv hx hs hm hB hX0 hb hg hok hpt z1 z8 hlz hoA
    go_enter Try.func73, Try.ntmps73
    go_wp2_with fail
    refine (HC.out _ HB0.out).mono ?_
    rintro e w1 ⟨rfl, b1⟩
    have HB1 := Lib.hid (HB0.out.trans (b1.mono HB0.out.size))
    have HX1 := Lib.hid ((b1.block w.heap.size (by simp)).trans HX0.out)
    obtain ⟨cz, ca, _⟩ := box_cells HX1.out
    have HA1 := Lib.hid (ArrAt.new w1 fun _ => 0)
    have hz1_ : w.heap.size < w1.heap.size := (Array.getElem?_eq_some_iff.1 HX1.out).1
    clear b1 cz0 ca0
    obtain ⟨w3, hw3⟩ : ∃ w3, w3 = (w1.alloc (.cells (arrV fun _ => 0) 70)).setRow w1.heap.size (arrV g) := ⟨_, rfl⟩
    have HA3 : Hid (ArrAt w3 w1.heap.size g) := by unfold Hid; rw [hw3]; exact HA1.out.setRow
    have HB3 : Hid (Below w.heap.size w w3) := by unfold Hid; rw [hw3]; exact below_setRow (below_then HB1.out (below_alloc w1 _)) (by omega) _
    have HX3 : Hid (w3.heap[w.heap.size]? = some (.cells #[.int .i64 (zn : Int), .slice ao n c] 31 (0, 0))) := by
      unfold Hid; rw [hw3]
      exact ((below_setRow (below_alloc w1 (.cells (arrV fun _ => 0) 70)) (Nat.le_refl _) (arrV g)).block _ (by omega)).trans HX1.out
    have HW3 := Lib.hid hw3
    clear hw3 cz ca
    obtain ⟨cz, ca, _⟩ := box_cells HX3.out
    go_wp2_with (first | (refine st8 (w := w1.alloc (.cells (arrV fun _ => 0) 70)) HA1.out rfl _ _ rfl rfl rfl ?_; rw [← HW3.out]) | (refine ld8 HA3.out rfl _ rfl rfl ?_))
    refine (HQ.out _).mono ?_
    rintro e w4 ⟨va, vb, rfl, hq4, b4⟩
    have HB4 := Lib.hid (HB3.out.trans (b4.mono HB3.out.size))
    have HQ4 := Lib.hid hq4
    have hsz := HB3.out.size
    clear b4 hq4
    go_wp2_with fail
    go_ret
    exact ⟨HB4.out, w3.heap.size + 1, w3.heap.size + 1 + 1, va, vb, rfl, by omega, by omega, by rw [Int.toNat_natCast]; exact HQ4.out⟩

def valNaturalMap (z : Int) (fs : List OpD) (xs : List Int) : List Int × Bool := if cngB z fs xs = true then (lstP z.toNat (naI (gI xs)), true) else ([], false)
theorem smallNaturalMap (z : Int) (fs : List OpD) (xs : List Int) : (valNaturalMap z fs xs).1.length ≤ 4194304 := by
  unfold valNaturalMap
  split
  · rename_i h
    have := (algOkB_of (cngB_of h).1).1
    simp only [lstP_len]; omega
  · simp
theorem na_ext {z : Int} {fs : List OpD} {xs : List Int} (h : cngB z fs xs = true) : lstP z.toNat (naI (extP xs)) = lstP z.toNat (naI (gI xs)) := by
  have := (partB_of (cngB_of h).2.1).1
  exact lstP_congr fun x hx => naI_congr fun y hy => extP_lt (by omega)

set_option maxHeartbeats 1000000 in
theorem implNaturalMap (lo hi : Nat) (z : Int) (ao : Option Addr) (c n : Nat) (fs : List OpD) (lo2 hi2 : Nat) (bo : Option Addr) (d m : Nat) (xs : List Int) (w : World) (hv : OView w lo hi ao n fs) (hhi : hi ≤ w.heap.size) (hs : ∀ (j : Nat) (f : OpD), fs[j]? = some f → f.2.length ≤ maxLen)
    (hx : IView w lo2 hi2 bo m xs) (hhi2 : hi2 ≤ w.heap.size) (hm : m ≤ maxLen) :
    Calls Try.prog 33 #[.agg #[.int .i64 z, .slice ao n c], .slice bo m d] w fun e w' => ResL w w' (valNaturalMap z fs xs).1 (valNaturalMap z fs xs).2 e := by
  have hB := below_alloc w (.cells #[.int .i64 z, .slice ao n c] 31)
  have HB0 := Lib.hid hB
  have HC := Lib.hid (quotOf_any lo hi z ao c n fs lo2 hi2 bo d m xs _ (hv.kept (Kept.of_below hB hhi)) (Nat.le_trans hhi hB.size) hs (hx.kept (Kept.of_below hB hhi2)) (Nat.le_trans hhi2 hB.size) hm)
  unfold ResQ at HC
  unfold ResL valNaturalMap
  cases hb : cngB z fs xs with
  | false =>
    simp only [hb, Bool.false_eq_true, if_false] at HC
    rw [if_neg (by simp)]
    clear hv hx hs hm hB hb
    go_enter Try.func33, Try.ntmps33
    go_wp2_with fail
    refine HC.out.mono ?_
    rintro e w1 ⟨b1, rfl⟩
    have HB1 := Lib.hid (HB0.out.trans (b1.mono HB0.out.size))
    clear b1
    go_wp2_with fail
    go_ret2
    exact ⟨_, _, _, rfl, rfl, OwnsInts.of_row (World.ownsRow_nil _ _ _ _), HB1.out⟩
  | true =>
    have hne := na_ext hb
    simp only [hb, if_true] at HC
    rw [if_pos rfl, ← hne]
    obtain ⟨zn, hzn⟩ : ∃ zn, z.toNat = zn := ⟨_, rfl⟩
    rw [hzn]
    simp only [hzn] at HC
    clear hv hx hs hm hB hb hne hzn
    go_enter Try.func33, Try.ntmps33
    go_wp2_with fail
    refine HC.out.mono ?_
    rintro e w1 ⟨b1, A, Q, va, vb, rfl, hA, hQ, hq⟩
    obtain ⟨a, cc, rfl⟩ := own_form hq.nat
    have HB1 := Lib.hid (HB0.out.trans (b1.mono HB0.out.size))
    obtain ⟨_, _, _, d11, _⟩ := qt_cells hq.box
    have HO := Lib.hid (ownsRow_base hq.nat (b' := w.heap.size) (by have := HB0.out.size; omega))
    clear b1 hq
    go_wp2_with fail
    go_ret2
    exact ⟨_, _, _, rfl, (lstP_len _ _).symm, OwnsInts.of_row HO.out, HB1.out⟩
end

section
open Go.RowKit
set_option linter.unusedVariables false
set_option linter.unusedSimpArgs false

theorem ixP_get {v : Int} : ∀ {l : List Int}, v ∈ l → l[ixP l v]? = some v
  | [], h => by cases h
  | y :: l, h => by
    rw [ixP]
    by_cases hy : y = v
    · rw [if_pos hy, hy]; rfl
    · rw [if_neg hy, List.getElem?_cons_succ]
      exact ixP_get (by rcases List.mem_cons.1 h with h | h; exact absurd h.symm hy; exact h)
theorem plI_inj {l : List Int} {u v : Int} (hu : u ∈ l) (hv : v ∈ l) (h : plI l u = plI l v) : u = v := by
  unfold plI at h
  rw [if_pos hu, if_pos hv] at h
  have h1 := ixP_get hu
  rw [show ixP l u = ixP l v by omega, ixP_get hv] at h1
  exact (Option.some.inj h1).symm
theorem naI_all {f : Nat → Int} {n x : Nat} (hf : okAll f n = true) (hx : x < n) : f x ∈ leP f n ∧ naI f x = plI (leP f n) (f x) := by
  obtain ⟨⟨h0, h1⟩, h2⟩ := okAll_get hf hx
  have hm : f x ∈ leP f (x + 1) := leP_mem.2 ⟨(f x).toNat, by omega, by rw [h2]; omega, by omega⟩
  obtain ⟨r, hr⟩ := leP_pre f (x + 1) (n - (x + 1))
  rw [show x + 1 + (n - (x + 1)) = n by omega] at hr
  exact ⟨by rw [hr]; exact List.mem_append_left _ hm, by rw [hr, plI_app hm]; rfl⟩
theorem naI_iff {f : Nat → Int} {n x y : Nat} (hf : okAll f n = true) (hx : x < n) (hy : y < n) : naI f x = naI f y ↔ f x = f y := by
  obtain ⟨a1, a2⟩ := naI_all hf hx
  obtain ⟨b1, b2⟩ := naI_all hf hy
  constructor
  · intro h
    rw [a2, b2] at h
    exact plI_inj a1 b1 h
  · intro h
    rw [a2, b2, h]
theorem ixP_map {g h : Int → Int} {a : Int} : ∀ {l : List Int}, (∀ b ∈ l, g b = g a ↔ h b = h a) → ixP (l.map g) (g a) = ixP (l.map h) (h a)
  | [], _ => rfl
  | b :: l, hh => by
    rw [List.map_cons, List.map_cons, ixP, ixP, ixP_map fun c hc => hh c (List.mem_cons_of_mem _ hc)]
    have h1 := hh b List.mem_cons_self
    by_cases hb : g b = g a
    · rw [if_pos hb, if_pos (h1.1 hb)]
    · rw [if_neg hb, if_neg (fun e => hb (h1.2 e))]
/-- Equal values in the one where there are in the other: the same partition. -/
theorem kerL_map {g h : Int → Int} {l : List Int} (hh : ∀ a ∈ l, ∀ b ∈ l, g b = g a ↔ h b = h a) : kerL (l.map g) = kerL (l.map h) := by
  unfold kerL
  rw [List.map_map, List.map_map]
  refine List.map_congr_left fun a ha => ?_
  show plI (l.map g) (g a) = plI (l.map h) (h a)
  unfold plI
  rw [if_pos (List.mem_map.2 ⟨a, ha, rfl⟩), if_pos (List.mem_map.2 ⟨a, ha, rfl⟩), ixP_map fun b hb => hh a ha b hb]
end

section
open Go.RowKit
set_option linter.unusedVariables false
set_option linter.unusedSimpArgs false

theorem QtS.below {W W' : World} {A Q : Nat} {z : Int} {ao : Option Addr} {n c : Nat} {f : Nat → Int} {k1 k : Nat} {va vb : Value} (h : QtS W A Q z ao n c f k1 k va vb) (hb : Below W.heap.size W W') : QtS W' A Q z ao n c f k1 k va vb :=
  ⟨(hb.block Q h.lt).trans h.box, h.arr.below hb h.arr.lt, h.les.kept (grown_of_below hb none) (own_em _), h.nat.kept (grown_of_below hb none) (own_em _), h.ne⟩
theorem qt_range {W : World} {Q : Nat} {z : Int} {ao : Option Addr} {n c : Nat} {f : Nat → Int} {va vb : Value} (h : W.heap[Q]? = some (.cells (qtArr z ao n c f va vb) 76 (0, 0))) : W.rangeAt Q 2 (arrV f).toList := by
  intro j v hv
  have hj : j < 8 := (List.getElem?_eq_some_iff.1 hv).1
  rw [cell_of_row W Q (2 + j) _ _ (0, 0) h]
  rcases below8 hj with rfl | rfl | rfl | rfl | rfl | rfl | rfl | rfl <;> exact hv

def QtV (w w' : World) (b : Bool) (z : Int) (ao : Option Addr) (n c : Nat) (xs : List Int) (pv : Value) : Prop :=
  if b = true then ∃ (A Q : Nat) (va vb : Value), pv = .pointer (some ⟨Q, 0, none⟩) ∧ w.heap.size ≤ A ∧ A < Q ∧ QtS w' A Q z ao n c (extP xs) z.toNat z.toNat va vb else pv = .pointer none
theorem quotOf_pv (lo hi : Nat) (z : Int) (ao : Option Addr) (c n : Nat) (fs : List OpD) (lo2 hi2 : Nat) (bo : Option Addr) (d m : Nat) (xs : List Int) (w : World) (hv : OView w lo hi ao n fs) (hhi : hi ≤ w.heap.size) (hs : ∀ (j : Nat) (f : OpD), fs[j]? = some f → f.2.length ≤ maxLen)
    (hx : IView w lo2 hi2 bo m xs) (hhi2 : hi2 ≤ w.heap.size) (hm : m ≤ maxLen) :
    Calls Try.prog 73 #[.agg #[.int .i64 z, .slice ao n c], .slice bo m d] w fun e w' => ∃ pv, e = .returned pv ∧ Below w.heap.size w w' ∧ QtV w w' (cngB z fs xs) z ao n c xs pv := by
  refine (quotOf_any lo hi z ao c n fs lo2 hi2 bo d m xs w hv hhi hs hx hhi2 hm).mono ?_
  rintro e w' ⟨hb, hr⟩
  unfold QtV
  cases hc : cngB z fs xs with
  | false =>
    simp only [hc, Bool.false_eq_true, if_false] at hr ⊢
    exact ⟨_, hr, hb, rfl⟩
  | true =>
    simp only [hc, if_true] at hr ⊢
    obtain ⟨A, Q, va, vb, he, h1, h2, h3⟩ := hr
    exact ⟨_, he, hb, A, Q, va, vb, rfl, h1, h2, h3⟩

def fcB (z : Int) (fs : List OpD) (xs ys : List Int) : Bool := cngB z fs xs && (cngB z fs ys && finB (gI xs) (gI ys) xs.length)
/-- What finerAndCoarser gives. -/
def ResFC (w w' : World) (b : Bool) (z : Int) (ao : Option Addr) (n c : Nat) (xs ys : List Int) (e : Ending) : Prop :=
  Below w.heap.size w w' ∧ if b = true then ∃ (A1 Q1 A2 Q2 : Nat) (va1 vb1 va2 vb2 : Value), e = .returned (.tuple #[.pointer (some ⟨Q1, 0, none⟩), .pointer (some ⟨Q2, 0, none⟩)]) ∧ (w.heap.size ≤ A1 ∧ A1 < Q1) ∧ (w.heap.size ≤ A2 ∧ A2 < Q2) ∧ QtS w' A1 Q1 z ao n c (extP xs) z.toNat z.toNat va1 vb1 ∧ QtS w' A2 Q2 z ao n c (extP ys) z.toNat z.toNat va2 vb2
    else e = .returned (.tuple #[.pointer none, .pointer none])

set_option maxHeartbeats 8000000 in
set_option maxRecDepth 100000 in
theorem finCo_any (lo hi : Nat) (z : Int) (ao : Option Addr) (c n : Nat) (fs : List OpD) (lo2 hi2 : Nat) (bo : Option Addr) (d m : Nat) (xs : List Int) (lo3 hi3 : Nat) (po : Option Addr) (e_ l : Nat) (ys : List Int) (w : World) (hv : OView w lo hi ao n fs) (hhi : hi ≤ w.heap.size) (hs : ∀ (j : Nat) (f : OpD), fs[j]? = some f → f.2.length ≤ maxLen)
    (hx : IView w lo2 hi2 bo m xs) (hhi2 : hi2 ≤ w.heap.size) (hm : m ≤ maxLen) (hy : IView w lo3 hi3 po l ys) (hhi3 : hi3 ≤ w.heap.size) (hl : l ≤ maxLen) :
    Calls Try.prog 78 #[.agg #[.int .i64 z, .slice ao n c], .slice bo m d, .slice po l e_] w fun e w' => ResFC w w' (fcB z fs xs ys) z ao n c xs ys e := by
  have hB := below_alloc w (.cells #[.int .i64 z, .slice ao n c] 31)
  have HB0 := Lib.hid hB
  have hX0 : (w.alloc (.cells #[.int .i64 z, .slice ao n c] 31)).heap[w.heap.size]? = some (.cells #[.int .i64 z, .slice ao n c] 31 (0, 0)) := heap_alloc_new _ _
  have HX0 := Lib.hid hX0
  obtain ⟨cz0, ca0, _⟩ := box_cells hX0
  have HC1 := Lib.hid (fun (W : World) (hW : Below w.heap.size w W) => quotOf_pv lo hi z ao c n fs lo2 hi2 bo d m xs W (hv.kept (Kept.of_below hW hhi)) (Nat.le_trans hhi hW.size) hs (hx.kept (Kept.of_below hW hhi2)) (Nat.le_trans hhi2 hW.size) hm)
  have HC2 := Lib.hid (fun (W : World) (hW : Below w.heap.size w W) => quotOf_pv lo hi z ao c n fs lo3 hi3 po e_ l ys W (hv.kept (Kept.of_below hW hhi)) (Nat.le_trans hhi hW.size) hs (hy.kept (Kept.of_below hW hhi3)) (Nat.le_trans hhi3 hW.size) hl)
  clear hv hx hy hs hm hl hB hX0
  go_enter Try.func78, Try.ntmps78
  go_wp2_with fail
  refine wp_region_noPanic ?_
  refine wp_region_held_drew (S := fun W_ => W_.cell? ⟨w.heap.size, 0, none⟩ = some (.int .i64 z) ∧ W_.cell? ⟨w.heap.size, 1, none⟩ = some (.slice ao n c)) (by kernel_rfl) ?_ (fun hHeld => ?_)
  · exact ⟨cz0, ca0⟩
  refine wpAnyH_take (i := 0) (oi := ⟨_, _, _, _, _, _⟩) (v := ?_) rfl (by kernel_rfl) (by kernel_rfl) (by kernel_rfl) (fun _ _ _ h => h) (Or.inl ⟨rfl, ?_⟩) (by assumption) ?_
  rotate_left 1
  · intro w_ hSw; (try dsimp only at hSw); go_simp; (try with_reducible rfl)
  (try simp only [Act.put, List.setIfInBounds_toArray, List.set_cons_zero, List.set_cons_succ])
  refine wpAnyH_take (i := 1) (oi := ⟨_, _, _, _, _, _⟩) (v := ?_) rfl (by kernel_rfl) (by kernel_rfl) (by kernel_rfl) (fun _ _ _ h => h) (Or.inl ⟨rfl, ?_⟩) (by assumption) ?_
  rotate_left 1
  · intro w_ hSw; (try dsimp only at hSw); go_simp; (try with_reducible rfl)
  (try simp only [Act.put, List.setIfInBounds_toArray, List.set_cons_zero, List.set_cons_succ])
  refine wpAnyH_take (i := 3) (oi := ⟨_, _, _, _, _, _⟩) (v := ?_) rfl (by kernel_rfl) (by kernel_rfl) (by kernel_rfl) (fun _ _ _ h => h) (Or.inl ⟨rfl, ?_⟩) (by assumption) ?_
  rotate_left 1
  · intro w_ hSw; (try dsimp only at hSw); go_simp; (try with_reducible rfl)
  (try simp only [Act.put, List.setIfInBounds_toArray, List.set_cons_zero, List.set_cons_succ])
  refine wpAnyH_take (i := 4) (oi := ⟨_, _, _, _, _, _⟩) (v := ?_) rfl (by kernel_rfl) (by kernel_rfl) (by kernel_rfl) (fun _ _ _ h => h) (Or.inl ⟨rfl, ?_⟩) (by assumption) ?_
  rotate_left 1
  · intro w_ hSw; (try dsimp only at hSw); go_simp; (try with_reducible rfl)
  (try simp only [Act.put, List.setIfInBounds_toArray, List.set_cons_zero, List.set_cons_succ])
  refine wpAnyH_ready (rs := [2]) (by kernel_rfl) (by simp) ?_
  refine AllReadyH.cons (o := ⟨_, _, _, _, _, _⟩) rfl (fun K hK => ?_) AllReadyH.nil
  go_simp
  go_at_call 73
  refine (HC1.out _ (HB0.out.drew)).mono ?_
  rintro e_ w2 ⟨pv1, rfl, b2, hq1⟩
  have HB2 := Lib.hid (HB0.out.trans ((below_then (below_drew _) b2).mono HB0.out.size))
  have HX2 := Lib.hid ((b2.block w.heap.size (by show w.heap.size < (w.alloc _).heap.size; simp)).trans HX0.out)
  have HQ1 := Lib.hid hq1
  have cz2 := (box_cells HX2.out).1
  have ca2 := (box_cells HX2.out).2.1
  clear b2 hq1
  refine hK.out _ _ ?_ (fun hHeld => ?_)
  · exact ⟨cz2, ca2⟩
  clear hK K
  (try simp only [Act.put, List.setIfInBounds_toArray, List.set_cons_zero, List.set_cons_succ])
  refine wpAnyH_ready (rs := [5]) (by kernel_rfl) (by simp) ?_
  refine AllReadyH.cons (o := ⟨_, _, _, _, _, _⟩) rfl (fun K hK => ?_) AllReadyH.nil
  go_simp
  go_at_call 73
  refine (HC2.out _ HB2.out).mono ?_
  rintro e_ w3 ⟨pv2, rfl, b3, hq2⟩
  have HB3 := Lib.hid (HB2.out.trans (b3.mono HB2.out.size))
  have HB23 := Lib.hid b3
  have HQ2 := Lib.hid hq2
  clear b3 hq2
  refine hK.out _ _ ?_ (fun hHeld => ?_)
  · exact ⟨cell_b HB23.out cz2, cell_b HB23.out ca2⟩
  clear hK K
  (try simp only [Act.put, List.setIfInBounds_toArray, List.set_cons_zero, List.set_cons_succ])
  refine wpAnyH_take (i := 6) (oi := ⟨_, _, _, _, _, _⟩) (v := ?_) rfl (by kernel_rfl) (by kernel_rfl) (by kernel_rfl) (fun _ _ _ h => h) (Or.inl ⟨rfl, ?_⟩) (by assumption) ?_
  rotate_left 1
  · intro w_ hSw; (try dsimp only at hSw); go_simp; (try with_reducible rfl)
  (try simp only [Act.put, List.setIfInBounds_toArray, List.set_cons_zero, List.set_cons_succ])
  refine wpAnyH_take (i := 7) (oi := ⟨_, _, _, _, _, _⟩) (v := ?_) rfl (by kernel_rfl) (by kernel_rfl) (by kernel_rfl) (fun _ _ _ h => h) (Or.inl ⟨rfl, ?_⟩) (by assumption) ?_
  rotate_left 1
  · intro w_ hSw; (try dsimp only at hSw); go_simp; (try with_reducible rfl)
  (try simp only [Act.put, List.setIfInBounds_toArray, List.set_cons_zero, List.set_cons_succ])
  refine wpAnyH_done (by kernel_rfl) ?_ _
  refine NoPanic.normal ?_
  clear hHeld cz0 ca0 cz2 ca2
  have hQ1 := HQ1.out
  have hQ2 := HQ2.out
  unfold QtV at hQ1 hQ2
  clear HQ1 HQ2 HC1 HC2
  cases h1 : cngB z fs xs with
  | false =>
    have HFc : Hid (fcB z fs xs ys = false) := by unfold Hid fcB; rw [h1]; rfl
    simp only [h1, Bool.false_eq_true, if_false] at hQ1
    subst hQ1
    have HB4 : Hid (Below w.heap.size w w3.drew) := HB3.out.drew
    clear hQ2 h1
    go_wp2_with fail
    refine wp_region_noPanic ?_
    refine wp_region_held_drew (S := fun _ => True) (by kernel_rfl) ?_ (fun hHeld => ?_)
    · trivial
    refine wpAnyH_take (i := 0) (oi := ⟨_, _, _, _, _, _⟩) (v := ?_) rfl (by kernel_rfl) (by kernel_rfl) (by kernel_rfl) (fun _ _ _ h => h) (Or.inl ⟨rfl, ?_⟩) (trivial) ?_
    rotate_left 1
    · intro w_ hSw; (try dsimp only at hSw); go_simp; (try with_reducible rfl)
    (try simp only [Act.put, List.setIfInBounds_toArray, List.set_cons_zero, List.set_cons_succ])
    refine wpAnyH_take (i := 1) (oi := ⟨_, _, _, _, _, _⟩) (v := ?_) rfl (by kernel_rfl) (by kernel_rfl) (by kernel_rfl) (fun _ _ _ h => h) (Or.inl ⟨rfl, ?_⟩) (trivial) ?_
    rotate_left 1
    · intro w_ hSw; (try dsimp only at hSw); go_simp; (try with_reducible rfl)
    (try simp only [Act.put, List.setIfInBounds_toArray, List.set_cons_zero, List.set_cons_succ])
    refine wpAnyH_take (i := 2) (oi := ⟨_, _, _, _, _, _⟩) (v := ?_) rfl (by kernel_rfl) (by kernel_rfl) (by kernel_rfl) (fun _ _ _ h => h) (Or.inl ⟨rfl, ?_⟩) (trivial) ?_
    rotate_left 1
    · intro w_ hSw; (try dsimp only at hSw); go_simp; (try with_reducible rfl)
    (try simp only [Act.put, List.setIfInBounds_toArray, List.set_cons_zero, List.set_cons_succ])
    refine wpAnyH_take (i := 3) (oi := ⟨_, _, _, _, _, _⟩) (v := undef) rfl (by kernel_rfl) (by kernel_rfl) (by kernel_rfl) (fun _ _ _ h => h) (Or.inr ⟨rfl, rfl⟩) (trivial) ?_
    (try simp only [Act.put, List.setIfInBounds_toArray, List.set_cons_zero, List.set_cons_succ])
    refine wpAnyH_take (i := 4) (oi := ⟨_, _, _, _, _, _⟩) (v := undef) rfl (by kernel_rfl) (by kernel_rfl) (by kernel_rfl) (fun _ _ _ h => h) (Or.inr ⟨rfl, rfl⟩) (trivial) ?_
    (try simp only [Act.put, List.setIfInBounds_toArray, List.set_cons_zero, List.set_cons_succ])
    refine wpAnyH_take (i := 5) (oi := ⟨_, _, _, _, _, _⟩) (v := ?_) rfl (by kernel_rfl) (by kernel_rfl) (by kernel_rfl) (fun _ _ _ h => h) (Or.inl ⟨rfl, ?_⟩) (trivial) ?_
    rotate_left 1
    · intro w_ hSw; (try dsimp only at hSw); go_simp; (try with_reducible rfl)
    (try simp only [Act.put, List.setIfInBounds_toArray, List.set_cons_zero, List.set_cons_succ])
    refine wpAnyH_take (i := 6) (oi := ⟨_, _, _, _, _, _⟩) (v := ?_) rfl (by kernel_rfl) (by kernel_rfl) (by kernel_rfl) (fun _ _ _ h => h) (Or.inl ⟨rfl, ?_⟩) (trivial) ?_
    rotate_left 1
    · intro w_ hSw; (try dsimp only at hSw); go_simp; (try with_reducible rfl)
    (try simp only [Act.put, List.setIfInBounds_toArray, List.set_cons_zero, List.set_cons_succ])
    refine wpAnyH_take (i := 7) (oi := ⟨_, _, _, _, _, _⟩) (v := undef) rfl (by kernel_rfl) (by kernel_rfl) (by kernel_rfl) (fun _ _ _ h => h) (Or.inr ⟨rfl, rfl⟩) (trivial) ?_
    (try simp only [Act.put, List.setIfInBounds_toArray, List.set_cons_zero, List.set_cons_succ])
    refine wpAnyH_take (i := 8) (oi := ⟨_, _, _, _, _, _⟩) (v := undef) rfl (by kernel_rfl) (by kernel_rfl) (by kernel_rfl) (fun _ _ _ h => h) (Or.inr ⟨rfl, rfl⟩) (trivial) ?_
    (try simp only [Act.put, List.setIfInBounds_toArray, List.set_cons_zero, List.set_cons_succ])
    refine wpAnyH_take (i := 9) (oi := ⟨_, _, _, _, _, _⟩) (v := undef) rfl (by kernel_rfl) (by kernel_rfl) (by kernel_rfl) (fun _ _ _ h => h) (Or.inr ⟨rfl, rfl⟩) (trivial) ?_
    (try simp only [Act.put, List.setIfInBounds_toArray, List.set_cons_zero, List.set_cons_succ])
    refine wpAnyH_take (i := 10) (oi := ⟨_, _, _, _, _, _⟩) (v := undef) rfl (by kernel_rfl) (by kernel_rfl) (by kernel_rfl) (fun _ _ _ h => h) (Or.inr ⟨rfl, rfl⟩) (trivial) ?_
    (try simp only [Act.put, List.setIfInBounds_toArray, List.set_cons_zero, List.set_cons_succ])
    refine wpAnyH_take (i := 11) (oi := ⟨_, _, _, _, _, _⟩) (v := undef) rfl (by kernel_rfl) (by kernel_rfl) (by kernel_rfl) (fun _ _ _ h => h) (Or.inr ⟨rfl, rfl⟩) (trivial) ?_
    (try simp only [Act.put, List.setIfInBounds_toArray, List.set_cons_zero, List.set_cons_succ])
    refine wpAnyH_take (i := 12) (oi := ⟨_, _, _, _, _, _⟩) (v := undef) rfl (by kernel_rfl) (by kernel_rfl) (by kernel_rfl) (fun _ _ _ h => h) (Or.inr ⟨rfl, rfl⟩) (trivial) ?_
    (try simp only [Act.put, List.setIfInBounds_toArray, List.set_cons_zero, List.set_cons_succ])
    refine wpAnyH_take (i := 13) (oi := ⟨_, _, _, _, _, _⟩) (v := undef) rfl (by kernel_rfl) (by kernel_rfl) (by kernel_rfl) (fun _ _ _ h => h) (Or.inr ⟨rfl, rfl⟩) (trivial) ?_
    (try simp only [Act.put, List.setIfInBounds_toArray, List.set_cons_zero, List.set_cons_succ])
    refine wpAnyH_take (i := 14) (oi := ⟨_, _, _, _, _, _⟩) (v := undef) rfl (by kernel_rfl) (by kernel_rfl) (by kernel_rfl) (fun _ _ _ h => h) (Or.inr ⟨rfl, rfl⟩) (trivial) ?_
    (try simp only [Act.put, List.setIfInBounds_toArray, List.set_cons_zero, List.set_cons_succ])
    refine wpAnyH_take (i := 15) (oi := ⟨_, _, _, _, _, _⟩) (v := undef) rfl (by kernel_rfl) (by kernel_rfl) (by kernel_rfl) (fun _ _ _ h => h) (Or.inr ⟨rfl, rfl⟩) (trivial) ?_
    (try simp only [Act.put, List.setIfInBounds_toArray, List.set_cons_zero, List.set_cons_succ])
    refine wpAnyH_take (i := 16) (oi := ⟨_, _, _, _, _, _⟩) (v := undef) rfl (by kernel_rfl) (by kernel_rfl) (by kernel_rfl) (fun _ _ _ h => h) (Or.inr ⟨rfl, rfl⟩) (trivial) ?_
    (try simp only [Act.put, List.setIfInBounds_toArray, List.set_cons_zero, List.set_cons_succ])
    refine wpAnyH_take (i := 17) (oi := ⟨_, _, _, _, _, _⟩) (v := ?_) rfl (by kernel_rfl) (by kernel_rfl) (by kernel_rfl) (fun _ _ _ h => h) (Or.inl ⟨rfl, ?_⟩) (trivial) ?_
    rotate_left 1
    · intro w_ hSw; (try dsimp only at hSw); go_simp; (try with_reducible rfl)
    (try simp only [Act.put, List.setIfInBounds_toArray, List.set_cons_zero, List.set_cons_succ])
    refine wpAnyH_done (by kernel_rfl) ?_ _
    refine NoPanic.normal ?_
    clear hHeld
    go_wp2_with fail
    go_ret2
    refine ⟨HB4.out, ?_⟩
    rw [if_neg (by simp [HFc.out])]
    rfl
  | true =>
    simp only [h1, if_true] at hQ1
    obtain ⟨A1, Q1, va1, vb1, rfl, hA1, hAQ1, hq1⟩ := hQ1
    cases h2 : cngB z fs ys with
    | false =>
      have HFc : Hid (fcB z fs xs ys = false) := by unfold Hid fcB; rw [h2, Bool.false_and, Bool.and_false]
      simp only [h2, Bool.false_eq_true, if_false] at hQ2
      subst hQ2
      have HB4 : Hid (Below w.heap.size w w3.drew) := HB3.out.drew
      clear h1 h2 hq1
      go_wp2_with fail
      refine wp_region_noPanic ?_
      refine wp_region_held_drew (S := fun _ => True) (by kernel_rfl) ?_ (fun hHeld => ?_)
      · trivial
      refine wpAnyH_take (i := 0) (oi := ⟨_, _, _, _, _, _⟩) (v := ?_) rfl (by kernel_rfl) (by kernel_rfl) (by kernel_rfl) (fun _ _ _ h => h) (Or.inl ⟨rfl, ?_⟩) (trivial) ?_
      rotate_left 1
      · intro w_ hSw; (try dsimp only at hSw); go_simp; (try with_reducible rfl)
      (try simp only [Act.put, List.setIfInBounds_toArray, List.set_cons_zero, List.set_cons_succ])
      refine wpAnyH_take (i := 1) (oi := ⟨_, _, _, _, _, _⟩) (v := ?_) rfl (by kernel_rfl) (by kernel_rfl) (by kernel_rfl) (fun _ _ _ h => h) (Or.inl ⟨rfl, ?_⟩) (trivial) ?_
      rotate_left 1
      · intro w_ hSw; (try dsimp only at hSw); go_simp; (try with_reducible rfl)
      (try simp only [Act.put, List.setIfInBounds_toArray, List.set_cons_zero, List.set_cons_succ])
      refine wpAnyH_take (i := 2) (oi := ⟨_, _, _, _, _, _⟩) (v := ?_) rfl (by kernel_rfl) (by kernel_rfl) (by kernel_rfl) (fun _ _ _ h => h) (Or.inl ⟨rfl, ?_⟩) (trivial) ?_
      rotate_left 1
      · intro w_ hSw; (try dsimp only at hSw); go_simp; (try with_reducible rfl)
      (try simp only [Act.put, List.setIfInBounds_toArray, List.set_cons_zero, List.set_cons_succ])
      refine wpAnyH_take (i := 3) (oi := ⟨_, _, _, _, _, _⟩) (v := ?_) rfl (by kernel_rfl) (by kernel_rfl) (by kernel_rfl) (fun _ _ _ h => h) (Or.inl ⟨rfl, ?_⟩) (trivial) ?_
      rotate_left 1
      · intro w_ hSw; (try dsimp only at hSw); go_simp; (try with_reducible rfl)
      (try simp only [Act.put, List.setIfInBounds_toArray, List.set_cons_zero, List.set_cons_succ])
      refine wpAnyH_take (i := 4) (oi := ⟨_, _, _, _, _, _⟩) (v := ?_) rfl (by kernel_rfl) (by kernel_rfl) (by kernel_rfl) (fun _ _ _ h => h) (Or.inl ⟨rfl, ?_⟩) (trivial) ?_
      rotate_left 1
      · intro w_ hSw; (try dsimp only at hSw); go_simp; (try with_reducible rfl)
      (try simp only [Act.put, List.setIfInBounds_toArray, List.set_cons_zero, List.set_cons_succ])
      refine wpAnyH_take (i := 5) (oi := ⟨_, _, _, _, _, _⟩) (v := ?_) rfl (by kernel_rfl) (by kernel_rfl) (by kernel_rfl) (fun _ _ _ h => h) (Or.inl ⟨rfl, ?_⟩) (trivial) ?_
      rotate_left 1
      · intro w_ hSw; (try dsimp only at hSw); go_simp; (try with_reducible rfl)
      (try simp only [Act.put, List.setIfInBounds_toArray, List.set_cons_zero, List.set_cons_succ])
      refine wpAnyH_take (i := 6) (oi := ⟨_, _, _, _, _, _⟩) (v := ?_) rfl (by kernel_rfl) (by kernel_rfl) (by kernel_rfl) (fun _ _ _ h => h) (Or.inl ⟨rfl, ?_⟩) (trivial) ?_
      rotate_left 1
      · intro w_ hSw; (try dsimp only at hSw); go_simp; (try with_reducible rfl)
      (try simp only [Act.put, List.setIfInBounds_toArray, List.set_cons_zero, List.set_cons_succ])
      refine wpAnyH_take (i := 7) (oi := ⟨_, _, _, _, _, _⟩) (v := undef) rfl (by kernel_rfl) (by kernel_rfl) (by kernel_rfl) (fun _ _ _ h => h) (Or.inr ⟨rfl, rfl⟩) (trivial) ?_
      (try simp only [Act.put, List.setIfInBounds_toArray, List.set_cons_zero, List.set_cons_succ])
      refine wpAnyH_take (i := 8) (oi := ⟨_, _, _, _, _, _⟩) (v := undef) rfl (by kernel_rfl) (by kernel_rfl) (by kernel_rfl) (fun _ _ _ h => h) (Or.inr ⟨rfl, rfl⟩) (trivial) ?_
      (try simp only [Act.put, List.setIfInBounds_toArray, List.set_cons_zero, List.set_cons_succ])
      refine wpAnyH_take (i := 9) (oi := ⟨_, _, _, _, _, _⟩) (v := undef) rfl (by kernel_rfl) (by kernel_rfl) (by kernel_rfl) (fun _ _ _ h => h) (Or.inr ⟨rfl, rfl⟩) (trivial) ?_
      (try simp only [Act.put, List.setIfInBounds_toArray, List.set_cons_zero, List.set_cons_succ])
      refine wpAnyH_take (i := 10) (oi := ⟨_, _, _, _, _, _⟩) (v := undef) rfl (by kernel_rfl) (by kernel_rfl) (by kernel_rfl) (fun _ _ _ h => h) (Or.inr ⟨rfl, rfl⟩) (trivial) ?_
      (try simp only [Act.put, List.setIfInBounds_toArray, List.set_cons_zero, List.set_cons_succ])
      refine wpAnyH_take (i := 11) (oi := ⟨_, _, _, _, _, _⟩) (v := undef) rfl (by kernel_rfl) (by kernel_rfl) (by kernel_rfl) (fun _ _ _ h => h) (Or.inr ⟨rfl, rfl⟩) (trivial) ?_
      (try simp only [Act.put, List.setIfInBounds_toArray, List.set_cons_zero, List.set_cons_succ])
      refine wpAnyH_take (i := 12) (oi := ⟨_, _, _, _, _, _⟩) (v := undef) rfl (by kernel_rfl) (by kernel_rfl) (by kernel_rfl) (fun _ _ _ h => h) (Or.inr ⟨rfl, rfl⟩) (trivial) ?_
      (try simp only [Act.put, List.setIfInBounds_toArray, List.set_cons_zero, List.set_cons_succ])
      refine wpAnyH_take (i := 13) (oi := ⟨_, _, _, _, _, _⟩) (v := undef) rfl (by kernel_rfl) (by kernel_rfl) (by kernel_rfl) (fun _ _ _ h => h) (Or.inr ⟨rfl, rfl⟩) (trivial) ?_
      (try simp only [Act.put, List.setIfInBounds_toArray, List.set_cons_zero, List.set_cons_succ])
      refine wpAnyH_take (i := 14) (oi := ⟨_, _, _, _, _, _⟩) (v := undef) rfl (by kernel_rfl) (by kernel_rfl) (by kernel_rfl) (fun _ _ _ h => h) (Or.inr ⟨rfl, rfl⟩) (trivial) ?_
      (try simp only [Act.put, List.setIfInBounds_toArray, List.set_cons_zero, List.set_cons_succ])
      refine wpAnyH_take (i := 15) (oi := ⟨_, _, _, _, _, _⟩) (v := undef) rfl (by kernel_rfl) (by kernel_rfl) (by kernel_rfl) (fun _ _ _ h => h) (Or.inr ⟨rfl, rfl⟩) (trivial) ?_
      (try simp only [Act.put, List.setIfInBounds_toArray, List.set_cons_zero, List.set_cons_succ])
      refine wpAnyH_take (i := 16) (oi := ⟨_, _, _, _, _, _⟩) (v := undef) rfl (by kernel_rfl) (by kernel_rfl) (by kernel_rfl) (fun _ _ _ h => h) (Or.inr ⟨rfl, rfl⟩) (trivial) ?_
      (try simp only [Act.put, List.setIfInBounds_toArray, List.set_cons_zero, List.set_cons_succ])
      refine wpAnyH_take (i := 17) (oi := ⟨_, _, _, _, _, _⟩) (v := ?_) rfl (by kernel_rfl) (by kernel_rfl) (by kernel_rfl) (fun _ _ _ h => h) (Or.inl ⟨rfl, ?_⟩) (trivial) ?_
      rotate_left 1
      · intro w_ hSw; (try dsimp only at hSw); go_simp; (try with_reducible rfl)
      (try simp only [Act.put, List.setIfInBounds_toArray, List.set_cons_zero, List.set_cons_succ])
      refine wpAnyH_done (by kernel_rfl) ?_ _
      refine NoPanic.normal ?_
      clear hHeld
      go_wp2_with fail
      go_ret2
      refine ⟨HB4.out, ?_⟩
      rw [if_neg (by simp [HFc.out])]
      rfl
    | true =>
      simp only [h2, if_true] at hQ2
      obtain ⟨A2, Q2, va2, vb2, rfl, hA2, hAQ2, hq2⟩ := hQ2
      have hq1' := hq1.below HB23.out
      obtain ⟨hok, hpx, _⟩ := cngB_of h1
      obtain ⟨_, hpy, _⟩ := cngB_of h2
      obtain ⟨⟨z1, z8⟩, _, _⟩ := algOkB_of hok
      obtain ⟨f, hf⟩ : ∃ f, extP xs = f := ⟨_, rfl⟩
      obtain ⟨g, hg⟩ : ∃ g, extP ys = g := ⟨_, rfl⟩
      have hFi := fun (W : World) => isFiner_any f g W (fun k hk => by rw [← hf]; have := ext_bd hpx k; omega)
      have hfe : finB f g 8 = fcB z fs xs ys := by
        rw [← hf, ← hg, finB_ext hpx hpy z8]
        unfold fcB
        rw [h1, h2]; rfl
      rw [hfe] at hFi
      obtain ⟨r, hr⟩ : ∃ r, fcB z fs xs ys = r := ⟨_, rfl⟩
      rw [hr] at hFi
      have HFi := Lib.hid hFi
      have HFc := Lib.hid hr
      rw [hf] at hq1'
      rw [hg] at hq2
      have hbx1 := hq1'.box
      have hbx2 := hq2.box
      have hq1l := hq1'.lt
      have hq2l := hq2.lt
      have hr1 := qt_range hbx1
      have hr2 := qt_range hbx2
      have HQ1 := Lib.hid hq1'
      have HQ2 := Lib.hid hq2
      have HFe := Lib.hid hf
      have HGe := Lib.hid hg
      have hs2 := HB2.out.size
      clear h1 h2 hq1 hq1' hq2 hok hpx hpy hf hg hFi hfe hr z1 z8
      have hA1' : w.heap.size ≤ A1 := by simp at hA1; omega
      go_wp2_with fail
      refine wp_region_noPanic ?_
      refine wp_region_held_drew (S := fun W_ => W_.rangeAt Q1 2 (arrV f).toList ∧ W_.rangeAt Q2 2 (arrV g).toList) (by kernel_rfl) ?_ (fun hHeld => ?_)
      · exact ⟨hr1, hr2⟩
      refine wpAnyH_take (i := 0) (oi := ⟨_, _, _, _, _, _⟩) (v := ?_) rfl (by kernel_rfl) (by kernel_rfl) (by kernel_rfl) (fun _ _ _ h => h) (Or.inl ⟨rfl, ?_⟩) (by assumption) ?_
      rotate_left 1
      · intro w_ hSw; (try dsimp only at hSw); go_simp; (try with_reducible rfl)
      (try simp only [Act.put, List.setIfInBounds_toArray, List.set_cons_zero, List.set_cons_succ])
      refine wpAnyH_take (i := 1) (oi := ⟨_, _, _, _, _, _⟩) (v := ?_) rfl (by kernel_rfl) (by kernel_rfl) (by kernel_rfl) (fun _ _ _ h => h) (Or.inl ⟨rfl, ?_⟩) (by assumption) ?_
      rotate_left 1
      · intro w_ hSw; (try dsimp only at hSw); go_simp; (try with_reducible rfl)
      (try simp only [Act.put, List.setIfInBounds_toArray, List.set_cons_zero, List.set_cons_succ])
      refine wpAnyH_take (i := 2) (oi := ⟨_, _, _, _, _, _⟩) (v := ?_) rfl (by kernel_rfl) (by kernel_rfl) (by kernel_rfl) (fun _ _ _ h => h) (Or.inl ⟨rfl, ?_⟩) (by assumption) ?_
      rotate_left 1
      · intro w_ hSw; (try dsimp only at hSw); go_simp; (try with_reducible rfl)
      (try simp only [Act.put, List.setIfInBounds_toArray, List.set_cons_zero, List.set_cons_succ])
      refine wpAnyH_take (i := 3) (oi := ⟨_, _, _, _, _, _⟩) (v := ?_) rfl (by kernel_rfl) (by kernel_rfl) (by kernel_rfl) (fun _ _ _ h => h) (Or.inl ⟨rfl, ?_⟩) (by assumption) ?_
      rotate_left 1
      · intro w_ hSw; (try dsimp only at hSw); go_simp; (try with_reducible rfl)
      (try simp only [Act.put, List.setIfInBounds_toArray, List.set_cons_zero, List.set_cons_succ])
      refine wpAnyH_take (i := 4) (oi := ⟨_, _, _, _, _, _⟩) (v := ?_) rfl (by kernel_rfl) (by kernel_rfl) (by kernel_rfl) (fun _ _ _ h => h) (Or.inl ⟨rfl, ?_⟩) (by assumption) ?_
      rotate_left 1
      · intro w_ hSw; (try dsimp only at hSw); go_simp; (try with_reducible rfl)
      (try simp only [Act.put, List.setIfInBounds_toArray, List.set_cons_zero, List.set_cons_succ])
      refine wpAnyH_take (i := 5) (oi := ⟨_, _, _, _, _, _⟩) (v := ?_) rfl (by kernel_rfl) (by kernel_rfl) (by kernel_rfl) (fun _ _ _ h => h) (Or.inl ⟨rfl, ?_⟩) (by assumption) ?_
      rotate_left 1
      · intro w_ hSw; (try dsimp only at hSw); go_simp; (try with_reducible rfl)
      (try simp only [Act.put, List.setIfInBounds_toArray, List.set_cons_zero, List.set_cons_succ])
      refine wpAnyH_take (i := 6) (oi := ⟨_, _, _, _, _, _⟩) (v := ?_) rfl (by kernel_rfl) (by kernel_rfl) (by kernel_rfl) (fun _ _ _ h => h) (Or.inl ⟨rfl, ?_⟩) (by assumption) ?_
      rotate_left 1
      · intro w_ hSw; (try dsimp only at hSw); go_simp; (try with_reducible rfl)
      (try simp only [Act.put, List.setIfInBounds_toArray, List.set_cons_zero, List.set_cons_succ])
      refine wpAnyH_take (i := 7) (oi := ⟨_, _, _, _, _, _⟩) (v := ?_) rfl (by kernel_rfl) (by kernel_rfl) (by kernel_rfl) (fun _ _ _ h => h) (Or.inl ⟨rfl, ?_⟩) (by assumption) ?_
      rotate_left 1
      · intro w_ hSw; (try dsimp only at hSw); go_simp; (try with_reducible rfl)
      (try simp only [Act.put, List.setIfInBounds_toArray, List.set_cons_zero, List.set_cons_succ])
      refine wpAnyH_take (i := 8) (oi := ⟨_, _, _, _, _, _⟩) (v := ?_) rfl (by kernel_rfl) (by kernel_rfl) (by kernel_rfl) (fun _ _ _ h => h) (Or.inl ⟨rfl, ?_⟩) (by assumption) ?_
      rotate_left 1
      · intro w_ hSw; (try dsimp only at hSw); go_simp; (try with_reducible rfl)
      (try simp only [Act.put, List.setIfInBounds_toArray, List.set_cons_zero, List.set_cons_succ])
      refine wpAnyH_take (i := 9) (oi := ⟨_, _, _, _, _, _⟩) (v := ?_) rfl (by kernel_rfl) (by kernel_rfl) (by kernel_rfl) (fun _ _ _ h => h) (Or.inl ⟨rfl, ?_⟩) (by assumption) ?_
      rotate_left 1
      · intro w_ hSw; (try dsimp only at hSw); go_simp; (try with_reducible rfl)
      (try simp only [Act.put, List.setIfInBounds_toArray, List.set_cons_zero, List.set_cons_succ])
      refine wpAnyH_take (i := 10) (oi := ⟨_, _, _, _, _, _⟩) (v := .agg (arrV f)) rfl (by kernel_rfl) (by kernel_rfl) (by kernel_rfl) (fun _ _ _ h => h) (yieldsIf_load_mid rfl 70 _ rfl _ 2 rfl (arrV f).toList _ (fun _ h => h.1) Try.underlying70 rfl info8) (by assumption) ?_
      (try simp only [Act.put, List.setIfInBounds_toArray, List.set_cons_zero, List.set_cons_succ])
      refine wpAnyH_take (i := 11) (oi := ⟨_, _, _, _, _, _⟩) (v := ?_) rfl (by kernel_rfl) (by kernel_rfl) (by kernel_rfl) (fun _ _ _ h => h) (Or.inl ⟨rfl, ?_⟩) (by assumption) ?_
      rotate_left 1
      · intro w_ hSw; (try dsimp only at hSw); go_simp; (try with_reducible rfl)
      (try simp only [Act.put, List.setIfInBounds_toArray, List.set_cons_zero, List.set_cons_succ])
      refine wpAnyH_take (i := 12) (oi := ⟨_, _, _, _, _, _⟩) (v := ?_) rfl (by kernel_rfl) (by kernel_rfl) (by kernel_rfl) (fun _ _ _ h => h) (Or.inl ⟨rfl, ?_⟩) (by assumption) ?_
      rotate_left 1
      · intro w_ hSw; (try dsimp only at hSw); go_simp; (try with_reducible rfl)
      (try simp only [Act.put, List.setIfInBounds_toArray, List.set_cons_zero, List.set_cons_succ])
      refine wpAnyH_take (i := 13) (oi := ⟨_, _, _, _, _, _⟩) (v := ?_) rfl (by kernel_rfl) (by kernel_rfl) (by kernel_rfl) (fun _ _ _ h => h) (Or.inl ⟨rfl, ?_⟩) (by assumption) ?_
      rotate_left 1
      · intro w_ hSw; (try dsimp only at hSw); go_simp; (try with_reducible rfl)
      (try simp only [Act.put, List.setIfInBounds_toArray, List.set_cons_zero, List.set_cons_succ])
      refine wpAnyH_take (i := 14) (oi := ⟨_, _, _, _, _, _⟩) (v := .agg (arrV g)) rfl (by kernel_rfl) (by kernel_rfl) (by kernel_rfl) (fun _ _ _ h => h) (yieldsIf_load_mid rfl 70 _ rfl _ 2 rfl (arrV g).toList _ (fun _ h => h.2) Try.underlying70 rfl info8) (by assumption) ?_
      (try simp only [Act.put, List.setIfInBounds_toArray, List.set_cons_zero, List.set_cons_succ])
      refine wpAnyH_ready (rs := [15]) (by kernel_rfl) (by simp) ?_
      refine AllReadyH.cons (o := ⟨_, _, _, _, _, _⟩) rfl (fun K hK => ?_) AllReadyH.nil
      go_simp
      go_at_call 121
      refine (HFi.out _).mono ?_
      rintro e_ w4 ⟨rfl, b4⟩
      have HB4 := Lib.hid (below_then (below_drew w3) b4)
      clear b4
      refine hK.out _ _ ?_ (fun hHeld => ?_)
      · exact ⟨qt_range ((HB4.out.block _ hq1l).trans hbx1), qt_range ((HB4.out.block _ hq2l).trans hbx2)⟩
      clear hK K
      (try simp only [Act.put, List.setIfInBounds_toArray, List.set_cons_zero, List.set_cons_succ])
      refine wpAnyH_take (i := 16) (oi := ⟨_, _, _, _, _, _⟩) (v := ?_) rfl (by kernel_rfl) (by kernel_rfl) (by kernel_rfl) (fun _ _ _ h => h) (Or.inl ⟨rfl, ?_⟩) (by assumption) ?_
      rotate_left 1
      · intro w_ hSw; (try dsimp only at hSw); go_simp; (try with_reducible rfl)
      (try simp only [Act.put, List.setIfInBounds_toArray, List.set_cons_zero, List.set_cons_succ])
      refine wpAnyH_take (i := 17) (oi := ⟨_, _, _, _, _, _⟩) (v := ?_) rfl (by kernel_rfl) (by kernel_rfl) (by kernel_rfl) (fun _ _ _ h => h) (Or.inl ⟨rfl, ?_⟩) (by assumption) ?_
      rotate_left 1
      · intro w_ hSw; (try dsimp only at hSw); go_simp; (try with_reducible rfl)
      (try simp only [Act.put, List.setIfInBounds_toArray, List.set_cons_zero, List.set_cons_succ])
      refine wpAnyH_done (by kernel_rfl) ?_ _
      refine NoPanic.normal ?_
      have HBw := Lib.hid (HB3.out.trans (HB4.out.mono HB3.out.size))
      clear hHeld
      cases r with
      | false =>
        go_wp2_with fail
        go_ret2
        refine ⟨HBw.out, ?_⟩
        rw [if_neg (by simp [HFc.out])]
        rfl
      | true =>
        go_wp2_with fail
        go_ret2
        refine ⟨HBw.out, ?_⟩
        rw [if_pos HFc.out, HFe.out, HGe.out]
        exact ⟨A1, Q1, A2, Q2, va1, vb1, va2, vb2, rfl, ⟨hA1', hAQ1⟩, ⟨by omega, hAQ2⟩, HQ1.out.below HB4.out, HQ2.out.below HB4.out⟩
end

section
open Go.RowKit
set_option linter.unusedVariables false
set_option linter.unusedSimpArgs false

set_option maxHeartbeats 2000000 in
theorem l9Two_any (lo hi : Nat) (z : Int) (ao : Option Addr) (c n : Nat) (fs : List OpD) (lo2 hi2 : Nat) (bo : Option Addr) (d m : Nat) (xs : List Int) (lo3 hi3 : Nat) (po : Option Addr) (e_ l : Nat) (ys : List Int) (w : World) (hv : OView w lo hi ao n fs) (hhi : hi ≤ w.heap.size) (hs : ∀ (j : Nat) (f : OpD), fs[j]? = some f → f.2.length ≤ maxLen)
    (hx : IView w lo2 hi2 bo m xs) (hhi2 : hi2 ≤ w.heap.size) (hm : m ≤ maxLen) (hy : IView w lo3 hi3 po l ys) (hhi3 : hi3 ≤ w.heap.size) (hl : l ≤ maxLen) :
    Calls Try.prog 76 #[.agg #[.int .i64 z, .slice ao n c], .slice bo m d, .slice po l e_] w fun e w' => e = .returned (.bool (fcB z fs xs ys)) ∧ Below w.heap.size w w' := by
  have hB := below_alloc w (.cells #[.int .i64 z, .slice ao n c] 31)
  have HB0 := Lib.hid hB
  have hX0 : (w.alloc (.cells #[.int .i64 z, .slice ao n c] 31)).heap[w.heap.size]? = some (.cells #[.int .i64 z, .slice ao n c] 31 (0, 0)) := heap_alloc_new _ _
  have HX0 := Lib.hid hX0
  obtain ⟨cz0, ca0, _⟩ := box_cells hX0
  have HC := Lib.hid (takes9_any lo hi z ao c n fs lo2 hi2 bo d m xs _ (hv.kept (Kept.of_below hB hhi)) (Nat.le_trans hhi hB.size) hs (hx.kept (Kept.of_below hB hhi2)) (Nat.le_trans hhi2 hB.size) hm)
  have C1 : True := trivial
  cases h1 : cngB z fs xs with
  | false =>
    rw [show fcB z fs xs ys = false by simp [fcB, h1]]
    simp only [h1] at HC
    clear hv hx hy hs hm hl hB hX0 h1
    go_enter Try.func76, Try.ntmps76
    go_wp2_with fail
    refine HC.out.mono ?_
    rintro e w1 ⟨rfl, b1⟩
    have HB1 := Lib.hid (HB0.out.trans (b1.mono HB0.out.size))
    clear b1
    go_wp2_with fail
    go_ret
    exact ⟨rfl, HB1.out⟩
  | true =>
    simp only [h1] at HC
    obtain ⟨hok, hpx, _⟩ := cngB_of h1
    have HI := Lib.hid (fun (W : World) (hW : Below w.heap.size w W) => l6Is_any lo hi z ao c n fs lo3 hi3 po e_ l ys W (hv.kept (Kept.of_below hW hhi)) (Nat.le_trans hhi hW.size) hok (hy.kept (Kept.of_below hW hhi3)) (Nat.le_trans hhi3 hW.size) hl)
    cases h2 : cngB z fs ys with
    | false =>
      rw [show fcB z fs xs ys = false by simp [fcB, h2]]
      simp only [h2] at HI
      clear hv hx hy hs hm hl hB hX0 h1 h2 hok hpx
      go_enter Try.func76, Try.ntmps76
      go_wp2_with fail
      refine HC.out.mono ?_
      rintro e w1 ⟨rfl, b1⟩
      have HB1 := Lib.hid (HB0.out.trans (b1.mono HB0.out.size))
      obtain ⟨cz, ca, _⟩ := box_cells ((b1.block w.heap.size (by simp)).trans HX0.out)
      clear b1 cz0 ca0
      go_wp2_with fail
      refine (HI.out _ HB1.out).mono ?_
      rintro e w2 ⟨rfl, b2⟩
      have HB2 := Lib.hid (HB1.out.trans (b2.mono HB1.out.size))
      clear b2
      go_wp2_with fail
      go_ret
      exact ⟨rfl, HB2.out⟩
    | true =>
      simp only [h2] at HI
      obtain ⟨_, hpy, _⟩ := cngB_of h2
      obtain ⟨⟨z1, z8⟩, _, _⟩ := algOkB_of hok
      obtain ⟨hlx, hox⟩ := partB_of hpx
      obtain ⟨hly, _⟩ := partB_of hpy
      have hxm := hx.1
      have hyl := hy.1
      have HF := Lib.hid (fun (W : World) (hW : Below w.heap.size w W) => below6_any lo2 hi2 lo3 hi3 bo po d m e_ l xs ys W (hx.kept (Kept.of_below hW hhi2)) (hy.kept (Kept.of_below hW hhi3)) (by omega) (by omega) (by rwa [hxm] at hox))
      have hfe : finB (gI xs) (gI ys) m = fcB z fs xs ys := by unfold fcB; rw [h1, h2, hxm]; rfl
      rw [hfe] at HF
      obtain ⟨r, hr⟩ : ∃ r, fcB z fs xs ys = r := ⟨_, rfl⟩
      rw [hr] at HF ⊢
      clear hv hx hy hs hm hl hB hX0 h1 h2 hok hpx hpy z1 z8 hlx hox hly hxm hyl hfe hr
      go_enter Try.func76, Try.ntmps76
      go_wp2_with fail
      refine HC.out.mono ?_
      rintro e w1 ⟨rfl, b1⟩
      have HB1 := Lib.hid (HB0.out.trans (b1.mono HB0.out.size))
      obtain ⟨cz, ca, _⟩ := box_cells ((b1.block w.heap.size (by simp)).trans HX0.out)
      clear b1 cz0 ca0
      go_wp2_with fail
      refine (HI.out _ HB1.out).mono ?_
      rintro e w2 ⟨rfl, b2⟩
      have HB2 := Lib.hid (HB1.out.trans (b2.mono HB1.out.size))
      clear b2
      go_wp2_with fail
      refine (HF.out _ HB2.out).mono ?_
      rintro e w3 ⟨rfl, q3⟩
      have HB3 := Lib.hid (below_drawn HB2.out q3)
      clear q3
      go_wp2_with fail
      go_ret
      exact ⟨rfl, HB3.out⟩

set_option maxHeartbeats 2000000 in
theorem l9Least_any (lo hi : Nat) (ao : Option Addr) (c m : Nat) (xs : List Int) (w : World) (hx : IView w lo hi ao m xs) (hhi : hi ≤ w.heap.size) (h1 : 1 ≤ m) (h8 : m ≤ 8) :
    Calls Try.prog 77 #[.slice ao m c] w fun e w' => NewInts w w' (leP (gI xs) m).length (leP (gI xs) m) e := by
  obtain ⟨b, o, rfl, _, hbh, hc⟩ := hx.at_ (show 0 < m by omega)
  have hl := hx.1
  obtain ⟨f, hf⟩ : ∃ f, gI xs = f := ⟨_, rfl⟩
  have HC0 : Hid (∀ j, j < m → w.cell? ⟨b, o + j, none⟩ = some (.int .i64 (f j))) := fun j hj => by rw [← hf]; exact hc j _ (get_gI hl hj)
  rw [hf]
  have hb : b < w.heap.size := by omega
  obtain ⟨i0, hi0, hz0, hz1, hz2⟩ := info_parts Try.infoInt
  have HO0 := Lib.hid (World.ownsRow_lit (base := w.heap.size) (e := 3) (size := 1) w #[] 0 (Nat.le_refl _) (by decide) rfl)
  have HB0 := Lib.hid (below_alloc w (.cells #[] 3))
  clear hx hc hl hf
  unfold NewInts
  go_enter Try.func77, Try.ntmps77
  go_wp2_with fail
  go_loopw [3, 4] (fun v i wr => ∃ k t g d : Nat, k ≤ m ∧ i = .int .i64 (k : Int) ∧ v = .slice (some ⟨g, 0, none⟩) t d ∧ t ≤ k ∧ Hid (t = (leP f k).length) ∧ Hid (wr.ownsRow w.heap.size 3 1 (.slice (some ⟨g, 0, none⟩) t d) t ((leP f k).map (Value.int .i64))) ∧ Hid (Below w.heap.size w wr)) (fun _ i _ => m - (intOf i).toNat)
  case atStart => exact ⟨0, 0, _, _, Nat.zero_le _, rfl, rfl, Nat.le_refl _, rfl, HO0, HB0⟩
  case round =>
    obtain ⟨k, t, g, d, hk, rfl, rfl, htk, HT, HR, HBr⟩ := hrel
    by_cases hlt : k < m
    · have hkm : (k : Int) < (m : Int) := by omega
      have e1 : wr.cell? ⟨b, o + k, none⟩ = some (.int .i64 (f k)) := (HBr.out.cell (p := ⟨b, o + k, none⟩) hb).trans (HC0.out k hlt)
      by_cases hfk : f k = (k : Int)
      · have HNew : Hid (leP f (k + 1) = leP f k ++ [(k : Int)]) := leP_yes hfk
        have HT1 : Hid (t + 1 = (leP f (k + 1)).length) := by unfold Hid; rw [HNew.out, List.length_append, ← HT.out]; rfl
        rw [hfk] at e1
        clear hfk
        go_wp2_with (at_builtin; refine wpList_append_own _ rfl _ _ 25 rfl w.heap.size 3 i0 (.int .i64 0) 1 8 Try.underlying25 hi0 hz0 hz1 hz2 rfl (by decide) (.slice (some ⟨g, 0, none⟩) t d) t ((leP f k).map (Value.int .i64)) rfl (HR.out.alloc _) ⟨_, 0, none⟩ 1 1 [.int .i64 (k : Int)] rfl rfl (cell_one_new _ _ _) (fun x hx => by simp at hx; subst hx; rfl) (by unfold maxLen; omega) (by omega) (by have := HBr.out.size; simp; omega) ?_; intro v' w3 hown' hgrow' hnil')
        obtain ⟨g3, cap, rfl⟩ := ownsRow_succ hown'
        have HB3 := Lib.hid ((HBr.out.alloc HBr.out.size (.cells #[.int .i64 (k : Int)] 3)).grown hgrow' (by have := HBr.out.size; simp; omega) (fun q hq => (HR.out.lt q hq).1))
        have HO3 : Hid (w3.ownsRow w.heap.size 3 1 (.slice (some ⟨g3, 0, none⟩) (t + 1) cap) (t + 1) ((leP f (k + 1)).map (Value.int .i64))) := by
          unfold Hid
          rw [HNew.out, List.map_append]
          exact hown'
        clear hown' hgrow' hnil'
        go_wp2_with fail
        go_roundw
        case rel => exact ⟨k + 1, t + 1, g3, cap, by omega, by go_num, rfl, by omega, HT1, HO3, HB3⟩
        case measure => simp [intOf]; omega
      · have HT1 : Hid (t = (leP f (k + 1)).length) := by unfold Hid; rw [leP_no hfk]; exact HT.out
        have HR1 : Hid (wr.ownsRow w.heap.size 3 1 (.slice (some ⟨g, 0, none⟩) t d) t ((leP f (k + 1)).map (Value.int .i64))) := by unfold Hid; rw [leP_no hfk]; exact HR.out
        have hne : (f k == (k : Int)) = false := by rw [beq_eq_false_iff_ne]; exact hfk
        clear hfk
        go_wp2_with fail
        go_roundw
        case rel => exact ⟨k + 1, t, g, d, by omega, by go_num, rfl, by omega, HT1, HR1, HBr⟩
        case measure => simp [intOf]; omega
    · have hkm : ¬ (k : Int) < (m : Int) := by omega
      obtain rfl : k = m := by omega
      go_wp2_with fail
      go_ret
      exact ⟨g, d, by rw [← HT.out]; rfl, by rw [← HT.out]; exact HR.out, HBr.out⟩
end

section
open Go.RowKit
set_option linter.unusedVariables false
set_option linter.unusedSimpArgs false

/-- The element that stands at a place. -/
def nmP (xs : List Int) (x : Int) : Int := xs.getD x.toNat 0
theorem nmP_get {xs : List Int} {x : Int} (h0 : 0 ≤ x) (h1 : x < (xs.length : Int)) : xs[x.toNat]? = some (nmP xs x) := by
  unfold nmP
  rw [List.getD_eq_getElem?_getD, List.getElem?_eq_getElem (by omega)]; rfl
theorem nmP_in {z : Int} {xs ds : List Int} (ha : allIn z xs = true) (hd : allIn (xs.length : Int) ds = true) : allIn z (ds.map (nmP xs)) = true := by
  unfold allIn
  rw [List.all_eq_true]
  intro y hy
  obtain ⟨x, hx, rfl⟩ := List.mem_map.1 hy
  obtain ⟨j, hj⟩ := List.getElem?_of_mem hx
  obtain ⟨x0, x1⟩ := allIn_get hd hj
  have h2 := nmP_get x0 x1
  obtain ⟨y0, y1⟩ := allIn_get ha h2
  simp [y0, y1]

/-- What the operation f on the subuniverse gives at the place q of its table. -/
def sbE (z : Int) (xs : List Int) (f : OpD) (q : Nat) : Int := plI xs (atA z f ((digs (xs.length : Int) f.1.toNat (q : Int)).map (nmP xs)))
def sbL (xs : List Int) (f : OpD) : Nat := (powI (xs.length : Int) f.1.toNat).toNat
def sbT (z : Int) (xs : List Int) (f : OpD) (n : Nat) : List Int := (List.range n).map (sbE z xs f)
def sbO (z : Int) (xs : List Int) (f : OpD) : OpD := (f.1, sbT z xs f (sbL xs f))
theorem sbT_len (z : Int) (xs : List Int) (f : OpD) (n : Nat) : (sbT z xs f n).length = n := by simp [sbT]
theorem sbT_succ (z : Int) (xs : List Int) (f : OpD) (n : Nat) : sbT z xs f (n + 1) = sbT z xs f n ++ [sbE z xs f n] := by simp [sbT, List.range_succ]
/-- The table when q of its n places are filled. -/
def sbK (z : Int) (xs : List Int) (f : OpD) (n q : Nat) : List Int := sbT z xs f q ++ List.replicate (n - q) 0
theorem sbK_zero (z : Int) (xs : List Int) (f : OpD) (n : Nat) : sbK z xs f n 0 = List.replicate n 0 := by simp [sbK, sbT]
theorem sbK_all (z : Int) (xs : List Int) (f : OpD) (n : Nat) : sbK z xs f n n = sbT z xs f n := by simp [sbK]
theorem sbK_len (z : Int) (xs : List Int) (f : OpD) {n q : Nat} (h : q ≤ n) : (sbK z xs f n q).length = n := by simp [sbK, sbT]; omega
theorem sbK_set (z : Int) (xs : List Int) (f : OpD) {n q : Nat} (h : q < n) : (sbK z xs f n q).set q (sbE z xs f q) = sbK z xs f n (q + 1) := by
  unfold sbK
  rw [List.set_append_right _ _ (by rw [sbT_len]; exact Nat.le_refl _), sbT_len, Nat.sub_self, sbT_succ, show n - q = (n - (q + 1)) + 1 by omega, List.replicate_succ]
  simp

def sbaB (z : Int) (fs : List OpD) (xs : List Int) : Bool := subuB z fs xs && !xs.isEmpty
def valSubalgebraOf (z : Int) (fs : List OpD) (xs : List Int) : Int × List OpD × Bool := if sbaB z fs xs then ((xs.length : Int), fs.map (sbO z xs), true) else (0, [], false)
theorem sbaB_of {z : Int} {fs : List OpD} {xs : List Int} (h : sbaB z fs xs = true) : algOkB z fs = true ∧ isSubB z fs xs = true ∧ allIn z xs = true ∧ listK (setN xs) 8 = xs ∧ 1 ≤ xs.length ∧ xs.length ≤ 8 := by
  simp only [sbaB, Bool.and_eq_true, Bool.not_eq_true'] at h
  obtain ⟨h1, h2⟩ := h
  obtain ⟨h3, h4⟩ := subuB_of h1
  obtain ⟨h5, h6, _⟩ := isSubB_of h4
  have h7 := listK_le (setN xs) 8
  rw [h6] at h7
  refine ⟨h3, h4, h5, h6, ?_, h7⟩
  cases xs with
  | nil => cases h2
  | cons y r => simp
theorem sbL_bd {z : Int} {xs : List Int} {f : OpD} (h1 : 1 ≤ xs.length) (h8 : xs.length ≤ 8) (hok : opOkB z f = true) : powI (xs.length : Int) f.1.toNat = (sbL xs f : Int) ∧ 1 ≤ sbL xs f ∧ sbL xs f ≤ 512 := by
  have h2 := (opOkB_of hok).1
  have h3 := powI_bd (z := (xs.length : Int)) (k := f.1.toNat) (by omega) (by omega) (by omega)
  unfold sbL
  omega
theorem op_nat2 {z : Int} {f : OpD} (h1 : 1 ≤ z) (h2 : z ≤ 8) (hok : opOkB z f = true) : ∃ zn m : Nat, z = (zn : Int) ∧ f.1 = (m : Int) ∧ 1 ≤ zn ∧ zn ≤ 8 ∧ m ≤ 3 ∧ 1 ≤ f.2.length ∧ f.2.length ≤ 512 := by
  obtain ⟨⟨a, b⟩, hl, _⟩ := opOkB_of hok
  have := powI_bd h1 h2 (k := f.1.toNat) (by omega)
  exact ⟨z.toNat, f.1.toNat, by omega, by omega, by omega, by omega, by omega, by omega, by omega⟩
theorem osum_le2 {fs : List OpD} (h : ∀ f ∈ fs, f.2.length ≤ 512) : osum fs ≤ 512 * fs.length := by
  induction fs with
  | nil => simp [osum]
  | cons f r ih =>
    have h1 := ih fun g hg => h g (by simp [hg])
    have h2 := h f (by simp)
    simp only [osum, List.map_cons, List.sum_cons, List.length_cons] at h1 ⊢
    omega
theorem smallSubalgebraOf (z : Int) (fs : List OpD) (xs : List Int) : (valSubalgebraOf z fs xs).2.1.length + osum (valSubalgebraOf z fs xs).2.1 ≤ 4194304 := by
  unfold valSubalgebraOf
  split
  · rename_i h
    obtain ⟨h1, _, _, _, h5, h6⟩ := sbaB_of h
    obtain ⟨_, h7, h8⟩ := algOkB_of h1
    have h4 : osum (fs.map (sbO z xs)) ≤ 512 * (fs.map (sbO z xs)).length := osum_le2 fun f hf => by
      obtain ⟨g, hg, rfl⟩ := List.mem_map.1 hf
      rw [sbO]
      dsimp only
      rw [sbT_len]
      exact (sbL_bd h5 h6 (h8 g hg)).2.2
    simp at h4 ⊢
    omega
  · simp [osum]
theorem at_in {z : Int} {xs : List Int} {f : OpD} {q : Nat} (h1 : 1 ≤ xs.length) (ha : allIn z xs = true) : allIn z ((digs (xs.length : Int) f.1.toNat (q : Int)).map (nmP xs)) = true := nmP_in ha (digs_in (by omega) _ _)

/-- The first i of new, behind them what was there. -/
def mixI (new old : List Int) (i : Nat) : List Int := new.take i ++ old.drop i
theorem mixI_zero (new old : List Int) : mixI new old 0 = old := by simp [mixI]
theorem mixI_all {new old : List Int} {i : Nat} (h : new.length = old.length) (hi : old.length ≤ i) : mixI new old i = new := by
  simp [mixI, List.take_of_length_le (by omega : new.length ≤ i), List.drop_of_length_le hi]
theorem mixI_len {new old : List Int} (h : new.length = old.length) (i : Nat) : (mixI new old i).length = old.length := by
  simp [mixI]; omega
theorem mixI_get {new old : List Int} {i : Nat} (h : new.length = old.length) (hi : i < old.length) : (mixI new old i)[i]? = old[i]? := by
  unfold mixI
  rw [List.getElem?_append_right (by rw [List.length_take]; omega), List.length_take, Nat.min_eq_left (by omega), Nat.sub_self, List.getElem?_drop, Nat.add_zero]
theorem mixI_set {new old : List Int} {i : Nat} {x : Int} (h : new.length = old.length) (hi : i < old.length) (hx : new[i]? = some x) : (mixI new old i).set i x = mixI new old (i + 1) := by
  unfold mixI
  have hl : (new.take i).length = i := by simp; omega
  rw [List.set_append_right _ _ (by omega), hl, Nat.sub_self, List.drop_eq_getElem_cons hi, List.set_cons_zero, List.take_add_one, hx]
  simp
end

section
open Go.RowKit
set_option linter.unusedVariables false
set_option linter.unusedSimpArgs false
attribute [local go_sem ↓] Go.wp_at_zero Go.wp_at_succ

theorem grownBy_setFar (w : World) (p : Addr) (u : Value) : w.grownBy (w.setCell p u) (some p.block) :=
  ⟨rfl, rfl, rfl, by simp [World.setCell], fun k hk hne => Below.heap_setCell _ _ _ _ (by show k ≠ p.block; exact fun e => hne (by rw [e]))⟩
theorem keep_far2 {w : World} {a a' b : Addr} {u u' v : Value} (h : w.cell? b = some v) (hne : a.block ≠ b.block) (hne' : a'.block ≠ b.block) : ((w.setCell a u).setCell a' u').cell? b = some v :=
  (World.cell?_setCell_other _ _ _ _ (fun e => hne' (by rw [e]))).trans ((World.cell?_setCell_other _ _ _ _ (fun e => hne (by rw [e]))).trans h)
theorem keep_drw {w : World} {a b : Addr} {u v : Value} (h : w.cell? b = some v) (hne : a.block ≠ b.block) : (w.setCell a u).drew.cell? b = some v :=
  (show (w.setCell a u).drew.cell? b = (w.setCell a u).cell? b from rfl).trans ((World.cell?_setCell_other _ _ _ _ (fun e => hne (by rw [e]))).trans h)
theorem digs_row (w : World) (z : Int) (m : Nat) (at_ : Int) (hm : m ≤ 3) : (w.alloc (.cells (digsArr z m at_) 3)).ownsRow w.heap.size 3 1 (.slice (some ⟨w.heap.size, 0, none⟩) m m) m ((digs z m at_).map (Value.int .i64)) := by
  refine ⟨by simp [digs_len], .inr ⟨w.heap.size, m, digsArr z m at_, rfl, Nat.le_refl _, heap_alloc_new _ _, Nat.le_refl _, ?_, by simp [digsArr, digs_len], ?_⟩⟩
  · unfold maxLen; omega
  · rw [List.take_of_length_le (by simp [digsArr, digs_len])]; simp [digsArr]
theorem box_set01 {w : World} {B : Nat} {a b u v : Value} {ty : TypeId} (h : w.heap[B]? = some (.cells #[a, b] ty (0, 0))) : ((w.setCell ⟨B, 0, none⟩ u).setCell ⟨B, 1, none⟩ v).heap[B]? = some (.cells #[u, v] ty (0, 0)) := by
  simp [World.setCell, Array.getElem?_modify, h]

/-- The table of an operation on some elements, up to place q; pl tells the places. -/
def sfE (pl : Int → Int) (z : Int) (xs : List Int) (f : OpD) (q : Nat) : Int := pl (atA z f ((digs (xs.length : Int) f.1.toNat (q : Int)).map (nmP xs)))
def sfT (pl : Int → Int) (z : Int) (xs : List Int) (f : OpD) (n : Nat) : List Int := (List.range n).map (sfE pl z xs f)
theorem sfT_len (pl : Int → Int) (z : Int) (xs : List Int) (f : OpD) (n : Nat) : (sfT pl z xs f n).length = n := by simp [sfT]
theorem sfT_succ (pl : Int → Int) (z : Int) (xs : List Int) (f : OpD) (n : Nat) : sfT pl z xs f (n + 1) = sfT pl z xs f n ++ [sfE pl z xs f n] := by simp [sfT, List.range_succ]
def sfK (pl : Int → Int) (z : Int) (xs : List Int) (f : OpD) (n q : Nat) : List Int := sfT pl z xs f q ++ List.replicate (n - q) 0
theorem sfK_zero (pl : Int → Int) (z : Int) (xs : List Int) (f : OpD) (n : Nat) : sfK pl z xs f n 0 = List.replicate n 0 := by simp [sfK, sfT]
theorem sfK_all (pl : Int → Int) (z : Int) (xs : List Int) (f : OpD) (n : Nat) : sfK pl z xs f n n = sfT pl z xs f n := by simp [sfK]
theorem sfK_set (pl : Int → Int) (z : Int) (xs : List Int) (f : OpD) {n q : Nat} (h : q < n) : (sfK pl z xs f n q).set q (sfE pl z xs f q) = sfK pl z xs f n (q + 1) := by
  unfold sfK
  rw [List.set_append_right _ _ (by rw [sfT_len]; exact Nat.le_refl _), sfT_len, Nat.sub_self, sfT_succ, show n - q = (n - (q + 1)) + 1 by omega, List.replicate_succ]
  simp
theorem sf_sb (z : Int) (xs : List Int) (f : OpD) (n : Nat) : sfT (plI xs) z xs f n = sbT z xs f n := rfl

/-- A new operation of zeros: its box X, its table g. -/
structure FreshO (w W : World) (m n X g : Nat) : Prop where
  box : W.heap[X]? = some (.cells #[.int .i64 (m : Int), .slice (some ⟨g, 0, none⟩) n n] 66 (0, 0))
  row : W.ownsRow w.heap.size 3 1 (.slice (some ⟨g, 0, none⟩) n n) n ((List.replicate n (0 : Int)).map (Value.int .i64))
  bel : Below w.heap.size w W
  lo : w.heap.size ≤ X
  tlo : w.heap.size ≤ g
  ne : X ≠ g
  hi : X < W.heap.size

set_option maxRecDepth 100000 in
set_option maxHeartbeats 4000000 in
theorem opF_any (pf : Nat) (pc : Array Value) (pl : Int → Int) (lo hi lo2 hi2 : Nat) (zn : Nat) (f : OpD) (bt ot tm tc b o k d m : Nat) (xs : List Int) (w : World) (ht : IView w lo hi (some ⟨bt, ot, none⟩) tm f.2) (hhi : hi ≤ w.heap.size) (hm : f.1 = (m : Int)) (hok : opOkB (zn : Int) f = true) (hz1 : 1 ≤ zn) (hz2 : zn ≤ 8)
    (hx : IView w lo2 hi2 (some ⟨b, o, none⟩) k xs) (hhi2 : hi2 ≤ w.heap.size) (hk1 : 1 ≤ k) (hk8 : k ≤ 8) (ha : allIn (zn : Int) xs = true)
    (hEn : ∀ args w, (callFunc pf args).run Try.prog w = .ok (.enter pf args) w)
    (hPf : ∀ (W : World) (y : Int), Below w.heap.size w W → y ∈ f.2 → Calls Try.prog pf (#[.int .i64 y] ++ pc) W fun e W' => e = .returned (.int .i64 (pl y)) ∧ Below W.heap.size W W') :
    Calls Try.prog 61 #[.int .i64 (zn : Int), .agg #[.int .i64 (m : Int), .slice (some ⟨bt, ot, none⟩) tm tc], .slice (some ⟨b, o, none⟩) k d, .func (.func pf) #[] pc] w fun e w' => ∃ g dd, e = .returned (.agg #[.int .i64 (m : Int), .slice (some ⟨g, 0, none⟩) (sbL xs f) dd]) ∧ w'.ownsRow w.heap.size 3 1 (.slice (some ⟨g, 0, none⟩) (sbL xs f) dd) (sbL xs f) ((sfT pl (zn : Int) xs f (sbL xs f)).map (Value.int .i64)) ∧ Below w.heap.size w w' := by
  have hxl := hx.1
  have htl := ht.1
  have hm3 : m ≤ 3 := by have := (opOkB_of hok).1; omega
  obtain ⟨hp, hn1, hn2⟩ := sbL_bd (f := f) (by omega) (by omega) hok (xs := xs)
  rw [hxl, hm, Int.toNat_natCast] at hp
  obtain ⟨n, hn⟩ : ∃ n, sbL xs f = n := ⟨_, rfl⟩
  rw [hn] at hp hn1 hn2 ⊢
  have hB := below_then (below_alloc w (.cells #[.int .i64 (m : Int), .slice (some ⟨bt, ot, none⟩) tm tc] 66)) (below_alloc _ (.cells #[.int .i64 0, .slice none 0 0] 66))
  have HB := Lib.hid hB
  have cm : ((w.alloc (.cells #[.int .i64 (m : Int), .slice (some ⟨bt, ot, none⟩) tm tc] 66)).alloc (.cells #[.int .i64 0, .slice none 0 0] 66)).cell? ⟨w.heap.size, 0, none⟩ = some (.int .i64 (m : Int)) := cell_b (below_alloc _ _) (by simp)
  have ct : ((w.alloc (.cells #[.int .i64 (m : Int), .slice (some ⟨bt, ot, none⟩) tm tc] 66)).alloc (.cells #[.int .i64 0, .slice none 0 0] 66)).cell? ⟨w.heap.size, 1, none⟩ = some (.slice (some ⟨bt, ot, none⟩) tm tc) := cell_b (below_alloc _ _) (by simp)
  have HRes : Hid (((w.alloc (.cells #[.int .i64 (m : Int), .slice (some ⟨bt, ot, none⟩) tm tc] 66)).alloc (.cells #[.int .i64 0, .slice none 0 0] 66)).heap[w.heap.size + 1]? = some (.cells #[.int .i64 0, .slice none 0 0] 66 (0, 0))) := by
    have h := heap_alloc_new (w.alloc (.cells #[.int .i64 (m : Int), .slice (some ⟨bt, ot, none⟩) tm tc] 66)) (.cells #[.int .i64 0, .slice none 0 0] 66)
    rw [World.size_alloc] at h
    exact h
  have HPw := Lib.hid (fun W : World => len_any (k : Int) m W (by omega) (by omega) hm3)
  rw [hp] at HPw
  have HX := Lib.hid hx
  have HT := Lib.hid ht
  have HOk := Lib.hid hok
  have HA := Lib.hid ha
  have HM := Lib.hid hm
  have HN := Lib.hid hn
  have HXl := Lib.hid hxl
  have HTl := Lib.hid htl
  have HPf := Lib.hid hPf
  clear hx ht hok ha hm hn hB hxl htl hp hPf
  obtain ⟨j0, hj0, hq0, hq1, hq2⟩ := info_parts Try.infoInt
  obtain ⟨wo, hwo⟩ : ∃ wo : World, wo = ((w.alloc (.cells #[.int .i64 (m : Int), .slice (some ⟨bt, ot, none⟩) tm tc] 66)).alloc (.cells #[.int .i64 0, .slice none 0 0] 66)) := ⟨_, rfl⟩
  have hso : wo.heap.size = w.heap.size + 1 + 1 := by rw [hwo]; simp
  have hltw : w.heap.size + 1 < wo.heap.size := by omega
  clear hso
  go_enter Try.func61, Try.ntmps61
  go_wp2_with fail
  rw [← hwo] at cm ct HRes HB ⊢
  clear hwo
  obtain ⟨w3, hr3, ho3, hg3⟩ := run_make_full (P := Try.prog) wo.drew wo.heap.size 25 3 j0 _ 1 Try.underlying25 hj0 hq0 hq1 .i64 .i64 n (by rw [hq2]; omega) (by unfold maxLen; omega) (Nat.le_refl _)
  obtain ⟨w4, hr4, ho4, hg4⟩ := run_make_full (P := Try.prog) (wo.alloc (.cells #[.int .i64 0, .slice none 0 0] 66)).drew wo.heap.size 25 3 j0 _ 1 Try.underlying25 hj0 hq0 hq1 .i64 .i64 n (by rw [hq2]; omega) (by unfold maxLen; omega) (by show wo.heap.size ≤ (wo.alloc _).heap.size; simp)
  simp only [World.size_alloc, World.size_drew] at hr3 ho3 hr4 ho4
  have b3 : Below wo.heap.size wo w3 := (Below.refl _ _).drew.grown hg3 (Nat.le_refl _) (by intro k hk; cases hk)
  have b4 : Below (wo.alloc (.cells #[.int .i64 0, .slice none 0 0] 66)).heap.size (wo.alloc (.cells #[.int .i64 0, .slice none 0 0] 66)) w4 := (Below.refl _ _).drew.grown hg4 (Nat.le_refl _) (by intro k hk; cases hk)
  have bd4 : Below wo.heap.size wo (wo.alloc (.cells #[.int .i64 0, .slice none 0 0] 66)) := below_alloc _ _
  have p0 : w3.cell? ⟨w.heap.size, 0, none⟩ = some (.int .i64 (m : Int)) := cell_b b3 cm
  have q0 : w4.cell? ⟨w.heap.size, 0, none⟩ = some (.int .i64 (m : Int)) := cell_b b4 (cell_b bd4 cm)
  have q3 : w4.cell? ⟨wo.heap.size, 0, none⟩ = some (.int .i64 0) := cell_b b4 (by simp)
  have q4 : w4.cell? ⟨wo.heap.size, 1, none⟩ = some (.slice none 0 0) := cell_b b4 (by simp)
  have q5 : w4.frozen? ⟨wo.heap.size, 0, none⟩ = false := (b4.frozen (p := ⟨wo.heap.size, 0, none⟩) (by simp)).trans (by simp)
  have q6 : w4.frozen? ⟨wo.heap.size, 1, none⟩ = false := (b4.frozen (p := ⟨wo.heap.size, 1, none⟩) (by simp)).trans (by simp)
  have hrw : ((List.replicate n (0 : Int)).map (Value.int .i64)) = (madeCells (Value.int .i64 0).cells (n * 1)).toList := by
    rw [show (Value.int .i64 0).cells = #[Value.int .i64 0] from rfl, Nat.mul_one, toList_madeCells_one, List.map_replicate]
  have HF3 : Hid (FreshO wo (w3.alloc (.cells #[.int .i64 (m : Int), .slice (some ⟨wo.heap.size, 0, none⟩) n n] 66)) m n w3.heap.size wo.heap.size) :=
    ⟨heap_alloc_new _ _, by rw [hrw]; exact ho3.alloc _, b3.alloc b3.size _, b3.size, Nat.le_refl _, by have := (ho3.lt wo.heap.size rfl).2; omega, by simp⟩
  have HF4 : Hid (FreshO wo ((w4.setCell ⟨wo.heap.size, 0, none⟩ (.int .i64 (m : Int))).setCell ⟨wo.heap.size, 1, none⟩ (.slice (some ⟨wo.heap.size + 1, 0, none⟩) n n)) m n wo.heap.size (wo.heap.size + 1)) := by
    refine ⟨box_set01 (a := .int .i64 0) (b := .slice none 0 0) ((b4.block _ (by simp)).trans (heap_alloc_new _ _)), ?_, ((below_alloc _ _).trans (b4.mono (by simp)) |>.setCell (by show wo.heap.size ≤ wo.heap.size; omega) _).setCell (by show wo.heap.size ≤ wo.heap.size; omega) _, Nat.le_refl _, by omega, by omega, ?_⟩
    · rw [hrw]
      have h1 := ho4.kept (grownBy_setFar w4 ⟨wo.heap.size, 0, none⟩ (.int .i64 (m : Int))) (.inr (by show some (wo.heap.size + 1) ≠ some wo.heap.size; simp))
      exact h1.kept (grownBy_setFar _ ⟨wo.heap.size, 1, none⟩ _) (.inr (by show some (wo.heap.size + 1) ≠ some wo.heap.size; simp))
    · have h := b4.size
      simp at h
      simp [World.setCell]; omega
  have KS4 := Lib.hid (fun (u1 u2 : Value) => keep_far2 (a := ⟨wo.heap.size, 0, none⟩) (a' := ⟨wo.heap.size, 1, none⟩) (u := u1) (u' := u2) q0 (by show wo.heap.size ≠ w.heap.size; omega) (by show wo.heap.size ≠ w.heap.size; omega))
  have hs3 : wo.heap.size ≤ w3.heap.size := b3.size
  have hs4 : wo.heap.size < w4.heap.size := by have := b4.size; simp at this; omega
  clear ho3 ho4 b3 b4 bd4 hg3 hg4
  go_region_held3 (fun w' => w'.cell? ⟨w.heap.size, 0, none⟩ = some (.int .i64 (m : Int))) (first | (exact p0) | (exact q0) | (exact KS4.out _ _) | go_keep) ((go_at_call 110; refine (HPw.out _).mono ?_; rintro e_ w2_ ⟨rfl, rfl⟩))
  all_goals
    (first
      | (obtain ⟨wA, hwA⟩ : ∃ wA : World, wA = w3.alloc (.cells #[.int .i64 (m : Int), .slice (some ⟨wo.heap.size, 0, none⟩) n n] 66) := ⟨_, rfl⟩
         rw [← hwA]
         have HFr := HF3
         rw [← hwA] at HFr
         obtain ⟨ob, hob⟩ : ∃ ob : Nat, ob = w3.heap.size := ⟨_, rfl⟩
         obtain ⟨tb, htb⟩ : ∃ tb : Nat, tb = wo.heap.size := ⟨_, rfl⟩
         have HFr2 : Hid (FreshO wo wA m n ob tb) := by rw [hob, htb]; exact HFr
         rw [← hob])
      | (obtain ⟨wA, hwA⟩ : ∃ wA : World, wA = ((w4.setCell ⟨wo.heap.size, 0, none⟩ (.int .i64 (m : Int))).setCell ⟨wo.heap.size, 1, none⟩ (.slice (some ⟨wo.heap.size + 1, 0, none⟩) n n)) := ⟨_, rfl⟩
         rw [← hwA]
         have HFr := HF4
         rw [← hwA] at HFr
         obtain ⟨ob, hob⟩ : ∃ ob : Nat, ob = wo.heap.size := ⟨_, rfl⟩
         obtain ⟨tb, htb⟩ : ∃ tb : Nat, tb = wo.heap.size + 1 := ⟨_, rfl⟩
         have HFr2 : Hid (FreshO wo wA m n ob tb) := by rw [hob, htb]; exact HFr
         rw [← hob]))
    clear hwA hob htb HFr HF3 HF4 KS4 p0 q0 q3 q4 q5 q6 hr3 hr4 hs3 hs4
    obtain ⟨hA1, hA2, hA3, hA4, hA4b, hA5, hA6⟩ := HFr2.out
    have HX0 := Lib.hid hA1
    have HT0 : Hid (wA.ownsRow wo.heap.size 3 1 (.slice (some ⟨tb, 0, none⟩) n n) n ((sfK pl (zn : Int) xs f n 0).map (Value.int .i64))) := by unfold Hid; rw [sfK_zero]; exact hA2
    have HB0 := Lib.hid hA3
    obtain ⟨x0, x1, xf⟩ := box_cells hA1
    clear hA1 hA2 hA3 HFr2
    go_wp2_with fail
    go_loopw [10, 11, 12, 13, 26] (fun s8 s9 s10 s11 i wi => ∃ q : Nat, q ≤ n ∧ i = .int .i64 (q : Int) ∧ Hid (wi.heap[ob]? = some (.cells #[.int .i64 (m : Int), .slice (some ⟨tb, 0, none⟩) n n] 66 (0, 0))) ∧ Hid (wi.ownsRow wo.heap.size 3 1 (.slice (some ⟨tb, 0, none⟩) n n) n ((sfK pl (zn : Int) xs f n q).map (Value.int .i64))) ∧ Hid (Below wo.heap.size wo wi) ∧ ob < wi.heap.size) (fun _ _ _ _ i _ => n - (intOf i).toNat)
    case atStart => exact ⟨0, Nat.zero_le _, rfl, HX0, HT0, HB0, hA6⟩
    case round =>
      obtain ⟨q, hq, rfl, HXb, HTb, HBi, hsi⟩ := hrel
      clear HX0 HT0 HB0 hA6 x0 x1 xf
      obtain ⟨wi, hwi⟩ : ∃ wi : World, wi = wr := ⟨_, rfl⟩
      rw [← hwi]
      rw [← hwi] at HXb HTb HBi hsi
      clear hwi
      have iz : wi.cell? ⟨w.heap.size, 0, none⟩ = some (.int .i64 (m : Int)) := cell_b HBi.out cm
      have ia : wi.cell? ⟨w.heap.size, 1, none⟩ = some (.slice (some ⟨bt, ot, none⟩) tm tc) := cell_b HBi.out ct
      by_cases hltq : q < n
      · have HAr := Lib.hid (argsImpl_any (k : Int) (q : Int) m hm3 wi (by omega) (by omega) (by omega) (by omega))
        have hltq' : (q : Int) < (n : Int) := by omega
        go_wp2_with fail
        refine HAr.out.mono ?_
        rintro e_ w5 ⟨rfl, hw5⟩
        have B5 : Hid (Below wi.heap.size wi w5) := by rw [hw5]; exact below_alloc _ _
        have HD5 : Hid (w5.ownsRow wi.heap.size 3 1 (.slice (some ⟨wi.heap.size, 0, none⟩) m m) m ((mixI ((digs (k : Int) m (q : Int)).map (nmP xs)) (digs (k : Int) m (q : Int)) 0).map (Value.int .i64))) := by
          rw [mixI_zero, hw5]; exact digs_row wi _ m _ hm3
        clear hw5
        go_wp2_with fail
        go_loopw [12, 13, 37] (fun s10 s11 i wq => ∃ j : Nat, j ≤ m ∧ i = .int .i64 (j : Int) ∧ Hid (wq.ownsRow wi.heap.size 3 1 (.slice (some ⟨wi.heap.size, 0, none⟩) m m) m ((mixI ((digs (k : Int) m (q : Int)).map (nmP xs)) (digs (k : Int) m (q : Int)) j).map (Value.int .i64))) ∧ Hid (Below wi.heap.size wi wq)) (fun _ _ i _ => m - (intOf i).toNat)
        case atStart => exact ⟨0, Nat.zero_le _, rfl, HD5, B5⟩
        case round =>
          obtain ⟨j, hj, rfl, HD, HBj⟩ := hrel
          have hlen : ((digs (k : Int) m (q : Int)).map (nmP xs)).length = (digs (k : Int) m (q : Int)).length := by rw [List.length_map]
          have hdl := digs_len (k : Int) m (q : Int)
          have hBo := HB.out.trans (HBi.out.mono HB.out.size)
          have hBB := hBo.trans (HBj.out.mono hBo.size)
          by_cases hltj : j < m
          · obtain ⟨x, hx⟩ : ∃ x, (digs (k : Int) m (q : Int))[j]? = some x := ⟨_, List.getElem?_eq_getElem (by omega)⟩
            obtain ⟨x0, x1⟩ := allIn_get (digs_in (z := (k : Int)) (by omega) m (q : Int)) hx
            obtain ⟨xn, rfl⟩ : ∃ xn : Nat, x = (xn : Int) := ⟨x.toNat, by omega⟩
            have hnm := nmP_get (xs := xs) x0 (by rw [HXl.out]; exact x1)
            obtain ⟨u, hu⟩ : ∃ u, u = nmP xs (xn : Int) := ⟨_, rfl⟩
            rw [← hu, Int.toNat_natCast] at hnm
            obtain ⟨b', o', he', _, _, hcx⟩ := HX.out.at_ (by omega)
            cases he'
            have en : wr.cell? ⟨b, o + xn, none⟩ = some (.int .i64 u) := cell_b hBB (hcx xn u hnm)
            have hcj := HD.out.cellAt j (by omega)
            rw [List.getElem?_map, mixI_get hlen (by omega), hx] at hcj
            have hcj2 : wr.cell? ⟨wi.heap.size, j, none⟩ = some (.int .i64 (xn : Int)) := hcj
            have hfr := HD.out.frozenAt j
            have hst := HD.out.stored j (.int .i64 u)
            rw [← List.map_set, mixI_set hlen (by omega) (by rw [List.getElem?_map, hx, hu]; rfl)] at hst
            have HST := Lib.hid hst
            have hxn : (xn : Int) < (k : Int) := by omega
            have hltj' : (j : Int) < (m : Int) := by omega
            clear hx hnm hu hlen hdl hst hcx hBB hBo hcj
            go_wp2_with fail
            go_roundw
            case rel => exact ⟨j + 1, by omega, by go_num, HST.out.1, HBj.out.grown HST.out.2 HBj.out.size (by intro b hb; cases hb; exact Nat.le_refl _)⟩
            case measure => simp [intOf]; omega
          · obtain rfl : j = m := by omega
            have hD := HD.out
            rw [mixI_all hlen (by omega)] at hD
            have hv4 := (OwnsInts.of_row hD).view
            have hall := at_in (z := (zn : Int)) (xs := xs) (f := f) (q := q) (by rw [HXl.out]; exact hk1) HA.out
            rw [HXl.out, HM.out, Int.toNat_natCast] at hall
            obtain ⟨hi0, hi1, hat⟩ := at_get (z := (zn : Int)) (by omega) HOk.out (xs := (digs (k : Int) j (q : Int)).map (nmP xs)) (by rw [HM.out, List.length_map, hdl]) hall
            obtain ⟨ti, hti⟩ : ∃ ti : Nat, idxA (zn : Int) ((digs (k : Int) j (q : Int)).map (nmP xs)) = (ti : Int) := ⟨_, (Int.toNat_of_nonneg hi0).symm⟩
            rw [hti, Int.toNat_natCast] at hat
            rw [hti] at hi1
            obtain ⟨y, hy⟩ : ∃ y, atA (zn : Int) f ((digs (k : Int) j (q : Int)).map (nmP xs)) = y := ⟨_, rfl⟩
            rw [hy] at hat
            have hIx := fun (W : World) (hW : Below wr.heap.size wr W) => idx_impl _ _ (zn : Int) _ j j _ W (hv4.kept (Kept.of_below hW (Nat.le_refl _))) (by omega) (by omega) hall hm3
            simp only [hti] at hIx
            have HIx := Lib.hid hIx
            have hPl := fun (W : World) (hW : Below wr.heap.size wr W) => HPf.out W y (hBB.trans (hW.mono hBB.size)) (List.mem_of_getElem? hat)
            obtain ⟨v, hvE⟩ : ∃ v, pl y = v := ⟨_, rfl⟩
            simp only [hvE] at hPl
            have HPl := Lib.hid hPl
            have HE : Hid (sfE pl (zn : Int) xs f q = v) := by unfold Hid sfE; rw [HXl.out, HM.out, Int.toNat_natCast, hy, hvE]
            obtain ⟨b', o', he', _, _, hct⟩ := HT.out.at_ (by have := HTl.out; omega)
            cases he'
            have ey : wr.cell? ⟨bt, ot + ti, none⟩ = some (.int .i64 y) := cell_b hBB (hct ti y hat)
            obtain ⟨x0, x1, xf⟩ := box_cells ((HBj.out.block _ hsi).trans HXb.out)
            have jz : wr.cell? ⟨w.heap.size, 1, none⟩ = some (.slice (some ⟨bt, ot, none⟩) tm tc) := cell_b HBj.out ia
            have HT4 := HTb.out.kept (grown_of_below HBj.out none) (own_em _)
            have hcu : ∃ u0, wr.cell? ⟨tb, q, none⟩ = some u0 := by
              rw [HT4.cellAt q (by omega)]
              have hl1 := HT4.1
              exact ⟨_, List.getElem?_eq_getElem (by omega)⟩
            have HT4h := Lib.hid HT4
            have htb := HT4.lt tb rfl
            have hbtw : bt < w.heap.size := World.block_lt_of_cell? w _ (hct ti y hat)
            have htm : (ti : Int) < (tm : Int) := by have := HTl.out; omega
            clear hIx hPl hti hi0 hi1 hat hy hvE hct hD hv4 hall hlen hdl hBB hBo HT4
            go_wp2_with fail
            refine wp_region_noPanic ?_
            refine wp_region_held_drew (S := fun W => W.cell? ⟨ob, 1, none⟩ = some (.slice (some ⟨tb, 0, none⟩) n n) ∧ W.cell? ⟨w.heap.size, 1, none⟩ = some (.slice (some ⟨bt, ot, none⟩) tm tc) ∧ W.cell? ⟨bt, ot + ti, none⟩ = some (.int .i64 y)) (by kernel_rfl) ?_ (fun hHeld => ?_)
            · exact ⟨x1, jz, ey⟩
            refine wpAnyH_take (i := 0) (oi := ⟨_, _, _, _, _, _⟩) (v := ?_) rfl (by kernel_rfl) (by kernel_rfl) (by kernel_rfl) (fun _ _ _ h => h) (Or.inl ⟨rfl, ?_⟩) (by assumption) ?_
            rotate_left 1
            · intro w_ hSw; (try dsimp only at hSw); go_simp; (try with_reducible rfl)
            (try simp only [Act.put, List.setIfInBounds_toArray, List.set_cons_zero, List.set_cons_succ])
            refine wpAnyH_take (i := 1) (oi := ⟨_, _, _, _, _, _⟩) (v := ?_) rfl (by kernel_rfl) (by kernel_rfl) (by kernel_rfl) (fun _ _ _ h => h) (Or.inl ⟨rfl, ?_⟩) (by assumption) ?_
            rotate_left 1
            · intro w_ hSw; (try dsimp only at hSw); go_simp; (try with_reducible rfl)
            (try simp only [Act.put, List.setIfInBounds_toArray, List.set_cons_zero, List.set_cons_succ])
            refine wpAnyH_take (i := 2) (oi := ⟨_, _, _, _, _, _⟩) (v := ?_) rfl (by kernel_rfl) (by kernel_rfl) (by kernel_rfl) (fun _ _ _ h => h) (Or.inl ⟨rfl, ?_⟩) (by assumption) ?_
            rotate_left 1
            · intro w_ hSw; (try dsimp only at hSw); go_simp; (try with_reducible rfl)
            (try simp only [Act.put, List.setIfInBounds_toArray, List.set_cons_zero, List.set_cons_succ])
            refine wpAnyH_take (i := 3) (oi := ⟨_, _, _, _, _, _⟩) (v := ?_) rfl (by kernel_rfl) (by kernel_rfl) (by kernel_rfl) (fun _ _ _ h => h) (Or.inl ⟨rfl, ?_⟩) (by assumption) ?_
            rotate_left 1
            · intro w_ hSw; (try dsimp only at hSw); go_simp; (try with_reducible rfl)
            (try simp only [Act.put, List.setIfInBounds_toArray, List.set_cons_zero, List.set_cons_succ])
            refine wpAnyH_take (i := 4) (oi := ⟨_, _, _, _, _, _⟩) (v := ?_) rfl (by kernel_rfl) (by kernel_rfl) (by kernel_rfl) (fun _ _ _ h => h) (Or.inl ⟨rfl, ?_⟩) (by assumption) ?_
            rotate_left 1
            · intro w_ hSw; (try dsimp only at hSw); go_simp; (try with_reducible rfl)
            (try simp only [Act.put, List.setIfInBounds_toArray, List.set_cons_zero, List.set_cons_succ])
            refine wpAnyH_take (i := 5) (oi := ⟨_, _, _, _, _, _⟩) (v := ?_) rfl (by kernel_rfl) (by kernel_rfl) (by kernel_rfl) (fun _ _ _ h => h) (Or.inl ⟨rfl, ?_⟩) (by assumption) ?_
            rotate_left 1
            · intro w_ hSw; (try dsimp only at hSw); go_simp; (try with_reducible rfl)
            (try simp only [Act.put, List.setIfInBounds_toArray, List.set_cons_zero, List.set_cons_succ])
            refine wpAnyH_take (i := 6) (oi := ⟨_, _, _, _, _, _⟩) (v := ?_) rfl (by kernel_rfl) (by kernel_rfl) (by kernel_rfl) (fun _ _ _ h => h) (Or.inl ⟨rfl, ?_⟩) (by assumption) ?_
            rotate_left 1
            · intro w_ hSw; (try dsimp only at hSw); go_simp; (try with_reducible rfl)
            (try simp only [Act.put, List.setIfInBounds_toArray, List.set_cons_zero, List.set_cons_succ])
            refine wpAnyH_take (i := 7) (oi := ⟨_, _, _, _, _, _⟩) (v := ?_) rfl (by kernel_rfl) (by kernel_rfl) (by kernel_rfl) (fun _ _ _ h => h) (Or.inl ⟨rfl, ?_⟩) (by assumption) ?_
            rotate_left 1
            · intro w_ hSw; (try dsimp only at hSw); go_simp; (try with_reducible rfl)
            (try simp only [Act.put, List.setIfInBounds_toArray, List.set_cons_zero, List.set_cons_succ])
            refine wpAnyH_ready (rs := [8]) (by kernel_rfl) (by simp) ?_
            refine AllReadyH.cons (o := ⟨_, _, _, _, _, _⟩) rfl (fun K hK => ?_) AllReadyH.nil
            go_simp
            go_at_call 112
            refine (HIx.out _ (below_drew _)).mono ?_
            rintro e_ w6 ⟨rfl, rfl⟩
            go_wp2_with fail
            refine hK.out _ _ ?_ (fun hHeld => ?_)
            · exact ⟨x1, jz, ey⟩
            clear hK K
            (try simp only [Act.put, List.setIfInBounds_toArray, List.set_cons_zero, List.set_cons_succ])
            refine wpAnyH_take (i := 9) (oi := ⟨_, _, _, _, _, _⟩) (v := ?_) rfl (by kernel_rfl) (by kernel_rfl) (by kernel_rfl) (fun _ _ _ h => h) (Or.inl ⟨rfl, ?_⟩) (by assumption) ?_
            rotate_left 1
            · intro w_ hSw; (try dsimp only at hSw); go_simp; (try with_reducible rfl)
            (try simp only [Act.put, List.setIfInBounds_toArray, List.set_cons_zero, List.set_cons_succ])
            refine wpAnyH_take (i := 10) (oi := ⟨_, _, _, _, _, _⟩) (v := ?_) rfl (by kernel_rfl) (by kernel_rfl) (by kernel_rfl) (fun _ _ _ h => h) (Or.inl ⟨rfl, ?_⟩) (by assumption) ?_
            rotate_left 1
            · intro w_ hSw; (try dsimp only at hSw); go_simp; (try with_reducible rfl)
            (try simp only [Act.put, List.setIfInBounds_toArray, List.set_cons_zero, List.set_cons_succ])
            refine wpAnyH_ready (rs := [11]) (by kernel_rfl) (by simp) ?_
            refine AllReadyH.cons (o := ⟨_, _, _, _, _, _⟩) rfl (fun K hK => ?_) AllReadyH.nil
            go_simp
            go_at_fn pf
            refine (HPl.out _ (below_drew _)).mono ?_
            rintro e_ w6 ⟨rfl, b6⟩
            have B6 : Below wr.heap.size wr w6 := below_then (below_drew wr) b6
            have HB6a := Lib.hid B6
            have x6 := cell_b B6 x1
            have jz6 := cell_b B6 jz
            have ey6 := cell_b B6 ey
            have HT6 := HT4h.out.kept (grown_of_below B6 none) (own_em _)
            obtain ⟨u0, hu0_⟩ := hcu
            have hu0 := cell_b B6 hu0_
            have hfr := HT6.frozenAt q
            have hst := HT6.stored q (.int .i64 v)
            rw [← HE.out, ← List.map_set, sfK_set _ _ _ _ hltq, HE.out] at hst
            have HST := Lib.hid hst
            have HKS := Lib.hid (fun (u' : Value) => show (w6.setCell ⟨tb, q, none⟩ u').cell? ⟨ob, 1, none⟩ = some (.slice (some ⟨tb, 0, none⟩) n n) ∧ (w6.setCell ⟨tb, q, none⟩ u').cell? ⟨w.heap.size, 1, none⟩ = some (.slice (some ⟨bt, ot, none⟩) tm tc) ∧ (w6.setCell ⟨tb, q, none⟩ u').cell? ⟨bt, ot + ti, none⟩ = some (.int .i64 y) from
              ⟨(World.cell?_setCell_other _ _ _ _ (fun e => (show tb ≠ ob by omega) (congrArg Addr.block e))).trans x6, (World.cell?_setCell_other _ _ _ _ (fun e => (show tb ≠ w.heap.size by omega) (congrArg Addr.block e))).trans jz6, (World.cell?_setCell_other _ _ _ _ (fun e => (show tb ≠ bt by omega) (congrArg Addr.block e))).trans ey6⟩)
            clear hst HT6 B6 b6 hu0_
            refine hK.out _ _ ?_ (fun hHeld => ?_)
            · exact ⟨x6, jz6, ey6⟩
            clear hK K
            (try simp only [Act.put, List.setIfInBounds_toArray, List.set_cons_zero, List.set_cons_succ])
            refine wpAnyH_take (i := 12) (oi := ⟨_, _, _, _, _, _⟩) (v := ?_) rfl (by kernel_rfl) (by kernel_rfl) (by kernel_rfl) (fun _ _ _ h => h) (Or.inl ⟨rfl, ?_⟩) (by assumption) ?_
            rotate_left 1
            · intro w_ hSw; (try dsimp only at hSw); go_simp; (try with_reducible rfl)
            (try simp only [Act.put, List.setIfInBounds_toArray, List.set_cons_zero, List.set_cons_succ])
            refine wpAnyH_ready (rs := [13]) (by kernel_rfl) (by simp) ?_
            refine AllReadyH.cons (o := ⟨_, _, _, _, _, _⟩) rfl (fun K hK => ?_) AllReadyH.nil
            go_simp
            refine hK.out _ _ ?_ (fun hHeld => ?_)
            · exact HKS.out _
            clear hK K
            (try simp only [Act.put, List.setIfInBounds_toArray, List.set_cons_zero, List.set_cons_succ])
            refine wpAnyH_done (by kernel_rfl) ?_ _
            refine NoPanic.normal ?_
            have HO6 : Hid ((w6.setCell ⟨tb, q, none⟩ (.int .i64 v)).ownsRow wo.heap.size 3 1 (.slice (some ⟨tb, 0, none⟩) n n) n ((sfK pl (zn : Int) xs f n (q + 1)).map (Value.int .i64))) := HST.out.1
            have HX6 : Hid ((w6.setCell ⟨tb, q, none⟩ (.int .i64 v)).heap[ob]? = some (.cells #[.int .i64 (j : Int), .slice (some ⟨tb, 0, none⟩) n n] 66 (0, 0))) := by
              show (w6.setCell ⟨tb, q, none⟩ (.int .i64 v)).heap[ob]? = _
              have h_ := HBj.out.size
              rw [Below.heap_setCell _ _ _ _ (by show ob ≠ tb; omega), HB6a.out.block ob (by omega), HBj.out.block ob hsi]; exact HXb.out
            have HB6 : Hid (Below wo.heap.size wo (w6.setCell ⟨tb, q, none⟩ (.int .i64 v))) := by
              have h1 := HBi.out.trans (HBj.out.mono HBi.out.size)
              exact (h1.trans (HB6a.out.mono h1.size)).setCell (by show wo.heap.size ≤ tb; omega) _
            have hs6 : ob < (w6.setCell ⟨tb, q, none⟩ (.int .i64 v)).heap.size := by
              have h_ := HBj.out.size
              have h2_ := HB6a.out.size
              show ob < (w6.setCell ⟨tb, q, none⟩ (.int .i64 v)).heap.size
              simp [World.setCell]; omega
            go_wp2_with fail
            go_roundw
            case rel => exact ⟨q + 1, by omega, by go_num, HX6, HO6, HB6, hs6⟩
            case measure => simp [intOf]; omega
      · obtain rfl : q = n := by omega
        obtain ⟨x0, x1, xf⟩ := box_cells HXb.out
        obtain ⟨r0, r1, rf⟩ := box_cells ((HBi.out.block _ hltw).trans HRes.out)
        go_wp2_with fail
        refine bodyPost_ret (v := .agg #[.int .i64 (m : Int), .slice (some ⟨tb, 0, none⟩) q q]) (by simp [results, Try.results61, go_sem, r0, r1]) rfl ⟨tb, q, rfl, ?_, ?_⟩
        · have h1 := HTb.out
          rw [sfK_all] at h1
          exact ownsRow_base (ownsRow_setCell_below (ownsRow_setCell_below h1 (by show w.heap.size + 1 < _; omega) _) (by show w.heap.size + 1 < _; omega) _) (by omega)
        · exact ((HB.out.trans (HBi.out.mono HB.out.size)).setCell (by show _ ≤ _; simp) _).setCell (by show _ ≤ _; simp) _
end

section
open Go.RowKit
set_option linter.unusedVariables false
set_option linter.unusedSimpArgs false

/-- The operation f on some elements xs, each told by pl. -/
def sfO (pl : Int → Int) (z : Int) (xs : List Int) (f : OpD) : OpD := (f.1, sfT pl z xs f (sbL xs f))
/-- An algebra in new memory. -/
def NewAlgQ (w w' : World) (z : Int) (fs : List OpD) (e : Ending) : Prop := ∃ a n c G C, e = .returned (.agg #[.int .i64 z, .slice a n c]) ∧ n = fs.length ∧ OwnsOps w' w.heap.size w'.heap.size (.slice a n c) n G C (fun j => fs.getD j (0, [])) ∧ Below w.heap.size w w'
theorem leP_in (f : Nat → Int) (n : Nat) : allIn (n : Int) (leP f n) = true := by
  unfold allIn
  rw [List.all_eq_true]
  intro x hx
  obtain ⟨y, hy, _, rfl⟩ := leP_mem.1 hx
  exact decide_eq_true (by omega)

set_option maxHeartbeats 1000000 in
theorem natC_any (B Q gn zn cn yn : Nat) (u : Int) (W : World) (hB : W.cell? ⟨B, 0, none⟩ = some (.pointer (some ⟨Q, 0, none⟩))) (h11 : W.cell? ⟨Q, 11, none⟩ = some (.slice (some ⟨gn, 0, none⟩) zn cn)) (hy : yn < zn) (hz : zn ≤ 8) (hc : W.cell? ⟨gn, yn, none⟩ = some (.int .i64 u)) :
    Calls Try.prog 119 (#[.int .i64 (yn : Int)] ++ #[.pointer (some ⟨B, 0, none⟩)]) W fun e W' => e = .returned (.int .i64 u) ∧ Below W.heap.size W W' := by
  have hyz : (yn : Int) < (zn : Int) := by omega
  go_enter Try.func119, Try.ntmps119
  go_wp2_with fail
  go_ret
  exact ⟨rfl, Below.refl _ _⟩

set_option maxRecDepth 100000 in
set_option maxHeartbeats 4000000 in
theorem qalg_any (A Q zn : Nat) (ao : Option Addr) (n c : Nat) (f_ : Nat → Int) (va0 vb0 : Value) (lo hi : Nat) (fs : List OpD) (w : World) (hq : QtS w A Q (zn : Int) ao n c f_ zn zn va0 vb0) (hv : OView w lo hi ao n fs) (hhi : hi ≤ w.heap.size) (hok : algOkB (zn : Int) fs = true) (hf_ : okAll f_ zn = true) :
    Calls Try.prog 75 #[.pointer (some ⟨Q, 0, none⟩)] w fun e w' => NewAlgQ w w' ((leP f_ zn).length : Int) (fs.map (sfO (fun y => naI f_ y.toNat) (zn : Int) (leP f_ zn))) e := by
  obtain ⟨⟨hy1, hy2⟩, hn4_, hall⟩ := algOkB_of hok
  have hzn1 : 1 ≤ zn := by omega
  have hzn8 : zn ≤ 8 := by omega
  have hnat := hq.nat
  obtain ⟨zp, hzp⟩ : ∃ zp, zn = zp + 1 := ⟨zn - 1, by omega⟩
  rw [hzp] at hnat
  obtain ⟨gn, cn, rfl⟩ := ownsRow_succ hnat
  rw [← hzp] at hnat
  have hmem : f_ 0 ∈ leP f_ zn := by
    obtain ⟨⟨a0, a1⟩, a2⟩ := okAll_get hf_ (show 0 < zn by omega)
    exact leP_mem.2 ⟨(f_ 0).toNat, by omega, by rw [a2]; omega, by omega⟩
  obtain ⟨t0, ht0⟩ : ∃ t0, (leP f_ zn).length = t0 + 1 := ⟨(leP f_ zn).length - 1, by have := List.length_pos_of_mem hmem; omega⟩
  have hl8 := leP_len f_ zn
  have hles := hq.les
  rw [ht0] at hles
  obtain ⟨gl, cl, rfl⟩ := ownsRow_succ hles
  obtain ⟨t, ht⟩ : ∃ t, t0 + 1 = t := ⟨_, rfl⟩
  have d0_ := (qt_cells hq.box).1
  have d1_ := (qt_cells hq.box).2.1
  have d10 := (qt_cells hq.box).2.2.1
  have d11 := (qt_cells hq.box).2.2.2.1
  rw [← hzp] at d11
  rw [ht] at hles d10 ht0
  have hxv : IView w (Q + 1) w.heap.size (some ⟨gl, 0, none⟩) t (leP f_ zn) := IView.of_owns hles (Nat.le_refl _)
  have ha := leP_in f_ zn
  have HN : Hid (∀ x, x < zn → w.cell? ⟨gn, x, none⟩ = some (.int .i64 (naI f_ x))) := fun x hx => by
    have h_ := hnat.cellAt x (by omega)
    rw [List.getElem?_map, lstP_get _ hx] at h_
    exact h_
  obtain ⟨xs, hxs⟩ : ∃ xs, leP f_ zn = xs := ⟨_, rfl⟩
  obtain ⟨pl, hpl⟩ : ∃ pl : Int → Int, (fun y : Int => naI f_ y.toNat) = pl := ⟨_, rfl⟩
  have HPl := Lib.hid (fun y : Nat => show pl (y : Int) = naI f_ y by rw [← hpl]; show naI f_ (Int.toNat (y : Int)) = _; rw [Int.toNat_natCast])
  rw [hxs] at ha hxv ht0 hl8 ⊢
  rw [hpl, ht0]
  have hQl := hq.lt
  obtain ⟨F, hF⟩ : ∃ F : Nat → OpD, F = fun j => sfO pl (zn : Int) xs (fs.getD j (0, [])) := ⟨_, rfl⟩
  have HFk := Lib.hid (fun (k : Nat) (f : OpD) (hf : fs[k]? = some f) => show F k = sfO pl (zn : Int) xs f by rw [hF]; dsimp only; rw [List.getD_eq_getElem?_getD, hf]; rfl)
  have HFf := Lib.hid (fun (j : Nat) (hj : j < fs.length) => show F j = (fs.map (sfO pl (zn : Int) xs)).getD j (0, []) by
    have hf : fs[j]? = some (fs[j]'hj) := List.getElem?_eq_getElem hj
    rw [HFk.out j _ hf, List.getD_eq_getElem?_getD, List.getElem?_map, hf]; rfl)
  have hn4 : n ≤ 4 := by have := hv.1; omega
  have HV := Lib.hid hv
  have HX := Lib.hid hxv
  have HAl := Lib.hid hall
  have HA := Lib.hid ha
  have ht1 : 1 ≤ t := by omega
  have ht8 : t ≤ 8 := by omega
  obtain ⟨i0, hi0, hz0, hz1, hz2⟩ := info_parts Try.infoOp
  unfold NewAlgQ
  have hmf : ∀ (fn : Fn) (first cap : Array Value) (w : World), (Instr.makeFunc fn first cap).run Try.prog w = .ok (.func fn first cap) w := fun _ _ _ _ => rfl
  have hB := below_then (below_alloc w (.cells #[.pointer (some ⟨Q, 0, none⟩)] 73)) (below_alloc _ (.cells #[.int .i64 0, .slice none 0 0] 31))
  have HR0 : Hid (((w.alloc (.cells #[.pointer (some ⟨Q, 0, none⟩)] 73)).alloc (.cells #[.int .i64 0, .slice none 0 0] 31)).heap[w.heap.size + 1]? = some (.cells #[.int .i64 0, .slice none 0 0] 31 (0, 0))) := by
    have h := heap_alloc_new (w.alloc (.cells #[.pointer (some ⟨Q, 0, none⟩)] 73)) (.cells #[.int .i64 0, .slice none 0 0] 31)
    rw [World.size_alloc] at h
    exact h
  have c1 : ((w.alloc (.cells #[.pointer (some ⟨Q, 0, none⟩)] 73)).alloc (.cells #[.int .i64 0, .slice none 0 0] 31)).cell? ⟨w.heap.size, 0, none⟩ = some (.pointer (some ⟨Q, 0, none⟩)) := cell_b (below_alloc _ _) (by simp)
  have c2 := cell_b hB d0_
  have c2b := cell_b hB d1_
  have c3 := cell_b hB d10
  have c4 := cell_b hB d11
  obtain ⟨w1, hw1⟩ : ∃ w1, w1 = ((w.alloc (.cells #[.pointer (some ⟨Q, 0, none⟩)] 73)).alloc (.cells #[.int .i64 0, .slice none 0 0] 31)) := ⟨_, rfl⟩
  have hs1 : w1.heap.size = w.heap.size + 1 + 1 := by rw [hw1]; simp
  have HW1 := Lib.hid hw1
  have HB1 := Lib.hid hB
  have HC1 := Lib.hid c1
  have HC2 := Lib.hid c2
  have HC3 := Lib.hid c3
  have HC4 := Lib.hid c4
  rw [← hw1] at HB1 HR0 HC1 HC2 HC3 HC4
  have HS1 := Lib.hid hs1
  have hws : w.heap.size + 1 < w1.heap.size := by omega
  have HB2 := Lib.hid (below_alloc w1 (.cells #[.int .i64 (t : Int), .slice none 0 0] 31))
  have hO2 : Hid ((w1.alloc (.cells #[.int .i64 (t : Int), .slice none 0 0] 31)).heap[w1.heap.size]? = some (.cells #[.int .i64 (t : Int), .slice none 0 0] 31 (0, 0))) := heap_alloc_new _ _
  have e1_ := cell_b (below_alloc ((w.alloc (.cells #[.pointer (some ⟨Q, 0, none⟩)] 73)).alloc (.cells #[.int .i64 0, .slice none 0 0] 31)) (.cells #[.int .i64 (t : Int), .slice none 0 0] 31)) c1
  have e2_ := cell_b (below_alloc ((w.alloc (.cells #[.pointer (some ⟨Q, 0, none⟩)] 73)).alloc (.cells #[.int .i64 0, .slice none 0 0] 31)) (.cells #[.int .i64 (t : Int), .slice none 0 0] 31)) c2b
  clear hq hv hok hf_ hall hnat hzp hmem hl8 hles ht d0_ d1_ d10 d11 hxv ha hxs hpl ht0 hF hB hw1 hs1 hn4_ hy1 hy2
  go_enter Try.func75, Try.ntmps75
  go_wp2_with fail
  rw [show ((w.alloc (.cells #[.pointer (some ⟨Q, 0, none⟩)] 73)).alloc (.cells #[.int .i64 0, .slice none 0 0] 31)) = w1 from HW1.out.symm, ← HS1.out]
  clear e1_ e2_ c1 c2 c2b c3 c4
  go_loopw [5, 18] (fun s5 i wr => ∃ (k : Nat) (v : Value), k ≤ n ∧ i = .int .i64 (k : Int) ∧ Hid (Built wr (w1.heap.size + 1) v k F) ∧ Hid (wr.heap[w1.heap.size]? = some (.cells #[.int .i64 (t : Int), v] 31 (0, 0))) ∧ Hid (Below w1.heap.size w1 wr) ∧ w1.heap.size < wr.heap.size) (fun _ i _ => n - (intOf i).toNat)
  case atStart => exact ⟨0, _, Nat.zero_le _, rfl, Built.nil _ _ _, hO2, HB2, by simp⟩
  case round =>
    obtain ⟨k, v, hk, rfl, HBu, HO, HBr, hsr⟩ := hrel
    clear hO2
    by_cases hlt : k < n
    · obtain ⟨f, hf⟩ := get_of_lt HV.out.1 hlt
      obtain ⟨b2, o2, rfl, _, hb2, hc⟩ := HV.out.at_ (by omega)
      obtain ⟨ta, tm, tc, c0, c1, htm, htc, hvt⟩ := hc k _ hf
      have HBw := Lib.hid (HB1.out.trans (HBr.out.mono HB1.out.size))
      have e0 : wr.cell? ⟨b2, o2 + k * 2, none⟩ = some (.int .i64 f.1) := cell_b HBw.out c0
      have e1 : wr.cell? ⟨b2, o2 + k * 2 + 1, none⟩ = some (.slice ta tm tc) := cell_b HBw.out c1
      have hfo := HAl.out f (List.mem_of_getElem? hf)
      obtain ⟨r, hr, ht1_⟩ : ∃ r : Nat, f.1 = (r : Int) ∧ 1 ≤ f.2.length := by
        obtain ⟨_, r, _, h1, _, _, _, h3, _⟩ := op_nat2 (show (1 : Int) ≤ zn by omega) (by omega) hfo
        exact ⟨r, h1, h3⟩
      rw [hvt.1] at ht1_
      rw [hr] at e0
      obtain ⟨bt, ot, rfl, _, _, _⟩ := hvt.at_ (by omega)
      have hkn : (k : Int) < (n : Int) := by omega
      have hsz := HBr.out.size
      have HF : Hid (F k = ((r : Int), sfT pl (zn : Int) xs f (sbL xs f))) := by unfold Hid; rw [HFk.out k f hf, sfO, hr]
      have HLn : Hid (sbL xs f = (sfT pl (zn : Int) xs f (sbL xs f)).length) := by unfold Hid; rw [sfT_len]
      have hcp := fun (W : World) (hW1 : Below w1.heap.size w1 W) (hW : Below w.heap.size w W) => opF_any 119 #[.pointer (some ⟨w.heap.size, 0, none⟩)] pl lo hi (Q + 1) w.heap.size zn f bt ot tm tc gl 0 t cl r xs W (hvt.kept (Kept.of_below hW hhi)) (Nat.le_trans hhi hW.size) hr hfo hzn1 hzn8 (HX.out.kept (Kept.of_below hW (Nat.le_refl _))) hW.size ht1 ht8 HA.out
        (enters_of Try.func119 (by kernel_rfl) rfl)
        (fun V y hV hy => by
          obtain ⟨j_, hj_⟩ := List.mem_iff_getElem?.1 hy
          obtain ⟨y0, y1⟩ := allIn_get (opOkB_of hfo).2.2 hj_
          obtain ⟨yn, rfl⟩ : ∃ yn : Nat, y = (yn : Int) := ⟨y.toNat, by omega⟩
          have hV1 := hW1.trans (hV.mono hW1.size)
          rw [HPl.out]
          exact natC_any w.heap.size Q gn zn cn yn (naI f_ yn) V (cell_b hV1 HC1.out) (cell_b hV1 HC4.out) (by omega) hzn8 (cell_b (hW.trans (hV.mono hW.size)) (HN.out yn (by omega))))
      obtain ⟨T, hT⟩ : ∃ T, sfT pl (zn : Int) xs f (sbL xs f) = T := ⟨_, rfl⟩
      rw [hT] at HF HLn
      simp only [hT] at hcp
      obtain ⟨nq, hnq⟩ : ∃ nq, sbL xs f = nq := ⟨_, rfl⟩
      rw [hnq] at HLn
      simp only [hnq] at hcp
      have HCq := Lib.hid hcp
      obtain ⟨G, C, HTb, HRow⟩ := (HBu.out.below (below_alloc wr (.cells #[.int .i64 (r : Int), .slice (some ⟨bt, ot, none⟩) tm tc] 66)))
      obtain ⟨va, vc, hvv⟩ := own_form HRow
      have HT_ := Lib.hid HTb
      have HRow_ := Lib.hid HRow
      clear hc c0 c1 hf hvt hfo hcp hT hnq HTb HRow ht1_
      subst hvv
      go_wp2_with fail
      obtain ⟨fb, hfb⟩ : ∃ fb, fb = wr.heap.size := ⟨_, rfl⟩
      have HNfb : Hid (∀ b, (Value.slice va k vc).ownBlock = some b → b < fb) := fun b hb => by
        obtain ⟨_, _, _, hR0⟩ := HBu.out
        have h_ := (hR0.lt b hb).2
        omega
      have hfb1 : w1.heap.size < fb := by omega
      obtain ⟨wi, hwi⟩ : ∃ wi : World, wi = wr.alloc (.cells #[.int .i64 (r : Int), .slice (some ⟨bt, ot, none⟩) tm tc] 66) := ⟨_, rfl⟩
      have bwi : Below wr.heap.size wr wi := by rw [hwi]; exact below_alloc _ _
      have j0 : wi.cell? ⟨fb, 0, none⟩ = some (.int .i64 (r : Int)) := by rw [hwi, hfb]; simp
      have j1 : wi.cell? ⟨fb, 1, none⟩ = some (.slice (some ⟨bt, ot, none⟩) tm tc) := by rw [hwi, hfb]; simp
      have HO2 := Lib.hid ((bwi.block _ hsr).trans HO.out)
      have HBr2 := Lib.hid (HBr.out.trans (bwi.mono hsz))
      have hfbl : fb < wi.heap.size := by rw [hwi, hfb]; simp
      have hsr2 : w1.heap.size < wi.heap.size := by have := bwi.size; omega
      rw [← hfb]
      rw [← hwi] at HT_ HRow_ ⊢
      have hsz2 := HBr2.out.size
      clear hfb hwi bwi HO HBr HBw hsr e0 e1 HBu hsz
      obtain ⟨d0, d1, df⟩ := box_cells HO2.out
      have df1 := df 1
      have HCp := Lib.hid (fun (W : World) (hW : Below wi.heap.size wi W) => HCq.out W (HBr2.out.trans (hW.mono hsz2)) (HB1.out.trans ((HBr2.out.trans (hW.mono hsz2)).mono HB1.out.size)))
      clear d0 df HCq
      go_wp2_with fail
      have HKq : Hid (∀ W, Below wi.heap.size wi W → (fun W => W.cell? ⟨w.heap.size, 0, none⟩ = some (.pointer (some ⟨Q, 0, none⟩)) ∧ W.cell? ⟨Q, 0, none⟩ = some (.int .i64 (zn : Int)) ∧ W.cell? ⟨Q, 10, none⟩ = some (.slice (some ⟨gl, 0, none⟩) t cl) ∧ W.cell? ⟨fb, 0, none⟩ = some (.int .i64 (r : Int)) ∧ W.cell? ⟨fb, 1, none⟩ = some (.slice (some ⟨bt, ot, none⟩) tm tc)) W) := fun W hW => ⟨cell_b hW (cell_b HBr2.out HC1.out), cell_b hW (cell_b HBr2.out HC2.out), cell_b hW (cell_b HBr2.out HC3.out), cell_b hW j0, cell_b hW j1⟩
      refine wp_region_noPanic ?_
      refine wp_region_held_drew (S := fun W => W.cell? ⟨w.heap.size, 0, none⟩ = some (.pointer (some ⟨Q, 0, none⟩)) ∧ W.cell? ⟨Q, 0, none⟩ = some (.int .i64 (zn : Int)) ∧ W.cell? ⟨Q, 10, none⟩ = some (.slice (some ⟨gl, 0, none⟩) t cl) ∧ W.cell? ⟨fb, 0, none⟩ = some (.int .i64 (r : Int)) ∧ W.cell? ⟨fb, 1, none⟩ = some (.slice (some ⟨bt, ot, none⟩) tm tc)) (by kernel_rfl) ?_ (fun hHeld => ?_)
      · exact HKq.out _ (below_drew _)
      refine wpAnyH_take (i := 0) (oi := ⟨_, _, _, _, _, _⟩) (v := ?_) rfl (by kernel_rfl) (by kernel_rfl) (by kernel_rfl) (fun _ _ _ h => h) (Or.inl ⟨rfl, ?_⟩) (by assumption) ?_
      rotate_left 1
      · intro w_ hSw; (try dsimp only at hSw); go_simp; (try with_reducible rfl)
      (try simp only [Act.put, List.setIfInBounds_toArray, List.set_cons_zero, List.set_cons_succ])
      refine wpAnyH_take (i := 2) (oi := ⟨_, _, _, _, _, _⟩) (v := ?_) rfl (by kernel_rfl) (by kernel_rfl) (by kernel_rfl) (fun _ _ _ h => h) (Or.inl ⟨rfl, ?_⟩) (by assumption) ?_
      rotate_left 1
      · intro w_ hSw; (try dsimp only at hSw); go_simp; (try with_reducible rfl)
      (try simp only [Act.put, List.setIfInBounds_toArray, List.set_cons_zero, List.set_cons_succ])
      refine wpAnyH_take (i := 3) (oi := ⟨_, _, _, _, _, _⟩) (v := ?_) rfl (by kernel_rfl) (by kernel_rfl) (by kernel_rfl) (fun _ _ _ h => h) (Or.inl ⟨rfl, ?_⟩) (by assumption) ?_
      rotate_left 1
      · intro w_ hSw; (try dsimp only at hSw); go_simp; (try with_reducible rfl)
      (try simp only [Act.put, List.setIfInBounds_toArray, List.set_cons_zero, List.set_cons_succ])
      refine wpAnyH_take (i := 4) (oi := ⟨_, _, _, _, _, _⟩) (v := ?_) rfl (by kernel_rfl) (by kernel_rfl) (by kernel_rfl) (fun _ _ _ h => h) (Or.inl ⟨rfl, ?_⟩) (by assumption) ?_
      rotate_left 1
      · intro w_ hSw; (try dsimp only at hSw); go_simp; (try with_reducible rfl)
      (try simp only [Act.put, List.setIfInBounds_toArray, List.set_cons_zero, List.set_cons_succ])
      refine wpAnyH_take (i := 5) (oi := ⟨_, _, _, _, _, _⟩) (v := ?_) rfl (by kernel_rfl) (by kernel_rfl) (by kernel_rfl) (fun _ _ _ h => h) (Or.inl ⟨rfl, ?_⟩) (by assumption) ?_
      rotate_left 1
      · intro w_ hSw; (try dsimp only at hSw); go_simp; (try with_reducible rfl)
      (try simp only [Act.put, List.setIfInBounds_toArray, List.set_cons_zero, List.set_cons_succ])
      refine wpAnyH_take (i := 6) (oi := ⟨_, _, _, _, _, _⟩) (v := ?_) rfl (by kernel_rfl) (by kernel_rfl) (by kernel_rfl) (fun _ _ _ h => h) (Or.inl ⟨rfl, ?_⟩) (by assumption) ?_
      rotate_left 1
      · intro w_ hSw; (try dsimp only at hSw); go_simp; (try with_reducible rfl)
      (try simp only [Act.put, List.setIfInBounds_toArray, List.set_cons_zero, List.set_cons_succ])
      refine wpAnyH_take (i := 7) (oi := ⟨_, _, _, _, _, _⟩) (v := ?_) rfl (by kernel_rfl) (by kernel_rfl) (by kernel_rfl) (fun _ _ _ h => h) (Or.inl ⟨rfl, ?_⟩) (by assumption) ?_
      rotate_left 1
      · intro w_ hSw; (try dsimp only at hSw); go_simp; (try with_reducible rfl)
      (try simp only [Act.put, List.setIfInBounds_toArray, List.set_cons_zero, List.set_cons_succ])
      refine wpAnyH_take (i := 8) (oi := ⟨_, _, _, _, _, _⟩) (v := ?_) rfl (by kernel_rfl) (by kernel_rfl) (by kernel_rfl) (fun _ _ _ h => h) (Or.inl ⟨rfl, ?_⟩) (by assumption) ?_
      rotate_left 1
      · intro w_ hSw; (try dsimp only at hSw); go_simp; (try with_reducible rfl)
      (try simp only [Act.put, List.setIfInBounds_toArray, List.set_cons_zero, List.set_cons_succ])
      refine wpAnyH_take (i := 9) (oi := ⟨_, _, _, _, _, _⟩) (v := ?_) rfl (by kernel_rfl) (by kernel_rfl) (by kernel_rfl) (fun _ _ _ h => h) (Or.inl ⟨rfl, ?_⟩) (by assumption) ?_
      rotate_left 1
      · intro w_ hSw; (try dsimp only at hSw); go_simp; (try with_reducible rfl)
      (try simp only [Act.put, List.setIfInBounds_toArray, List.set_cons_zero, List.set_cons_succ])
      refine wpAnyH_take (i := 10) (oi := ⟨_, _, _, _, _, _⟩) (v := ?_) rfl (by kernel_rfl) (by kernel_rfl) (by kernel_rfl) (fun _ _ _ h => h) (Or.inl ⟨rfl, ?_⟩) (by assumption) ?_
      rotate_left 1
      · intro w_ hSw; (try dsimp only at hSw); go_simp; (try with_reducible rfl)
      (try simp only [Act.put, List.setIfInBounds_toArray, List.set_cons_zero, List.set_cons_succ])
      refine wpAnyH_take (i := 11) (oi := ⟨_, _, _, _, _, _⟩) (v := ?_) rfl (by kernel_rfl) (by kernel_rfl) (by kernel_rfl) (fun _ _ _ h => h) (Or.inl ⟨rfl, ?_⟩) (by assumption) ?_
      rotate_left 1
      · intro w_ hSw; (try dsimp only at hSw); go_simp; (try with_reducible rfl)
      (try simp only [Act.put, List.setIfInBounds_toArray, List.set_cons_zero, List.set_cons_succ])
      refine wpAnyH_take (i := 12) (oi := ⟨_, _, _, _, _, _⟩) (v := ?_) rfl (by kernel_rfl) (by kernel_rfl) (by kernel_rfl) (fun _ _ _ h => h) (Or.inl ⟨rfl, ?_⟩) (by assumption) ?_
      rotate_left 1
      · intro w_ hSw; (try dsimp only at hSw); go_simp; (try with_reducible rfl)
      (try simp only [Act.put, List.setIfInBounds_toArray, List.set_cons_zero, List.set_cons_succ])
      refine wpAnyH_ready (rs := [1, 13]) (by kernel_rfl) (by simp) ?_
      refine (AllReadyH.cons (o := ⟨_, _, _, _, _, _⟩) rfl (fun K hK => ?_) (AllReadyH.cons (o := ⟨_, _, _, _, _, _⟩) rfl (fun K hK => ?_) AllReadyH.nil))
      · go_simp
        refine hK.out _ _ ?_ (fun hHeld => ?_)
        · exact HKq.out _ (below_drew wi)
        clear hK K
        (try simp only [Act.put, List.setIfInBounds_toArray, List.set_cons_zero, List.set_cons_succ])
        refine wpAnyH_ready (rs := [13]) (by kernel_rfl) (by simp) ?_
        refine (AllReadyH.cons (o := ⟨_, _, _, _, _, _⟩) rfl (fun K hK => ?_) AllReadyH.nil)
        go_simp
        go_at_call 61
        refine (HCp.out _ (below_drew _)).mono ?_
        rintro e w3 ⟨g, dd, rfl, ho, b3⟩
        have B3 : Below wi.heap.size wi w3 := below_then (below_drew _) b3
        have d13 : w3.cell? ⟨w1.heap.size, 1, none⟩ = some (.slice va k vc) := cell_b B3 d1
        have z3 : wi.heap.size ≤ w3.heap.size := B3.size
        have HO3 := Lib.hid ho
        have HB3 := Lib.hid B3
        have HO3b : Hid (w3.heap[w1.heap.size]? = some (.cells #[.int .i64 (t : Int), .slice va k vc] 31 (0, 0))) := (B3.block _ hsr2).trans HO2.out
        clear ho b3 B3
        refine hK.out _ _ ?_ (fun hHeld => ?_)
        · exact HKq.out _ HB3.out
        clear hK K
        (try simp only [Act.put, List.setIfInBounds_toArray, List.set_cons_zero, List.set_cons_succ])
        refine wpAnyH_ready (rs := [14]) (by kernel_rfl) (by simp) ?_
        refine (AllReadyH.cons (o := ⟨_, _, _, _, _, _⟩) rfl (fun K hK => ?_) AllReadyH.nil)
        go_simp
        have HBB : Hid (Below wi.heap.size wi (w3.alloc (.cells #[.int .i64 (r : Int), .slice (some ⟨g, 0, none⟩) nq dd] 66))) := HB3.out.alloc z3 _
        have d1b : (w3.alloc (.cells #[.int .i64 (r : Int), .slice (some ⟨g, 0, none⟩) nq dd] 66)).cell? ⟨w1.heap.size, 1, none⟩ = some (.slice va k vc) := cell_b HBB.out d1
        refine hK.out _ _ ?_ (fun hHeld => ?_)
        · exact HKq.out _ HBB.out
        clear hK K
        (try simp only [Act.put, List.setIfInBounds_toArray, List.set_cons_zero, List.set_cons_succ])
        refine wpAnyH_ready (rs := [15]) (by kernel_rfl) (by simp) ?_
        refine (AllReadyH.cons (o := ⟨_, _, _, _, _, _⟩) rfl (fun K hK => ?_) AllReadyH.nil)
        refine step_append_lies _ rfl _ _ _ rfl (w1.heap.size + 1) 66 i0 _ 2 32 Try.underlying29 hi0 hz0 hz1 hz2 rfl (by decide) (.slice va k vc) k (flatN k G C F) rfl ((HRow_.out.kept (grown_of_below HB3.out none) (own_em _)).alloc _) ⟨w3.heap.size, 0, none⟩ 1 1 [.int .i64 (r : Int), .slice (some ⟨g, 0, none⟩) nq dd] rfl rfl (news_two _ _ _) (by simp [Value.oneCell']) (by decide) (by unfold maxLen; omega) (by omega) (by simp; omega) _ rfl ?_
        intro g4 cap4 w4 hown4 hgrow4 hat4 hlt4
        have HO4 : Hid (w4.heap[w1.heap.size]? = some (.cells #[.int .i64 (t : Int), .slice va k vc] 31 (0, 0))) := (hgrow4.block _ (by simp; omega) (fun e => by have h_ := (HRow_.out.lt w1.heap.size e.symm).1; omega)).trans ((Below.heap_alloc _ _ _ (by omega)).trans HO3b.out)
        have hfr4 : ∀ q, q < wi.heap.size → (Value.slice va k vc).ownBlock ≠ some q → w4.heap[q]? = wi.heap[q]? := fun q hq hn => by
          rw [hgrow4.block q (by simp; omega) (fun e => hn e.symm), Below.heap_alloc _ _ _ (by omega), HB3.out.block q (by omega)]
        have HB4 : Hid (Below w1.heap.size w1 w4) := by
          have h1 := HBr2.out.trans (HBB.out.mono hsz2)
          exact h1.grown hgrow4 h1.size (fun q hq => by have h_ := (HRow_.out.lt q hq).1; omega)
        have hS4 : (fun W => W.cell? ⟨w.heap.size, 0, none⟩ = some (.pointer (some ⟨Q, 0, none⟩)) ∧ W.cell? ⟨Q, 0, none⟩ = some (.int .i64 (zn : Int)) ∧ W.cell? ⟨Q, 10, none⟩ = some (.slice (some ⟨gl, 0, none⟩) t cl) ∧ W.cell? ⟨fb, 0, none⟩ = some (.int .i64 (r : Int)) ∧ W.cell? ⟨fb, 1, none⟩ = some (.slice (some ⟨bt, ot, none⟩) tm tc)) w4 := ⟨cell_b HB4.out HC1.out, cell_b HB4.out HC2.out, cell_b HB4.out HC3.out, (World.cell?_of_block (a := ⟨fb, 0, none⟩) (hfr4 fb hfbl (fun e => by have h_ := HNfb.out _ e; omega))).trans j0, (World.cell?_of_block (a := ⟨fb, 1, none⟩) (hfr4 fb hfbl (fun e => by have h_ := HNfb.out _ e; omega))).trans j1⟩
        have HS4 : Hid (∀ (u : Value), (fun W => W.cell? ⟨w.heap.size, 0, none⟩ = some (.pointer (some ⟨Q, 0, none⟩)) ∧ W.cell? ⟨Q, 0, none⟩ = some (.int .i64 (zn : Int)) ∧ W.cell? ⟨Q, 10, none⟩ = some (.slice (some ⟨gl, 0, none⟩) t cl) ∧ W.cell? ⟨fb, 0, none⟩ = some (.int .i64 (r : Int)) ∧ W.cell? ⟨fb, 1, none⟩ = some (.slice (some ⟨bt, ot, none⟩) tm tc)) (w4.setCell ⟨w1.heap.size, 1, none⟩ u)) := fun u => by
          have hB5 : Below w1.heap.size w1 (w4.setCell ⟨w1.heap.size, 1, none⟩ u) := HB4.out.setCell (by show w1.heap.size ≤ w1.heap.size; omega) _
          exact ⟨cell_b hB5 HC1.out, cell_b hB5 HC2.out, cell_b hB5 HC3.out, (World.cell?_setCell_other _ _ _ _ (fun e => (show w1.heap.size ≠ fb by omega) (congrArg Addr.block e))).trans hS4.2.2.2.1, (World.cell?_setCell_other _ _ _ _ (fun e => (show w1.heap.size ≠ fb by omega) (congrArg Addr.block e))).trans hS4.2.2.2.2⟩
        have HS4a := Lib.hid hS4
        have d14 := (box_cells HO4.out).2.1
        have f14 := (box_cells HO4.out).2.2 1
        have HOwn4 := Lib.hid hown4
        have HGrow4 := Lib.hid hgrow4
        clear hown4 hgrow4 hat4 hfr4 hS4
        refine hK.out _ _ ?_ (fun hHeld => ?_)
        · exact HS4a.out
        clear hK K
        (try simp only [Act.put, List.setIfInBounds_toArray, List.set_cons_zero, List.set_cons_succ])
        refine wpAnyH_take (i := 16) (oi := ⟨_, _, _, _, _, _⟩) (v := ?_) rfl (by kernel_rfl) (by kernel_rfl) (by kernel_rfl) (fun _ _ _ h => h) (Or.inl ⟨rfl, ?_⟩) (by assumption) ?_
        rotate_left 1
        · intro w_ hSw; (try dsimp only at hSw); go_simp; (try with_reducible rfl)
        (try simp only [Act.put, List.setIfInBounds_toArray, List.set_cons_zero, List.set_cons_succ])
        refine wpAnyH_ready (rs := [17]) (by kernel_rfl) (by simp) ?_
        refine (AllReadyH.cons (o := ⟨_, _, _, _, _, _⟩) rfl (fun K hK => ?_) AllReadyH.nil)
        go_simp
        refine hK.out _ _ ?_ (fun hHeld => ?_)
        · exact HS4.out _
        clear hK K
        (try simp only [Act.put, List.setIfInBounds_toArray, List.set_cons_zero, List.set_cons_succ])
        refine wpAnyH_done (by kernel_rfl) ?_ _
        refine NoPanic.normal ?_
        have HNew : Hid (Built (w4.setCell ⟨w1.heap.size, 1, none⟩ (.slice (some ⟨g4, 0, none⟩) (k + 1) cap4)) (w1.heap.size + 1) (.slice (some ⟨g4, 0, none⟩) (k + 1) cap4) (k + 1) F) :=
          (Built.push HT_.out HRow_.out HB3.out (by omega) HLn.out HO3.out HF.out HOwn4.out HGrow4.out).setFar (by show w1.heap.size < _; omega) _
        have HO5 := Lib.hid (box_set1 (v := .slice (some ⟨g4, 0, none⟩) (k + 1) cap4) HO4.out)
        have hz5 : w1.heap.size < w4.heap.size := by have := HGrow4.out.size; simp at this; omega
        have HB5 : Hid (Below w1.heap.size w1 (w4.setCell ⟨w1.heap.size, 1, none⟩ (.slice (some ⟨g4, 0, none⟩) (k + 1) cap4))) := HB4.out.setCell (by show w1.heap.size ≤ w1.heap.size; omega) _
        have hz6 : w1.heap.size < (w4.setCell ⟨w1.heap.size, 1, none⟩ (.slice (some ⟨g4, 0, none⟩) (k + 1) cap4)).heap.size := by simpa [World.setCell] using hz5
        obtain ⟨w5, hw5⟩ : ∃ w5, w5 = (w4.setCell ⟨w1.heap.size, 1, none⟩ (.slice (some ⟨g4, 0, none⟩) (k + 1) cap4)) := ⟨_, rfl⟩
        rw [← hw5] at HNew HO5 HB5 hz6 ⊢
        clear hw5 d14 f14 d13 d1 df1 j0 j1
        go_wp2_with fail
        go_roundw
        case rel => exact ⟨k + 1, _, by omega, by go_num, HNew, HO5, HB5, hz6⟩
        case measure => simp [intOf]; omega
      · go_simp
        go_at_call 61
        refine (HCp.out _ (below_drew _)).mono ?_
        rintro e w3 ⟨g, dd, rfl, ho, b3⟩
        have B3 : Below wi.heap.size wi w3 := below_then (below_drew _) b3
        have d13 : w3.cell? ⟨w1.heap.size, 1, none⟩ = some (.slice va k vc) := cell_b B3 d1
        have z3 : wi.heap.size ≤ w3.heap.size := B3.size
        have HO3 := Lib.hid ho
        have HB3 := Lib.hid B3
        have HO3b : Hid (w3.heap[w1.heap.size]? = some (.cells #[.int .i64 (t : Int), .slice va k vc] 31 (0, 0))) := (B3.block _ hsr2).trans HO2.out
        clear ho b3 B3
        refine hK.out _ _ ?_ (fun hHeld => ?_)
        · exact HKq.out _ HB3.out
        clear hK K
        (try simp only [Act.put, List.setIfInBounds_toArray, List.set_cons_zero, List.set_cons_succ])
        refine wpAnyH_ready (rs := [1, 14]) (by kernel_rfl) (by simp) ?_
        refine (AllReadyH.cons (o := ⟨_, _, _, _, _, _⟩) rfl (fun K hK => ?_) (AllReadyH.cons (o := ⟨_, _, _, _, _, _⟩) rfl (fun K hK => ?_) AllReadyH.nil))
        · go_simp
          refine hK.out _ _ ?_ (fun hHeld => ?_)
          · exact HKq.out _ HB3.out
          clear hK K
          (try simp only [Act.put, List.setIfInBounds_toArray, List.set_cons_zero, List.set_cons_succ])
          refine wpAnyH_ready (rs := [14]) (by kernel_rfl) (by simp) ?_
          refine (AllReadyH.cons (o := ⟨_, _, _, _, _, _⟩) rfl (fun K hK => ?_) AllReadyH.nil)
          go_simp
          have HBB : Hid (Below wi.heap.size wi (w3.alloc (.cells #[.int .i64 (r : Int), .slice (some ⟨g, 0, none⟩) nq dd] 66))) := HB3.out.alloc z3 _
          have d1b : (w3.alloc (.cells #[.int .i64 (r : Int), .slice (some ⟨g, 0, none⟩) nq dd] 66)).cell? ⟨w1.heap.size, 1, none⟩ = some (.slice va k vc) := cell_b HBB.out d1
          refine hK.out _ _ ?_ (fun hHeld => ?_)
          · exact HKq.out _ HBB.out
          clear hK K
          (try simp only [Act.put, List.setIfInBounds_toArray, List.set_cons_zero, List.set_cons_succ])
          refine wpAnyH_ready (rs := [15]) (by kernel_rfl) (by simp) ?_
          refine (AllReadyH.cons (o := ⟨_, _, _, _, _, _⟩) rfl (fun K hK => ?_) AllReadyH.nil)
          refine step_append_lies _ rfl _ _ _ rfl (w1.heap.size + 1) 66 i0 _ 2 32 Try.underlying29 hi0 hz0 hz1 hz2 rfl (by decide) (.slice va k vc) k (flatN k G C F) rfl ((HRow_.out.kept (grown_of_below HB3.out none) (own_em _)).alloc _) ⟨w3.heap.size, 0, none⟩ 1 1 [.int .i64 (r : Int), .slice (some ⟨g, 0, none⟩) nq dd] rfl rfl (news_two _ _ _) (by simp [Value.oneCell']) (by decide) (by unfold maxLen; omega) (by omega) (by simp; omega) _ rfl ?_
          intro g4 cap4 w4 hown4 hgrow4 hat4 hlt4
          have HO4 : Hid (w4.heap[w1.heap.size]? = some (.cells #[.int .i64 (t : Int), .slice va k vc] 31 (0, 0))) := (hgrow4.block _ (by simp; omega) (fun e => by have h_ := (HRow_.out.lt w1.heap.size e.symm).1; omega)).trans ((Below.heap_alloc _ _ _ (by omega)).trans HO3b.out)
          have hfr4 : ∀ q, q < wi.heap.size → (Value.slice va k vc).ownBlock ≠ some q → w4.heap[q]? = wi.heap[q]? := fun q hq hn => by
            rw [hgrow4.block q (by simp; omega) (fun e => hn e.symm), Below.heap_alloc _ _ _ (by omega), HB3.out.block q (by omega)]
          have HB4 : Hid (Below w1.heap.size w1 w4) := by
            have h1 := HBr2.out.trans (HBB.out.mono hsz2)
            exact h1.grown hgrow4 h1.size (fun q hq => by have h_ := (HRow_.out.lt q hq).1; omega)
          have hS4 : (fun W => W.cell? ⟨w.heap.size, 0, none⟩ = some (.pointer (some ⟨Q, 0, none⟩)) ∧ W.cell? ⟨Q, 0, none⟩ = some (.int .i64 (zn : Int)) ∧ W.cell? ⟨Q, 10, none⟩ = some (.slice (some ⟨gl, 0, none⟩) t cl) ∧ W.cell? ⟨fb, 0, none⟩ = some (.int .i64 (r : Int)) ∧ W.cell? ⟨fb, 1, none⟩ = some (.slice (some ⟨bt, ot, none⟩) tm tc)) w4 := ⟨cell_b HB4.out HC1.out, cell_b HB4.out HC2.out, cell_b HB4.out HC3.out, (World.cell?_of_block (a := ⟨fb, 0, none⟩) (hfr4 fb hfbl (fun e => by have h_ := HNfb.out _ e; omega))).trans j0, (World.cell?_of_block (a := ⟨fb, 1, none⟩) (hfr4 fb hfbl (fun e => by have h_ := HNfb.out _ e; omega))).trans j1⟩
          have HS4 : Hid (∀ (u : Value), (fun W => W.cell? ⟨w.heap.size, 0, none⟩ = some (.pointer (some ⟨Q, 0, none⟩)) ∧ W.cell? ⟨Q, 0, none⟩ = some (.int .i64 (zn : Int)) ∧ W.cell? ⟨Q, 10, none⟩ = some (.slice (some ⟨gl, 0, none⟩) t cl) ∧ W.cell? ⟨fb, 0, none⟩ = some (.int .i64 (r : Int)) ∧ W.cell? ⟨fb, 1, none⟩ = some (.slice (some ⟨bt, ot, none⟩) tm tc)) (w4.setCell ⟨w1.heap.size, 1, none⟩ u)) := fun u => by
            have hB5 : Below w1.heap.size w1 (w4.setCell ⟨w1.heap.size, 1, none⟩ u) := HB4.out.setCell (by show w1.heap.size ≤ w1.heap.size; omega) _
            exact ⟨cell_b hB5 HC1.out, cell_b hB5 HC2.out, cell_b hB5 HC3.out, (World.cell?_setCell_other _ _ _ _ (fun e => (show w1.heap.size ≠ fb by omega) (congrArg Addr.block e))).trans hS4.2.2.2.1, (World.cell?_setCell_other _ _ _ _ (fun e => (show w1.heap.size ≠ fb by omega) (congrArg Addr.block e))).trans hS4.2.2.2.2⟩
          have HS4a := Lib.hid hS4
          have d14 := (box_cells HO4.out).2.1
          have f14 := (box_cells HO4.out).2.2 1
          have HOwn4 := Lib.hid hown4
          have HGrow4 := Lib.hid hgrow4
          clear hown4 hgrow4 hat4 hfr4 hS4
          refine hK.out _ _ ?_ (fun hHeld => ?_)
          · exact HS4a.out
          clear hK K
          (try simp only [Act.put, List.setIfInBounds_toArray, List.set_cons_zero, List.set_cons_succ])
          refine wpAnyH_take (i := 16) (oi := ⟨_, _, _, _, _, _⟩) (v := ?_) rfl (by kernel_rfl) (by kernel_rfl) (by kernel_rfl) (fun _ _ _ h => h) (Or.inl ⟨rfl, ?_⟩) (by assumption) ?_
          rotate_left 1
          · intro w_ hSw; (try dsimp only at hSw); go_simp; (try with_reducible rfl)
          (try simp only [Act.put, List.setIfInBounds_toArray, List.set_cons_zero, List.set_cons_succ])
          refine wpAnyH_ready (rs := [17]) (by kernel_rfl) (by simp) ?_
          refine (AllReadyH.cons (o := ⟨_, _, _, _, _, _⟩) rfl (fun K hK => ?_) AllReadyH.nil)
          go_simp
          refine hK.out _ _ ?_ (fun hHeld => ?_)
          · exact HS4.out _
          clear hK K
          (try simp only [Act.put, List.setIfInBounds_toArray, List.set_cons_zero, List.set_cons_succ])
          refine wpAnyH_done (by kernel_rfl) ?_ _
          refine NoPanic.normal ?_
          have HNew : Hid (Built (w4.setCell ⟨w1.heap.size, 1, none⟩ (.slice (some ⟨g4, 0, none⟩) (k + 1) cap4)) (w1.heap.size + 1) (.slice (some ⟨g4, 0, none⟩) (k + 1) cap4) (k + 1) F) :=
            (Built.push HT_.out HRow_.out HB3.out (by omega) HLn.out HO3.out HF.out HOwn4.out HGrow4.out).setFar (by show w1.heap.size < _; omega) _
          have HO5 := Lib.hid (box_set1 (v := .slice (some ⟨g4, 0, none⟩) (k + 1) cap4) HO4.out)
          have hz5 : w1.heap.size < w4.heap.size := by have := HGrow4.out.size; simp at this; omega
          have HB5 : Hid (Below w1.heap.size w1 (w4.setCell ⟨w1.heap.size, 1, none⟩ (.slice (some ⟨g4, 0, none⟩) (k + 1) cap4))) := HB4.out.setCell (by show w1.heap.size ≤ w1.heap.size; omega) _
          have hz6 : w1.heap.size < (w4.setCell ⟨w1.heap.size, 1, none⟩ (.slice (some ⟨g4, 0, none⟩) (k + 1) cap4)).heap.size := by simpa [World.setCell] using hz5
          obtain ⟨w5, hw5⟩ : ∃ w5, w5 = (w4.setCell ⟨w1.heap.size, 1, none⟩ (.slice (some ⟨g4, 0, none⟩) (k + 1) cap4)) := ⟨_, rfl⟩
          rw [← hw5] at HNew HO5 HB5 hz6 ⊢
          clear hw5 d14 f14 d13 d1 df1 j0 j1
          go_wp2_with fail
          go_roundw
          case rel => exact ⟨k + 1, _, by omega, by go_num, HNew, HO5, HB5, hz6⟩
          case measure => simp [intOf]; omega
        · go_simp
          have HBB : Hid (Below wi.heap.size wi (w3.alloc (.cells #[.int .i64 (r : Int), .slice (some ⟨g, 0, none⟩) nq dd] 66))) := HB3.out.alloc z3 _
          have d1b : (w3.alloc (.cells #[.int .i64 (r : Int), .slice (some ⟨g, 0, none⟩) nq dd] 66)).cell? ⟨w1.heap.size, 1, none⟩ = some (.slice va k vc) := cell_b HBB.out d1
          refine hK.out _ _ ?_ (fun hHeld => ?_)
          · exact HKq.out _ HBB.out
          clear hK K
          (try simp only [Act.put, List.setIfInBounds_toArray, List.set_cons_zero, List.set_cons_succ])
          refine wpAnyH_ready (rs := [1]) (by kernel_rfl) (by simp) ?_
          refine (AllReadyH.cons (o := ⟨_, _, _, _, _, _⟩) rfl (fun K hK => ?_) AllReadyH.nil)
          go_simp
          refine hK.out _ _ ?_ (fun hHeld => ?_)
          · exact HKq.out _ HBB.out
          clear hK K
          (try simp only [Act.put, List.setIfInBounds_toArray, List.set_cons_zero, List.set_cons_succ])
          refine wpAnyH_ready (rs := [15]) (by kernel_rfl) (by simp) ?_
          refine (AllReadyH.cons (o := ⟨_, _, _, _, _, _⟩) rfl (fun K hK => ?_) AllReadyH.nil)
          refine step_append_lies _ rfl _ _ _ rfl (w1.heap.size + 1) 66 i0 _ 2 32 Try.underlying29 hi0 hz0 hz1 hz2 rfl (by decide) (.slice va k vc) k (flatN k G C F) rfl ((HRow_.out.kept (grown_of_below HB3.out none) (own_em _)).alloc _) ⟨w3.heap.size, 0, none⟩ 1 1 [.int .i64 (r : Int), .slice (some ⟨g, 0, none⟩) nq dd] rfl rfl (news_two _ _ _) (by simp [Value.oneCell']) (by decide) (by unfold maxLen; omega) (by omega) (by simp; omega) _ rfl ?_
          intro g4 cap4 w4 hown4 hgrow4 hat4 hlt4
          have HO4 : Hid (w4.heap[w1.heap.size]? = some (.cells #[.int .i64 (t : Int), .slice va k vc] 31 (0, 0))) := (hgrow4.block _ (by simp; omega) (fun e => by have h_ := (HRow_.out.lt w1.heap.size e.symm).1; omega)).trans ((Below.heap_alloc _ _ _ (by omega)).trans HO3b.out)
          have hfr4 : ∀ q, q < wi.heap.size → (Value.slice va k vc).ownBlock ≠ some q → w4.heap[q]? = wi.heap[q]? := fun q hq hn => by
            rw [hgrow4.block q (by simp; omega) (fun e => hn e.symm), Below.heap_alloc _ _ _ (by omega), HB3.out.block q (by omega)]
          have HB4 : Hid (Below w1.heap.size w1 w4) := by
            have h1 := HBr2.out.trans (HBB.out.mono hsz2)
            exact h1.grown hgrow4 h1.size (fun q hq => by have h_ := (HRow_.out.lt q hq).1; omega)
          have hS4 : (fun W => W.cell? ⟨w.heap.size, 0, none⟩ = some (.pointer (some ⟨Q, 0, none⟩)) ∧ W.cell? ⟨Q, 0, none⟩ = some (.int .i64 (zn : Int)) ∧ W.cell? ⟨Q, 10, none⟩ = some (.slice (some ⟨gl, 0, none⟩) t cl) ∧ W.cell? ⟨fb, 0, none⟩ = some (.int .i64 (r : Int)) ∧ W.cell? ⟨fb, 1, none⟩ = some (.slice (some ⟨bt, ot, none⟩) tm tc)) w4 := ⟨cell_b HB4.out HC1.out, cell_b HB4.out HC2.out, cell_b HB4.out HC3.out, (World.cell?_of_block (a := ⟨fb, 0, none⟩) (hfr4 fb hfbl (fun e => by have h_ := HNfb.out _ e; omega))).trans j0, (World.cell?_of_block (a := ⟨fb, 1, none⟩) (hfr4 fb hfbl (fun e => by have h_ := HNfb.out _ e; omega))).trans j1⟩
          have HS4 : Hid (∀ (u : Value), (fun W => W.cell? ⟨w.heap.size, 0, none⟩ = some (.pointer (some ⟨Q, 0, none⟩)) ∧ W.cell? ⟨Q, 0, none⟩ = some (.int .i64 (zn : Int)) ∧ W.cell? ⟨Q, 10, none⟩ = some (.slice (some ⟨gl, 0, none⟩) t cl) ∧ W.cell? ⟨fb, 0, none⟩ = some (.int .i64 (r : Int)) ∧ W.cell? ⟨fb, 1, none⟩ = some (.slice (some ⟨bt, ot, none⟩) tm tc)) (w4.setCell ⟨w1.heap.size, 1, none⟩ u)) := fun u => by
            have hB5 : Below w1.heap.size w1 (w4.setCell ⟨w1.heap.size, 1, none⟩ u) := HB4.out.setCell (by show w1.heap.size ≤ w1.heap.size; omega) _
            exact ⟨cell_b hB5 HC1.out, cell_b hB5 HC2.out, cell_b hB5 HC3.out, (World.cell?_setCell_other _ _ _ _ (fun e => (show w1.heap.size ≠ fb by omega) (congrArg Addr.block e))).trans hS4.2.2.2.1, (World.cell?_setCell_other _ _ _ _ (fun e => (show w1.heap.size ≠ fb by omega) (congrArg Addr.block e))).trans hS4.2.2.2.2⟩
          have HS4a := Lib.hid hS4
          have d14 := (box_cells HO4.out).2.1
          have f14 := (box_cells HO4.out).2.2 1
          have HOwn4 := Lib.hid hown4
          have HGrow4 := Lib.hid hgrow4
          clear hown4 hgrow4 hat4 hfr4 hS4
          refine hK.out _ _ ?_ (fun hHeld => ?_)
          · exact HS4a.out
          clear hK K
          (try simp only [Act.put, List.setIfInBounds_toArray, List.set_cons_zero, List.set_cons_succ])
          refine wpAnyH_take (i := 16) (oi := ⟨_, _, _, _, _, _⟩) (v := ?_) rfl (by kernel_rfl) (by kernel_rfl) (by kernel_rfl) (fun _ _ _ h => h) (Or.inl ⟨rfl, ?_⟩) (by assumption) ?_
          rotate_left 1
          · intro w_ hSw; (try dsimp only at hSw); go_simp; (try with_reducible rfl)
          (try simp only [Act.put, List.setIfInBounds_toArray, List.set_cons_zero, List.set_cons_succ])
          refine wpAnyH_ready (rs := [17]) (by kernel_rfl) (by simp) ?_
          refine (AllReadyH.cons (o := ⟨_, _, _, _, _, _⟩) rfl (fun K hK => ?_) AllReadyH.nil)
          go_simp
          refine hK.out _ _ ?_ (fun hHeld => ?_)
          · exact HS4.out _
          clear hK K
          (try simp only [Act.put, List.setIfInBounds_toArray, List.set_cons_zero, List.set_cons_succ])
          refine wpAnyH_done (by kernel_rfl) ?_ _
          refine NoPanic.normal ?_
          have HNew : Hid (Built (w4.setCell ⟨w1.heap.size, 1, none⟩ (.slice (some ⟨g4, 0, none⟩) (k + 1) cap4)) (w1.heap.size + 1) (.slice (some ⟨g4, 0, none⟩) (k + 1) cap4) (k + 1) F) :=
            (Built.push HT_.out HRow_.out HB3.out (by omega) HLn.out HO3.out HF.out HOwn4.out HGrow4.out).setFar (by show w1.heap.size < _; omega) _
          have HO5 := Lib.hid (box_set1 (v := .slice (some ⟨g4, 0, none⟩) (k + 1) cap4) HO4.out)
          have hz5 : w1.heap.size < w4.heap.size := by have := HGrow4.out.size; simp at this; omega
          have HB5 : Hid (Below w1.heap.size w1 (w4.setCell ⟨w1.heap.size, 1, none⟩ (.slice (some ⟨g4, 0, none⟩) (k + 1) cap4))) := HB4.out.setCell (by show w1.heap.size ≤ w1.heap.size; omega) _
          have hz6 : w1.heap.size < (w4.setCell ⟨w1.heap.size, 1, none⟩ (.slice (some ⟨g4, 0, none⟩) (k + 1) cap4)).heap.size := by simpa [World.setCell] using hz5
          obtain ⟨w5, hw5⟩ : ∃ w5, w5 = (w4.setCell ⟨w1.heap.size, 1, none⟩ (.slice (some ⟨g4, 0, none⟩) (k + 1) cap4)) := ⟨_, rfl⟩
          rw [← hw5] at HNew HO5 HB5 hz6 ⊢
          clear hw5 d14 f14 d13 d1 df1 j0 j1
          go_wp2_with fail
          go_roundw
          case rel => exact ⟨k + 1, _, by omega, by go_num, HNew, HO5, HB5, hz6⟩
          case measure => simp [intOf]; omega
    · obtain rfl : k = n := by omega
      obtain ⟨_, hrow, _⟩ := HBu.out.row
      obtain ⟨va, vc, rfl⟩ := own_form hrow
      obtain ⟨d0, d1, _⟩ := box_cells HO.out
      obtain ⟨r0, r1, rf⟩ := box_cells ((HBr.out.block _ hws).trans HR0.out)
      obtain ⟨G, C, hops⟩ := HBu.out.ops (fs := fs.map (sfO pl (zn : Int) xs)) (fun j hj => (HFf.out j (by have := HV.out.1; omega)))
      have HOps := Lib.hid hops
      have HLen : Hid (k = (fs.map (sfO pl (zn : Int) xs)).length) := by unfold Hid; rw [List.length_map, HV.out.1]
      clear hrow hops
      go_wp2_with fail
      have hK : ∀ (v1 v2 : Value), Kept (w1.heap.size + 1) wr.heap.size wr ((wr.setCell ⟨w.heap.size + 1, 0, none⟩ v1).setCell ⟨w.heap.size + 1, 1, none⟩ v2) := by
        intro v1 v2 q h1 h2
        rw [Below.heap_setCell _ _ _ _ (by show q ≠ w.heap.size + 1; omega), Below.heap_setCell _ _ _ _ (by show q ≠ w.heap.size + 1; omega)]
      have hBw := HB1.out.trans (HBr.out.mono HB1.out.size)
      refine bodyPost_ret (v := .agg #[.int .i64 (t : Int), .slice va k vc]) (by simp [results, Try.results75, go_sem, r0, r1]) rfl ⟨va, k, vc, G, C, rfl, HLen.out, ((HOps.out.kept (hK _ _)).lo_mono (by omega)).hi_mono (by simp [World.setCell]), (hBw.setCell (by show w.heap.size ≤ w.heap.size + 1; omega) _).setCell (by show w.heap.size ≤ w.heap.size + 1; omega) _⟩
end

section
open Go.RowKit
set_option linter.unusedVariables false
set_option linter.unusedSimpArgs false

def qtF (z : Int) (xs : List Int) (f : OpD) : OpD := sfO (fun y => naI (extP xs) y.toNat) z (leP (extP xs) z.toNat) f
def valQuotientAlgebra (z : Int) (fs : List OpD) (xs : List Int) : Int × List OpD × Bool := if cngB z fs xs = true then (((leP (extP xs) z.toNat).length : Int), fs.map (qtF z xs), true) else (0, [], false)
theorem leP_pos {f : Nat → Int} {n : Nat} (hf : okAll f n = true) (hn : 1 ≤ n) : 1 ≤ (leP f n).length := by
  obtain ⟨⟨a0, a1⟩, a2⟩ := okAll_get hf (show 0 < n by omega)
  exact List.length_pos_of_mem (leP_mem.2 ⟨(f 0).toNat, by omega, by rw [a2]; omega, by omega⟩ : f 0 ∈ leP f n)
theorem cng_ok {z : Int} {fs : List OpD} {xs : List Int} (h : cngB z fs xs = true) : algOkB z fs = true ∧ 1 ≤ z ∧ z ≤ 8 ∧ okAll (extP xs) z.toNat = true := by
  obtain ⟨hok, hp, _⟩ := cngB_of h
  obtain ⟨⟨z1, z8⟩, _, _⟩ := algOkB_of hok
  obtain ⟨h1, h2⟩ := partB_of hp
  exact ⟨hok, z1, z8, okAll_ext (xs := xs) (by omega) (by rw [show z.toNat = xs.length by omega]; exact h2)⟩
theorem smallQuotientAlgebra (z : Int) (fs : List OpD) (xs : List Int) : (valQuotientAlgebra z fs xs).2.1.length + osum (valQuotientAlgebra z fs xs).2.1 ≤ 4194304 := by
  unfold valQuotientAlgebra
  split
  · rename_i h
    obtain ⟨h1, z1, z8, ho⟩ := cng_ok h
    obtain ⟨_, h7, h8⟩ := algOkB_of h1
    have h5 := leP_pos ho (by omega)
    have h6 := leP_len (extP xs) z.toNat
    have h4 : osum (fs.map (qtF z xs)) ≤ 512 * (fs.map (qtF z xs)).length := osum_le2 fun f hf => by
      obtain ⟨g, hg, rfl⟩ := List.mem_map.1 hf
      rw [qtF, sfO]
      dsimp only
      rw [sfT_len]
      exact (sbL_bd h5 (by omega) (h8 g hg)).2.2
    simp at h4 ⊢
    omega
  · simp [osum]

set_option maxHeartbeats 2000000 in
theorem implQuotientAlgebra (lo hi : Nat) (z : Int) (ao : Option Addr) (c n : Nat) (fs : List OpD) (lo2 hi2 : Nat) (bo : Option Addr) (d m : Nat) (xs : List Int) (w : World) (hv : OView w lo hi ao n fs) (hhi : hi ≤ w.heap.size) (hs : ∀ (j : Nat) (f : OpD), fs[j]? = some f → f.2.length ≤ maxLen)
    (hx : IView w lo2 hi2 bo m xs) (hhi2 : hi2 ≤ w.heap.size) (hm : m ≤ maxLen) :
    Calls Try.prog 35 #[.agg #[.int .i64 z, .slice ao n c], .slice bo m d] w fun e w' => ResA w w' (valQuotientAlgebra z fs xs).1 (valQuotientAlgebra z fs xs).2.1 (valQuotientAlgebra z fs xs).2.2 e := by
  have hB := below_then (below_alloc w (.cells #[.int .i64 z, .slice ao n c] 31)) (below_alloc _ (.cells #[.int .i64 0, .slice none 0 0] 31))
  have HB := Lib.hid hB
  have HR0 : Hid (((w.alloc (.cells #[.int .i64 z, .slice ao n c] 31)).alloc (.cells #[.int .i64 0, .slice none 0 0] 31)).heap[w.heap.size + 1]? = some (.cells #[.int .i64 0, .slice none 0 0] 31 (0, 0))) := by
    have h := heap_alloc_new (w.alloc (.cells #[.int .i64 z, .slice ao n c] 31)) (.cells #[.int .i64 0, .slice none 0 0] 31)
    rw [World.size_alloc] at h
    exact h
  have HC := Lib.hid (quotOf_any lo hi z ao c n fs lo2 hi2 bo d m xs _ (hv.kept (Kept.of_below hB hhi)) (Nat.le_trans hhi hB.size) hs (hx.kept (Kept.of_below hB hhi2)) (Nat.le_trans hhi2 hB.size) hm)
  unfold ResQ at HC
  unfold ResA valQuotientAlgebra
  cases hb : cngB z fs xs with
  | false =>
    simp only [hb, Bool.false_eq_true, if_false] at HC
    rw [if_neg (by simp)]
    clear hv hx hs hm hB hb
    go_enter Try.func35, Try.ntmps35
    go_wp2_with fail
    refine HC.out.mono ?_
    rintro e w1 ⟨b1, rfl⟩
    have HB1 := Lib.hid (HB.out.trans (b1.mono HB.out.size))
    obtain ⟨r0, r1, rf⟩ := box_cells ((b1.block _ (by simp)).trans HR0.out)
    clear b1
    go_wp2_with fail
    exact bodyPost_ret (v := .tuple #[.agg #[.int .i64 0, .slice none 0 0], .bool false]) (by simp [results, Try.results35, go_sem, r0, r1]) rfl ⟨none, 0, 0, fun _ => 0, fun _ => 0, rfl, rfl, OwnsOps.nil _ _ _ _ _ _, (HB1.out.setCell (by show w.heap.size ≤ w.heap.size + 1; omega) _).setCell (by show w.heap.size ≤ w.heap.size + 1; omega) _⟩
  | true =>
    simp only [hb, if_true] at HC
    rw [if_pos rfl]
    obtain ⟨hok, z1, z8, ho⟩ := cng_ok hb
    obtain ⟨zn, rfl⟩ : ∃ zn : Nat, z = (zn : Int) := ⟨z.toNat, by omega⟩
    unfold qtF
    simp only [Int.toNat_natCast] at HC ho ⊢
    have HQ := Lib.hid (fun (A Q : Nat) (va vb : Value) (W : World) (hW : Below w.heap.size w W) (hq : QtS W A Q (zn : Int) ao n c (extP xs) zn zn va vb) => qalg_any A Q zn ao n c (extP xs) va vb lo hi fs W hq (hv.kept (Kept.of_below hW hhi)) (Nat.le_trans hhi hW.size) hok ho)
    obtain ⟨t, ht⟩ : ∃ t, (leP (extP xs) zn).length = t := ⟨_, rfl⟩
    obtain ⟨gs, hgs⟩ : ∃ gs, fs.map (fun f => sfO (fun y => naI (extP xs) y.toNat) (zn : Int) (leP (extP xs) zn) f) = gs := ⟨_, rfl⟩
    have hgs2 : fs.map (sfO (fun y => naI (extP xs) y.toNat) (zn : Int) (leP (extP xs) zn)) = gs := hgs
    rw [hgs2, ht] at HQ
    rw [ht]
    rw [show fs.map (fun f => sfO (fun y => naI (extP xs) y.toNat) (zn : Int) (leP (extP xs) zn) f) = gs from hgs]
    unfold NewAlgQ at HQ
    clear hv hx hs hm hB hb hok z1 z8 ho ht hgs hgs2
    go_enter Try.func35, Try.ntmps35
    go_wp2_with fail
    refine HC.out.mono ?_
    rintro e w1 ⟨b1, A, Q, va, vb, rfl, hA, hQ, hq⟩
    have HB1 := Lib.hid (HB.out.trans (b1.mono HB.out.size))
    have HR1 := Lib.hid ((b1.block _ (by simp)).trans HR0.out)
    have hs1 : w.heap.size + 1 < w1.heap.size := by have := b1.size; simp at this; omega
    have HQt := Lib.hid hq
    clear b1 hq
    go_wp2_with fail
    refine (HQ.out A Q va vb _ HB1.out HQt.out).mono ?_
    rintro e w2 ⟨a, k, cc, G, C, rfl, hk, hops, b2⟩
    have HB2 := Lib.hid (HB1.out.trans (b2.mono HB1.out.size))
    obtain ⟨r0, r1, rf⟩ := box_cells ((b2.block _ hs1).trans HR1.out)
    have HK := Lib.hid hk
    have HOps := Lib.hid hops
    clear b2 hk hops
    go_wp2_with fail
    have hK : ∀ (v1 v2 : Value), Kept w1.heap.size w2.heap.size w2 ((w2.setCell ⟨w.heap.size + 1, 0, none⟩ v1).setCell ⟨w.heap.size + 1, 1, none⟩ v2) := by
      intro v1 v2 q h1 h2
      rw [Below.heap_setCell _ _ _ _ (by show q ≠ w.heap.size + 1; omega), Below.heap_setCell _ _ _ _ (by show q ≠ w.heap.size + 1; omega)]
    exact bodyPost_ret (v := .tuple #[.agg #[.int .i64 (t : Int), .slice a k cc], .bool true]) (by simp [results, Try.results35, go_sem, r0, r1]) rfl ⟨a, k, cc, G, C, rfl, HK.out, ((HOps.out.kept (hK _ _)).lo_mono HB1.out.size).hi_mono (by simp [World.setCell]), (HB2.out.setCell (by show w.heap.size ≤ w.heap.size + 1; omega) _).setCell (by show w.heap.size ≤ w.heap.size + 1; omega) _⟩
end

section
open Go.RowKit
set_option linter.unusedVariables false
set_option linter.unusedSimpArgs false

set_option maxRecDepth 100000 in
set_option maxHeartbeats 8000000 in
theorem l9Quot_any (lo hi zn : Nat) (ao : Option Addr) (c n : Nat) (fs : List OpD) (lo2 hi2 : Nat) (po : Option Addr) (pd : Nat) (ps : List Int) (f_ : Nat → Int) (w : World) (hv : OView w lo hi ao n fs) (hhi_ : hi ≤ w.heap.size) (hok : algOkB (zn : Int) fs = true)
    (hp : IView w lo2 hi2 po zn ps) (hhi2_ : hi2 ≤ w.heap.size) (ho : okAll (gI ps) zn = true) (hfe : ∀ y, y < zn → f_ y = gI ps y) :
    Calls Try.prog 74 #[.agg #[.int .i64 (zn : Int), .slice ao n c], .slice po zn pd] w fun e w' => NewAlgQ w w' ((leP f_ zn).length : Int) (fs.map (sfO (fun y => naI f_ y.toNat) (zn : Int) (leP f_ zn))) e := by
  obtain ⟨⟨hw1, hw2⟩, hn4_, hall⟩ := algOkB_of hok
  have hzn1 : 1 ≤ zn := by omega
  have hzn8 : zn ≤ 8 := by omega
  have hB := below_then (below_alloc w (.cells #[.int .i64 (zn : Int), .slice ao n c] 31)) (below_alloc _ (.cells #[.int .i64 0, .slice none 0 0] 31))
  have HB := Lib.hid hB
  have HR0 : Hid (((w.alloc (.cells #[.int .i64 (zn : Int), .slice ao n c] 31)).alloc (.cells #[.int .i64 0, .slice none 0 0] 31)).heap[w.heap.size + 1]? = some (.cells #[.int .i64 0, .slice none 0 0] 31 (0, 0))) := by
    have h := heap_alloc_new (w.alloc (.cells #[.int .i64 (zn : Int), .slice ao n c] 31)) (.cells #[.int .i64 0, .slice none 0 0] 31)
    rw [World.size_alloc] at h
    exact h
  have HZ0 : Hid (((w.alloc (.cells #[.int .i64 (zn : Int), .slice ao n c] 31)).alloc (.cells #[.int .i64 0, .slice none 0 0] 31)).cell? ⟨w.heap.size, 0, none⟩ = some (.int .i64 (zn : Int))) := cell_b (below_alloc _ _) (by simp)
  have HA0 : Hid (((w.alloc (.cells #[.int .i64 (zn : Int), .slice ao n c] 31)).alloc (.cells #[.int .i64 0, .slice none 0 0] 31)).cell? ⟨w.heap.size, 1, none⟩ = some (.slice ao n c)) := cell_b (below_alloc _ _) (by simp)
  have hle := fun (W : World) (hW : Below w.heap.size w W) => l9Least_any lo2 hi2 po pd zn ps W (hp.kept (Kept.of_below hW hhi2_)) (Nat.le_trans hhi2_ hW.size) hzn1 hzn8
  have HMa := Lib.hid (fun (W : World) (hW : Below w.heap.size w W) => l9Map_any lo2 hi2 po pd zn ps W (hp.kept (Kept.of_below hW hhi2_)) (Nat.le_trans hhi2_ hW.size) hzn1 hzn8 ho)
  have hle2 : leP (gI ps) zn = leP f_ zn := leP_congr fun x hx => (hfe x hx).symm
  rw [hle2] at hle
  have hna : ∀ x, x < zn → naI (gI ps) x = naI f_ x := fun x hx => naI_congr fun y hy => (hfe y (by omega)).symm
  have HNa := Lib.hid hna
  have hm1 : 1 ≤ (leP f_ zn).length := by rw [← hle2]; exact leP_pos ho hzn1
  have hm8 : (leP f_ zn).length ≤ 8 := by have := leP_len f_ zn; omega
  have ha := leP_in f_ zn
  have HLe := Lib.hid hle
  unfold NewInts at HLe HMa
  obtain ⟨xs, hxs⟩ : ∃ xs, leP f_ zn = xs := ⟨_, rfl⟩
  obtain ⟨pl, hpl⟩ : ∃ pl : Int → Int, (fun y : Int => naI f_ y.toNat) = pl := ⟨_, rfl⟩
  have HPl := Lib.hid (fun y : Nat => show pl (y : Int) = naI f_ y by rw [← hpl]; show naI f_ (Int.toNat (y : Int)) = _; rw [Int.toNat_natCast])
  rw [hxs] at HLe hm1 hm8 ha ⊢
  rw [hpl]
  obtain ⟨m, hm⟩ : ∃ m, xs.length = m := ⟨_, rfl⟩
  rw [hm] at HLe hm1 hm8 ⊢
  have HXl := Lib.hid hm
  have hn4 : n ≤ 4 := by have := hv.1; omega
  obtain ⟨F, hF⟩ : ∃ F : Nat → OpD, F = fun j => sfO pl (zn : Int) xs (fs.getD j (0, [])) := ⟨_, rfl⟩
  have HFk := Lib.hid (fun (k : Nat) (f : OpD) (hf : fs[k]? = some f) => show F k = sfO pl (zn : Int) xs f by rw [hF]; dsimp only; rw [List.getD_eq_getElem?_getD, hf]; rfl)
  have HFf := Lib.hid (fun (j : Nat) (hj : j < fs.length) => show F j = (fs.map (sfO pl (zn : Int) xs)).getD j (0, []) by
    have hf : fs[j]? = some (fs[j]'hj) := List.getElem?_eq_getElem hj
    rw [HFk.out j _ hf, List.getD_eq_getElem?_getD, List.getElem?_map, hf]; rfl)
  have HVw := Lib.hid hv
  have HOk := Lib.hid hok
  have HAl := Lib.hid hall
  have HA := Lib.hid ha
  obtain ⟨i0, hi0, hz0, hz1, hz2⟩ := info_parts Try.infoOp
  obtain ⟨j0, hj0, hy0, hy1, hy2_⟩ := info_parts Try.infoInt
  unfold NewAlgQ
  clear hv hp hok hall ha hB hF hm hxs hpl hle hle2 hna hn4_ hw1 hw2 ho hfe hhi2_
  go_enter Try.func74, Try.ntmps74
  go_wp2_with fail
  refine (HLe.out _ HB.out).mono ?_
  rintro e wA ⟨gl, cl, rfl, hol, bA⟩
  have HBA := Lib.hid (HB.out.trans (bA.mono HB.out.size))
  have HOl := Lib.hid hol
  have HbA := Lib.hid bA
  clear hol bA
  go_wp2_with fail
  refine (HMa.out _ HBA.out).mono ?_
  rintro e w1 ⟨gn, cn, rfl, hon, b1⟩
  have HB1 := Lib.hid (HBA.out.trans (b1.mono HBA.out.size))
  have bb := HbA.out.trans (b1.mono HbA.out.size)
  have hs1 : w.heap.size + 1 < w1.heap.size := by have := bb.size; simp at this; omega
  have HR1 := Lib.hid ((bb.block _ (by simp)).trans HR0.out)
  have HZ1 := Lib.hid (cell_b bb HZ0.out)
  have HA1 := Lib.hid (cell_b bb HA0.out)
  have HX := Lib.hid (IView.of_owns (HOl.out.kept (grown_of_below b1 none) (own_em _)) (Nat.le_refl _))
  have HN : Hid (∀ x, x < zn → w1.cell? ⟨gn, x, none⟩ = some (.int .i64 (naI f_ x))) := fun x hx => by
    have h_ := hon.cellAt x (by omega)
    rw [List.getElem?_map, lstP_get _ hx, HNa.out x hx] at h_
    exact h_
  have HV : Hid (OView w1 lo hi ao n fs) := HVw.out.kept (Kept.of_below HB1.out hhi_)
  have hhi : hi ≤ w1.heap.size := Nat.le_trans hhi_ HB1.out.size
  have HB2 := Lib.hid (below_alloc w1 (.cells #[.int .i64 (m : Int), .slice none 0 0] 31))
  have hR2 : Hid ((w1.alloc (.cells #[.int .i64 (m : Int), .slice none 0 0] 31)).heap[w.heap.size + 1]? = some (.cells #[.int .i64 0, .slice none 0 0] 31 (0, 0))) := (Below.heap_alloc _ _ _ hs1).trans HR1.out
  have hO2 : Hid ((w1.alloc (.cells #[.int .i64 (m : Int), .slice none 0 0] 31)).heap[w1.heap.size]? = some (.cells #[.int .i64 (m : Int), .slice none 0 0] 31 (0, 0))) := heap_alloc_new _ _
  have cz2 : (w1.alloc (.cells #[.int .i64 (m : Int), .slice none 0 0] 31)).cell? ⟨w.heap.size, 0, none⟩ = some (.int .i64 (zn : Int)) := cell_b (below_alloc _ _) HZ1.out
  have ca2 : (w1.alloc (.cells #[.int .i64 (m : Int), .slice none 0 0] 31)).cell? ⟨w.heap.size, 1, none⟩ = some (.slice ao n c) := cell_b (below_alloc _ _) HA1.out
  clear hon b1 bb
  go_wp2_with fail
  go_loopw [8, 9, 10, 11, 12] (fun i s7 s8 s9 s10 wr => ∃ (k : Nat) (v : Value), k ≤ n ∧ i = .int .i64 (k : Int) ∧ Hid (Built wr (w1.heap.size + 1) v k F) ∧ Hid (wr.heap[w1.heap.size]? = some (.cells #[.int .i64 (m : Int), v] 31 (0, 0))) ∧ Hid (wr.heap[w.heap.size + 1]? = some (.cells #[.int .i64 0, .slice none 0 0] 31 (0, 0))) ∧ wr.cell? ⟨w.heap.size, 0, none⟩ = some (.int .i64 (zn : Int)) ∧ wr.cell? ⟨w.heap.size, 1, none⟩ = some (.slice ao n c) ∧ Hid (Below w1.heap.size w1 wr) ∧ w1.heap.size < wr.heap.size) (fun i _ _ _ _ _ => n - (intOf i).toNat)
  case atStart => exact ⟨0, _, Nat.zero_le _, rfl, Built.nil _ _ _, hO2, hR2, cz2, ca2, HB2, by simp⟩
  case round =>
    obtain ⟨k, v, hk, rfl, HBu, HO, HR, dz, da, HBr, hsr⟩ := hrel
    clear cz2 ca2 hO2 hR2
    obtain ⟨wo, hwo⟩ : ∃ wo : World, wo = wr := ⟨_, rfl⟩
    rw [← hwo]
    rw [← hwo] at HBu HO HR dz da HBr hsr
    clear hwo
    by_cases hlt : k < n
    · obtain ⟨f, hf⟩ := get_of_lt HV.out.1 hlt
      obtain ⟨b2, o2, rfl, _, hb2, hc⟩ := HV.out.at_ (by omega)
      obtain ⟨ta, tm, tc, c0, c1, htm, htc, hvt⟩ := hc k _ hf
      have e0 : wo.cell? ⟨b2, o2 + k * 2, none⟩ = some (.int .i64 f.1) := cell_b HBr.out c0
      have hfo := HAl.out f (List.mem_of_getElem? hf)
      obtain ⟨r, hr, hr3⟩ : ∃ r : Nat, f.1 = (r : Int) ∧ r ≤ 3 := by
        obtain ⟨_, r, _, h1, _, _, h2, _, _⟩ := op_nat2 (show (1 : Int) ≤ zn by omega) (by omega) hfo
        exact ⟨r, h1, h2⟩
      rw [hr] at e0
      obtain ⟨hp, hn1, hn2⟩ := sbL_bd (f := f) (xs := xs) (z := (zn : Int)) (by rw [HXl.out]; exact hm1) (by rw [HXl.out]; exact hm8) hfo
      rw [HXl.out, hr, Int.toNat_natCast] at hp
      have hkn : (k : Int) < (n : Int) := by omega
      have hsz := HBr.out.size
      have HFe : Hid (F k = ((r : Int), sfT pl (zn : Int) xs f (sbL xs f))) := by unfold Hid; rw [HFk.out k f hf, sfO, hr]
      obtain ⟨nq, hnq⟩ : ∃ nq, sbL xs f = nq := ⟨_, rfl⟩
      rw [hnq] at hp hn1 hn2 HFe
      have HPw := Lib.hid (fun W : World => pow_any (m : Int) r W (by omega) (by omega) hr3)
      rw [hp] at HPw
      have HRr := Lib.hid hr
      have HFf_ := Lib.hid hf
      have HFo := Lib.hid hfo
      have hB1 := below_alloc wo (.cells #[.int .i64 (r : Int), .slice none 0 0] 66)
      have HX0 : Hid ((wo.alloc (.cells #[.int .i64 (r : Int), .slice none 0 0] 66)).heap[wo.heap.size]? = some (.cells #[.int .i64 (r : Int), .slice none 0 0] 66 (0, 0))) := heap_alloc_new _ _
      have HT0 : Hid ((wo.alloc (.cells #[.int .i64 (r : Int), .slice none 0 0] 66)).ownsRow (wo.heap.size + 1) 3 1 (.slice none 0 0) 0 ((sfT pl (zn : Int) xs f 0).map (Value.int .i64))) := World.ownsRow_nil _ _ _ _
      have HB0 := Lib.hid hB1
      clear hc c0 c1 hvt hf hfo hr hp hnq hB1
      obtain ⟨d0_, d1_, df_⟩ := box_cells HO.out
      go_wp2_with fail
      go_loopw [10, 11, 12] (fun i s9 s10 wi => ∃ (q : Nat) (va : Option Addr) (vc : Nat), q ≤ nq ∧ i = .int .i64 (q : Int) ∧ Hid (wi.heap[wo.heap.size]? = some (.cells #[.int .i64 (r : Int), .slice va q vc] 66 (0, 0))) ∧ Hid (wi.ownsRow (wo.heap.size + 1) 3 1 (.slice va q vc) q ((sfT pl (zn : Int) xs f q).map (Value.int .i64))) ∧ Hid (Below wo.heap.size wo wi) ∧ wo.heap.size < wi.heap.size) (fun i _ _ _ => nq - (intOf i).toNat)
      case atStart => exact ⟨0, none, 0, Nat.zero_le _, rfl, HX0, HT0, HB0, by simp⟩
      case round =>
        obtain ⟨q, va, vc, hq, rfl, HXb, HTb, HBi, hsi⟩ := hrel
        clear HX0 HT0 HB0 d0_ d1_ df_
        obtain ⟨wi, hwi⟩ : ∃ wi : World, wi = wr := ⟨_, rfl⟩
        rw [← hwi]
        rw [← hwi] at HXb HTb HBi hsi
        clear hwi
        have iz : wi.cell? ⟨w.heap.size, 0, none⟩ = some (.int .i64 (zn : Int)) := cell_b HBi.out dz
        have ia : wi.cell? ⟨w.heap.size, 1, none⟩ = some (.slice (some ⟨b2, o2, none⟩) n c) := cell_b HBi.out da
        obtain ⟨x0, x1, xf⟩ := box_cells HXb.out
        by_cases hltq : q < nq
        · have HAr := Lib.hid (argsSpec_any (m : Int) (q : Int) r hr3 wi (by omega) (by omega) (by omega) (by omega))
          have hltq' : (q : Int) < (nq : Int) := by omega
          go_wp2_with fail
          refine (HPw.out _).mono ?_
          rintro e_ wp_ ⟨rfl, rfl⟩
          go_wp2_with fail
          refine HAr.out.mono ?_
          rintro e_ w5 ⟨rfl, hw5⟩
          have B5 : Hid (Below wi.heap.size wi w5) := by rw [hw5]; exact below_alloc _ _
          have HD5 : Hid (w5.ownsRow wi.heap.size 3 1 (.slice (some ⟨wi.heap.size, 0, none⟩) r r) r ((mixI ((digs (m : Int) r (q : Int)).map (nmP xs)) (digs (m : Int) r (q : Int)) 0).map (Value.int .i64))) := by
            rw [mixI_zero, hw5]; exact digs_row wi _ r _ hr3
          clear hw5 x0 x1 xf
          go_wp2_with fail
          go_loopw [12] (fun i wq => ∃ j : Nat, j ≤ r ∧ i = .int .i64 (j : Int) ∧ Hid (wq.ownsRow wi.heap.size 3 1 (.slice (some ⟨wi.heap.size, 0, none⟩) r r) r ((mixI ((digs (m : Int) r (q : Int)).map (nmP xs)) (digs (m : Int) r (q : Int)) j).map (Value.int .i64))) ∧ Hid (Below wi.heap.size wi wq)) (fun i _ => r - (intOf i).toNat)
          case atStart => exact ⟨0, Nat.zero_le _, rfl, HD5, B5⟩
          case round =>
            obtain ⟨j, hj, rfl, HD, HBj⟩ := hrel
            clear HD5 B5
            have hlen : ((digs (m : Int) r (q : Int)).map (nmP xs)).length = (digs (m : Int) r (q : Int)).length := by rw [List.length_map]
            have hdl := digs_len (m : Int) r (q : Int)
            have hBo := HBr.out.trans (HBi.out.mono HBr.out.size)
            have hBB := hBo.trans (HBj.out.mono hBo.size)
            by_cases hltj : j < r
            · obtain ⟨x, hx⟩ : ∃ x, (digs (m : Int) r (q : Int))[j]? = some x := ⟨_, List.getElem?_eq_getElem (by omega)⟩
              obtain ⟨x0, x1⟩ := allIn_get (digs_in (z := (m : Int)) (by omega) r (q : Int)) hx
              obtain ⟨xn, rfl⟩ : ∃ xn : Nat, x = (xn : Int) := ⟨x.toNat, by omega⟩
              have hnm := nmP_get (xs := xs) x0 (by rw [HXl.out]; exact x1)
              obtain ⟨u, hu⟩ : ∃ u, u = nmP xs (xn : Int) := ⟨_, rfl⟩
              rw [← hu, Int.toNat_natCast] at hnm
              obtain ⟨b', o', he', _, _, hcx⟩ := HX.out.at_ (by omega)
              cases he'
              have en : wr.cell? ⟨gl, xn, none⟩ = some (.int .i64 u) := by have h_ := hcx xn u hnm; rw [Nat.zero_add] at h_; exact cell_b hBB h_
              have hcj := HD.out.cellAt j (by omega)
              rw [List.getElem?_map, mixI_get hlen (by omega), hx] at hcj
              have hcj2 : wr.cell? ⟨wi.heap.size, j, none⟩ = some (.int .i64 (xn : Int)) := hcj
              have hfr := HD.out.frozenAt j
              have hst := HD.out.stored j (.int .i64 u)
              rw [← List.map_set, mixI_set hlen (by omega) (by rw [List.getElem?_map, hx, hu]; rfl)] at hst
              have HST := Lib.hid hst
              have hxn : (xn : Int) < (m : Int) := by omega
              have hltj' : (j : Int) < (r : Int) := by omega
              clear hx hnm hu hlen hdl hst hcx hBB hBo hcj
              go_wp2_with fail
              go_roundw
              case rel => exact ⟨j + 1, by omega, by go_num, HST.out.1, HBj.out.grown HST.out.2 HBj.out.size (by intro b hb; cases hb; exact Nat.le_refl _)⟩
              case measure => simp [intOf]; omega
            · have hjr : j = r := by omega
              have hltj' : ¬ (j : Int) < (r : Int) := by omega
              have hD := HD.out
              rw [mixI_all hlen (by omega)] at hD
              have hv4 := (OwnsInts.of_row hD).view
              have hall := at_in (z := (zn : Int)) (xs := xs) (f := f) (q := q) (by rw [HXl.out]; exact hm1) HA.out
              rw [HXl.out, HRr.out, Int.toNat_natCast] at hall
              obtain ⟨wq, hwq⟩ : ∃ wq : World, wq = wr := ⟨_, rfl⟩
              rw [← hwq] at hD hv4 hBB HBj ⊢
              have hVal := fun (W : World) (hW : Below wq.heap.size wq W) => value_spec lo hi _ _ (zn : Int) _ _ c n r r k fs f _ W (HV.out.kept (Kept.of_below (hBB.trans (hW.mono hBB.size)) hhi)) (Nat.le_trans (Nat.le_trans hhi hBB.size) hW.size) HOk.out HFf_.out (hv4.kept (Kept.of_below hW (Nat.le_refl _))) hW.size hall HRr.out.symm
              obtain ⟨_, _, hat⟩ := at_get (z := (zn : Int)) (by omega) HFo.out (xs := (digs (m : Int) r (q : Int)).map (nmP xs)) (by rw [HRr.out, List.length_map, hdl]) hall
              have hy2 := allIn_get (opOkB_of HFo.out).2.2 hat
              obtain ⟨yn, hyn⟩ : ∃ yn : Nat, atA (zn : Int) f ((digs (m : Int) r (q : Int)).map (nmP xs)) = (yn : Int) := ⟨_, (Int.toNat_of_nonneg hy2.1).symm⟩
              rw [hyn] at hy2
              simp only [hyn] at hVal
              have HVal := Lib.hid hVal
              obtain ⟨v, hvE⟩ : ∃ v, naI f_ yn = v := ⟨_, rfl⟩
              have HE : Hid (sfE pl (zn : Int) xs f q = v) := by unfold Hid sfE; rw [HXl.out, HRr.out, Int.toNat_natCast, hyn, HPl.out, hvE]
              have hno : wo.cell? ⟨gn, yn, none⟩ = some (.int .i64 v) := by rw [← hvE]; exact cell_b HBr.out (HN.out yn (by omega))
              have hyz : (yn : Int) < (zn : Int) := hy2.2
              have HOq := Lib.hid ((HBj.out.block _ hsi).trans HXb.out)
              obtain ⟨d0, d1, df⟩ := box_cells HOq.out
              have jz : wq.cell? ⟨w.heap.size, 0, none⟩ = some (.int .i64 (zn : Int)) := cell_b HBj.out iz
              have ja : wq.cell? ⟨w.heap.size, 1, none⟩ = some (.slice (some ⟨b2, o2, none⟩) n c) := cell_b HBj.out ia
              have HRow_ := Lib.hid (HTb.out.kept (grown_of_below HBj.out none) (own_em _))
              have hsq : wo.heap.size < wq.heap.size := by have := HBj.out.size; omega
              have HBq := Lib.hid hBB
              have HBoq := Lib.hid (HBi.out.trans (HBj.out.mono HBi.out.size))
              have hno2 := cell_b HBoq.out hno
              clear hVal hat hy2 hyn hvE hD hv4 hall hlen hdl hBB hBo hwq d0 df hjr
              go_wp2_with fail
              have HKq : Hid (∀ W, Below wq.heap.size wq W → (fun W => W.cell? ⟨w.heap.size, 0, none⟩ = some (.int .i64 (zn : Int)) ∧ W.cell? ⟨w.heap.size, 1, none⟩ = some (.slice (some ⟨b2, o2, none⟩) n c) ∧ W.cell? ⟨gn, yn, none⟩ = some (.int .i64 v)) W) := fun W hW => ⟨cell_b hW jz, cell_b hW ja, cell_b hW hno2⟩
              refine wp_region_noPanic ?_
              refine wp_region_held_drew (S := fun W => W.cell? ⟨w.heap.size, 0, none⟩ = some (.int .i64 (zn : Int)) ∧ W.cell? ⟨w.heap.size, 1, none⟩ = some (.slice (some ⟨b2, o2, none⟩) n c) ∧ W.cell? ⟨gn, yn, none⟩ = some (.int .i64 v)) (by kernel_rfl) ?_ (fun hHeld => ?_)
              · exact HKq.out _ (below_drew _)
              refine wpAnyH_take (i := 0) (oi := ⟨_, _, _, _, _, _⟩) (v := ?_) rfl (by kernel_rfl) (by kernel_rfl) (by kernel_rfl) (fun _ _ _ h => h) (Or.inl ⟨rfl, ?_⟩) (by assumption) ?_
              rotate_left 1
              · intro w_ hSw; (try dsimp only at hSw); go_simp; (try with_reducible rfl)
              (try simp only [Act.put, List.setIfInBounds_toArray, List.set_cons_zero, List.set_cons_succ])
              refine wpAnyH_take (i := 2) (oi := ⟨_, _, _, _, _, _⟩) (v := ?_) rfl (by kernel_rfl) (by kernel_rfl) (by kernel_rfl) (fun _ _ _ h => h) (Or.inl ⟨rfl, ?_⟩) (by assumption) ?_
              rotate_left 1
              · intro w_ hSw; (try dsimp only at hSw); go_simp; (try with_reducible rfl)
              (try simp only [Act.put, List.setIfInBounds_toArray, List.set_cons_zero, List.set_cons_succ])
              refine wpAnyH_take (i := 3) (oi := ⟨_, _, _, _, _, _⟩) (v := ?_) rfl (by kernel_rfl) (by kernel_rfl) (by kernel_rfl) (fun _ _ _ h => h) (Or.inl ⟨rfl, ?_⟩) (by assumption) ?_
              rotate_left 1
              · intro w_ hSw; (try dsimp only at hSw); go_simp; (try with_reducible rfl)
              (try simp only [Act.put, List.setIfInBounds_toArray, List.set_cons_zero, List.set_cons_succ])
              refine wpAnyH_take (i := 4) (oi := ⟨_, _, _, _, _, _⟩) (v := ?_) rfl (by kernel_rfl) (by kernel_rfl) (by kernel_rfl) (fun _ _ _ h => h) (Or.inl ⟨rfl, ?_⟩) (by assumption) ?_
              rotate_left 1
              · intro w_ hSw; (try dsimp only at hSw); go_simp; (try with_reducible rfl)
              (try simp only [Act.put, List.setIfInBounds_toArray, List.set_cons_zero, List.set_cons_succ])
              refine wpAnyH_take (i := 5) (oi := ⟨_, _, _, _, _, _⟩) (v := ?_) rfl (by kernel_rfl) (by kernel_rfl) (by kernel_rfl) (fun _ _ _ h => h) (Or.inl ⟨rfl, ?_⟩) (by assumption) ?_
              rotate_left 1
              · intro w_ hSw; (try dsimp only at hSw); go_simp; (try with_reducible rfl)
              (try simp only [Act.put, List.setIfInBounds_toArray, List.set_cons_zero, List.set_cons_succ])
              refine wpAnyH_ready (rs := [1, 6]) (by kernel_rfl) (by simp) ?_
              refine (AllReadyH.cons (o := ⟨_, _, _, _, _, _⟩) rfl (fun K hK => ?_) (AllReadyH.cons (o := ⟨_, _, _, _, _, _⟩) rfl (fun K hK => ?_) AllReadyH.nil))
              · go_simp
                refine hK.out _ _ ?_ (fun hHeld => ?_)
                · exact HKq.out _ (below_drew wq)
                clear hK K
                (try simp only [Act.put, List.setIfInBounds_toArray, List.set_cons_zero, List.set_cons_succ])
                refine wpAnyH_ready (rs := [6]) (by kernel_rfl) (by simp) ?_
                refine (AllReadyH.cons (o := ⟨_, _, _, _, _, _⟩) rfl (fun K hK => ?_) AllReadyH.nil)
                go_simp
                go_at_call 105
                refine (HVal.out _ (below_drew _)).mono ?_
                rintro e w6 ⟨rfl, b6⟩
                have B6 : Below wq.heap.size wq w6 := below_then (below_drew _) b6
                have d16 : w6.cell? ⟨wo.heap.size, 1, none⟩ = some (.slice va q vc) := cell_b B6 d1
                have z6 : wq.heap.size ≤ w6.heap.size := B6.size
                have zO6 : wo.heap.size < w6.heap.size := (by omega)
                have HB6 := Lib.hid B6
                have HO6b : Hid (w6.heap[wo.heap.size]? = some (.cells #[.int .i64 (r : Int), .slice va q vc] 66 (0, 0))) := (B6.block _ hsq).trans HOq.out
                clear b6 B6
                refine hK.out _ _ ?_ (fun hHeld => ?_)
                · exact HKq.out _ HB6.out
                clear hK K
                (try simp only [Act.put, List.setIfInBounds_toArray, List.set_cons_zero, List.set_cons_succ])
                refine wpAnyH_take (i := 7) (oi := ⟨_, _, _, _, _, _⟩) (v := ?_) rfl (by kernel_rfl) (by kernel_rfl) (by kernel_rfl) (fun _ _ _ h => h) (Or.inl ⟨rfl, ?_⟩) (by assumption) ?_
                rotate_left 1
                · intro w_ hSw; (try dsimp only at hSw); go_simp; (try with_reducible rfl)
                (try simp only [Act.put, List.setIfInBounds_toArray, List.set_cons_zero, List.set_cons_succ])
                refine wpAnyH_take (i := 8) (oi := ⟨_, _, _, _, _, _⟩) (v := ?_) rfl (by kernel_rfl) (by kernel_rfl) (by kernel_rfl) (fun _ _ _ h => h) (Or.inl ⟨rfl, ?_⟩) (by assumption) ?_
                rotate_left 1
                · intro w_ hSw; (try dsimp only at hSw); go_simp; (try with_reducible rfl)
                (try simp only [Act.put, List.setIfInBounds_toArray, List.set_cons_zero, List.set_cons_succ])
                refine wpAnyH_ready (rs := [9]) (by kernel_rfl) (by simp) ?_
                refine (AllReadyH.cons (o := ⟨_, _, _, _, _, _⟩) rfl (fun K hK => ?_) AllReadyH.nil)
                go_simp
                have HBB : Hid (Below wq.heap.size wq (w6.alloc (.cells #[.int .i64 v] 3))) := HB6.out.alloc z6 _
                have d1b : (w6.alloc (.cells #[.int .i64 v] 3)).cell? ⟨wo.heap.size, 1, none⟩ = some (.slice va q vc) := cell_b HBB.out d1
                refine hK.out _ _ ?_ (fun hHeld => ?_)
                · exact HKq.out _ HBB.out
                clear hK K
                (try simp only [Act.put, List.setIfInBounds_toArray, List.set_cons_zero, List.set_cons_succ])
                refine wpAnyH_ready (rs := [10]) (by kernel_rfl) (by simp) ?_
                refine (AllReadyH.cons (o := ⟨_, _, _, _, _, _⟩) rfl (fun K hK => ?_) AllReadyH.nil)
                refine step_append_lies _ rfl _ _ _ rfl (wo.heap.size + 1) 3 j0 _ 1 8 Try.underlying25 hj0 hy0 hy1 hy2_ rfl (by decide) (.slice va q vc) q ((sfT pl (zn : Int) xs f q).map (Value.int .i64)) rfl ((HRow_.out.kept (grown_of_below HB6.out none) (own_em _)).alloc _) ⟨w6.heap.size, 0, none⟩ 1 1 [.int .i64 v] rfl rfl (cell_one_new _ _ _) (by simp [Value.oneCell']) (by decide) (by unfold maxLen; omega) (by omega) (by simp; omega) _ rfl ?_
                intro g4 cap4 w4 hown4 hgrow4 hat4 hlt4
                have HO4 : Hid (w4.heap[wo.heap.size]? = some (.cells #[.int .i64 (r : Int), .slice va q vc] 66 (0, 0))) := (hgrow4.block _ (by simp; omega) (fun e => by have h_ := (HRow_.out.lt wo.heap.size e.symm).1; omega)).trans ((Below.heap_alloc _ _ _ (by omega)).trans HO6b.out)
                have HB4 : Hid (Below wo.heap.size wo w4) := ((HBoq.out.trans (HB6.out.mono (Nat.le_of_lt hsq))).alloc (by omega) _).grown hgrow4 (by simp; omega) (fun b hb => by have h_ := (HRow_.out.lt b hb).1; omega)
                have HS4 : Hid (∀ W, Below wo.heap.size wo W → (fun W => W.cell? ⟨w.heap.size, 0, none⟩ = some (.int .i64 (zn : Int)) ∧ W.cell? ⟨w.heap.size, 1, none⟩ = some (.slice (some ⟨b2, o2, none⟩) n c) ∧ W.cell? ⟨gn, yn, none⟩ = some (.int .i64 v)) W) := fun W hW => ⟨cell_b hW dz, cell_b hW da, cell_b hW hno⟩
                have d14 := (box_cells HO4.out).2.1
                have f14 := (box_cells HO4.out).2.2 1
                have HOwn4 := Lib.hid hown4
                have HGrow4 := Lib.hid hgrow4
                clear hown4 hgrow4 hat4
                refine hK.out _ _ ?_ (fun hHeld => ?_)
                · exact HS4.out _ HB4.out
                clear hK K
                (try simp only [Act.put, List.setIfInBounds_toArray, List.set_cons_zero, List.set_cons_succ])
                refine wpAnyH_take (i := 11) (oi := ⟨_, _, _, _, _, _⟩) (v := ?_) rfl (by kernel_rfl) (by kernel_rfl) (by kernel_rfl) (fun _ _ _ h => h) (Or.inl ⟨rfl, ?_⟩) (by assumption) ?_
                rotate_left 1
                · intro w_ hSw; (try dsimp only at hSw); go_simp; (try with_reducible rfl)
                (try simp only [Act.put, List.setIfInBounds_toArray, List.set_cons_zero, List.set_cons_succ])
                refine wpAnyH_ready (rs := [12]) (by kernel_rfl) (by simp) ?_
                refine (AllReadyH.cons (o := ⟨_, _, _, _, _, _⟩) rfl (fun K hK => ?_) AllReadyH.nil)
                go_simp
                refine hK.out _ _ ?_ (fun hHeld => ?_)
                · exact HS4.out _ (HB4.out.setCell (Nat.le_refl _) _)
                clear hK K
                (try simp only [Act.put, List.setIfInBounds_toArray, List.set_cons_zero, List.set_cons_succ])
                refine wpAnyH_done (by kernel_rfl) ?_ _
                refine NoPanic.normal ?_
                have HT6 : Hid ((w4.setCell ⟨wo.heap.size, 1, none⟩ (.slice (some ⟨g4, 0, none⟩) (q + 1) cap4)).ownsRow (wo.heap.size + 1) 3 1 (.slice (some ⟨g4, 0, none⟩) (q + 1) cap4) (q + 1) ((sfT pl (zn : Int) xs f (q + 1)).map (Value.int .i64))) := by
                  unfold Hid
                  rw [sfT_succ, List.map_append, List.map_cons, List.map_nil, HE.out]
                  exact ownsRow_setCell_below HOwn4.out (by show wo.heap.size < _; omega) _
                have HX6 := Lib.hid (box_set1 (v := .slice (some ⟨g4, 0, none⟩) (q + 1) cap4) HO4.out)
                have hz5 : wo.heap.size < w4.heap.size := by have := HGrow4.out.size; simp at this; omega
                have HB7 : Hid (Below wo.heap.size wo (w4.setCell ⟨wo.heap.size, 1, none⟩ (.slice (some ⟨g4, 0, none⟩) (q + 1) cap4))) :=
                  (((HBoq.out.trans (HB6.out.mono (Nat.le_of_lt hsq))).alloc (by omega) _).grown HGrow4.out (by simp; omega) (fun b hb => by have h_ := (HRow_.out.lt b hb).1; omega)).setCell (Nat.le_refl _) _
                have hz6 : wo.heap.size < (w4.setCell ⟨wo.heap.size, 1, none⟩ (.slice (some ⟨g4, 0, none⟩) (q + 1) cap4)).heap.size := by simpa [World.setCell] using hz5
                obtain ⟨w5_, hw5_⟩ : ∃ w5_, w5_ = w4.setCell ⟨wo.heap.size, 1, none⟩ (.slice (some ⟨g4, 0, none⟩) (q + 1) cap4) := ⟨_, rfl⟩
                rw [← hw5_] at HT6 HX6 HB7 hz6 ⊢
                clear hw5_ d14 f14 d16 d1 jz ja hno hno2
                go_wp2_with fail
                go_roundw
                case rel => exact ⟨q + 1, _, _, by omega, by go_num, HX6, HT6, HB7, hz6⟩
                case measure => simp [intOf]; omega
              · go_simp
                go_at_call 105
                refine (HVal.out _ (below_drew _)).mono ?_
                rintro e w6 ⟨rfl, b6⟩
                have B6 : Below wq.heap.size wq w6 := below_then (below_drew _) b6
                have d16 : w6.cell? ⟨wo.heap.size, 1, none⟩ = some (.slice va q vc) := cell_b B6 d1
                have z6 : wq.heap.size ≤ w6.heap.size := B6.size
                have zO6 : wo.heap.size < w6.heap.size := (by omega)
                have HB6 := Lib.hid B6
                have HO6b : Hid (w6.heap[wo.heap.size]? = some (.cells #[.int .i64 (r : Int), .slice va q vc] 66 (0, 0))) := (B6.block _ hsq).trans HOq.out
                clear b6 B6
                refine hK.out _ _ ?_ (fun hHeld => ?_)
                · exact HKq.out _ HB6.out
                clear hK K
                (try simp only [Act.put, List.setIfInBounds_toArray, List.set_cons_zero, List.set_cons_succ])
                refine wpAnyH_take (i := 7) (oi := ⟨_, _, _, _, _, _⟩) (v := ?_) rfl (by kernel_rfl) (by kernel_rfl) (by kernel_rfl) (fun _ _ _ h => h) (Or.inl ⟨rfl, ?_⟩) (by assumption) ?_
                rotate_left 1
                · intro w_ hSw; (try dsimp only at hSw); go_simp; (try with_reducible rfl)
                (try simp only [Act.put, List.setIfInBounds_toArray, List.set_cons_zero, List.set_cons_succ])
                refine wpAnyH_take (i := 8) (oi := ⟨_, _, _, _, _, _⟩) (v := ?_) rfl (by kernel_rfl) (by kernel_rfl) (by kernel_rfl) (fun _ _ _ h => h) (Or.inl ⟨rfl, ?_⟩) (by assumption) ?_
                rotate_left 1
                · intro w_ hSw; (try dsimp only at hSw); go_simp; (try with_reducible rfl)
                (try simp only [Act.put, List.setIfInBounds_toArray, List.set_cons_zero, List.set_cons_succ])
                refine wpAnyH_ready (rs := [1, 9]) (by kernel_rfl) (by simp) ?_
                refine (AllReadyH.cons (o := ⟨_, _, _, _, _, _⟩) rfl (fun K hK => ?_) (AllReadyH.cons (o := ⟨_, _, _, _, _, _⟩) rfl (fun K hK => ?_) AllReadyH.nil))
                · go_simp
                  refine hK.out _ _ ?_ (fun hHeld => ?_)
                  · exact HKq.out _ HB6.out
                  clear hK K
                  (try simp only [Act.put, List.setIfInBounds_toArray, List.set_cons_zero, List.set_cons_succ])
                  refine wpAnyH_ready (rs := [9]) (by kernel_rfl) (by simp) ?_
                  refine (AllReadyH.cons (o := ⟨_, _, _, _, _, _⟩) rfl (fun K hK => ?_) AllReadyH.nil)
                  go_simp
                  have HBB : Hid (Below wq.heap.size wq (w6.alloc (.cells #[.int .i64 v] 3))) := HB6.out.alloc z6 _
                  have d1b : (w6.alloc (.cells #[.int .i64 v] 3)).cell? ⟨wo.heap.size, 1, none⟩ = some (.slice va q vc) := cell_b HBB.out d1
                  refine hK.out _ _ ?_ (fun hHeld => ?_)
                  · exact HKq.out _ HBB.out
                  clear hK K
                  (try simp only [Act.put, List.setIfInBounds_toArray, List.set_cons_zero, List.set_cons_succ])
                  refine wpAnyH_ready (rs := [10]) (by kernel_rfl) (by simp) ?_
                  refine (AllReadyH.cons (o := ⟨_, _, _, _, _, _⟩) rfl (fun K hK => ?_) AllReadyH.nil)
                  refine step_append_lies _ rfl _ _ _ rfl (wo.heap.size + 1) 3 j0 _ 1 8 Try.underlying25 hj0 hy0 hy1 hy2_ rfl (by decide) (.slice va q vc) q ((sfT pl (zn : Int) xs f q).map (Value.int .i64)) rfl ((HRow_.out.kept (grown_of_below HB6.out none) (own_em _)).alloc _) ⟨w6.heap.size, 0, none⟩ 1 1 [.int .i64 v] rfl rfl (cell_one_new _ _ _) (by simp [Value.oneCell']) (by decide) (by unfold maxLen; omega) (by omega) (by simp; omega) _ rfl ?_
                  intro g4 cap4 w4 hown4 hgrow4 hat4 hlt4
                  have HO4 : Hid (w4.heap[wo.heap.size]? = some (.cells #[.int .i64 (r : Int), .slice va q vc] 66 (0, 0))) := (hgrow4.block _ (by simp; omega) (fun e => by have h_ := (HRow_.out.lt wo.heap.size e.symm).1; omega)).trans ((Below.heap_alloc _ _ _ (by omega)).trans HO6b.out)
                  have HB4 : Hid (Below wo.heap.size wo w4) := ((HBoq.out.trans (HB6.out.mono (Nat.le_of_lt hsq))).alloc (by omega) _).grown hgrow4 (by simp; omega) (fun b hb => by have h_ := (HRow_.out.lt b hb).1; omega)
                  have HS4 : Hid (∀ W, Below wo.heap.size wo W → (fun W => W.cell? ⟨w.heap.size, 0, none⟩ = some (.int .i64 (zn : Int)) ∧ W.cell? ⟨w.heap.size, 1, none⟩ = some (.slice (some ⟨b2, o2, none⟩) n c) ∧ W.cell? ⟨gn, yn, none⟩ = some (.int .i64 v)) W) := fun W hW => ⟨cell_b hW dz, cell_b hW da, cell_b hW hno⟩
                  have d14 := (box_cells HO4.out).2.1
                  have f14 := (box_cells HO4.out).2.2 1
                  have HOwn4 := Lib.hid hown4
                  have HGrow4 := Lib.hid hgrow4
                  clear hown4 hgrow4 hat4
                  refine hK.out _ _ ?_ (fun hHeld => ?_)
                  · exact HS4.out _ HB4.out
                  clear hK K
                  (try simp only [Act.put, List.setIfInBounds_toArray, List.set_cons_zero, List.set_cons_succ])
                  refine wpAnyH_take (i := 11) (oi := ⟨_, _, _, _, _, _⟩) (v := ?_) rfl (by kernel_rfl) (by kernel_rfl) (by kernel_rfl) (fun _ _ _ h => h) (Or.inl ⟨rfl, ?_⟩) (by assumption) ?_
                  rotate_left 1
                  · intro w_ hSw; (try dsimp only at hSw); go_simp; (try with_reducible rfl)
                  (try simp only [Act.put, List.setIfInBounds_toArray, List.set_cons_zero, List.set_cons_succ])
                  refine wpAnyH_ready (rs := [12]) (by kernel_rfl) (by simp) ?_
                  refine (AllReadyH.cons (o := ⟨_, _, _, _, _, _⟩) rfl (fun K hK => ?_) AllReadyH.nil)
                  go_simp
                  refine hK.out _ _ ?_ (fun hHeld => ?_)
                  · exact HS4.out _ (HB4.out.setCell (Nat.le_refl _) _)
                  clear hK K
                  (try simp only [Act.put, List.setIfInBounds_toArray, List.set_cons_zero, List.set_cons_succ])
                  refine wpAnyH_done (by kernel_rfl) ?_ _
                  refine NoPanic.normal ?_
                  have HT6 : Hid ((w4.setCell ⟨wo.heap.size, 1, none⟩ (.slice (some ⟨g4, 0, none⟩) (q + 1) cap4)).ownsRow (wo.heap.size + 1) 3 1 (.slice (some ⟨g4, 0, none⟩) (q + 1) cap4) (q + 1) ((sfT pl (zn : Int) xs f (q + 1)).map (Value.int .i64))) := by
                    unfold Hid
                    rw [sfT_succ, List.map_append, List.map_cons, List.map_nil, HE.out]
                    exact ownsRow_setCell_below HOwn4.out (by show wo.heap.size < _; omega) _
                  have HX6 := Lib.hid (box_set1 (v := .slice (some ⟨g4, 0, none⟩) (q + 1) cap4) HO4.out)
                  have hz5 : wo.heap.size < w4.heap.size := by have := HGrow4.out.size; simp at this; omega
                  have HB7 : Hid (Below wo.heap.size wo (w4.setCell ⟨wo.heap.size, 1, none⟩ (.slice (some ⟨g4, 0, none⟩) (q + 1) cap4))) :=
                    (((HBoq.out.trans (HB6.out.mono (Nat.le_of_lt hsq))).alloc (by omega) _).grown HGrow4.out (by simp; omega) (fun b hb => by have h_ := (HRow_.out.lt b hb).1; omega)).setCell (Nat.le_refl _) _
                  have hz6 : wo.heap.size < (w4.setCell ⟨wo.heap.size, 1, none⟩ (.slice (some ⟨g4, 0, none⟩) (q + 1) cap4)).heap.size := by simpa [World.setCell] using hz5
                  obtain ⟨w5_, hw5_⟩ : ∃ w5_, w5_ = w4.setCell ⟨wo.heap.size, 1, none⟩ (.slice (some ⟨g4, 0, none⟩) (q + 1) cap4) := ⟨_, rfl⟩
                  rw [← hw5_] at HT6 HX6 HB7 hz6 ⊢
                  clear hw5_ d14 f14 d16 d1 jz ja hno hno2
                  go_wp2_with fail
                  go_roundw
                  case rel => exact ⟨q + 1, _, _, by omega, by go_num, HX6, HT6, HB7, hz6⟩
                  case measure => simp [intOf]; omega
                · go_simp
                  have HBB : Hid (Below wq.heap.size wq (w6.alloc (.cells #[.int .i64 v] 3))) := HB6.out.alloc z6 _
                  have d1b : (w6.alloc (.cells #[.int .i64 v] 3)).cell? ⟨wo.heap.size, 1, none⟩ = some (.slice va q vc) := cell_b HBB.out d1
                  refine hK.out _ _ ?_ (fun hHeld => ?_)
                  · exact HKq.out _ HBB.out
                  clear hK K
                  (try simp only [Act.put, List.setIfInBounds_toArray, List.set_cons_zero, List.set_cons_succ])
                  refine wpAnyH_ready (rs := [1]) (by kernel_rfl) (by simp) ?_
                  refine (AllReadyH.cons (o := ⟨_, _, _, _, _, _⟩) rfl (fun K hK => ?_) AllReadyH.nil)
                  go_simp
                  refine hK.out _ _ ?_ (fun hHeld => ?_)
                  · exact HKq.out _ HBB.out
                  clear hK K
                  (try simp only [Act.put, List.setIfInBounds_toArray, List.set_cons_zero, List.set_cons_succ])
                  refine wpAnyH_ready (rs := [10]) (by kernel_rfl) (by simp) ?_
                  refine (AllReadyH.cons (o := ⟨_, _, _, _, _, _⟩) rfl (fun K hK => ?_) AllReadyH.nil)
                  refine step_append_lies _ rfl _ _ _ rfl (wo.heap.size + 1) 3 j0 _ 1 8 Try.underlying25 hj0 hy0 hy1 hy2_ rfl (by decide) (.slice va q vc) q ((sfT pl (zn : Int) xs f q).map (Value.int .i64)) rfl ((HRow_.out.kept (grown_of_below HB6.out none) (own_em _)).alloc _) ⟨w6.heap.size, 0, none⟩ 1 1 [.int .i64 v] rfl rfl (cell_one_new _ _ _) (by simp [Value.oneCell']) (by decide) (by unfold maxLen; omega) (by omega) (by simp; omega) _ rfl ?_
                  intro g4 cap4 w4 hown4 hgrow4 hat4 hlt4
                  have HO4 : Hid (w4.heap[wo.heap.size]? = some (.cells #[.int .i64 (r : Int), .slice va q vc] 66 (0, 0))) := (hgrow4.block _ (by simp; omega) (fun e => by have h_ := (HRow_.out.lt wo.heap.size e.symm).1; omega)).trans ((Below.heap_alloc _ _ _ (by omega)).trans HO6b.out)
                  have HB4 : Hid (Below wo.heap.size wo w4) := ((HBoq.out.trans (HB6.out.mono (Nat.le_of_lt hsq))).alloc (by omega) _).grown hgrow4 (by simp; omega) (fun b hb => by have h_ := (HRow_.out.lt b hb).1; omega)
                  have HS4 : Hid (∀ W, Below wo.heap.size wo W → (fun W => W.cell? ⟨w.heap.size, 0, none⟩ = some (.int .i64 (zn : Int)) ∧ W.cell? ⟨w.heap.size, 1, none⟩ = some (.slice (some ⟨b2, o2, none⟩) n c) ∧ W.cell? ⟨gn, yn, none⟩ = some (.int .i64 v)) W) := fun W hW => ⟨cell_b hW dz, cell_b hW da, cell_b hW hno⟩
                  have d14 := (box_cells HO4.out).2.1
                  have f14 := (box_cells HO4.out).2.2 1
                  have HOwn4 := Lib.hid hown4
                  have HGrow4 := Lib.hid hgrow4
                  clear hown4 hgrow4 hat4
                  refine hK.out _ _ ?_ (fun hHeld => ?_)
                  · exact HS4.out _ HB4.out
                  clear hK K
                  (try simp only [Act.put, List.setIfInBounds_toArray, List.set_cons_zero, List.set_cons_succ])
                  refine wpAnyH_take (i := 11) (oi := ⟨_, _, _, _, _, _⟩) (v := ?_) rfl (by kernel_rfl) (by kernel_rfl) (by kernel_rfl) (fun _ _ _ h => h) (Or.inl ⟨rfl, ?_⟩) (by assumption) ?_
                  rotate_left 1
                  · intro w_ hSw; (try dsimp only at hSw); go_simp; (try with_reducible rfl)
                  (try simp only [Act.put, List.setIfInBounds_toArray, List.set_cons_zero, List.set_cons_succ])
                  refine wpAnyH_ready (rs := [12]) (by kernel_rfl) (by simp) ?_
                  refine (AllReadyH.cons (o := ⟨_, _, _, _, _, _⟩) rfl (fun K hK => ?_) AllReadyH.nil)
                  go_simp
                  refine hK.out _ _ ?_ (fun hHeld => ?_)
                  · exact HS4.out _ (HB4.out.setCell (Nat.le_refl _) _)
                  clear hK K
                  (try simp only [Act.put, List.setIfInBounds_toArray, List.set_cons_zero, List.set_cons_succ])
                  refine wpAnyH_done (by kernel_rfl) ?_ _
                  refine NoPanic.normal ?_
                  have HT6 : Hid ((w4.setCell ⟨wo.heap.size, 1, none⟩ (.slice (some ⟨g4, 0, none⟩) (q + 1) cap4)).ownsRow (wo.heap.size + 1) 3 1 (.slice (some ⟨g4, 0, none⟩) (q + 1) cap4) (q + 1) ((sfT pl (zn : Int) xs f (q + 1)).map (Value.int .i64))) := by
                    unfold Hid
                    rw [sfT_succ, List.map_append, List.map_cons, List.map_nil, HE.out]
                    exact ownsRow_setCell_below HOwn4.out (by show wo.heap.size < _; omega) _
                  have HX6 := Lib.hid (box_set1 (v := .slice (some ⟨g4, 0, none⟩) (q + 1) cap4) HO4.out)
                  have hz5 : wo.heap.size < w4.heap.size := by have := HGrow4.out.size; simp at this; omega
                  have HB7 : Hid (Below wo.heap.size wo (w4.setCell ⟨wo.heap.size, 1, none⟩ (.slice (some ⟨g4, 0, none⟩) (q + 1) cap4))) :=
                    (((HBoq.out.trans (HB6.out.mono (Nat.le_of_lt hsq))).alloc (by omega) _).grown HGrow4.out (by simp; omega) (fun b hb => by have h_ := (HRow_.out.lt b hb).1; omega)).setCell (Nat.le_refl _) _
                  have hz6 : wo.heap.size < (w4.setCell ⟨wo.heap.size, 1, none⟩ (.slice (some ⟨g4, 0, none⟩) (q + 1) cap4)).heap.size := by simpa [World.setCell] using hz5
                  obtain ⟨w5_, hw5_⟩ : ∃ w5_, w5_ = w4.setCell ⟨wo.heap.size, 1, none⟩ (.slice (some ⟨g4, 0, none⟩) (q + 1) cap4) := ⟨_, rfl⟩
                  rw [← hw5_] at HT6 HX6 HB7 hz6 ⊢
                  clear hw5_ d14 f14 d16 d1 jz ja hno hno2
                  go_wp2_with fail
                  go_roundw
                  case rel => exact ⟨q + 1, _, _, by omega, by go_num, HX6, HT6, HB7, hz6⟩
                  case measure => simp [intOf]; omega
        · obtain rfl : q = nq := by omega
          obtain ⟨g, rfl⟩ : ∃ g, va = some ⟨g, 0, none⟩ := by
            rcases HTb.out.2 with ⟨_, h_⟩ | ⟨g, cap, _, h_, _⟩
            · omega
            · injection h_ with h_ _ _; exact ⟨g, h_⟩
          obtain ⟨G, C, HTt, HRow⟩ := HBu.out
          obtain ⟨ua, uc, hvv⟩ := own_form HRow
          have HTt_ := Lib.hid HTt
          have HRow_ := Lib.hid HRow
          have HRi := Lib.hid (HRow.kept (grown_of_below HBi.out none) (own_em _))
          have HOi := Lib.hid ((HBi.out.block _ hsr).trans HO.out)
          clear HTt HRow
          subst hvv
          obtain ⟨d0, d1, df⟩ := box_cells HOi.out
          have HLn : Hid (q = (sfT pl (zn : Int) xs f q).length) := by unfold Hid; rw [sfT_len]
          have HTl := Lib.hid (ownsRow_base HTb.out (Nat.le_succ _))
          have hBo := HBr.out.trans (HBi.out.mono HBr.out.size)
          have HBo := Lib.hid hBo
          clear hBo xf df d0
          go_wp2_with fail
          refine (HPw.out _).mono ?_
          rintro e_ wp_ ⟨rfl, rfl⟩
          go_wp2_with (at_builtin; refine wpList_append_own _ rfl _ _ 29 rfl (w1.heap.size + 1) 66 i0 (.agg #[.int .i64 0, .slice none 0 0]) 2 32 Try.underlying29 hi0 hz0 hz1 hz2 rfl (by decide) (.slice ua k uc) k (flatN k G C F) rfl (HRi.out.alloc _) ⟨wi.heap.size, 0, none⟩ 1 1 [.int .i64 (r : Int), .slice (some ⟨g, 0, none⟩) q vc] rfl rfl (news_two _ _ _) (by simp [Value.oneCell']) (by unfold maxLen; omega) (by omega) (by simp; omega) ?_; intro v' w5 hown' hgrow' hnil'; obtain ⟨g5, cap5, rfl⟩ := ownsRow_succ hown'; have HO5 : Hid (w5.heap[w1.heap.size]? = some (.cells #[.int .i64 (m : Int), .slice ua k uc] 31 (0, 0))) := (hgrow'.block _ (by simp; omega) (fun e => by have h_ := (HRi.out.lt _ e.symm).1; omega)).trans ((Below.heap_alloc _ _ _ (by omega)).trans HOi.out); have d15 := (box_cells HO5.out).2.1; have f15 := (box_cells HO5.out).2.2 1; have HOwn5 := Lib.hid hown'; have HGrow5 := Lib.hid hgrow'; clear hown' hgrow' hnil')
          have HNew : Hid (Built (w5.setCell ⟨w1.heap.size, 1, none⟩ (.slice (some ⟨g5, 0, none⟩) (k + 1) cap5)) (w1.heap.size + 1) (.slice (some ⟨g5, 0, none⟩) (k + 1) cap5) (k + 1) F) :=
            (Built.push HTt_.out HRow_.out HBi.out (by omega) HLn.out HTl.out HFe.out HOwn5.out HGrow5.out).setFar (by show w1.heap.size < _; omega) _
          have HO6 := Lib.hid (box_set1 (v := .slice (some ⟨g5, 0, none⟩) (k + 1) cap5) HO5.out)
          have hz5 : w1.heap.size < w5.heap.size := by have := HGrow5.out.size; simp at this; omega
          have hfar : ∀ b, b < w1.heap.size → (w5.setCell ⟨w1.heap.size, 1, none⟩ (.slice (some ⟨g5, 0, none⟩) (k + 1) cap5)).heap[b]? = wi.heap[b]? := fun b hb => by
            rw [Below.heap_setCell _ _ _ _ (by show b ≠ w1.heap.size; omega), HGrow5.out.block b (by simp; omega) (fun e => by have h_ := (HRi.out.lt b e.symm).1; omega), Below.heap_alloc _ _ _ (by omega)]
          have HR6 : Hid ((w5.setCell ⟨w1.heap.size, 1, none⟩ (.slice (some ⟨g5, 0, none⟩) (k + 1) cap5)).heap[w.heap.size + 1]? = some (.cells #[.int .i64 0, .slice none 0 0] 31 (0, 0))) := (hfar _ (by omega)).trans ((HBi.out.block _ (by omega)).trans HR.out)
          have dz6 : (w5.setCell ⟨w1.heap.size, 1, none⟩ (.slice (some ⟨g5, 0, none⟩) (k + 1) cap5)).cell? ⟨w.heap.size, 0, none⟩ = some (.int .i64 (zn : Int)) := (World.cell?_of_block (a := ⟨w.heap.size, 0, none⟩) (hfar w.heap.size (by omega))).trans iz
          have da6 : (w5.setCell ⟨w1.heap.size, 1, none⟩ (.slice (some ⟨g5, 0, none⟩) (k + 1) cap5)).cell? ⟨w.heap.size, 1, none⟩ = some (.slice (some ⟨b2, o2, none⟩) n c) := (World.cell?_of_block (a := ⟨w.heap.size, 1, none⟩) (hfar w.heap.size (by omega))).trans ia
          have HB6 : Hid (Below w1.heap.size w1 (w5.setCell ⟨w1.heap.size, 1, none⟩ (.slice (some ⟨g5, 0, none⟩) (k + 1) cap5))) :=
            ((HBo.out.alloc (by omega) _).grown HGrow5.out (by simp; omega) (fun b hb => by have h_ := (HRi.out.lt b hb).1; omega)).setCell (by show _ ≤ w1.heap.size; omega) _
          have hz6 : w1.heap.size < (w5.setCell ⟨w1.heap.size, 1, none⟩ (.slice (some ⟨g5, 0, none⟩) (k + 1) cap5)).heap.size := by simpa [World.setCell] using hz5
          obtain ⟨w6, hw6⟩ : ∃ w6, w6 = w5.setCell ⟨w1.heap.size, 1, none⟩ (.slice (some ⟨g5, 0, none⟩) (k + 1) cap5) := ⟨_, rfl⟩
          rw [← hw6] at HNew HO6 HR6 dz6 da6 HB6 hz6 ⊢
          clear hw6 hfar d15 f15 d1 iz ia
          go_wp2_with fail
          go_roundw
          case rel => exact ⟨k + 1, _, by omega, by go_num, HNew, HO6, HR6, dz6, da6, HB6, hz6⟩
          case measure => simp [intOf]; omega
    · obtain rfl : k = n := by omega
      obtain ⟨_, hrow, _⟩ := HBu.out.row
      obtain ⟨va, vc, rfl⟩ := own_form hrow
      obtain ⟨d0, d1, _⟩ := box_cells HO.out
      obtain ⟨r0, r1, rf⟩ := box_cells HR.out
      obtain ⟨G, C, hops⟩ := HBu.out.ops (fs := fs.map (sfO pl (zn : Int) xs)) (fun j hj => HFf.out j (by have := HV.out.1; omega))
      have HOps := Lib.hid hops
      have HLen : Hid (k = (fs.map (sfO pl (zn : Int) xs)).length) := by unfold Hid; rw [List.length_map, HV.out.1]
      clear hrow hops
      go_wp2_with fail
      have hK : ∀ (v1 v2 : Value), Kept (w1.heap.size + 1) wo.heap.size wo ((wo.setCell ⟨w.heap.size + 1, 0, none⟩ v1).setCell ⟨w.heap.size + 1, 1, none⟩ v2) := by
        intro v1 v2 q h1 h2
        rw [Below.heap_setCell _ _ _ _ (by show q ≠ w.heap.size + 1; omega), Below.heap_setCell _ _ _ _ (by show q ≠ w.heap.size + 1; omega)]
      refine bodyPost_ret (v := .agg #[.int .i64 (m : Int), .slice va k vc]) (by simp [results, Try.results74, go_sem, r0, r1]) rfl ⟨va, k, vc, G, C, rfl, HLen.out, ((HOps.out.kept (hK _ _)).lo_mono (by omega)).hi_mono (by simp [World.setCell]), ((HB1.out.trans (HBr.out.mono HB1.out.size)).setCell (by show w.heap.size ≤ w.heap.size + 1; omega) _).setCell (by show w.heap.size ≤ w.heap.size + 1; omega) _⟩
end

section
open Go.RowKit
set_option linter.unusedVariables false
set_option linter.unusedSimpArgs false

set_option maxHeartbeats 2000000 in
theorem specQuotientAlgebra (lo hi : Nat) (z : Int) (ao : Option Addr) (c n : Nat) (fs : List OpD) (lo2 hi2 : Nat) (bo : Option Addr) (d m : Nat) (xs : List Int) (w : World) (hv : OView w lo hi ao n fs) (hhi : hi ≤ w.heap.size) (hs : ∀ (j : Nat) (f : OpD), fs[j]? = some f → f.2.length ≤ maxLen)
    (hx : IView w lo2 hi2 bo m xs) (hhi2 : hi2 ≤ w.heap.size) (hm : m ≤ maxLen) :
    Calls Try.prog 34 #[.agg #[.int .i64 z, .slice ao n c], .slice bo m d] w fun e w' => ResA w w' (valQuotientAlgebra z fs xs).1 (valQuotientAlgebra z fs xs).2.1 (valQuotientAlgebra z fs xs).2.2 e := by
  have hB := below_then (below_alloc w (.cells #[.int .i64 z, .slice ao n c] 31)) (below_alloc _ (.cells #[.int .i64 0, .slice none 0 0] 31))
  have HB := Lib.hid hB
  have HR0 : Hid (((w.alloc (.cells #[.int .i64 z, .slice ao n c] 31)).alloc (.cells #[.int .i64 0, .slice none 0 0] 31)).heap[w.heap.size + 1]? = some (.cells #[.int .i64 0, .slice none 0 0] 31 (0, 0))) := by
    have h := heap_alloc_new (w.alloc (.cells #[.int .i64 z, .slice ao n c] 31)) (.cells #[.int .i64 0, .slice none 0 0] 31)
    rw [World.size_alloc] at h
    exact h
  have HZ0 : Hid (((w.alloc (.cells #[.int .i64 z, .slice ao n c] 31)).alloc (.cells #[.int .i64 0, .slice none 0 0] 31)).cell? ⟨w.heap.size, 0, none⟩ = some (.int .i64 z)) := cell_b (below_alloc _ _) (by simp)
  have HA0 : Hid (((w.alloc (.cells #[.int .i64 z, .slice ao n c] 31)).alloc (.cells #[.int .i64 0, .slice none 0 0] 31)).cell? ⟨w.heap.size, 1, none⟩ = some (.slice ao n c)) := cell_b (below_alloc _ _) (by simp)
  have HC := Lib.hid (takes9_any lo hi z ao c n fs lo2 hi2 bo d m xs _ (hv.kept (Kept.of_below hB hhi)) (Nat.le_trans hhi hB.size) hs (hx.kept (Kept.of_below hB hhi2)) (Nat.le_trans hhi2 hB.size) hm)
  unfold ResA valQuotientAlgebra
  cases hb : cngB z fs xs with
  | false =>
    simp only [hb] at HC
    rw [if_neg (by simp)]
    clear hv hx hs hm hB hb
    go_enter Try.func34, Try.ntmps34
    go_wp2_with fail
    refine HC.out.mono ?_
    rintro e w1 ⟨rfl, b1⟩
    have HB1 := Lib.hid (HB.out.trans (b1.mono HB.out.size))
    obtain ⟨r0, r1, rf⟩ := box_cells ((b1.block _ (by simp)).trans HR0.out)
    clear b1
    go_wp2_with fail
    exact bodyPost_ret (v := .tuple #[.agg #[.int .i64 0, .slice none 0 0], .bool false]) (by simp [results, Try.results34, go_sem, r0, r1]) rfl ⟨none, 0, 0, fun _ => 0, fun _ => 0, rfl, rfl, OwnsOps.nil _ _ _ _ _ _, (HB1.out.setCell (by show w.heap.size ≤ w.heap.size + 1; omega) _).setCell (by show w.heap.size ≤ w.heap.size + 1; omega) _⟩
  | true =>
    simp only [hb] at HC
    rw [if_pos rfl]
    obtain ⟨hok, z1, z8, ho⟩ := cng_ok hb
    obtain ⟨_, hpt, _⟩ := cngB_of hb
    obtain ⟨zn, rfl⟩ : ∃ zn : Nat, z = (zn : Int) := ⟨z.toNat, by omega⟩
    have hxm := hx.1
    have hpl := (partB_of hpt).1
    have hoA := (partB_of hpt).2
    obtain rfl : m = zn := by omega
    have hoB : okAll (gI xs) m = true := by rwa [hxm] at hoA
    unfold qtF
    simp only [Int.toNat_natCast] at ho ⊢
    have HQ := Lib.hid (fun (W : World) (hW : Below w.heap.size w W) => l9Quot_any lo hi m ao c n fs lo2 hi2 bo d xs (extP xs) W (hv.kept (Kept.of_below hW hhi)) (Nat.le_trans hhi hW.size) hok (hx.kept (Kept.of_below hW hhi2)) (Nat.le_trans hhi2 hW.size) hoB (fun y hy => extP_lt (by omega)))
    obtain ⟨t, ht⟩ : ∃ t, (leP (extP xs) m).length = t := ⟨_, rfl⟩
    obtain ⟨gs, hgs⟩ : ∃ gs, fs.map (fun f => sfO (fun y => naI (extP xs) y.toNat) (m : Int) (leP (extP xs) m) f) = gs := ⟨_, rfl⟩
    have hgs2 : fs.map (sfO (fun y => naI (extP xs) y.toNat) (m : Int) (leP (extP xs) m)) = gs := hgs
    rw [hgs2, ht] at HQ
    rw [ht]
    rw [show fs.map (fun f => sfO (fun y => naI (extP xs) y.toNat) (m : Int) (leP (extP xs) m) f) = gs from hgs]
    unfold NewAlgQ at HQ
    clear hv hx hs hm hB hb hok z1 z8 ho ht hgs hgs2 hpt hxm hpl hoA hoB
    go_enter Try.func34, Try.ntmps34
    go_wp2_with fail
    refine HC.out.mono ?_
    rintro e w1 ⟨rfl, b1⟩
    have HB1 := Lib.hid (HB.out.trans (b1.mono HB.out.size))
    have HR1 := Lib.hid ((b1.block _ (by simp)).trans HR0.out)
    have cz1 := cell_b b1 HZ0.out
    have ca1 := cell_b b1 HA0.out
    have hs1 : w.heap.size + 1 < w1.heap.size := by have := b1.size; simp at this; omega
    clear b1
    go_wp2_with fail
    refine (HQ.out _ HB1.out).mono ?_
    rintro e w2 ⟨a, k, cc, G, C, rfl, hk, hops, b2⟩
    have HB2 := Lib.hid (HB1.out.trans (b2.mono HB1.out.size))
    obtain ⟨r0, r1, rf⟩ := box_cells ((b2.block _ hs1).trans HR1.out)
    have HK := Lib.hid hk
    have HOps := Lib.hid hops
    clear b2 hk hops cz1 ca1
    go_wp2_with fail
    have hK : ∀ (v1 v2 : Value), Kept w1.heap.size w2.heap.size w2 ((w2.setCell ⟨w.heap.size + 1, 0, none⟩ v1).setCell ⟨w.heap.size + 1, 1, none⟩ v2) := by
      intro v1 v2 q h1 h2
      rw [Below.heap_setCell _ _ _ _ (by show q ≠ w.heap.size + 1; omega), Below.heap_setCell _ _ _ _ (by show q ≠ w.heap.size + 1; omega)]
    exact bodyPost_ret (v := .tuple #[.agg #[.int .i64 (t : Int), .slice a k cc], .bool true]) (by simp [results, Try.results34, go_sem, r0, r1]) rfl ⟨a, k, cc, G, C, rfl, HK.out, ((HOps.out.kept (hK _ _)).lo_mono HB1.out.size).hi_mono (by simp [World.setCell]), (HB2.out.setCell (by show w.heap.size ≤ w.heap.size + 1; omega) _).setCell (by show w.heap.size ≤ w.heap.size + 1; omega) _⟩
end

end Go.Proofs.Ytcmjkfcgekmomaa
