/-
  QtM, QtL, QtI, QtO, FnC, Two9, CrsI, CrsS in one text. Conditions: as each theorem names them.
-/
import Derived.Test.YtcmjkfcgekmomaaKrlM
import Derived.Test.YtcmjkfcgekmomaaPartM
import Derived.Test.YtcmjkfcgekmomaaSetQ
import Derived.Test.YtcmjkfcgekmomaaClone
import Derived.Test.YtcmjkfcgekmomaaStep
import Derived.Test.YtcmjkfcgekmomaaPartL
import Derived.Test.YtcmjkfcgekmomaaPlc
import Derived.Test.YtcmjkfcgekmomaaApp
import Derived.Test.YtcmjkfcgekmomaaBuilt
import Derived.Deep.RegionHeld3
import Derived.Maps.AppendAt
import Derived.Test.YtcmjkfcgekmomaaCgJ
import Derived.Test.YtcmjkfcgekmomaaPartK
import Derived.Deep.MidRow
namespace Go.Proofs.Ytcmjkfcgekmomaa
section
open Go.RowKit
set_option linter.unusedVariables false
set_option linter.unusedSimpArgs false

/-- The least elements of blocks below k. -/
def leP (f : Nat → Int) : Nat → List Int
  | 0 => []
  | k + 1 => leP f k ++ (if f k = (k : Int) then [(k : Int)] else [])
theorem leP_yes {f : Nat → Int} {k : Nat} (h : f k = (k : Int)) : leP f (k + 1) = leP f k ++ [(k : Int)] := by rw [leP, if_pos h]
theorem leP_no {f : Nat → Int} {k : Nat} (h : ¬ f k = (k : Int)) : leP f (k + 1) = leP f k := by rw [leP, if_neg h, List.append_nil]
theorem leP_mem {f : Nat → Int} {v : Int} : ∀ {k : Nat}, v ∈ leP f k ↔ ∃ y : Nat, y < k ∧ f y = (y : Int) ∧ v = (y : Int)
  | 0 => by simp [leP]
  | k + 1 => by
    rw [leP, List.mem_append, leP_mem (k := k)]
    constructor
    · rintro (⟨y, h1, h2, h3⟩ | h)
      · exact ⟨y, by omega, h2, h3⟩
      · by_cases hk : f k = (k : Int)
        · rw [if_pos hk] at h
          exact ⟨k, by omega, hk, by simpa using h⟩
        · rw [if_neg hk] at h; cases h
    · rintro ⟨y, h1, h2, h3⟩
      by_cases hy : y < k
      · exact .inl ⟨y, hy, h2, h3⟩
      · obtain rfl : y = k := by omega
        right
        rw [if_pos h2, h3]; simp
theorem leP_len (f : Nat → Int) : ∀ k, (leP f k).length ≤ k
  | 0 => Nat.le_refl _
  | k + 1 => by
    have := leP_len f k
    rw [leP, List.length_append]
    split <;> simp <;> omega
theorem leP_congr {f g : Nat → Int} : ∀ {k : Nat}, (∀ x, x < k → f x = g x) → leP f k = leP g k
  | 0, _ => rfl
  | k + 1, h => by rw [leP, leP, leP_congr fun x hx => h x (by omega), h k (by omega)]
theorem leP_pre (f : Nat → Int) (k : Nat) : ∀ d, ∃ r, leP f (k + d) = leP f k ++ r
  | 0 => ⟨[], by simp⟩
  | d + 1 => by
    obtain ⟨r, hr⟩ := leP_pre f k d
    exact ⟨r ++ (if f (k + d) = ((k + d : Nat) : Int) then [((k + d : Nat) : Int)] else []), by rw [← Nat.add_assoc, leP, hr, List.append_assoc]⟩
theorem ixP_app {v : Int} {r : List Int} : ∀ {l : List Int}, v ∈ l → ixP (l ++ r) v = ixP l v
  | [], h => by cases h
  | y :: l, h => by
    rw [List.cons_append, ixP, ixP]
    by_cases hy : y = v
    · rw [if_pos hy, if_pos hy]
    · rw [if_neg hy, if_neg hy, ixP_app (by rcases List.mem_cons.1 h with h | h; exact absurd h.symm hy; exact h)]
theorem plI_app {v : Int} {l r : List Int} (h : v ∈ l) : plI (l ++ r) v = plI l v := by
  unfold plI
  rw [if_pos h, if_pos (List.mem_append_left _ h), ixP_app h]
theorem plI_last {v : Int} {l : List Int} (h : ¬ v ∈ l) : plI (l ++ [v]) v = (l.length : Int) := by
  refine plI_hit (q := l.length) ?_ ?_
  · rw [List.getElem?_append_right (Nat.le_refl _), Nat.sub_self]; rfl
  · rw [List.take_append_of_le_length (Nat.le_refl _), List.take_length]; exact h
/-- The number of the block of an element. -/
def naI (f : Nat → Int) (x : Nat) : Int := plI (leP f (x + 1)) (f x)
theorem naI_new {f : Nat → Int} {x : Nat} (h : f x = (x : Int)) : naI f x = ((leP f x).length : Int) := by
  unfold naI
  rw [leP_yes h, h]
  refine plI_last fun hm => ?_
  obtain ⟨y, h1, h2, h3⟩ := leP_mem.1 hm
  omega
theorem naI_old {f : Nat → Int} {x y : Nat} (h : f x = (y : Int)) (hy : y < x) (hf : f y = (y : Int)) : naI f x = naI f y := by
  unfold naI
  obtain ⟨r, hr⟩ := leP_pre f (y + 1) (x - y)
  rw [show y + 1 + (x - y) = x + 1 by omega] at hr
  rw [hr, h, hf]
  exact plI_app (leP_mem.2 ⟨y, by omega, hf, rfl⟩)
theorem plI_lt {l : List Int} {v : Int} (h : v ∈ l) : 0 ≤ plI l v ∧ plI l v < l.length := by
  unfold plI
  rw [if_pos h]
  have := ixP_lt h
  omega
theorem naI_bd {f : Nat → Int} {n x : Nat} (hf : okAll f n = true) (hx : x < n) : 0 ≤ naI f x ∧ naI f x < (leP f (x + 1)).length := by
  obtain ⟨⟨h0, h1⟩, h2⟩ := okAll_get hf hx
  refine plI_lt (leP_mem.2 ⟨(f x).toNat, by omega, by rw [h2]; omega, by omega⟩)
theorem naI_congr {f g : Nat → Int} {x : Nat} (h : ∀ y, y < x + 1 → f y = g y) : naI f x = naI g x := by
  unfold naI; rw [leP_congr h, h x (by omega)]
end

section
open Go.RowKit
set_option linter.unusedVariables false
set_option linter.unusedSimpArgs false

set_option maxHeartbeats 2000000 in
theorem l9Map_any (lo hi : Nat) (ao : Option Addr) (c m : Nat) (xs : List Int) (w : World) (hx : IView w lo hi ao m xs) (hhi : hi ≤ w.heap.size) (h1 : 1 ≤ m) (h8 : m ≤ 8) (hok : okAll (gI xs) m = true) :
    Calls Try.prog 72 #[.slice ao m c] w fun e w' => NewInts w w' m (lstP m (naI (gI xs))) e := by
  obtain ⟨b, o, rfl, _, hbh, hc⟩ := hx.at_ (show 0 < m by omega)
  have hl := hx.1
  obtain ⟨f, hf⟩ : ∃ f, gI xs = f := ⟨_, rfl⟩
  have HC0 : Hid (∀ j, j < m → w.cell? ⟨b, o + j, none⟩ = some (.int .i64 (f j))) := fun j hj => by rw [← hf]; exact hc j _ (get_gI hl hj)
  rw [hf] at hok ⊢
  have HOk := Lib.hid hok
  have hb : b < w.heap.size := by omega
  obtain ⟨i0, hi0, hz0, hz1, hz2⟩ := info_parts Try.infoInt
  have HO0 := Lib.hid (World.ownsRow_lit (base := w.heap.size) (e := 3) (size := 1) w #[] 0 (Nat.le_refl _) (by decide) rfl)
  have HB0 := Lib.hid (below_alloc w (.cells #[] 3))
  clear hx hc hl hf hok
  unfold NewInts
  go_enter Try.func72, Try.ntmps72
  go_wp2_with fail
  go_loopw [3, 4, 5] (fun v cn i wr => ∃ k g d : Nat, k ≤ m ∧ i = .int .i64 (k : Int) ∧ cn = .int .i64 ((leP f k).length : Int) ∧ v = .slice (some ⟨g, 0, none⟩) k d ∧ Hid (wr.ownsRow w.heap.size 3 1 (.slice (some ⟨g, 0, none⟩) k d) k ((lstP k (naI f)).map (Value.int .i64))) ∧ Hid (Below w.heap.size w wr)) (fun _ _ i _ => m - (intOf i).toNat)
  case atStart => exact ⟨0, _, _, Nat.zero_le _, rfl, rfl, rfl, HO0, HB0⟩
  case round =>
    obtain ⟨k, g, d, hk, rfl, rfl, rfl, HR, HBr⟩ := hrel
    by_cases hlt : k < m
    · have hkm : (k : Int) < (m : Int) := by omega
      have e1 : wr.cell? ⟨b, o + k, none⟩ = some (.int .i64 (f k)) := (HBr.out.cell (p := ⟨b, o + k, none⟩) hb).trans (HC0.out k hlt)
      obtain ⟨⟨h0, hk1⟩, hff⟩ := okAll_get HOk.out hlt
      have hle := leP_len f k
      by_cases hfk : f k = (k : Int)
      · have HNew : Hid (lstP (k + 1) (naI f) = lstP k (naI f) ++ [((leP f k).length : Int)]) := by unfold Hid; rw [lstP_succ, naI_new hfk]
        have HLe : Hid (((leP f (k + 1)).length : Int) = ((leP f k).length : Int) + 1) := by unfold Hid; rw [leP_yes hfk, List.length_append]; simp
        obtain ⟨t, ht⟩ : ∃ t, (leP f k).length = t := ⟨_, rfl⟩
        rw [ht] at HNew HLe hle ⊢
        rw [hfk] at e1
        clear h0 hk1 hff hfk ht
        go_wp2_with (at_builtin; refine wpList_append_own _ rfl _ _ 25 rfl w.heap.size 3 i0 (.int .i64 0) 1 8 Try.underlying25 hi0 hz0 hz1 hz2 rfl (by decide) (.slice (some ⟨g, 0, none⟩) k d) k ((lstP k (naI f)).map (Value.int .i64)) rfl (HR.out.alloc _) ⟨_, 0, none⟩ 1 1 [.int .i64 (t : Int)] rfl rfl (cell_one_new _ _ _) (fun x hx => by simp at hx; subst hx; rfl) (by unfold maxLen; omega) (by omega) (by have := HBr.out.size; simp; omega) ?_; intro v' w3 hown' hgrow' hnil')
        obtain ⟨g3, cap, rfl⟩ := ownsRow_succ hown'
        have HB3 := Lib.hid ((HBr.out.alloc HBr.out.size (.cells #[.int .i64 (t : Int)] 3)).grown hgrow' (by have := HBr.out.size; simp; omega) (fun q hq => (HR.out.lt q hq).1))
        have HO3 : Hid (w3.ownsRow w.heap.size 3 1 (.slice (some ⟨g3, 0, none⟩) (k + 1) cap) (k + 1) ((lstP (k + 1) (naI f)).map (Value.int .i64))) := by
          unfold Hid
          rw [HNew.out, List.map_append]
          exact hown'
        clear hown' hgrow' hnil'
        go_wp2_with fail
        go_roundw
        case rel => exact ⟨k + 1, g3, cap, by omega, by go_num, by rw [HLe.out], rfl, HO3, HB3⟩
        case measure => simp [intOf]; omega
      · obtain ⟨y, hy⟩ : ∃ y : Nat, f k = (y : Int) := ⟨(f k).toNat, by omega⟩
        have hyk : y < k := by
          rcases Nat.lt_or_ge y k with h | h
          · exact h
          · exact absurd (show f k = (k : Int) by omega) hfk
        have hfy : f y = (y : Int) := by rw [hy, Int.toNat_natCast] at hff; exact hff
        obtain ⟨u, hu⟩ : ∃ u, naI f y = u := ⟨_, rfl⟩
        have HNew : Hid (lstP (k + 1) (naI f) = lstP k (naI f) ++ [u]) := by unfold Hid; rw [lstP_succ, naI_old hy hyk hfy, hu]
        have HLe : Hid (leP f (k + 1) = leP f k) := leP_no hfk
        have e2 : wr.cell? ⟨g, y, none⟩ = some (.int .i64 u) := by
          have h_ := HR.out.cellAt y (by omega)
          rw [List.getElem?_map, lstP_get _ hyk, hu] at h_
          exact h_
        have hne : (f k == (k : Int)) = false := by rw [beq_eq_false_iff_ne]; exact hfk
        rw [hy] at e1 hne
        have hykn : (y : Int) < (k : Int) := by omega
        have hymn : (y : Int) < (m : Int) := by omega
        clear h0 hk1 hff hfk hu hy hfy
        go_wp2_with (at_builtin; refine wpList_append_own _ rfl _ _ 25 rfl w.heap.size 3 i0 (.int .i64 0) 1 8 Try.underlying25 hi0 hz0 hz1 hz2 rfl (by decide) (.slice (some ⟨g, 0, none⟩) k d) k ((lstP k (naI f)).map (Value.int .i64)) rfl (HR.out.alloc _) ⟨_, 0, none⟩ 1 1 [.int .i64 u] rfl rfl (cell_one_new _ _ _) (fun x hx => by simp at hx; subst hx; rfl) (by unfold maxLen; omega) (by omega) (by have := HBr.out.size; simp; omega) ?_; intro v' w3 hown' hgrow' hnil')
        obtain ⟨g3, cap, rfl⟩ := ownsRow_succ hown'
        have HB3 := Lib.hid ((HBr.out.alloc HBr.out.size (.cells #[.int .i64 u] 3)).grown hgrow' (by have := HBr.out.size; simp; omega) (fun q hq => (HR.out.lt q hq).1))
        have HO3 : Hid (w3.ownsRow w.heap.size 3 1 (.slice (some ⟨g3, 0, none⟩) (k + 1) cap) (k + 1) ((lstP (k + 1) (naI f)).map (Value.int .i64))) := by
          unfold Hid
          rw [HNew.out, List.map_append]
          exact hown'
        clear hown' hgrow' hnil'
        go_wp2_with fail
        go_roundw
        case rel => exact ⟨k + 1, g3, cap, by omega, by go_num, by rw [HLe.out], rfl, HO3, HB3⟩
        case measure => simp [intOf]; omega
    · have hkm : ¬ (k : Int) < (m : Int) := by omega
      obtain rfl : k = m := by omega
      go_wp2_with fail
      go_ret
      exact ⟨g, d, rfl, HR.out, HBr.out⟩
end

section
open Go.RowKit
set_option linter.unusedVariables false
set_option linter.unusedSimpArgs false

/-- The cells of a quotient. -/
def qtArr (z : Int) (ao : Option Addr) (n c : Nat) (f : Nat → Int) (va vb : Value) : Array Value :=
  #[.int .i64 z, .slice ao n c, .int .i64 (f 0), .int .i64 (f 1), .int .i64 (f 2), .int .i64 (f 3), .int .i64 (f 4), .int .i64 (f 5), .int .i64 (f 6), .int .i64 (f 7), va, vb]
theorem qt_cells {W : World} {Q : Nat} {z : Int} {ao : Option Addr} {n c : Nat} {f : Nat → Int} {va vb : Value} (h : W.heap[Q]? = some (.cells (qtArr z ao n c f va vb) 76 (0, 0))) :
    W.cell? ⟨Q, 0, none⟩ = some (.int .i64 z) ∧ W.cell? ⟨Q, 1, none⟩ = some (.slice ao n c) ∧ W.cell? ⟨Q, 10, none⟩ = some va ∧ W.cell? ⟨Q, 11, none⟩ = some vb ∧ (∀ j, W.frozen? ⟨Q, j, none⟩ = false) :=
  ⟨by rw [cell_of_row W Q 0 _ _ (0, 0) h]; rfl, by rw [cell_of_row W Q 1 _ _ (0, 0) h]; rfl, by rw [cell_of_row W Q 10 _ _ (0, 0) h]; rfl, by rw [cell_of_row W Q 11 _ _ (0, 0) h]; rfl, fun j => by simp [World.frozen?, h]⟩
theorem qt_set10 {W : World} {Q : Nat} {z : Int} {ao : Option Addr} {n c : Nat} {f : Nat → Int} {va vb : Value} (v : Value) (h : W.heap[Q]? = some (.cells (qtArr z ao n c f va vb) 76 (0, 0))) : (W.setCell ⟨Q, 10, none⟩ v).heap[Q]? = some (.cells (qtArr z ao n c f v vb) 76 (0, 0)) := by
  simp [World.setCell, Array.getElem?_modify, h, qtArr]
theorem qt_set11 {W : World} {Q : Nat} {z : Int} {ao : Option Addr} {n c : Nat} {f : Nat → Int} {va vb : Value} (v : Value) (h : W.heap[Q]? = some (.cells (qtArr z ao n c f va vb) 76 (0, 0))) : (W.setCell ⟨Q, 11, none⟩ v).heap[Q]? = some (.cells (qtArr z ao n c f va v) 76 (0, 0)) := by
  simp [World.setCell, Array.getElem?_modify, h, qtArr]

/-- A quotient under way: its box Q, the array A, the least elements up to k1 and the numbers up to k. -/
structure QtS (W : World) (A Q : Nat) (z : Int) (ao : Option Addr) (n c : Nat) (f : Nat → Int) (k1 k : Nat) (va vb : Value) : Prop where
  box : W.heap[Q]? = some (.cells (qtArr z ao n c f va vb) 76 (0, 0))
  arr : ArrAt W A f
  les : W.ownsRow (Q + 1) 3 1 va (leP f k1).length ((leP f k1).map (Value.int .i64))
  nat : W.ownsRow (Q + 1) 3 1 vb k ((lstP k (naI f)).map (Value.int .i64))
  ne : ∀ b, va.ownBlock = some b → vb.ownBlock ≠ some b
theorem QtS.lt {W : World} {A Q : Nat} {z : Int} {ao : Option Addr} {n c : Nat} {f : Nat → Int} {k1 k : Nat} {va vb : Value} (h : QtS W A Q z ao n c f k1 k va vb) : Q < W.heap.size := (Array.getElem?_eq_some_iff.1 h.box).1
theorem QtS.boxGrown {W w3 : World} {A Q : Nat} {z : Int} {ao : Option Addr} {n c : Nat} {f : Nat → Int} {k1 k : Nat} {va vb : Value} (h : QtS W A Q z ao n c f k1 k va vb) {ob : Obj} (hg : (W.drew.alloc ob).grownBy w3 vb.ownBlock) : w3.heap[Q]? = some (.cells (qtArr z ao n c f va vb) 76 (0, 0)) := by
  have hl := h.lt
  refine (hg.block Q (by simp; omega) (fun e => ?_)).trans ((Below.heap_alloc _ _ _ (show Q < W.drew.heap.size from hl)).trans h.box)
  have := (h.nat.lt Q e.symm).1
  omega
theorem QtS.natPut {W w3 : World} {A Q : Nat} {z : Int} {ao : Option Addr} {n c : Nat} {f : Nat → Int} {k1 k k' : Nat} {va vb v' : Value} (h : QtS W A Q z ao n c f k1 k va vb) (hA : A < Q) {ob : Obj}
    (hown : w3.ownsRow (Q + 1) 3 1 v' k' ((lstP k' (naI f)).map (Value.int .i64))) (hg : (W.drew.alloc ob).grownBy w3 vb.ownBlock) (hat : v'.ownBlock = vb.ownBlock ∨ v'.ownBlock = some (W.drew.alloc ob).heap.size) : QtS (w3.setCell ⟨Q, 11, none⟩ v') A Q z ao n c f k1 k' va v' := by
  have hl := h.lt
  have hs : (W.drew.alloc ob).heap.size = W.heap.size + 1 := by simp
  refine ⟨qt_set11 v' (h.boxGrown hg), ?_, ?_, ownsRow_setCell_below hown (show Q < Q + 1 by omega) _, ?_⟩
  · have h1 : ArrAt (W.drew.alloc ob) A f := ArrAt.alloc (show ArrAt W.drew A f from h.arr) ob
    have h2 := h1.block (hg.block A h1.lt (fun e => by have := (h.nat.lt A e.symm).1; omega))
    exact h2.setOther (by omega) 11 _
  · have h1 : (W.drew.alloc ob).ownsRow (Q + 1) 3 1 va (leP f k1).length ((leP f k1).map (Value.int .i64)) := World.ownsRow.alloc (show W.drew.ownsRow _ _ _ _ _ _ from h.les) ob
    refine ownsRow_setCell_below (h1.kept hg ?_) (show Q < Q + 1 by omega) _
    cases hb : va.ownBlock with
    | none => exact .inl rfl
    | some b => exact .inr (fun e => h.ne b hb e.symm)
  · intro b hb hb2
    rcases hat with e | e
    · exact h.ne b hb (e ▸ hb2)
    · rw [e] at hb2
      injection hb2 with hb2
      have := (h.les.lt b hb).2
      omega
theorem QtS.lesPut {W w3 : World} {A Q : Nat} {z : Int} {ao : Option Addr} {n c : Nat} {f : Nat → Int} {k1 k1' k : Nat} {va vb v' : Value} (h : QtS W A Q z ao n c f k1 k va vb) (hA : A < Q) {ob : Obj}
    (hown : w3.ownsRow (Q + 1) 3 1 v' (leP f k1').length ((leP f k1').map (Value.int .i64))) (hg : (W.alloc ob).grownBy w3 va.ownBlock) (hat : v'.ownBlock = va.ownBlock ∨ v'.ownBlock = some (W.alloc ob).heap.size) :
    QtS (w3.setCell ⟨Q, 10, none⟩ v') A Q z ao n c f k1' k v' vb ∧ w3.heap[Q]? = some (.cells (qtArr z ao n c f va vb) 76 (0, 0)) := by
  have hl := h.lt
  have hs : (W.alloc ob).heap.size = W.heap.size + 1 := by simp
  have hbx : w3.heap[Q]? = some (.cells (qtArr z ao n c f va vb) 76 (0, 0)) := by
    refine (hg.block Q (by omega) (fun e => ?_)).trans ((Below.heap_alloc _ _ _ hl).trans h.box)
    have := (h.les.lt Q e.symm).1
    omega
  refine ⟨⟨qt_set10 v' hbx, ?_, ownsRow_setCell_below hown (show Q < Q + 1 by omega) _, ?_, ?_⟩, hbx⟩
  · have h1 : ArrAt (W.alloc ob) A f := h.arr.alloc ob
    have h2 := h1.block (hg.block A h1.lt (fun e => by have := (h.les.lt A e.symm).1; omega))
    exact h2.setOther (by omega) 10 _
  · refine ownsRow_setCell_below ((h.nat.alloc ob).kept hg ?_) (show Q < Q + 1 by omega) _
    cases hb : va.ownBlock with
    | none =>
      cases hb2 : vb.ownBlock with
      | none => exact .inl rfl
      | some b => exact .inr (by simp)
    | some b => exact .inr (h.ne b hb)
  · intro b hb hb2
    rcases hat with e | e
    · exact h.ne b (e ▸ hb) hb2
    · rw [e] at hb
      injection hb with hb
      have := (h.nat.lt b hb2).2
      omega
theorem QtS.more {W : World} {A Q : Nat} {z : Int} {ao : Option Addr} {n c : Nat} {f : Nat → Int} {k1 k k1' : Nat} {va vb : Value} (h : QtS W A Q z ao n c f k1 k va vb) (he : leP f k1' = leP f k1) : QtS W A Q z ao n c f k1' k va vb :=
  ⟨h.box, h.arr, by rw [he]; exact h.les, h.nat, h.ne⟩

/-- A new quotient. -/
def NewQt (w w' : World) (z : Nat) (ao : Option Addr) (n c : Nat) (f : Nat → Int) (e : Ending) : Prop := ∃ va vb, e = .returned (.pointer (some ⟨w.heap.size + 1 + 1, 0, none⟩)) ∧ QtS w' (w.heap.size + 1) (w.heap.size + 1 + 1) (z : Int) ao n c f z z va vb ∧ Below w.heap.size w w'

set_option maxHeartbeats 8000000 in
set_option maxRecDepth 100000 in
theorem quotBy_any (z : Nat) (ao : Option Addr) (c n : Nat) (f : Nat → Int) (w : World) (hz1 : 1 ≤ z) (hz8 : z ≤ 8) (hf : okAll f z = true) :
    Calls Try.prog 118 #[.agg #[.int .i64 (z : Int), .slice ao n c], .agg (arrV f)] w fun e w' => NewQt w w' z ao n c f e := by
  have HP0 : Hid (ArrAt ((w.alloc (.cells #[.int .i64 (z : Int), .slice ao n c] 31)).alloc (.cells (arrV f) 70)) (w.heap.size + 1) f) := by
    unfold Hid
    have h := ArrAt.new (w.alloc (.cells #[.int .i64 (z : Int), .slice ao n c] 31)) f
    simp only [World.size_alloc] at h
    exact h
  obtain ⟨w2, hw2⟩ : ∃ w2, w2 = (w.alloc (.cells #[.int .i64 (z : Int), .slice ao n c] 31)).alloc (.cells (arrV f) 70) := ⟨_, rfl⟩
  obtain ⟨w3, hw3⟩ : ∃ w3, w3 = w2.alloc (.cells (qtArr (z : Int) ao n c f (.slice none 0 0) (.slice none 0 0)) 76) := ⟨_, rfl⟩
  have hs2 : w2.heap.size = w.heap.size + 1 + 1 := by rw [hw2]; simp
  have HQ0 : Hid (QtS w3 (w.heap.size + 1) (w.heap.size + 1 + 1) (z : Int) ao n c f 0 0 (.slice none 0 0) (.slice none 0 0)) := by
    unfold Hid
    refine ⟨?_, ?_, World.ownsRow_nil _ _ _ _, World.ownsRow_nil _ _ _ _, fun b hb => by simp [Value.ownBlock] at hb⟩
    · rw [hw3, ← hs2]; exact heap_alloc_new _ _
    · rw [hw3]; have h_ := HP0.out; rw [← hw2] at h_; exact h_.alloc _
  have HB0 : Hid (Below w.heap.size w w3) := by unfold Hid; rw [hw3, hw2]; exact below_then (below_then (below_alloc _ _) (below_alloc _ _)) (below_alloc _ _)
  rw [hw2] at hw3
  have HW3 := Lib.hid hw3
  have HFo := Lib.hid hf
  have hzn : (z : Int) ≤ 8 := by omega
  obtain ⟨j0, hj0, hy0, hy1, hy2⟩ := info_parts Try.infoInt
  clear hw2 hw3 hs2 hf
  go_enter Try.func118, Try.ntmps118
  go_wp2_with (refine ld8 HP0.out rfl _ rfl rfl ?_; simp only [arrV])
  have hW3 := HW3.out
  simp only [arrV, qtArr] at hW3
  rw [← hW3]
  clear hW3 HW3 HP0
  obtain ⟨A, hA⟩ : ∃ A, A = w.heap.size + 1 := ⟨_, rfl⟩
  obtain ⟨Q, hQ⟩ : ∃ Q, Q = w.heap.size + 1 + 1 := ⟨_, rfl⟩
  rw [← hQ, ← hA] at HQ0
  rw [← hQ, ← hA]
  have hAQ : A < Q := by omega
  have hwQ : w.heap.size < Q := by omega
  have HAe := Lib.hid hA
  have HQe := Lib.hid hQ
  clear hA hQ
  go_loopw [6, 7, 16] (fun _ _ i wr => ∃ (k : Nat) (va vb : Value), k ≤ z ∧ i = .int .i64 (k : Int) ∧ Hid (QtS wr A Q (z : Int) ao n c f k k va vb) ∧ Hid (Below w.heap.size w wr)) (fun _ _ i _ => z - (intOf i).toNat)
  case atStart => exact ⟨0, _, _, Nat.zero_le _, rfl, HQ0, HB0⟩
  case round =>
    obtain ⟨k, va, vb, hk, rfl, HQk, HBr⟩ := hrel
    clear HQ0 HB0
    by_cases hlt : k < z
    · have hkn : (k : Int) < (z : Int) := by omega
      obtain ⟨⟨h0, h1⟩, hff⟩ := okAll_get HFo.out hlt
      have ek := HQk.out.arr.cell (k := k) (by omega)
      by_cases hfk : f k = (k : Int)
      · obtain ⟨d0, d1, d10, d11_, df⟩ := qt_cells HQk.out.box
        have f10 := df 10
        rw [hfk] at ek
        have HFk := Lib.hid hfk
        have HFf := Lib.hid hff
        have HH := Lib.hid (And.intro h0 h1)
        have hl8 := leP_len f k
        clear d0 d1 d11_ df hfk hff h0 h1
        go_wp2_with (at_builtin; refine wpList_append_own_at _ rfl _ _ 25 rfl (Q + 1) 3 j0 (.int .i64 0) 1 8 Try.underlying25 hj0 hy0 hy1 hy2 rfl (by decide) va (leP f k).length ((leP f k).map (Value.int .i64)) rfl (HQk.out.les.alloc _) ⟨_, 0, none⟩ 1 1 [.int .i64 (k : Int)] rfl rfl (cell_one_new _ _ _) (fun x hx => by simp at hx; subst hx; rfl) (by unfold maxLen; omega) (by omega) (by have := HQk.out.lt; simp; omega) ?_; intro v' w3 hown' hgrow' hnil' hat'; obtain ⟨g', cap', rfl⟩ := ownsRow_succ hown'; have hown2 : w3.ownsRow (Q + 1) 3 1 (.slice (some ⟨g', 0, none⟩) ((leP f k).length + 1) cap') (leP f (k + 1)).length ((leP f (k + 1)).map (Value.int .i64)) := (by rw [leP_yes HFk.out, List.map_append, List.length_append]; exact hown'); have hlp := HQk.out.lesPut hAQ hown2 hgrow' hat'; have HB5_ : Hid (Below w.heap.size w w3) := (HBr.out.alloc HBr.out.size _).grown hgrow' (by have := HBr.out.size; simp; omega) (fun b hb => by have h_ := (HQk.out.les.lt b hb).1; omega); have HQs0 := Lib.hid hlp.1; have hqc := qt_cells hlp.2; have e10 := hqc.2.2.1; have ff10 := hqc.2.2.2.2 10; clear hown' hown2 hgrow' hnil' hat' hlp hqc ek d10 f10)
        clear hl8
        obtain ⟨va2, hva2⟩ : ∃ va2 : Value, va2 = .slice (some ⟨g', 0, none⟩) ((leP f k).length + 1) cap' := ⟨_, rfl⟩
        rw [← hva2] at HQs0 ⊢
        obtain ⟨wi, hwi⟩ : ∃ wi, wi = w3.setCell ⟨Q, 10, none⟩ va2 := ⟨_, rfl⟩
        have HBi : Hid (Below w.heap.size w wi) := by unfold Hid; rw [hwi]; exact HB5_.out.setCell (by show w.heap.size ≤ Q; omega) _
        have HQs := HQs0
        rw [← hwi] at HQs ⊢
        clear hwi hva2 e10 ff10 HQs0 HB5_ HQk HBr
        have hff := HFf.out
        obtain ⟨h0, h1⟩ := HH.out
        have hle := HQs.out.les
        have hmem : f k ∈ leP f (k + 1) := leP_mem.2 ⟨(f k).toNat, by omega, by rw [hff]; omega, by omega⟩
        obtain ⟨t0, ht0⟩ : ∃ t0, (leP f (k + 1)).length = t0 + 1 := ⟨(leP f (k + 1)).length - 1, by have := List.length_pos_of_mem hmem; omega⟩
        rw [ht0] at hle
        obtain ⟨g1, c1, rfl⟩ := ownsRow_succ hle
        obtain ⟨t1, ht1⟩ : ∃ t1, t0 + 1 = t1 := ⟨_, rfl⟩
        rw [ht1] at hle ht0
        have ht1p : 0 < t1 := by omega
        rw [ht1] at HQs
        have hl8 := leP_len f (k + 1)
        have hIx := fun (W : World) (hW : Below wi.heap.size wi W) => place_impl (Q + 1) wi.heap.size g1 0 t1 c1 (leP f (k + 1)) (f k) W ((IView.of_owns hle (Nat.le_refl _)).kept (Kept.of_below hW (Nat.le_refl _))) ht1p (by omega)
        obtain ⟨u, hu⟩ : ∃ u, plI (leP f (k + 1)) (f k) = u := ⟨_, rfl⟩
        have HU : Hid (naI f k = u) := hu
        rw [hu] at hIx
        simp only [HFk.out] at hIx
        have HIx := Lib.hid hIx
        have s10 : wi.cell? ⟨Q, 10, none⟩ = some (.slice (some ⟨g1, 0, none⟩) t1 c1) := (qt_cells HQs.out.box).2.2.1
        have s11 : wi.cell? ⟨Q, 11, none⟩ = some vb := (qt_cells HQs.out.box).2.2.2.1
        clear hle hmem ht1 hl8 hIx hu hff ht0
        go_wp2_with fail
        refine wp_region_noPanic ?_
        refine wp_region_held_drew (S := fun W_ => W_.cell? ⟨Q, 10, none⟩ = some (.slice (some ⟨g1, 0, none⟩) t1 c1)) (by kernel_rfl) ?_ (fun hHeld => ?_)
        · exact s10
        refine wpAnyH_take (i := 0) (oi := ⟨_, _, _, _, _, _⟩) (v := ?_) rfl (by kernel_rfl) (by kernel_rfl) (by kernel_rfl) (fun _ _ _ h => h) (Or.inl ⟨rfl, ?_⟩) (by assumption) ?_
        rotate_left 1
        · intro w_ hSw; (try dsimp only at hSw); go_simp; (try with_reducible rfl)
        (try simp only [Act.put, List.setIfInBounds_toArray, List.set_cons_zero, List.set_cons_succ])
        refine wpAnyH_take (i := 1) (oi := ⟨_, _, _, _, _, _⟩) (v := ?_) rfl (by kernel_rfl) (by kernel_rfl) (by kernel_rfl) (fun _ _ _ h => h) (Or.inl ⟨rfl, ?_⟩) (by assumption) ?_
        rotate_left 1
        · intro w_ hSw; (try dsimp only at hSw); go_simp; (try with_reducible rfl)
        (try simp only [Act.put, List.setIfInBounds_toArray, List.set_cons_zero, List.set_cons_succ])
        refine wpAnyH_take (i := 2) (oi := ⟨_, _, _, _, _, _⟩) (v := ?_) rfl (by kernel_rfl) (by kernel_rfl) (by kernel_rfl) (fun _ _ _ h => h) (Or.inl ⟨rfl, ?_⟩) (by assumption) ?_
        rotate_left 1
        · intro w_ hSw; (try dsimp only at hSw); go_simp; (try with_reducible rfl)
        (try simp only [Act.put, List.setIfInBounds_toArray, List.set_cons_zero, List.set_cons_succ])
        refine wpAnyH_take (i := 3) (oi := ⟨_, _, _, _, _, _⟩) (v := ?_) rfl (by kernel_rfl) (by kernel_rfl) (by kernel_rfl) (fun _ _ _ h => h) (Or.inl ⟨rfl, ?_⟩) (by assumption) ?_
        rotate_left 1
        · intro w_ hSw; (try dsimp only at hSw); go_simp; (try with_reducible rfl)
        (try simp only [Act.put, List.setIfInBounds_toArray, List.set_cons_zero, List.set_cons_succ])
        refine wpAnyH_take (i := 5) (oi := ⟨_, _, _, _, _, _⟩) (v := ?_) rfl (by kernel_rfl) (by kernel_rfl) (by kernel_rfl) (fun _ _ _ h => h) (Or.inl ⟨rfl, ?_⟩) (by assumption) ?_
        rotate_left 1
        · intro w_ hSw; (try dsimp only at hSw); go_simp; (try with_reducible rfl)
        (try simp only [Act.put, List.setIfInBounds_toArray, List.set_cons_zero, List.set_cons_succ])
        refine wpAnyH_take (i := 6) (oi := ⟨_, _, _, _, _, _⟩) (v := ?_) rfl (by kernel_rfl) (by kernel_rfl) (by kernel_rfl) (fun _ _ _ h => h) (Or.inl ⟨rfl, ?_⟩) (by assumption) ?_
        rotate_left 1
        · intro w_ hSw; (try dsimp only at hSw); go_simp; (try with_reducible rfl)
        (try simp only [Act.put, List.setIfInBounds_toArray, List.set_cons_zero, List.set_cons_succ])
        refine wpAnyH_take (i := 7) (oi := ⟨_, _, _, _, _, _⟩) (v := ?_) rfl (by kernel_rfl) (by kernel_rfl) (by kernel_rfl) (fun _ _ _ h => h) (Or.inl ⟨rfl, ?_⟩) (by assumption) ?_
        rotate_left 1
        · intro w_ hSw; (try dsimp only at hSw); go_simp; (try with_reducible rfl)
        (try simp only [Act.put, List.setIfInBounds_toArray, List.set_cons_zero, List.set_cons_succ])
        refine wpAnyH_take (i := 8) (oi := ⟨_, _, _, _, _, _⟩) (v := ?_) rfl (by kernel_rfl) (by kernel_rfl) (by kernel_rfl) (fun _ _ _ h => h) (Or.inl ⟨rfl, ?_⟩) (by assumption) ?_
        rotate_left 1
        · intro w_ hSw; (try dsimp only at hSw); go_simp; (try with_reducible rfl)
        (try simp only [Act.put, List.setIfInBounds_toArray, List.set_cons_zero, List.set_cons_succ])
        refine wpAnyH_take (i := 9) (oi := ⟨_, _, _, _, _, _⟩) (v := ?_) rfl (by kernel_rfl) (by kernel_rfl) (by kernel_rfl) (fun _ _ _ h => h) (Or.inl ⟨rfl, ?_⟩) (by assumption) ?_
        rotate_left 1
        · intro w_ hSw; (try dsimp only at hSw); go_simp; (try with_reducible rfl)
        (try simp only [Act.put, List.setIfInBounds_toArray, List.set_cons_zero, List.set_cons_succ])
        refine wpAnyH_ready (rs := [4, 10]) (by kernel_rfl) (by simp) ?_
        refine (AllReadyH.cons (o := ⟨_, _, _, _, _, _⟩) rfl (fun K hK => ?_) (AllReadyH.cons (o := ⟨_, _, _, _, _, _⟩) rfl (fun K hK => ?_) AllReadyH.nil))
        · go_simp
          refine hK.out _ _ ?_ (fun hHeld => ?_)
          · exact s10
          clear hK K
          (try simp only [Act.put, List.setIfInBounds_toArray, List.set_cons_zero, List.set_cons_succ])
          refine wpAnyH_ready (rs := [10]) (by kernel_rfl) (by simp) ?_
          refine (AllReadyH.cons (o := ⟨_, _, _, _, _, _⟩) rfl (fun K hK => ?_) AllReadyH.nil)
          go_simp
          go_at_call 63
          refine (HIx.out _ (below_drew _)).mono ?_
          rintro e_ w_ ⟨rfl, rfl⟩
          refine hK.out _ _ ?_ (fun hHeld => ?_)
          · exact s10
          clear hK K
          (try simp only [Act.put, List.setIfInBounds_toArray, List.set_cons_zero, List.set_cons_succ])
          refine wpAnyH_ready (rs := [11]) (by kernel_rfl) (by simp) ?_
          refine (AllReadyH.cons (o := ⟨_, _, _, _, _, _⟩) rfl (fun K hK => ?_) AllReadyH.nil)
          go_simp
          refine hK.out _ _ ?_ (fun hHeld => ?_)
          · exact cell_b ((below_alloc _ _).drew) s10
          clear hK K
          (try simp only [Act.put, List.setIfInBounds_toArray, List.set_cons_zero, List.set_cons_succ])
          refine wpAnyH_ready (rs := [12]) (by kernel_rfl) (by simp) ?_
          refine (AllReadyH.cons (o := ⟨_, _, _, _, _, _⟩) rfl (fun K hK => ?_) AllReadyH.nil)
          refine step_append_lies _ rfl _ _ _ rfl (Q + 1) 3 j0 _ 1 8 Try.underlying25 hj0 hy0 hy1 hy2 rfl (by decide) vb k ((lstP k (naI f)).map (Value.int .i64)) rfl (World.ownsRow.alloc (show wi.drew.ownsRow _ _ _ _ _ _ from HQs.out.nat) _) ⟨wi.drew.heap.size, 0, none⟩ 1 1 [.int .i64 u] rfl rfl (cell_one_new _ _ _) (by simp [Value.oneCell']) (by decide) (by unfold maxLen; omega) (by omega) (by have h_ := HQs.out.lt; show Q + 1 ≤ (wi.drew.alloc _).heap.size; simp; omega) _ rfl ?_
          intro g4 cap4 w4 hown4 hgrow4 hat4 hlt4
          have HQ4 := Lib.hid (HQs.out.natPut (k' := k + 1) (v' := .slice (some ⟨g4, 0, none⟩) (k + 1) cap4) hAQ (by rw [lstP_succ, List.map_append, HU.out]; exact hown4) hgrow4 (by rcases hat4 with h | h; exact .inl h.symm; exact .inr (by rw [h]; rfl)))
          have HB4 : Hid (Below w.heap.size w w4) := ((HBi.out.drew).alloc HBi.out.size _).grown hgrow4 (by have := HBi.out.size; show w.heap.size ≤ (wi.drew.alloc _).heap.size; simp; omega) (fun b hb => by have h_ := (HQs.out.nat.lt b hb).1; omega)
          have HBx4 : Hid (w4.heap[Q]? = some (.cells (qtArr (z : Int) ao n c f (.slice (some ⟨g1, 0, none⟩) t1 c1) vb) 76 (0, 0))) := HQs.out.boxGrown hgrow4
          have d11 := (qt_cells HBx4.out).2.2.2.1
          have f11 := (qt_cells HBx4.out).2.2.2.2 11
          clear hown4 hgrow4 hat4
          refine hK.out _ _ ?_ (fun hHeld => ?_)
          · exact (qt_cells HBx4.out).2.2.1
          clear hK K
          (try simp only [Act.put, List.setIfInBounds_toArray, List.set_cons_zero, List.set_cons_succ])
          refine wpAnyH_take (i := 13) (oi := ⟨_, _, _, _, _, _⟩) (v := ?_) rfl (by kernel_rfl) (by kernel_rfl) (by kernel_rfl) (fun _ _ _ h => h) (Or.inl ⟨rfl, ?_⟩) (by assumption) ?_
          rotate_left 1
          · intro w_ hSw; (try dsimp only at hSw); go_simp; (try with_reducible rfl)
          (try simp only [Act.put, List.setIfInBounds_toArray, List.set_cons_zero, List.set_cons_succ])
          refine wpAnyH_take (i := 14) (oi := ⟨_, _, _, _, _, _⟩) (v := ?_) rfl (by kernel_rfl) (by kernel_rfl) (by kernel_rfl) (fun _ _ _ h => h) (Or.inl ⟨rfl, ?_⟩) (by assumption) ?_
          rotate_left 1
          · intro w_ hSw; (try dsimp only at hSw); go_simp; (try with_reducible rfl)
          (try simp only [Act.put, List.setIfInBounds_toArray, List.set_cons_zero, List.set_cons_succ])
          refine wpAnyH_ready (rs := [15]) (by kernel_rfl) (by simp) ?_
          refine (AllReadyH.cons (o := ⟨_, _, _, _, _, _⟩) rfl (fun K hK => ?_) AllReadyH.nil)
          go_simp
          refine hK.out _ _ ?_ (fun hHeld => ?_)
          · exact (qt_cells HQ4.out.box).2.2.1
          clear hK K
          (try simp only [Act.put, List.setIfInBounds_toArray, List.set_cons_zero, List.set_cons_succ])
          refine wpAnyH_done (by kernel_rfl) ?_ _
          refine NoPanic.normal ?_
          have HQ5 : Hid (QtS (w4.setCell ⟨Q, 11, none⟩ (.slice (some ⟨g4, 0, none⟩) (k + 1) cap4)) A Q (z : Int) ao n c f (k + 1) (k + 1) (.slice (some ⟨g1, 0, none⟩) t1 c1) (.slice (some ⟨g4, 0, none⟩) (k + 1) cap4)) := HQ4.out
          have HB5 : Hid (Below w.heap.size w (w4.setCell ⟨Q, 11, none⟩ (.slice (some ⟨g4, 0, none⟩) (k + 1) cap4))) := HB4.out.setCell (by show w.heap.size ≤ Q; omega) _
          clear HQ4 HB4 HBx4 hHeld
          go_wp2_with fail
          go_roundw
          case rel => exact ⟨k + 1, _, _, by omega, by go_num, HQ5, HB5⟩
          case measure => simp [intOf]; omega
        · go_simp
          go_at_call 63
          refine (HIx.out _ (below_drew _)).mono ?_
          rintro e_ w_ ⟨rfl, rfl⟩
          refine hK.out _ _ ?_ (fun hHeld => ?_)
          · exact s10
          clear hK K
          (try simp only [Act.put, List.setIfInBounds_toArray, List.set_cons_zero, List.set_cons_succ])
          refine wpAnyH_ready (rs := [4, 11]) (by kernel_rfl) (by simp) ?_
          refine (AllReadyH.cons (o := ⟨_, _, _, _, _, _⟩) rfl (fun K hK => ?_) (AllReadyH.cons (o := ⟨_, _, _, _, _, _⟩) rfl (fun K hK => ?_) AllReadyH.nil))
          · go_simp
            refine hK.out _ _ ?_ (fun hHeld => ?_)
            · exact s10
            clear hK K
            (try simp only [Act.put, List.setIfInBounds_toArray, List.set_cons_zero, List.set_cons_succ])
            refine wpAnyH_ready (rs := [11]) (by kernel_rfl) (by simp) ?_
            refine (AllReadyH.cons (o := ⟨_, _, _, _, _, _⟩) rfl (fun K hK => ?_) AllReadyH.nil)
            go_simp
            refine hK.out _ _ ?_ (fun hHeld => ?_)
            · exact cell_b ((below_alloc _ _).drew) s10
            clear hK K
            (try simp only [Act.put, List.setIfInBounds_toArray, List.set_cons_zero, List.set_cons_succ])
            refine wpAnyH_ready (rs := [12]) (by kernel_rfl) (by simp) ?_
            refine (AllReadyH.cons (o := ⟨_, _, _, _, _, _⟩) rfl (fun K hK => ?_) AllReadyH.nil)
            refine step_append_lies _ rfl _ _ _ rfl (Q + 1) 3 j0 _ 1 8 Try.underlying25 hj0 hy0 hy1 hy2 rfl (by decide) vb k ((lstP k (naI f)).map (Value.int .i64)) rfl (World.ownsRow.alloc (show wi.drew.ownsRow _ _ _ _ _ _ from HQs.out.nat) _) ⟨wi.drew.heap.size, 0, none⟩ 1 1 [.int .i64 u] rfl rfl (cell_one_new _ _ _) (by simp [Value.oneCell']) (by decide) (by unfold maxLen; omega) (by omega) (by have h_ := HQs.out.lt; show Q + 1 ≤ (wi.drew.alloc _).heap.size; simp; omega) _ rfl ?_
            intro g4 cap4 w4 hown4 hgrow4 hat4 hlt4
            have HQ4 := Lib.hid (HQs.out.natPut (k' := k + 1) (v' := .slice (some ⟨g4, 0, none⟩) (k + 1) cap4) hAQ (by rw [lstP_succ, List.map_append, HU.out]; exact hown4) hgrow4 (by rcases hat4 with h | h; exact .inl h.symm; exact .inr (by rw [h]; rfl)))
            have HB4 : Hid (Below w.heap.size w w4) := ((HBi.out.drew).alloc HBi.out.size _).grown hgrow4 (by have := HBi.out.size; show w.heap.size ≤ (wi.drew.alloc _).heap.size; simp; omega) (fun b hb => by have h_ := (HQs.out.nat.lt b hb).1; omega)
            have HBx4 : Hid (w4.heap[Q]? = some (.cells (qtArr (z : Int) ao n c f (.slice (some ⟨g1, 0, none⟩) t1 c1) vb) 76 (0, 0))) := HQs.out.boxGrown hgrow4
            have d11 := (qt_cells HBx4.out).2.2.2.1
            have f11 := (qt_cells HBx4.out).2.2.2.2 11
            clear hown4 hgrow4 hat4
            refine hK.out _ _ ?_ (fun hHeld => ?_)
            · exact (qt_cells HBx4.out).2.2.1
            clear hK K
            (try simp only [Act.put, List.setIfInBounds_toArray, List.set_cons_zero, List.set_cons_succ])
            refine wpAnyH_take (i := 13) (oi := ⟨_, _, _, _, _, _⟩) (v := ?_) rfl (by kernel_rfl) (by kernel_rfl) (by kernel_rfl) (fun _ _ _ h => h) (Or.inl ⟨rfl, ?_⟩) (by assumption) ?_
            rotate_left 1
            · intro w_ hSw; (try dsimp only at hSw); go_simp; (try with_reducible rfl)
            (try simp only [Act.put, List.setIfInBounds_toArray, List.set_cons_zero, List.set_cons_succ])
            refine wpAnyH_take (i := 14) (oi := ⟨_, _, _, _, _, _⟩) (v := ?_) rfl (by kernel_rfl) (by kernel_rfl) (by kernel_rfl) (fun _ _ _ h => h) (Or.inl ⟨rfl, ?_⟩) (by assumption) ?_
            rotate_left 1
            · intro w_ hSw; (try dsimp only at hSw); go_simp; (try with_reducible rfl)
            (try simp only [Act.put, List.setIfInBounds_toArray, List.set_cons_zero, List.set_cons_succ])
            refine wpAnyH_ready (rs := [15]) (by kernel_rfl) (by simp) ?_
            refine (AllReadyH.cons (o := ⟨_, _, _, _, _, _⟩) rfl (fun K hK => ?_) AllReadyH.nil)
            go_simp
            refine hK.out _ _ ?_ (fun hHeld => ?_)
            · exact (qt_cells HQ4.out.box).2.2.1
            clear hK K
            (try simp only [Act.put, List.setIfInBounds_toArray, List.set_cons_zero, List.set_cons_succ])
            refine wpAnyH_done (by kernel_rfl) ?_ _
            refine NoPanic.normal ?_
            have HQ5 : Hid (QtS (w4.setCell ⟨Q, 11, none⟩ (.slice (some ⟨g4, 0, none⟩) (k + 1) cap4)) A Q (z : Int) ao n c f (k + 1) (k + 1) (.slice (some ⟨g1, 0, none⟩) t1 c1) (.slice (some ⟨g4, 0, none⟩) (k + 1) cap4)) := HQ4.out
            have HB5 : Hid (Below w.heap.size w (w4.setCell ⟨Q, 11, none⟩ (.slice (some ⟨g4, 0, none⟩) (k + 1) cap4))) := HB4.out.setCell (by show w.heap.size ≤ Q; omega) _
            clear HQ4 HB4 HBx4 hHeld
            go_wp2_with fail
            go_roundw
            case rel => exact ⟨k + 1, _, _, by omega, by go_num, HQ5, HB5⟩
            case measure => simp [intOf]; omega
          · go_simp
            refine hK.out _ _ ?_ (fun hHeld => ?_)
            · exact cell_b ((below_alloc _ _).drew) s10
            clear hK K
            (try simp only [Act.put, List.setIfInBounds_toArray, List.set_cons_zero, List.set_cons_succ])
            refine wpAnyH_ready (rs := [4]) (by kernel_rfl) (by simp) ?_
            refine (AllReadyH.cons (o := ⟨_, _, _, _, _, _⟩) rfl (fun K hK => ?_) AllReadyH.nil)
            have s11b : ((wi.alloc (.cells #[.int .i64 u] 3)).drew).cell? ⟨Q, 11, none⟩ = some vb := cell_b ((below_alloc _ _).drew) s11
            go_simp
            refine hK.out _ _ ?_ (fun hHeld => ?_)
            · exact cell_b ((below_alloc _ _).drew) s10
            clear hK K
            (try simp only [Act.put, List.setIfInBounds_toArray, List.set_cons_zero, List.set_cons_succ])
            refine wpAnyH_ready (rs := [12]) (by kernel_rfl) (by simp) ?_
            refine (AllReadyH.cons (o := ⟨_, _, _, _, _, _⟩) rfl (fun K hK => ?_) AllReadyH.nil)
            refine step_append_lies _ rfl _ _ _ rfl (Q + 1) 3 j0 _ 1 8 Try.underlying25 hj0 hy0 hy1 hy2 rfl (by decide) vb k ((lstP k (naI f)).map (Value.int .i64)) rfl (World.ownsRow.alloc (show wi.drew.ownsRow _ _ _ _ _ _ from HQs.out.nat) _) ⟨wi.drew.heap.size, 0, none⟩ 1 1 [.int .i64 u] rfl rfl (cell_one_new _ _ _) (by simp [Value.oneCell']) (by decide) (by unfold maxLen; omega) (by omega) (by have h_ := HQs.out.lt; show Q + 1 ≤ (wi.drew.alloc _).heap.size; simp; omega) _ rfl ?_
            intro g4 cap4 w4 hown4 hgrow4 hat4 hlt4
            have HQ4 := Lib.hid (HQs.out.natPut (k' := k + 1) (v' := .slice (some ⟨g4, 0, none⟩) (k + 1) cap4) hAQ (by rw [lstP_succ, List.map_append, HU.out]; exact hown4) hgrow4 (by rcases hat4 with h | h; exact .inl h.symm; exact .inr (by rw [h]; rfl)))
            have HB4 : Hid (Below w.heap.size w w4) := ((HBi.out.drew).alloc HBi.out.size _).grown hgrow4 (by have := HBi.out.size; show w.heap.size ≤ (wi.drew.alloc _).heap.size; simp; omega) (fun b hb => by have h_ := (HQs.out.nat.lt b hb).1; omega)
            have HBx4 : Hid (w4.heap[Q]? = some (.cells (qtArr (z : Int) ao n c f (.slice (some ⟨g1, 0, none⟩) t1 c1) vb) 76 (0, 0))) := HQs.out.boxGrown hgrow4
            have d11 := (qt_cells HBx4.out).2.2.2.1
            have f11 := (qt_cells HBx4.out).2.2.2.2 11
            clear hown4 hgrow4 hat4
            refine hK.out _ _ ?_ (fun hHeld => ?_)
            · exact (qt_cells HBx4.out).2.2.1
            clear hK K
            (try simp only [Act.put, List.setIfInBounds_toArray, List.set_cons_zero, List.set_cons_succ])
            refine wpAnyH_take (i := 13) (oi := ⟨_, _, _, _, _, _⟩) (v := ?_) rfl (by kernel_rfl) (by kernel_rfl) (by kernel_rfl) (fun _ _ _ h => h) (Or.inl ⟨rfl, ?_⟩) (by assumption) ?_
            rotate_left 1
            · intro w_ hSw; (try dsimp only at hSw); go_simp; (try with_reducible rfl)
            (try simp only [Act.put, List.setIfInBounds_toArray, List.set_cons_zero, List.set_cons_succ])
            refine wpAnyH_take (i := 14) (oi := ⟨_, _, _, _, _, _⟩) (v := ?_) rfl (by kernel_rfl) (by kernel_rfl) (by kernel_rfl) (fun _ _ _ h => h) (Or.inl ⟨rfl, ?_⟩) (by assumption) ?_
            rotate_left 1
            · intro w_ hSw; (try dsimp only at hSw); go_simp; (try with_reducible rfl)
            (try simp only [Act.put, List.setIfInBounds_toArray, List.set_cons_zero, List.set_cons_succ])
            refine wpAnyH_ready (rs := [15]) (by kernel_rfl) (by simp) ?_
            refine (AllReadyH.cons (o := ⟨_, _, _, _, _, _⟩) rfl (fun K hK => ?_) AllReadyH.nil)
            go_simp
            refine hK.out _ _ ?_ (fun hHeld => ?_)
            · exact (qt_cells HQ4.out.box).2.2.1
            clear hK K
            (try simp only [Act.put, List.setIfInBounds_toArray, List.set_cons_zero, List.set_cons_succ])
            refine wpAnyH_done (by kernel_rfl) ?_ _
            refine NoPanic.normal ?_
            have HQ5 : Hid (QtS (w4.setCell ⟨Q, 11, none⟩ (.slice (some ⟨g4, 0, none⟩) (k + 1) cap4)) A Q (z : Int) ao n c f (k + 1) (k + 1) (.slice (some ⟨g1, 0, none⟩) t1 c1) (.slice (some ⟨g4, 0, none⟩) (k + 1) cap4)) := HQ4.out
            have HB5 : Hid (Below w.heap.size w (w4.setCell ⟨Q, 11, none⟩ (.slice (some ⟨g4, 0, none⟩) (k + 1) cap4))) := HB4.out.setCell (by show w.heap.size ≤ Q; omega) _
            clear HQ4 HB4 HBx4 hHeld
            go_wp2_with fail
            go_roundw
            case rel => exact ⟨k + 1, _, _, by omega, by go_num, HQ5, HB5⟩
            case measure => simp [intOf]; omega
      · have HQs : Hid (QtS wr A Q (z : Int) ao n c f (k + 1) k va vb) := HQk.out.more (leP_no hfk)
        have hne : (((k : Int)) == f k) = false := by
          rw [beq_eq_false_iff_ne]; exact fun e => hfk e.symm
        obtain ⟨wi, hwi⟩ : ∃ wi, wi = wr := ⟨_, rfl⟩
        rw [← hwi] at HQs HBr ek ⊢
        have HBi := HBr
        clear hwi HBr HQk
        have hle := HQs.out.les
        have hmem : f k ∈ leP f (k + 1) := leP_mem.2 ⟨(f k).toNat, by omega, by rw [hff]; omega, by omega⟩
        obtain ⟨t0, ht0⟩ : ∃ t0, (leP f (k + 1)).length = t0 + 1 := ⟨(leP f (k + 1)).length - 1, by have := List.length_pos_of_mem hmem; omega⟩
        rw [ht0] at hle
        obtain ⟨g1, c1, rfl⟩ := ownsRow_succ hle
        obtain ⟨t1, ht1⟩ : ∃ t1, t0 + 1 = t1 := ⟨_, rfl⟩
        rw [ht1] at hle ht0
        have ht1p : 0 < t1 := by omega
        rw [ht1] at HQs
        have hl8 := leP_len f (k + 1)
        have hIx := fun (W : World) (hW : Below wi.heap.size wi W) => place_impl (Q + 1) wi.heap.size g1 0 t1 c1 (leP f (k + 1)) (f k) W ((IView.of_owns hle (Nat.le_refl _)).kept (Kept.of_below hW (Nat.le_refl _))) ht1p (by omega)
        obtain ⟨u, hu⟩ : ∃ u, plI (leP f (k + 1)) (f k) = u := ⟨_, rfl⟩
        have HU : Hid (naI f k = u) := hu
        rw [hu] at hIx
        have HIx := Lib.hid hIx
        have s10 : wi.cell? ⟨Q, 10, none⟩ = some (.slice (some ⟨g1, 0, none⟩) t1 c1) := (qt_cells HQs.out.box).2.2.1
        have s11 : wi.cell? ⟨Q, 11, none⟩ = some vb := (qt_cells HQs.out.box).2.2.2.1
        clear hle hmem ht1 hl8 hIx hu hff ht0
        go_wp2_with fail
        refine wp_region_noPanic ?_
        refine wp_region_held_drew (S := fun W_ => W_.cell? ⟨Q, 10, none⟩ = some (.slice (some ⟨g1, 0, none⟩) t1 c1)) (by kernel_rfl) ?_ (fun hHeld => ?_)
        · exact s10
        refine wpAnyH_take (i := 0) (oi := ⟨_, _, _, _, _, _⟩) (v := ?_) rfl (by kernel_rfl) (by kernel_rfl) (by kernel_rfl) (fun _ _ _ h => h) (Or.inl ⟨rfl, ?_⟩) (by assumption) ?_
        rotate_left 1
        · intro w_ hSw; (try dsimp only at hSw); go_simp; (try with_reducible rfl)
        (try simp only [Act.put, List.setIfInBounds_toArray, List.set_cons_zero, List.set_cons_succ])
        refine wpAnyH_take (i := 1) (oi := ⟨_, _, _, _, _, _⟩) (v := ?_) rfl (by kernel_rfl) (by kernel_rfl) (by kernel_rfl) (fun _ _ _ h => h) (Or.inl ⟨rfl, ?_⟩) (by assumption) ?_
        rotate_left 1
        · intro w_ hSw; (try dsimp only at hSw); go_simp; (try with_reducible rfl)
        (try simp only [Act.put, List.setIfInBounds_toArray, List.set_cons_zero, List.set_cons_succ])
        refine wpAnyH_take (i := 2) (oi := ⟨_, _, _, _, _, _⟩) (v := ?_) rfl (by kernel_rfl) (by kernel_rfl) (by kernel_rfl) (fun _ _ _ h => h) (Or.inl ⟨rfl, ?_⟩) (by assumption) ?_
        rotate_left 1
        · intro w_ hSw; (try dsimp only at hSw); go_simp; (try with_reducible rfl)
        (try simp only [Act.put, List.setIfInBounds_toArray, List.set_cons_zero, List.set_cons_succ])
        refine wpAnyH_take (i := 3) (oi := ⟨_, _, _, _, _, _⟩) (v := ?_) rfl (by kernel_rfl) (by kernel_rfl) (by kernel_rfl) (fun _ _ _ h => h) (Or.inl ⟨rfl, ?_⟩) (by assumption) ?_
        rotate_left 1
        · intro w_ hSw; (try dsimp only at hSw); go_simp; (try with_reducible rfl)
        (try simp only [Act.put, List.setIfInBounds_toArray, List.set_cons_zero, List.set_cons_succ])
        refine wpAnyH_take (i := 5) (oi := ⟨_, _, _, _, _, _⟩) (v := ?_) rfl (by kernel_rfl) (by kernel_rfl) (by kernel_rfl) (fun _ _ _ h => h) (Or.inl ⟨rfl, ?_⟩) (by assumption) ?_
        rotate_left 1
        · intro w_ hSw; (try dsimp only at hSw); go_simp; (try with_reducible rfl)
        (try simp only [Act.put, List.setIfInBounds_toArray, List.set_cons_zero, List.set_cons_succ])
        refine wpAnyH_take (i := 6) (oi := ⟨_, _, _, _, _, _⟩) (v := ?_) rfl (by kernel_rfl) (by kernel_rfl) (by kernel_rfl) (fun _ _ _ h => h) (Or.inl ⟨rfl, ?_⟩) (by assumption) ?_
        rotate_left 1
        · intro w_ hSw; (try dsimp only at hSw); go_simp; (try with_reducible rfl)
        (try simp only [Act.put, List.setIfInBounds_toArray, List.set_cons_zero, List.set_cons_succ])
        refine wpAnyH_take (i := 7) (oi := ⟨_, _, _, _, _, _⟩) (v := ?_) rfl (by kernel_rfl) (by kernel_rfl) (by kernel_rfl) (fun _ _ _ h => h) (Or.inl ⟨rfl, ?_⟩) (by assumption) ?_
        rotate_left 1
        · intro w_ hSw; (try dsimp only at hSw); go_simp; (try with_reducible rfl)
        (try simp only [Act.put, List.setIfInBounds_toArray, List.set_cons_zero, List.set_cons_succ])
        refine wpAnyH_take (i := 8) (oi := ⟨_, _, _, _, _, _⟩) (v := ?_) rfl (by kernel_rfl) (by kernel_rfl) (by kernel_rfl) (fun _ _ _ h => h) (Or.inl ⟨rfl, ?_⟩) (by assumption) ?_
        rotate_left 1
        · intro w_ hSw; (try dsimp only at hSw); go_simp; (try with_reducible rfl)
        (try simp only [Act.put, List.setIfInBounds_toArray, List.set_cons_zero, List.set_cons_succ])
        refine wpAnyH_take (i := 9) (oi := ⟨_, _, _, _, _, _⟩) (v := ?_) rfl (by kernel_rfl) (by kernel_rfl) (by kernel_rfl) (fun _ _ _ h => h) (Or.inl ⟨rfl, ?_⟩) (by assumption) ?_
        rotate_left 1
        · intro w_ hSw; (try dsimp only at hSw); go_simp; (try with_reducible rfl)
        (try simp only [Act.put, List.setIfInBounds_toArray, List.set_cons_zero, List.set_cons_succ])
        refine wpAnyH_ready (rs := [4, 10]) (by kernel_rfl) (by simp) ?_
        refine (AllReadyH.cons (o := ⟨_, _, _, _, _, _⟩) rfl (fun K hK => ?_) (AllReadyH.cons (o := ⟨_, _, _, _, _, _⟩) rfl (fun K hK => ?_) AllReadyH.nil))
        · go_simp
          refine hK.out _ _ ?_ (fun hHeld => ?_)
          · exact s10
          clear hK K
          (try simp only [Act.put, List.setIfInBounds_toArray, List.set_cons_zero, List.set_cons_succ])
          refine wpAnyH_ready (rs := [10]) (by kernel_rfl) (by simp) ?_
          refine (AllReadyH.cons (o := ⟨_, _, _, _, _, _⟩) rfl (fun K hK => ?_) AllReadyH.nil)
          go_simp
          go_at_call 63
          refine (HIx.out _ (below_drew _)).mono ?_
          rintro e_ w_ ⟨rfl, rfl⟩
          refine hK.out _ _ ?_ (fun hHeld => ?_)
          · exact s10
          clear hK K
          (try simp only [Act.put, List.setIfInBounds_toArray, List.set_cons_zero, List.set_cons_succ])
          refine wpAnyH_ready (rs := [11]) (by kernel_rfl) (by simp) ?_
          refine (AllReadyH.cons (o := ⟨_, _, _, _, _, _⟩) rfl (fun K hK => ?_) AllReadyH.nil)
          go_simp
          refine hK.out _ _ ?_ (fun hHeld => ?_)
          · exact cell_b ((below_alloc _ _).drew) s10
          clear hK K
          (try simp only [Act.put, List.setIfInBounds_toArray, List.set_cons_zero, List.set_cons_succ])
          refine wpAnyH_ready (rs := [12]) (by kernel_rfl) (by simp) ?_
          refine (AllReadyH.cons (o := ⟨_, _, _, _, _, _⟩) rfl (fun K hK => ?_) AllReadyH.nil)
          refine step_append_lies _ rfl _ _ _ rfl (Q + 1) 3 j0 _ 1 8 Try.underlying25 hj0 hy0 hy1 hy2 rfl (by decide) vb k ((lstP k (naI f)).map (Value.int .i64)) rfl (World.ownsRow.alloc (show wi.drew.ownsRow _ _ _ _ _ _ from HQs.out.nat) _) ⟨wi.drew.heap.size, 0, none⟩ 1 1 [.int .i64 u] rfl rfl (cell_one_new _ _ _) (by simp [Value.oneCell']) (by decide) (by unfold maxLen; omega) (by omega) (by have h_ := HQs.out.lt; show Q + 1 ≤ (wi.drew.alloc _).heap.size; simp; omega) _ rfl ?_
          intro g4 cap4 w4 hown4 hgrow4 hat4 hlt4
          have HQ4 := Lib.hid (HQs.out.natPut (k' := k + 1) (v' := .slice (some ⟨g4, 0, none⟩) (k + 1) cap4) hAQ (by rw [lstP_succ, List.map_append, HU.out]; exact hown4) hgrow4 (by rcases hat4 with h | h; exact .inl h.symm; exact .inr (by rw [h]; rfl)))
          have HB4 : Hid (Below w.heap.size w w4) := ((HBi.out.drew).alloc HBi.out.size _).grown hgrow4 (by have := HBi.out.size; show w.heap.size ≤ (wi.drew.alloc _).heap.size; simp; omega) (fun b hb => by have h_ := (HQs.out.nat.lt b hb).1; omega)
          have HBx4 : Hid (w4.heap[Q]? = some (.cells (qtArr (z : Int) ao n c f (.slice (some ⟨g1, 0, none⟩) t1 c1) vb) 76 (0, 0))) := HQs.out.boxGrown hgrow4
          have d11 := (qt_cells HBx4.out).2.2.2.1
          have f11 := (qt_cells HBx4.out).2.2.2.2 11
          clear hown4 hgrow4 hat4
          refine hK.out _ _ ?_ (fun hHeld => ?_)
          · exact (qt_cells HBx4.out).2.2.1
          clear hK K
          (try simp only [Act.put, List.setIfInBounds_toArray, List.set_cons_zero, List.set_cons_succ])
          refine wpAnyH_take (i := 13) (oi := ⟨_, _, _, _, _, _⟩) (v := ?_) rfl (by kernel_rfl) (by kernel_rfl) (by kernel_rfl) (fun _ _ _ h => h) (Or.inl ⟨rfl, ?_⟩) (by assumption) ?_
          rotate_left 1
          · intro w_ hSw; (try dsimp only at hSw); go_simp; (try with_reducible rfl)
          (try simp only [Act.put, List.setIfInBounds_toArray, List.set_cons_zero, List.set_cons_succ])
          refine wpAnyH_take (i := 14) (oi := ⟨_, _, _, _, _, _⟩) (v := ?_) rfl (by kernel_rfl) (by kernel_rfl) (by kernel_rfl) (fun _ _ _ h => h) (Or.inl ⟨rfl, ?_⟩) (by assumption) ?_
          rotate_left 1
          · intro w_ hSw; (try dsimp only at hSw); go_simp; (try with_reducible rfl)
          (try simp only [Act.put, List.setIfInBounds_toArray, List.set_cons_zero, List.set_cons_succ])
          refine wpAnyH_ready (rs := [15]) (by kernel_rfl) (by simp) ?_
          refine (AllReadyH.cons (o := ⟨_, _, _, _, _, _⟩) rfl (fun K hK => ?_) AllReadyH.nil)
          go_simp
          refine hK.out _ _ ?_ (fun hHeld => ?_)
          · exact (qt_cells HQ4.out.box).2.2.1
          clear hK K
          (try simp only [Act.put, List.setIfInBounds_toArray, List.set_cons_zero, List.set_cons_succ])
          refine wpAnyH_done (by kernel_rfl) ?_ _
          refine NoPanic.normal ?_
          have HQ5 : Hid (QtS (w4.setCell ⟨Q, 11, none⟩ (.slice (some ⟨g4, 0, none⟩) (k + 1) cap4)) A Q (z : Int) ao n c f (k + 1) (k + 1) (.slice (some ⟨g1, 0, none⟩) t1 c1) (.slice (some ⟨g4, 0, none⟩) (k + 1) cap4)) := HQ4.out
          have HB5 : Hid (Below w.heap.size w (w4.setCell ⟨Q, 11, none⟩ (.slice (some ⟨g4, 0, none⟩) (k + 1) cap4))) := HB4.out.setCell (by show w.heap.size ≤ Q; omega) _
          clear HQ4 HB4 HBx4 hHeld
          go_wp2_with fail
          go_roundw
          case rel => exact ⟨k + 1, _, _, by omega, by go_num, HQ5, HB5⟩
          case measure => simp [intOf]; omega
        · go_simp
          go_at_call 63
          refine (HIx.out _ (below_drew _)).mono ?_
          rintro e_ w_ ⟨rfl, rfl⟩
          refine hK.out _ _ ?_ (fun hHeld => ?_)
          · exact s10
          clear hK K
          (try simp only [Act.put, List.setIfInBounds_toArray, List.set_cons_zero, List.set_cons_succ])
          refine wpAnyH_ready (rs := [4, 11]) (by kernel_rfl) (by simp) ?_
          refine (AllReadyH.cons (o := ⟨_, _, _, _, _, _⟩) rfl (fun K hK => ?_) (AllReadyH.cons (o := ⟨_, _, _, _, _, _⟩) rfl (fun K hK => ?_) AllReadyH.nil))
          · go_simp
            refine hK.out _ _ ?_ (fun hHeld => ?_)
            · exact s10
            clear hK K
            (try simp only [Act.put, List.setIfInBounds_toArray, List.set_cons_zero, List.set_cons_succ])
            refine wpAnyH_ready (rs := [11]) (by kernel_rfl) (by simp) ?_
            refine (AllReadyH.cons (o := ⟨_, _, _, _, _, _⟩) rfl (fun K hK => ?_) AllReadyH.nil)
            go_simp
            refine hK.out _ _ ?_ (fun hHeld => ?_)
            · exact cell_b ((below_alloc _ _).drew) s10
            clear hK K
            (try simp only [Act.put, List.setIfInBounds_toArray, List.set_cons_zero, List.set_cons_succ])
            refine wpAnyH_ready (rs := [12]) (by kernel_rfl) (by simp) ?_
            refine (AllReadyH.cons (o := ⟨_, _, _, _, _, _⟩) rfl (fun K hK => ?_) AllReadyH.nil)
            refine step_append_lies _ rfl _ _ _ rfl (Q + 1) 3 j0 _ 1 8 Try.underlying25 hj0 hy0 hy1 hy2 rfl (by decide) vb k ((lstP k (naI f)).map (Value.int .i64)) rfl (World.ownsRow.alloc (show wi.drew.ownsRow _ _ _ _ _ _ from HQs.out.nat) _) ⟨wi.drew.heap.size, 0, none⟩ 1 1 [.int .i64 u] rfl rfl (cell_one_new _ _ _) (by simp [Value.oneCell']) (by decide) (by unfold maxLen; omega) (by omega) (by have h_ := HQs.out.lt; show Q + 1 ≤ (wi.drew.alloc _).heap.size; simp; omega) _ rfl ?_
            intro g4 cap4 w4 hown4 hgrow4 hat4 hlt4
            have HQ4 := Lib.hid (HQs.out.natPut (k' := k + 1) (v' := .slice (some ⟨g4, 0, none⟩) (k + 1) cap4) hAQ (by rw [lstP_succ, List.map_append, HU.out]; exact hown4) hgrow4 (by rcases hat4 with h | h; exact .inl h.symm; exact .inr (by rw [h]; rfl)))
            have HB4 : Hid (Below w.heap.size w w4) := ((HBi.out.drew).alloc HBi.out.size _).grown hgrow4 (by have := HBi.out.size; show w.heap.size ≤ (wi.drew.alloc _).heap.size; simp; omega) (fun b hb => by have h_ := (HQs.out.nat.lt b hb).1; omega)
            have HBx4 : Hid (w4.heap[Q]? = some (.cells (qtArr (z : Int) ao n c f (.slice (some ⟨g1, 0, none⟩) t1 c1) vb) 76 (0, 0))) := HQs.out.boxGrown hgrow4
            have d11 := (qt_cells HBx4.out).2.2.2.1
            have f11 := (qt_cells HBx4.out).2.2.2.2 11
            clear hown4 hgrow4 hat4
            refine hK.out _ _ ?_ (fun hHeld => ?_)
            · exact (qt_cells HBx4.out).2.2.1
            clear hK K
            (try simp only [Act.put, List.setIfInBounds_toArray, List.set_cons_zero, List.set_cons_succ])
            refine wpAnyH_take (i := 13) (oi := ⟨_, _, _, _, _, _⟩) (v := ?_) rfl (by kernel_rfl) (by kernel_rfl) (by kernel_rfl) (fun _ _ _ h => h) (Or.inl ⟨rfl, ?_⟩) (by assumption) ?_
            rotate_left 1
            · intro w_ hSw; (try dsimp only at hSw); go_simp; (try with_reducible rfl)
            (try simp only [Act.put, List.setIfInBounds_toArray, List.set_cons_zero, List.set_cons_succ])
            refine wpAnyH_take (i := 14) (oi := ⟨_, _, _, _, _, _⟩) (v := ?_) rfl (by kernel_rfl) (by kernel_rfl) (by kernel_rfl) (fun _ _ _ h => h) (Or.inl ⟨rfl, ?_⟩) (by assumption) ?_
            rotate_left 1
            · intro w_ hSw; (try dsimp only at hSw); go_simp; (try with_reducible rfl)
            (try simp only [Act.put, List.setIfInBounds_toArray, List.set_cons_zero, List.set_cons_succ])
            refine wpAnyH_ready (rs := [15]) (by kernel_rfl) (by simp) ?_
            refine (AllReadyH.cons (o := ⟨_, _, _, _, _, _⟩) rfl (fun K hK => ?_) AllReadyH.nil)
            go_simp
            refine hK.out _ _ ?_ (fun hHeld => ?_)
            · exact (qt_cells HQ4.out.box).2.2.1
            clear hK K
            (try simp only [Act.put, List.setIfInBounds_toArray, List.set_cons_zero, List.set_cons_succ])
            refine wpAnyH_done (by kernel_rfl) ?_ _
            refine NoPanic.normal ?_
            have HQ5 : Hid (QtS (w4.setCell ⟨Q, 11, none⟩ (.slice (some ⟨g4, 0, none⟩) (k + 1) cap4)) A Q (z : Int) ao n c f (k + 1) (k + 1) (.slice (some ⟨g1, 0, none⟩) t1 c1) (.slice (some ⟨g4, 0, none⟩) (k + 1) cap4)) := HQ4.out
            have HB5 : Hid (Below w.heap.size w (w4.setCell ⟨Q, 11, none⟩ (.slice (some ⟨g4, 0, none⟩) (k + 1) cap4))) := HB4.out.setCell (by show w.heap.size ≤ Q; omega) _
            clear HQ4 HB4 HBx4 hHeld
            go_wp2_with fail
            go_roundw
            case rel => exact ⟨k + 1, _, _, by omega, by go_num, HQ5, HB5⟩
            case measure => simp [intOf]; omega
          · go_simp
            refine hK.out _ _ ?_ (fun hHeld => ?_)
            · exact cell_b ((below_alloc _ _).drew) s10
            clear hK K
            (try simp only [Act.put, List.setIfInBounds_toArray, List.set_cons_zero, List.set_cons_succ])
            refine wpAnyH_ready (rs := [4]) (by kernel_rfl) (by simp) ?_
            refine (AllReadyH.cons (o := ⟨_, _, _, _, _, _⟩) rfl (fun K hK => ?_) AllReadyH.nil)
            have s11b : ((wi.alloc (.cells #[.int .i64 u] 3)).drew).cell? ⟨Q, 11, none⟩ = some vb := cell_b ((below_alloc _ _).drew) s11
            go_simp
            refine hK.out _ _ ?_ (fun hHeld => ?_)
            · exact cell_b ((below_alloc _ _).drew) s10
            clear hK K
            (try simp only [Act.put, List.setIfInBounds_toArray, List.set_cons_zero, List.set_cons_succ])
            refine wpAnyH_ready (rs := [12]) (by kernel_rfl) (by simp) ?_
            refine (AllReadyH.cons (o := ⟨_, _, _, _, _, _⟩) rfl (fun K hK => ?_) AllReadyH.nil)
            refine step_append_lies _ rfl _ _ _ rfl (Q + 1) 3 j0 _ 1 8 Try.underlying25 hj0 hy0 hy1 hy2 rfl (by decide) vb k ((lstP k (naI f)).map (Value.int .i64)) rfl (World.ownsRow.alloc (show wi.drew.ownsRow _ _ _ _ _ _ from HQs.out.nat) _) ⟨wi.drew.heap.size, 0, none⟩ 1 1 [.int .i64 u] rfl rfl (cell_one_new _ _ _) (by simp [Value.oneCell']) (by decide) (by unfold maxLen; omega) (by omega) (by have h_ := HQs.out.lt; show Q + 1 ≤ (wi.drew.alloc _).heap.size; simp; omega) _ rfl ?_
            intro g4 cap4 w4 hown4 hgrow4 hat4 hlt4
            have HQ4 := Lib.hid (HQs.out.natPut (k' := k + 1) (v' := .slice (some ⟨g4, 0, none⟩) (k + 1) cap4) hAQ (by rw [lstP_succ, List.map_append, HU.out]; exact hown4) hgrow4 (by rcases hat4 with h | h; exact .inl h.symm; exact .inr (by rw [h]; rfl)))
            have HB4 : Hid (Below w.heap.size w w4) := ((HBi.out.drew).alloc HBi.out.size _).grown hgrow4 (by have := HBi.out.size; show w.heap.size ≤ (wi.drew.alloc _).heap.size; simp; omega) (fun b hb => by have h_ := (HQs.out.nat.lt b hb).1; omega)
            have HBx4 : Hid (w4.heap[Q]? = some (.cells (qtArr (z : Int) ao n c f (.slice (some ⟨g1, 0, none⟩) t1 c1) vb) 76 (0, 0))) := HQs.out.boxGrown hgrow4
            have d11 := (qt_cells HBx4.out).2.2.2.1
            have f11 := (qt_cells HBx4.out).2.2.2.2 11
            clear hown4 hgrow4 hat4
            refine hK.out _ _ ?_ (fun hHeld => ?_)
            · exact (qt_cells HBx4.out).2.2.1
            clear hK K
            (try simp only [Act.put, List.setIfInBounds_toArray, List.set_cons_zero, List.set_cons_succ])
            refine wpAnyH_take (i := 13) (oi := ⟨_, _, _, _, _, _⟩) (v := ?_) rfl (by kernel_rfl) (by kernel_rfl) (by kernel_rfl) (fun _ _ _ h => h) (Or.inl ⟨rfl, ?_⟩) (by assumption) ?_
            rotate_left 1
            · intro w_ hSw; (try dsimp only at hSw); go_simp; (try with_reducible rfl)
            (try simp only [Act.put, List.setIfInBounds_toArray, List.set_cons_zero, List.set_cons_succ])
            refine wpAnyH_take (i := 14) (oi := ⟨_, _, _, _, _, _⟩) (v := ?_) rfl (by kernel_rfl) (by kernel_rfl) (by kernel_rfl) (fun _ _ _ h => h) (Or.inl ⟨rfl, ?_⟩) (by assumption) ?_
            rotate_left 1
            · intro w_ hSw; (try dsimp only at hSw); go_simp; (try with_reducible rfl)
            (try simp only [Act.put, List.setIfInBounds_toArray, List.set_cons_zero, List.set_cons_succ])
            refine wpAnyH_ready (rs := [15]) (by kernel_rfl) (by simp) ?_
            refine (AllReadyH.cons (o := ⟨_, _, _, _, _, _⟩) rfl (fun K hK => ?_) AllReadyH.nil)
            go_simp
            refine hK.out _ _ ?_ (fun hHeld => ?_)
            · exact (qt_cells HQ4.out.box).2.2.1
            clear hK K
            (try simp only [Act.put, List.setIfInBounds_toArray, List.set_cons_zero, List.set_cons_succ])
            refine wpAnyH_done (by kernel_rfl) ?_ _
            refine NoPanic.normal ?_
            have HQ5 : Hid (QtS (w4.setCell ⟨Q, 11, none⟩ (.slice (some ⟨g4, 0, none⟩) (k + 1) cap4)) A Q (z : Int) ao n c f (k + 1) (k + 1) (.slice (some ⟨g1, 0, none⟩) t1 c1) (.slice (some ⟨g4, 0, none⟩) (k + 1) cap4)) := HQ4.out
            have HB5 : Hid (Below w.heap.size w (w4.setCell ⟨Q, 11, none⟩ (.slice (some ⟨g4, 0, none⟩) (k + 1) cap4))) := HB4.out.setCell (by show w.heap.size ≤ Q; omega) _
            clear HQ4 HB4 HBx4 hHeld
            go_wp2_with fail
            go_roundw
            case rel => exact ⟨k + 1, _, _, by omega, by go_num, HQ5, HB5⟩
            case measure => simp [intOf]; omega
    · have hkn : ¬ (k : Int) < (z : Int) := by omega
      obtain rfl : k = z := by omega
      go_wp2_with fail
      go_ret
      exact ⟨va, vb, by rw [HQe.out]; rfl, by rw [← HQe.out, ← HAe.out]; exact HQk.out, HBr.out⟩
end

section
open Go.RowKit
set_option linter.unusedVariables false
set_option linter.unusedSimpArgs false

theorem okAll_ext {xs : List Int} {n : Nat} (hl : xs.length = n) (h : okAll (gI xs) n = true) : okAll (extP xs) n = true := by
  unfold okAll at h ⊢
  rw [List.all_eq_true] at h ⊢
  intro x hx
  have hx' := List.mem_range.1 hx
  have h1 := h x hx
  obtain ⟨⟨h2, h3⟩, h4⟩ := okP_of h1
  unfold okP at h1 ⊢
  rw [extP_lt (by omega), extP_lt (k := (gI xs x).toNat) (by omega)]
  exact h1

/-- What quotientOf gives. -/
def ResQ (w w' : World) (b : Bool) (z : Int) (ao : Option Addr) (n c : Nat) (xs : List Int) (e : Ending) : Prop :=
  Below w.heap.size w w' ∧ if b = true then ∃ (A Q : Nat) (va vb : Value), e = .returned (.pointer (some ⟨Q, 0, none⟩)) ∧ w.heap.size ≤ A ∧ A < Q ∧ QtS w' A Q z ao n c (extP xs) z.toNat z.toNat va vb else e = .returned (.pointer none)

set_option maxHeartbeats 2000000 in
set_option maxRecDepth 100000 in
theorem quotOf_any (lo hi : Nat) (z : Int) (ao : Option Addr) (c n : Nat) (fs : List OpD) (lo2 hi2 : Nat) (bo : Option Addr) (d m : Nat) (xs : List Int) (w : World) (hv : OView w lo hi ao n fs) (hhi : hi ≤ w.heap.size) (hs : ∀ (j : Nat) (f : OpD), fs[j]? = some f → f.2.length ≤ maxLen)
    (hx : IView w lo2 hi2 bo m xs) (hhi2 : hi2 ≤ w.heap.size) (hm : m ≤ maxLen) :
    Calls Try.prog 73 #[.agg #[.int .i64 z, .slice ao n c], .slice bo m d] w fun e w' => ResQ w w' (cngB z fs xs) z ao n c xs e := by
  have hB := below_alloc w (.cells #[.int .i64 z, .slice ao n c] 31)
  have HB0 := Lib.hid hB
  have HC := Lib.hid (fun (W : World) (hW : Below w.heap.size w W) => congOf_any lo hi z ao c n fs lo2 hi2 bo d m xs W (hv.kept (Kept.of_below hW hhi)) (Nat.le_trans hhi hW.size) hs (hx.kept (Kept.of_below hW hhi2)) (Nat.le_trans hhi2 hW.size) hm)
  have hX0 : (w.alloc (.cells #[.int .i64 z, .slice ao n c] 31)).heap[w.heap.size]? = some (.cells #[.int .i64 z, .slice ao n c] 31 (0, 0)) := heap_alloc_new _ _
  have HX0 := Lib.hid hX0
  obtain ⟨cz0, ca0, _⟩ := box_cells hX0
  unfold ResP at HC
  unfold ResQ
  cases hb : cngB z fs xs with
  | false =>
    obtain ⟨g, hg⟩ : ∃ g, parF false xs = g := ⟨_, rfl⟩
    simp only [hb, hg] at HC
    simp only [Bool.false_eq_true, if_false]
    clear hv hx hs hm hB hX0 hb hg
    go_enter Try.func73, Try.ntmps73
    go_wp2_with fail
    refine (HC.out _ HB0.out).mono ?_
    rintro e w1 ⟨rfl, b1⟩
    have HB1 := Lib.hid (HB0.out.trans (b1.mono HB0.out.size))
    have HX1 := Lib.hid ((b1.block w.heap.size (by simp)).trans HX0.out)
    obtain ⟨cz, ca, _⟩ := box_cells HX1.out
    have HA1 := Lib.hid (ArrAt.new w1 fun _ => 0)
    have hz1_ : w.heap.size < w1.heap.size := (Array.getElem?_eq_some_iff.1 HX1.out).1
    clear b1 cz0 ca0
    obtain ⟨w3, hw3⟩ : ∃ w3, w3 = (w1.alloc (.cells (arrV fun _ => 0) 70)).setRow w1.heap.size (arrV g) := ⟨_, rfl⟩
    have HA3 : Hid (ArrAt w3 w1.heap.size g) := by unfold Hid; rw [hw3]; exact HA1.out.setRow
    have HB3 : Hid (Below w.heap.size w w3) := by unfold Hid; rw [hw3]; exact below_setRow (below_then HB1.out (below_alloc w1 _)) (by omega) _
    have HX3 : Hid (w3.heap[w.heap.size]? = some (.cells #[.int .i64 z, .slice ao n c] 31 (0, 0))) := by
      unfold Hid; rw [hw3]
      exact ((below_setRow (below_alloc w1 (.cells (arrV fun _ => 0) 70)) (Nat.le_refl _) (arrV g)).block _ (by omega)).trans HX1.out
    have HW3 := Lib.hid hw3
    clear hw3 cz ca
    obtain ⟨cz, ca, _⟩ := box_cells HX3.out
    go_wp2_with (refine st8 (w := w1.alloc (.cells (arrV fun _ => 0) 70)) HA1.out rfl _ _ rfl rfl rfl ?_; rw [← HW3.out])
    go_ret
    exact ⟨HB3.out, rfl⟩
  | true =>
    obtain ⟨hok, hpt, _⟩ := cngB_of hb
    obtain ⟨⟨z1, z8⟩, _, _⟩ := algOkB_of hok
    obtain ⟨zn, rfl⟩ : ∃ zn : Nat, z = (zn : Int) := ⟨z.toNat, by omega⟩
    obtain ⟨g, hg⟩ : ∃ g, extP xs = g := ⟨_, rfl⟩
    rw [hb, parF_yes, hg] at HC
    simp only [if_true, hg]
    have hlz : xs.length = zn := by have := (partB_of hpt).1; omega
    have hoA : okAll g zn = true := by rw [← hg]; exact okAll_ext hlz (by have := (partB_of hpt).2; rwa [hlz] at this)
    have HQ := Lib.hid (fun (W : World) => quotBy_any zn ao c n g W (by omega) (by omega) hoA)
    unfold NewQt at HQ
    clear hv hx hs hm hB hX0 hb hg hok hpt z1 z8 hlz hoA
    go_enter Try.func73, Try.ntmps73
    go_wp2_with fail
    refine (HC.out _ HB0.out).mono ?_
    rintro e w1 ⟨rfl, b1⟩
    have HB1 := Lib.hid (HB0.out.trans (b1.mono HB0.out.size))
    have HX1 := Lib.hid ((b1.block w.heap.size (by simp)).trans HX0.out)
    obtain ⟨cz, ca, _⟩ := box_cells HX1.out
    have HA1 := Lib.hid (ArrAt.new w1 fun _ => 0)
    have hz1_ : w.heap.size < w1.heap.size := (Array.getElem?_eq_some_iff.1 HX1.out).1
    clear b1 cz0 ca0
    obtain ⟨w3, hw3⟩ : ∃ w3, w3 = (w1.alloc (.cells (arrV fun _ => 0) 70)).setRow w1.heap.size (arrV g) := ⟨_, rfl⟩
    have HA3 : Hid (ArrAt w3 w1.heap.size g) := by unfold Hid; rw [hw3]; exact HA1.out.setRow
    have HB3 : Hid (Below w.heap.size w w3) := by unfold Hid; rw [hw3]; exact below_setRow (below_then HB1.out (below_alloc w1 _)) (by omega) _
    have HX3 : Hid (w3.heap[w.heap.size]? = some (.cells #[.int .i64 (zn : Int), .slice ao n c] 31 (0, 0))) := by
      unfold Hid; rw [hw3]
      exact ((below_setRow (below_alloc w1 (.cells (arrV fun _ => 0) 70)) (Nat.le_refl _) (arrV g)).block _ (by omega)).trans HX1.out
    have HW3 := Lib.hid hw3
    clear hw3 cz ca
    obtain ⟨cz, ca, _⟩ := box_cells HX3.out
    go_wp2_with (first | (refine st8 (w := w1.alloc (.cells (arrV fun _ => 0) 70)) HA1.out rfl _ _ rfl rfl rfl ?_; rw [← HW3.out]) | (refine ld8 HA3.out rfl _ rfl rfl ?_))
    refine (HQ.out _).mono ?_
    rintro e w4 ⟨va, vb, rfl, hq4, b4⟩
    have HB4 := Lib.hid (HB3.out.trans (b4.mono HB3.out.size))
    have HQ4 := Lib.hid hq4
    have hsz := HB3.out.size
    clear b4 hq4
    go_wp2_with fail
    go_ret
    exact ⟨HB4.out, w3.heap.size + 1, w3.heap.size + 1 + 1, va, vb, rfl, by omega, by omega, by rw [Int.toNat_natCast]; exact HQ4.out⟩

def valNaturalMap (z : Int) (fs : List OpD) (xs : List Int) : List Int × Bool := if cngB z fs xs = true then (lstP z.toNat (naI (gI xs)), true) else ([], false)
theorem smallNaturalMap (z : Int) (fs : List OpD) (xs : List Int) : (valNaturalMap z fs xs).1.length ≤ 4194304 := by
  unfold valNaturalMap
  split
  · rename_i h
    have := (algOkB_of (cngB_of h).1).1
    simp only [lstP_len]; omega
  · simp
theorem na_ext {z : Int} {fs : List OpD} {xs : List Int} (h : cngB z fs xs = true) : lstP z.toNat (naI (extP xs)) = lstP z.toNat (naI (gI xs)) := by
  have := (partB_of (cngB_of h).2.1).1
  exact lstP_congr fun x hx => naI_congr fun y hy => extP_lt (by omega)

set_option maxHeartbeats 1000000 in
theorem implNaturalMap (lo hi : Nat) (z : Int) (ao : Option Addr) (c n : Nat) (fs : List OpD) (lo2 hi2 : Nat) (bo : Option Addr) (d m : Nat) (xs : List Int) (w : World) (hv : OView w lo hi ao n fs) (hhi : hi ≤ w.heap.size) (hs : ∀ (j : Nat) (f : OpD), fs[j]? = some f → f.2.length ≤ maxLen)
    (hx : IView w lo2 hi2 bo m xs) (hhi2 : hi2 ≤ w.heap.size) (hm : m ≤ maxLen) :
    Calls Try.prog 33 #[.agg #[.int .i64 z, .slice ao n c], .slice bo m d] w fun e w' => ResL w w' (valNaturalMap z fs xs).1 (valNaturalMap z fs xs).2 e := by
  have hB := below_alloc w (.cells #[.int .i64 z, .slice ao n c] 31)
  have HB0 := Lib.hid hB
  have HC := Lib.hid (quotOf_any lo hi z ao c n fs lo2 hi2 bo d m xs _ (hv.kept (Kept.of_below hB hhi)) (Nat.le_trans hhi hB.size) hs (hx.kept (Kept.of_below hB hhi2)) (Nat.le_trans hhi2 hB.size) hm)
  unfold ResQ at HC
  unfold ResL valNaturalMap
  cases hb : cngB z fs xs with
  | false =>
    simp only [hb, Bool.false_eq_true, if_false] at HC
    rw [if_neg (by simp)]
    clear hv hx hs hm hB hb
    go_enter Try.func33, Try.ntmps33
    go_wp2_with fail
    refine HC.out.mono ?_
    rintro e w1 ⟨b1, rfl⟩
    have HB1 := Lib.hid (HB0.out.trans (b1.mono HB0.out.size))
    clear b1
    go_wp2_with fail
    go_ret2
    exact ⟨_, _, _, rfl, rfl, OwnsInts.of_row (World.ownsRow_nil _ _ _ _), HB1.out⟩
  | true =>
    have hne := na_ext hb
    simp only [hb, if_true] at HC
    rw [if_pos rfl, ← hne]
    obtain ⟨zn, hzn⟩ : ∃ zn, z.toNat = zn := ⟨_, rfl⟩
    rw [hzn]
    simp only [hzn] at HC
    clear hv hx hs hm hB hb hne hzn
    go_enter Try.func33, Try.ntmps33
    go_wp2_with fail
    refine HC.out.mono ?_
    rintro e w1 ⟨b1, A, Q, va, vb, rfl, hA, hQ, hq⟩
    obtain ⟨a, cc, rfl⟩ := own_form hq.nat
    have HB1 := Lib.hid (HB0.out.trans (b1.mono HB0.out.size))
    obtain ⟨_, _, _, d11, _⟩ := qt_cells hq.box
    have HO := Lib.hid (ownsRow_base hq.nat (b' := w.heap.size) (by have := HB0.out.size; omega))
    clear b1 hq
    go_wp2_with fail
    go_ret2
    exact ⟨_, _, _, rfl, (lstP_len _ _).symm, OwnsInts.of_row HO.out, HB1.out⟩
end

section
open Go.RowKit
set_option linter.unusedVariables false
set_option linter.unusedSimpArgs false

theorem QtS.below {W W' : World} {A Q : Nat} {z : Int} {ao : Option Addr} {n c : Nat} {f : Nat → Int} {k1 k : Nat} {va vb : Value} (h : QtS W A Q z ao n c f k1 k va vb) (hb : Below W.heap.size W W') : QtS W' A Q z ao n c f k1 k va vb :=
  ⟨(hb.block Q h.lt).trans h.box, h.arr.below hb h.arr.lt, h.les.kept (grown_of_below hb none) (own_em _), h.nat.kept (grown_of_below hb none) (own_em _), h.ne⟩
theorem qt_range {W : World} {Q : Nat} {z : Int} {ao : Option Addr} {n c : Nat} {f : Nat → Int} {va vb : Value} (h : W.heap[Q]? = some (.cells (qtArr z ao n c f va vb) 76 (0, 0))) : W.rangeAt Q 2 (arrV f).toList := by
  intro j v hv
  have hj : j < 8 := (List.getElem?_eq_some_iff.1 hv).1
  rw [cell_of_row W Q (2 + j) _ _ (0, 0) h]
  rcases below8 hj with rfl | rfl | rfl | rfl | rfl | rfl | rfl | rfl <;> exact hv

def QtV (w w' : World) (b : Bool) (z : Int) (ao : Option Addr) (n c : Nat) (xs : List Int) (pv : Value) : Prop :=
  if b = true then ∃ (A Q : Nat) (va vb : Value), pv = .pointer (some ⟨Q, 0, none⟩) ∧ w.heap.size ≤ A ∧ A < Q ∧ QtS w' A Q z ao n c (extP xs) z.toNat z.toNat va vb else pv = .pointer none
theorem quotOf_pv (lo hi : Nat) (z : Int) (ao : Option Addr) (c n : Nat) (fs : List OpD) (lo2 hi2 : Nat) (bo : Option Addr) (d m : Nat) (xs : List Int) (w : World) (hv : OView w lo hi ao n fs) (hhi : hi ≤ w.heap.size) (hs : ∀ (j : Nat) (f : OpD), fs[j]? = some f → f.2.length ≤ maxLen)
    (hx : IView w lo2 hi2 bo m xs) (hhi2 : hi2 ≤ w.heap.size) (hm : m ≤ maxLen) :
    Calls Try.prog 73 #[.agg #[.int .i64 z, .slice ao n c], .slice bo m d] w fun e w' => ∃ pv, e = .returned pv ∧ Below w.heap.size w w' ∧ QtV w w' (cngB z fs xs) z ao n c xs pv := by
  refine (quotOf_any lo hi z ao c n fs lo2 hi2 bo d m xs w hv hhi hs hx hhi2 hm).mono ?_
  rintro e w' ⟨hb, hr⟩
  unfold QtV
  cases hc : cngB z fs xs with
  | false =>
    simp only [hc, Bool.false_eq_true, if_false] at hr ⊢
    exact ⟨_, hr, hb, rfl⟩
  | true =>
    simp only [hc, if_true] at hr ⊢
    obtain ⟨A, Q, va, vb, he, h1, h2, h3⟩ := hr
    exact ⟨_, he, hb, A, Q, va, vb, rfl, h1, h2, h3⟩

def fcB (z : Int) (fs : List OpD) (xs ys : List Int) : Bool := cngB z fs xs && (cngB z fs ys && finB (gI xs) (gI ys) xs.length)
/-- What finerAndCoarser gives. -/
def ResFC (w w' : World) (b : Bool) (z : Int) (ao : Option Addr) (n c : Nat) (xs ys : List Int) (e : Ending) : Prop :=
  Below w.heap.size w w' ∧ if b = true then ∃ (A1 Q1 A2 Q2 : Nat) (va1 vb1 va2 vb2 : Value), e = .returned (.tuple #[.pointer (some ⟨Q1, 0, none⟩), .pointer (some ⟨Q2, 0, none⟩)]) ∧ (w.heap.size ≤ A1 ∧ A1 < Q1) ∧ (w.heap.size ≤ A2 ∧ A2 < Q2) ∧ QtS w' A1 Q1 z ao n c (extP xs) z.toNat z.toNat va1 vb1 ∧ QtS w' A2 Q2 z ao n c (extP ys) z.toNat z.toNat va2 vb2
    else e = .returned (.tuple #[.pointer none, .pointer none])

set_option maxHeartbeats 8000000 in
set_option maxRecDepth 100000 in
theorem finCo_any (lo hi : Nat) (z : Int) (ao : Option Addr) (c n : Nat) (fs : List OpD) (lo2 hi2 : Nat) (bo : Option Addr) (d m : Nat) (xs : List Int) (lo3 hi3 : Nat) (po : Option Addr) (e_ l : Nat) (ys : List Int) (w : World) (hv : OView w lo hi ao n fs) (hhi : hi ≤ w.heap.size) (hs : ∀ (j : Nat) (f : OpD), fs[j]? = some f → f.2.length ≤ maxLen)
    (hx : IView w lo2 hi2 bo m xs) (hhi2 : hi2 ≤ w.heap.size) (hm : m ≤ maxLen) (hy : IView w lo3 hi3 po l ys) (hhi3 : hi3 ≤ w.heap.size) (hl : l ≤ maxLen) :
    Calls Try.prog 78 #[.agg #[.int .i64 z, .slice ao n c], .slice bo m d, .slice po l e_] w fun e w' => ResFC w w' (fcB z fs xs ys) z ao n c xs ys e := by
  have hB := below_alloc w (.cells #[.int .i64 z, .slice ao n c] 31)
  have HB0 := Lib.hid hB
  have hX0 : (w.alloc (.cells #[.int .i64 z, .slice ao n c] 31)).heap[w.heap.size]? = some (.cells #[.int .i64 z, .slice ao n c] 31 (0, 0)) := heap_alloc_new _ _
  have HX0 := Lib.hid hX0
  obtain ⟨cz0, ca0, _⟩ := box_cells hX0
  have HC1 := Lib.hid (fun (W : World) (hW : Below w.heap.size w W) => quotOf_pv lo hi z ao c n fs lo2 hi2 bo d m xs W (hv.kept (Kept.of_below hW hhi)) (Nat.le_trans hhi hW.size) hs (hx.kept (Kept.of_below hW hhi2)) (Nat.le_trans hhi2 hW.size) hm)
  have HC2 := Lib.hid (fun (W : World) (hW : Below w.heap.size w W) => quotOf_pv lo hi z ao c n fs lo3 hi3 po e_ l ys W (hv.kept (Kept.of_below hW hhi)) (Nat.le_trans hhi hW.size) hs (hy.kept (Kept.of_below hW hhi3)) (Nat.le_trans hhi3 hW.size) hl)
  clear hv hx hy hs hm hl hB hX0
  go_enter Try.func78, Try.ntmps78
  go_wp2_with fail
  refine wp_region_noPanic ?_
  refine wp_region_held_drew (S := fun W_ => W_.cell? ⟨w.heap.size, 0, none⟩ = some (.int .i64 z) ∧ W_.cell? ⟨w.heap.size, 1, none⟩ = some (.slice ao n c)) (by kernel_rfl) ?_ (fun hHeld => ?_)
  · exact ⟨cz0, ca0⟩
  refine wpAnyH_take (i := 0) (oi := ⟨_, _, _, _, _, _⟩) (v := ?_) rfl (by kernel_rfl) (by kernel_rfl) (by kernel_rfl) (fun _ _ _ h => h) (Or.inl ⟨rfl, ?_⟩) (by assumption) ?_
  rotate_left 1
  · intro w_ hSw; (try dsimp only at hSw); go_simp; (try with_reducible rfl)
  (try simp only [Act.put, List.setIfInBounds_toArray, List.set_cons_zero, List.set_cons_succ])
  refine wpAnyH_take (i := 1) (oi := ⟨_, _, _, _, _, _⟩) (v := ?_) rfl (by kernel_rfl) (by kernel_rfl) (by kernel_rfl) (fun _ _ _ h => h) (Or.inl ⟨rfl, ?_⟩) (by assumption) ?_
  rotate_left 1
  · intro w_ hSw; (try dsimp only at hSw); go_simp; (try with_reducible rfl)
  (try simp only [Act.put, List.setIfInBounds_toArray, List.set_cons_zero, List.set_cons_succ])
  refine wpAnyH_take (i := 3) (oi := ⟨_, _, _, _, _, _⟩) (v := ?_) rfl (by kernel_rfl) (by kernel_rfl) (by kernel_rfl) (fun _ _ _ h => h) (Or.inl ⟨rfl, ?_⟩) (by assumption) ?_
  rotate_left 1
  · intro w_ hSw; (try dsimp only at hSw); go_simp; (try with_reducible rfl)
  (try simp only [Act.put, List.setIfInBounds_toArray, List.set_cons_zero, List.set_cons_succ])
  refine wpAnyH_take (i := 4) (oi := ⟨_, _, _, _, _, _⟩) (v := ?_) rfl (by kernel_rfl) (by kernel_rfl) (by kernel_rfl) (fun _ _ _ h => h) (Or.inl ⟨rfl, ?_⟩) (by assumption) ?_
  rotate_left 1
  · intro w_ hSw; (try dsimp only at hSw); go_simp; (try with_reducible rfl)
  (try simp only [Act.put, List.setIfInBounds_toArray, List.set_cons_zero, List.set_cons_succ])
  refine wpAnyH_ready (rs := [2]) (by kernel_rfl) (by simp) ?_
  refine AllReadyH.cons (o := ⟨_, _, _, _, _, _⟩) rfl (fun K hK => ?_) AllReadyH.nil
  go_simp
  go_at_call 73
  refine (HC1.out _ (HB0.out.drew)).mono ?_
  rintro e_ w2 ⟨pv1, rfl, b2, hq1⟩
  have HB2 := Lib.hid (HB0.out.trans ((below_then (below_drew _) b2).mono HB0.out.size))
  have HX2 := Lib.hid ((b2.block w.heap.size (by show w.heap.size < (w.alloc _).heap.size; simp)).trans HX0.out)
  have HQ1 := Lib.hid hq1
  have cz2 := (box_cells HX2.out).1
  have ca2 := (box_cells HX2.out).2.1
  clear b2 hq1
  refine hK.out _ _ ?_ (fun hHeld => ?_)
  · exact ⟨cz2, ca2⟩
  clear hK K
  (try simp only [Act.put, List.setIfInBounds_toArray, List.set_cons_zero, List.set_cons_succ])
  refine wpAnyH_ready (rs := [5]) (by kernel_rfl) (by simp) ?_
  refine AllReadyH.cons (o := ⟨_, _, _, _, _, _⟩) rfl (fun K hK => ?_) AllReadyH.nil
  go_simp
  go_at_call 73
  refine (HC2.out _ HB2.out).mono ?_
  rintro e_ w3 ⟨pv2, rfl, b3, hq2⟩
  have HB3 := Lib.hid (HB2.out.trans (b3.mono HB2.out.size))
  have HB23 := Lib.hid b3
  have HQ2 := Lib.hid hq2
  clear b3 hq2
  refine hK.out _ _ ?_ (fun hHeld => ?_)
  · exact ⟨cell_b HB23.out cz2, cell_b HB23.out ca2⟩
  clear hK K
  (try simp only [Act.put, List.setIfInBounds_toArray, List.set_cons_zero, List.set_cons_succ])
  refine wpAnyH_take (i := 6) (oi := ⟨_, _, _, _, _, _⟩) (v := ?_) rfl (by kernel_rfl) (by kernel_rfl) (by kernel_rfl) (fun _ _ _ h => h) (Or.inl ⟨rfl, ?_⟩) (by assumption) ?_
  rotate_left 1
  · intro w_ hSw; (try dsimp only at hSw); go_simp; (try with_reducible rfl)
  (try simp only [Act.put, List.setIfInBounds_toArray, List.set_cons_zero, List.set_cons_succ])
  refine wpAnyH_take (i := 7) (oi := ⟨_, _, _, _, _, _⟩) (v := ?_) rfl (by kernel_rfl) (by kernel_rfl) (by kernel_rfl) (fun _ _ _ h => h) (Or.inl ⟨rfl, ?_⟩) (by assumption) ?_
  rotate_left 1
  · intro w_ hSw; (try dsimp only at hSw); go_simp; (try with_reducible rfl)
  (try simp only [Act.put, List.setIfInBounds_toArray, List.set_cons_zero, List.set_cons_succ])
  refine wpAnyH_done (by kernel_rfl) ?_ _
  refine NoPanic.normal ?_
  clear hHeld cz0 ca0 cz2 ca2
  have hQ1 := HQ1.out
  have hQ2 := HQ2.out
  unfold QtV at hQ1 hQ2
  clear HQ1 HQ2 HC1 HC2
  cases h1 : cngB z fs xs with
  | false =>
    have HFc : Hid (fcB z fs xs ys = false) := by unfold Hid fcB; rw [h1]; rfl
    simp only [h1, Bool.false_eq_true, if_false] at hQ1
    subst hQ1
    have HB4 : Hid (Below w.heap.size w w3.drew) := HB3.out.drew
    clear hQ2 h1
    go_wp2_with fail
    refine wp_region_noPanic ?_
    refine wp_region_held_drew (S := fun _ => True) (by kernel_rfl) ?_ (fun hHeld => ?_)
    · trivial
    refine wpAnyH_take (i := 0) (oi := ⟨_, _, _, _, _, _⟩) (v := ?_) rfl (by kernel_rfl) (by kernel_rfl) (by kernel_rfl) (fun _ _ _ h => h) (Or.inl ⟨rfl, ?_⟩) (trivial) ?_
    rotate_left 1
    · intro w_ hSw; (try dsimp only at hSw); go_simp; (try with_reducible rfl)
    (try simp only [Act.put, List.setIfInBounds_toArray, List.set_cons_zero, List.set_cons_succ])
    refine wpAnyH_take (i := 1) (oi := ⟨_, _, _, _, _, _⟩) (v := ?_) rfl (by kernel_rfl) (by kernel_rfl) (by kernel_rfl) (fun _ _ _ h => h) (Or.inl ⟨rfl, ?_⟩) (trivial) ?_
    rotate_left 1
    · intro w_ hSw; (try dsimp only at hSw); go_simp; (try with_reducible rfl)
    (try simp only [Act.put, List.setIfInBounds_toArray, List.set_cons_zero, List.set_cons_succ])
    refine wpAnyH_take (i := 2) (oi := ⟨_, _, _, _, _, _⟩) (v := ?_) rfl (by kernel_rfl) (by kernel_rfl) (by kernel_rfl) (fun _ _ _ h => h) (Or.inl ⟨rfl, ?_⟩) (trivial) ?_
    rotate_left 1
    · intro w_ hSw; (try dsimp only at hSw); go_simp; (try with_reducible rfl)
    (try simp only [Act.put, List.setIfInBounds_toArray, List.set_cons_zero, List.set_cons_succ])
    refine wpAnyH_take (i := 3) (oi := ⟨_, _, _, _, _, _⟩) (v := undef) rfl (by kernel_rfl) (by kernel_rfl) (by kernel_rfl) (fun _ _ _ h => h) (Or.inr ⟨rfl, rfl⟩) (trivial) ?_
    (try simp only [Act.put, List.setIfInBounds_toArray, List.set_cons_zero, List.set_cons_succ])
    refine wpAnyH_take (i := 4) (oi := ⟨_, _, _, _, _, _⟩) (v := undef) rfl (by kernel_rfl) (by kernel_rfl) (by kernel_rfl) (fun _ _ _ h => h) (Or.inr ⟨rfl, rfl⟩) (trivial) ?_
    (try simp only [Act.put, List.setIfInBounds_toArray, List.set_cons_zero, List.set_cons_succ])
    refine wpAnyH_take (i := 5) (oi := ⟨_, _, _, _, _, _⟩) (v := ?_) rfl (by kernel_rfl) (by kernel_rfl) (by kernel_rfl) (fun _ _ _ h => h) (Or.inl ⟨rfl, ?_⟩) (trivial) ?_
    rotate_left 1
    · intro w_ hSw; (try dsimp only at hSw); go_simp; (try with_reducible rfl)
    (try simp only [Act.put, List.setIfInBounds_toArray, List.set_cons_zero, List.set_cons_succ])
    refine wpAnyH_take (i := 6) (oi := ⟨_, _, _, _, _, _⟩) (v := ?_) rfl (by kernel_rfl) (by kernel_rfl) (by kernel_rfl) (fun _ _ _ h => h) (Or.inl ⟨rfl, ?_⟩) (trivial) ?_
    rotate_left 1
    · intro w_ hSw; (try dsimp only at hSw); go_simp; (try with_reducible rfl)
    (try simp only [Act.put, List.setIfInBounds_toArray, List.set_cons_zero, List.set_cons_succ])
    refine wpAnyH_take (i := 7) (oi := ⟨_, _, _, _, _, _⟩) (v := undef) rfl (by kernel_rfl) (by kernel_rfl) (by kernel_rfl) (fun _ _ _ h => h) (Or.inr ⟨rfl, rfl⟩) (trivial) ?_
    (try simp only [Act.put, List.setIfInBounds_toArray, List.set_cons_zero, List.set_cons_succ])
    refine wpAnyH_take (i := 8) (oi := ⟨_, _, _, _, _, _⟩) (v := undef) rfl (by kernel_rfl) (by kernel_rfl) (by kernel_rfl) (fun _ _ _ h => h) (Or.inr ⟨rfl, rfl⟩) (trivial) ?_
    (try simp only [Act.put, List.setIfInBounds_toArray, List.set_cons_zero, List.set_cons_succ])
    refine wpAnyH_take (i := 9) (oi := ⟨_, _, _, _, _, _⟩) (v := undef) rfl (by kernel_rfl) (by kernel_rfl) (by kernel_rfl) (fun _ _ _ h => h) (Or.inr ⟨rfl, rfl⟩) (trivial) ?_
    (try simp only [Act.put, List.setIfInBounds_toArray, List.set_cons_zero, List.set_cons_succ])
    refine wpAnyH_take (i := 10) (oi := ⟨_, _, _, _, _, _⟩) (v := undef) rfl (by kernel_rfl) (by kernel_rfl) (by kernel_rfl) (fun _ _ _ h => h) (Or.inr ⟨rfl, rfl⟩) (trivial) ?_
    (try simp only [Act.put, List.setIfInBounds_toArray, List.set_cons_zero, List.set_cons_succ])
    refine wpAnyH_take (i := 11) (oi := ⟨_, _, _, _, _, _⟩) (v := undef) rfl (by kernel_rfl) (by kernel_rfl) (by kernel_rfl) (fun _ _ _ h => h) (Or.inr ⟨rfl, rfl⟩) (trivial) ?_
    (try simp only [Act.put, List.setIfInBounds_toArray, List.set_cons_zero, List.set_cons_succ])
    refine wpAnyH_take (i := 12) (oi := ⟨_, _, _, _, _, _⟩) (v := undef) rfl (by kernel_rfl) (by kernel_rfl) (by kernel_rfl) (fun _ _ _ h => h) (Or.inr ⟨rfl, rfl⟩) (trivial) ?_
    (try simp only [Act.put, List.setIfInBounds_toArray, List.set_cons_zero, List.set_cons_succ])
    refine wpAnyH_take (i := 13) (oi := ⟨_, _, _, _, _, _⟩) (v := undef) rfl (by kernel_rfl) (by kernel_rfl) (by kernel_rfl) (fun _ _ _ h => h) (Or.inr ⟨rfl, rfl⟩) (trivial) ?_
    (try simp only [Act.put, List.setIfInBounds_toArray, List.set_cons_zero, List.set_cons_succ])
    refine wpAnyH_take (i := 14) (oi := ⟨_, _, _, _, _, _⟩) (v := undef) rfl (by kernel_rfl) (by kernel_rfl) (by kernel_rfl) (fun _ _ _ h => h) (Or.inr ⟨rfl, rfl⟩) (trivial) ?_
    (try simp only [Act.put, List.setIfInBounds_toArray, List.set_cons_zero, List.set_cons_succ])
    refine wpAnyH_take (i := 15) (oi := ⟨_, _, _, _, _, _⟩) (v := undef) rfl (by kernel_rfl) (by kernel_rfl) (by kernel_rfl) (fun _ _ _ h => h) (Or.inr ⟨rfl, rfl⟩) (trivial) ?_
    (try simp only [Act.put, List.setIfInBounds_toArray, List.set_cons_zero, List.set_cons_succ])
    refine wpAnyH_take (i := 16) (oi := ⟨_, _, _, _, _, _⟩) (v := undef) rfl (by kernel_rfl) (by kernel_rfl) (by kernel_rfl) (fun _ _ _ h => h) (Or.inr ⟨rfl, rfl⟩) (trivial) ?_
    (try simp only [Act.put, List.setIfInBounds_toArray, List.set_cons_zero, List.set_cons_succ])
    refine wpAnyH_take (i := 17) (oi := ⟨_, _, _, _, _, _⟩) (v := ?_) rfl (by kernel_rfl) (by kernel_rfl) (by kernel_rfl) (fun _ _ _ h => h) (Or.inl ⟨rfl, ?_⟩) (trivial) ?_
    rotate_left 1
    · intro w_ hSw; (try dsimp only at hSw); go_simp; (try with_reducible rfl)
    (try simp only [Act.put, List.setIfInBounds_toArray, List.set_cons_zero, List.set_cons_succ])
    refine wpAnyH_done (by kernel_rfl) ?_ _
    refine NoPanic.normal ?_
    clear hHeld
    go_wp2_with fail
    go_ret2
    refine ⟨HB4.out, ?_⟩
    rw [if_neg (by simp [HFc.out])]
    rfl
  | true =>
    simp only [h1, if_true] at hQ1
    obtain ⟨A1, Q1, va1, vb1, rfl, hA1, hAQ1, hq1⟩ := hQ1
    cases h2 : cngB z fs ys with
    | false =>
      have HFc : Hid (fcB z fs xs ys = false) := by unfold Hid fcB; rw [h2, Bool.false_and, Bool.and_false]
      simp only [h2, Bool.false_eq_true, if_false] at hQ2
      subst hQ2
      have HB4 : Hid (Below w.heap.size w w3.drew) := HB3.out.drew
      clear h1 h2 hq1
      go_wp2_with fail
      refine wp_region_noPanic ?_
      refine wp_region_held_drew (S := fun _ => True) (by kernel_rfl) ?_ (fun hHeld => ?_)
      · trivial
      refine wpAnyH_take (i := 0) (oi := ⟨_, _, _, _, _, _⟩) (v := ?_) rfl (by kernel_rfl) (by kernel_rfl) (by kernel_rfl) (fun _ _ _ h => h) (Or.inl ⟨rfl, ?_⟩) (trivial) ?_
      rotate_left 1
      · intro w_ hSw; (try dsimp only at hSw); go_simp; (try with_reducible rfl)
      (try simp only [Act.put, List.setIfInBounds_toArray, List.set_cons_zero, List.set_cons_succ])
      refine wpAnyH_take (i := 1) (oi := ⟨_, _, _, _, _, _⟩) (v := ?_) rfl (by kernel_rfl) (by kernel_rfl) (by kernel_rfl) (fun _ _ _ h => h) (Or.inl ⟨rfl, ?_⟩) (trivial) ?_
      rotate_left 1
      · intro w_ hSw; (try dsimp only at hSw); go_simp; (try with_reducible rfl)
      (try simp only [Act.put, List.setIfInBounds_toArray, List.set_cons_zero, List.set_cons_succ])
      refine wpAnyH_take (i := 2) (oi := ⟨_, _, _, _, _, _⟩) (v := ?_) rfl (by kernel_rfl) (by kernel_rfl) (by kernel_rfl) (fun _ _ _ h => h) (Or.inl ⟨rfl, ?_⟩) (trivial) ?_
      rotate_left 1
      · intro w_ hSw; (try dsimp only at hSw); go_simp; (try with_reducible rfl)
      (try simp only [Act.put, List.setIfInBounds_toArray, List.set_cons_zero, List.set_cons_succ])
      refine wpAnyH_take (i := 3) (oi := ⟨_, _, _, _, _, _⟩) (v := ?_) rfl (by kernel_rfl) (by kernel_rfl) (by kernel_rfl) (fun _ _ _ h => h) (Or.inl ⟨rfl, ?_⟩) (trivial) ?_
      rotate_left 1
      · intro w_ hSw; (try dsimp only at hSw); go_simp; (try with_reducible rfl)
      (try simp only [Act.put, List.setIfInBounds_toArray, List.set_cons_zero, List.set_cons_succ])
      refine wpAnyH_take (i := 4) (oi := ⟨_, _, _, _, _, _⟩) (v := ?_) rfl (by kernel_rfl) (by kernel_rfl) (by kernel_rfl) (fun _ _ _ h => h) (Or.inl ⟨rfl, ?_⟩) (trivial) ?_
      rotate_left 1
      · intro w_ hSw; (try dsimp only at hSw); go_simp; (try with_reducible rfl)
      (try simp only [Act.put, List.setIfInBounds_toArray, List.set_cons_zero, List.set_cons_succ])
      refine wpAnyH_take (i := 5) (oi := ⟨_, _, _, _, _, _⟩) (v := ?_) rfl (by kernel_rfl) (by kernel_rfl) (by kernel_rfl) (fun _ _ _ h => h) (Or.inl ⟨rfl, ?_⟩) (trivial) ?_
      rotate_left 1
      · intro w_ hSw; (try dsimp only at hSw); go_simp; (try with_reducible rfl)
      (try simp only [Act.put, List.setIfInBounds_toArray, List.set_cons_zero, List.set_cons_succ])
      refine wpAnyH_take (i := 6) (oi := ⟨_, _, _, _, _, _⟩) (v := ?_) rfl (by kernel_rfl) (by kernel_rfl) (by kernel_rfl) (fun _ _ _ h => h) (Or.inl ⟨rfl, ?_⟩) (trivial) ?_
      rotate_left 1
      · intro w_ hSw; (try dsimp only at hSw); go_simp; (try with_reducible rfl)
      (try simp only [Act.put, List.setIfInBounds_toArray, List.set_cons_zero, List.set_cons_succ])
      refine wpAnyH_take (i := 7) (oi := ⟨_, _, _, _, _, _⟩) (v := undef) rfl (by kernel_rfl) (by kernel_rfl) (by kernel_rfl) (fun _ _ _ h => h) (Or.inr ⟨rfl, rfl⟩) (trivial) ?_
      (try simp only [Act.put, List.setIfInBounds_toArray, List.set_cons_zero, List.set_cons_succ])
      refine wpAnyH_take (i := 8) (oi := ⟨_, _, _, _, _, _⟩) (v := undef) rfl (by kernel_rfl) (by kernel_rfl) (by kernel_rfl) (fun _ _ _ h => h) (Or.inr ⟨rfl, rfl⟩) (trivial) ?_
      (try simp only [Act.put, List.setIfInBounds_toArray, List.set_cons_zero, List.set_cons_succ])
      refine wpAnyH_take (i := 9) (oi := ⟨_, _, _, _, _, _⟩) (v := undef) rfl (by kernel_rfl) (by kernel_rfl) (by kernel_rfl) (fun _ _ _ h => h) (Or.inr ⟨rfl, rfl⟩) (trivial) ?_
      (try simp only [Act.put, List.setIfInBounds_toArray, List.set_cons_zero, List.set_cons_succ])
      refine wpAnyH_take (i := 10) (oi := ⟨_, _, _, _, _, _⟩) (v := undef) rfl (by kernel_rfl) (by kernel_rfl) (by kernel_rfl) (fun _ _ _ h => h) (Or.inr ⟨rfl, rfl⟩) (trivial) ?_
      (try simp only [Act.put, List.setIfInBounds_toArray, List.set_cons_zero, List.set_cons_succ])
      refine wpAnyH_take (i := 11) (oi := ⟨_, _, _, _, _, _⟩) (v := undef) rfl (by kernel_rfl) (by kernel_rfl) (by kernel_rfl) (fun _ _ _ h => h) (Or.inr ⟨rfl, rfl⟩) (trivial) ?_
      (try simp only [Act.put, List.setIfInBounds_toArray, List.set_cons_zero, List.set_cons_succ])
      refine wpAnyH_take (i := 12) (oi := ⟨_, _, _, _, _, _⟩) (v := undef) rfl (by kernel_rfl) (by kernel_rfl) (by kernel_rfl) (fun _ _ _ h => h) (Or.inr ⟨rfl, rfl⟩) (trivial) ?_
      (try simp only [Act.put, List.setIfInBounds_toArray, List.set_cons_zero, List.set_cons_succ])
      refine wpAnyH_take (i := 13) (oi := ⟨_, _, _, _, _, _⟩) (v := undef) rfl (by kernel_rfl) (by kernel_rfl) (by kernel_rfl) (fun _ _ _ h => h) (Or.inr ⟨rfl, rfl⟩) (trivial) ?_
      (try simp only [Act.put, List.setIfInBounds_toArray, List.set_cons_zero, List.set_cons_succ])
      refine wpAnyH_take (i := 14) (oi := ⟨_, _, _, _, _, _⟩) (v := undef) rfl (by kernel_rfl) (by kernel_rfl) (by kernel_rfl) (fun _ _ _ h => h) (Or.inr ⟨rfl, rfl⟩) (trivial) ?_
      (try simp only [Act.put, List.setIfInBounds_toArray, List.set_cons_zero, List.set_cons_succ])
      refine wpAnyH_take (i := 15) (oi := ⟨_, _, _, _, _, _⟩) (v := undef) rfl (by kernel_rfl) (by kernel_rfl) (by kernel_rfl) (fun _ _ _ h => h) (Or.inr ⟨rfl, rfl⟩) (trivial) ?_
      (try simp only [Act.put, List.setIfInBounds_toArray, List.set_cons_zero, List.set_cons_succ])
      refine wpAnyH_take (i := 16) (oi := ⟨_, _, _, _, _, _⟩) (v := undef) rfl (by kernel_rfl) (by kernel_rfl) (by kernel_rfl) (fun _ _ _ h => h) (Or.inr ⟨rfl, rfl⟩) (trivial) ?_
      (try simp only [Act.put, List.setIfInBounds_toArray, List.set_cons_zero, List.set_cons_succ])
      refine wpAnyH_take (i := 17) (oi := ⟨_, _, _, _, _, _⟩) (v := ?_) rfl (by kernel_rfl) (by kernel_rfl) (by kernel_rfl) (fun _ _ _ h => h) (Or.inl ⟨rfl, ?_⟩) (trivial) ?_
      rotate_left 1
      · intro w_ hSw; (try dsimp only at hSw); go_simp; (try with_reducible rfl)
      (try simp only [Act.put, List.setIfInBounds_toArray, List.set_cons_zero, List.set_cons_succ])
      refine wpAnyH_done (by kernel_rfl) ?_ _
      refine NoPanic.normal ?_
      clear hHeld
      go_wp2_with fail
      go_ret2
      refine ⟨HB4.out, ?_⟩
      rw [if_neg (by simp [HFc.out])]
      rfl
    | true =>
      simp only [h2, if_true] at hQ2
      obtain ⟨A2, Q2, va2, vb2, rfl, hA2, hAQ2, hq2⟩ := hQ2
      have hq1' := hq1.below HB23.out
      obtain ⟨hok, hpx, _⟩ := cngB_of h1
      obtain ⟨_, hpy, _⟩ := cngB_of h2
      obtain ⟨⟨z1, z8⟩, _, _⟩ := algOkB_of hok
      obtain ⟨f, hf⟩ : ∃ f, extP xs = f := ⟨_, rfl⟩
      obtain ⟨g, hg⟩ : ∃ g, extP ys = g := ⟨_, rfl⟩
      have hFi := fun (W : World) => isFiner_any f g W (fun k hk => by rw [← hf]; have := ext_bd hpx k; omega)
      have hfe : finB f g 8 = fcB z fs xs ys := by
        rw [← hf, ← hg, finB_ext hpx hpy z8]
        unfold fcB
        rw [h1, h2]; rfl
      rw [hfe] at hFi
      obtain ⟨r, hr⟩ : ∃ r, fcB z fs xs ys = r := ⟨_, rfl⟩
      rw [hr] at hFi
      have HFi := Lib.hid hFi
      have HFc := Lib.hid hr
      rw [hf] at hq1'
      rw [hg] at hq2
      have hbx1 := hq1'.box
      have hbx2 := hq2.box
      have hq1l := hq1'.lt
      have hq2l := hq2.lt
      have hr1 := qt_range hbx1
      have hr2 := qt_range hbx2
      have HQ1 := Lib.hid hq1'
      have HQ2 := Lib.hid hq2
      have HFe := Lib.hid hf
      have HGe := Lib.hid hg
      have hs2 := HB2.out.size
      clear h1 h2 hq1 hq1' hq2 hok hpx hpy hf hg hFi hfe hr z1 z8
      have hA1' : w.heap.size ≤ A1 := by simp at hA1; omega
      go_wp2_with fail
      refine wp_region_noPanic ?_
      refine wp_region_held_drew (S := fun W_ => W_.rangeAt Q1 2 (arrV f).toList ∧ W_.rangeAt Q2 2 (arrV g).toList) (by kernel_rfl) ?_ (fun hHeld => ?_)
      · exact ⟨hr1, hr2⟩
      refine wpAnyH_take (i := 0) (oi := ⟨_, _, _, _, _, _⟩) (v := ?_) rfl (by kernel_rfl) (by kernel_rfl) (by kernel_rfl) (fun _ _ _ h => h) (Or.inl ⟨rfl, ?_⟩) (by assumption) ?_
      rotate_left 1
      · intro w_ hSw; (try dsimp only at hSw); go_simp; (try with_reducible rfl)
      (try simp only [Act.put, List.setIfInBounds_toArray, List.set_cons_zero, List.set_cons_succ])
      refine wpAnyH_take (i := 1) (oi := ⟨_, _, _, _, _, _⟩) (v := ?_) rfl (by kernel_rfl) (by kernel_rfl) (by kernel_rfl) (fun _ _ _ h => h) (Or.inl ⟨rfl, ?_⟩) (by assumption) ?_
      rotate_left 1
      · intro w_ hSw; (try dsimp only at hSw); go_simp; (try with_reducible rfl)
      (try simp only [Act.put, List.setIfInBounds_toArray, List.set_cons_zero, List.set_cons_succ])
      refine wpAnyH_take (i := 2) (oi := ⟨_, _, _, _, _, _⟩) (v := ?_) rfl (by kernel_rfl) (by kernel_rfl) (by kernel_rfl) (fun _ _ _ h => h) (Or.inl ⟨rfl, ?_⟩) (by assumption) ?_
      rotate_left 1
      · intro w_ hSw; (try dsimp only at hSw); go_simp; (try with_reducible rfl)
      (try simp only [Act.put, List.setIfInBounds_toArray, List.set_cons_zero, List.set_cons_succ])
      refine wpAnyH_take (i := 3) (oi := ⟨_, _, _, _, _, _⟩) (v := ?_) rfl (by kernel_rfl) (by kernel_rfl) (by kernel_rfl) (fun _ _ _ h => h) (Or.inl ⟨rfl, ?_⟩) (by assumption) ?_
      rotate_left 1
      · intro w_ hSw; (try dsimp only at hSw); go_simp; (try with_reducible rfl)
      (try simp only [Act.put, List.setIfInBounds_toArray, List.set_cons_zero, List.set_cons_succ])
      refine wpAnyH_take (i := 4) (oi := ⟨_, _, _, _, _, _⟩) (v := ?_) rfl (by kernel_rfl) (by kernel_rfl) (by kernel_rfl) (fun _ _ _ h => h) (Or.inl ⟨rfl, ?_⟩) (by assumption) ?_
      rotate_left 1
      · intro w_ hSw; (try dsimp only at hSw); go_simp; (try with_reducible rfl)
      (try simp only [Act.put, List.setIfInBounds_toArray, List.set_cons_zero, List.set_cons_succ])
      refine wpAnyH_take (i := 5) (oi := ⟨_, _, _, _, _, _⟩) (v := ?_) rfl (by kernel_rfl) (by kernel_rfl) (by kernel_rfl) (fun _ _ _ h => h) (Or.inl ⟨rfl, ?_⟩) (by assumption) ?_
      rotate_left 1
      · intro w_ hSw; (try dsimp only at hSw); go_simp; (try with_reducible rfl)
      (try simp only [Act.put, List.setIfInBounds_toArray, List.set_cons_zero, List.set_cons_succ])
      refine wpAnyH_take (i := 6) (oi := ⟨_, _, _, _, _, _⟩) (v := ?_) rfl (by kernel_rfl) (by kernel_rfl) (by kernel_rfl) (fun _ _ _ h => h) (Or.inl ⟨rfl, ?_⟩) (by assumption) ?_
      rotate_left 1
      · intro w_ hSw; (try dsimp only at hSw); go_simp; (try with_reducible rfl)
      (try simp only [Act.put, List.setIfInBounds_toArray, List.set_cons_zero, List.set_cons_succ])
      refine wpAnyH_take (i := 7) (oi := ⟨_, _, _, _, _, _⟩) (v := ?_) rfl (by kernel_rfl) (by kernel_rfl) (by kernel_rfl) (fun _ _ _ h => h) (Or.inl ⟨rfl, ?_⟩) (by assumption) ?_
      rotate_left 1
      · intro w_ hSw; (try dsimp only at hSw); go_simp; (try with_reducible rfl)
      (try simp only [Act.put, List.setIfInBounds_toArray, List.set_cons_zero, List.set_cons_succ])
      refine wpAnyH_take (i := 8) (oi := ⟨_, _, _, _, _, _⟩) (v := ?_) rfl (by kernel_rfl) (by kernel_rfl) (by kernel_rfl) (fun _ _ _ h => h) (Or.inl ⟨rfl, ?_⟩) (by assumption) ?_
      rotate_left 1
      · intro w_ hSw; (try dsimp only at hSw); go_simp; (try with_reducible rfl)
      (try simp only [Act.put, List.setIfInBounds_toArray, List.set_cons_zero, List.set_cons_succ])
      refine wpAnyH_take (i := 9) (oi := ⟨_, _, _, _, _, _⟩) (v := ?_) rfl (by kernel_rfl) (by kernel_rfl) (by kernel_rfl) (fun _ _ _ h => h) (Or.inl ⟨rfl, ?_⟩) (by assumption) ?_
      rotate_left 1
      · intro w_ hSw; (try dsimp only at hSw); go_simp; (try with_reducible rfl)
      (try simp only [Act.put, List.setIfInBounds_toArray, List.set_cons_zero, List.set_cons_succ])
      refine wpAnyH_take (i := 10) (oi := ⟨_, _, _, _, _, _⟩) (v := .agg (arrV f)) rfl (by kernel_rfl) (by kernel_rfl) (by kernel_rfl) (fun _ _ _ h => h) (yieldsIf_load_mid rfl 70 _ rfl _ 2 rfl (arrV f).toList _ (fun _ h => h.1) Try.underlying70 rfl info8) (by assumption) ?_
      (try simp only [Act.put, List.setIfInBounds_toArray, List.set_cons_zero, List.set_cons_succ])
      refine wpAnyH_take (i := 11) (oi := ⟨_, _, _, _, _, _⟩) (v := ?_) rfl (by kernel_rfl) (by kernel_rfl) (by kernel_rfl) (fun _ _ _ h => h) (Or.inl ⟨rfl, ?_⟩) (by assumption) ?_
      rotate_left 1
      · intro w_ hSw; (try dsimp only at hSw); go_simp; (try with_reducible rfl)
      (try simp only [Act.put, List.setIfInBounds_toArray, List.set_cons_zero, List.set_cons_succ])
      refine wpAnyH_take (i := 12) (oi := ⟨_, _, _, _, _, _⟩) (v := ?_) rfl (by kernel_rfl) (by kernel_rfl) (by kernel_rfl) (fun _ _ _ h => h) (Or.inl ⟨rfl, ?_⟩) (by assumption) ?_
      rotate_left 1
      · intro w_ hSw; (try dsimp only at hSw); go_simp; (try with_reducible rfl)
      (try simp only [Act.put, List.setIfInBounds_toArray, List.set_cons_zero, List.set_cons_succ])
      refine wpAnyH_take (i := 13) (oi := ⟨_, _, _, _, _, _⟩) (v := ?_) rfl (by kernel_rfl) (by kernel_rfl) (by kernel_rfl) (fun _ _ _ h => h) (Or.inl ⟨rfl, ?_⟩) (by assumption) ?_
      rotate_left 1
      · intro w_ hSw; (try dsimp only at hSw); go_simp; (try with_reducible rfl)
      (try simp only [Act.put, List.setIfInBounds_toArray, List.set_cons_zero, List.set_cons_succ])
      refine wpAnyH_take (i := 14) (oi := ⟨_, _, _, _, _, _⟩) (v := .agg (arrV g)) rfl (by kernel_rfl) (by kernel_rfl) (by kernel_rfl) (fun _ _ _ h => h) (yieldsIf_load_mid rfl 70 _ rfl _ 2 rfl (arrV g).toList _ (fun _ h => h.2) Try.underlying70 rfl info8) (by assumption) ?_
      (try simp only [Act.put, List.setIfInBounds_toArray, List.set_cons_zero, List.set_cons_succ])
      refine wpAnyH_ready (rs := [15]) (by kernel_rfl) (by simp) ?_
      refine AllReadyH.cons (o := ⟨_, _, _, _, _, _⟩) rfl (fun K hK => ?_) AllReadyH.nil
      go_simp
      go_at_call 121
      refine (HFi.out _).mono ?_
      rintro e_ w4 ⟨rfl, b4⟩
      have HB4 := Lib.hid (below_then (below_drew w3) b4)
      clear b4
      refine hK.out _ _ ?_ (fun hHeld => ?_)
      · exact ⟨qt_range ((HB4.out.block _ hq1l).trans hbx1), qt_range ((HB4.out.block _ hq2l).trans hbx2)⟩
      clear hK K
      (try simp only [Act.put, List.setIfInBounds_toArray, List.set_cons_zero, List.set_cons_succ])
      refine wpAnyH_take (i := 16) (oi := ⟨_, _, _, _, _, _⟩) (v := ?_) rfl (by kernel_rfl) (by kernel_rfl) (by kernel_rfl) (fun _ _ _ h => h) (Or.inl ⟨rfl, ?_⟩) (by assumption) ?_
      rotate_left 1
      · intro w_ hSw; (try dsimp only at hSw); go_simp; (try with_reducible rfl)
      (try simp only [Act.put, List.setIfInBounds_toArray, List.set_cons_zero, List.set_cons_succ])
      refine wpAnyH_take (i := 17) (oi := ⟨_, _, _, _, _, _⟩) (v := ?_) rfl (by kernel_rfl) (by kernel_rfl) (by kernel_rfl) (fun _ _ _ h => h) (Or.inl ⟨rfl, ?_⟩) (by assumption) ?_
      rotate_left 1
      · intro w_ hSw; (try dsimp only at hSw); go_simp; (try with_reducible rfl)
      (try simp only [Act.put, List.setIfInBounds_toArray, List.set_cons_zero, List.set_cons_succ])
      refine wpAnyH_done (by kernel_rfl) ?_ _
      refine NoPanic.normal ?_
      have HBw := Lib.hid (HB3.out.trans (HB4.out.mono HB3.out.size))
      clear hHeld
      cases r with
      | false =>
        go_wp2_with fail
        go_ret2
        refine ⟨HBw.out, ?_⟩
        rw [if_neg (by simp [HFc.out])]
        rfl
      | true =>
        go_wp2_with fail
        go_ret2
        refine ⟨HBw.out, ?_⟩
        rw [if_pos HFc.out, HFe.out, HGe.out]
        exact ⟨A1, Q1, A2, Q2, va1, vb1, va2, vb2, rfl, ⟨hA1', hAQ1⟩, ⟨by omega, hAQ2⟩, HQ1.out.below HB4.out, HQ2.out.below HB4.out⟩
end

section
open Go.RowKit
set_option linter.unusedVariables false
set_option linter.unusedSimpArgs false

set_option maxHeartbeats 2000000 in
theorem l9Two_any (lo hi : Nat) (z : Int) (ao : Option Addr) (c n : Nat) (fs : List OpD) (lo2 hi2 : Nat) (bo : Option Addr) (d m : Nat) (xs : List Int) (lo3 hi3 : Nat) (po : Option Addr) (e_ l : Nat) (ys : List Int) (w : World) (hv : OView w lo hi ao n fs) (hhi : hi ≤ w.heap.size) (hs : ∀ (j : Nat) (f : OpD), fs[j]? = some f → f.2.length ≤ maxLen)
    (hx : IView w lo2 hi2 bo m xs) (hhi2 : hi2 ≤ w.heap.size) (hm : m ≤ maxLen) (hy : IView w lo3 hi3 po l ys) (hhi3 : hi3 ≤ w.heap.size) (hl : l ≤ maxLen) :
    Calls Try.prog 76 #[.agg #[.int .i64 z, .slice ao n c], .slice bo m d, .slice po l e_] w fun e w' => e = .returned (.bool (fcB z fs xs ys)) ∧ Below w.heap.size w w' := by
  have hB := below_alloc w (.cells #[.int .i64 z, .slice ao n c] 31)
  have HB0 := Lib.hid hB
  have hX0 : (w.alloc (.cells #[.int .i64 z, .slice ao n c] 31)).heap[w.heap.size]? = some (.cells #[.int .i64 z, .slice ao n c] 31 (0, 0)) := heap_alloc_new _ _
  have HX0 := Lib.hid hX0
  obtain ⟨cz0, ca0, _⟩ := box_cells hX0
  have HC := Lib.hid (takes9_any lo hi z ao c n fs lo2 hi2 bo d m xs _ (hv.kept (Kept.of_below hB hhi)) (Nat.le_trans hhi hB.size) hs (hx.kept (Kept.of_below hB hhi2)) (Nat.le_trans hhi2 hB.size) hm)
  have C1 : True := trivial
  cases h1 : cngB z fs xs with
  | false =>
    rw [show fcB z fs xs ys = false by simp [fcB, h1]]
    simp only [h1] at HC
    clear hv hx hy hs hm hl hB hX0 h1
    go_enter Try.func76, Try.ntmps76
    go_wp2_with fail
    refine HC.out.mono ?_
    rintro e w1 ⟨rfl, b1⟩
    have HB1 := Lib.hid (HB0.out.trans (b1.mono HB0.out.size))
    clear b1
    go_wp2_with fail
    go_ret
    exact ⟨rfl, HB1.out⟩
  | true =>
    simp only [h1] at HC
    obtain ⟨hok, hpx, _⟩ := cngB_of h1
    have HI := Lib.hid (fun (W : World) (hW : Below w.heap.size w W) => l6Is_any lo hi z ao c n fs lo3 hi3 po e_ l ys W (hv.kept (Kept.of_below hW hhi)) (Nat.le_trans hhi hW.size) hok (hy.kept (Kept.of_below hW hhi3)) (Nat.le_trans hhi3 hW.size) hl)
    cases h2 : cngB z fs ys with
    | false =>
      rw [show fcB z fs xs ys = false by simp [fcB, h2]]
      simp only [h2] at HI
      clear hv hx hy hs hm hl hB hX0 h1 h2 hok hpx
      go_enter Try.func76, Try.ntmps76
      go_wp2_with fail
      refine HC.out.mono ?_
      rintro e w1 ⟨rfl, b1⟩
      have HB1 := Lib.hid (HB0.out.trans (b1.mono HB0.out.size))
      obtain ⟨cz, ca, _⟩ := box_cells ((b1.block w.heap.size (by simp)).trans HX0.out)
      clear b1 cz0 ca0
      go_wp2_with fail
      refine (HI.out _ HB1.out).mono ?_
      rintro e w2 ⟨rfl, b2⟩
      have HB2 := Lib.hid (HB1.out.trans (b2.mono HB1.out.size))
      clear b2
      go_wp2_with fail
      go_ret
      exact ⟨rfl, HB2.out⟩
    | true =>
      simp only [h2] at HI
      obtain ⟨_, hpy, _⟩ := cngB_of h2
      obtain ⟨⟨z1, z8⟩, _, _⟩ := algOkB_of hok
      obtain ⟨hlx, hox⟩ := partB_of hpx
      obtain ⟨hly, _⟩ := partB_of hpy
      have hxm := hx.1
      have hyl := hy.1
      have HF := Lib.hid (fun (W : World) (hW : Below w.heap.size w W) => below6_any lo2 hi2 lo3 hi3 bo po d m e_ l xs ys W (hx.kept (Kept.of_below hW hhi2)) (hy.kept (Kept.of_below hW hhi3)) (by omega) (by omega) (by rwa [hxm] at hox))
      have hfe : finB (gI xs) (gI ys) m = fcB z fs xs ys := by unfold fcB; rw [h1, h2, hxm]; rfl
      rw [hfe] at HF
      obtain ⟨r, hr⟩ : ∃ r, fcB z fs xs ys = r := ⟨_, rfl⟩
      rw [hr] at HF ⊢
      clear hv hx hy hs hm hl hB hX0 h1 h2 hok hpx hpy z1 z8 hlx hox hly hxm hyl hfe hr
      go_enter Try.func76, Try.ntmps76
      go_wp2_with fail
      refine HC.out.mono ?_
      rintro e w1 ⟨rfl, b1⟩
      have HB1 := Lib.hid (HB0.out.trans (b1.mono HB0.out.size))
      obtain ⟨cz, ca, _⟩ := box_cells ((b1.block w.heap.size (by simp)).trans HX0.out)
      clear b1 cz0 ca0
      go_wp2_with fail
      refine (HI.out _ HB1.out).mono ?_
      rintro e w2 ⟨rfl, b2⟩
      have HB2 := Lib.hid (HB1.out.trans (b2.mono HB1.out.size))
      clear b2
      go_wp2_with fail
      refine (HF.out _ HB2.out).mono ?_
      rintro e w3 ⟨rfl, q3⟩
      have HB3 := Lib.hid (below_drawn HB2.out q3)
      clear q3
      go_wp2_with fail
      go_ret
      exact ⟨rfl, HB3.out⟩

set_option maxHeartbeats 2000000 in
theorem l9Least_any (lo hi : Nat) (ao : Option Addr) (c m : Nat) (xs : List Int) (w : World) (hx : IView w lo hi ao m xs) (hhi : hi ≤ w.heap.size) (h1 : 1 ≤ m) (h8 : m ≤ 8) :
    Calls Try.prog 77 #[.slice ao m c] w fun e w' => NewInts w w' (leP (gI xs) m).length (leP (gI xs) m) e := by
  obtain ⟨b, o, rfl, _, hbh, hc⟩ := hx.at_ (show 0 < m by omega)
  have hl := hx.1
  obtain ⟨f, hf⟩ : ∃ f, gI xs = f := ⟨_, rfl⟩
  have HC0 : Hid (∀ j, j < m → w.cell? ⟨b, o + j, none⟩ = some (.int .i64 (f j))) := fun j hj => by rw [← hf]; exact hc j _ (get_gI hl hj)
  rw [hf]
  have hb : b < w.heap.size := by omega
  obtain ⟨i0, hi0, hz0, hz1, hz2⟩ := info_parts Try.infoInt
  have HO0 := Lib.hid (World.ownsRow_lit (base := w.heap.size) (e := 3) (size := 1) w #[] 0 (Nat.le_refl _) (by decide) rfl)
  have HB0 := Lib.hid (below_alloc w (.cells #[] 3))
  clear hx hc hl hf
  unfold NewInts
  go_enter Try.func77, Try.ntmps77
  go_wp2_with fail
  go_loopw [3, 4] (fun v i wr => ∃ k t g d : Nat, k ≤ m ∧ i = .int .i64 (k : Int) ∧ v = .slice (some ⟨g, 0, none⟩) t d ∧ t ≤ k ∧ Hid (t = (leP f k).length) ∧ Hid (wr.ownsRow w.heap.size 3 1 (.slice (some ⟨g, 0, none⟩) t d) t ((leP f k).map (Value.int .i64))) ∧ Hid (Below w.heap.size w wr)) (fun _ i _ => m - (intOf i).toNat)
  case atStart => exact ⟨0, 0, _, _, Nat.zero_le _, rfl, rfl, Nat.le_refl _, rfl, HO0, HB0⟩
  case round =>
    obtain ⟨k, t, g, d, hk, rfl, rfl, htk, HT, HR, HBr⟩ := hrel
    by_cases hlt : k < m
    · have hkm : (k : Int) < (m : Int) := by omega
      have e1 : wr.cell? ⟨b, o + k, none⟩ = some (.int .i64 (f k)) := (HBr.out.cell (p := ⟨b, o + k, none⟩) hb).trans (HC0.out k hlt)
      by_cases hfk : f k = (k : Int)
      · have HNew : Hid (leP f (k + 1) = leP f k ++ [(k : Int)]) := leP_yes hfk
        have HT1 : Hid (t + 1 = (leP f (k + 1)).length) := by unfold Hid; rw [HNew.out, List.length_append, ← HT.out]; rfl
        rw [hfk] at e1
        clear hfk
        go_wp2_with (at_builtin; refine wpList_append_own _ rfl _ _ 25 rfl w.heap.size 3 i0 (.int .i64 0) 1 8 Try.underlying25 hi0 hz0 hz1 hz2 rfl (by decide) (.slice (some ⟨g, 0, none⟩) t d) t ((leP f k).map (Value.int .i64)) rfl (HR.out.alloc _) ⟨_, 0, none⟩ 1 1 [.int .i64 (k : Int)] rfl rfl (cell_one_new _ _ _) (fun x hx => by simp at hx; subst hx; rfl) (by unfold maxLen; omega) (by omega) (by have := HBr.out.size; simp; omega) ?_; intro v' w3 hown' hgrow' hnil')
        obtain ⟨g3, cap, rfl⟩ := ownsRow_succ hown'
        have HB3 := Lib.hid ((HBr.out.alloc HBr.out.size (.cells #[.int .i64 (k : Int)] 3)).grown hgrow' (by have := HBr.out.size; simp; omega) (fun q hq => (HR.out.lt q hq).1))
        have HO3 : Hid (w3.ownsRow w.heap.size 3 1 (.slice (some ⟨g3, 0, none⟩) (t + 1) cap) (t + 1) ((leP f (k + 1)).map (Value.int .i64))) := by
          unfold Hid
          rw [HNew.out, List.map_append]
          exact hown'
        clear hown' hgrow' hnil'
        go_wp2_with fail
        go_roundw
        case rel => exact ⟨k + 1, t + 1, g3, cap, by omega, by go_num, rfl, by omega, HT1, HO3, HB3⟩
        case measure => simp [intOf]; omega
      · have HT1 : Hid (t = (leP f (k + 1)).length) := by unfold Hid; rw [leP_no hfk]; exact HT.out
        have HR1 : Hid (wr.ownsRow w.heap.size 3 1 (.slice (some ⟨g, 0, none⟩) t d) t ((leP f (k + 1)).map (Value.int .i64))) := by unfold Hid; rw [leP_no hfk]; exact HR.out
        have hne : (f k == (k : Int)) = false := by rw [beq_eq_false_iff_ne]; exact hfk
        clear hfk
        go_wp2_with fail
        go_roundw
        case rel => exact ⟨k + 1, t, g, d, by omega, by go_num, rfl, by omega, HT1, HR1, HBr⟩
        case measure => simp [intOf]; omega
    · have hkm : ¬ (k : Int) < (m : Int) := by omega
      obtain rfl : k = m := by omega
      go_wp2_with fail
      go_ret
      exact ⟨g, d, by rw [← HT.out]; rfl, by rw [← HT.out]; exact HR.out, HBr.out⟩
end

section
open Go.RowKit
set_option linter.unusedVariables false
set_option linter.unusedSimpArgs false

/-- The numbers of the blocks of the least elements. -/
def crL (f g : Nat → Int) (k : Nat) : List Int := (leP f k).map fun x => naI g x.toNat
theorem crL_succ {f g : Nat → Int} {k j x : Nat} (hx : (leP f k)[j]? = some (x : Int)) : (crL f g k).take (j + 1) = (crL f g k).take j ++ [naI g x] := by
  unfold crL; rw [List.take_add_one, List.getElem?_map, hx]; rfl
theorem crL_len (f g : Nat → Int) (k : Nat) : (crL f g k).length = (leP f k).length := by unfold crL; rw [List.length_map]
theorem leP_in {f : Nat → Int} {k j : Nat} {x : Int} (hx : (leP f k)[j]? = some x) : 0 ≤ x ∧ x < k := by
  obtain ⟨y, h1, _, rfl⟩ := leP_mem.1 (List.mem_of_getElem? hx)
  omega
def valCoarserMap (z : Int) (fs : List OpD) (xs ys : List Int) : List Int × Bool := if fcB z fs xs ys = true then (crL (gI xs) (gI ys) z.toNat, true) else ([], false)
theorem fcB_of {z : Int} {fs : List OpD} {xs ys : List Int} (h : fcB z fs xs ys = true) : cngB z fs xs = true ∧ cngB z fs ys = true := by
  simp only [fcB, Bool.and_eq_true] at h
  exact ⟨h.1, h.2.1⟩
theorem smallCoarserMap (z : Int) (fs : List OpD) (xs ys : List Int) : (valCoarserMap z fs xs ys).1.length ≤ 4194304 := by
  unfold valCoarserMap
  split
  · rename_i h
    have := (algOkB_of (cngB_of (fcB_of h).1).1).1
    have h2 := leP_len (gI xs) z.toNat
    show (crL (gI xs) (gI ys) z.toNat).length ≤ 4194304
    rw [crL_len]; omega
  · simp
theorem crL_ext {z : Int} {fs : List OpD} {xs ys : List Int} (h : fcB z fs xs ys = true) : crL (extP xs) (extP ys) z.toNat = crL (gI xs) (gI ys) z.toNat := by
  obtain ⟨h1, h2⟩ := fcB_of h
  have hlx := (partB_of (cngB_of h1).2.1).1
  have hly := (partB_of (cngB_of h2).2.1).1
  unfold crL
  rw [leP_congr (g := gI xs) fun x hx => extP_lt (by omega)]
  refine List.map_congr_left fun x hx => ?_
  obtain ⟨y, hy, _, rfl⟩ := leP_mem.1 hx
  exact naI_congr fun y hy => extP_lt (by omega)

set_option maxHeartbeats 4000000 in
set_option maxRecDepth 100000 in
theorem implCoarserMap (lo hi : Nat) (z : Int) (ao : Option Addr) (c n : Nat) (fs : List OpD) (lo2 hi2 : Nat) (bo : Option Addr) (d m : Nat) (xs : List Int) (lo3 hi3 : Nat) (po : Option Addr) (e_ l : Nat) (ys : List Int) (w : World) (hv : OView w lo hi ao n fs) (hhi : hi ≤ w.heap.size) (hs : ∀ (j : Nat) (f : OpD), fs[j]? = some f → f.2.length ≤ maxLen)
    (hx : IView w lo2 hi2 bo m xs) (hhi2 : hi2 ≤ w.heap.size) (hm : m ≤ maxLen) (hy : IView w lo3 hi3 po l ys) (hhi3 : hi3 ≤ w.heap.size) (hl : l ≤ maxLen) :
    Calls Try.prog 37 #[.agg #[.int .i64 z, .slice ao n c], .slice bo m d, .slice po l e_] w fun e w' => ResL w w' (valCoarserMap z fs xs ys).1 (valCoarserMap z fs xs ys).2 e := by
  have hB := below_alloc w (.cells #[.int .i64 z, .slice ao n c] 31)
  have HB0 := Lib.hid hB
  have hX0 : (w.alloc (.cells #[.int .i64 z, .slice ao n c] 31)).heap[w.heap.size]? = some (.cells #[.int .i64 z, .slice ao n c] 31 (0, 0)) := heap_alloc_new _ _
  obtain ⟨cz0, ca0, _⟩ := box_cells hX0
  have HS := Lib.hid (finCo_any lo hi z ao c n fs lo2 hi2 bo d m xs lo3 hi3 po e_ l ys _ (hv.kept (Kept.of_below hB hhi)) (Nat.le_trans hhi hB.size) hs (hx.kept (Kept.of_below hB hhi2)) (Nat.le_trans hhi2 hB.size) hm (hy.kept (Kept.of_below hB hhi3)) (Nat.le_trans hhi3 hB.size) hl)
  unfold ResFC at HS
  unfold ResL valCoarserMap
  cases hb : fcB z fs xs ys with
  | false =>
    rw [if_neg (by simp)]
    simp only [hb, Bool.false_eq_true, if_false] at HS
    clear hv hx hy hs hm hl hB hX0 hb
    go_enter Try.func37, Try.ntmps37
    go_wp2_with fail
    refine HS.out.mono ?_
    rintro e w1 ⟨b1, rfl⟩
    have HB1 := Lib.hid (HB0.out.trans (b1.mono HB0.out.size))
    clear b1
    go_wp2_with fail
    go_ret2
    exact ⟨_, _, _, rfl, rfl, OwnsInts.of_row (World.ownsRow_nil _ _ _ _), HB1.out⟩
  | true =>
    simp only [hb, if_true] at HS
    rw [if_pos rfl, ← crL_ext hb]
    obtain ⟨h1, h2⟩ := fcB_of hb
    obtain ⟨hok, hpx, _⟩ := cngB_of h1
    obtain ⟨⟨z1, z8⟩, _, _⟩ := algOkB_of hok
    obtain ⟨zn, rfl⟩ : ∃ zn : Nat, z = (zn : Int) := ⟨z.toNat, by omega⟩
    have hox : okAll (extP xs) zn = true := okAll_ext (xs := xs) (by have := (partB_of hpx).1; omega) (by have h3 := partB_of hpx; rw [show zn = xs.length by omega]; exact h3.2)
    obtain ⟨f, hf⟩ : ∃ f, extP xs = f := ⟨_, rfl⟩
    obtain ⟨gf, hg⟩ : ∃ gf, extP ys = gf := ⟨_, rfl⟩
    simp only [Int.toNat_natCast] at HS ⊢
    rw [hf] at hox
    rw [hf, hg] at HS ⊢
    obtain ⟨zp, hzp⟩ : ∃ zp, zn = zp + 1 := ⟨zn - 1, by omega⟩
    have hmem : f 0 ∈ leP f zn := by
      obtain ⟨⟨a0, a1⟩, a2⟩ := okAll_get hox (show 0 < zn by omega)
      exact leP_mem.2 ⟨(f 0).toNat, by omega, by rw [a2]; omega, by omega⟩
    obtain ⟨t0, ht0⟩ : ∃ t0, (leP f zn).length = t0 + 1 := ⟨(leP f zn).length - 1, by have := List.length_pos_of_mem hmem; omega⟩
    have HZp := Lib.hid hzp
    have HT00 := Lib.hid ht0
    obtain ⟨i0, hi0, hz0, hz1, hz2⟩ := info_parts Try.infoInt
    clear hv hx hy hs hm hl hB hX0 hb h1 h2 hok hpx hox hf hg hmem hzp ht0
    go_enter Try.func37, Try.ntmps37
    go_wp2_with fail
    refine HS.out.mono ?_
    rintro e w1 ⟨b1, A1, Q1, A2, Q2, va1, vb1, va2, vb2, rfl, hA1, hA2, hq1, hq2⟩
    have HB1 := Lib.hid (HB0.out.trans (b1.mono HB0.out.size))
    have hzp := HZp.out
    have ht0 := HT00.out
    have hl8 := leP_len f zn
    have hles := hq1.les
    rw [ht0] at hles
    obtain ⟨gl, cl, rfl⟩ := ownsRow_succ hles
    have hnat := hq2.nat
    rw [hzp] at hnat
    obtain ⟨gn, cn, rfl⟩ := ownsRow_succ hnat
    rw [← hzp] at hnat
    obtain ⟨t, ht⟩ : ∃ t, t0 + 1 = t := ⟨_, rfl⟩
    have d10 := (qt_cells hq1.box).2.2.1
    have d11 := (qt_cells hq2.box).2.2.2.1
    rw [ht] at hles d10 ht0
    rw [← hzp] at d11
    have HLs : Hid (∀ (j : Nat) (x : Int), (leP f zn)[j]? = some x → w1.cell? ⟨gl, j, none⟩ = some (.int .i64 x)) := fun j x hx => by
      have hj : j < t := by have := (List.getElem?_eq_some_iff.1 hx).1; omega
      have h_ := hles.cellAt j (by omega)
      rw [List.getElem?_map, hx] at h_
      exact h_
    have HN : Hid (∀ x, x < zn → w1.cell? ⟨gn, x, none⟩ = some (.int .i64 (naI gf x))) := fun x hx => by
      have h_ := hnat.cellAt x (by omega)
      rw [List.getElem?_map, lstP_get _ hx] at h_
      exact h_
    have HD := Lib.hid d11
    have HT0 := Lib.hid ht0
    have ht8 : t ≤ 8 := by omega
    obtain ⟨B, hBe⟩ : ∃ B, B = w1.heap.size := ⟨_, rfl⟩
    have HBe := Lib.hid hBe
    have HR0 : Hid (w1.ownsRow B 3 1 (.slice none 0 0) 0 (((crL f gf zn).take 0).map (Value.int .i64))) := World.ownsRow_nil _ _ _ _
    have HBr0 : Hid (Below B w1 w1) := Below.refl _ _
    clear b1 hq1 hq2 hnat hles hBe hzp ht ht0 hl8
    go_wp2_with fail
    go_loopw [10, 12, 27] (fun v _ i wr => ∃ (j vc : Nat) (va : Option Addr), j ≤ t ∧ i = .int .i64 (j : Int) ∧ v = .slice va j vc ∧ Hid (wr.ownsRow B 3 1 (.slice va j vc) j (((crL f gf zn).take j).map (Value.int .i64))) ∧ Hid (Below B w1 wr)) (fun _ _ i _ => t - (intOf i).toNat)
    case atStart => exact ⟨0, 0, none, Nat.zero_le _, rfl, rfl, HR0, HBr0⟩
    case round =>
      obtain ⟨j, vc, va, hj, rfl, rfl, HR, HBr⟩ := hrel
      clear HR0 HBr0 d11 d10
      by_cases hjm : j < t
      · have hjn : (j : Int) < (t : Int) := by omega
        obtain ⟨x, hx⟩ := get_of_lt HT0.out hjm
        obtain ⟨x0, x1⟩ := leP_in hx
        obtain ⟨xn, rfl⟩ : ∃ xn : Nat, x = (xn : Int) := ⟨x.toNat, by omega⟩
        have hBw : Below w1.heap.size w1 wr := by rw [← HBe.out]; exact HBr.out
        have e1 := cell_b hBw (HLs.out j _ hx)
        have e2 := cell_b hBw HD.out
        have hxz : xn < zn := by omega
        have e3 := cell_b hBw (HN.out xn hxz)
        have hk := crL_succ (g := gf) hx
        obtain ⟨u, hu⟩ : ∃ u, naI gf xn = u := ⟨_, rfl⟩
        rw [hu] at e3 hk
        have HK := Lib.hid hk
        have hBs : B ≤ wr.heap.size := by rw [HBe.out]; exact hBw.size
        have hxzn : (xn : Int) < (zn : Int) := by omega
        clear hx hu hk hBw x1
        go_wp2_with (at_builtin; refine wpList_append_own _ rfl _ _ 25 rfl B 3 i0 (.int .i64 0) 1 8 Try.underlying25 hi0 hz0 hz1 hz2 rfl (by decide) (.slice va j vc) j (((crL f gf zn).take j).map (Value.int .i64)) rfl (HR.out.alloc _) ⟨_, 0, none⟩ 1 1 [.int .i64 u] rfl rfl (cell_one_new _ _ _) (fun x hx => by simp at hx; subst hx; rfl) (by unfold maxLen; omega) (by omega) (by simp; omega) ?_; intro v' w3 hown' hgrow' hnil')
        obtain ⟨g3, cap, rfl⟩ := ownsRow_succ hown'
        have HB3 := Lib.hid ((HBr.out.alloc hBs (.cells #[.int .i64 u] 3)).grown hgrow' (by simp; omega) (fun q hq => (HR.out.lt q hq).1))
        have HO3 : Hid (w3.ownsRow B 3 1 (.slice (some ⟨g3, 0, none⟩) (j + 1) cap) (j + 1) (((crL f gf zn).take (j + 1)).map (Value.int .i64))) := by
          unfold Hid
          rw [HK.out, List.map_append]
          exact hown'
        clear hown' hgrow' hnil'
        go_wp2_with fail
        go_roundw
        case rel => exact ⟨j + 1, cap, _, by omega, by go_num, rfl, HO3, HB3⟩
        case measure => simp [intOf]; omega
      · have hjn : ¬ (j : Int) < (t : Int) := by omega
        obtain rfl : j = t := by omega
        have hall : (crL f gf zn).take j = crL f gf zn := List.take_of_length_le (by rw [crL_len]; have := HT0.out; omega)
        have hR := HR.out
        rw [hall] at hR
        have HRl := Lib.hid (ownsRow_base hR (b' := w.heap.size) (by rw [HBe.out]; exact HB1.out.size))
        have HBw : Hid (Below w.heap.size w wr) := HB1.out.trans ((show Below w1.heap.size w1 wr by rw [← HBe.out]; exact HBr.out).mono HB1.out.size)
        clear hall hR
        go_wp2_with fail
        go_ret2
        exact ⟨_, _, _, rfl, by rw [crL_len]; exact HT0.out.symm, OwnsInts.of_row HRl.out, HBw.out⟩
end

section
open Go.RowKit
set_option linter.unusedVariables false
set_option linter.unusedSimpArgs false

set_option maxHeartbeats 4000000 in
set_option maxRecDepth 100000 in
theorem specCoarserMap (lo hi : Nat) (z : Int) (ao : Option Addr) (c n : Nat) (fs : List OpD) (lo2 hi2 : Nat) (bo : Option Addr) (d m : Nat) (xs : List Int) (lo3 hi3 : Nat) (po : Option Addr) (e_ l : Nat) (ys : List Int) (w : World) (hv : OView w lo hi ao n fs) (hhi : hi ≤ w.heap.size) (hs : ∀ (j : Nat) (f : OpD), fs[j]? = some f → f.2.length ≤ maxLen)
    (hx : IView w lo2 hi2 bo m xs) (hhi2 : hi2 ≤ w.heap.size) (hm : m ≤ maxLen) (hy : IView w lo3 hi3 po l ys) (hhi3 : hi3 ≤ w.heap.size) (hl : l ≤ maxLen) :
    Calls Try.prog 36 #[.agg #[.int .i64 z, .slice ao n c], .slice bo m d, .slice po l e_] w fun e w' => ResL w w' (valCoarserMap z fs xs ys).1 (valCoarserMap z fs xs ys).2 e := by
  obtain ⟨wE, hwE⟩ : ∃ wE : World, wE = (w.alloc (.cells #[.int .i64 z, .slice ao n c] 31)).alloc (.cells #[] 3) := ⟨_, rfl⟩
  have hB : Below w.heap.size w wE := by rw [hwE]; exact below_then (below_alloc _ _) (below_alloc _ _)
  have HB0 := Lib.hid hB
  have hX0 : wE.heap[w.heap.size]? = some (.cells #[.int .i64 z, .slice ao n c] 31 (0, 0)) := by
    rw [hwE, Below.heap_alloc _ _ _ (by simp)]; exact heap_alloc_new _ _
  obtain ⟨cz0, ca0, _⟩ := box_cells hX0
  have HOE0 : Hid (wE.ownsRow w.heap.size 3 1 (.slice (some ⟨w.heap.size + 1, 0, none⟩) 0 0) 0 ((([] : List Int)).map (Value.int .i64))) := by
    unfold Hid
    rw [hwE]
    have h := World.ownsRow_lit (base := w.heap.size) (e := 3) (size := 1) (w.alloc (.cells #[.int .i64 z, .slice ao n c] 31)) #[] 0 (by simp) (by decide) rfl
    simp only [World.size_alloc] at h
    exact h
  have HC := Lib.hid (l9Two_any lo hi z ao c n fs lo2 hi2 bo d m xs lo3 hi3 po e_ l ys _ (hv.kept (Kept.of_below hB hhi)) (Nat.le_trans hhi hB.size) hs (hx.kept (Kept.of_below hB hhi2)) (Nat.le_trans hhi2 hB.size) hm (hy.kept (Kept.of_below hB hhi3)) (Nat.le_trans hhi3 hB.size) hl)
  have HWE := Lib.hid hwE
  unfold ResL valCoarserMap
  cases hb : fcB z fs xs ys with
  | false =>
    rw [if_neg (by simp)]
    simp only [hb] at HC
    clear hv hx hy hs hm hl hB hX0 hb hwE
    go_enter Try.func36, Try.ntmps36
    go_wp2_with fail
    rw [← HWE.out]
    refine HC.out.mono ?_
    rintro e w1 ⟨rfl, b1⟩
    have HB1 := Lib.hid (HB0.out.trans (b1.mono HB0.out.size))
    have HO1 := Lib.hid (HOE0.out.kept (grown_of_below b1 none) (own_em _))
    clear b1
    go_wp2_with fail
    go_ret2
    exact ⟨_, _, _, rfl, rfl, OwnsInts.of_row HO1.out, HB1.out⟩
  | true =>
    simp only [hb] at HC
    rw [if_pos rfl]
    obtain ⟨h1, h2⟩ := fcB_of hb
    obtain ⟨hok, hpx, _⟩ := cngB_of h1
    obtain ⟨_, hpy, _⟩ := cngB_of h2
    obtain ⟨⟨z1, z8⟩, _, _⟩ := algOkB_of hok
    obtain ⟨hlx, hox⟩ := partB_of hpx
    obtain ⟨hly, hoy⟩ := partB_of hpy
    have hxm := hx.1
    have hyl := hy.1
    obtain rfl : m = l := by omega
    have hzl : z.toNat = m := by omega
    have HLe := Lib.hid (fun (W : World) (hW : Below w.heap.size w W) => l9Least_any lo2 hi2 bo d m xs W (hx.kept (Kept.of_below hW hhi2)) (Nat.le_trans hhi2 hW.size) (by omega) (by omega))
    have HMa := Lib.hid (fun (W : World) (hW : Below w.heap.size w W) => l9Map_any lo3 hi3 po e_ m ys W (hy.kept (Kept.of_below hW hhi3)) (Nat.le_trans hhi3 hW.size) (by omega) (by omega) (by rwa [hyl] at hoy))
    unfold NewInts at HLe HMa
    rw [hzl]
    obtain ⟨f, hf⟩ : ∃ f, gI xs = f := ⟨_, rfl⟩
    obtain ⟨gf, hg⟩ : ∃ gf, gI ys = gf := ⟨_, rfl⟩
    rw [hf] at HLe ⊢
    rw [hg] at HMa ⊢
    have hl8 := leP_len f m
    obtain ⟨t, ht⟩ : ∃ t, (leP f m).length = t := ⟨_, rfl⟩
    rw [ht] at HLe hl8
    have HT0 := Lib.hid ht
    have hm8 : m ≤ 8 := by omega
    obtain ⟨i0, hi0, hz0, hz1, hz2⟩ := info_parts Try.infoInt
    obtain ⟨l, hml⟩ : ∃ l, l = m := ⟨_, rfl⟩
    rw [← hml] at HC HLe HMa HT0 hl8 hm8 ⊢
    clear hv hx hy hs hm hl hB hX0 hb h1 h2 hok hpx hpy hox hoy hlx hly hxm hyl hzl hf hg ht z1 z8 hwE hml
    go_enter Try.func36, Try.ntmps36
    go_wp2_with fail
    rw [← HWE.out]
    refine HC.out.mono ?_
    rintro e w1 ⟨rfl, b1⟩
    have HB1 := Lib.hid (HB0.out.trans (b1.mono HB0.out.size))
    have HO1 := Lib.hid (HOE0.out.kept (grown_of_below b1 none) (own_em _))
    have HSz1 := Lib.hid b1.size
    clear b1
    go_wp2_with fail
    refine (HLe.out _ HB1.out).mono ?_
    rintro e w2 ⟨gl, cl, rfl, ho2, b2⟩
    have HB2 := Lib.hid (HB1.out.trans (b2.mono HB1.out.size))
    have HO2 := Lib.hid (HO1.out.kept (grown_of_below b2 none) (own_em _))
    have HL2 := Lib.hid ho2
    have HB12 := Lib.hid b2
    clear ho2 b2
    go_wp2_with fail
    refine (HMa.out _ HB2.out).mono ?_
    rintro e w3 ⟨gn, cn, rfl, ho3, b3⟩
    have HB3 := Lib.hid (HB2.out.trans (b3.mono HB2.out.size))
    have HO3 : Hid (w3.ownsRow w.heap.size 3 1 (.slice (some ⟨w.heap.size + 1, 0, none⟩) 0 0) 0 (((crL f gf l).take 0).map (Value.int .i64))) := HO2.out.kept (grown_of_below b3 none) (own_em _)
    have HLs : Hid (∀ (j : Nat) (x : Int), (leP f l)[j]? = some x → w3.cell? ⟨gl, j, none⟩ = some (.int .i64 x)) := fun j x hx => by
      have hj : j < t := by have := (List.getElem?_eq_some_iff.1 hx).1; have := HT0.out; omega
      have h_ := HL2.out.cellAt j (by omega)
      rw [List.getElem?_map, hx] at h_
      exact cell_b b3 h_
    have HN : Hid (∀ x, x < l → w3.cell? ⟨gn, x, none⟩ = some (.int .i64 (naI gf x))) := fun x hx => by
      have h_ := ho3.cellAt x (by omega)
      rw [List.getElem?_map, lstP_get _ hx] at h_
      exact h_
    have hgl1 : w1.heap.size ≤ gl := (HL2.out.lt gl rfl).1
    have hgl2 := (HL2.out.lt gl rfl).2
    have hgn1 : w2.heap.size ≤ gn := (ho3.lt gn rfl).1
    have hgn2 := (ho3.lt gn rfl).2
    have hsE := HB1.out.size
    have HX : Hid (gl ≠ w.heap.size + 1 ∧ gn ≠ w.heap.size + 1 ∧ gl < w3.heap.size ∧ gn < w3.heap.size) := by
      have h1 : w.heap.size + 1 < wE.heap.size := by rw [HWE.out]; simp
      have h2 : wE.heap.size ≤ w1.heap.size := HSz1.out
      have h3 := HB12.out.size
      have h4 := b3.size
      exact ⟨by omega, by omega, by omega, by omega⟩
    clear ho3 b3 hgl1 hgl2 hgn1 hgn2 hsE
    go_wp2_with fail
    go_loopw [8, 11] (fun v i wr => ∃ (j vc go : Nat), j ≤ t ∧ i = .int .i64 (j : Int) ∧ v = .slice (some ⟨go, 0, none⟩) j vc ∧ Hid (wr.ownsRow w.heap.size 3 1 (.slice (some ⟨go, 0, none⟩) j vc) j (((crL f gf l).take j).map (Value.int .i64))) ∧ Hid (Below w.heap.size w wr) ∧ Hid (go ≠ gl ∧ go ≠ gn ∧ gl < wr.heap.size ∧ gn < wr.heap.size) ∧ Hid (∀ (j : Nat) (x : Int), (leP f l)[j]? = some x → wr.cell? ⟨gl, j, none⟩ = some (.int .i64 x)) ∧ Hid (∀ x, x < l → wr.cell? ⟨gn, x, none⟩ = some (.int .i64 (naI gf x)))) (fun _ i _ => t - (intOf i).toNat)
    case atStart => exact ⟨0, 0, _, Nat.zero_le _, rfl, rfl, HO3, HB3, ⟨HX.out.1.symm, HX.out.2.1.symm, HX.out.2.2.1, HX.out.2.2.2⟩, HLs, HN⟩
    case round =>
      obtain ⟨j, vc, go, hj, rfl, rfl, HR, HBr, HNe, HLr, HNr⟩ := hrel
      clear HO3 HLs HN
      by_cases hjm : j < t
      · have hjn : (j : Int) < (t : Int) := by omega
        obtain ⟨x, hx⟩ := get_of_lt HT0.out hjm
        obtain ⟨x0, x1⟩ := leP_in hx
        obtain ⟨xn, rfl⟩ : ∃ xn : Nat, x = (xn : Int) := ⟨x.toNat, by omega⟩
        have e1 := HLr.out j _ hx
        have hxl : xn < l := by omega
        have e3 := HNr.out xn hxl
        have hk := crL_succ (g := gf) hx
        obtain ⟨u, hu⟩ : ∃ u, naI gf xn = u := ⟨_, rfl⟩
        rw [hu] at e3 hk
        have HK := Lib.hid hk
        have hxln : (xn : Int) < (l : Int) := by omega
        clear hx hu hk x1
        go_wp2_with (at_builtin; refine wpList_append_own_at _ rfl _ _ 25 rfl w.heap.size 3 i0 (.int .i64 0) 1 8 Try.underlying25 hi0 hz0 hz1 hz2 rfl (by decide) (.slice (some ⟨go, 0, none⟩) j vc) j (((crL f gf l).take j).map (Value.int .i64)) rfl (HR.out.alloc _) ⟨_, 0, none⟩ 1 1 [.int .i64 u] rfl rfl (cell_one_new _ _ _) (fun x hx => by simp at hx; subst hx; rfl) (by unfold maxLen; omega) (by omega) (by have := HBr.out.size; simp; omega) ?_; intro v' w7 hown' hgrow' hnil' hat')
        obtain ⟨g3, cap, rfl⟩ := ownsRow_succ hown'
        have HB7 := Lib.hid ((HBr.out.alloc HBr.out.size (.cells #[.int .i64 u] 3)).grown hgrow' (by have := HBr.out.size; simp; omega) (fun q hq => (HR.out.lt q hq).1))
        have HO7 : Hid (w7.ownsRow w.heap.size 3 1 (.slice (some ⟨g3, 0, none⟩) (j + 1) cap) (j + 1) (((crL f gf l).take (j + 1)).map (Value.int .i64))) := by
          unfold Hid
          rw [HK.out, List.map_append]
          exact hown'
        obtain ⟨n1, n2, n3, n4⟩ := HNe.out
        have hbk : ∀ q, q < wr.heap.size → q ≠ go → w7.heap[q]? = wr.heap[q]? := fun q hq hne => (hgrow'.block q (by simp; omega) (fun e => hne (by simpa [Value.ownBlock] using e))).trans (Below.heap_alloc _ _ _ hq)
        have hgs : wr.heap.size < w7.heap.size := by have := hgrow'.size; simp at this; omega
        have HNe7 : Hid (g3 ≠ gl ∧ g3 ≠ gn ∧ gl < w7.heap.size ∧ gn < w7.heap.size) := by
          have h3 : g3 = go ∨ g3 = wr.heap.size + 1 := by
            rcases hat' with h | h
            · left; simpa [Value.ownBlock] using h
            · right; simpa [Value.ownBlock] using h
          exact ⟨by omega, by omega, by omega, by omega⟩
        have HL7 : Hid (∀ (j : Nat) (x : Int), (leP f l)[j]? = some x → w7.cell? ⟨gl, j, none⟩ = some (.int .i64 x)) := fun j x hx => (World.cell?_of_block (a := ⟨gl, j, none⟩) (hbk gl n3 (fun e => n1 e.symm))).trans (HLr.out j x hx)
        have HN7 : Hid (∀ x, x < l → w7.cell? ⟨gn, x, none⟩ = some (.int .i64 (naI gf x))) := fun x hx => (World.cell?_of_block (a := ⟨gn, x, none⟩) (hbk gn n4 (fun e => n2 e.symm))).trans (HNr.out x hx)
        clear hown' hgrow' hnil' hat' hbk n1 n2 n3 n4
        go_wp2_with fail
        go_roundw
        case rel => exact ⟨j + 1, cap, g3, by omega, by go_num, rfl, HO7, HB7, HNe7, HL7, HN7⟩
        case measure => simp [intOf]; omega
      · have hjn : ¬ (j : Int) < (t : Int) := by omega
        obtain rfl : j = t := by omega
        have hall : (crL f gf l).take j = crL f gf l := List.take_of_length_le (by rw [crL_len]; have := HT0.out; omega)
        have hR := HR.out
        rw [hall] at hR
        have HRl := Lib.hid hR
        clear hall hR
        go_wp2_with fail
        go_ret2
        exact ⟨_, _, _, rfl, by rw [crL_len]; exact HT0.out.symm, OwnsInts.of_row HRl.out, HBr.out⟩
end

end Go.Proofs.Ytcmjkfcgekmomaa
