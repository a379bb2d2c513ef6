/-
  QtM, QtL, QtI, QtO, NatS in one text. Conditions: as each theorem names them.
-/
import Derived.Test.YtcmjkfcgekmomaaKrlM
import Derived.Test.YtcmjkfcgekmomaaPartM
import Derived.Test.YtcmjkfcgekmomaaSetQ
import Derived.Test.YtcmjkfcgekmomaaClone
import Derived.Test.YtcmjkfcgekmomaaStep
import Derived.Test.YtcmjkfcgekmomaaPartL
import Derived.Test.YtcmjkfcgekmomaaPlc
import Derived.Test.YtcmjkfcgekmomaaApp
import Derived.Test.YtcmjkfcgekmomaaBuilt
import Derived.Deep.RegionHeld3
import Derived.Maps.AppendAt
import Derived.Test.YtcmjkfcgekmomaaCgJ
namespace Go.Proofs.Ytcmjkfcgekmomaa
section
open Go.RowKit
set_option linter.unusedVariables false
set_option linter.unusedSimpArgs false

/-- The least elements of blocks below k. -/
def leP (f : Nat → Int) : Nat → List Int
  | 0 => []
  | k + 1 => leP f k ++ (if f k = (k : Int) then [(k : Int)] else [])
theorem leP_yes {f : Nat → Int} {k : Nat} (h : f k = (k : Int)) : leP f (k + 1) = leP f k ++ [(k : Int)] := by rw [leP, if_pos h]
theorem leP_no {f : Nat → Int} {k : Nat} (h : ¬ f k = (k : Int)) : leP f (k + 1) = leP f k := by rw [leP, if_neg h, List.append_nil]
theorem leP_mem {f : Nat → Int} {v : Int} : ∀ {k : Nat}, v ∈ leP f k ↔ ∃ y : Nat, y < k ∧ f y = (y : Int) ∧ v = (y : Int)
  | 0 => by simp [leP]
  | k + 1 => by
    rw [leP, List.mem_append, leP_mem (k := k)]
    constructor
    · rintro (⟨y, h1, h2, h3⟩ | h)
      · exact ⟨y, by omega, h2, h3⟩
      · by_cases hk : f k = (k : Int)
        · rw [if_pos hk] at h
          exact ⟨k, by omega, hk, by simpa using h⟩
        · rw [if_neg hk] at h; cases h
    · rintro ⟨y, h1, h2, h3⟩
      by_cases hy : y < k
      · exact .inl ⟨y, hy, h2, h3⟩
      · obtain rfl : y = k := by omega
        right
        rw [if_pos h2, h3]; simp
theorem leP_len (f : Nat → Int) : ∀ k, (leP f k).length ≤ k
  | 0 => Nat.le_refl _
  | k + 1 => by
    have := leP_len f k
    rw [leP, List.length_append]
    split <;> simp <;> omega
theorem leP_congr {f g : Nat → Int} : ∀ {k : Nat}, (∀ x, x < k → f x = g x) → leP f k = leP g k
  | 0, _ => rfl
  | k + 1, h => by rw [leP, leP, leP_congr fun x hx => h x (by omega), h k (by omega)]
theorem leP_pre (f : Nat → Int) (k : Nat) : ∀ d, ∃ r, leP f (k + d) = leP f k ++ r
  | 0 => ⟨[], by simp⟩
  | d + 1 => by
    obtain ⟨r, hr⟩ := leP_pre f k d
    exact ⟨r ++ (if f (k + d) = ((k + d : Nat) : Int) then [((k + d : Nat) : Int)] else []), by rw [← Nat.add_assoc, leP, hr, List.append_assoc]⟩
theorem ixP_app {v : Int} {r : List Int} : ∀ {l : List Int}, v ∈ l → ixP (l ++ r) v = ixP l v
  | [], h => by cases h
  | y :: l, h => by
    rw [List.cons_append, ixP, ixP]
    by_cases hy : y = v
    · rw [if_pos hy, if_pos hy]
    · rw [if_neg hy, if_neg hy, ixP_app (by rcases List.mem_cons.1 h with h | h; exact absurd h.symm hy; exact h)]
theorem plI_app {v : Int} {l r : List Int} (h : v ∈ l) : plI (l ++ r) v = plI l v := by
  unfold plI
  rw [if_pos h, if_pos (List.mem_append_left _ h), ixP_app h]
theorem plI_last {v : Int} {l : List Int} (h : ¬ v ∈ l) : plI (l ++ [v]) v = (l.length : Int) := by
  refine plI_hit (q := l.length) ?_ ?_
  · rw [List.getElem?_append_right (Nat.le_refl _), Nat.sub_self]; rfl
  · rw [List.take_append_of_le_length (Nat.le_refl _), List.take_length]; exact h
/-- The number of the block of an element. -/
def naI (f : Nat → Int) (x : Nat) : Int := plI (leP f (x + 1)) (f x)
theorem naI_new {f : Nat → Int} {x : Nat} (h : f x = (x : Int)) : naI f x = ((leP f x).length : Int) := by
  unfold naI
  rw [leP_yes h, h]
  refine plI_last fun hm => ?_
  obtain ⟨y, h1, h2, h3⟩ := leP_mem.1 hm
  omega
theorem naI_old {f : Nat → Int} {x y : Nat} (h : f x = (y : Int)) (hy : y < x) (hf : f y = (y : Int)) : naI f x = naI f y := by
  unfold naI
  obtain ⟨r, hr⟩ := leP_pre f (y + 1) (x - y)
  rw [show y + 1 + (x - y) = x + 1 by omega] at hr
  rw [hr, h, hf]
  exact plI_app (leP_mem.2 ⟨y, by omega, hf, rfl⟩)
theorem plI_lt {l : List Int} {v : Int} (h : v ∈ l) : 0 ≤ plI l v ∧ plI l v < l.length := by
  unfold plI
  rw [if_pos h]
  have := ixP_lt h
  omega
theorem naI_bd {f : Nat → Int} {n x : Nat} (hf : okAll f n = true) (hx : x < n) : 0 ≤ naI f x ∧ naI f x < (leP f (x + 1)).length := by
  obtain ⟨⟨h0, h1⟩, h2⟩ := okAll_get hf hx
  refine plI_lt (leP_mem.2 ⟨(f x).toNat, by omega, by rw [h2]; omega, by omega⟩)
theorem naI_congr {f g : Nat → Int} {x : Nat} (h : ∀ y, y < x + 1 → f y = g y) : naI f x = naI g x := by
  unfold naI; rw [leP_congr h, h x (by omega)]
end

section
open Go.RowKit
set_option linter.unusedVariables false
set_option linter.unusedSimpArgs false

set_option maxHeartbeats 2000000 in
theorem l9Map_any (lo hi : Nat) (ao : Option Addr) (c m : Nat) (xs : List Int) (w : World) (hx : IView w lo hi ao m xs) (hhi : hi ≤ w.heap.size) (h1 : 1 ≤ m) (h8 : m ≤ 8) (hok : okAll (gI xs) m = true) :
    Calls Try.prog 72 #[.slice ao m c] w fun e w' => NewInts w w' m (lstP m (naI (gI xs))) e := by
  obtain ⟨b, o, rfl, _, hbh, hc⟩ := hx.at_ (show 0 < m by omega)
  have hl := hx.1
  obtain ⟨f, hf⟩ : ∃ f, gI xs = f := ⟨_, rfl⟩
  have HC0 : Hid (∀ j, j < m → w.cell? ⟨b, o + j, none⟩ = some (.int .i64 (f j))) := fun j hj => by rw [← hf]; exact hc j _ (get_gI hl hj)
  rw [hf] at hok ⊢
  have HOk := Lib.hid hok
  have hb : b < w.heap.size := by omega
  obtain ⟨i0, hi0, hz0, hz1, hz2⟩ := info_parts Try.infoInt
  have HO0 := Lib.hid (World.ownsRow_lit (base := w.heap.size) (e := 3) (size := 1) w #[] 0 (Nat.le_refl _) (by decide) rfl)
  have HB0 := Lib.hid (below_alloc w (.cells #[] 3))
  clear hx hc hl hf hok
  unfold NewInts
  go_enter Try.func72, Try.ntmps72
  go_wp2_with fail
  go_loopw [3, 4, 5] (fun v cn i wr => ∃ k g d : Nat, k ≤ m ∧ i = .int .i64 (k : Int) ∧ cn = .int .i64 ((leP f k).length : Int) ∧ v = .slice (some ⟨g, 0, none⟩) k d ∧ Hid (wr.ownsRow w.heap.size 3 1 (.slice (some ⟨g, 0, none⟩) k d) k ((lstP k (naI f)).map (Value.int .i64))) ∧ Hid (Below w.heap.size w wr)) (fun _ _ i _ => m - (intOf i).toNat)
  case atStart => exact ⟨0, _, _, Nat.zero_le _, rfl, rfl, rfl, HO0, HB0⟩
  case round =>
    obtain ⟨k, g, d, hk, rfl, rfl, rfl, HR, HBr⟩ := hrel
    by_cases hlt : k < m
    · have hkm : (k : Int) < (m : Int) := by omega
      have e1 : wr.cell? ⟨b, o + k, none⟩ = some (.int .i64 (f k)) := (HBr.out.cell (p := ⟨b, o + k, none⟩) hb).trans (HC0.out k hlt)
      obtain ⟨⟨h0, hk1⟩, hff⟩ := okAll_get HOk.out hlt
      have hle := leP_len f k
      by_cases hfk : f k = (k : Int)
      · have HNew : Hid (lstP (k + 1) (naI f) = lstP k (naI f) ++ [((leP f k).length : Int)]) := by unfold Hid; rw [lstP_succ, naI_new hfk]
        have HLe : Hid (((leP f (k + 1)).length : Int) = ((leP f k).length : Int) + 1) := by unfold Hid; rw [leP_yes hfk, List.length_append]; simp
        obtain ⟨t, ht⟩ : ∃ t, (leP f k).length = t := ⟨_, rfl⟩
        rw [ht] at HNew HLe hle ⊢
        rw [hfk] at e1
        clear h0 hk1 hff hfk ht
        go_wp2_with (at_builtin; refine wpList_append_own _ rfl _ _ 25 rfl w.heap.size 3 i0 (.int .i64 0) 1 8 Try.underlying25 hi0 hz0 hz1 hz2 rfl (by decide) (.slice (some ⟨g, 0, none⟩) k d) k ((lstP k (naI f)).map (Value.int .i64)) rfl (HR.out.alloc _) ⟨_, 0, none⟩ 1 1 [.int .i64 (t : Int)] rfl rfl (cell_one_new _ _ _) (fun x hx => by simp at hx; subst hx; rfl) (by unfold maxLen; omega) (by omega) (by have := HBr.out.size; simp; omega) ?_; intro v' w3 hown' hgrow' hnil')
        obtain ⟨g3, cap, rfl⟩ := ownsRow_succ hown'
        have HB3 := Lib.hid ((HBr.out.alloc HBr.out.size (.cells #[.int .i64 (t : Int)] 3)).grown hgrow' (by have := HBr.out.size; simp; omega) (fun q hq => (HR.out.lt q hq).1))
        have HO3 : Hid (w3.ownsRow w.heap.size 3 1 (.slice (some ⟨g3, 0, none⟩) (k + 1) cap) (k + 1) ((lstP (k + 1) (naI f)).map (Value.int .i64))) := by
          unfold Hid
          rw [HNew.out, List.map_append]
          exact hown'
        clear hown' hgrow' hnil'
        go_wp2_with fail
        go_roundw
        case rel => exact ⟨k + 1, g3, cap, by omega, by go_num, by rw [HLe.out], rfl, HO3, HB3⟩
        case measure => simp [intOf]; omega
      · obtain ⟨y, hy⟩ : ∃ y : Nat, f k = (y : Int) := ⟨(f k).toNat, by omega⟩
        have hyk : y < k := by
          rcases Nat.lt_or_ge y k with h | h
          · exact h
          · exact absurd (show f k = (k : Int) by omega) hfk
        have hfy : f y = (y : Int) := by rw [hy, Int.toNat_natCast] at hff; exact hff
        obtain ⟨u, hu⟩ : ∃ u, naI f y = u := ⟨_, rfl⟩
        have HNew : Hid (lstP (k + 1) (naI f) = lstP k (naI f) ++ [u]) := by unfold Hid; rw [lstP_succ, naI_old hy hyk hfy, hu]
        have HLe : Hid (leP f (k + 1) = leP f k) := leP_no hfk
        have e2 : wr.cell? ⟨g, y, none⟩ = some (.int .i64 u) := by
          have h_ := HR.out.cellAt y (by omega)
          rw [List.getElem?_map, lstP_get _ hyk, hu] at h_
          exact h_
        have hne : (f k == (k : Int)) = false := by rw [beq_eq_false_iff_ne]; exact hfk
        rw [hy] at e1 hne
        have hykn : (y : Int) < (k : Int) := by omega
        have hymn : (y : Int) < (m : Int) := by omega
        clear h0 hk1 hff hfk hu hy hfy
        go_wp2_with (at_builtin; refine wpList_append_own _ rfl _ _ 25 rfl w.heap.size 3 i0 (.int .i64 0) 1 8 Try.underlying25 hi0 hz0 hz1 hz2 rfl (by decide) (.slice (some ⟨g, 0, none⟩) k d) k ((lstP k (naI f)).map (Value.int .i64)) rfl (HR.out.alloc _) ⟨_, 0, none⟩ 1 1 [.int .i64 u] rfl rfl (cell_one_new _ _ _) (fun x hx => by simp at hx; subst hx; rfl) (by unfold maxLen; omega) (by omega) (by have := HBr.out.size; simp; omega) ?_; intro v' w3 hown' hgrow' hnil')
        obtain ⟨g3, cap, rfl⟩ := ownsRow_succ hown'
        have HB3 := Lib.hid ((HBr.out.alloc HBr.out.size (.cells #[.int .i64 u] 3)).grown hgrow' (by have := HBr.out.size; simp; omega) (fun q hq => (HR.out.lt q hq).1))
        have HO3 : Hid (w3.ownsRow w.heap.size 3 1 (.slice (some ⟨g3, 0, none⟩) (k + 1) cap) (k + 1) ((lstP (k + 1) (naI f)).map (Value.int .i64))) := by
          unfold Hid
          rw [HNew.out, List.map_append]
          exact hown'
        clear hown' hgrow' hnil'
        go_wp2_with fail
        go_roundw
        case rel => exact ⟨k + 1, g3, cap, by omega, by go_num, by rw [HLe.out], rfl, HO3, HB3⟩
        case measure => simp [intOf]; omega
    · have hkm : ¬ (k : Int) < (m : Int) := by omega
      obtain rfl : k = m := by omega
      go_wp2_with fail
      go_ret
      exact ⟨g, d, rfl, HR.out, HBr.out⟩
end

section
open Go.RowKit
set_option linter.unusedVariables false
set_option linter.unusedSimpArgs false

/-- The cells of a quotient. -/
def qtArr (z : Int) (ao : Option Addr) (n c : Nat) (f : Nat → Int) (va vb : Value) : Array Value :=
  #[.int .i64 z, .slice ao n c, .int .i64 (f 0), .int .i64 (f 1), .int .i64 (f 2), .int .i64 (f 3), .int .i64 (f 4), .int .i64 (f 5), .int .i64 (f 6), .int .i64 (f 7), va, vb]
theorem qt_cells {W : World} {Q : Nat} {z : Int} {ao : Option Addr} {n c : Nat} {f : Nat → Int} {va vb : Value} (h : W.heap[Q]? = some (.cells (qtArr z ao n c f va vb) 76 (0, 0))) :
    W.cell? ⟨Q, 0, none⟩ = some (.int .i64 z) ∧ W.cell? ⟨Q, 1, none⟩ = some (.slice ao n c) ∧ W.cell? ⟨Q, 10, none⟩ = some va ∧ W.cell? ⟨Q, 11, none⟩ = some vb ∧ (∀ j, W.frozen? ⟨Q, j, none⟩ = false) :=
  ⟨by rw [cell_of_row W Q 0 _ _ (0, 0) h]; rfl, by rw [cell_of_row W Q 1 _ _ (0, 0) h]; rfl, by rw [cell_of_row W Q 10 _ _ (0, 0) h]; rfl, by rw [cell_of_row W Q 11 _ _ (0, 0) h]; rfl, fun j => by simp [World.frozen?, h]⟩
theorem qt_set10 {W : World} {Q : Nat} {z : Int} {ao : Option Addr} {n c : Nat} {f : Nat → Int} {va vb : Value} (v : Value) (h : W.heap[Q]? = some (.cells (qtArr z ao n c f va vb) 76 (0, 0))) : (W.setCell ⟨Q, 10, none⟩ v).heap[Q]? = some (.cells (qtArr z ao n c f v vb) 76 (0, 0)) := by
  simp [World.setCell, Array.getElem?_modify, h, qtArr]
theorem qt_set11 {W : World} {Q : Nat} {z : Int} {ao : Option Addr} {n c : Nat} {f : Nat → Int} {va vb : Value} (v : Value) (h : W.heap[Q]? = some (.cells (qtArr z ao n c f va vb) 76 (0, 0))) : (W.setCell ⟨Q, 11, none⟩ v).heap[Q]? = some (.cells (qtArr z ao n c f va v) 76 (0, 0)) := by
  simp [World.setCell, Array.getElem?_modify, h, qtArr]

/-- A quotient under way: its box Q, the array A, the least elements up to k1 and the numbers up to k. -/
structure QtS (W : World) (A Q : Nat) (z : Int) (ao : Option Addr) (n c : Nat) (f : Nat → Int) (k1 k : Nat) (va vb : Value) : Prop where
  box : W.heap[Q]? = some (.cells (qtArr z ao n c f va vb) 76 (0, 0))
  arr : ArrAt W A f
  les : W.ownsRow (Q + 1) 3 1 va (leP f k1).length ((leP f k1).map (Value.int .i64))
  nat : W.ownsRow (Q + 1) 3 1 vb k ((lstP k (naI f)).map (Value.int .i64))
  ne : ∀ b, va.ownBlock = some b → vb.ownBlock ≠ some b
theorem QtS.lt {W : World} {A Q : Nat} {z : Int} {ao : Option Addr} {n c : Nat} {f : Nat → Int} {k1 k : Nat} {va vb : Value} (h : QtS W A Q z ao n c f k1 k va vb) : Q < W.heap.size := (Array.getElem?_eq_some_iff.1 h.box).1
theorem QtS.boxGrown {W w3 : World} {A Q : Nat} {z : Int} {ao : Option Addr} {n c : Nat} {f : Nat → Int} {k1 k : Nat} {va vb : Value} (h : QtS W A Q z ao n c f k1 k va vb) {ob : Obj} (hg : (W.drew.alloc ob).grownBy w3 vb.ownBlock) : w3.heap[Q]? = some (.cells (qtArr z ao n c f va vb) 76 (0, 0)) := by
  have hl := h.lt
  refine (hg.block Q (by simp; omega) (fun e => ?_)).trans ((Below.heap_alloc _ _ _ (show Q < W.drew.heap.size from hl)).trans h.box)
  have := (h.nat.lt Q e.symm).1
  omega
theorem QtS.natPut {W w3 : World} {A Q : Nat} {z : Int} {ao : Option Addr} {n c : Nat} {f : Nat → Int} {k1 k k' : Nat} {va vb v' : Value} (h : QtS W A Q z ao n c f k1 k va vb) (hA : A < Q) {ob : Obj}
    (hown : w3.ownsRow (Q + 1) 3 1 v' k' ((lstP k' (naI f)).map (Value.int .i64))) (hg : (W.drew.alloc ob).grownBy w3 vb.ownBlock) (hat : v'.ownBlock = vb.ownBlock ∨ v'.ownBlock = some (W.drew.alloc ob).heap.size) : QtS (w3.setCell ⟨Q, 11, none⟩ v') A Q z ao n c f k1 k' va v' := by
  have hl := h.lt
  have hs : (W.drew.alloc ob).heap.size = W.heap.size + 1 := by simp
  refine ⟨qt_set11 v' (h.boxGrown hg), ?_, ?_, ownsRow_setCell_below hown (show Q < Q + 1 by omega) _, ?_⟩
  · have h1 : ArrAt (W.drew.alloc ob) A f := ArrAt.alloc (show ArrAt W.drew A f from h.arr) ob
    have h2 := h1.block (hg.block A h1.lt (fun e => by have := (h.nat.lt A e.symm).1; omega))
    exact h2.setOther (by omega) 11 _
  · have h1 : (W.drew.alloc ob).ownsRow (Q + 1) 3 1 va (leP f k1).length ((leP f k1).map (Value.int .i64)) := World.ownsRow.alloc (show W.drew.ownsRow _ _ _ _ _ _ from h.les) ob
    refine ownsRow_setCell_below (h1.kept hg ?_) (show Q < Q + 1 by omega) _
    cases hb : va.ownBlock with
    | none => exact .inl rfl
    | some b => exact .inr (fun e => h.ne b hb e.symm)
  · intro b hb hb2
    rcases hat with e | e
    · exact h.ne b hb (e ▸ hb2)
    · rw [e] at hb2
      injection hb2 with hb2
      have := (h.les.lt b hb).2
      omega
theorem QtS.lesPut {W w3 : World} {A Q : Nat} {z : Int} {ao : Option Addr} {n c : Nat} {f : Nat → Int} {k1 k1' k : Nat} {va vb v' : Value} (h : QtS W A Q z ao n c f k1 k va vb) (hA : A < Q) {ob : Obj}
    (hown : w3.ownsRow (Q + 1) 3 1 v' (leP f k1').length ((leP f k1').map (Value.int .i64))) (hg : (W.alloc ob).grownBy w3 va.ownBlock) (hat : v'.ownBlock = va.ownBlock ∨ v'.ownBlock = some (W.alloc ob).heap.size) :
    QtS (w3.setCell ⟨Q, 10, none⟩ v') A Q z ao n c f k1' k v' vb ∧ w3.heap[Q]? = some (.cells (qtArr z ao n c f va vb) 76 (0, 0)) := by
  have hl := h.lt
  have hs : (W.alloc ob).heap.size = W.heap.size + 1 := by simp
  have hbx : w3.heap[Q]? = some (.cells (qtArr z ao n c f va vb) 76 (0, 0)) := by
    refine (hg.block Q (by omega) (fun e => ?_)).trans ((Below.heap_alloc _ _ _ hl).trans h.box)
    have := (h.les.lt Q e.symm).1
    omega
  refine ⟨⟨qt_set10 v' hbx, ?_, ownsRow_setCell_below hown (show Q < Q + 1 by omega) _, ?_, ?_⟩, hbx⟩
  · have h1 : ArrAt (W.alloc ob) A f := h.arr.alloc ob
    have h2 := h1.block (hg.block A h1.lt (fun e => by have := (h.les.lt A e.symm).1; omega))
    exact h2.setOther (by omega) 10 _
  · refine ownsRow_setCell_below ((h.nat.alloc ob).kept hg ?_) (show Q < Q + 1 by omega) _
    cases hb : va.ownBlock with
    | none =>
      cases hb2 : vb.ownBlock with
      | none => exact .inl rfl
      | some b => exact .inr (by simp)
    | some b => exact .inr (h.ne b hb)
  · intro b hb hb2
    rcases hat with e | e
    · exact h.ne b (e ▸ hb) hb2
    · rw [e] at hb
      injection hb with hb
      have := (h.nat.lt b hb2).2
      omega
theorem QtS.more {W : World} {A Q : Nat} {z : Int} {ao : Option Addr} {n c : Nat} {f : Nat → Int} {k1 k k1' : Nat} {va vb : Value} (h : QtS W A Q z ao n c f k1 k va vb) (he : leP f k1' = leP f k1) : QtS W A Q z ao n c f k1' k va vb :=
  ⟨h.box, h.arr, by rw [he]; exact h.les, h.nat, h.ne⟩

/-- A new quotient. -/
def NewQt (w w' : World) (z : Nat) (ao : Option Addr) (n c : Nat) (f : Nat → Int) (e : Ending) : Prop := ∃ va vb, e = .returned (.pointer (some ⟨w.heap.size + 1 + 1, 0, none⟩)) ∧ QtS w' (w.heap.size + 1) (w.heap.size + 1 + 1) (z : Int) ao n c f z z va vb ∧ Below w.heap.size w w'

set_option maxHeartbeats 8000000 in
set_option maxRecDepth 100000 in
theorem quotBy_any (z : Nat) (ao : Option Addr) (c n : Nat) (f : Nat → Int) (w : World) (hz1 : 1 ≤ z) (hz8 : z ≤ 8) (hf : okAll f z = true) :
    Calls Try.prog 118 #[.agg #[.int .i64 (z : Int), .slice ao n c], .agg (arrV f)] w fun e w' => NewQt w w' z ao n c f e := by
  have HP0 : Hid (ArrAt ((w.alloc (.cells #[.int .i64 (z : Int), .slice ao n c] 31)).alloc (.cells (arrV f) 70)) (w.heap.size + 1) f) := by
    unfold Hid
    have h := ArrAt.new (w.alloc (.cells #[.int .i64 (z : Int), .slice ao n c] 31)) f
    simp only [World.size_alloc] at h
    exact h
  obtain ⟨w2, hw2⟩ : ∃ w2, w2 = (w.alloc (.cells #[.int .i64 (z : Int), .slice ao n c] 31)).alloc (.cells (arrV f) 70) := ⟨_, rfl⟩
  obtain ⟨w3, hw3⟩ : ∃ w3, w3 = w2.alloc (.cells (qtArr (z : Int) ao n c f (.slice none 0 0) (.slice none 0 0)) 76) := ⟨_, rfl⟩
  have hs2 : w2.heap.size = w.heap.size + 1 + 1 := by rw [hw2]; simp
  have HQ0 : Hid (QtS w3 (w.heap.size + 1) (w.heap.size + 1 + 1) (z : Int) ao n c f 0 0 (.slice none 0 0) (.slice none 0 0)) := by
    unfold Hid
    refine ⟨?_, ?_, World.ownsRow_nil _ _ _ _, World.ownsRow_nil _ _ _ _, fun b hb => by simp [Value.ownBlock] at hb⟩
    · rw [hw3, ← hs2]; exact heap_alloc_new _ _
    · rw [hw3]; have h_ := HP0.out; rw [← hw2] at h_; exact h_.alloc _
  have HB0 : Hid (Below w.heap.size w w3) := by unfold Hid; rw [hw3, hw2]; exact below_then (below_then (below_alloc _ _) (below_alloc _ _)) (below_alloc _ _)
  rw [hw2] at hw3
  have HW3 := Lib.hid hw3
  have HFo := Lib.hid hf
  have hzn : (z : Int) ≤ 8 := by omega
  obtain ⟨j0, hj0, hy0, hy1, hy2⟩ := info_parts Try.infoInt
  clear hw2 hw3 hs2 hf
  go_enter Try.func118, Try.ntmps118
  go_wp2_with (refine ld8 HP0.out rfl _ rfl rfl ?_; simp only [arrV])
  have hW3 := HW3.out
  simp only [arrV, qtArr] at hW3
  rw [← hW3]
  clear hW3 HW3 HP0
  obtain ⟨A, hA⟩ : ∃ A, A = w.heap.size + 1 := ⟨_, rfl⟩
  obtain ⟨Q, hQ⟩ : ∃ Q, Q = w.heap.size + 1 + 1 := ⟨_, rfl⟩
  rw [← hQ, ← hA] at HQ0
  rw [← hQ, ← hA]
  have hAQ : A < Q := by omega
  have hwQ : w.heap.size < Q := by omega
  have HAe := Lib.hid hA
  have HQe := Lib.hid hQ
  clear hA hQ
  go_loopw [6, 7, 16] (fun _ _ i wr => ∃ (k : Nat) (va vb : Value), k ≤ z ∧ i = .int .i64 (k : Int) ∧ Hid (QtS wr A Q (z : Int) ao n c f k k va vb) ∧ Hid (Below w.heap.size w wr)) (fun _ _ i _ => z - (intOf i).toNat)
  case atStart => exact ⟨0, _, _, Nat.zero_le _, rfl, HQ0, HB0⟩
  case round =>
    obtain ⟨k, va, vb, hk, rfl, HQk, HBr⟩ := hrel
    clear HQ0 HB0
    by_cases hlt : k < z
    · have hkn : (k : Int) < (z : Int) := by omega
      obtain ⟨⟨h0, h1⟩, hff⟩ := okAll_get HFo.out hlt
      have ek := HQk.out.arr.cell (k := k) (by omega)
      by_cases hfk : f k = (k : Int)
      · obtain ⟨d0, d1, d10, d11_, df⟩ := qt_cells HQk.out.box
        have f10 := df 10
        rw [hfk] at ek
        have HFk := Lib.hid hfk
        have HFf := Lib.hid hff
        have HH := Lib.hid (And.intro h0 h1)
        have hl8 := leP_len f k
        clear d0 d1 d11_ df hfk hff h0 h1
        go_wp2_with (at_builtin; refine wpList_append_own_at _ rfl _ _ 25 rfl (Q + 1) 3 j0 (.int .i64 0) 1 8 Try.underlying25 hj0 hy0 hy1 hy2 rfl (by decide) va (leP f k).length ((leP f k).map (Value.int .i64)) rfl (HQk.out.les.alloc _) ⟨_, 0, none⟩ 1 1 [.int .i64 (k : Int)] rfl rfl (cell_one_new _ _ _) (fun x hx => by simp at hx; subst hx; rfl) (by unfold maxLen; omega) (by omega) (by have := HQk.out.lt; simp; omega) ?_; intro v' w3 hown' hgrow' hnil' hat'; obtain ⟨g', cap', rfl⟩ := ownsRow_succ hown'; have hown2 : w3.ownsRow (Q + 1) 3 1 (.slice (some ⟨g', 0, none⟩) ((leP f k).length + 1) cap') (leP f (k + 1)).length ((leP f (k + 1)).map (Value.int .i64)) := (by rw [leP_yes HFk.out, List.map_append, List.length_append]; exact hown'); have hlp := HQk.out.lesPut hAQ hown2 hgrow' hat'; have HB5_ : Hid (Below w.heap.size w w3) := (HBr.out.alloc HBr.out.size _).grown hgrow' (by have := HBr.out.size; simp; omega) (fun b hb => by have h_ := (HQk.out.les.lt b hb).1; omega); have HQs0 := Lib.hid hlp.1; have hqc := qt_cells hlp.2; have e10 := hqc.2.2.1; have ff10 := hqc.2.2.2.2 10; clear hown' hown2 hgrow' hnil' hat' hlp hqc ek d10 f10)
        clear hl8
        obtain ⟨va2, hva2⟩ : ∃ va2 : Value, va2 = .slice (some ⟨g', 0, none⟩) ((leP f k).length + 1) cap' := ⟨_, rfl⟩
        rw [← hva2] at HQs0 ⊢
        obtain ⟨wi, hwi⟩ : ∃ wi, wi = w3.setCell ⟨Q, 10, none⟩ va2 := ⟨_, rfl⟩
        have HBi : Hid (Below w.heap.size w wi) := by unfold Hid; rw [hwi]; exact HB5_.out.setCell (by show w.heap.size ≤ Q; omega) _
        have HQs := HQs0
        rw [← hwi] at HQs ⊢
        clear hwi hva2 e10 ff10 HQs0 HB5_ HQk HBr
        have hff := HFf.out
        obtain ⟨h0, h1⟩ := HH.out
        have hle := HQs.out.les
        have hmem : f k ∈ leP f (k + 1) := leP_mem.2 ⟨(f k).toNat, by omega, by rw [hff]; omega, by omega⟩
        obtain ⟨t0, ht0⟩ : ∃ t0, (leP f (k + 1)).length = t0 + 1 := ⟨(leP f (k + 1)).length - 1, by have := List.length_pos_of_mem hmem; omega⟩
        rw [ht0] at hle
        obtain ⟨g1, c1, rfl⟩ := ownsRow_succ hle
        obtain ⟨t1, ht1⟩ : ∃ t1, t0 + 1 = t1 := ⟨_, rfl⟩
        rw [ht1] at hle ht0
        have ht1p : 0 < t1 := by omega
        rw [ht1] at HQs
        have hl8 := leP_len f (k + 1)
        have hIx := fun (W : World) (hW : Below wi.heap.size wi W) => place_impl (Q + 1) wi.heap.size g1 0 t1 c1 (leP f (k + 1)) (f k) W ((IView.of_owns hle (Nat.le_refl _)).kept (Kept.of_below hW (Nat.le_refl _))) ht1p (by omega)
        obtain ⟨u, hu⟩ : ∃ u, plI (leP f (k + 1)) (f k) = u := ⟨_, rfl⟩
        have HU : Hid (naI f k = u) := hu
        rw [hu] at hIx
        simp only [HFk.out] at hIx
        have HIx := Lib.hid hIx
        have s10 : wi.cell? ⟨Q, 10, none⟩ = some (.slice (some ⟨g1, 0, none⟩) t1 c1) := (qt_cells HQs.out.box).2.2.1
        have s11 : wi.cell? ⟨Q, 11, none⟩ = some vb := (qt_cells HQs.out.box).2.2.2.1
        clear hle hmem ht1 hl8 hIx hu hff ht0
        go_wp2_with fail
        refine wp_region_noPanic ?_
        refine wp_region_held_drew (S := fun W_ => W_.cell? ⟨Q, 10, none⟩ = some (.slice (some ⟨g1, 0, none⟩) t1 c1)) (by kernel_rfl) ?_ (fun hHeld => ?_)
        · exact s10
        refine wpAnyH_take (i := 0) (oi := ⟨_, _, _, _, _, _⟩) (v := ?_) rfl (by kernel_rfl) (by kernel_rfl) (by kernel_rfl) (fun _ _ _ h => h) (Or.inl ⟨rfl, ?_⟩) (by assumption) ?_
        rotate_left 1
        · intro w_ hSw; (try dsimp only at hSw); go_simp; (try with_reducible rfl)
        (try simp only [Act.put, List.setIfInBounds_toArray, List.set_cons_zero, List.set_cons_succ])
        refine wpAnyH_take (i := 1) (oi := ⟨_, _, _, _, _, _⟩) (v := ?_) rfl (by kernel_rfl) (by kernel_rfl) (by kernel_rfl) (fun _ _ _ h => h) (Or.inl ⟨rfl, ?_⟩) (by assumption) ?_
        rotate_left 1
        · intro w_ hSw; (try dsimp only at hSw); go_simp; (try with_reducible rfl)
        (try simp only [Act.put, List.setIfInBounds_toArray, List.set_cons_zero, List.set_cons_succ])
        refine wpAnyH_take (i := 2) (oi := ⟨_, _, _, _, _, _⟩) (v := ?_) rfl (by kernel_rfl) (by kernel_rfl) (by kernel_rfl) (fun _ _ _ h => h) (Or.inl ⟨rfl, ?_⟩) (by assumption) ?_
        rotate_left 1
        · intro w_ hSw; (try dsimp only at hSw); go_simp; (try with_reducible rfl)
        (try simp only [Act.put, List.setIfInBounds_toArray, List.set_cons_zero, List.set_cons_succ])
        refine wpAnyH_take (i := 3) (oi := ⟨_, _, _, _, _, _⟩) (v := ?_) rfl (by kernel_rfl) (by kernel_rfl) (by kernel_rfl) (fun _ _ _ h => h) (Or.inl ⟨rfl, ?_⟩) (by assumption) ?_
        rotate_left 1
        · intro w_ hSw; (try dsimp only at hSw); go_simp; (try with_reducible rfl)
        (try simp only [Act.put, List.setIfInBounds_toArray, List.set_cons_zero, List.set_cons_succ])
        refine wpAnyH_take (i := 5) (oi := ⟨_, _, _, _, _, _⟩) (v := ?_) rfl (by kernel_rfl) (by kernel_rfl) (by kernel_rfl) (fun _ _ _ h => h) (Or.inl ⟨rfl, ?_⟩) (by assumption) ?_
        rotate_left 1
        · intro w_ hSw; (try dsimp only at hSw); go_simp; (try with_reducible rfl)
        (try simp only [Act.put, List.setIfInBounds_toArray, List.set_cons_zero, List.set_cons_succ])
        refine wpAnyH_take (i := 6) (oi := ⟨_, _, _, _, _, _⟩) (v := ?_) rfl (by kernel_rfl) (by kernel_rfl) (by kernel_rfl) (fun _ _ _ h => h) (Or.inl ⟨rfl, ?_⟩) (by assumption) ?_
        rotate_left 1
        · intro w_ hSw; (try dsimp only at hSw); go_simp; (try with_reducible rfl)
        (try simp only [Act.put, List.setIfInBounds_toArray, List.set_cons_zero, List.set_cons_succ])
        refine wpAnyH_take (i := 7) (oi := ⟨_, _, _, _, _, _⟩) (v := ?_) rfl (by kernel_rfl) (by kernel_rfl) (by kernel_rfl) (fun _ _ _ h => h) (Or.inl ⟨rfl, ?_⟩) (by assumption) ?_
        rotate_left 1
        · intro w_ hSw; (try dsimp only at hSw); go_simp; (try with_reducible rfl)
        (try simp only [Act.put, List.setIfInBounds_toArray, List.set_cons_zero, List.set_cons_succ])
        refine wpAnyH_take (i := 8) (oi := ⟨_, _, _, _, _, _⟩) (v := ?_) rfl (by kernel_rfl) (by kernel_rfl) (by kernel_rfl) (fun _ _ _ h => h) (Or.inl ⟨rfl, ?_⟩) (by assumption) ?_
        rotate_left 1
        · intro w_ hSw; (try dsimp only at hSw); go_simp; (try with_reducible rfl)
        (try simp only [Act.put, List.setIfInBounds_toArray, List.set_cons_zero, List.set_cons_succ])
        refine wpAnyH_take (i := 9) (oi := ⟨_, _, _, _, _, _⟩) (v := ?_) rfl (by kernel_rfl) (by kernel_rfl) (by kernel_rfl) (fun _ _ _ h => h) (Or.inl ⟨rfl, ?_⟩) (by assumption) ?_
        rotate_left 1
        · intro w_ hSw; (try dsimp only at hSw); go_simp; (try with_reducible rfl)
        (try simp only [Act.put, List.setIfInBounds_toArray, List.set_cons_zero, List.set_cons_succ])
        refine wpAnyH_ready (rs := [4, 10]) (by kernel_rfl) (by simp) ?_
        refine (AllReadyH.cons (o := ⟨_, _, _, _, _, _⟩) rfl (fun K hK => ?_) (AllReadyH.cons (o := ⟨_, _, _, _, _, _⟩) rfl (fun K hK => ?_) AllReadyH.nil))
        · go_simp
          refine hK.out _ _ ?_ (fun hHeld => ?_)
          · exact s10
          clear hK K
          (try simp only [Act.put, List.setIfInBounds_toArray, List.set_cons_zero, List.set_cons_succ])
          refine wpAnyH_ready (rs := [10]) (by kernel_rfl) (by simp) ?_
          refine (AllReadyH.cons (o := ⟨_, _, _, _, _, _⟩) rfl (fun K hK => ?_) AllReadyH.nil)
          go_simp
          go_at_call 63
          refine (HIx.out _ (below_drew _)).mono ?_
          rintro e_ w_ ⟨rfl, rfl⟩
          refine hK.out _ _ ?_ (fun hHeld => ?_)
          · exact s10
          clear hK K
          (try simp only [Act.put, List.setIfInBounds_toArray, List.set_cons_zero, List.set_cons_succ])
          refine wpAnyH_ready (rs := [11]) (by kernel_rfl) (by simp) ?_
          refine (AllReadyH.cons (o := ⟨_, _, _, _, _, _⟩) rfl (fun K hK => ?_) AllReadyH.nil)
          go_simp
          refine hK.out _ _ ?_ (fun hHeld => ?_)
          · exact cell_b ((below_alloc _ _).drew) s10
          clear hK K
          (try simp only [Act.put, List.setIfInBounds_toArray, List.set_cons_zero, List.set_cons_succ])
          refine wpAnyH_ready (rs := [12]) (by kernel_rfl) (by simp) ?_
          refine (AllReadyH.cons (o := ⟨_, _, _, _, _, _⟩) rfl (fun K hK => ?_) AllReadyH.nil)
          refine step_append_lies _ rfl _ _ _ rfl (Q + 1) 3 j0 _ 1 8 Try.underlying25 hj0 hy0 hy1 hy2 rfl (by decide) vb k ((lstP k (naI f)).map (Value.int .i64)) rfl (World.ownsRow.alloc (show wi.drew.ownsRow _ _ _ _ _ _ from HQs.out.nat) _) ⟨wi.drew.heap.size, 0, none⟩ 1 1 [.int .i64 u] rfl rfl (cell_one_new _ _ _) (by simp [Value.oneCell']) (by decide) (by unfold maxLen; omega) (by omega) (by have h_ := HQs.out.lt; show Q + 1 ≤ (wi.drew.alloc _).heap.size; simp; omega) _ rfl ?_
          intro g4 cap4 w4 hown4 hgrow4 hat4 hlt4
          have HQ4 := Lib.hid (HQs.out.natPut (k' := k + 1) (v' := .slice (some ⟨g4, 0, none⟩) (k + 1) cap4) hAQ (by rw [lstP_succ, List.map_append, HU.out]; exact hown4) hgrow4 (by rcases hat4 with h | h; exact .inl h.symm; exact .inr (by rw [h]; rfl)))
          have HB4 : Hid (Below w.heap.size w w4) := ((HBi.out.drew).alloc HBi.out.size _).grown hgrow4 (by have := HBi.out.size; show w.heap.size ≤ (wi.drew.alloc _).heap.size; simp; omega) (fun b hb => by have h_ := (HQs.out.nat.lt b hb).1; omega)
          have HBx4 : Hid (w4.heap[Q]? = some (.cells (qtArr (z : Int) ao n c f (.slice (some ⟨g1, 0, none⟩) t1 c1) vb) 76 (0, 0))) := HQs.out.boxGrown hgrow4
          have d11 := (qt_cells HBx4.out).2.2.2.1
          have f11 := (qt_cells HBx4.out).2.2.2.2 11
          clear hown4 hgrow4 hat4
          refine hK.out _ _ ?_ (fun hHeld => ?_)
          · exact (qt_cells HBx4.out).2.2.1
          clear hK K
          (try simp only [Act.put, List.setIfInBounds_toArray, List.set_cons_zero, List.set_cons_succ])
          refine wpAnyH_take (i := 13) (oi := ⟨_, _, _, _, _, _⟩) (v := ?_) rfl (by kernel_rfl) (by kernel_rfl) (by kernel_rfl) (fun _ _ _ h => h) (Or.inl ⟨rfl, ?_⟩) (by assumption) ?_
          rotate_left 1
          · intro w_ hSw; (try dsimp only at hSw); go_simp; (try with_reducible rfl)
          (try simp only [Act.put, List.setIfInBounds_toArray, List.set_cons_zero, List.set_cons_succ])
          refine wpAnyH_take (i := 14) (oi := ⟨_, _, _, _, _, _⟩) (v := ?_) rfl (by kernel_rfl) (by kernel_rfl) (by kernel_rfl) (fun _ _ _ h => h) (Or.inl ⟨rfl, ?_⟩) (by assumption) ?_
          rotate_left 1
          · intro w_ hSw; (try dsimp only at hSw); go_simp; (try with_reducible rfl)
          (try simp only [Act.put, List.setIfInBounds_toArray, List.set_cons_zero, List.set_cons_succ])
          refine wpAnyH_ready (rs := [15]) (by kernel_rfl) (by simp) ?_
          refine (AllReadyH.cons (o := ⟨_, _, _, _, _, _⟩) rfl (fun K hK => ?_) AllReadyH.nil)
          go_simp
          refine hK.out _ _ ?_ (fun hHeld => ?_)
          · exact (qt_cells HQ4.out.box).2.2.1
          clear hK K
          (try simp only [Act.put, List.setIfInBounds_toArray, List.set_cons_zero, List.set_cons_succ])
          refine wpAnyH_done (by kernel_rfl) ?_ _
          refine NoPanic.normal ?_
          have HQ5 : Hid (QtS (w4.setCell ⟨Q, 11, none⟩ (.slice (some ⟨g4, 0, none⟩) (k + 1) cap4)) A Q (z : Int) ao n c f (k + 1) (k + 1) (.slice (some ⟨g1, 0, none⟩) t1 c1) (.slice (some ⟨g4, 0, none⟩) (k + 1) cap4)) := HQ4.out
          have HB5 : Hid (Below w.heap.size w (w4.setCell ⟨Q, 11, none⟩ (.slice (some ⟨g4, 0, none⟩) (k + 1) cap4))) := HB4.out.setCell (by show w.heap.size ≤ Q; omega) _
          clear HQ4 HB4 HBx4 hHeld
          go_wp2_with fail
          go_roundw
          case rel => exact ⟨k + 1, _, _, by omega, by go_num, HQ5, HB5⟩
          case measure => simp [intOf]; omega
        · go_simp
          go_at_call 63
          refine (HIx.out _ (below_drew _)).mono ?_
          rintro e_ w_ ⟨rfl, rfl⟩
          refine hK.out _ _ ?_ (fun hHeld => ?_)
          · exact s10
          clear hK K
          (try simp only [Act.put, List.setIfInBounds_toArray, List.set_cons_zero, List.set_cons_succ])
          refine wpAnyH_ready (rs := [4, 11]) (by kernel_rfl) (by simp) ?_
          refine (AllReadyH.cons (o := ⟨_, _, _, _, _, _⟩) rfl (fun K hK => ?_) (AllReadyH.cons (o := ⟨_, _, _, _, _, _⟩) rfl (fun K hK => ?_) AllReadyH.nil))
          · go_simp
            refine hK.out _ _ ?_ (fun hHeld => ?_)
            · exact s10
            clear hK K
            (try simp only [Act.put, List.setIfInBounds_toArray, List.set_cons_zero, List.set_cons_succ])
            refine wpAnyH_ready (rs := [11]) (by kernel_rfl) (by simp) ?_
            refine (AllReadyH.cons (o := ⟨_, _, _, _, _, _⟩) rfl (fun K hK => ?_) AllReadyH.nil)
            go_simp
            refine hK.out _ _ ?_ (fun hHeld => ?_)
            · exact cell_b ((below_alloc _ _).drew) s10
            clear hK K
            (try simp only [Act.put, List.setIfInBounds_toArray, List.set_cons_zero, List.set_cons_succ])
            refine wpAnyH_ready (rs := [12]) (by kernel_rfl) (by simp) ?_
            refine (AllReadyH.cons (o := ⟨_, _, _, _, _, _⟩) rfl (fun K hK => ?_) AllReadyH.nil)
            refine step_append_lies _ rfl _ _ _ rfl (Q + 1) 3 j0 _ 1 8 Try.underlying25 hj0 hy0 hy1 hy2 rfl (by decide) vb k ((lstP k (naI f)).map (Value.int .i64)) rfl (World.ownsRow.alloc (show wi.drew.ownsRow _ _ _ _ _ _ from HQs.out.nat) _) ⟨wi.drew.heap.size, 0, none⟩ 1 1 [.int .i64 u] rfl rfl (cell_one_new _ _ _) (by simp [Value.oneCell']) (by decide) (by unfold maxLen; omega) (by omega) (by have h_ := HQs.out.lt; show Q + 1 ≤ (wi.drew.alloc _).heap.size; simp; omega) _ rfl ?_
            intro g4 cap4 w4 hown4 hgrow4 hat4 hlt4
            have HQ4 := Lib.hid (HQs.out.natPut (k' := k + 1) (v' := .slice (some ⟨g4, 0, none⟩) (k + 1) cap4) hAQ (by rw [lstP_succ, List.map_append, HU.out]; exact hown4) hgrow4 (by rcases hat4 with h | h; exact .inl h.symm; exact .inr (by rw [h]; rfl)))
            have HB4 : Hid (Below w.heap.size w w4) := ((HBi.out.drew).alloc HBi.out.size _).grown hgrow4 (by have := HBi.out.size; show w.heap.size ≤ (wi.drew.alloc _).heap.size; simp; omega) (fun b hb => by have h_ := (HQs.out.nat.lt b hb).1; omega)
            have HBx4 : Hid (w4.heap[Q]? = some (.cells (qtArr (z : Int) ao n c f (.slice (some ⟨g1, 0, none⟩) t1 c1) vb) 76 (0, 0))) := HQs.out.boxGrown hgrow4
            have d11 := (qt_cells HBx4.out).2.2.2.1
            have f11 := (qt_cells HBx4.out).2.2.2.2 11
            clear hown4 hgrow4 hat4
            refine hK.out _ _ ?_ (fun hHeld => ?_)
            · exact (qt_cells HBx4.out).2.2.1
            clear hK K
            (try simp only [Act.put, List.setIfInBounds_toArray, List.set_cons_zero, List.set_cons_succ])
            refine wpAnyH_take (i := 13) (oi := ⟨_, _, _, _, _, _⟩) (v := ?_) rfl (by kernel_rfl) (by kernel_rfl) (by kernel_rfl) (fun _ _ _ h => h) (Or.inl ⟨rfl, ?_⟩) (by assumption) ?_
            rotate_left 1
            · intro w_ hSw; (try dsimp only at hSw); go_simp; (try with_reducible rfl)
            (try simp only [Act.put, List.setIfInBounds_toArray, List.set_cons_zero, List.set_cons_succ])
            refine wpAnyH_take (i := 14) (oi := ⟨_, _, _, _, _, _⟩) (v := ?_) rfl (by kernel_rfl) (by kernel_rfl) (by kernel_rfl) (fun _ _ _ h => h) (Or.inl ⟨rfl, ?_⟩) (by assumption) ?_
            rotate_left 1
            · intro w_ hSw; (try dsimp only at hSw); go_simp; (try with_reducible rfl)
            (try simp only [Act.put, List.setIfInBounds_toArray, List.set_cons_zero, List.set_cons_succ])
            refine wpAnyH_ready (rs := [15]) (by kernel_rfl) (by simp) ?_
            refine (AllReadyH.cons (o := ⟨_, _, _, _, _, _⟩) rfl (fun K hK => ?_) AllReadyH.nil)
            go_simp
            refine hK.out _ _ ?_ (fun hHeld => ?_)
            · exact (qt_cells HQ4.out.box).2.2.1
            clear hK K
            (try simp only [Act.put, List.setIfInBounds_toArray, List.set_cons_zero, List.set_cons_succ])
            refine wpAnyH_done (by kernel_rfl) ?_ _
            refine NoPanic.normal ?_
            have HQ5 : Hid (QtS (w4.setCell ⟨Q, 11, none⟩ (.slice (some ⟨g4, 0, none⟩) (k + 1) cap4)) A Q (z : Int) ao n c f (k + 1) (k + 1) (.slice (some ⟨g1, 0, none⟩) t1 c1) (.slice (some ⟨g4, 0, none⟩) (k + 1) cap4)) := HQ4.out
            have HB5 : Hid (Below w.heap.size w (w4.setCell ⟨Q, 11, none⟩ (.slice (some ⟨g4, 0, none⟩) (k + 1) cap4))) := HB4.out.setCell (by show w.heap.size ≤ Q; omega) _
            clear HQ4 HB4 HBx4 hHeld
            go_wp2_with fail
            go_roundw
            case rel => exact ⟨k + 1, _, _, by omega, by go_num, HQ5, HB5⟩
            case measure => simp [intOf]; omega
          · go_simp
            refine hK.out _ _ ?_ (fun hHeld => ?_)
            · exact cell_b ((below_alloc _ _).drew) s10
            clear hK K
            (try simp only [Act.put, List.setIfInBounds_toArray, List.set_cons_zero, List.set_cons_succ])
            refine wpAnyH_ready (rs := [4]) (by kernel_rfl) (by simp) ?_
            refine (AllReadyH.cons (o := ⟨_, _, _, _, _, _⟩) rfl (fun K hK => ?_) AllReadyH.nil)
            have s11b : ((wi.alloc (.cells #[.int .i64 u] 3)).drew).cell? ⟨Q, 11, none⟩ = some vb := cell_b ((below_alloc _ _).drew) s11
            go_simp
            refine hK.out _ _ ?_ (fun hHeld => ?_)
            · exact cell_b ((below_alloc _ _).drew) s10
            clear hK K
            (try simp only [Act.put, List.setIfInBounds_toArray, List.set_cons_zero, List.set_cons_succ])
            refine wpAnyH_ready (rs := [12]) (by kernel_rfl) (by simp) ?_
            refine (AllReadyH.cons (o := ⟨_, _, _, _, _, _⟩) rfl (fun K hK => ?_) AllReadyH.nil)
            refine step_append_lies _ rfl _ _ _ rfl (Q + 1) 3 j0 _ 1 8 Try.underlying25 hj0 hy0 hy1 hy2 rfl (by decide) vb k ((lstP k (naI f)).map (Value.int .i64)) rfl (World.ownsRow.alloc (show wi.drew.ownsRow _ _ _ _ _ _ from HQs.out.nat) _) ⟨wi.drew.heap.size, 0, none⟩ 1 1 [.int .i64 u] rfl rfl (cell_one_new _ _ _) (by simp [Value.oneCell']) (by decide) (by unfold maxLen; omega) (by omega) (by have h_ := HQs.out.lt; show Q + 1 ≤ (wi.drew.alloc _).heap.size; simp; omega) _ rfl ?_
            intro g4 cap4 w4 hown4 hgrow4 hat4 hlt4
            have HQ4 := Lib.hid (HQs.out.natPut (k' := k + 1) (v' := .slice (some ⟨g4, 0, none⟩) (k + 1) cap4) hAQ (by rw [lstP_succ, List.map_append, HU.out]; exact hown4) hgrow4 (by rcases hat4 with h | h; exact .inl h.symm; exact .inr (by rw [h]; rfl)))
            have HB4 : Hid (Below w.heap.size w w4) := ((HBi.out.drew).alloc HBi.out.size _).grown hgrow4 (by have := HBi.out.size; show w.heap.size ≤ (wi.drew.alloc _).heap.size; simp; omega) (fun b hb => by have h_ := (HQs.out.nat.lt b hb).1; omega)
            have HBx4 : Hid (w4.heap[Q]? = some (.cells (qtArr (z : Int) ao n c f (.slice (some ⟨g1, 0, none⟩) t1 c1) vb) 76 (0, 0))) := HQs.out.boxGrown hgrow4
            have d11 := (qt_cells HBx4.out).2.2.2.1
            have f11 := (qt_cells HBx4.out).2.2.2.2 11
            clear hown4 hgrow4 hat4
            refine hK.out _ _ ?_ (fun hHeld => ?_)
            · exact (qt_cells HBx4.out).2.2.1
            clear hK K
            (try simp only [Act.put, List.setIfInBounds_toArray, List.set_cons_zero, List.set_cons_succ])
            refine wpAnyH_take (i := 13) (oi := ⟨_, _, _, _, _, _⟩) (v := ?_) rfl (by kernel_rfl) (by kernel_rfl) (by kernel_rfl) (fun _ _ _ h => h) (Or.inl ⟨rfl, ?_⟩) (by assumption) ?_
            rotate_left 1
            · intro w_ hSw; (try dsimp only at hSw); go_simp; (try with_reducible rfl)
            (try simp only [Act.put, List.setIfInBounds_toArray, List.set_cons_zero, List.set_cons_succ])
            refine wpAnyH_take (i := 14) (oi := ⟨_, _, _, _, _, _⟩) (v := ?_) rfl (by kernel_rfl) (by kernel_rfl) (by kernel_rfl) (fun _ _ _ h => h) (Or.inl ⟨rfl, ?_⟩) (by assumption) ?_
            rotate_left 1
            · intro w_ hSw; (try dsimp only at hSw); go_simp; (try with_reducible rfl)
            (try simp only [Act.put, List.setIfInBounds_toArray, List.set_cons_zero, List.set_cons_succ])
            refine wpAnyH_ready (rs := [15]) (by kernel_rfl) (by simp) ?_
            refine (AllReadyH.cons (o := ⟨_, _, _, _, _, _⟩) rfl (fun K hK => ?_) AllReadyH.nil)
            go_simp
            refine hK.out _ _ ?_ (fun hHeld => ?_)
            · exact (qt_cells HQ4.out.box).2.2.1
            clear hK K
            (try simp only [Act.put, List.setIfInBounds_toArray, List.set_cons_zero, List.set_cons_succ])
            refine wpAnyH_done (by kernel_rfl) ?_ _
            refine NoPanic.normal ?_
            have HQ5 : Hid (QtS (w4.setCell ⟨Q, 11, none⟩ (.slice (some ⟨g4, 0, none⟩) (k + 1) cap4)) A Q (z : Int) ao n c f (k + 1) (k + 1) (.slice (some ⟨g1, 0, none⟩) t1 c1) (.slice (some ⟨g4, 0, none⟩) (k + 1) cap4)) := HQ4.out
            have HB5 : Hid (Below w.heap.size w (w4.setCell ⟨Q, 11, none⟩ (.slice (some ⟨g4, 0, none⟩) (k + 1) cap4))) := HB4.out.setCell (by show w.heap.size ≤ Q; omega) _
            clear HQ4 HB4 HBx4 hHeld
            go_wp2_with fail
            go_roundw
            case rel => exact ⟨k + 1, _, _, by omega, by go_num, HQ5, HB5⟩
            case measure => simp [intOf]; omega
      · have HQs : Hid (QtS wr A Q (z : Int) ao n c f (k + 1) k va vb) := HQk.out.more (leP_no hfk)
        have hne : (((k : Int)) == f k) = false := by
          rw [beq_eq_false_iff_ne]; exact fun e => hfk e.symm
        obtain ⟨wi, hwi⟩ : ∃ wi, wi = wr := ⟨_, rfl⟩
        rw [← hwi] at HQs HBr ek ⊢
        have HBi := HBr
        clear hwi HBr HQk
        have hle := HQs.out.les
        have hmem : f k ∈ leP f (k + 1) := leP_mem.2 ⟨(f k).toNat, by omega, by rw [hff]; omega, by omega⟩
        obtain ⟨t0, ht0⟩ : ∃ t0, (leP f (k + 1)).length = t0 + 1 := ⟨(leP f (k + 1)).length - 1, by have := List.length_pos_of_mem hmem; omega⟩
        rw [ht0] at hle
        obtain ⟨g1, c1, rfl⟩ := ownsRow_succ hle
        obtain ⟨t1, ht1⟩ : ∃ t1, t0 + 1 = t1 := ⟨_, rfl⟩
        rw [ht1] at hle ht0
        have ht1p : 0 < t1 := by omega
        rw [ht1] at HQs
        have hl8 := leP_len f (k + 1)
        have hIx := fun (W : World) (hW : Below wi.heap.size wi W) => place_impl (Q + 1) wi.heap.size g1 0 t1 c1 (leP f (k + 1)) (f k) W ((IView.of_owns hle (Nat.le_refl _)).kept (Kept.of_below hW (Nat.le_refl _))) ht1p (by omega)
        obtain ⟨u, hu⟩ : ∃ u, plI (leP f (k + 1)) (f k) = u := ⟨_, rfl⟩
        have HU : Hid (naI f k = u) := hu
        rw [hu] at hIx
        have HIx := Lib.hid hIx
        have s10 : wi.cell? ⟨Q, 10, none⟩ = some (.slice (some ⟨g1, 0, none⟩) t1 c1) := (qt_cells HQs.out.box).2.2.1
        have s11 : wi.cell? ⟨Q, 11, none⟩ = some vb := (qt_cells HQs.out.box).2.2.2.1
        clear hle hmem ht1 hl8 hIx hu hff ht0
        go_wp2_with fail
        refine wp_region_noPanic ?_
        refine wp_region_held_drew (S := fun W_ => W_.cell? ⟨Q, 10, none⟩ = some (.slice (some ⟨g1, 0, none⟩) t1 c1)) (by kernel_rfl) ?_ (fun hHeld => ?_)
        · exact s10
        refine wpAnyH_take (i := 0) (oi := ⟨_, _, _, _, _, _⟩) (v := ?_) rfl (by kernel_rfl) (by kernel_rfl) (by kernel_rfl) (fun _ _ _ h => h) (Or.inl ⟨rfl, ?_⟩) (by assumption) ?_
        rotate_left 1
        · intro w_ hSw; (try dsimp only at hSw); go_simp; (try with_reducible rfl)
        (try simp only [Act.put, List.setIfInBounds_toArray, List.set_cons_zero, List.set_cons_succ])
        refine wpAnyH_take (i := 1) (oi := ⟨_, _, _, _, _, _⟩) (v := ?_) rfl (by kernel_rfl) (by kernel_rfl) (by kernel_rfl) (fun _ _ _ h => h) (Or.inl ⟨rfl, ?_⟩) (by assumption) ?_
        rotate_left 1
        · intro w_ hSw; (try dsimp only at hSw); go_simp; (try with_reducible rfl)
        (try simp only [Act.put, List.setIfInBounds_toArray, List.set_cons_zero, List.set_cons_succ])
        refine wpAnyH_take (i := 2) (oi := ⟨_, _, _, _, _, _⟩) (v := ?_) rfl (by kernel_rfl) (by kernel_rfl) (by kernel_rfl) (fun _ _ _ h => h) (Or.inl ⟨rfl, ?_⟩) (by assumption) ?_
        rotate_left 1
        · intro w_ hSw; (try dsimp only at hSw); go_simp; (try with_reducible rfl)
        (try simp only [Act.put, List.setIfInBounds_toArray, List.set_cons_zero, List.set_cons_succ])
        refine wpAnyH_take (i := 3) (oi := ⟨_, _, _, _, _, _⟩) (v := ?_) rfl (by kernel_rfl) (by kernel_rfl) (by kernel_rfl) (fun _ _ _ h => h) (Or.inl ⟨rfl, ?_⟩) (by assumption) ?_
        rotate_left 1
        · intro w_ hSw; (try dsimp only at hSw); go_simp; (try with_reducible rfl)
        (try simp only [Act.put, List.setIfInBounds_toArray, List.set_cons_zero, List.set_cons_succ])
        refine wpAnyH_take (i := 5) (oi := ⟨_, _, _, _, _, _⟩) (v := ?_) rfl (by kernel_rfl) (by kernel_rfl) (by kernel_rfl) (fun _ _ _ h => h) (Or.inl ⟨rfl, ?_⟩) (by assumption) ?_
        rotate_left 1
        · intro w_ hSw; (try dsimp only at hSw); go_simp; (try with_reducible rfl)
        (try simp only [Act.put, List.setIfInBounds_toArray, List.set_cons_zero, List.set_cons_succ])
        refine wpAnyH_take (i := 6) (oi := ⟨_, _, _, _, _, _⟩) (v := ?_) rfl (by kernel_rfl) (by kernel_rfl) (by kernel_rfl) (fun _ _ _ h => h) (Or.inl ⟨rfl, ?_⟩) (by assumption) ?_
        rotate_left 1
        · intro w_ hSw; (try dsimp only at hSw); go_simp; (try with_reducible rfl)
        (try simp only [Act.put, List.setIfInBounds_toArray, List.set_cons_zero, List.set_cons_succ])
        refine wpAnyH_take (i := 7) (oi := ⟨_, _, _, _, _, _⟩) (v := ?_) rfl (by kernel_rfl) (by kernel_rfl) (by kernel_rfl) (fun _ _ _ h => h) (Or.inl ⟨rfl, ?_⟩) (by assumption) ?_
        rotate_left 1
        · intro w_ hSw; (try dsimp only at hSw); go_simp; (try with_reducible rfl)
        (try simp only [Act.put, List.setIfInBounds_toArray, List.set_cons_zero, List.set_cons_succ])
        refine wpAnyH_take (i := 8) (oi := ⟨_, _, _, _, _, _⟩) (v := ?_) rfl (by kernel_rfl) (by kernel_rfl) (by kernel_rfl) (fun _ _ _ h => h) (Or.inl ⟨rfl, ?_⟩) (by assumption) ?_
        rotate_left 1
        · intro w_ hSw; (try dsimp only at hSw); go_simp; (try with_reducible rfl)
        (try simp only [Act.put, List.setIfInBounds_toArray, List.set_cons_zero, List.set_cons_succ])
        refine wpAnyH_take (i := 9) (oi := ⟨_, _, _, _, _, _⟩) (v := ?_) rfl (by kernel_rfl) (by kernel_rfl) (by kernel_rfl) (fun _ _ _ h => h) (Or.inl ⟨rfl, ?_⟩) (by assumption) ?_
        rotate_left 1
        · intro w_ hSw; (try dsimp only at hSw); go_simp; (try with_reducible rfl)
        (try simp only [Act.put, List.setIfInBounds_toArray, List.set_cons_zero, List.set_cons_succ])
        refine wpAnyH_ready (rs := [4, 10]) (by kernel_rfl) (by simp) ?_
        refine (AllReadyH.cons (o := ⟨_, _, _, _, _, _⟩) rfl (fun K hK => ?_) (AllReadyH.cons (o := ⟨_, _, _, _, _, _⟩) rfl (fun K hK => ?_) AllReadyH.nil))
        · go_simp
          refine hK.out _ _ ?_ (fun hHeld => ?_)
          · exact s10
          clear hK K
          (try simp only [Act.put, List.setIfInBounds_toArray, List.set_cons_zero, List.set_cons_succ])
          refine wpAnyH_ready (rs := [10]) (by kernel_rfl) (by simp) ?_
          refine (AllReadyH.cons (o := ⟨_, _, _, _, _, _⟩) rfl (fun K hK => ?_) AllReadyH.nil)
          go_simp
          go_at_call 63
          refine (HIx.out _ (below_drew _)).mono ?_
          rintro e_ w_ ⟨rfl, rfl⟩
          refine hK.out _ _ ?_ (fun hHeld => ?_)
          · exact s10
          clear hK K
          (try simp only [Act.put, List.setIfInBounds_toArray, List.set_cons_zero, List.set_cons_succ])
          refine wpAnyH_ready (rs := [11]) (by kernel_rfl) (by simp) ?_
          refine (AllReadyH.cons (o := ⟨_, _, _, _, _, _⟩) rfl (fun K hK => ?_) AllReadyH.nil)
          go_simp
          refine hK.out _ _ ?_ (fun hHeld => ?_)
          · exact cell_b ((below_alloc _ _).drew) s10
          clear hK K
          (try simp only [Act.put, List.setIfInBounds_toArray, List.set_cons_zero, List.set_cons_succ])
          refine wpAnyH_ready (rs := [12]) (by kernel_rfl) (by simp) ?_
          refine (AllReadyH.cons (o := ⟨_, _, _, _, _, _⟩) rfl (fun K hK => ?_) AllReadyH.nil)
          refine step_append_lies _ rfl _ _ _ rfl (Q + 1) 3 j0 _ 1 8 Try.underlying25 hj0 hy0 hy1 hy2 rfl (by decide) vb k ((lstP k (naI f)).map (Value.int .i64)) rfl (World.ownsRow.alloc (show wi.drew.ownsRow _ _ _ _ _ _ from HQs.out.nat) _) ⟨wi.drew.heap.size, 0, none⟩ 1 1 [.int .i64 u] rfl rfl (cell_one_new _ _ _) (by simp [Value.oneCell']) (by decide) (by unfold maxLen; omega) (by omega) (by have h_ := HQs.out.lt; show Q + 1 ≤ (wi.drew.alloc _).heap.size; simp; omega) _ rfl ?_
          intro g4 cap4 w4 hown4 hgrow4 hat4 hlt4
          have HQ4 := Lib.hid (HQs.out.natPut (k' := k + 1) (v' := .slice (some ⟨g4, 0, none⟩) (k + 1) cap4) hAQ (by rw [lstP_succ, List.map_append, HU.out]; exact hown4) hgrow4 (by rcases hat4 with h | h; exact .inl h.symm; exact .inr (by rw [h]; rfl)))
          have HB4 : Hid (Below w.heap.size w w4) := ((HBi.out.drew).alloc HBi.out.size _).grown hgrow4 (by have := HBi.out.size; show w.heap.size ≤ (wi.drew.alloc _).heap.size; simp; omega) (fun b hb => by have h_ := (HQs.out.nat.lt b hb).1; omega)
          have HBx4 : Hid (w4.heap[Q]? = some (.cells (qtArr (z : Int) ao n c f (.slice (some ⟨g1, 0, none⟩) t1 c1) vb) 76 (0, 0))) := HQs.out.boxGrown hgrow4
          have d11 := (qt_cells HBx4.out).2.2.2.1
          have f11 := (qt_cells HBx4.out).2.2.2.2 11
          clear hown4 hgrow4 hat4
          refine hK.out _ _ ?_ (fun hHeld => ?_)
          · exact (qt_cells HBx4.out).2.2.1
          clear hK K
          (try simp only [Act.put, List.setIfInBounds_toArray, List.set_cons_zero, List.set_cons_succ])
          refine wpAnyH_take (i := 13) (oi := ⟨_, _, _, _, _, _⟩) (v := ?_) rfl (by kernel_rfl) (by kernel_rfl) (by kernel_rfl) (fun _ _ _ h => h) (Or.inl ⟨rfl, ?_⟩) (by assumption) ?_
          rotate_left 1
          · intro w_ hSw; (try dsimp only at hSw); go_simp; (try with_reducible rfl)
          (try simp only [Act.put, List.setIfInBounds_toArray, List.set_cons_zero, List.set_cons_succ])
          refine wpAnyH_take (i := 14) (oi := ⟨_, _, _, _, _, _⟩) (v := ?_) rfl (by kernel_rfl) (by kernel_rfl) (by kernel_rfl) (fun _ _ _ h => h) (Or.inl ⟨rfl, ?_⟩) (by assumption) ?_
          rotate_left 1
          · intro w_ hSw; (try dsimp only at hSw); go_simp; (try with_reducible rfl)
          (try simp only [Act.put, List.setIfInBounds_toArray, List.set_cons_zero, List.set_cons_succ])
          refine wpAnyH_ready (rs := [15]) (by kernel_rfl) (by simp) ?_
          refine (AllReadyH.cons (o := ⟨_, _, _, _, _, _⟩) rfl (fun K hK => ?_) AllReadyH.nil)
          go_simp
          refine hK.out _ _ ?_ (fun hHeld => ?_)
          · exact (qt_cells HQ4.out.box).2.2.1
          clear hK K
          (try simp only [Act.put, List.setIfInBounds_toArray, List.set_cons_zero, List.set_cons_succ])
          refine wpAnyH_done (by kernel_rfl) ?_ _
          refine NoPanic.normal ?_
          have HQ5 : Hid (QtS (w4.setCell ⟨Q, 11, none⟩ (.slice (some ⟨g4, 0, none⟩) (k + 1) cap4)) A Q (z : Int) ao n c f (k + 1) (k + 1) (.slice (some ⟨g1, 0, none⟩) t1 c1) (.slice (some ⟨g4, 0, none⟩) (k + 1) cap4)) := HQ4.out
          have HB5 : Hid (Below w.heap.size w (w4.setCell ⟨Q, 11, none⟩ (.slice (some ⟨g4, 0, none⟩) (k + 1) cap4))) := HB4.out.setCell (by show w.heap.size ≤ Q; omega) _
          clear HQ4 HB4 HBx4 hHeld
          go_wp2_with fail
          go_roundw
          case rel => exact ⟨k + 1, _, _, by omega, by go_num, HQ5, HB5⟩
          case measure => simp [intOf]; omega
        · go_simp
          go_at_call 63
          refine (HIx.out _ (below_drew _)).mono ?_
          rintro e_ w_ ⟨rfl, rfl⟩
          refine hK.out _ _ ?_ (fun hHeld => ?_)
          · exact s10
          clear hK K
          (try simp only [Act.put, List.setIfInBounds_toArray, List.set_cons_zero, List.set_cons_succ])
          refine wpAnyH_ready (rs := [4, 11]) (by kernel_rfl) (by simp) ?_
          refine (AllReadyH.cons (o := ⟨_, _, _, _, _, _⟩) rfl (fun K hK => ?_) (AllReadyH.cons (o := ⟨_, _, _, _, _, _⟩) rfl (fun K hK => ?_) AllReadyH.nil))
          · go_simp
            refine hK.out _ _ ?_ (fun hHeld => ?_)
            · exact s10
            clear hK K
            (try simp only [Act.put, List.setIfInBounds_toArray, List.set_cons_zero, List.set_cons_succ])
            refine wpAnyH_ready (rs := [11]) (by kernel_rfl) (by simp) ?_
            refine (AllReadyH.cons (o := ⟨_, _, _, _, _, _⟩) rfl (fun K hK => ?_) AllReadyH.nil)
            go_simp
            refine hK.out _ _ ?_ (fun hHeld => ?_)
            · exact cell_b ((below_alloc _ _).drew) s10
            clear hK K
            (try simp only [Act.put, List.setIfInBounds_toArray, List.set_cons_zero, List.set_cons_succ])
            refine wpAnyH_ready (rs := [12]) (by kernel_rfl) (by simp) ?_
            refine (AllReadyH.cons (o := ⟨_, _, _, _, _, _⟩) rfl (fun K hK => ?_) AllReadyH.nil)
            refine step_append_lies _ rfl _ _ _ rfl (Q + 1) 3 j0 _ 1 8 Try.underlying25 hj0 hy0 hy1 hy2 rfl (by decide) vb k ((lstP k (naI f)).map (Value.int .i64)) rfl (World.ownsRow.alloc (show wi.drew.ownsRow _ _ _ _ _ _ from HQs.out.nat) _) ⟨wi.drew.heap.size, 0, none⟩ 1 1 [.int .i64 u] rfl rfl (cell_one_new _ _ _) (by simp [Value.oneCell']) (by decide) (by unfold maxLen; omega) (by omega) (by have h_ := HQs.out.lt; show Q + 1 ≤ (wi.drew.alloc _).heap.size; simp; omega) _ rfl ?_
            intro g4 cap4 w4 hown4 hgrow4 hat4 hlt4
            have HQ4 := Lib.hid (HQs.out.natPut (k' := k + 1) (v' := .slice (some ⟨g4, 0, none⟩) (k + 1) cap4) hAQ (by rw [lstP_succ, List.map_append, HU.out]; exact hown4) hgrow4 (by rcases hat4 with h | h; exact .inl h.symm; exact .inr (by rw [h]; rfl)))
            have HB4 : Hid (Below w.heap.size w w4) := ((HBi.out.drew).alloc HBi.out.size _).grown hgrow4 (by have := HBi.out.size; show w.heap.size ≤ (wi.drew.alloc _).heap.size; simp; omega) (fun b hb => by have h_ := (HQs.out.nat.lt b hb).1; omega)
            have HBx4 : Hid (w4.heap[Q]? = some (.cells (qtArr (z : Int) ao n c f (.slice (some ⟨g1, 0, none⟩) t1 c1) vb) 76 (0, 0))) := HQs.out.boxGrown hgrow4
            have d11 := (qt_cells HBx4.out).2.2.2.1
            have f11 := (qt_cells HBx4.out).2.2.2.2 11
            clear hown4 hgrow4 hat4
            refine hK.out _ _ ?_ (fun hHeld => ?_)
            · exact (qt_cells HBx4.out).2.2.1
            clear hK K
            (try simp only [Act.put, List.setIfInBounds_toArray, List.set_cons_zero, List.set_cons_succ])
            refine wpAnyH_take (i := 13) (oi := ⟨_, _, _, _, _, _⟩) (v := ?_) rfl (by kernel_rfl) (by kernel_rfl) (by kernel_rfl) (fun _ _ _ h => h) (Or.inl ⟨rfl, ?_⟩) (by assumption) ?_
            rotate_left 1
            · intro w_ hSw; (try dsimp only at hSw); go_simp; (try with_reducible rfl)
            (try simp only [Act.put, List.setIfInBounds_toArray, List.set_cons_zero, List.set_cons_succ])
            refine wpAnyH_take (i := 14) (oi := ⟨_, _, _, _, _, _⟩) (v := ?_) rfl (by kernel_rfl) (by kernel_rfl) (by kernel_rfl) (fun _ _ _ h => h) (Or.inl ⟨rfl, ?_⟩) (by assumption) ?_
            rotate_left 1
            · intro w_ hSw; (try dsimp only at hSw); go_simp; (try with_reducible rfl)
            (try simp only [Act.put, List.setIfInBounds_toArray, List.set_cons_zero, List.set_cons_succ])
            refine wpAnyH_ready (rs := [15]) (by kernel_rfl) (by simp) ?_
            refine (AllReadyH.cons (o := ⟨_, _, _, _, _, _⟩) rfl (fun K hK => ?_) AllReadyH.nil)
            go_simp
            refine hK.out _ _ ?_ (fun hHeld => ?_)
            · exact (qt_cells HQ4.out.box).2.2.1
            clear hK K
            (try simp only [Act.put, List.setIfInBounds_toArray, List.set_cons_zero, List.set_cons_succ])
            refine wpAnyH_done (by kernel_rfl) ?_ _
            refine NoPanic.normal ?_
            have HQ5 : Hid (QtS (w4.setCell ⟨Q, 11, none⟩ (.slice (some ⟨g4, 0, none⟩) (k + 1) cap4)) A Q (z : Int) ao n c f (k + 1) (k + 1) (.slice (some ⟨g1, 0, none⟩) t1 c1) (.slice (some ⟨g4, 0, none⟩) (k + 1) cap4)) := HQ4.out
            have HB5 : Hid (Below w.heap.size w (w4.setCell ⟨Q, 11, none⟩ (.slice (some ⟨g4, 0, none⟩) (k + 1) cap4))) := HB4.out.setCell (by show w.heap.size ≤ Q; omega) _
            clear HQ4 HB4 HBx4 hHeld
            go_wp2_with fail
            go_roundw
            case rel => exact ⟨k + 1, _, _, by omega, by go_num, HQ5, HB5⟩
            case measure => simp [intOf]; omega
          · go_simp
            refine hK.out _ _ ?_ (fun hHeld => ?_)
            · exact cell_b ((below_alloc _ _).drew) s10
            clear hK K
            (try simp only [Act.put, List.setIfInBounds_toArray, List.set_cons_zero, List.set_cons_succ])
            refine wpAnyH_ready (rs := [4]) (by kernel_rfl) (by simp) ?_
            refine (AllReadyH.cons (o := ⟨_, _, _, _, _, _⟩) rfl (fun K hK => ?_) AllReadyH.nil)
            have s11b : ((wi.alloc (.cells #[.int .i64 u] 3)).drew).cell? ⟨Q, 11, none⟩ = some vb := cell_b ((below_alloc _ _).drew) s11
            go_simp
            refine hK.out _ _ ?_ (fun hHeld => ?_)
            · exact cell_b ((below_alloc _ _).drew) s10
            clear hK K
            (try simp only [Act.put, List.setIfInBounds_toArray, List.set_cons_zero, List.set_cons_succ])
            refine wpAnyH_ready (rs := [12]) (by kernel_rfl) (by simp) ?_
            refine (AllReadyH.cons (o := ⟨_, _, _, _, _, _⟩) rfl (fun K hK => ?_) AllReadyH.nil)
            refine step_append_lies _ rfl _ _ _ rfl (Q + 1) 3 j0 _ 1 8 Try.underlying25 hj0 hy0 hy1 hy2 rfl (by decide) vb k ((lstP k (naI f)).map (Value.int .i64)) rfl (World.ownsRow.alloc (show wi.drew.ownsRow _ _ _ _ _ _ from HQs.out.nat) _) ⟨wi.drew.heap.size, 0, none⟩ 1 1 [.int .i64 u] rfl rfl (cell_one_new _ _ _) (by simp [Value.oneCell']) (by decide) (by unfold maxLen; omega) (by omega) (by have h_ := HQs.out.lt; show Q + 1 ≤ (wi.drew.alloc _).heap.size; simp; omega) _ rfl ?_
            intro g4 cap4 w4 hown4 hgrow4 hat4 hlt4
            have HQ4 := Lib.hid (HQs.out.natPut (k' := k + 1) (v' := .slice (some ⟨g4, 0, none⟩) (k + 1) cap4) hAQ (by rw [lstP_succ, List.map_append, HU.out]; exact hown4) hgrow4 (by rcases hat4 with h | h; exact .inl h.symm; exact .inr (by rw [h]; rfl)))
            have HB4 : Hid (Below w.heap.size w w4) := ((HBi.out.drew).alloc HBi.out.size _).grown hgrow4 (by have := HBi.out.size; show w.heap.size ≤ (wi.drew.alloc _).heap.size; simp; omega) (fun b hb => by have h_ := (HQs.out.nat.lt b hb).1; omega)
            have HBx4 : Hid (w4.heap[Q]? = some (.cells (qtArr (z : Int) ao n c f (.slice (some ⟨g1, 0, none⟩) t1 c1) vb) 76 (0, 0))) := HQs.out.boxGrown hgrow4
            have d11 := (qt_cells HBx4.out).2.2.2.1
            have f11 := (qt_cells HBx4.out).2.2.2.2 11
            clear hown4 hgrow4 hat4
            refine hK.out _ _ ?_ (fun hHeld => ?_)
            · exact (qt_cells HBx4.out).2.2.1
            clear hK K
            (try simp only [Act.put, List.setIfInBounds_toArray, List.set_cons_zero, List.set_cons_succ])
            refine wpAnyH_take (i := 13) (oi := ⟨_, _, _, _, _, _⟩) (v := ?_) rfl (by kernel_rfl) (by kernel_rfl) (by kernel_rfl) (fun _ _ _ h => h) (Or.inl ⟨rfl, ?_⟩) (by assumption) ?_
            rotate_left 1
            · intro w_ hSw; (try dsimp only at hSw); go_simp; (try with_reducible rfl)
            (try simp only [Act.put, List.setIfInBounds_toArray, List.set_cons_zero, List.set_cons_succ])
            refine wpAnyH_take (i := 14) (oi := ⟨_, _, _, _, _, _⟩) (v := ?_) rfl (by kernel_rfl) (by kernel_rfl) (by kernel_rfl) (fun _ _ _ h => h) (Or.inl ⟨rfl, ?_⟩) (by assumption) ?_
            rotate_left 1
            · intro w_ hSw; (try dsimp only at hSw); go_simp; (try with_reducible rfl)
            (try simp only [Act.put, List.setIfInBounds_toArray, List.set_cons_zero, List.set_cons_succ])
            refine wpAnyH_ready (rs := [15]) (by kernel_rfl) (by simp) ?_
            refine (AllReadyH.cons (o := ⟨_, _, _, _, _, _⟩) rfl (fun K hK => ?_) AllReadyH.nil)
            go_simp
            refine hK.out _ _ ?_ (fun hHeld => ?_)
            · exact (qt_cells HQ4.out.box).2.2.1
            clear hK K
            (try simp only [Act.put, List.setIfInBounds_toArray, List.set_cons_zero, List.set_cons_succ])
            refine wpAnyH_done (by kernel_rfl) ?_ _
            refine NoPanic.normal ?_
            have HQ5 : Hid (QtS (w4.setCell ⟨Q, 11, none⟩ (.slice (some ⟨g4, 0, none⟩) (k + 1) cap4)) A Q (z : Int) ao n c f (k + 1) (k + 1) (.slice (some ⟨g1, 0, none⟩) t1 c1) (.slice (some ⟨g4, 0, none⟩) (k + 1) cap4)) := HQ4.out
            have HB5 : Hid (Below w.heap.size w (w4.setCell ⟨Q, 11, none⟩ (.slice (some ⟨g4, 0, none⟩) (k + 1) cap4))) := HB4.out.setCell (by show w.heap.size ≤ Q; omega) _
            clear HQ4 HB4 HBx4 hHeld
            go_wp2_with fail
            go_roundw
            case rel => exact ⟨k + 1, _, _, by omega, by go_num, HQ5, HB5⟩
            case measure => simp [intOf]; omega
    · have hkn : ¬ (k : Int) < (z : Int) := by omega
      obtain rfl : k = z := by omega
      go_wp2_with fail
      go_ret
      exact ⟨va, vb, by rw [HQe.out]; rfl, by rw [← HQe.out, ← HAe.out]; exact HQk.out, HBr.out⟩
end

section
open Go.RowKit
set_option linter.unusedVariables false
set_option linter.unusedSimpArgs false

theorem okAll_ext {xs : List Int} {n : Nat} (hl : xs.length = n) (h : okAll (gI xs) n = true) : okAll (extP xs) n = true := by
  unfold okAll at h ⊢
  rw [List.all_eq_true] at h ⊢
  intro x hx
  have hx' := List.mem_range.1 hx
  have h1 := h x hx
  obtain ⟨⟨h2, h3⟩, h4⟩ := okP_of h1
  unfold okP at h1 ⊢
  rw [extP_lt (by omega), extP_lt (k := (gI xs x).toNat) (by omega)]
  exact h1

/-- What quotientOf gives. -/
def ResQ (w w' : World) (b : Bool) (z : Int) (ao : Option Addr) (n c : Nat) (xs : List Int) (e : Ending) : Prop :=
  Below w.heap.size w w' ∧ if b = true then ∃ (A Q : Nat) (va vb : Value), e = .returned (.pointer (some ⟨Q, 0, none⟩)) ∧ w.heap.size ≤ A ∧ A < Q ∧ QtS w' A Q z ao n c (extP xs) z.toNat z.toNat va vb else e = .returned (.pointer none)

set_option maxHeartbeats 2000000 in
set_option maxRecDepth 100000 in
theorem quotOf_any (lo hi : Nat) (z : Int) (ao : Option Addr) (c n : Nat) (fs : List OpD) (lo2 hi2 : Nat) (bo : Option Addr) (d m : Nat) (xs : List Int) (w : World) (hv : OView w lo hi ao n fs) (hhi : hi ≤ w.heap.size) (hs : ∀ (j : Nat) (f : OpD), fs[j]? = some f → f.2.length ≤ maxLen)
    (hx : IView w lo2 hi2 bo m xs) (hhi2 : hi2 ≤ w.heap.size) (hm : m ≤ maxLen) :
    Calls Try.prog 73 #[.agg #[.int .i64 z, .slice ao n c], .slice bo m d] w fun e w' => ResQ w w' (cngB z fs xs) z ao n c xs e := by
  have hB := below_alloc w (.cells #[.int .i64 z, .slice ao n c] 31)
  have HB0 := Lib.hid hB
  have HC := Lib.hid (fun (W : World) (hW : Below w.heap.size w W) => congOf_any lo hi z ao c n fs lo2 hi2 bo d m xs W (hv.kept (Kept.of_below hW hhi)) (Nat.le_trans hhi hW.size) hs (hx.kept (Kept.of_below hW hhi2)) (Nat.le_trans hhi2 hW.size) hm)
  have hX0 : (w.alloc (.cells #[.int .i64 z, .slice ao n c] 31)).heap[w.heap.size]? = some (.cells #[.int .i64 z, .slice ao n c] 31 (0, 0)) := heap_alloc_new _ _
  have HX0 := Lib.hid hX0
  obtain ⟨cz0, ca0, _⟩ := box_cells hX0
  unfold ResP at HC
  unfold ResQ
  cases hb : cngB z fs xs with
  | false =>
    obtain ⟨g, hg⟩ : ∃ g, parF false xs = g := ⟨_, rfl⟩
    simp only [hb, hg] at HC
    simp only [Bool.false_eq_true, if_false]
    clear hv hx hs hm hB hX0 hb hg
    go_enter Try.func73, Try.ntmps73
    go_wp2_with fail
    refine (HC.out _ HB0.out).mono ?_
    rintro e w1 ⟨rfl, b1⟩
    have HB1 := Lib.hid (HB0.out.trans (b1.mono HB0.out.size))
    have HX1 := Lib.hid ((b1.block w.heap.size (by simp)).trans HX0.out)
    obtain ⟨cz, ca, _⟩ := box_cells HX1.out
    have HA1 := Lib.hid (ArrAt.new w1 fun _ => 0)
    have hz1_ : w.heap.size < w1.heap.size := (Array.getElem?_eq_some_iff.1 HX1.out).1
    clear b1 cz0 ca0
    obtain ⟨w3, hw3⟩ : ∃ w3, w3 = (w1.alloc (.cells (arrV fun _ => 0) 70)).setRow w1.heap.size (arrV g) := ⟨_, rfl⟩
    have HA3 : Hid (ArrAt w3 w1.heap.size g) := by unfold Hid; rw [hw3]; exact HA1.out.setRow
    have HB3 : Hid (Below w.heap.size w w3) := by unfold Hid; rw [hw3]; exact below_setRow (below_then HB1.out (below_alloc w1 _)) (by omega) _
    have HX3 : Hid (w3.heap[w.heap.size]? = some (.cells #[.int .i64 z, .slice ao n c] 31 (0, 0))) := by
      unfold Hid; rw [hw3]
      exact ((below_setRow (below_alloc w1 (.cells (arrV fun _ => 0) 70)) (Nat.le_refl _) (arrV g)).block _ (by omega)).trans HX1.out
    have HW3 := Lib.hid hw3
    clear hw3 cz ca
    obtain ⟨cz, ca, _⟩ := box_cells HX3.out
    go_wp2_with (refine st8 (w := w1.alloc (.cells (arrV fun _ => 0) 70)) HA1.out rfl _ _ rfl rfl rfl ?_; rw [← HW3.out])
    go_ret
    exact ⟨HB3.out, rfl⟩
  | true =>
    obtain ⟨hok, hpt, _⟩ := cngB_of hb
    obtain ⟨⟨z1, z8⟩, _, _⟩ := algOkB_of hok
    obtain ⟨zn, rfl⟩ : ∃ zn : Nat, z = (zn : Int) := ⟨z.toNat, by omega⟩
    obtain ⟨g, hg⟩ : ∃ g, extP xs = g := ⟨_, rfl⟩
    rw [hb, parF_yes, hg] at HC
    simp only [if_true, hg]
    have hlz : xs.length = zn := by have := (partB_of hpt).1; omega
    have hoA : okAll g zn = true := by rw [← hg]; exact okAll_ext hlz (by have := (partB_of hpt).2; rwa [hlz] at this)
    have HQ := Lib.hid (fun (W : World) => quotBy_any zn ao c n g W (by omega) (by omega) hoA)
    unfold NewQt at HQ
    clear hv hx hs hm hB hX0 hb hg hok hpt z1 z8 hlz hoA
    go_enter Try.func73, Try.ntmps73
    go_wp2_with fail
    refine (HC.out _ HB0.out).mono ?_
    rintro e w1 ⟨rfl, b1⟩
    have HB1 := Lib.hid (HB0.out.trans (b1.mono HB0.out.size))
    have HX1 := Lib.hid ((b1.block w.heap.size (by simp)).trans HX0.out)
    obtain ⟨cz, ca, _⟩ := box_cells HX1.out
    have HA1 := Lib.hid (ArrAt.new w1 fun _ => 0)
    have hz1_ : w.heap.size < w1.heap.size := (Array.getElem?_eq_some_iff.1 HX1.out).1
    clear b1 cz0 ca0
    obtain ⟨w3, hw3⟩ : ∃ w3, w3 = (w1.alloc (.cells (arrV fun _ => 0) 70)).setRow w1.heap.size (arrV g) := ⟨_, rfl⟩
    have HA3 : Hid (ArrAt w3 w1.heap.size g) := by unfold Hid; rw [hw3]; exact HA1.out.setRow
    have HB3 : Hid (Below w.heap.size w w3) := by unfold Hid; rw [hw3]; exact below_setRow (below_then HB1.out (below_alloc w1 _)) (by omega) _
    have HX3 : Hid (w3.heap[w.heap.size]? = some (.cells #[.int .i64 (zn : Int), .slice ao n c] 31 (0, 0))) := by
      unfold Hid; rw [hw3]
      exact ((below_setRow (below_alloc w1 (.cells (arrV fun _ => 0) 70)) (Nat.le_refl _) (arrV g)).block _ (by omega)).trans HX1.out
    have HW3 := Lib.hid hw3
    clear hw3 cz ca
    obtain ⟨cz, ca, _⟩ := box_cells HX3.out
    go_wp2_with (first | (refine st8 (w := w1.alloc (.cells (arrV fun _ => 0) 70)) HA1.out rfl _ _ rfl rfl rfl ?_; rw [← HW3.out]) | (refine ld8 HA3.out rfl _ rfl rfl ?_))
    refine (HQ.out _).mono ?_
    rintro e w4 ⟨va, vb, rfl, hq4, b4⟩
    have HB4 := Lib.hid (HB3.out.trans (b4.mono HB3.out.size))
    have HQ4 := Lib.hid hq4
    have hsz := HB3.out.size
    clear b4 hq4
    go_wp2_with fail
    go_ret
    exact ⟨HB4.out, w3.heap.size + 1, w3.heap.size + 1 + 1, va, vb, rfl, by omega, by omega, by rw [Int.toNat_natCast]; exact HQ4.out⟩

def valNaturalMap (z : Int) (fs : List OpD) (xs : List Int) : List Int × Bool := if cngB z fs xs = true then (lstP z.toNat (naI (gI xs)), true) else ([], false)
theorem smallNaturalMap (z : Int) (fs : List OpD) (xs : List Int) : (valNaturalMap z fs xs).1.length ≤ 4194304 := by
  unfold valNaturalMap
  split
  · rename_i h
    have := (algOkB_of (cngB_of h).1).1
    simp only [lstP_len]; omega
  · simp
theorem na_ext {z : Int} {fs : List OpD} {xs : List Int} (h : cngB z fs xs = true) : lstP z.toNat (naI (extP xs)) = lstP z.toNat (naI (gI xs)) := by
  have := (partB_of (cngB_of h).2.1).1
  exact lstP_congr fun x hx => naI_congr fun y hy => extP_lt (by omega)

set_option maxHeartbeats 1000000 in
theorem implNaturalMap (lo hi : Nat) (z : Int) (ao : Option Addr) (c n : Nat) (fs : List OpD) (lo2 hi2 : Nat) (bo : Option Addr) (d m : Nat) (xs : List Int) (w : World) (hv : OView w lo hi ao n fs) (hhi : hi ≤ w.heap.size) (hs : ∀ (j : Nat) (f : OpD), fs[j]? = some f → f.2.length ≤ maxLen)
    (hx : IView w lo2 hi2 bo m xs) (hhi2 : hi2 ≤ w.heap.size) (hm : m ≤ maxLen) :
    Calls Try.prog 33 #[.agg #[.int .i64 z, .slice ao n c], .slice bo m d] w fun e w' => ResL w w' (valNaturalMap z fs xs).1 (valNaturalMap z fs xs).2 e := by
  have hB := below_alloc w (.cells #[.int .i64 z, .slice ao n c] 31)
  have HB0 := Lib.hid hB
  have HC := Lib.hid (quotOf_any lo hi z ao c n fs lo2 hi2 bo d m xs _ (hv.kept (Kept.of_below hB hhi)) (Nat.le_trans hhi hB.size) hs (hx.kept (Kept.of_below hB hhi2)) (Nat.le_trans hhi2 hB.size) hm)
  unfold ResQ at HC
  unfold ResL valNaturalMap
  cases hb : cngB z fs xs with
  | false =>
    simp only [hb, Bool.false_eq_true, if_false] at HC
    rw [if_neg (by simp)]
    clear hv hx hs hm hB hb
    go_enter Try.func33, Try.ntmps33
    go_wp2_with fail
    refine HC.out.mono ?_
    rintro e w1 ⟨b1, rfl⟩
    have HB1 := Lib.hid (HB0.out.trans (b1.mono HB0.out.size))
    clear b1
    go_wp2_with fail
    go_ret2
    exact ⟨_, _, _, rfl, rfl, OwnsInts.of_row (World.ownsRow_nil _ _ _ _), HB1.out⟩
  | true =>
    have hne := na_ext hb
    simp only [hb, if_true] at HC
    rw [if_pos rfl, ← hne]
    obtain ⟨zn, hzn⟩ : ∃ zn, z.toNat = zn := ⟨_, rfl⟩
    rw [hzn]
    simp only [hzn] at HC
    clear hv hx hs hm hB hb hne hzn
    go_enter Try.func33, Try.ntmps33
    go_wp2_with fail
    refine HC.out.mono ?_
    rintro e w1 ⟨b1, A, Q, va, vb, rfl, hA, hQ, hq⟩
    obtain ⟨a, cc, rfl⟩ := own_form hq.nat
    have HB1 := Lib.hid (HB0.out.trans (b1.mono HB0.out.size))
    obtain ⟨_, _, _, d11, _⟩ := qt_cells hq.box
    have HO := Lib.hid (ownsRow_base hq.nat (b' := w.heap.size) (by have := HB0.out.size; omega))
    clear b1 hq
    go_wp2_with fail
    go_ret2
    exact ⟨_, _, _, rfl, (lstP_len _ _).symm, OwnsInts.of_row HO.out, HB1.out⟩
end

section
open Go.RowKit
set_option linter.unusedVariables false
set_option linter.unusedSimpArgs false

set_option maxHeartbeats 1000000 in
theorem specNaturalMap (lo hi : Nat) (z : Int) (ao : Option Addr) (c n : Nat) (fs : List OpD) (lo2 hi2 : Nat) (bo : Option Addr) (d m : Nat) (xs : List Int) (w : World) (hv : OView w lo hi ao n fs) (hhi : hi ≤ w.heap.size) (hs : ∀ (j : Nat) (f : OpD), fs[j]? = some f → f.2.length ≤ maxLen)
    (hx : IView w lo2 hi2 bo m xs) (hhi2 : hi2 ≤ w.heap.size) (hm : m ≤ maxLen) :
    Calls Try.prog 32 #[.agg #[.int .i64 z, .slice ao n c], .slice bo m d] w fun e w' => ResL w w' (valNaturalMap z fs xs).1 (valNaturalMap z fs xs).2 e := by
  have hB := below_alloc w (.cells #[.int .i64 z, .slice ao n c] 31)
  have HB0 := Lib.hid hB
  have HC := Lib.hid (takes9_any lo hi z ao c n fs lo2 hi2 bo d m xs _ (hv.kept (Kept.of_below hB hhi)) (Nat.le_trans hhi hB.size) hs (hx.kept (Kept.of_below hB hhi2)) (Nat.le_trans hhi2 hB.size) hm)
  unfold ResL valNaturalMap
  cases hb : cngB z fs xs with
  | false =>
    simp only [hb] at HC
    rw [if_neg (by simp)]
    clear hv hx hs hm hB hb
    go_enter Try.func32, Try.ntmps32
    go_wp2_with fail
    refine HC.out.mono ?_
    rintro e w1 ⟨rfl, b1⟩
    have HB1 := Lib.hid (HB0.out.trans (b1.mono HB0.out.size))
    have HO0 := Lib.hid (World.ownsRow_lit (base := w.heap.size) (e := 3) (size := 1) w1 #[] 0 HB1.out.size (by decide) rfl)
    have HB2 := Lib.hid (HB1.out.alloc HB1.out.size (.cells #[] 3))
    clear b1
    go_wp2_with fail
    go_ret2
    exact ⟨_, _, _, rfl, rfl, OwnsInts.of_row HO0.out, HB2.out⟩
  | true =>
    obtain ⟨hok, hpt, _⟩ := cngB_of hb
    obtain ⟨⟨z1, z8⟩, _, _⟩ := algOkB_of hok
    have hzm : z.toNat = m := by have := (partB_of hpt).1; have := hx.1; omega
    have hoA : okAll (gI xs) m = true := by have := (partB_of hpt).2; have h2 := hx.1; rwa [h2] at this
    have HM := Lib.hid (fun (W : World) (hW : Below w.heap.size w W) => l9Map_any lo2 hi2 bo d m xs W (hx.kept (Kept.of_below hW hhi2)) (Nat.le_trans hhi2 hW.size) (by omega) (by omega) hoA)
    unfold NewInts at HM
    simp only [hb] at HC
    rw [if_pos rfl, hzm]
    clear hv hx hs hm hB hb hok hpt hoA
    go_enter Try.func32, Try.ntmps32
    go_wp2_with fail
    refine HC.out.mono ?_
    rintro e w1 ⟨rfl, b1⟩
    have HB1 := Lib.hid (HB0.out.trans (b1.mono HB0.out.size))
    clear b1
    go_wp2_with fail
    refine (HM.out _ HB1.out).mono ?_
    rintro e w2 ⟨g, dd, rfl, ho, b2⟩
    have HB2 := Lib.hid (HB1.out.trans (b2.mono HB1.out.size))
    have HO := Lib.hid (ownsRow_base ho HB1.out.size)
    clear ho b2
    go_wp2_with fail
    go_ret2
    exact ⟨_, _, _, rfl, (lstP_len _ _).symm, OwnsInts.of_row HO.out, HB2.out⟩
end

end Go.Proofs.Ytcmjkfcgekmomaa
