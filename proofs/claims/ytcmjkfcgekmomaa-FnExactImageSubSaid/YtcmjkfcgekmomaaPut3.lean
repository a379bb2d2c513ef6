/-
  Contract: spec.l1Put: a number put to its place in an ascending list, once. Conditions: the bounds that each theorem names.
-/
import Derived.Test.YtcmjkfcgekmomaaApp
import Derived.Test.YtcmjkfcgekmomaaKeep
import Derived.Deep.RegionHeld3
import Derived.Deep.DrawnRows
namespace Go.Proofs.Ytcmjkfcgekmomaa
open Go.RowKit
set_option linter.unusedVariables false
set_option linter.unusedSimpArgs false
attribute [local go_sem ↓] Go.wp_at_zero Go.wp_at_succ

def putR : List Int → Int → List Int
  | [], n => [n]
  | a :: l, n => if a < n then a :: putR l n else if a = n then a :: l else n :: a :: l
theorem putR_here {xs : List Int} {n : Int} : ∀ {k : Nat}, (∀ j x, j < k → xs[j]? = some x → x < n) → xs[k]? = some n → putR xs n = xs := by
  induction xs with
  | nil => intro k _ h; simp at h
  | cons a l ih =>
    intro k h hk
    cases k with
    | zero =>
      simp at hk
      subst hk
      simp [putR]
    | succ k =>
      have h0 := h 0 a (by omega) rfl
      rw [putR, if_pos h0, ih (k := k) (fun j x hj hx => h (j + 1) x (by omega) (by simpa using hx)) (by simpa using hk)]
theorem putR_new {xs : List Int} {n : Int} : ∀ {k : Nat}, k ≤ xs.length → (∀ j x, j < k → xs[j]? = some x → x < n) → (∀ x, xs[k]? = some x → n < x) → putR xs n = xs.take k ++ [n] ++ xs.drop k := by
  induction xs with
  | nil => intro k hk _ _; simp at hk; subst hk; rfl
  | cons a l ih =>
    intro k hl h hk
    cases k with
    | zero =>
      have h1 := hk a rfl
      rw [putR, if_neg (by omega), if_neg (by omega)]
      rfl
    | succ k =>
      have h0 := h 0 a (by omega) rfl
      rw [putR, if_pos h0, ih (k := k) (by simp at hl; omega) (fun j x hj hx => h (j + 1) x (by omega) (by simpa using hx)) (fun x hx => hk x (by simpa using hx))]
      rfl
theorem mem_putR {xs : List Int} {n y : Int} : y ∈ putR xs n ↔ y = n ∨ y ∈ xs := by
  induction xs with
  | nil => simp [putR]
  | cons a l ih =>
    rw [putR]
    split
    · rw [List.mem_cons, ih, List.mem_cons]
      constructor
      · rintro (h | h | h)
        · exact .inr (.inl h)
        · exact .inl h
        · exact .inr (.inr h)
      · rintro (h | h | h)
        · exact .inr (.inl h)
        · exact .inl h
        · exact .inr (.inr h)
    · split
      · rename_i h
        subst h
        rw [List.mem_cons]
        constructor
        · rintro (h | h)
          · exact .inl h
          · exact .inr (.inr h)
        · rintro (h | h | h)
          · exact .inl h
          · exact .inl h
          · exact .inr h
      · rw [List.mem_cons]
theorem putR_sorted {xs : List Int} {n : Int} (h : xs.Pairwise (· < ·)) : (putR xs n).Pairwise (· < ·) := by
  induction xs with
  | nil => simp [putR]
  | cons a l ih =>
    rw [List.pairwise_cons] at h
    rw [putR]
    split
    · rename_i h1
      rw [List.pairwise_cons]
      refine ⟨fun y hy => ?_, ih h.2⟩
      rcases mem_putR.1 hy with rfl | hy
      · exact h1
      · exact h.1 y hy
    · split
      · exact List.pairwise_cons.2 h
      · rw [List.pairwise_cons]
        refine ⟨fun y hy => ?_, List.pairwise_cons.2 h⟩
        rcases List.mem_cons.1 hy with rfl | hy
        · omega
        · have := h.1 y hy; omega
theorem sorted_ext : ∀ {xs ys : List Int}, xs.Pairwise (· < ·) → ys.Pairwise (· < ·) → (∀ y, y ∈ xs ↔ y ∈ ys) → xs = ys
  | [], [], _, _, _ => rfl
  | [], b :: m, _, _, h => by have := (h b).2 (by simp); simp at this
  | a :: l, [], _, _, h => by have := (h a).1 (by simp); simp at this
  | a :: l, b :: m, h1, h2, h => by
    rw [List.pairwise_cons] at h1 h2
    have hab : a = b := by
      rcases List.mem_cons.1 ((h a).1 (by simp)) with e | e
      · exact e
      · rcases List.mem_cons.1 ((h b).2 (by simp)) with f | f
        · exact f.symm
        · have := h1.1 b f
          have := h2.1 a e
          omega
    subst hab
    congr 1
    refine sorted_ext h1.2 h2.2 fun y => ?_
    constructor
    · intro hy
      rcases List.mem_cons.1 ((h y).1 (by simp [hy])) with e | e
      · have := h1.1 y hy; omega
      · exact e
    · intro hy
      rcases List.mem_cons.1 ((h y).2 (by simp [hy])) with e | e
      · have := h2.1 y hy; omega
      · exact e

theorem own_nil_lit (W : World) {base : Nat} (h : base ≤ W.heap.size) : (W.alloc (.cells #[] 3)).ownsRow base 3 1 (.slice (some ⟨W.heap.size, 0, none⟩) 0 0) 0 (([] : List Int).map (Value.int .i64)) :=
  World.ownsRow_lit (base := base) (e := 3) (size := 1) W #[] 0 h (by decide) rfl
theorem one_at {W : World} {b : Nat} {x : Int} (h : W.cell? ⟨b, 0, none⟩ = some (.int .i64 x)) : ∀ j y, [x][j]? = some y → W.cell? ((⟨b, 0, none⟩ : Addr).add j) = some (.int .i64 y) := by
  intro j y hj
  match j, hj with
  | 0, hj => simp at hj; subst hj; simpa [Addr.add] using h
theorem part_at {W : World} {g o : Nat} {xs : List Int} (h : ∀ j x, xs[j]? = some x → W.cell? ⟨g, o + j, none⟩ = some (.int .i64 x)) : ∀ j y, xs[j]? = some y → W.cell? ((⟨g, o, none⟩ : Addr).add j) = some (.int .i64 y) := by
  intro j y hj
  rw [show (⟨g, o, none⟩ : Addr).add j = ⟨g, o + j, none⟩ by unfold Addr.add; split <;> simp_all]
  exact h j y hj
theorem below_grown {w W w3 : World} {g : Nat} (h : W.grownBy w3 (some g)) (hW : Below w.heap.size w W) (hg : w.heap.size ≤ g) : Below w.heap.size w w3 :=
  hW.grown h hW.size (fun q hq => by injection hq with hq; omega)

/-- The cells of a list, in whatever world that keeps them. -/
def CellsAt (w : World) (g : Nat) (xs : List Int) : Prop := ∀ j x, xs[j]? = some x → w.cell? ⟨g, j, none⟩ = some (.int .i64 x)
theorem CellsAt.below {w w' : World} {g : Nat} {xs : List Int} (h : CellsAt w g xs) (hb : Below w.heap.size w w') : CellsAt w' g xs := fun j x hx => cell_b hb (h j x hx)
theorem CellsAt.take {w : World} {g k : Nat} {xs : List Int} (h : CellsAt w g xs) : ∀ j y, (xs.take k)[j]? = some y → w.cell? ((⟨g, 0, none⟩ : Addr).add j) = some (.int .i64 y) :=
  part_at fun j x hx => by
    rw [List.getElem?_take] at hx
    split at hx
    · rw [Nat.zero_add]; exact h j x hx
    · cases hx
theorem CellsAt.drop {w : World} {g k : Nat} {xs : List Int} (h : CellsAt w g xs) : ∀ j y, (xs.drop k)[j]? = some y → w.cell? ((⟨g, k, none⟩ : Addr).add j) = some (.int .i64 y) :=
  part_at fun j x hx => by
    rw [List.getElem?_drop] at hx
    exact h (k + j) x hx

/-- What l1Put leaves. -/
def PutRes (w w' : World) (lo : Nat) (xs : List Int) (x : Int) (e : Ending) : Prop :=
  ∃ g m d, e = .returned (.slice (some ⟨g, 0, none⟩) m d) ∧ m = (putR xs x).length ∧ w'.ownsRow lo 3 1 (.slice (some ⟨g, 0, none⟩) m d) m ((putR xs x).map (Value.int .i64)) ∧ Below w.heap.size w w'

set_option maxRecDepth 100000 in
set_option maxHeartbeats 2000000 in
theorem put_any (lo g n c : Nat) (xs : List Int) (x : Int) (w : World) (h : w.ownsRow lo 3 1 (.slice (some ⟨g, 0, none⟩) n c) n (xs.map (Value.int .i64))) (hn : n ≤ 1048576) :
    Calls Try.prog 82 #[.slice (some ⟨g, 0, none⟩) n c, .int .i64 x] w fun e w' => PutRes w w' lo xs x e := by
  have hl : xs.length = n := by have := h.1; simpa using this
  obtain ⟨hlo, hg⟩ := h.lt g rfl
  have hlo' : lo ≤ w.heap.size := by omega
  obtain ⟨hnc, hcm⟩ : n ≤ c ∧ c ≤ maxLen := by
    rcases h.2 with ⟨h1, _⟩ | ⟨_, _, _, e, _, _, q1, q2, _⟩
    · cases h1
    · cases e; exact ⟨q1, q2⟩
  unfold maxLen at hcm
  have hc : CellsAt w g xs := fun j y hy => by
    have hj : j < n := by have := (List.getElem?_eq_some_iff.1 hy).1; omega
    rw [h.cellAt j (by omega), List.getElem?_map, hy]; rfl
  have HC := Lib.hid hc
  have HO := Lib.hid h
  have HL := Lib.hid hl
  clear h hl hc
  go_enter Try.func82, Try.ntmps82
  go_wp2
  go_loop [5] (fun i => ∃ k : Nat, k ≤ n ∧ i = .int .i64 (k : Int) ∧ Hid (∀ j y, j < k → xs[j]? = some y → y < x)) (fun i => n - (intOf i).toNat)
  case atStart => exact ⟨0, Nat.zero_le _, rfl, fun j y hj => by omega⟩
  case round =>
    obtain ⟨k, hk, rfl, HA⟩ := hrel
    have hkc : (k : Int) ≤ (c : Int) := by omega
    by_cases hlt : k < n
    · have hck : ¬ c = k := by omega
      obtain ⟨y, hy⟩ := get_of_lt HL.out hlt
      have hcell := HC.out k y hy
      have HY := Lib.hid hy
      clear hy
      by_cases hyx : y < x
      · go_wp2
        go_round
        case rel =>
          refine ⟨k + 1, by omega, by go_num, fun j z hj hz => ?_⟩
          by_cases hjk : j = k
          · subst hjk
            have := HY.out.symm.trans hz
            injection this with this
            omega
          · exact HA.out j z (by omega) hz
        case measure => simp [intOf]; omega
      · by_cases hye : y = x
        · subst hye
          have HP := Lib.hid (putR_here HA.out HY.out)
          have he : (y == y) = true := by simp
          go_wp2
          go_ret
          exact ⟨g, n, c, rfl, by rw [HP.out, HL.out], by rw [HP.out]; exact HO.out, Below.refl _ _⟩
        · have he : (y == x) = false := by rw [beq_eq_false_iff_ne]; exact hye
          have HP := Lib.hid (putR_new (xs := xs) (n := x) (k := k) (by have := HL.out; omega) HA.out (fun z hz => by
            have := HY.out.symm.trans hz
            injection this with this
            omega))
          have HTk : Hid ((xs.take k).length = k) := by unfold Hid; rw [List.length_take, HL.out]; omega
          have HDk : Hid ((xs.drop k).length = n - k) := by unfold Hid; rw [List.length_drop, HL.out]
          go_wp2_with fail
          have tokA : True := trivial
          have tokB : True := trivial
          go_region_held3 (fun w' => Below w.heap.size w w') (first | (exact BC.out) | (exact BB.out) | (exact BA.out) | ((repeat (first | assumption | exact Below.refl _ _ | exact BB.out | exact BA.out | apply keep_drew | apply keep_alloc)); done)) ((first | (have _t := tokA; clear tokA _t; refine step_append_ints0 ?_ _ _ rfl w.heap.size w.heap.size 0 ?_ ?_ ⟨g, 0, none⟩ k c (xs.take k) ?_ HTk.out ?_ ?_ ?_ ?_; (focus (rfl; done)); (focus (rfl; done)); (focus ((first | exact own_nil_lit _ (Nat.le_refl _) | exact (own_nil_lit _ (Nat.le_refl _)).alloc _ | (have h_ := own_nil_lit (w.drew.alloc (.cells #[.int .i64 x] 3)) (base := w.heap.size) (by simp); rw [World.size_alloc] at h_; exact h_)); done)); (focus (rfl; done)); (focus (refine (HC.out.below ?_).take; (repeat (first | assumption | exact Below.refl _ _ | exact BB.out | exact BA.out | apply keep_drew | apply keep_alloc)); done)); (focus (omega; done)); (focus (refine Below.size (B := w.heap.size) ?_; (repeat (first | assumption | exact Below.refl _ _ | exact BB.out | exact BA.out | apply keep_drew | apply keep_alloc)); done)); intro gA cA wA hA hgA hatA; have BA := Lib.hid (below_grown hgA (by (repeat (first | assumption | exact Below.refl _ _ | exact BB.out | exact BA.out | apply keep_drew | apply keep_alloc))) (by simp)); have HA_ := Lib.hid hA; have HG_ := Lib.hid hgA; have hgAl := (hA.lt gA rfl).1; clear hA hgA hatA) | (have _t := tokA; clear tokA _t; refine step_append_ints0 ?_ _ _ rfl w.heap.size (w.heap.size + 1) 0 ?_ ?_ ⟨g, 0, none⟩ k c (xs.take k) ?_ HTk.out ?_ ?_ ?_ ?_; (focus (rfl; done)); (focus (rfl; done)); (focus ((first | exact own_nil_lit _ (Nat.le_refl _) | exact (own_nil_lit _ (Nat.le_refl _)).alloc _ | (have h_ := own_nil_lit (w.drew.alloc (.cells #[.int .i64 x] 3)) (base := w.heap.size) (by simp); rw [World.size_alloc] at h_; exact h_)); done)); (focus (rfl; done)); (focus (refine (HC.out.below ?_).take; (repeat (first | assumption | exact Below.refl _ _ | exact BB.out | exact BA.out | apply keep_drew | apply keep_alloc)); done)); (focus (omega; done)); (focus (refine Below.size (B := w.heap.size) ?_; (repeat (first | assumption | exact Below.refl _ _ | exact BB.out | exact BA.out | apply keep_drew | apply keep_alloc)); done)); intro gA cA wA hA hgA hatA; have BA := Lib.hid (below_grown hgA (by (repeat (first | assumption | exact Below.refl _ _ | exact BB.out | exact BA.out | apply keep_drew | apply keep_alloc))) (by simp)); have HA_ := Lib.hid hA; have HG_ := Lib.hid hgA; have hgAl := (hA.lt gA rfl).1; clear hA hgA hatA) | (have _t := HA_; have _s := tokB; clear tokB _t _s; refine step_append_ints ?_ _ _ rfl w.heap.size gA k cA (xs.take k) ?_ ?_ ⟨wA.heap.size, 0, none⟩ 1 1 [x] ?_ rfl ?_ ?_ ?_ ?_; (focus (rfl; done)); (focus (rfl; done)); (focus ((first | exact HA_.out | exact HA_.out.alloc _); done)); (focus (rfl; done)); (focus (refine one_at ?_; (first | (simp; done) | (refine HG_.out.cell ?_ ?_; (focus (go_simp; done)); (focus (simp; done)))); done)); (focus (omega; done)); (focus (refine Below.size (B := w.heap.size) ?_; (repeat (first | assumption | exact Below.refl _ _ | exact BB.out | exact BA.out | apply keep_drew | apply keep_alloc)); done)); intro gB cB wB hB hgB hatB; have BB := Lib.hid (below_grown hgB (by (repeat (first | assumption | exact Below.refl _ _ | exact BB.out | exact BA.out | apply keep_drew | apply keep_alloc))) hgAl); have HB_ := Lib.hid hB; have hgBl := (hB.lt gB rfl).1; clear hB hgB hatB) | (have _t := HA_; have _s := tokB; clear tokB _t _s; refine step_append_ints ?_ _ _ rfl w.heap.size gA k cA (xs.take k) ?_ ?_ ⟨w.heap.size + 1, 0, none⟩ 1 1 [x] ?_ rfl ?_ ?_ ?_ ?_; (focus (rfl; done)); (focus (rfl; done)); (focus ((first | exact HA_.out | exact HA_.out.alloc _); done)); (focus (rfl; done)); (focus (refine one_at ?_; (first | (simp; done) | (refine HG_.out.cell ?_ ?_; (focus (go_simp; done)); (focus (simp; done)))); done)); (focus (omega; done)); (focus (refine Below.size (B := w.heap.size) ?_; (repeat (first | assumption | exact Below.refl _ _ | exact BB.out | exact BA.out | apply keep_drew | apply keep_alloc)); done)); intro gB cB wB hB hgB hatB; have BB := Lib.hid (below_grown hgB (by (repeat (first | assumption | exact Below.refl _ _ | exact BB.out | exact BA.out | apply keep_drew | apply keep_alloc))) hgAl); have HB_ := Lib.hid hB; have hgBl := (hB.lt gB rfl).1; clear hB hgB hatB) | (have _t := HA_; have _s := tokB; clear tokB _t _s; refine step_append_ints ?_ _ _ rfl w.heap.size gA k cA (xs.take k) ?_ ?_ ⟨w.heap.size, 0, none⟩ 1 1 [x] ?_ rfl ?_ ?_ ?_ ?_; (focus (rfl; done)); (focus (rfl; done)); (focus ((first | exact HA_.out | exact HA_.out.alloc _); done)); (focus (rfl; done)); (focus (refine one_at ?_; (first | (simp; done) | (refine HG_.out.cell ?_ ?_; (focus (go_simp; done)); (focus (simp; done)))); done)); (focus (omega; done)); (focus (refine Below.size (B := w.heap.size) ?_; (repeat (first | assumption | exact Below.refl _ _ | exact BB.out | exact BA.out | apply keep_drew | apply keep_alloc)); done)); intro gB cB wB hB hgB hatB; have BB := Lib.hid (below_grown hgB (by (repeat (first | assumption | exact Below.refl _ _ | exact BB.out | exact BA.out | apply keep_drew | apply keep_alloc))) hgAl); have HB_ := Lib.hid hB; have hgBl := (hB.lt gB rfl).1; clear hB hgB hatB) | (have _t := HB_; clear _t; refine step_append_ints ?_ _ _ rfl w.heap.size gB (k + 1) cB (xs.take k ++ [x]) ?_ HB_.out ⟨g, k, none⟩ (n - k) (c - k) (xs.drop k) ?_ ?_ ?_ ?_ ?_ ?_; (focus (rfl; done)); (focus (rfl; done)); (focus (rfl; done)); (focus ((first | exact HDk.out | (rw [HDk.out]; simp; done)); done)); (focus ((first | exact (HC.out.below BB.out).drop | (intro j y hj; rw [HD0.out] at hj; simp at hj; done)); done)); (focus (omega; done)); (focus (exact Below.size BB.out)); intro gC cC wC hC hgC hatC; have BC := Lib.hid (below_grown hgC BB.out hgBl); have HC_ := Lib.hid hC; clear hC hgC hatC)))
          all_goals
            go_wp2_with fail
            go_ret
            refine ⟨gC, _, cC, rfl, ?_, ?_, BC.out⟩
            · rw [HP.out, List.length_append, List.length_append, HTk.out, HDk.out]; simp
            · rw [HP.out]
              exact ownsRow_base HC_.out hlo'
    · obtain rfl : k = n := by omega
      have HP := Lib.hid (putR_new (xs := xs) (n := x) (k := k) (by have := HL.out; omega) HA.out (fun z hz => by
        rw [List.getElem?_eq_none (by have := HL.out; omega)] at hz
        cases hz))
      have HTk : Hid ((xs.take k).length = k) := by unfold Hid; rw [List.length_take, HL.out]; omega
      have HD0 : Hid (xs.drop k = []) := List.drop_of_length_le (by have := HL.out; omega)
      have HDk : Hid ((xs.drop k).length = k - k) := by unfold Hid; rw [HD0.out, Nat.sub_self]; rfl
      rcases Nat.lt_or_ge k c with hkc2 | hkc2
      · have hkc3 : (k : Int) < (c : Int) := by omega
        have hck : ¬ c = k := by omega
        go_wp2_with fail
        have tokA : True := trivial
        have tokB : True := trivial
        go_region_held3 (fun w' => Below w.heap.size w w') (first | (exact BC.out) | (exact BB.out) | (exact BA.out) | ((repeat (first | assumption | exact Below.refl _ _ | exact BB.out | exact BA.out | apply keep_drew | apply keep_alloc)); done)) ((first | (have _t := tokA; clear tokA _t; refine step_append_ints0 ?_ _ _ rfl w.heap.size w.heap.size 0 ?_ ?_ ⟨g, 0, none⟩ k c (xs.take k) ?_ HTk.out ?_ ?_ ?_ ?_; (focus (rfl; done)); (focus (rfl; done)); (focus ((first | exact own_nil_lit _ (Nat.le_refl _) | exact (own_nil_lit _ (Nat.le_refl _)).alloc _ | (have h_ := own_nil_lit (w.drew.alloc (.cells #[.int .i64 x] 3)) (base := w.heap.size) (by simp); rw [World.size_alloc] at h_; exact h_)); done)); (focus (rfl; done)); (focus (refine (HC.out.below ?_).take; (repeat (first | assumption | exact Below.refl _ _ | exact BB.out | exact BA.out | apply keep_drew | apply keep_alloc)); done)); (focus (omega; done)); (focus (refine Below.size (B := w.heap.size) ?_; (repeat (first | assumption | exact Below.refl _ _ | exact BB.out | exact BA.out | apply keep_drew | apply keep_alloc)); done)); intro gA cA wA hA hgA hatA; have BA := Lib.hid (below_grown hgA (by (repeat (first | assumption | exact Below.refl _ _ | exact BB.out | exact BA.out | apply keep_drew | apply keep_alloc))) (by simp)); have HA_ := Lib.hid hA; have HG_ := Lib.hid hgA; have hgAl := (hA.lt gA rfl).1; clear hA hgA hatA) | (have _t := tokA; clear tokA _t; refine step_append_ints0 ?_ _ _ rfl w.heap.size (w.heap.size + 1) 0 ?_ ?_ ⟨g, 0, none⟩ k c (xs.take k) ?_ HTk.out ?_ ?_ ?_ ?_; (focus (rfl; done)); (focus (rfl; done)); (focus ((first | exact own_nil_lit _ (Nat.le_refl _) | exact (own_nil_lit _ (Nat.le_refl _)).alloc _ | (have h_ := own_nil_lit (w.drew.alloc (.cells #[.int .i64 x] 3)) (base := w.heap.size) (by simp); rw [World.size_alloc] at h_; exact h_)); done)); (focus (rfl; done)); (focus (refine (HC.out.below ?_).take; (repeat (first | assumption | exact Below.refl _ _ | exact BB.out | exact BA.out | apply keep_drew | apply keep_alloc)); done)); (focus (omega; done)); (focus (refine Below.size (B := w.heap.size) ?_; (repeat (first | assumption | exact Below.refl _ _ | exact BB.out | exact BA.out | apply keep_drew | apply keep_alloc)); done)); intro gA cA wA hA hgA hatA; have BA := Lib.hid (below_grown hgA (by (repeat (first | assumption | exact Below.refl _ _ | exact BB.out | exact BA.out | apply keep_drew | apply keep_alloc))) (by simp)); have HA_ := Lib.hid hA; have HG_ := Lib.hid hgA; have hgAl := (hA.lt gA rfl).1; clear hA hgA hatA) | (have _t := HA_; have _s := tokB; clear tokB _t _s; refine step_append_ints ?_ _ _ rfl w.heap.size gA k cA (xs.take k) ?_ ?_ ⟨wA.heap.size, 0, none⟩ 1 1 [x] ?_ rfl ?_ ?_ ?_ ?_; (focus (rfl; done)); (focus (rfl; done)); (focus ((first | exact HA_.out | exact HA_.out.alloc _); done)); (focus (rfl; done)); (focus (refine one_at ?_; (first | (simp; done) | (refine HG_.out.cell ?_ ?_; (focus (go_simp; done)); (focus (simp; done)))); done)); (focus (omega; done)); (focus (refine Below.size (B := w.heap.size) ?_; (repeat (first | assumption | exact Below.refl _ _ | exact BB.out | exact BA.out | apply keep_drew | apply keep_alloc)); done)); intro gB cB wB hB hgB hatB; have BB := Lib.hid (below_grown hgB (by (repeat (first | assumption | exact Below.refl _ _ | exact BB.out | exact BA.out | apply keep_drew | apply keep_alloc))) hgAl); have HB_ := Lib.hid hB; have hgBl := (hB.lt gB rfl).1; clear hB hgB hatB) | (have _t := HA_; have _s := tokB; clear tokB _t _s; refine step_append_ints ?_ _ _ rfl w.heap.size gA k cA (xs.take k) ?_ ?_ ⟨w.heap.size + 1, 0, none⟩ 1 1 [x] ?_ rfl ?_ ?_ ?_ ?_; (focus (rfl; done)); (focus (rfl; done)); (focus ((first | exact HA_.out | exact HA_.out.alloc _); done)); (focus (rfl; done)); (focus (refine one_at ?_; (first | (simp; done) | (refine HG_.out.cell ?_ ?_; (focus (go_simp; done)); (focus (simp; done)))); done)); (focus (omega; done)); (focus (refine Below.size (B := w.heap.size) ?_; (repeat (first | assumption | exact Below.refl _ _ | exact BB.out | exact BA.out | apply keep_drew | apply keep_alloc)); done)); intro gB cB wB hB hgB hatB; have BB := Lib.hid (below_grown hgB (by (repeat (first | assumption | exact Below.refl _ _ | exact BB.out | exact BA.out | apply keep_drew | apply keep_alloc))) hgAl); have HB_ := Lib.hid hB; have hgBl := (hB.lt gB rfl).1; clear hB hgB hatB) | (have _t := HA_; have _s := tokB; clear tokB _t _s; refine step_append_ints ?_ _ _ rfl w.heap.size gA k cA (xs.take k) ?_ ?_ ⟨w.heap.size, 0, none⟩ 1 1 [x] ?_ rfl ?_ ?_ ?_ ?_; (focus (rfl; done)); (focus (rfl; done)); (focus ((first | exact HA_.out | exact HA_.out.alloc _); done)); (focus (rfl; done)); (focus (refine one_at ?_; (first | (simp; done) | (refine HG_.out.cell ?_ ?_; (focus (go_simp; done)); (focus (simp; done)))); done)); (focus (omega; done)); (focus (refine Below.size (B := w.heap.size) ?_; (repeat (first | assumption | exact Below.refl _ _ | exact BB.out | exact BA.out | apply keep_drew | apply keep_alloc)); done)); intro gB cB wB hB hgB hatB; have BB := Lib.hid (below_grown hgB (by (repeat (first | assumption | exact Below.refl _ _ | exact BB.out | exact BA.out | apply keep_drew | apply keep_alloc))) hgAl); have HB_ := Lib.hid hB; have hgBl := (hB.lt gB rfl).1; clear hB hgB hatB) | (have _t := HB_; clear _t; refine step_append_ints ?_ _ _ rfl w.heap.size gB (k + 1) cB (xs.take k ++ [x]) ?_ HB_.out ⟨g, k, none⟩ (k - k) (c - k) (xs.drop k) ?_ ?_ ?_ ?_ ?_ ?_; (focus (rfl; done)); (focus (rfl; done)); (focus (rfl; done)); (focus ((first | exact HDk.out | (rw [HDk.out]; simp; done)); done)); (focus ((first | exact (HC.out.below BB.out).drop | (intro j y hj; rw [HD0.out] at hj; simp at hj; done)); done)); (focus (omega; done)); (focus (exact Below.size BB.out)); intro gC cC wC hC hgC hatC; have BC := Lib.hid (below_grown hgC BB.out hgBl); have HC_ := Lib.hid hC; clear hC hgC hatC) | (have _t := HB_; clear _t; refine step_append_ints ?_ _ _ rfl w.heap.size gB (k + 1) cB (xs.take k ++ [x]) ?_ HB_.out ⟨g, k, none⟩ 0 (c - k) (xs.drop k) ?_ ?_ ?_ ?_ ?_ ?_; (focus (rfl; done)); (focus (rfl; done)); (focus (rfl; done)); (focus ((first | exact HDk.out | (rw [HDk.out]; simp; done)); done)); (focus ((first | exact (HC.out.below BB.out).drop | (intro j y hj; rw [HD0.out] at hj; simp at hj; done)); done)); (focus (omega; done)); (focus (exact Below.size BB.out)); intro gC cC wC hC hgC hatC; have BC := Lib.hid (below_grown hgC BB.out hgBl); have HC_ := Lib.hid hC; clear hC hgC hatC)))
        all_goals
          go_wp2_with fail
          go_ret
          refine ⟨gC, _, cC, rfl, ?_, ?_, BC.out⟩
          · rw [HP.out, List.length_append, List.length_append, HTk.out, HDk.out]; simp
          · rw [HP.out]
            exact ownsRow_base HC_.out hlo'
      · obtain rfl : k = c := by omega
        go_wp2_with fail
        have tokA : True := trivial
        have tokB : True := trivial
        go_region_held3 (fun w' => Below w.heap.size w w') (first | (exact BC.out) | (exact BB.out) | (exact BA.out) | ((repeat (first | assumption | exact Below.refl _ _ | exact BB.out | exact BA.out | apply keep_drew | apply keep_alloc)); done)) ((first | (have _t := tokA; clear tokA _t; refine step_append_ints0 ?_ _ _ rfl w.heap.size w.heap.size 0 ?_ ?_ ⟨g, 0, none⟩ k k (xs.take k) ?_ HTk.out ?_ ?_ ?_ ?_; (focus (rfl; done)); (focus (rfl; done)); (focus ((first | exact own_nil_lit _ (Nat.le_refl _) | exact (own_nil_lit _ (Nat.le_refl _)).alloc _ | (have h_ := own_nil_lit (w.drew.alloc (.cells #[.int .i64 x] 3)) (base := w.heap.size) (by simp); rw [World.size_alloc] at h_; exact h_)); done)); (focus (rfl; done)); (focus (refine (HC.out.below ?_).take; (repeat (first | assumption | exact Below.refl _ _ | exact BB.out | exact BA.out | apply keep_drew | apply keep_alloc)); done)); (focus (omega; done)); (focus (refine Below.size (B := w.heap.size) ?_; (repeat (first | assumption | exact Below.refl _ _ | exact BB.out | exact BA.out | apply keep_drew | apply keep_alloc)); done)); intro gA cA wA hA hgA hatA; have BA := Lib.hid (below_grown hgA (by (repeat (first | assumption | exact Below.refl _ _ | exact BB.out | exact BA.out | apply keep_drew | apply keep_alloc))) (by simp)); have HA_ := Lib.hid hA; have HG_ := Lib.hid hgA; have hgAl := (hA.lt gA rfl).1; clear hA hgA hatA) | (have _t := tokA; clear tokA _t; refine step_append_ints0 ?_ _ _ rfl w.heap.size (w.heap.size + 1) 0 ?_ ?_ ⟨g, 0, none⟩ k k (xs.take k) ?_ HTk.out ?_ ?_ ?_ ?_; (focus (rfl; done)); (focus (rfl; done)); (focus ((first | exact own_nil_lit _ (Nat.le_refl _) | exact (own_nil_lit _ (Nat.le_refl _)).alloc _ | (have h_ := own_nil_lit (w.drew.alloc (.cells #[.int .i64 x] 3)) (base := w.heap.size) (by simp); rw [World.size_alloc] at h_; exact h_)); done)); (focus (rfl; done)); (focus (refine (HC.out.below ?_).take; (repeat (first | assumption | exact Below.refl _ _ | exact BB.out | exact BA.out | apply keep_drew | apply keep_alloc)); done)); (focus (omega; done)); (focus (refine Below.size (B := w.heap.size) ?_; (repeat (first | assumption | exact Below.refl _ _ | exact BB.out | exact BA.out | apply keep_drew | apply keep_alloc)); done)); intro gA cA wA hA hgA hatA; have BA := Lib.hid (below_grown hgA (by (repeat (first | assumption | exact Below.refl _ _ | exact BB.out | exact BA.out | apply keep_drew | apply keep_alloc))) (by simp)); have HA_ := Lib.hid hA; have HG_ := Lib.hid hgA; have hgAl := (hA.lt gA rfl).1; clear hA hgA hatA) | (have _t := HA_; have _s := tokB; clear tokB _t _s; refine step_append_ints ?_ _ _ rfl w.heap.size gA k cA (xs.take k) ?_ ?_ ⟨wA.heap.size, 0, none⟩ 1 1 [x] ?_ rfl ?_ ?_ ?_ ?_; (focus (rfl; done)); (focus (rfl; done)); (focus ((first | exact HA_.out | exact HA_.out.alloc _); done)); (focus (rfl; done)); (focus (refine one_at ?_; (first | (simp; done) | (refine HG_.out.cell ?_ ?_; (focus (go_simp; done)); (focus (simp; done)))); done)); (focus (omega; done)); (focus (refine Below.size (B := w.heap.size) ?_; (repeat (first | assumption | exact Below.refl _ _ | exact BB.out | exact BA.out | apply keep_drew | apply keep_alloc)); done)); intro gB cB wB hB hgB hatB; have BB := Lib.hid (below_grown hgB (by (repeat (first | assumption | exact Below.refl _ _ | exact BB.out | exact BA.out | apply keep_drew | apply keep_alloc))) hgAl); have HB_ := Lib.hid hB; have hgBl := (hB.lt gB rfl).1; clear hB hgB hatB) | (have _t := HA_; have _s := tokB; clear tokB _t _s; refine step_append_ints ?_ _ _ rfl w.heap.size gA k cA (xs.take k) ?_ ?_ ⟨w.heap.size + 1, 0, none⟩ 1 1 [x] ?_ rfl ?_ ?_ ?_ ?_; (focus (rfl; done)); (focus (rfl; done)); (focus ((first | exact HA_.out | exact HA_.out.alloc _); done)); (focus (rfl; done)); (focus (refine one_at ?_; (first | (simp; done) | (refine HG_.out.cell ?_ ?_; (focus (go_simp; done)); (focus (simp; done)))); done)); (focus (omega; done)); (focus (refine Below.size (B := w.heap.size) ?_; (repeat (first | assumption | exact Below.refl _ _ | exact BB.out | exact BA.out | apply keep_drew | apply keep_alloc)); done)); intro gB cB wB hB hgB hatB; have BB := Lib.hid (below_grown hgB (by (repeat (first | assumption | exact Below.refl _ _ | exact BB.out | exact BA.out | apply keep_drew | apply keep_alloc))) hgAl); have HB_ := Lib.hid hB; have hgBl := (hB.lt gB rfl).1; clear hB hgB hatB) | (have _t := HA_; have _s := tokB; clear tokB _t _s; refine step_append_ints ?_ _ _ rfl w.heap.size gA k cA (xs.take k) ?_ ?_ ⟨w.heap.size, 0, none⟩ 1 1 [x] ?_ rfl ?_ ?_ ?_ ?_; (focus (rfl; done)); (focus (rfl; done)); (focus ((first | exact HA_.out | exact HA_.out.alloc _); done)); (focus (rfl; done)); (focus (refine one_at ?_; (first | (simp; done) | (refine HG_.out.cell ?_ ?_; (focus (go_simp; done)); (focus (simp; done)))); done)); (focus (omega; done)); (focus (refine Below.size (B := w.heap.size) ?_; (repeat (first | assumption | exact Below.refl _ _ | exact BB.out | exact BA.out | apply keep_drew | apply keep_alloc)); done)); intro gB cB wB hB hgB hatB; have BB := Lib.hid (below_grown hgB (by (repeat (first | assumption | exact Below.refl _ _ | exact BB.out | exact BA.out | apply keep_drew | apply keep_alloc))) hgAl); have HB_ := Lib.hid hB; have hgBl := (hB.lt gB rfl).1; clear hB hgB hatB) | (have _t := HB_; clear _t; refine step_append_ints ?_ _ _ rfl w.heap.size gB (k + 1) cB (xs.take k ++ [x]) ?_ HB_.out ⟨g, 0, none⟩ (k - k) (k - k) (xs.drop k) ?_ ?_ ?_ ?_ ?_ ?_; (focus (rfl; done)); (focus (rfl; done)); (focus (rfl; done)); (focus ((first | exact HDk.out | (rw [HDk.out]; simp; done)); done)); (focus ((first | exact (HC.out.below BB.out).drop | (intro j y hj; rw [HD0.out] at hj; simp at hj; done)); done)); (focus (omega; done)); (focus (exact Below.size BB.out)); intro gC cC wC hC hgC hatC; have BC := Lib.hid (below_grown hgC BB.out hgBl); have HC_ := Lib.hid hC; clear hC hgC hatC) | (have _t := HB_; clear _t; refine step_append_ints ?_ _ _ rfl w.heap.size gB (k + 1) cB (xs.take k ++ [x]) ?_ HB_.out ⟨g, 0, none⟩ 0 0 (xs.drop k) ?_ ?_ ?_ ?_ ?_ ?_; (focus (rfl; done)); (focus (rfl; done)); (focus (rfl; done)); (focus ((first | exact HDk.out | (rw [HDk.out]; simp; done)); done)); (focus ((first | exact (HC.out.below BB.out).drop | (intro j y hj; rw [HD0.out] at hj; simp at hj; done)); done)); (focus (omega; done)); (focus (exact Below.size BB.out)); intro gC cC wC hC hgC hatC; have BC := Lib.hid (below_grown hgC BB.out hgBl); have HC_ := Lib.hid hC; clear hC hgC hatC) | (have _t := HB_; clear _t; refine step_append_ints ?_ _ _ rfl w.heap.size gB (k + 1) cB (xs.take k ++ [x]) ?_ HB_.out ⟨g, k, none⟩ 0 0 (xs.drop k) ?_ ?_ ?_ ?_ ?_ ?_; (focus (rfl; done)); (focus (rfl; done)); (focus (rfl; done)); (focus ((first | exact HDk.out | (rw [HDk.out]; simp; done)); done)); (focus ((first | exact (HC.out.below BB.out).drop | (intro j y hj; rw [HD0.out] at hj; simp at hj; done)); done)); (focus (omega; done)); (focus (exact Below.size BB.out)); intro gC cC wC hC hgC hatC; have BC := Lib.hid (below_grown hgC BB.out hgBl); have HC_ := Lib.hid hC; clear hC hgC hatC) | (have _t := HB_; clear _t; refine step_append_ints ?_ _ _ rfl w.heap.size gB (k + 1) cB (xs.take k ++ [x]) ?_ HB_.out ⟨g, 0, none⟩ 0 k (xs.drop k) ?_ ?_ ?_ ?_ ?_ ?_; (focus (rfl; done)); (focus (rfl; done)); (focus (rfl; done)); (focus ((first | exact HDk.out | (rw [HDk.out]; simp; done)); done)); (focus ((first | exact (HC.out.below BB.out).drop | (intro j y hj; rw [HD0.out] at hj; simp at hj; done)); done)); (focus (omega; done)); (focus (exact Below.size BB.out)); intro gC cC wC hC hgC hatC; have BC := Lib.hid (below_grown hgC BB.out hgBl); have HC_ := Lib.hid hC; clear hC hgC hatC)))
        all_goals
          go_wp2_with fail
          go_ret
          refine ⟨gC, _, cC, rfl, ?_, ?_, BC.out⟩
          · rw [HP.out, List.length_append, List.length_append, HTk.out, HDk.out]; simp
          · rw [HP.out]
            exact ownsRow_base HC_.out hlo'

end Go.Proofs.Ytcmjkfcgekmomaa
