/-
  Contract: impl.foldTerm at the closures of DepthOf: the depth of a term. Conditions: the bounds that it names.
-/
import Derived.Test.YtmhlkopkcgmpjaaDepC
import Derived.Test.YtmhlkopkcgmpjaaMake
import Derived.Test.YtmhlkopkcgmpjaaNormL
namespace Go.Proofs.Ytmhlkopkcgmpjaa
open Go.RowKit Go.Shelf
set_option linter.unusedVariables false
set_option linter.unusedSimpArgs false
attribute [local go_sem] Oper.semAt_some

/-- What stands in memory when k rounds are over. -/
def FoldD (z : Int) (ao : Option Addr) (n c m s3 s4 Ba Bv : Nat) (w : World) (st : Nat → List Int) (k : Nat) (W : World) : Prop :=
  (W.cell? ⟨s3, 0, none⟩ = some (.int .i64 z) ∧ W.cell? ⟨s3, 1, none⟩ = some (.slice ao n c) ∧ W.cell? ⟨s3 + 1, 0, none⟩ = some (.func (.func 74) #[] #[]) ∧
    W.cell? ⟨s3 + 1 + 1, 0, none⟩ = some (.func (.func 75) #[] #[]) ∧ W.cell? ⟨s4, 0, none⟩ = some (.slice (some ⟨s3 + 1 + 1 + 1, 0, none⟩) m m) ∧
    (W.cell? ⟨s4 + 1, 0, none⟩ = some (.int .i64 ((m - (st k).length : Nat) : Int)) ∧ W.frozen? ⟨s4 + 1, 0, none⟩ = false) ∧
    (∀ j, j < m → ∃ v : Int, W.cell? ⟨s3 + 1 + 1 + 1, j, none⟩ = some (.int .i64 v) ∧ W.frozen? ⟨s3 + 1 + 1 + 1, j, none⟩ = false) ∧
    (∀ j v, (st k)[j]? = some v → W.cell? ⟨s3 + 1 + 1 + 1, m - (st k).length + j, none⟩ = some (.int .i64 v))) ∧
  Below s3 w W
theorem foldD_own (z : Int) (ao : Option Addr) (n c m s3 s4 Ba Bv : Nat) (w : World) (st : Nat → List Int) (B : Nat) (hs : s3 ≤ w.heap.size) (hB : s3 ≤ B) : OwnFrom B (FoldD z ao n c m s3 s4 Ba Bv w st) :=
  OwnFrom.and (Own.from (fun s A C row ⟨h0, h1, h2, h3, h4, ⟨h5, h6⟩, h7, h8⟩ hg hr =>
    ⟨cell_kept h0 hg hr, cell_kept h1 hg hr, cell_kept h2 hg hr, cell_kept h3 hg hr, cell_kept h4 hg hr, ⟨cell_kept h5 hg hr, (frozen_kept h5 hg hr).trans h6⟩,
      fun j hj => by obtain ⟨v, hv, hf⟩ := h7 j hj; exact ⟨v, cell_kept hv hg hr, (frozen_kept hv hg hr).trans hf⟩,
      fun j v hj => cell_kept (h8 j v hj) hg hr⟩) _) (ownFrom_below hs hB)

/-- The same with whatever stands in the top's cell. -/
def FoldQ (z : Int) (ao : Option Addr) (n c m s3 s4 Ba Bv : Nat) (w : World) (S : List Int) (W : World) : Prop :=
  (W.cell? ⟨s3, 0, none⟩ = some (.int .i64 z) ∧ W.cell? ⟨s3, 1, none⟩ = some (.slice ao n c) ∧ W.cell? ⟨s3 + 1, 0, none⟩ = some (.func (.func 74) #[] #[]) ∧
    W.cell? ⟨s3 + 1 + 1, 0, none⟩ = some (.func (.func 75) #[] #[]) ∧ W.cell? ⟨s4, 0, none⟩ = some (.slice (some ⟨s3 + 1 + 1 + 1, 0, none⟩) m m) ∧
    ((∃ u : Int, W.cell? ⟨s4 + 1, 0, none⟩ = some (.int .i64 u)) ∧ W.frozen? ⟨s4 + 1, 0, none⟩ = false) ∧
    (∀ j, j < m → ∃ v : Int, W.cell? ⟨s3 + 1 + 1 + 1, j, none⟩ = some (.int .i64 v) ∧ W.frozen? ⟨s3 + 1 + 1 + 1, j, none⟩ = false) ∧
    (∀ j v, S[j]? = some v → W.cell? ⟨s3 + 1 + 1 + 1, m - S.length + j, none⟩ = some (.int .i64 v))) ∧
  Below s3 w W
theorem set_other {W : World} {p q : Addr} {v : Value} (h : q.block ≠ p.block) : (W.setCell p v).cell? q = W.cell? q := World.cell?_of_block (Below.heap_setCell W p v q.block h)
theorem FoldQ.top {z : Int} {ao : Option Addr} {n c m s3 s4 Ba Bv : Nat} {w W : World} {S : List Int} (h : FoldQ z ao n c m s3 s4 Ba Bv w S W) (hs : s3 + 1 + 1 + 1 < s4) (x : Int) : FoldQ z ao n c m s3 s4 Ba Bv w S (W.setCell ⟨s4 + 1, 0, none⟩ (.int .i64 x)) ∧ (W.setCell ⟨s4 + 1, 0, none⟩ (.int .i64 x)).cell? ⟨s4 + 1, 0, none⟩ = some (.int .i64 x) := by
  obtain ⟨⟨h0, h1, h2, h3, h4, ⟨⟨u, h5⟩, h6⟩, h7, h8⟩, hB⟩ := h
  have hc : (W.setCell ⟨s4 + 1, 0, none⟩ (.int .i64 x)).cell? ⟨s4 + 1, 0, none⟩ = some (.int .i64 x) := World.cell?_setCell_same' _ _ _ (by rw [h5]; rfl)
  refine ⟨⟨⟨(set_other (by dsimp only; omega)).trans h0, (set_other (by dsimp only; omega)).trans h1, (set_other (by dsimp only; omega)).trans h2, (set_other (by dsimp only; omega)).trans h3, (set_other (by dsimp only; omega)).trans h4, ⟨⟨x, hc⟩, by rw [World.frozen?_setCell]; exact h6⟩, fun j hj => ?_, fun j v hj => (set_other (by dsimp only; omega)).trans (h8 j v hj)⟩, hB.setCell (p := ⟨s4 + 1, 0, none⟩) (by show _ ≤ s4 + 1; omega) _⟩, hc⟩
  obtain ⟨v, hv, hf⟩ := h7 j hj
  exact ⟨v, (set_other (by dsimp only; omega)).trans hv, by rw [World.frozen?_setCell]; exact hf⟩
theorem FoldQ.put {z : Int} {ao : Option Addr} {n c m s3 s4 Ba Bv : Nat} {w W : World} {S : List Int} (h : FoldQ z ao n c m s3 s4 Ba Bv w S W) (hs : s3 + 1 + 1 + 1 < s4) (r t k : Nat) (y : Int) (st : Nat → List Int) (hst : st k = y :: S.drop r) (hr : r ≤ S.length) (hSm : S.length - r + 1 ≤ m) (ht : t = m - (S.length - r + 1))
    (hS : S.length ≤ m) (hc : W.cell? ⟨s4 + 1, 0, none⟩ = some (.int .i64 (t : Int))) : FoldD z ao n c m s3 s4 Ba Bv w st k (W.setCell ⟨s3 + 1 + 1 + 1, t, none⟩ (.int .i64 y)) := by
  obtain ⟨⟨h0, h1, h2, h3, h4, ⟨_, h6⟩, h7, h8⟩, hB⟩ := h
  obtain ⟨u, hu, huf⟩ := h7 t (by omega)
  have hsame : (W.setCell ⟨s3 + 1 + 1 + 1, t, none⟩ (.int .i64 y)).cell? ⟨s3 + 1 + 1 + 1, t, none⟩ = some (.int .i64 y) := World.cell?_setCell_same' _ _ _ (by rw [hu]; rfl)
  have hlen : (st k).length = S.length - r + 1 := by rw [hst, List.length_cons, List.length_drop]
  have hfar : ∀ j, j ≠ t → (W.setCell ⟨s3 + 1 + 1 + 1, t, none⟩ (.int .i64 y)).cell? ⟨s3 + 1 + 1 + 1, j, none⟩ = W.cell? ⟨s3 + 1 + 1 + 1, j, none⟩ := fun j hj => World.cell?_setCell_other _ _ _ _ (fun e => hj (by injection e with _ h _; exact h.symm))
  refine ⟨⟨(set_other (by dsimp only; omega)).trans h0, (set_other (by dsimp only; omega)).trans h1, (set_other (by dsimp only; omega)).trans h2, (set_other (by dsimp only; omega)).trans h3, (set_other (by dsimp only; omega)).trans h4, ⟨?_, by rw [World.frozen?_setCell]; exact h6⟩, fun j hj => ?_, fun j v hj => ?_⟩, hB.setCell (p := ⟨s3 + 1 + 1 + 1, t, none⟩) (by show _ ≤ s3 + 1 + 1 + 1; omega) _⟩
  · rw [hlen, ← ht]; exact (set_other (by dsimp only; omega)).trans hc
  · by_cases hjt : j = t
    · subst hjt; exact ⟨y, hsame, by rw [World.frozen?_setCell]; exact huf⟩
    · obtain ⟨v, hv, hf⟩ := h7 j hj
      exact ⟨v, (hfar j hjt).trans hv, by rw [World.frozen?_setCell]; exact hf⟩
  · rw [hlen, ← ht]
    rw [hst] at hj
    cases j with
    | zero => simp at hj; subst hj; exact hsame
    | succ j =>
      rw [List.getElem?_cons_succ, List.getElem?_drop] at hj
      have hjl := (List.getElem?_eq_some_iff.1 hj).1
      rw [hfar (t + (j + 1)) (by omega), show t + (j + 1) = m - S.length + (r + j) by omega]
      exact h8 (r + j) v hj
theorem keep_set {B X : Nat} {W V : World} (h : KeepsOthers W V ∧ Keep B X W V) (p : Addr) (v : Value) (hp : B ≤ p.block) (hx : X ≠ p.block) : KeepsOthers W (V.setCell p v) ∧ Keep B X W (V.setCell p v) :=
  ⟨h.1.trans (KeepsOthers.setCell V p v), h.2.1.setCell hp v, (Below.heap_setCell V p v X hx).trans h.2.2⟩
theorem keep_drawn {B X : Nat} {W V : World} (h : KeepsOthers W V ∧ Keep B X W V) (q : Nat) : KeepsOthers W (V.drewN q) ∧ Keep B X W (V.drewN q) :=
  ⟨⟨h.1.size, h.1.same⟩, below_drewN h.2.1 q, h.2.2⟩
theorem FoldQ.drawn {z : Int} {ao : Option Addr} {n c m s3 s4 Ba Bv : Nat} {w W : World} {S : List Int} (h : FoldQ z ao n c m s3 s4 Ba Bv w S W) (q : Nat) : FoldQ z ao n c m s3 s4 Ba Bv w S (W.drewN q) :=
  ⟨⟨h.1.1, h.1.2.1, h.1.2.2.1, h.1.2.2.2.1, h.1.2.2.2.2.1, h.1.2.2.2.2.2.1, h.1.2.2.2.2.2.2.1, h.1.2.2.2.2.2.2.2⟩, below_drewN h.2 q⟩

theorem wrap_nat (q : Nat) (h : q ≤ 4) : wrap64 (q : Int) = (q : Int) := by unfold wrap64; omega

theorem make_ints (w : World) (n : Nat) (hn : n ≤ 1048576) : ∃ w', (Instr.makeSlice 25 (.int .i64 (n : Int)) (.int .i64 (n : Int))).run Try.prog w = .ok (.slice (some ⟨w.heap.size, 0, none⟩) n n) w' ∧
    w'.ownsRow w.heap.size 3 1 (.slice (some ⟨w.heap.size, 0, none⟩) n n) n ((List.replicate n (0 : Int)).map (Value.int .i64)) ∧ Below w.heap.size w w' := by
  obtain ⟨i0, hi0, hz0, hz1, hz2⟩ := info_parts Try.infoInt
  obtain ⟨w', hrun, r1, r2⟩ := run_make_full (P := Try.prog) w w.heap.size 25 3 i0 _ 1 Try.underlying25 hi0 hz0 hz1 .i64 .i64 n (by rw [hz2]; omega) (by unfold maxLen; omega) (Nat.le_refl _)
  refine ⟨w', hrun, ?_, (Below.refl _ _).grown r2 (Nat.le_refl _) (by intro k hk; cases hk)⟩
  rw [show (Value.int .i64 0).cells = #[Value.int .i64 0] from rfl, Nat.mul_one, toList_madeCells_one] at r1
  rw [List.map_replicate]
  exact r1

set_option maxRecDepth 100000 in
set_option maxHeartbeats 4000000 in
theorem foldD_any (lo hi lo2 hi2 : Nat) (z : Int) (ao bo : Option Addr) (n c m d : Nat) (fs : List OpD) (xs : List Int) (w : World) (hv : OView w lo hi ao n fs) (hhi : hi ≤ w.heap.size) (hok : algOkB z fs = true)
    (hx : IView w lo2 hi2 bo m xs) (hhi2 : hi2 ≤ w.heap.size) (h60 : xs.length ≤ 60) (hend : endA fs xs 0 = some xs.length) :
    Calls Try.prog 76 #[.agg #[.int .i64 z, .slice ao n c], .slice bo m d, .func (.func 74) #[] #[], .func (.func 75) #[] #[]] w
      fun e w' => e = .returned (.int .i64 (depT fs xs)) ∧ Below w.heap.size w w' := by
  have hl := hx.1
  have hm0 : 0 < m := by have := term_pos hend; omega
  have hm60 : m ≤ 60 := by omega
  obtain ⟨b, o, rfl, hbl, hbh, hcx⟩ := hx.at_ hm0
  obtain ⟨w3, hw3⟩ : ∃ w3, w3 = ((w.alloc (.cells #[.int .i64 z, .slice ao n c] 31)).alloc (.cells #[.func (.func 74) #[] #[]] 83)).alloc (.cells #[.func (.func 75) #[] #[]] 84) := ⟨_, rfl⟩
  obtain ⟨w4, hr4, ho4, hg4⟩ := make_ints w3 m (by omega)
  refine (callsIn_wide (n := 6)).1 ?_
  refine callsIn_of_wp_marks Try.func76 rfl trivial ?_ rfl
  simp only [Try.ntmps76, List.size_toArray, List.length_cons, List.length_nil, Nat.reduceAdd, Nat.reduceSub, Array.replicate_succ, Array.replicate_zero, List.push_toArray, List.append_toArray, List.nil_append, List.cons_append]
  rw [hw3] at hr4
  gi_wp2_with (refine ⟨trivial, ?_⟩; gi_at_call 105; refine (callsIn_wide.2 (backward_any _ _ _ _)).mono ?_; rintro e w' ⟨rfl, rfl⟩)
  have hB3 : Below w.heap.size w w3 := by
    rw [hw3]; exact (((Below.refl _ w).alloc (Nat.le_refl _) _).alloc (by simp) _).alloc (by simp; omega) _
  have hs3 : w3.heap.size = w.heap.size + 1 + 1 + 1 := by rw [hw3]; simp
  have hB4 : Below w.heap.size w w4 := hB3.trans (hg4.mono hB3.size)
  have hs4 : w.heap.size + 1 + 1 + 1 < w4.heap.size := by have := (own_lt ho4).2; omega
  rw [hs3] at ho4
  obtain ⟨W7, hW7⟩ : ∃ W7, W7 = ((w4.alloc (.cells #[.slice (some ⟨w.heap.size + 1 + 1 + 1, 0, none⟩) m m] 25)).alloc (.cells #[.int .i64 (m : Int)] 3)).alloc (.cells #[.slice (some ⟨b, o, none⟩) m d] 25) := ⟨_, rfl⟩
  have hB47 : Below w4.heap.size w4 W7 := by rw [hW7]; exact (((Below.refl _ w4).alloc (Nat.le_refl _) _).alloc (by simp) _).alloc (by simp; omega) _
  have hB7 : Below w.heap.size w W7 := hB4.trans (hB47.mono hB4.size)
  have hs7 : W7.heap.size = w4.heap.size + 1 + 1 + 1 := by rw [hW7]; simp
  have hX7 : W7.cell? ⟨w4.heap.size + 1 + 1, 0, none⟩ = some (.slice (some ⟨b, o, none⟩) m d) := by rw [hW7]; go_simp
  have c3 : ∀ {p : Addr} {v : Value}, w3.cell? p = some v → W7.cell? p = some v := fun h => cell_b hB47 (cell_b hg4 h)
  have d0 : W7.cell? ⟨w.heap.size, 0, none⟩ = some (.int .i64 z) := c3 (by rw [hw3]; go_simp)
  have d1 : W7.cell? ⟨w.heap.size, 1, none⟩ = some (.slice ao n c) := c3 (by rw [hw3]; go_simp)
  have d2 : W7.cell? ⟨w.heap.size + 1, 0, none⟩ = some (.func (.func 74) #[] #[]) := c3 (by rw [hw3]; go_simp)
  have d3 : W7.cell? ⟨w.heap.size + 1 + 1, 0, none⟩ = some (.func (.func 75) #[] #[]) := c3 (by rw [hw3]; go_simp)
  have d4 : W7.cell? ⟨w4.heap.size, 0, none⟩ = some (.slice (some ⟨w.heap.size + 1 + 1 + 1, 0, none⟩) m m) := by rw [hW7]; go_simp
  have d5 : W7.cell? ⟨w4.heap.size + 1, 0, none⟩ = some (.int .i64 (m : Int)) := by rw [hW7]; go_simp
  have d6 : W7.frozen? ⟨w4.heap.size + 1, 0, none⟩ = false := by rw [hW7]; go_simp
  have d7 : ∀ j, j < m → ∃ v : Int, W7.cell? ⟨w.heap.size + 1 + 1 + 1, j, none⟩ = some (.int .i64 v) ∧ W7.frozen? ⟨w.heap.size + 1 + 1 + 1, j, none⟩ = false := fun j hj =>
    ⟨0, cell_b hB47 (own_at ho4 (by rw [List.getElem?_replicate, if_pos hj])), (hB47.frozen (p := ⟨w.heap.size + 1 + 1 + 1, j, none⟩) hs4).trans (ho4.frozenAt j)⟩
  rw [← hW7]
  have hseq := back_seq 5 (w4.heap.size + 1 + 1) w.heap.size b o m d xs hl hm0 hm60 (by omega) W7 (by omega) hB7.size hX7 (fun j x hj => (hB7.cell (p := ⟨b, o + j, none⟩) (by show b < _; omega)).trans (hcx j x hj))
  have hI0 : FoldD z ao n c m w.heap.size w4.heap.size 0 0 w (fun k => dS fs (xs.drop (m - k))) 0 W7 := by
    have he : dS fs (xs.drop (m - 0)) = [] := dS_end (by omega)
    refine ⟨⟨d0, d1, d2, d3, d4, ⟨?_, d6⟩, d7, fun j v hj => ?_⟩, hB7⟩
    · dsimp only; rw [he]; exact d5
    · dsimp only at hj; rw [he] at hj; simp at hj
  have HCx := Lib.hid hcx
  have HV := Lib.hid hv
  have HEnd := Lib.hid hend
  have HOk := Lib.hid hok
  have HL := Lib.hid hl
  refine wpIn_rangeN rfl (by decide) (gf := 114) (lb := #[.pointer (some ⟨w4.heap.size + 1 + 1, 0, none⟩)]) rfl trivial (enters_of Try.func114 (by kernel_rfl) rfl)
    hseq hB7.size (by omega) (Below.refl _ _) (fun _ => rfl)
    (FoldD z ao n c m w.heap.size w4.heap.size 0 0 w (fun k => dS fs (xs.drop (m - k)))) (foldD_own _ _ _ _ _ _ _ _ _ _ _ _ (Nat.le_refl _) hB7.size) hI0
    (fun k => { tmps := #[.agg #[.int .i64 z, .slice ao n c], .slice (some ⟨b, o, none⟩) m d, .func (.func 74) #[] #[], .func (.func 75) #[] #[], .pointer (some ⟨w.heap.size, 0, none⟩), undef, .pointer (some ⟨w.heap.size + 1, 0, none⟩), .pointer (some ⟨w.heap.size + 1 + 1, 0, none⟩), .int .i64 0, .pointer (some ⟨w4.heap.size, 0, none⟩), .pointer (some ⟨w4.heap.size + 1, 0, none⟩), undef, .int .i64 (xs[m - 1 - k]?.getD 0), undef, undef, undef, .slice (some ⟨b, o, none⟩) m d, .int .i64 (m : Int), .slice (some ⟨w.heap.size + 1 + 1 + 1, 0, none⟩) m m, .slice (some ⟨b, o, none⟩) m d, .int .i64 (m : Int), .slice (some ⟨b, o, none⟩) m d, .func (.func 114) #[] #[.pointer (some ⟨w4.heap.size + 1 + 1, 0, none⟩)], .int .i64 ((m - 1 - k : Nat) : Int), .int .i64 (xs[m - 1 - k]?.getD 0), undef, undef, undef, undef, undef, undef, undef, undef, undef, undef, undef, undef, undef, undef, undef, undef, undef, undef, undef, undef, undef, undef, undef, undef, undef, undef, undef, undef, undef, undef, undef, undef, undef], defers := [] }) ?assign ?body ?done
  case assign =>
    intro l k W K hK
    unfold backEnc
    gi_wp2
    exact hK
  case body =>
    rintro l k W hk ⟨⟨i0, i1, i2, i3, i4, ⟨i5, i6⟩, i7, i8⟩, iB⟩
    obtain ⟨j, hj⟩ : ∃ j, j = m - 1 - k := ⟨_, rfl⟩
    have hjm : j < xs.length := by omega
    have hjk : m - k = j + 1 := by omega
    have hjk1 : m - (k + 1) = j := by omega
    have hx : xs[j]? = some (xs[j]'hjm) := List.getElem?_eq_getElem hjm
    obtain ⟨x, hxe⟩ : ∃ x, xs[j]'hjm = x := ⟨_, rfl⟩
    rw [hxe] at hx
    rw [← hj, show xs[j]?.getD 0 = x by rw [hx]; rfl]
    obtain ⟨S, hS⟩ : ∃ S, dS fs (xs.drop (j + 1)) = S := ⟨_, rfl⟩
    simp only [hjk, hS] at i5 i8
    have hSl : S.length ≤ k := by rw [← hS]; have := dS_le fs (xs.drop (j + 1)); rw [List.length_drop] at this; omega
    have hSin : ∀ v, v ∈ S → 0 ≤ v ∧ v ≤ 60 := fun v hv => by
      rw [← hS] at hv
      have h1_ := depS_bd fs _ v hv
      rw [List.length_drop] at h1_
      omega
    obtain ⟨bb, hbb⟩ := term_beh HOk.out HEnd.out hx
    have hroom := (dS_room HOk.out HEnd.out hx hbb).1
    rw [hS] at hroom
    have hnew : dS fs (xs.drop j) = gStep fs depLf depNd x S := by rw [dS_drop hx, hS]
    by_cases h0 : 0 ≤ x
    · obtain ⟨v, rfl⟩ : ∃ v : Nat, x = (v : Int) := ⟨x.toNat, by omega⟩
      have hnew2 : dS fs (xs.drop j) = 0 :: S := by rw [hnew, gStep, if_pos h0]; rfl
      have hleaf := leafD_any (v : Int) W
      have HLeaf := Lib.hid hleaf
      obtain ⟨t, ht⟩ : ∃ t : Nat, m - S.length = t + 1 := ⟨m - S.length - 1, by omega⟩
      rw [ht] at i5 i8
      obtain ⟨y, hy⟩ : ∃ y : Int, (0 : Int) = y := ⟨_, rfl⟩
      have hnew2 : dS fs (xs.drop j) = y :: S := by rw [← hy]; exact hnew2
      have HLeaf : Hid (Calls Try.prog 74 #[.int .i64 (v : Int)] W fun e w' => e = .returned (.int .i64 y) ∧ w' = W) := by rw [← hy]; exact HLeaf.out
      obtain ⟨u0, hu0, hf0⟩ := i7 t (by omega)
      have htm : (t : Int) < (m : Int) := by omega
      have hcast : ((t + 1 : Nat) : Int) = (t : Int) + 1 := by omega
      have I8 := Lib.hid i8
      have I7 := Lib.hid i7
      have e107 := enters_of Try.func74 (by kernel_rfl) rfl
      clear i7 i8 hleaf hx hxe hbb hroom hnew hy
      gi_wp2_with (refine ⟨trivial, ?_⟩; gi_at_call 74; refine (CallsIn.inRound l (callsIn_wide.2 HLeaf.out)).mono ?_; rintro e w' ⟨rfl, rfl⟩)
      have hP : FoldQ z ao n c m w.heap.size w4.heap.size 0 0 w S w' := ⟨⟨i0, i1, i2, i3, i4, ⟨⟨_, i5⟩, i6⟩, I7.out, by rw [ht]; exact I8.out⟩, iB⟩
      obtain ⟨hP2, hc2⟩ := hP.top hs4 (t : Int)
      have hK2 := keep_set (keep_set (B := w.heap.size) (X := w4.heap.size + 1 + 1) ⟨KeepsOthers.refl w', Keep.refl _ _ w'⟩ ⟨w4.heap.size + 1, 0, none⟩ (.int .i64 (t : Int)) (by dsimp only; omega) (by dsimp only; omega)) ⟨w.heap.size + 1 + 1 + 1, t, none⟩ (.int .i64 y) (by dsimp only; omega) (by dsimp only; omega)
      exact ⟨hK2.1, hK2.2, hP2.put hs4 0 t (k + 1) y _ (by (try dsimp only); rw [hjk1, hnew2]; rfl) (Nat.zero_le _) (by omega) (by omega) (by omega) hc2⟩
    · have hx0 : x < 0 := Int.not_le.1 h0
      have hb2 := hbb
      unfold beh at hb2
      rw [if_neg h0] at hb2
      obtain ⟨f, hf, rfl⟩ := Option.map_eq_some_iff.1 hb2
      obtain ⟨q, hq⟩ : ∃ q : Nat, -1 - x = (q : Int) := ⟨(-1 - x).toNat, by omega⟩
      rw [show (-1 - x).toNat = q by omega] at hf
      have hqn : q < n := by rw [← HV.out.1]; exact (List.getElem?_eq_some_iff.1 hf).1
      have hfo := (algOkB_of HOk.out).2.2 f (List.mem_of_getElem? hf)
      obtain ⟨r, hr⟩ : ∃ r : Nat, f.1 = (r : Int) := ⟨f.1.toNat, by have := (opOkB_of hfo).1; omega⟩
      rw [hr] at hroom
      have hrS : r ≤ S.length := by omega
      have hnew2 : dS fs (xs.drop j) = depNd x (S.take r) :: S.drop r := by
        rw [hnew, gStep, if_neg h0, arN, show (-1 - x).toNat = q by omega, show fs.getD q (0, []) = f by rw [List.getD_eq_getElem?_getD, hf]; rfl, hr]; rfl
      have hP : FoldQ z ao n c m w.heap.size w4.heap.size 0 0 w S W := ⟨⟨i0, i1, i2, i3, i4, ⟨⟨_, i5⟩, i6⟩, i7, i8⟩, iB⟩
      obtain ⟨t, ht⟩ : ∃ t : Nat, t = m - S.length := ⟨_, rfl⟩
      rw [← ht] at i5 i8
      obtain ⟨b2, o2, rfl, hbl2, hbh2, hc2⟩ := HV.out.at_ (by omega)
      obtain ⟨a2, m2, c2, k0, _, _, _, _⟩ := hc2 q f hf
      have k1 : W.cell? ⟨b2, o2 + q * 2, none⟩ = some (.int .i64 (r : Int)) := by rw [← hr]; exact (iB.cell (p := ⟨b2, _, none⟩) (by show b2 < _; omega)).trans k0
      obtain ⟨y, hy⟩ : ∃ y, depNd x (S.take r) = y := ⟨_, rfl⟩
      have hargs : IView W w.heap.size (w.heap.size + 1 + 1 + 1 + 1) (some ⟨w.heap.size + 1 + 1 + 1, t, none⟩) r (S.take r) := by
        refine ⟨by rw [List.length_take]; omega, .inr ⟨w.heap.size + 1 + 1 + 1, t, rfl, by omega, by omega, fun i v hi => ?_⟩⟩
        rw [List.getElem?_take] at hi
        split at hi
        · exact i8 i v hi
        · cases hi
      have hin2 : ∀ v, v ∈ S.take r → 0 ≤ v ∧ v ≤ 60 := fun v hv => hSin v (List.mem_of_mem_take hv)
      have hnode : ∀ (a_ : Option Addr) (d_ g1 g2 : Nat), IView W w.heap.size (w.heap.size + 1 + 1 + 1 + 1) a_ r (S.take r) → Calls Try.prog 75 #[.int .i64 (q : Int), .slice a_ r d_] (W.drewN (g1 + g2)) fun e w' => e = .returned (.int .i64 y) ∧ ∃ g, w' = W.drewN (g1 + g) := by
        intro a_ d_ g1 g2 hva
        have h_ := nodeD_any w.heap.size (w.heap.size + 1 + 1 + 1 + 1) r d_ (q : Int) a_ (S.take r) (W.drewN (g1 + g2)) (hva.kept (Kept.drewN _ _)) hin2 (by omega)
        rw [show depNd (q : Int) (S.take r) = y from hy] at h_
        exact h_.mono fun e w' ⟨he, hw⟩ => ⟨he, g2, by rw [← hw]⟩
      have HNode := Lib.hid hnode
      have HArgs := Lib.hid hargs
      have hqn' : (q : Int) < (n : Int) := by omega
      have hn4 : n ≤ 4 := by have := (algOkB_of HOk.out).2.1; have := HV.out.1; omega
      obtain ⟨en, hen⟩ : ∃ en : Nat, en = t + r := ⟨_, rfl⟩
      have hten : (t : Int) + (r : Int) = (en : Int) := by omega
      have hle1 : (t : Int) ≤ (en : Int) := by omega
      have hle2 : (en : Int) ≤ (m : Int) := by omega
      obtain ⟨t2, ht2⟩ : ∃ t2 : Nat, en = t2 + 1 ∨ (en = 0) := ⟨en - 1, by omega⟩
      have hen0 : en ≠ 0 := by
        have hroom2 := (dS_room HOk.out HEnd.out hx hbb).2
        rw [hS, hr] at hroom2
        have hle := dS_le fs (xs.drop j)
        rw [List.length_drop] at hle
        omega
      have hen2 : en = t2 + 1 := by omega
      have hcast : (en : Int) - 1 = (t2 : Int) := by omega
      obtain ⟨u0, hu0, hf0⟩ := i7 t2 (by omega)
      have ht2m : (t2 : Int) < (m : Int) := by omega
      have HP := Lib.hid hP
      rw [hy] at hnew2
      have Hnew := Lib.hid hnew2
      have e108 := enters_of Try.func75 (by kernel_rfl) rfl
      have hrd : en - t = r := by omega
      have HT := Lib.hid ht
      have HEn2 := Lib.hid hen2
      clear ht hen2 i7 i8 hx hxe hbb hnew hb2 hnode hargs hc2 k0 hfo hr hf hy hin2 hroom hen ht2 hen0 hP hnew2
      by_cases htm : m = t
      · have HR0 : Hid (r = 0) := by unfold Hid; have := HT.out; omega
        subst htm
        gi_wp2
        refine wpIn_region_round rfl l (by kernel_rfl) (by kernel_rfl) (by kernel_rfl) ?_
        repeat (gi_big_quiet_step (fail))
        refine wpQuietIn_nil ?_
        intro _ hw'
        obtain ⟨g1, hw''⟩ := hw'
        subst hw''
        gi_wp2
        refine wpIn_region_round rfl l (by kernel_rfl) (by kernel_rfl) (by kernel_rfl) ?_
        repeat (gi_big_quiet_step (fail))
        refine wpQuietIn_step (fun _ _ _ _ => trivial) (fun K hK => ?_)
        go_simp
        refine ⟨_, fun a => callsIn_wide.2 (HNode.out (some ⟨w.heap.size + 1 + 1 + 1, 0, none⟩) 0 g1 a ⟨by rw [List.length_take]; omega, .inl HR0.out⟩), hK _ ?_⟩
        clear hK K
        repeat (gi_big_quiet_step (fail))
        refine wpQuietIn_nil ?_
        intro _ hw'
        obtain ⟨g2, hw''⟩ := hw'
        subst hw''
        gi_wp2
        have ht_ := HT.out
        have hen_ := HEn2.out
        obtain ⟨hP2, _⟩ := (HP.out.drawn (g1 + g2)).top hs4 (en : Int)
        obtain ⟨hP3, hc3⟩ := hP2.top hs4 (t2 : Int)
        have hK0 : KeepsOthers W (W.drewN (g1 + g2)) ∧ Keep w.heap.size (w4.heap.size + 1 + 1) W (W.drewN (g1 + g2)) := keep_drawn ⟨KeepsOthers.refl W, Keep.refl _ _ W⟩ (g1 + g2)
        have hK2 := keep_set (keep_set (keep_set hK0 ⟨w4.heap.size + 1, 0, none⟩ (.int .i64 (en : Int)) (by dsimp only; omega) (by dsimp only; omega)) ⟨w4.heap.size + 1, 0, none⟩ (.int .i64 (t2 : Int)) (by dsimp only; omega) (by dsimp only; omega)) ⟨w.heap.size + 1 + 1 + 1, t2, none⟩ (.int .i64 y) (by dsimp only; omega) (by dsimp only; omega)
        exact ⟨hK2.1, hK2.2, hP3.put hs4 r t2 (k + 1) y _ (by (try dsimp only); rw [hjk1, Hnew.out]) hrS (by omega) (by omega) (by omega) hc3⟩
      · have htm' : (t : Int) < (m : Int) := by omega
        gi_wp2
        refine wpIn_region_round rfl l (by kernel_rfl) (by kernel_rfl) (by kernel_rfl) ?_
        repeat (gi_big_quiet_step (fail))
        refine wpQuietIn_nil ?_
        intro _ hw'
        obtain ⟨g1, hw''⟩ := hw'
        subst hw''
        gi_wp2
        refine wpIn_region_round rfl l (by kernel_rfl) (by kernel_rfl) (by kernel_rfl) ?_
        repeat (gi_big_quiet_step (fail))
        refine wpQuietIn_step (fun _ _ _ _ => trivial) (fun K hK => ?_)
        go_simp
        refine ⟨_, fun a => callsIn_wide.2 (HNode.out (some ⟨w.heap.size + 1 + 1 + 1, t, none⟩) (m - t) g1 a HArgs.out), hK _ ?_⟩
        clear hK K
        repeat (gi_big_quiet_step (fail))
        refine wpQuietIn_nil ?_
        intro _ hw'
        obtain ⟨g2, hw''⟩ := hw'
        subst hw''
        gi_wp2
        have ht_ := HT.out
        have hen_ := HEn2.out
        obtain ⟨hP2, _⟩ := (HP.out.drawn (g1 + g2)).top hs4 (en : Int)
        obtain ⟨hP3, hc3⟩ := hP2.top hs4 (t2 : Int)
        have hK0 : KeepsOthers W (W.drewN (g1 + g2)) ∧ Keep w.heap.size (w4.heap.size + 1 + 1) W (W.drewN (g1 + g2)) := keep_drawn ⟨KeepsOthers.refl W, Keep.refl _ _ W⟩ (g1 + g2)
        have hK2 := keep_set (keep_set (keep_set hK0 ⟨w4.heap.size + 1, 0, none⟩ (.int .i64 (en : Int)) (by dsimp only; omega) (by dsimp only; omega)) ⟨w4.heap.size + 1, 0, none⟩ (.int .i64 (t2 : Int)) (by dsimp only; omega) (by dsimp only; omega)) ⟨w.heap.size + 1 + 1 + 1, t2, none⟩ (.int .i64 y) (by dsimp only; omega) (by dsimp only; omega)
        exact ⟨hK2.1, hK2.2, hP3.put hs4 r t2 (k + 1) y _ (by (try dsimp only); rw [hjk1, Hnew.out]) hrS (by omega) (by omega) (by omega) hc3⟩
  case done =>
    rintro D W hD ⟨⟨i0, i1, i2, i3, i4, ⟨i5, i6⟩, i7, i8⟩, iB⟩ hK
    have h1 := dS_one HOk.out HEnd.out
    have hdr : xs.drop (m - m) = xs := by rw [Nat.sub_self]; rfl
    simp only [hdr] at i5 i8
    obtain ⟨y, hy⟩ : ∃ y, dS fs xs = [y] := List.length_eq_one_iff.1 h1
    rw [hy] at i5 i8
    have c8 := i8 0 y rfl
    simp only [List.length_cons, List.length_nil, Nat.zero_add, Nat.add_zero] at i5 c8
    have hev : depT fs xs = y := by show (dS fs xs).headD 0 = y; rw [hy]; rfl
    have hlt : ((m - 1 : Nat) : Int) < (m : Int) := by omega
    clear i7 i8 hdr hy h1
    gi_wp2
    refine ⟨by simp, .inl ⟨_, _, rfl, run_takeDeferred hK, ?_⟩⟩
    exact ⟨_, results_tmp rfl _ _ _, by rw [hev]; rfl, iB.trans (belowK_b (w := W7) hB7.size W D _ _ hD hK rfl rfl)⟩

end Go.Proofs.Ytmhlkopkcgmpjaa
