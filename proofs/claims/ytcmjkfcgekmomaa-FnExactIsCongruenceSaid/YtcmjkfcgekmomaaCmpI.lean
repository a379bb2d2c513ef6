/-
  Contract: impl.isCompatible. Conditions: the bounds that the theorem names.
-/
import Derived.Test.YtcmjkfcgekmomaaTrI
import Derived.Test.YtcmjkfcgekmomaaMrks
import Derived.Test.YtcmjkfcgekmomaaRange
import Derived.Test.YtcmjkfcgekmomaaPartK
import Derived.Deep.RegionHeld3
namespace Go.Proofs.Ytcmjkfcgekmomaa
open Go.RowKit Go.Shelf
set_option linter.unusedVariables false
set_option linter.unusedSimpArgs false
attribute [local go_sem] Oper.semAt_some

theorem wpIn_noPanic {F : Fence} {n : Nat} {P : Program} {c : Code} {Q : Exit → Act → World → Prop} {a : Act} {w : World} (h : c.wpIn F n P (NoPanic Q) a w) : c.wpIn F n P Q a w :=
  wpIn_mono h fun e a w hp => by cases e <;> first | exact hp | exact hp.elim

set_option maxRecDepth 100000 in
set_option maxHeartbeats 8000000 in
theorem isComp_any (lo hi z nn c : Nat) (ao : Option Addr) (fs : List OpD) (f : Nat → Int) (w : World) (hv : OView w lo hi ao nn fs) (hhi : hi ≤ w.heap.size) (hok : algOkB (z : Int) fs = true) (hf : ∀ x, x < z → 0 ≤ f x ∧ f x < z) :
    Calls Try.prog 117 #[.agg #[.int .i64 (z : Int), .slice ao nn c], .agg (arrV f)] w fun e w' => e = .returned (.bool (compK z fs f z)) ∧ Below w.heap.size w w' := by
  obtain ⟨⟨hz1, hz8⟩, hn4, hall⟩ := algOkB_of hok
  obtain ⟨w3, hw3⟩ : ∃ w3, w3 = ((w.alloc (.cells #[.int .i64 (z : Int), .slice ao nn c] 31)).alloc (.cells (arrV f) 70)).alloc (.cells #[.bool false] 4) := ⟨_, rfl⟩
  have HA0 : Hid (w3.heap[w.heap.size]? = some (.cells #[.int .i64 (z : Int), .slice ao nn c] 31 (0, 0))) := by
    unfold Hid; rw [hw3, Below.heap_alloc _ _ _ (by simp; omega), Below.heap_alloc _ _ _ (by simp)]; exact heap_alloc_new _ _
  have HP0 : Hid (ArrAt w3 (w.heap.size + 1) f) := by
    unfold Hid; rw [hw3]
    have h := ArrAt.new (w.alloc (.cells #[.int .i64 (z : Int), .slice ao nn c] 31)) f
    simp only [World.size_alloc] at h
    exact h.alloc _
  have HR0 : Hid (w3.heap[w.heap.size + 1 + 1]? = some (.cells #[.bool false] 4 (0, 0))) := by
    unfold Hid; rw [hw3]
    have h := heap_alloc_new ((w.alloc (.cells #[.int .i64 (z : Int), .slice ao nn c] 31)).alloc (.cells (arrV f) 70)) (.cells #[.bool false] 4)
    simp only [World.size_alloc] at h
    exact h
  have HB0 : Hid (Below w.heap.size w w3) := by unfold Hid; rw [hw3]; exact below_then (below_then (below_alloc _ _) (below_alloc _ _)) (below_alloc _ _)
  have hs3 : w3.heap.size = w.heap.size + 1 + 1 + 1 := by rw [hw3]; simp
  have HV := Lib.hid hv
  have HOk := Lib.hid hok
  have HFb := Lib.hid hf
  obtain ⟨cz0, ca0, _⟩ := box_cells HA0.out
  clear hv hok hf hall
  refine (callsIn_wide (n := 6)).1 ?_
  refine callsIn_of_wp_marks Try.func117 rfl trivial ?_ rfl
  simp only [Try.ntmps117, List.size_toArray, List.length_cons, List.length_nil, Nat.reduceAdd, Nat.reduceSub, Array.replicate_succ, Array.replicate_zero, List.push_toArray, List.append_toArray, List.nil_append, List.cons_append]
  gi_wp2
  rw [← hw3]
  have HK0 : Hid (compK z fs f 0 = true) := rfl
  clear hw3 cz0 ca0
  refine wpIn_loop (fun a' W => ∃ (k : Nat) (u5 u6 u7 u11 u12 u13 u14 u15 u16 u17 u18 u19 u20 u21 u22 u23 u24 u25 u26 u27 u28 : Value) (ds : List Deferred), (k ≤ z ∧ Hid (Marks w.heap.size W ds) ∧ Hid (compK z fs f k = true) ∧ Hid (W.heap[w.heap.size]? = some (.cells #[.int .i64 (z : Int), .slice ao nn c] 31 (0, 0))) ∧ Hid (ArrAt W (w.heap.size + 1) f) ∧ Hid (W.heap[w.heap.size + 1 + 1]? = some (.cells #[.bool false] 4 (0, 0))) ∧ Hid (Below w.heap.size w W)) ∧ a' = { tmps := #[.agg #[.int .i64 (z : Int), .slice ao nn c], .agg (arrV f), .pointer (some ⟨w.heap.size, 0, none⟩), .pointer (some ⟨w.heap.size + 1, 0, none⟩), .pointer (some ⟨w.heap.size + 1 + 1, 0, none⟩), u5, u6, u7, .pointer (some ⟨w.heap.size, 0, none⟩), .int .i64 (z : Int), .int .i64 (k : Int), u11, u12, u13, u14, u15, u16, u17, u18, u19, u20, u21, u22, u23, u24, u25, u26, u27, u28], defers := ds }) (fun a' _ => z - (intOf (a'.tmps.getD 10 undef)).toNat) ?start ?round
  case start => exact ⟨0, _, _, _, _, _, _, _, _, _, _, _, _, _, _, _, _, _, _, _, _, _, [], ⟨Nat.zero_le _, trivial, HK0, HA0, HP0, HR0, HB0⟩, rfl⟩
  case round =>
    rintro a' W ⟨k, u5, u6, u7, u11, u12, u13, u14, u15, u16, u17, u18, u19, u20, u21, u22, u23, u24, u25, u26, u27, u28, ds, ⟨hk, HMk, HC, HA, HP, HR, HB⟩, rfl⟩
    clear HK0 HA0 HP0 HR0 HB0
    obtain ⟨cz, ca, _⟩ := box_cells HA.out
    have hRlt := (Array.getElem?_eq_some_iff.1 HR.out).1
    by_cases hlt : k < z
    · have hkn : (k : Int) < (z : Int) := by omega
      have hk8 : (k : Int) < 8 := by omega
      obtain ⟨g0, g1⟩ := HFb.out k hlt
      obtain ⟨sk, hsk⟩ : ∃ sk : Nat, f k = (sk : Int) := ⟨(f k).toNat, by omega⟩
      have ek := HP.out.cell (k := k) (by omega)
      rw [hsk] at ek g1
      have hskz : sk < z := by omega
      have HSk := Lib.hid hsk
      have hS0 : (fun W_ => W_.cell? ⟨w.heap.size, 0, none⟩ = some (.int .i64 (z : Int)) ∧ W_.cell? ⟨w.heap.size, 1, none⟩ = some (.slice ao nn c) ∧ W_.cell? ⟨w.heap.size + 1, k, none⟩ = some (.int .i64 (sk : Int))) W.drew := ⟨cz, ca, ek⟩
      clear hsk g0 g1
      gi_wp2
      refine wpIn_noPanic ?_
      refine wpIn_region_S (fun W_ => W_.cell? ⟨w.heap.size, 0, none⟩ = some (.int .i64 (z : Int)) ∧ W_.cell? ⟨w.heap.size, 1, none⟩ = some (.slice ao nn c) ∧ W_.cell? ⟨w.heap.size + 1, k, none⟩ = some (.int .i64 (sk : Int))) 5 (by kernel_rfl) ?_
      refine wpAnyS_take (i := 0) (oi := ⟨_, _, _, _, _, _⟩) (v := ?_) [0, 5] rfl rfl (by decide) (by decide) (by kernel_rfl) (by kernel_rfl) (by kernel_rfl) (by kernel_rfl) (fun _ _ _ h => h) (Or.inl ⟨rfl, ?_⟩) (fun _ => rfl) hS0 ?_
      rotate_left 1
      · intro w_ hSw; (try dsimp only at hSw); go_simp; (try with_reducible rfl)
      (try simp only [Act.put, List.setIfInBounds_toArray, List.set_cons_zero, List.set_cons_succ])
      refine wpAnyS_take (i := 1) (oi := ⟨_, _, _, _, _, _⟩) (v := ?_) [1, 2, 3, 5] rfl rfl (by decide) (by decide) (by kernel_rfl) (by kernel_rfl) (by kernel_rfl) (by kernel_rfl) (fun _ _ _ h => h) (Or.inl ⟨rfl, ?_⟩) (fun _ => rfl) hS0 ?_
      rotate_left 1
      · intro w_ hSw; (try dsimp only at hSw); go_simp; (try with_reducible rfl)
      (try simp only [Act.put, List.setIfInBounds_toArray, List.set_cons_zero, List.set_cons_succ])
      refine wpAnyS_take (i := 2) (oi := ⟨_, _, _, _, _, _⟩) (v := ?_) [2, 3, 5] rfl rfl (by decide) (by decide) (by kernel_rfl) (by kernel_rfl) (by kernel_rfl) (by kernel_rfl) (fun _ _ _ h => h) (Or.inl ⟨rfl, ?_⟩) (fun _ => rfl) hS0 ?_
      rotate_left 1
      · intro w_ hSw; (try dsimp only at hSw); go_simp; (try with_reducible rfl)
      (try simp only [Act.put, List.setIfInBounds_toArray, List.set_cons_zero, List.set_cons_succ])
      refine wpAnyS_take (i := 3) (oi := ⟨_, _, _, _, _, _⟩) (v := ?_) [3, 5] rfl rfl (by decide) (by decide) (by kernel_rfl) (by kernel_rfl) (by kernel_rfl) (by kernel_rfl) (fun _ _ _ h => h) (Or.inl ⟨rfl, ?_⟩) (fun _ => rfl) hS0 ?_
      rotate_left 1
      · intro w_ hSw; (try dsimp only at hSw); go_simp; (try with_reducible rfl)
      (try simp only [Act.put, List.setIfInBounds_toArray, List.set_cons_zero, List.set_cons_succ])
      refine wpAnyS_take (i := 4) (oi := ⟨_, _, _, _, _, _⟩) (v := ?_) [4, 5] rfl rfl (by decide) (by decide) (by kernel_rfl) (by kernel_rfl) (by kernel_rfl) (by kernel_rfl) (fun _ _ _ h => h) (Or.inl ⟨rfl, ?_⟩) (fun _ => rfl) hS0 ?_
      rotate_left 1
      · intro w_ hSw; (try dsimp only at hSw); go_simp; (try with_reducible rfl)
      (try simp only [Act.put, List.setIfInBounds_toArray, List.set_cons_zero, List.set_cons_succ])
      refine wpAnyS_call (o := ⟨_, _, _, _, _, _⟩) (by kernel_rfl) rfl rfl (fun K hK => ?_)
      change Oper.wpIn _ _ _ _ _ W.drew _ _
      unfold Oper.wpIn
      refine ⟨fun _ _ => trivial, ?_⟩
      go_simp
      refine (callsIn_wide.2 (translations_any (z : Int) ao nn c (sk : Int) (k : Int) W.drew)).mono ?_
      rintro e w' ⟨rfl, rfl⟩
      refine hK _ _ ?_
      (try simp only [Act.put, List.setIfInBounds_toArray, List.set_cons_zero, List.set_cons_succ])
      refine wpAnyIn_done (by kernel_rfl) ?_ _
      refine NoPanic.normal ?_
      gi_wp2
      obtain ⟨X, hX⟩ : ∃ X, X = W.heap.size := ⟨_, rfl⟩
      obtain ⟨W5, hW5⟩ : ∃ W5, W5 = ((W.drew.alloc (.cells #[.int .i64 (z : Int), .slice ao nn c] 31)).alloc (.cells #[.int .i64 (sk : Int)] 3)).alloc (.cells #[.int .i64 (k : Int)] 3) := ⟨_, rfl⟩
      have hs5 : W5.heap.size = X + 3 := by rw [hW5, hX]; simp
      have HT5 : Hid (TrB W5 X z nn c sk k ao) := by
        unfold Hid
        rw [hW5, hX]
        refine ⟨?_, ?_, ?_⟩
        · rw [Below.heap_alloc _ _ _ (by simp; omega), Below.heap_alloc _ _ _ (by simp)]; exact heap_alloc_new W.drew _
        · rw [Below.heap_alloc _ _ _ (by simp)]
          have h := heap_alloc_new (W.drew.alloc (.cells #[.int .i64 (z : Int), .slice ao nn c] 31)) (.cells #[.int .i64 (sk : Int)] 3)
          simp only [World.size_alloc] at h
          exact h
        · have h := heap_alloc_new ((W.drew.alloc (.cells #[.int .i64 (z : Int), .slice ao nn c] 31)).alloc (.cells #[.int .i64 (sk : Int)] 3)) (.cells #[.int .i64 (k : Int)] 3)
          simp only [World.size_alloc] at h
          exact h
      have HB5 : Hid (Below W.heap.size W W5) := by unfold Hid; rw [hW5]; exact ((((Below.refl _ W).drew).alloc (Nat.le_refl _) _).alloc (by simp) _).alloc (by simp; omega) _
      have hBw : Below w.heap.size w W5 := HB.out.trans (HB5.out.mono HB.out.size)
      have HB6 := Lib.hid hBw
      have hsX : w.heap.size + 3 ≤ X := by rw [hX]; omega
      rw [← hW5]
      (try simp only [World.size_drew])
      rw [← hX]
      have hseq := trn_seq 5 X w.heap.size z nn c sk k lo hi ao fs W5 (by omega) (by omega) (HV.out.kept (Kept.of_below hBw hhi)) hhi HOk.out hskz hlt HT5.out
      clear hW5 hX cz ca ek hS0 hBw
      have HP5 : Hid (ArrAt W5 (w.heap.size + 1) f) := HP.out.below HB5.out HP.out.lt
      have HR5 : Hid (W5.heap[w.heap.size + 1 + 1]? = some (.cells #[.bool false] 4 (0, 0))) := (HB5.out.block _ hRlt).trans HR.out
      have HA5 : Hid (W5.heap[w.heap.size]? = some (.cells #[.int .i64 (z : Int), .slice ao nn c] 31 (0, 0))) := (HB5.out.block _ (by omega)).trans HA.out
      have HM5 : Hid (Marks w.heap.size W5 ds) := HMk.out.same fun D _ hm hd => (HB5.out.block D (HMk.out.lt hm)).trans hd
      refine wpIn_rangeFunc_ownG rfl (by decide) (gf := 149) (lb := #[.pointer (some ⟨X, 0, none⟩), .pointer (some ⟨X + 1, 0, none⟩), .pointer (some ⟨X + 2, 0, none⟩)]) rfl trivial (enters_of Try.func149 (by kernel_rfl) rfl)
        hseq KeepT.trans (fun W l o o' h1 h2 h3 h4 => KeepT.put (w := W5) (by omega) (by omega) W l o o' h1 h2 h3 h4) (Below.refl _ _) (fun _ => rfl)
        (fun pre W1 => Below W5.heap.size W5 W1 ∧ pre.all (okT f) = true)
        (fun cd pre W1 => cd = .ret ∧ pre.all (okT f) = false ∧ W5.heap.size ≤ W1.heap.size ∧ (∀ j, j < W5.heap.size → j ≠ w.heap.size + 1 + 1 → W1.heap[j]? = W5.heap[j]?) ∧ W1.heap[w.heap.size + 1 + 1]? = some (.cells #[.bool false] 4 (0, 0)) ∧ Below w.heap.size W5 W1)
        ?hI ?hIx ⟨Below.refl _ _, rfl⟩ (fun q => { tmps := #[.agg #[.int .i64 (z : Int), .slice ao nn c], .agg (arrV f), .pointer (some ⟨w.heap.size, 0, none⟩), .pointer (some ⟨w.heap.size + 1, 0, none⟩), .pointer (some ⟨w.heap.size + 1 + 1, 0, none⟩), .int .i64 (k : Int), .int .i64 ((q.1.val : Nat) : Int), .int .i64 ((q.2.val : Nat) : Int), .pointer (some ⟨w.heap.size, 0, none⟩), .int .i64 (z : Int), .int .i64 (k : Int), .bool true, .int .i64 (k : Int), .agg #[.int .i64 (z : Int), .slice ao nn c], .int .i64 (k : Int), .pointer (some ⟨w.heap.size + 1, k, none⟩), .int .i64 (sk : Int), .int .i64 (k : Int), .func (.func 149) #[] #[.pointer (some ⟨X, 0, none⟩), .pointer (some ⟨X + 1, 0, none⟩), .pointer (some ⟨X + 1 + 1, 0, none⟩)], .int .i64 ((q.1.val : Nat) : Int), .int .i64 ((q.2.val : Nat) : Int), u21, u22, u23, u24, u25, u26, u27, u28], defers := [] }) ?assign ?body ?done ?stop
      case hI =>
        intro s A C row hs hg hr
        exact ⟨ownFrom_below (w₀ := W5) (Nat.le_refl _) (Nat.le_refl _) s A C row hs.1 hg hr, hs.2⟩
      case hIx =>
        intro cd s A C row hs hg hr
        obtain ⟨h1, h2, h3, h4, h5, h6⟩ := hs
        have hne : ∀ j, j < W5.heap.size → some j ≠ row := fun j hj e => by have := (hr j e.symm).1; omega
        refine ⟨h1, h2, Nat.le_trans h3 hg.size, fun j hj hjn => (hg.block j (by omega) (hne j hj)).trans (h4 j hj hjn), (hg.block _ (by omega) (hne _ (by omega))).trans h5, ownFrom_below (w₀ := W5) (n₀ := w.heap.size) (by omega) (by omega) s A C row h6 hg hr⟩
      case assign =>
        intro l q W1 K hK
        unfold encT
        gi_wp2
        exact hK
      case body =>
        rintro l pre q W1 ⟨hb1, hall1⟩ hlen
        have q1 := q.1.isLt
        have q2 := q.2.isLt
        have HPb := Lib.hid (HP5.out.below hb1 (by omega))
        have e1 := HPb.out.cell q1
        have e2 := HPb.out.cell q2
        have hRb : W1.heap[w.heap.size + 1 + 1]? = some (.cells #[.bool false] 4 (0, 0)) := (hb1.block _ (by omega)).trans HR5.out
        have e3 : W1.cell? ⟨w.heap.size + 1 + 1, 0, none⟩ = some (.bool false) := Boxed.cell (t := 4) hRb
        have e4 : W1.frozen? ⟨w.heap.size + 1 + 1, 0, none⟩ = false := Boxed.frozen (t := 4) (v := .bool false) hRb
        have HRb := Lib.hid hRb
        have HB1 := Lib.hid hb1
        have HAl := Lib.hid hall1
        obtain ⟨i1, hi1⟩ : ∃ i1 : Nat, q.1.val = i1 := ⟨_, rfl⟩
        obtain ⟨i2, hi2⟩ : ∃ i2 : Nat, q.2.val = i2 := ⟨_, rfl⟩
        have hok1 : okT f q = (f i1 == f i2) := by unfold okT; rw [hi1, hi2]
        rw [hi1] at e1 q1 ⊢
        rw [hi2] at e2 q2 ⊢
        obtain ⟨v1, hv1⟩ : ∃ v1, f i1 = v1 := ⟨_, rfl⟩
        obtain ⟨v2, hv2⟩ : ∃ v2, f i2 = v2 := ⟨_, rfl⟩
        rw [hv1] at e1
        rw [hv2] at e2
        rw [hv1, hv2] at hok1
        have q1n : (i1 : Int) < 8 := by omega
        have q2n : (i2 : Int) < 8 := by omega
        have HOk1 := Lib.hid hok1
        clear hv1 hv2 hok1 hi1 hi2 hRb hb1 hall1
        by_cases hvv : v1 = v2
        · have hne : (v1 != v2) = false := by simp [hvv]
          have HVV := Lib.hid hvv
          clear hvv
          gi_wp2
          refine wpIn_region_round rfl l (by kernel_rfl) (by kernel_rfl) (by kernel_rfl) ?_
          repeat (gi_big_quiet_step (fail))
          refine wpQuietIn_nil ?_
          intro _ hw'
          obtain ⟨g1, hw''⟩ := hw'
          subst hw''
          gi_wp2
          refine ⟨⟨Nat.le_refl _, fun _ _ _ h _ => h⟩, ⟨below_drewN (Below.refl _ _) g1, Nat.le_refl _, fun _ _ _ => rfl, fun _ _ _ h => h⟩, below_drewN HB1.out g1, ?_⟩
          rw [List.all_append, HAl.out, Bool.true_and, List.all_cons, List.all_nil, Bool.and_true, HOk1.out, HVV.out]
          simp
        · have hne : (v1 != v2) = true := by simp [hvv]
          have HVV := Lib.hid hvv
          clear hvv
          gi_wp2
          refine wpIn_region_round rfl l (by kernel_rfl) (by kernel_rfl) (by kernel_rfl) ?_
          repeat (gi_big_quiet_step (fail))
          refine wpQuietIn_nil ?_
          intro _ hw'
          obtain ⟨g1, hw''⟩ := hw'
          subst hw''
          gi_wp2
          have hRn : (W1.drewN g1).heap[w.heap.size + 1 + 1]? = some (.cells #[.bool false] 4 (0, 0)) := HRb.out
          have hset := Boxed.set (t := 4) (.bool false) hRn
          have hoth : ∀ j, j ≠ w.heap.size + 1 + 1 → ((W1.drewN g1).setCell ⟨w.heap.size + 1 + 1, 0, none⟩ (.bool false)).heap[j]? = W1.heap[j]? := fun j hj => Below.heap_setCell _ _ _ _ hj
          have hszs : ((W1.drewN g1).setCell ⟨w.heap.size + 1 + 1, 0, none⟩ (.bool false)).heap.size = W1.heap.size := by simp [World.setCell]
          have hb2 := HB1.out
          refine ⟨⟨by rw [hszs]; exact Nat.le_refl _, fun j o hj h _ => (hoth j (by omega)).trans h⟩, rfl, ?_, by rw [hszs]; exact hb2.size, fun j hj hjn => (hoth j hjn).trans (hb2.block j hj), hset, ?_⟩
          · rw [List.all_append, List.all_cons, List.all_nil, Bool.and_true, HOk1.out]
            have := HVV.out
            simp [this]
          · exact (below_drewN (hb2.mono (by omega)) g1).setCell (p := ⟨w.heap.size + 1 + 1, 0, none⟩) (by show w.heap.size ≤ w.heap.size + 1 + 1; omega) _
      case done =>
        rintro D xs W1 hD rfl ⟨hb1, hall1⟩ hd
        have HC1 : Hid (compK z fs f (k + 1) = true) := by
          unfold Hid
          rw [compK, HC.out, Bool.true_and, HSk.out, Int.toNat_natCast, HV.out.1]
          exact hall1
        have HM1 : Hid (Marks w.heap.size W1 ({ target := .collected D, args := #[] } :: ds)) :=
          Marks.push (HM5.out.same fun D' _ hm hd' => (hb1.block D' (HM5.out.lt hm)).trans hd') HM5.out hD (by omega) hd
        have HA1 := Lib.hid ((hb1.block _ (by omega)).trans HA5.out)
        have HP1 := Lib.hid (HP5.out.below hb1 (by omega))
        have HR1 := Lib.hid ((hb1.block _ (by omega)).trans HR5.out)
        have HB1 := Lib.hid (HB6.out.trans (hb1.mono (by omega)))
        clear hb1 hall1 hd hseq
        gi_wp2
        refine ⟨⟨k + 1, _, _, _, _, _, _, _, _, _, _, _, _, _, _, _, _, _, _, _, _, _, _, ⟨by omega, HM1, HC1, HA1, HP1, HR1, HB1⟩, by congr 4⟩, ?_⟩
        simp [intOf]; omega
      case stop =>
        rintro D cd pre W1 hD hSp ⟨rfl, hall1, hsz1, hsame, hres, hbel⟩ hd
        have hMk : Marks w.heap.size W1 ({ target := .collected D, args := #[] } :: ds) :=
          Marks.push (HM5.out.kept (R := w.heap.size + 1 + 1) hsame (fun o ho => by rw [HR5.out] at ho; injection ho with ho; subst ho; rfl)) HM5.out hD (by omega) hd
        have HC1 : Hid (compK z fs f z = false) := by
          unfold Hid
          refine compK_no hlt ?_
          rw [HSk.out, Int.toNat_natCast, HV.out.1]
          obtain ⟨post, hpost⟩ := hSp
          rw [← hpost, List.all_append, hall1, Bool.false_and]
        have hbw := HB6.out.trans hbel
        clear hseq
        gi_wp2
        refine leaves_marks hMk (by omega) fun W' hW' hc => ?_
        have hr := hc _ _ hres rfl
        have er : W'.cell? ⟨w.heap.size + 1 + 1, 0, none⟩ = some (.bool false) := Boxed.cell (t := 4) hr
        exact ⟨.bool false, by simp [results, Try.results117, go_sem, er], by rw [HC1.out], hbw.trans hW'⟩
    · have hkn : ¬ (k : Int) < (z : Int) := by omega
      obtain rfl : k = z := by omega
      have e3 : W.cell? ⟨w.heap.size + 1 + 1, 0, none⟩ = some (.bool false) := Boxed.cell (t := 4) HR.out
      have e4 : W.frozen? ⟨w.heap.size + 1 + 1, 0, none⟩ = false := Boxed.frozen (t := 4) (v := .bool false) HR.out
      gi_wp2
      have hset := Boxed.set (t := 4) (.bool true) HR.out
      have hoth : ∀ j, j ≠ w.heap.size + 1 + 1 → (W.setCell ⟨w.heap.size + 1 + 1, 0, none⟩ (.bool true)).heap[j]? = W.heap[j]? := fun j hj => Below.heap_setCell _ _ _ _ hj
      have hbw := HB.out.setCell (p := ⟨w.heap.size + 1 + 1, 0, none⟩) (by show w.heap.size ≤ w.heap.size + 1 + 1; omega) (.bool true)
      refine leaves_marks (HMk.out.kept (R := w.heap.size + 1 + 1) (fun j _ hj => hoth j hj) (fun o ho => by rw [HR.out] at ho; injection ho with ho; subst ho; rfl)) (hbw.size) fun W' hW' hc => ?_
      have hr := hc _ _ hset rfl
      have er : W'.cell? ⟨w.heap.size + 1 + 1, 0, none⟩ = some (.bool true) := Boxed.cell (t := 4) hr
      exact ⟨.bool true, by simp [results, Try.results117, go_sem, er], by rw [HC.out], hbw.trans hW'⟩

end Go.Proofs.Ytcmjkfcgekmomaa
