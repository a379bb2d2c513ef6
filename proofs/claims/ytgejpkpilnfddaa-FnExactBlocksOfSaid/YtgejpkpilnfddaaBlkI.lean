/-
  Contracts: the method blocks of impl.partition, impl.BlocksOf. Conditions: the bounds that each theorem names.
-/
import Derived.Test.YtgejpkpilnfddaaRowE
import Derived.Test.YtgejpkpilnfddaaBlkM
import Derived.Test.YtgejpkpilnfddaaPartN
import Derived.Test.YtgejpkpilnfddaaPushL
import Derived.Test.YtgejpkpilnfddaaShelfD
import Derived.Deep.DrawnRows
namespace Go.Proofs.Ytgejpkpilnfddaa
open Go.RowKit
set_option linter.unusedVariables false
set_option linter.unusedSimpArgs false
attribute [local go_sem ↓] Go.wp_at_zero Go.wp_at_succ

/-- The first n values of a function, as sets. -/
def rowN (n : Nat) (s : Nat → Nat) : List Nat := (List.range n).map s
theorem rowN_len (n : Nat) (s : Nat → Nat) : (rowN n s).length = n := by simp [rowN]
theorem rowN_get {n : Nat} (s : Nat → Nat) {k : Nat} (h : k < n) : (rowN n s)[k]? = some (s k) := by simp [rowN, h]
theorem rowN_set (n : Nat) (s s' : Nat → Nat) (k x : Nat) (h : ∀ j, s' j = if j = k then x else s j) : ((rowN n s).map setV).set k (setV x) = (rowN n s').map setV := by
  apply List.ext_getElem?
  intro i
  by_cases hi : i < n
  · rw [List.getElem?_set]
    by_cases hk : k = i
    · subst hk
      rw [if_pos rfl, if_pos (by simp [rowN_len, hi]), List.getElem?_map, rowN_get _ hi, h, if_pos rfl]; rfl
    · rw [if_neg hk, List.getElem?_map, List.getElem?_map, rowN_get _ hi, rowN_get _ hi, h, if_neg (fun e => hk e.symm)]
  · rw [List.getElem?_eq_none (by simp [rowN_len]; omega), List.getElem?_eq_none (by simp [rowN_len]; omega)]
theorem make_sets (w : World) (n : Nat) (hn : n ≤ 1048576) : ∃ w', (Instr.makeSlice 72 (.int .i64 (n : Int)) (.int .i64 (n : Int))).run Try.prog w = .ok (.slice (some ⟨w.heap.size, 0, none⟩) n n) w' ∧
    w'.ownsRow w.heap.size 77 1 (.slice (some ⟨w.heap.size, 0, none⟩) n n) n ((rowN n fun _ => 0).map setV) ∧ Below w.heap.size w w' := by
  obtain ⟨i0, hi0, hz0, hz1, hz2⟩ := info_parts Try.infoSet
  obtain ⟨w', hrun, r1, r2⟩ := run_make_full (P := Try.prog) w w.heap.size 72 77 i0 _ 1 Try.underlying72 hi0 hz0 hz1 .i64 .i64 n (by rw [hz2]; omega) (by unfold maxLen; omega) (Nat.le_refl _)
  refine ⟨w', hrun, ?_, (Below.refl _ _).grown r2 (Nat.le_refl _) (by intro k hk; cases hk)⟩
  rw [show (Value.int .u64 0).cells = #[Value.int .u64 0] from rfl, Nat.mul_one, toList_madeCells_one] at r1
  rw [show (rowN n fun _ => 0).map setV = List.replicate n (.int .u64 0) by
    unfold rowN
    rw [List.map_map]
    show (List.range n).map (fun _ => Value.int .u64 0) = _
    rw [List.map_const', List.length_range]]
  exact r1

theorem isZero_any (s : Nat) (w : World) : FnGives Try.prog 100 #[] #[setV s] (.bool (s == 0)) w := by
  show Calls Try.prog 100 #[.int .u64 (s : Int)] w _
  have he : ((s : Int) == 0) = (s == 0) := by
    by_cases h : s = 0
    · subst h; rfl
    · rw [beq_eq_false_iff_ne.2 h, beq_eq_false_iff_ne.2 (by omega)]
  go_enter Try.func100, Try.ntmps100
  go_wp2
  go_ret
  exact ⟨by first | rfl | exact ret_bool he, 0, rfl⟩

/-- The sets that are not empty. -/
theorem allIn_iff2 {n : Int} {xs : List Int} : allIn n xs = true ↔ ∀ x ∈ xs, 0 ≤ x ∧ x < n := by
  unfold allIn
  rw [List.all_eq_true]
  exact ⟨fun h x hx => of_decide_eq_true (h x hx), fun h x hx => decide_eq_true (h x hx)⟩
theorem strike_any (base g n cap : Nat) (ss : List Nat) (w : World) (h : w.ownsRow base 77 1 (.slice (some ⟨g, 0, none⟩) n cap) n (ss.map setV)) (hn : n ≤ 1048576) :
    Calls Try.prog 99 #[.slice (some ⟨g, 0, none⟩) n cap, .func (.func 100) #[] #[]] w fun e w' => e = .returned (.slice (some ⟨g, 0, none⟩) (ss.filter fun s => !(s == 0)).length cap) ∧
      w'.ownsRow base 77 1 (.slice (some ⟨g, 0, none⟩) (ss.filter fun s => !(s == 0)).length cap) (ss.filter fun s => !(s == 0)).length ((ss.filter fun s => !(s == 0)).map setV) ∧ w.grownBy w' (some g) := by
  have hl : ss.length = n := by have := h.1; simpa using this
  have hcap : n ≤ cap := by
    rcases h.2 with ⟨h0, _⟩ | ⟨_, _, _, hv, _, _, h2, _⟩
    · cases h0
    · cases hv; exact h2
  have eg : ∀ args w, (callFunc 100 args).run Try.prog w = .ok (.enter 100 args) w := enters_of Try.func100 (by kernel_rfl) rfl
  have hH := holds_row h
  have hcon := AnyE.slices_DeleteFunc Try.laysDelF setV (fun _ => rfl) (fun s => s == 0) 100 #[] eg 0 Try.zeroValue77 g 0 cap ss.toArray w (fun W x _ => isZero_any x W) (fun m os dk x _ => isZero_any x _) hH (by simp; omega) (by simp; omega)
  have hf := List.length_filter_le (fun s => !(s == 0)) ss
  simp only [List.size_toArray, hl] at hcon
  refine hcon.mono fun e w' ⟨he, q, hw⟩ => ⟨he, ?_⟩
  subst hw
  obtain ⟨ts, hts⟩ : ∃ ts, ts = (ss.filter fun s => !(s == 0)) ++ List.replicate (n - (ss.filter fun s => !(s == 0)).length) 0 := ⟨_, rfl⟩
  have h1 := ownsRow_put (q := q) (k := (ss.filter fun s => !(s == 0)).length) (ts := ts) (os := #[]) h (by rw [hts]; simp; omega) (by omega)
  rw [show ts.take (ss.filter fun s => !(s == 0)).length = ss.filter fun s => !(s == 0) by rw [hts]; exact List.take_left' rfl] at h1
  have h2 := grownBy_put (enc := setV) (w := w) (g := g) (q := q) (os := #[]) ts.toArray
  rw [Go.Sort.grow_empty] at h1 h2
  rw [hts] at h1 h2
  exact ⟨h1, h2⟩

set_option maxHeartbeats 2000000 in
set_option maxRecDepth 100000 in
theorem blocks_any (f : Nat → Int) (n : Nat) (w : World) (h1 : 1 ≤ n) (h8 : n ≤ 8) (hf : okAll f n = true) :
    Calls Try.prog 60 #[.agg (arrV f), .int .i64 (n : Int)] w fun e w' => ∃ g d, e = .returned (.slice (some ⟨g, 0, none⟩) (blksL f n n).length d) ∧
      ∃ ss : List Nat, ss.map (fun s => listK s 8) = blksL f n n ∧ (∀ s, s ∈ ss → s < 2 ^ 8) ∧ w'.ownsRow w.heap.size 77 1 (.slice (some ⟨g, 0, none⟩) (blksL f n n).length d) (blksL f n n).length (ss.map setV) ∧ Below w.heap.size w w' := by
  have HP := Lib.hid (ArrAt.new w f)
  obtain ⟨w2, hmk, ho2, hb2⟩ := make_sets (w.alloc (.cells (arrV f) 67)) n (by omega)
  have hG : (w.alloc (.cells (arrV f) 67)).heap.size = w.heap.size + 1 := by simp
  rw [hG] at hmk ho2 hb2
  have HP2 : Hid (ArrAt w2 w.heap.size f) := HP.out.below hb2 (by omega)
  have HO2 := Lib.hid ho2
  have HB2 : Hid (Below w.heap.size w w2) := (below_alloc w (.cells (arrV f) 67)).trans (hb2.mono (by omega))
  have HF := Lib.hid hf
  have hfl := blks_filter h8 hf n (Nat.le_refl _)
  have HFl := Lib.hid hfl
  clear ho2 hb2 hf hG HP hfl
  go_enter Try.func60, Try.ntmps60
  go_wp2_with fail
  clear hmk
  go_loopw [6, 10] (fun _ i wr => ∃ k : Nat, k ≤ n ∧ i = .int .i64 (k : Int) ∧ Hid (ArrAt wr w.heap.size f) ∧ Hid (wr.ownsRow (w.heap.size + 1) 77 1 (.slice (some ⟨w.heap.size + 1, 0, none⟩) n n) n ((rowN n (blkN f k)).map setV)) ∧ Hid (Below w.heap.size w wr)) (fun _ i _ => n - (intOf i).toNat)
  case atStart => exact ⟨0, Nat.zero_le _, rfl, HP2, HO2, HB2⟩
  case round =>
    obtain ⟨k, hk, rfl, HP, HR, HB⟩ := hrel
    by_cases hlt : k < n
    · have hkn : (k : Int) < (n : Int) := by omega
      have hk8 : (k : Int) < 8 := by omega
      obtain ⟨⟨v0, v1⟩, _⟩ := okAll_get HF.out hlt
      obtain ⟨v, hv⟩ : ∃ v : Nat, f k = (v : Int) := ⟨(f k).toNat, by omega⟩
      have e1 : wr.drew.cell? ⟨w.heap.size, k, none⟩ = some (.int .i64 (v : Int)) := by rw [← hv]; exact HP.out.cell (by omega)
      have hvn : v < n := by omega
      have hvn' : (v : Int) < (n : Int) := by omega
      obtain ⟨s, hs⟩ : ∃ s, blkN f k v = s := ⟨_, rfl⟩
      have e2 : wr.drew.cell? ⟨w.heap.size + 1, v, none⟩ = some (.int .u64 (s : Int)) := by
        have h_ := HR.out.cellAt v (by omega)
        rw [List.getElem?_map, rowN_get _ hvn, hs] at h_
        exact h_
      have hfr : wr.drew.frozen? ⟨w.heap.size + 1, v, none⟩ = false := HR.out.frozenAt v
      have hs8 : s < 2 ^ 8 := by rw [← hs]; exact lt_mono (blkN_lt f v k) (by omega)
      have hput := put_set (v := s) (x := (k : Int)) hs8 (by omega) (by omega)
      rw [Int.toNat_natCast] at hput
      have hst := (show wr.drew.ownsRow (w.heap.size + 1) 77 1 (.slice (some ⟨w.heap.size + 1, 0, none⟩) n n) n ((rowN n (blkN f k)).map setV) from HR.out).stored v (setV (s ||| 2 ^ k))
      rw [rowN_set n (blkN f k) (blkN f (k + 1)) v (s ||| 2 ^ k) (fun j => by
        rw [blkN, hv]
        by_cases hj : j = v
        · subst hj; rw [if_pos rfl, if_pos rfl, hs]
        · rw [if_neg (by omega), if_neg hj])] at hst
      have HST := Lib.hid hst.1
      have HPn : Hid (ArrAt (wr.drew.setCell ⟨w.heap.size + 1, v, none⟩ (setV (s ||| 2 ^ k))) w.heap.size f) := ArrAt.setOther (show ArrAt wr.drew w.heap.size f from HP.out) (by omega) v _
      have HBn := Lib.hid (HB.out.drew.setCell (p := ⟨w.heap.size + 1, v, none⟩) (by show w.heap.size ≤ w.heap.size + 1; omega) (setV (s ||| 2 ^ k)))
      clear v0 v1 hv hs hst
      unfold setV at HST HPn HBn
      go_wp2_with fail
      go_region
      go_wp2_with fail
      go_roundw
      case rel => exact ⟨k + 1, by omega, by go_num, HPn, by unfold setV; exact HST, HBn⟩
      case measure => simp [intOf]; omega
    · have hkn : ¬ (k : Int) < (n : Int) := by omega
      obtain rfl : k = n := by omega
      have HS := Lib.hid (strike_any (w.heap.size + 1) (w.heap.size + 1) k k (rowN k (blkN f k)) wr HR.out (by omega))
      obtain ⟨ss, hss⟩ : ∃ ss, (rowN k (blkN f k)).filter (fun s => !(s == 0)) = ss := ⟨_, rfl⟩
      have HE : Hid (ss.map (fun s => listK s 8) = blksL f k k) := by unfold Hid; rw [← hss]; exact HFl.out
      have HLt : Hid (∀ s, s ∈ ss → s < 2 ^ 8) := fun s hs => by
        rw [← hss] at hs
        obtain ⟨x, _, rfl⟩ := List.mem_map.1 (List.mem_filter.1 hs).1
        exact lt_mono (blkN_lt f x k) (by omega)
      have hlen : ss.length = (blksL f k k).length := by rw [← HE.out, List.length_map]
      simp only [hss, hlen] at HS
      clear hss hlen
      go_wp2_with fail
      refine HS.out.mono ?_
      rintro e w4 ⟨rfl, ho, hgr⟩
      have HO := Lib.hid (ownsRow_base ho (b' := w.heap.size) (by omega))
      have HB4 := Lib.hid (HB.out.grown hgr HB.out.size (fun q hq => by injection hq with hq; omega))
      clear ho hgr
      go_wp2_with fail
      go_ret
      exact ⟨_, _, rfl, ss, HE.out, HLt.out, HO.out, HB4.out⟩

def valBlocksOf (n : Int) (xs : List Int) : List (List Int) × Bool := if pOfB n xs = true then (blksL (gI xs) xs.length xs.length, true) else ([], false)
theorem smallBlocksOf (n : Int) (xs : List Int) : (valBlocksOf n xs).1.length + lsum (valBlocksOf n xs).1 ≤ 4194304 := by
  unfold valBlocksOf
  split
  · rename_i h
    obtain ⟨_, _, h8⟩ := pOfB_len h
    have h1 := blksL_le (gI xs) xs.length xs.length
    have h2 := lsum_blks (gI xs) xs.length xs.length
    have h3 : xs.length * xs.length ≤ 8 * 8 := Nat.mul_le_mul h8 h8
    unfold lsum
    simp only
    omega
  · simp [lsum]
theorem blkL_congr {f g : Nat → Int} (x : Nat) : ∀ k, (∀ j, j < k → f j = g j) → blkL f x k = blkL g x k
  | 0, _ => rfl
  | k + 1, h => by rw [blkL, blkL, h k (by omega), blkL_congr x k fun j hj => h j (by omega)]
theorem blksL_congr {f g : Nat → Int} {n : Nat} (h : ∀ j, j < n → f j = g j) : ∀ k, k ≤ n → blksL f n k = blksL g n k
  | 0, _ => rfl
  | k + 1, hk => by rw [blksL, blksL, h k (by omega), blkL_congr k n h, blksL_congr h k (by omega)]

set_option maxHeartbeats 1000000 in
set_option maxRecDepth 100000 in
theorem implBlocksOf (n : Int) (lo hi : Nat) (ao : Option Addr) (c m : Nat) (xs : List Int) (w : World) (hn : (Lit.int .i64 n).wf = true) (hx : IView w lo hi ao m xs) (hhi : hi ≤ w.heap.size) (hm : m ≤ maxLen) :
    Calls Try.prog 19 #[.int .i64 n, .slice ao m c] w fun e w' => ResS w w' (valBlocksOf n xs).1 (valBlocksOf n xs).2 e := by
  have HP := Lib.hid (partOf_any n m c ao xs lo hi w hx hhi hm)
  have hl := hx.1
  unfold ResP at HP
  unfold ResS
  obtain ⟨p, hp⟩ : ∃ p, pOfB n xs = p := ⟨_, rfl⟩
  simp only [hp] at HP
  cases p with
  | false =>
    rw [show valBlocksOf n xs = ([], false) by rw [valBlocksOf, hp]; rfl]
    rw [parF_no] at HP
    clear hx hp hn hl
    go_enter Try.func19, Try.ntmps19
    go_wp2_with fail
    refine HP.out.mono ?_
    rintro e w1 ⟨rfl, q1⟩
    have HA := Lib.hid (ArrAt.new w1 fun _ => 0)
    have HB := Lib.hid (below_setRow (below_then q1 (below_alloc w1 (.cells (arrV fun _ => 0) 67))) (show w.heap.size ≤ w1.heap.size from q1.size) (arrV fun _ => 0))
    clear q1
    go_wp2_with (refine st8 (w := w1.alloc (.cells (arrV fun _ => 0) 67)) HA.out rfl _ _ rfl rfl rfl ?_)
    go_ret2
    obtain ⟨G, C, hN⟩ := BuiltL.nil ((w1.alloc (.cells (arrV fun _ => 0) 67)).setRow w1.heap.size (arrV fun _ => 0)) w.heap.size (fun j => ([] : List (List Int)).getD j [])
    exact ⟨none, 0, 0, G, C, rfl, rfl, hN, HB.out⟩
  | true =>
    obtain ⟨hb, hpb⟩ := pOfB_of hp
    obtain ⟨h2, h3⟩ := partB_of hpb
    rw [hl] at h2 h3
    rw [show valBlocksOf n xs = (blksL (extP xs) m m, true) by rw [valBlocksOf, if_pos hp, hl, blksL_congr (f := extP xs) (g := gI xs) (fun j hj => extP_lt (by omega)) m (Nat.le_refl _)]]
    have hall : allIn n xs = true := by
      rw [allIn_iff2]
      intro x hx
      obtain ⟨k, hk⟩ := List.mem_iff_getElem?.1 hx
      have hk2 : k < xs.length := (List.getElem?_eq_some_iff.1 hk).1
      have h5 := (okAll_get h3 (show k < m by omega)).1
      rw [gI_get hk] at h5
      omega
    have hek : okAll (extP xs) m = true := by
      have h4 := ext_okAll (by rw [hl]; exact h2) hall 0
      rw [Nat.add_zero, hl] at h4
      rw [h4]; exact h3
    rw [parF_yes] at HP
    obtain ⟨f, hf⟩ : ∃ f, extP xs = f := ⟨_, rfl⟩
    rw [hf] at HP hek ⊢
    have HC := Lib.hid (fun W => blocks_any f m W (by omega) (by omega) hek)
    rw [h2] at HC
    clear hx hp hn hl hf hpb h3 hek
    go_enter Try.func19, Try.ntmps19
    go_wp2_with fail
    refine HP.out.mono ?_
    rintro e w1 ⟨rfl, q1⟩
    have HA := Lib.hid (ArrAt.new w1 fun _ => 0)
    obtain ⟨w2, hw2⟩ : ∃ w2, w2 = (w1.alloc (.cells (arrV fun _ => 0) 67)).setRow w1.heap.size (arrV f) := ⟨_, rfl⟩
    have HB : Hid (Below w.heap.size w w2) := by unfold Hid; rw [hw2]; exact below_setRow (below_then q1 (below_alloc w1 (.cells (arrV fun _ => 0) 67))) (show w.heap.size ≤ w1.heap.size from q1.size) (arrV f)
    have HA2 : Hid (ArrAt w2 w1.heap.size f) := by unfold Hid; rw [hw2]; exact HA.out.setRow
    have HW := Lib.hid hw2
    clear q1 hw2
    go_wp2_with (first | (refine st8 (w := w1.alloc (.cells (arrV fun _ => 0) 67)) HA.out rfl _ _ rfl rfl rfl ?_; rw [← HW.out]) | (refine ld8 HA2.out rfl _ rfl rfl ?_))
    refine (HC.out _).mono ?_
    rintro e w3 ⟨g3, d3, rfl, ss, hss, hlt, ho3, b3⟩
    have hlen : (blksL f m m).length ≤ 1048576 := by have := blksL_le f m m; omega
    have HLi := Lib.hid (listsOf_any w2.heap.size g3 _ d3 ss w3 ho3 hlen hlt)
    have HE := Lib.hid hss
    have HB3 := Lib.hid (HB.out.trans (b3.mono HB.out.size))
    clear ho3 b3 hss hlt
    go_wp2_with fail
    refine HLi.out.mono ?_
    rintro e w4 ⟨a4, c4, rfl, hbu, b4⟩
    have HB4 := Lib.hid (HB3.out.trans (b4.mono HB3.out.size))
    obtain ⟨G, C, hL⟩ := hbu
    have HL := Lib.hid (hL.lo_mono HB3.out.size)
    clear b4 hL
    go_wp2_with fail
    go_ret2
    have h_ := HL.out
    rw [HE.out] at h_
    exact ⟨a4, _, c4, G, C, rfl, rfl, h_, HB4.out⟩

end Go.Proofs.Ytgejpkpilnfddaa
