/-
  Contracts: impl.allElements, impl.FromBlocks. Conditions: the bounds that each theorem names.
-/
import Derived.Test.YtgejpkpilnfddaaFbM
import Derived.Test.YtgejpkpilnfddaaPartN
import Derived.Test.YtgejpkpilnfddaaSetB
import Derived.Test.YtgejpkpilnfddaaLView
import Derived.Deep.RegionLaw
namespace Go.Proofs.Ytgejpkpilnfddaa
open Go.RowKit
set_option linter.unusedVariables false
set_option linter.unusedSimpArgs false
attribute [local go_sem ↓] Go.wp_at_zero Go.wp_at_succ

theorem allEl_any (n : Int) (w : World) (h1 : 1 ≤ n) (h8 : n ≤ 8) :
    Calls Try.prog 67 #[.int .i64 n] w fun e w' => e = .returned (.int .u64 ((2 ^ n.toNat - 1 : Nat) : Int)) ∧ w = w' := by
  have h : n = 1 ∨ n = 2 ∨ n = 3 ∨ n = 4 ∨ n = 5 ∨ n = 6 ∨ n = 7 ∨ n = 8 := by omega
  rcases h with rfl | rfl | rfl | rfl | rfl | rfl | rfl | rfl
  · go_enter Try.func67, Try.ntmps67
    go_wp2
    go_ret
    exact ⟨rfl, rfl⟩
  · go_enter Try.func67, Try.ntmps67
    go_wp2
    go_ret
    exact ⟨rfl, rfl⟩
  · go_enter Try.func67, Try.ntmps67
    go_wp2
    go_ret
    exact ⟨rfl, rfl⟩
  · go_enter Try.func67, Try.ntmps67
    go_wp2
    go_ret
    exact ⟨rfl, rfl⟩
  · go_enter Try.func67, Try.ntmps67
    go_wp2
    go_ret
    exact ⟨rfl, rfl⟩
  · go_enter Try.func67, Try.ntmps67
    go_wp2
    go_ret
    exact ⟨rfl, rfl⟩
  · go_enter Try.func67, Try.ntmps67
    go_wp2
    go_ret
    exact ⟨rfl, rfl⟩
  · go_enter Try.func67, Try.ntmps67
    go_wp2
    go_ret
    exact ⟨rfl, rfl⟩

theorem step_ld8 {ops : Array Oper} {o : Oper} {a : Act} {w : World} {K : Act → World → Prop} {Q : Exit → Act → World → Prop} {E : Prop} {g : Nat} {f : Nat → Int} (h : ArrAt w g f) (hgd : o.guard = none) (x : Operand) (ho : o.op = .load 67 x)
    (hx : a.eval x = .pointer (some ⟨g, 0, none⟩)) (k : K (a.put o.dst (.agg (arrV f))) w) : if Region.wanted o (yielded ops a.tmps) = true then Oper.wp Try.prog o a w K Q else E := by
  have hw : Region.wanted o (yielded ops a.tmps) = true := by simp [Region.wanted, hgd]
  rw [if_pos hw]
  exact wp_load_row 67 x ho g hx 67 (arrV f) (0, 0) _ h Try.underlying67 rfl info8 k

/-- What is met so far: elements, each once. -/
def MetOk (n : Int) (P : List Int) : Prop := allIn n P = true ∧ P.Nodup
theorem MetOk.snoc {n : Int} {P : List Int} {x : Int} (h : MetOk n P) (h0 : 0 ≤ x) (h1 : x < n) (h2 : ¬ x ∈ P) : MetOk n (P ++ [x]) := by
  refine ⟨?_, ?_⟩
  · rw [allIn_iff] at *
    intro y hy
    rcases List.mem_append.1 hy with hy | hy
    · exact allIn_iff.1 h.1 y hy
    · have : y = x := by simpa using hy
      omega
  · refine List.nodup_append.2 ⟨h.2, by simp, fun a ha b hb => ?_⟩
    have : b = x := by simpa using hb
    subst this
    intro e; subst e; exact h2 ha
def valFromBlocks (n : Int) (ls : List (List Int)) : List Int × Bool := if (inB 1 8 n && fbB n ls) = true then (lstP n.toNat (pL ls ls.length), true) else ([], false)
theorem valFb_no {n : Int} {ls : List (List Int)} (h : fbB n ls = false) : valFromBlocks n ls = ([], false) := by simp [valFromBlocks, h]
theorem valFb_size {n : Int} {ls : List (List Int)} (h : inB 1 8 n = false) : valFromBlocks n ls = ([], false) := by simp [valFromBlocks, h]
theorem valFb_yes {n : Int} {ls : List (List Int)} (h : inB 1 8 n = true) (h2 : fbB n ls = true) : valFromBlocks n ls = (lstP n.toNat (pL ls ls.length), true) := by simp [valFromBlocks, h, h2]
theorem smallFromBlocks (n : Int) (ls : List (List Int)) : (valFromBlocks n ls).1.length ≤ 4194304 := by
  unfold valFromBlocks
  split
  · rename_i h
    have h1 : inB 1 8 n = true := by simp only [Bool.and_eq_true] at h; exact h.1
    have h2 : 1 ≤ n ∧ n ≤ 8 := of_decide_eq_true h1
    simp only [lstP_len]; omega
  · simp
theorem full_set {n : Int} {P : List Int} (h1 : 1 ≤ n) (h8 : n ≤ 8) (h : MetOk n P) : setN P = 2 ^ n.toNat - 1 ↔ (P.length : Int) = n := by
  have hb := h.1
  have hin := allIn_iff.1 hb
  have hbits : ∀ k, (2 ^ n.toNat - 1).testBit k = decide (k < n.toNat) := fun k => Nat.testBit_two_pow_sub_one n.toNat k
  have hle := nodup_len8 n.toNat P h.2 (fun x hx => by have := hin x hx; omega)
  constructor
  · intro he
    have := cover_len n.toNat P fun k hk => by
      have h2 := (setN_bit_iff hb k).1 (by rw [he, hbits]; simp [hk])
      exact h2
    omega
  · intro hl
    refine set_ext (n := n.toNat) (setN_lt hb (by omega)) (by have := Nat.two_pow_pos n.toNat; omega) fun k hk => ?_
    rw [hbits]
    have h2 := full_cover (z := n.toNat) h.2 (fun x hx => by have := hin x hx; omega) (by omega) k hk
    rw [(setN_bit_iff hb k).2 h2]; simp [hk]

set_option maxRecDepth 100000 in
set_option maxHeartbeats 4000000 in
theorem implFromBlocks (n : Int) (lo hi : Nat) (ao : Option Addr) (c m : Nat) (ls : List (List Int)) (w : World) (hwn : (Lit.int .i64 n).wf = true) (hx : LView w lo hi ao m ls) (hhi : hi ≤ w.heap.size) (hmc : m ≤ c) (hm : c ≤ maxLen) (hq : ∀ xs, xs ∈ ls → ∀ x, x ∈ xs → (Lit.int .i64 x).wf = true) :
    Calls Try.prog 27 #[.int .i64 n, .slice ao m c] w fun e w' => ResL w w' (valFromBlocks n ls).1 (valFromBlocks n ls).2 e := by
  have HS := Lib.hid (fun w => isSize_any n w)
  have HI := Lib.hid (fun w => identity_any w)
  unfold ResL
  cases hb : inB 1 8 n with
  | false =>
    simp only [hb] at HS
    rw [valFb_size hb]
    clear hx hhi hm hq hb hwn
    go_enter Try.func27, Try.ntmps27
    go_wp2_with fail
    refine (HS.out _).mono ?_
    rintro e w' ⟨rfl, rfl⟩
    go_wp2_with fail
    go_ret2
    exact ⟨none, 0, 0, rfl, rfl, OwnsInts.of_row (World.ownsRow_nil _ _ _ _), Below.refl _ _⟩
  | true =>
    simp only [hb] at HS
    obtain ⟨h1, h8⟩ : 1 ≤ n ∧ n ≤ 8 := of_decide_eq_true hb
    have HAll := Lib.hid (fun w => allEl_any n w h1 h8)
    have HV := Lib.hid hx
    have HLn := Lib.hid hx.1
    obtain ⟨rv, hrv⟩ : ∃ rv, valFromBlocks n ls = rv := ⟨_, rfl⟩
    have HNo : Hid (fbB n ls = false → rv = ([], false)) := fun h => by rw [← hrv, valFb_no h]
    have HYes : Hid (fbB n ls = true → rv = (lstP n.toNat (jL ls m), true)) := fun h => by rw [← hrv, valFb_yes hb h, ← fb_same h, hx.1]
    rw [hrv]
    have hm2 : m ≤ 9223372036854775807 := by unfold maxLen at hm; omega
    have HLs := Lib.hid (fun (W : World) => listP_any (jL ls m) n.toNat W (by omega) (by omega))
    rw [show ((n.toNat : Nat) : Int) = n by omega] at HLs
    clear hx hb hrv hm hq hwn hmc
    go_enter Try.func27, Try.ntmps27
    go_wp2_with fail
    refine (HS.out _).mono ?_
    rintro e w' ⟨rfl, rfl⟩
    go_wp2_with fail
    refine (HI.out _).mono ?_
    rintro e w1 ⟨rfl, b1⟩
    obtain ⟨w2, hw2⟩ : ∃ w2, w2 = (w1.alloc (.cells (arrV fun _ => 0) 67)).setRow w1.heap.size (arrV fun k => (k : Int)) := ⟨_, rfl⟩
    have HA1 := Lib.hid (ArrAt.new w1 fun _ => 0)
    have HP2 : Hid (ArrAt w2 w1.heap.size (jL ls 0)) := by unfold Hid; rw [hw2]; exact HA1.out.setRow
    have HB2 : Hid (Below w.heap.size w w2) := by unfold Hid; rw [hw2]; exact below_setRow (below_then b1 (below_alloc w1 _)) b1.size _
    have hA : w.heap.size ≤ w1.heap.size := b1.size
    have HW2 := Lib.hid hw2
    obtain ⟨A, hAe⟩ : ∃ A, A = w1.heap.size := ⟨_, rfl⟩
    clear hw2 b1
    go_wp2_with (refine st8 (w := w1.alloc (.cells (arrV fun _ => 0) 67)) HA1.out rfl _ _ rfl rfl rfl ?_; rw [← HW2.out])
    rw [← hAe] at HP2 hA ⊢
    clear hAe HW2 HA1 HS HI
    go_loopw [7, 9, 11, 18] (fun v _ _ i wr => ∃ j s : Nat, j ≤ m ∧ i = .int .i64 (j : Int) ∧ v = .int .u64 (s : Int) ∧ Hid (s = setN (flatB ls j)) ∧ Hid (MetOk n (flatB ls j) ∧ ∀ b, b ∈ ls.take j → b ≠ []) ∧ Hid (ArrAt wr A (jL ls j)) ∧ Hid (Below w.heap.size w wr)) (fun _ _ _ i _ => m - (intOf i).toNat)
    case atStart => exact ⟨0, 0, Nat.zero_le _, rfl, rfl, rfl, ⟨⟨rfl, List.nodup_nil⟩, fun b hb => by simp at hb⟩, HP2, HB2⟩
    case round =>
      obtain ⟨j, s, hj, rfl, rfl, HSt, HG, HP, HB⟩ := hrel
      by_cases hlt : j < m
      · obtain ⟨bb, oo, rfl, _, hbh, hc⟩ := HV.out.at_ (by omega)
        obtain ⟨b, hbj⟩ := get_of_lt HLn.out hlt
        obtain ⟨a, t, cc, c0, htc, hcm, hvb⟩ := hc j b hbj
        have e0 : wr.cell? ⟨bb, oo + j, none⟩ = some (.slice a t cc) := (HB.out.cell (p := ⟨bb, _, none⟩) (by show bb < _; omega)).trans c0
        have HVb := Lib.hid hvb
        have hbl := hvb.1
        have HBl := Lib.hid hbl
        have HBj := Lib.hid hbj
        have ht2 : t ≤ 9223372036854775807 := by unfold maxLen at hcm; omega
        have hjm : (j : Int) < (m : Int) := by omega
        clear hc c0 hvb hbj htc hcm
        by_cases ht0 : t = 0
        · subst ht0
          have hbe : b = [] := List.eq_nil_of_length_eq_zero hbl
          have hno := HNo.out (fbB_empty (j := j) (by rw [← hbe]; exact HBj.out))
          clear hbl hbe
          subst hno
          go_wp2_with fail
          go_ret2
          exact ⟨none, 0, 0, rfl, rfl, OwnsInts.of_row (World.ownsRow_nil _ _ _ _), HB.out⟩
        · have hte : ((t : Int) == 0) = false := by rw [beq_eq_false_iff_ne]; omega
          obtain ⟨b2, o2, rfl, hb2l, hb2h, hcb⟩ := HVb.out.at_ (by omega)
          have HCb : Hid (∀ k, k < t → w.cell? ⟨b2, o2 + k, none⟩ = some (.int .i64 (gI b k))) := fun k hk => hcb k _ (get_gI hbl hk)
          have hb2w : b2 < w.heap.size := by omega
          clear hcb hbl
          have HG0 : Hid (MetOk n (flatB ls j ++ b.take 0)) := by unfold Hid; rw [List.take_zero, List.append_nil]; exact HG.out.1
          have HSt0 : Hid (s = setN (flatB ls j ++ b.take 0)) := by unfold Hid; rw [List.take_zero, List.append_nil]; exact HSt.out
          have HTk := Lib.hid HG.out.2
          clear HG HSt
          go_wp2_with fail
          go_loopw [7, 11, 27] (fun v _ i wr => ∃ k s : Nat, k ≤ t ∧ i = .int .i64 (k : Int) ∧ v = .int .u64 (s : Int) ∧ Hid (s = setN (flatB ls j ++ b.take k)) ∧ Hid (MetOk n (flatB ls j ++ b.take k)) ∧ Hid (ArrAt wr A (jK (jL ls j) b k)) ∧ Hid (Below w.heap.size w wr)) (fun _ _ i _ => t - (intOf i).toNat)
          case atStart => exact ⟨0, s, Nat.zero_le _, rfl, rfl, HSt0, HG0, HP, HB⟩
          case round =>
            clear e0 HP HB HG0 HSt0
            obtain ⟨k, s, hk, rfl, rfl, HSt, HG, HP, HB⟩ := hrel
            by_cases hkt : k < t
            · obtain ⟨x, hx⟩ : ∃ x, gI b k = x := ⟨_, rfl⟩
              have e1 : wr.cell? ⟨b2, o2 + k, none⟩ = some (.int .i64 x) := (HB.out.cell (p := ⟨b2, _, none⟩) hb2w).trans (by rw [← hx]; exact HCb.out k hkt)
              have hbk : b[k]? = some x := by rw [← hx]; exact get_gI HBl.out hkt
              have HBk := Lib.hid hbk
              have HX := Lib.hid hx
              have hkn : (k : Int) < (t : Int) := by omega
              clear hx hbk
              by_cases hx0 : 0 ≤ x
              · by_cases hxn : x < n
                · obtain ⟨xn, rfl⟩ : ∃ xn : Nat, x = (xn : Int) := ⟨x.toNat, by omega⟩
                  have hs8 : s < 2 ^ 8 := by rw [HSt.out]; exact setN_lt HG.out.1 (by omega)
                  have HHas := Lib.hid (fun W => has_any s (xn : Int) W hs8 hx0 (by omega))
                  obtain ⟨u, hu⟩ : ∃ u, s.testBit (xn : Int).toNat = u := ⟨_, rfl⟩
                  simp only [hu] at HHas
                  have hub : u = true ↔ (xn : Int) ∈ flatB ls j ++ b.take k := by
                    rw [← hu, HSt.out, Int.toNat_natCast]; exact setN_bit_iff HG.out.1 xn
                  have HUb := Lib.hid hub
                  clear hu hub
                  cases u with
                  | true =>
                    have hno := HNo.out (fbB_dup HBj.out HBk.out (HUb.out.1 rfl))
                    subst hno
                    go_wp2_with fail
                    refine (HHas.out _).mono ?_
                    rintro e w' ⟨rfl, rfl⟩
                    go_wp2_with fail
                    go_ret2
                    exact ⟨none, 0, 0, rfl, rfl, OwnsInts.of_row (World.ownsRow_nil _ _ _ _), HB.out⟩
                  | false =>
                    have hnew : ¬ (xn : Int) ∈ flatB ls j ++ b.take k := fun h => by have := HUb.out.2 h; cases this
                    have HG2 : Hid (MetOk n (flatB ls j ++ b.take (k + 1))) := by
                      unfold Hid
                      rw [List.take_add_one, HBk.out, ← List.append_assoc]
                      exact HG.out.snoc hx0 hxn hnew
                    have HS2 : Hid (s ||| 2 ^ xn = setN (flatB ls j ++ b.take (k + 1))) := by
                      unfold Hid
                      rw [List.take_add_one, HBk.out, ← List.append_assoc]
                      show _ = setN (_ ++ [(xn : Int)])
                      rw [setN_snoc, ← HSt.out, Int.toNat_natCast]
                    have hput := put_set (v := s) (x := (xn : Int)) hs8 hx0 (by omega)
                    rw [Int.toNat_natCast] at hput
                    obtain ⟨F, hF⟩ : ∃ F, jK (jL ls j) b k = F := ⟨_, rfl⟩
                    have hh0 : 0 ≤ gI b 0 ∧ gI b 0 < n := by
                      rcases Nat.eq_zero_or_pos k with h | h
                      · subst h; rw [HX.out]; exact ⟨hx0, hxn⟩
                      · have h2 := get_gI HBl.out (show 0 < t by omega)
                        exact allIn_iff.1 HG.out.1 _ (List.mem_append_right _ (List.mem_of_getElem? (i := 0) (by rw [List.getElem?_take, if_pos h]; exact h2)))
                    obtain ⟨hn, hhn⟩ : ∃ hn : Nat, gI b 0 = (hn : Int) := ⟨(gI b 0).toNat, by omega⟩
                    have e2 : wr.drew.cell? ⟨b2, o2, none⟩ = some (.int .i64 (hn : Int)) := by
                      have h2 := (HB.out.cell (p := ⟨b2, o2 + 0, none⟩) hb2w).trans (HCb.out 0 (by omega))
                      rw [hhn] at h2
                      exact h2
                    have HE : Hid (joinF F hn xn = jK (jL ls j) b (k + 1)) := by
                      unfold Hid
                      show _ = joinF (jK (jL ls j) b k) (gI b 0).toNat (gI b k).toNat
                      rw [hF, hhn, HX.out, Int.toNat_natCast, Int.toNat_natCast]
                    have HJo := Lib.hid (fun W => joining_any F hn xn W (by omega) (by omega))
                    rw [hF] at HP
                    have ht0' : 0 < t := by omega
                    clear hh0 hhn hF hnew HG HSt
                    go_wp2_with fail
                    refine (HHas.out _).mono ?_
                    rintro e w' ⟨rfl, rfl⟩
                    go_wp2_with fail
                    (try rw [hput])
                    refine wp_region_any (by kernel_rfl) ?_
                    (try (change wpAny _ _ _ _ _ _ _ (World.drew _)))
                    refine wpAny_take (i := 1) (oi := ⟨_, _, _, _, _, _⟩) (v := ?_) rfl (by kernel_rfl) (by kernel_rfl) (by kernel_rfl) (fun _ _ _ h => h) (Or.inl ⟨by rfl, ?_⟩) ?_
                    rotate_left 1
                    · intro w_; go_simp; (try with_reducible rfl)
                    (try simp only [Act.put, List.setIfInBounds_toArray, List.set_cons_zero, List.set_cons_succ])
                    refine wpAny_take (i := 2) (oi := ⟨_, _, _, _, _, _⟩) (v := ?_) rfl (by kernel_rfl) (by kernel_rfl) (by kernel_rfl) (fun _ _ _ h => h) (Or.inl ⟨by rfl, ?_⟩) ?_
                    rotate_left 1
                    · intro w_; go_simp; (try with_reducible rfl)
                    (try simp only [Act.put, List.setIfInBounds_toArray, List.set_cons_zero, List.set_cons_succ])
                    refine wpAny_take (i := 4) (oi := ⟨_, _, _, _, _, _⟩) (v := ?_) rfl (by kernel_rfl) (by kernel_rfl) (by kernel_rfl) (fun _ _ _ h => h) (Or.inl ⟨by rfl, ?_⟩) ?_
                    rotate_left 1
                    · intro w_; go_simp; (try with_reducible rfl)
                    (try simp only [Act.put, List.setIfInBounds_toArray, List.set_cons_zero, List.set_cons_succ])
                    refine wpAny_ready (rs := [0, 3]) (by kernel_rfl) (by simp) ?_
                    refine AllReady.cons (o := ⟨_, _, _, _, _, _⟩) rfl (fun K hK => ?_) (AllReady.cons (o := ⟨_, _, _, _, _, _⟩) rfl (fun K hK => ?_) AllReady.nil)
                    · refine step_ld8 (show ArrAt wr.drew A F from HP.out) rfl _ rfl rfl ?_
                      refine hK _ _ ?_
                      clear hK K
                      (try simp only [Act.put, List.setIfInBounds_toArray, List.set_cons_zero, List.set_cons_succ])
                      refine wpAny_ready (rs := [3]) (by kernel_rfl) (by simp) ?_
                      refine AllReady.cons (o := ⟨_, _, _, _, _, _⟩) rfl (fun K hK => ?_) AllReady.nil
                      go_simp
                      refine hK _ _ ?_
                      clear hK K
                      (try simp only [Act.put, List.setIfInBounds_toArray, List.set_cons_zero, List.set_cons_succ])
                      refine wpAny_ready (rs := [5]) (by kernel_rfl) (by simp) ?_
                      refine AllReady.cons (o := ⟨_, _, _, _, _, _⟩) rfl (fun K hK => ?_) AllReady.nil
                      go_simp
                      go_at_call 66
                      refine (HJo.out _).mono ?_
                      rintro e w5 ⟨rfl, q5⟩
                      have HP5 := Lib.hid ((show ArrAt wr.drew A F from HP.out).below q5 (show A < wr.heap.size from HP.out.lt))
                      have HP6 := Lib.hid (HP5.out.setRow (f' := joinF F hn xn))
                      have HB6 := Lib.hid (below_setRow (HB.out.drew.trans (q5.mono HB.out.size)) hA (arrV (joinF F hn xn)))
                      clear q5
                      go_wp2_with fail
                      (try simp only [Act.put, List.setIfInBounds_toArray, List.set_cons_zero, List.set_cons_succ])
                      refine wpAny_ready (rs := [6]) (by kernel_rfl) (by simp) ?_
                      refine AllReady.cons (o := ⟨_, _, _, _, _, _⟩) rfl (fun K hK => ?_) AllReady.nil
                      refine step_st8 HP5.out rfl _ _ rfl rfl rfl ?_
                      refine hK _ _ ?_
                      clear hK K
                      (try simp only [Act.put, List.setIfInBounds_toArray, List.set_cons_zero, List.set_cons_succ])
                      refine wpAny_done (by kernel_rfl) ?_ _
                      go_wp2_with fail
                      exact ⟨⟨k + 1, s ||| 2 ^ xn, by omega, by go_num, rfl, HS2, HG2, by rw [← HE.out]; exact HP6, HB6⟩, by simp [intOf]; omega⟩
                    · go_simp
                      refine hK _ _ ?_
                      clear hK K
                      (try simp only [Act.put, List.setIfInBounds_toArray, List.set_cons_zero, List.set_cons_succ])
                      refine wpAny_ready (rs := [0]) (by kernel_rfl) (by simp) ?_
                      refine AllReady.cons (o := ⟨_, _, _, _, _, _⟩) rfl (fun K hK => ?_) AllReady.nil
                      refine step_ld8 (show ArrAt wr.drew A F from HP.out) rfl _ rfl rfl ?_
                      refine hK _ _ ?_
                      clear hK K
                      (try simp only [Act.put, List.setIfInBounds_toArray, List.set_cons_zero, List.set_cons_succ])
                      refine wpAny_ready (rs := [5]) (by kernel_rfl) (by simp) ?_
                      refine AllReady.cons (o := ⟨_, _, _, _, _, _⟩) rfl (fun K hK => ?_) AllReady.nil
                      go_simp
                      go_at_call 66
                      refine (HJo.out _).mono ?_
                      rintro e w5 ⟨rfl, q5⟩
                      have HP5 := Lib.hid ((show ArrAt wr.drew A F from HP.out).below q5 (show A < wr.heap.size from HP.out.lt))
                      have HP6 := Lib.hid (HP5.out.setRow (f' := joinF F hn xn))
                      have HB6 := Lib.hid (below_setRow (HB.out.drew.trans (q5.mono HB.out.size)) hA (arrV (joinF F hn xn)))
                      clear q5
                      go_wp2_with fail
                      (try simp only [Act.put, List.setIfInBounds_toArray, List.set_cons_zero, List.set_cons_succ])
                      refine wpAny_ready (rs := [6]) (by kernel_rfl) (by simp) ?_
                      refine AllReady.cons (o := ⟨_, _, _, _, _, _⟩) rfl (fun K hK => ?_) AllReady.nil
                      refine step_st8 HP5.out rfl _ _ rfl rfl rfl ?_
                      refine hK _ _ ?_
                      clear hK K
                      (try simp only [Act.put, List.setIfInBounds_toArray, List.set_cons_zero, List.set_cons_succ])
                      refine wpAny_done (by kernel_rfl) ?_ _
                      go_wp2_with fail
                      exact ⟨⟨k + 1, s ||| 2 ^ xn, by omega, by go_num, rfl, HS2, HG2, by rw [← HE.out]; exact HP6, HB6⟩, by simp [intOf]; omega⟩
                · have hno := HNo.out (fbB_out HBj.out (allIn_no HBk.out (by omega)))
                  subst hno
                  have hxn' : n ≤ x := by omega
                  go_wp2_with fail
                  go_ret2
                  exact ⟨none, 0, 0, rfl, rfl, OwnsInts.of_row (World.ownsRow_nil _ _ _ _), HB.out⟩
              · have hno := HNo.out (fbB_out HBj.out (allIn_no HBk.out (by omega)))
                subst hno
                have hx0' : x < 0 := by omega
                go_wp2_with fail
                go_ret2
                exact ⟨none, 0, 0, rfl, rfl, OwnsInts.of_row (World.ownsRow_nil _ _ _ _), HB.out⟩
            · obtain rfl : k = t := by omega
              have hkn : ¬ (k : Int) < (k : Int) := by omega
              have hbt : b.take k = b := List.take_of_length_le (by have := HBl.out; omega)
              have HSt2 : Hid (s = setN (flatB ls (j + 1))) := by unfold Hid; rw [flatB_succ HBj.out]; have h_ := HSt.out; rw [hbt] at h_; exact h_
              have HG2 : Hid (MetOk n (flatB ls (j + 1)) ∧ ∀ b, b ∈ ls.take (j + 1) → b ≠ []) := by
                unfold Hid
                refine ⟨by rw [flatB_succ HBj.out]; have h_ := HG.out; rw [hbt] at h_; exact h_, fun d hd => ?_⟩
                rw [List.take_add_one, HBj.out] at hd
                rcases List.mem_append.1 hd with h | h
                · exact HTk.out d h
                · have : d = b := by simpa using h
                  subst this
                  intro e; have := HBl.out; rw [e] at this; simp at this; omega
              have HP2_ : Hid (ArrAt wr A (jL ls (j + 1))) := by unfold Hid; rw [jL_succ HBj.out, HBl.out]; exact HP.out
              clear hbt
              go_wp2_with fail
              exact ⟨⟨j + 1, s, by omega, by go_num, rfl, HSt2, HG2, HP2_, HB⟩, by simp [intOf]; omega⟩
      · obtain rfl : j = m := by omega
        have hjm : ¬ (j : Int) < (j : Int) := by omega
        have hfl : flatB ls j = ls.flatten := flatB_all (by have := HLn.out; omega)
        have hfull := full_set h1 h8 HG.out.1
        rw [← HSt.out] at hfull
        have hs8 : s < 2 ^ 8 := by rw [HSt.out]; exact setN_lt HG.out.1.1 (by omega)
        by_cases hlen : ((flatB ls j).length : Int) = n
        · have hse := hfull.2 hlen
          have hne : ((s : Int) != ((2 ^ n.toNat - 1 : Nat) : Int)) = false := by rw [hse]; simp
          have hyes := HYes.out (fbB_yes (fun b hb => HG.out.2 b (by rw [List.take_of_length_le (by have := HLn.out; omega)]; exact hb)) (by rw [← hfl]; exact HG.out.1.1) (by rw [← hfl]; exact HG.out.1.2) (by rw [← hfl]; exact hlen))
          subst hyes
          clear hfull hse hlen hfl
          go_wp2_with (first | (go_at_call 67; refine (HAll.out _).mono ?_; rintro e w' ⟨rfl, rfl⟩) | (refine ld8 HP.out rfl _ rfl rfl ?_))
          refine (HLs.out _).mono ?_
          rintro e w4 ⟨g4, d4, rfl, ho, q4⟩
          have HO := Lib.hid (ownsRow_base ho (b' := w.heap.size) HB.out.size)
          have HB4 := Lib.hid (HB.out.trans (q4.mono HB.out.size))
          clear ho q4
          go_wp2_with fail
          go_ret2
          exact ⟨some ⟨g4, 0, none⟩, n.toNat, d4, rfl, (lstP_len _ _).symm, OwnsInts.of_row HO.out, HB4.out⟩
        · have hne : ((s : Int) != ((2 ^ n.toNat - 1 : Nat) : Int)) = true := by
            rw [bne_iff_ne]
            intro e
            exact hlen (hfull.1 (by omega))
          have hno := HNo.out (fbB_count (by rw [← hfl]; exact hlen))
          subst hno
          clear hfull hlen hfl
          go_wp2_with ((go_at_call 67; refine (HAll.out _).mono ?_; rintro e w' ⟨rfl, rfl⟩))
          go_ret2
          exact ⟨none, 0, 0, rfl, rfl, OwnsInts.of_row (World.ownsRow_nil _ _ _ _), HB.out⟩

end Go.Proofs.Ytgejpkpilnfddaa
