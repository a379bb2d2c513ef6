/-
  Contract: impl.substituted. Conditions: the bounds that it names.
-/
import Derived.Test.YteealelfghimbaaSubS
import Derived.Test.YteealelfghimbaaClone
import Derived.Laws.CopyOwn
namespace Go.Proofs.Yteealelfghimbaa
open Go.RowKit
set_option linter.unusedVariables false
set_option linter.unusedSimpArgs false
attribute [local go_sem ↓] Go.wp_at_zero Go.wp_at_succ

def roomV (ys : List Int) : Array Value := ((roomS 60 ys).map (Value.int .i64)).toArray
theorem roomV_nil : roomV [] = #[.int .i64 0, .int .i64 0, .int .i64 0, .int .i64 0, .int .i64 0, .int .i64 0, .int .i64 0, .int .i64 0, .int .i64 0, .int .i64 0, .int .i64 0, .int .i64 0, .int .i64 0, .int .i64 0, .int .i64 0, .int .i64 0, .int .i64 0, .int .i64 0, .int .i64 0, .int .i64 0, .int .i64 0, .int .i64 0, .int .i64 0, .int .i64 0, .int .i64 0, .int .i64 0, .int .i64 0, .int .i64 0, .int .i64 0, .int .i64 0, .int .i64 0, .int .i64 0, .int .i64 0, .int .i64 0, .int .i64 0, .int .i64 0, .int .i64 0, .int .i64 0, .int .i64 0, .int .i64 0, .int .i64 0, .int .i64 0, .int .i64 0, .int .i64 0, .int .i64 0, .int .i64 0, .int .i64 0, .int .i64 0, .int .i64 0, .int .i64 0, .int .i64 0, .int .i64 0, .int .i64 0, .int .i64 0, .int .i64 0, .int .i64 0, .int .i64 0, .int .i64 0, .int .i64 0, .int .i64 0] := by rfl
theorem roomV_put {ys zs : List Int} {t : Nat} (ht : ys.length = t) (h : ys.length + zs.length ≤ 60) : ((roomV ys).toList.take t ++ (zs.map (Value.int .i64) ++ (roomV ys).toList.drop (t + (zs.map (Value.int .i64)).length))).toArray = roomV (ys ++ zs) := by
  subst ht
  unfold roomV
  rw [List.length_map, ← roomS_put (n := 60) h]
  simp [List.map_take, List.map_drop]
theorem roomV_size {ys : List Int} (h : ys.length ≤ 60) : (roomV ys).size = 60 := by unfold roomV; rw [List.size_toArray, List.length_map, roomS_len h]
theorem room_view {W : World} {B : Nat} {ys : List Int} {ty : TypeId} (h : W.heap[B]? = some (.cells (roomV ys) ty (0, 0))) (hl : ys.length ≤ 60) : IView W B (B + 1) (some ⟨B, 0, none⟩) ys.length ys := by
  refine ⟨rfl, .inr ⟨B, 0, rfl, Nat.le_refl _, by omega, fun j x hx => ?_⟩⟩
  have hj := (List.getElem?_eq_some_iff.1 hx).1
  rw [Nat.zero_add, cell_of_row W B j _ ty (0, 0) h]
  unfold roomV roomS
  rw [List.getElem?_toArray, List.map_append, List.getElem?_append_left (by rw [List.length_map]; exact hj), List.getElem?_map, hx]; rfl

theorem infoIntSize : (Try.prog.info? 3).map (·.size) = some 1 := by kernel_rfl

theorem copy_room (w0 wr : World) (B t q qc : Nat) (ad : Addr) (ys zs : List Int) (hB : w0.heap.size ≤ B) (hg : wr.heap[B]? = some (.cells (roomV ys) 153 (0, 0))) (ht : ys.length = t) (hq : zs.length = q) (hfit : t + q ≤ 60)
    (hsrc : ∀ j y, zs[j]? = some y → wr.cell? (ad.add j) = some (.int .i64 y)) (hb : Below w0.heap.size w0 wr) :
    ∃ w3, (Builtin.copy_ #[25, 25] 3 #[.slice (some ⟨B, t, none⟩) (60 - t) (60 - t), .slice (some ad) q qc]).run Try.prog wr = .ok (.int .i64 (q : Int)) w3 ∧ Hid (w3.heap[B]? = some (.cells (roomV (ys ++ zs)) 153 (0, 0))) ∧ Below w0.heap.size w0 w3 := by
  have hrun := run_copy_row (P := Try.prog) wr 25 25 3 3 B t (60 - t) (60 - t) ad q qc (roomV ys) 153 (zs.map (Value.int .i64)) Try.underlying25 infoIntSize hg (by rw [List.length_map, hq]; exact (Nat.min_eq_left (by omega)).symm) (fun j v hj => by
    rw [List.getElem?_map] at hj
    obtain ⟨y, hy, rfl⟩ := Option.map_eq_some_iff.1 hj
    exact hsrc j y hy) (by rw [roomV_size (by omega), List.length_map]; omega) (fun v hv => by
    obtain ⟨y, _, rfl⟩ := List.mem_map.1 hv; rfl)
  rw [List.append_assoc, roomV_put ht (by omega), List.length_map, hq] at hrun
  exact ⟨_, hrun, setRow_heap wr B _ _ 153 _ hg, below_setRow hb hB _⟩

set_option maxRecDepth 100000 in
set_option maxHeartbeats 2000000 in
theorem substituted_any (lo hi lo2 hi2 : Nat) (bo co : Option Addr) (d m d2 m2 : Nat) (xs : List Int) (tss : List (List Int)) (w : World) (hx : IView w lo hi bo m xs) (hhi : hi ≤ w.heap.size) (h60 : m ≤ 60) (hm0 : 0 < m) (hmd : m ≤ d) (hd : d ≤ maxLen)
    (hy : LView w lo2 hi2 co m2 tss) (hhi2 : hi2 ≤ w.heap.size) (hm2 : m2 ≤ 6) (htl : ∀ ts, ts ∈ tss → 0 < ts.length ∧ ts.length ≤ 60) (hfit : ∀ x, x ∈ xs → x < (m2 : Int)) :
    Calls Try.prog 92 #[.slice bo m d, .slice co m2 d2] w fun e w' => ResL w w' (subR tss xs).1 (subR tss xs).2 e := by
  unfold maxLen at hd
  have HX := Lib.hid hx
  have HY := Lib.hid hy
  have HTl := Lib.hid htl
  have HFit := Lib.hid hfit
  obtain ⟨R, hR⟩ : ∃ R, subR tss xs = R := ⟨_, rfl⟩
  have HR := Lib.hid hR
  have HBig := Lib.hid (fun (k : Nat) (h : 60 < (flatS tss (xs.take k)).length) => subR_big (tss := tss) (xs := xs) (k := k) h)
  rw [hR] at HBig ⊢
  obtain ⟨w1, hw1⟩ : ∃ w1 : World, w1 = w.alloc (.cells #[.int .i64 0, .int .i64 0, .int .i64 0, .int .i64 0, .int .i64 0, .int .i64 0, .int .i64 0, .int .i64 0, .int .i64 0, .int .i64 0, .int .i64 0, .int .i64 0, .int .i64 0, .int .i64 0, .int .i64 0, .int .i64 0, .int .i64 0, .int .i64 0, .int .i64 0, .int .i64 0, .int .i64 0, .int .i64 0, .int .i64 0, .int .i64 0, .int .i64 0, .int .i64 0, .int .i64 0, .int .i64 0, .int .i64 0, .int .i64 0, .int .i64 0, .int .i64 0, .int .i64 0, .int .i64 0, .int .i64 0, .int .i64 0, .int .i64 0, .int .i64 0, .int .i64 0, .int .i64 0, .int .i64 0, .int .i64 0, .int .i64 0, .int .i64 0, .int .i64 0, .int .i64 0, .int .i64 0, .int .i64 0, .int .i64 0, .int .i64 0, .int .i64 0, .int .i64 0, .int .i64 0, .int .i64 0, .int .i64 0, .int .i64 0, .int .i64 0, .int .i64 0, .int .i64 0, .int .i64 0] 153) := ⟨_, rfl⟩
  have HB1 : Hid (Below w.heap.size w w1) := by unfold Hid; rw [hw1]; exact below_alloc _ _
  have HRoom : Hid (w1.heap[w.heap.size]? = some (.cells (roomV []) 153 (0, 0))) := by unfold Hid; rw [hw1, roomV_nil]; exact heap_alloc_new _ _
  have HW1 := Lib.hid hw1
  clear hx hy htl hfit hR
  unfold ResL
  clear hw1
  go_enter Try.func92, Try.ntmps92
  go_wp2_with fail
  rw [← HW1.out]
  clear HW1
  go_loopw [7, 8, 9, 10, 13] (fun s _ _ _ i wr => ∃ k t : Nat, k ≤ m ∧ i = .int .i64 (k : Int) ∧ s = .int .i64 (t : Int) ∧ k ≤ t ∧ t ≤ 60 ∧ Hid ((flatS tss (xs.take k)).length = t) ∧ Hid (wr.heap[w.heap.size]? = some (.cells (roomV (flatS tss (xs.take k))) 153 (0, 0))) ∧ Hid (Below w.heap.size w wr)) (fun _ _ _ _ i _ => m - (intOf i).toNat)
  case atStart => exact ⟨0, 0, Nat.zero_le _, rfl, rfl, Nat.le_refl _, by omega, rfl, HRoom, HB1⟩
  case round =>
    obtain ⟨k, t, hk, rfl, rfl, hkt, ht60, HLn, HRm, HBr⟩ := hrel
    clear HRoom HB1
    obtain ⟨b, o, rfl, _, hbh, hcx⟩ := HX.out.at_ hm0
    by_cases hlt : k < m
    · obtain ⟨x, hx⟩ := get_of_lt HX.out.1 hlt
      have cx : wr.cell? ⟨b, o + k, none⟩ = some (.int .i64 x) := cell_b HBr.out (hcx k x hx)
      have hxm := HFit.out x (List.mem_of_getElem? hx)
      have HXk := Lib.hid (flatS_succ (tss := tss) hx)
      have hkm : (k : Int) < (m : Int) := by omega
      have hkd : ¬ d = k := by omega
      have hkd1 : (k : Int) + 1 ≤ (d : Int) := by omega
      by_cases h0 : x < 0
      · have HNew : Hid (flatS tss (xs.take (k + 1)) = flatS tss (xs.take k) ++ [x]) := by unfold Hid; rw [HXk.out, partS_op h0]
        have h0' : ¬ (0 : Int) ≤ x := by omega
        clear hx hcx HXk
        by_cases hbig : (60 : Int) < (t : Int) + 1
        · obtain rfl : R = ([], false) := HBig.out (k + 1) (by rw [HNew.out, List.length_append, HLn.out]; simp; omega)
          go_wp2_with fail
          go_ret2
          exact ⟨none, 0, 0, rfl, rfl, OwnsInts.none_ _ _ _, HBr.out⟩
        · have h6t : ¬ 60 = t := by omega
          have ht6' : (t : Int) ≤ 60 := by omega
          obtain ⟨w3, hrun, HR3, hb3⟩ := copy_room w wr w.heap.size t 1 (d - k) ⟨b, o + k, none⟩ (flatS tss (xs.take k)) [x] (Nat.le_refl _) HRm.out HLn.out rfl (by omega) (cells_add (fun j y hj => by
              match j, hj with
              | 0, hj => simp at hj; subst hj; exact cx)) HBr.out
          rw [← HNew.out] at HR3
          have HB3 := Lib.hid hb3
          have HL3 : Hid ((flatS tss (xs.take (k + 1))).length = t + 1) := by unfold Hid; rw [HNew.out, List.length_append, HLn.out]; rfl
          clear hb3
          go_wp2_with fail
          clear hrun cx
          go_roundw
          case rel => exact ⟨k + 1, t + 1, by omega, by go_num, by go_num, by omega, by omega, HL3, HR3, HB3⟩
          case measure => (simp [intOf]) <;> omega
      · obtain ⟨v, rfl⟩ : ∃ v : Nat, x = (v : Int) := ⟨x.toNat, by omega⟩
        obtain ⟨b2, o2, rfl, _, _, hcy⟩ := HY.out.at_ (by omega)
        obtain ⟨ts, hts⟩ := get_of_lt HY.out.1 (show v < m2 by omega)
        obtain ⟨a, q, qc, hcell, hqc, hcm, hvv⟩ := hcy v ts hts
        obtain ⟨hl0, hl1⟩ := HTl.out ts (List.mem_of_getElem? hts)
        have hql := hvv.1
        have ct : wr.cell? ⟨b2, o2 + v, none⟩ = some (.slice a q qc) := cell_b HBr.out hcell
        obtain ⟨b3, o3, rfl, _, _, hc3⟩ := (hvv.kept (Kept.of_below HBr.out hhi2)).at_ (by omega)
        have HNew : Hid (flatS tss (xs.take (k + 1)) = flatS tss (xs.take k) ++ ts) := by unfold Hid; rw [HXk.out, partS_var hts]
        have hvm : (v : Int) < (m2 : Int) := by omega
        have HQl := Lib.hid hql
        have hq0 : 0 < q := by omega
        have hq6 : q ≤ 60 := by omega
        clear hx hcx HXk hts hcell hvv hcy hql hl0 hl1 hqc hcm
        by_cases hbig : (60 : Int) < (t : Int) + (q : Int)
        · obtain rfl : R = ([], false) := HBig.out (k + 1) (by rw [HNew.out, List.length_append, HLn.out, HQl.out]; omega)
          clear hc3
          go_wp2_with fail
          go_ret2
          exact ⟨none, 0, 0, rfl, rfl, OwnsInts.none_ _ _ _, HBr.out⟩
        · have h6t : ¬ 60 = t := by omega
          have ht6' : (t : Int) ≤ 60 := by omega
          obtain ⟨w3, hrun, HR3, hb3⟩ := copy_room w wr w.heap.size t q qc ⟨b3, o3, none⟩ (flatS tss (xs.take k)) ts (Nat.le_refl _) HRm.out HLn.out HQl.out (by omega) (cells_add (fun j y hj => hc3 j y hj)) HBr.out
          rw [← HNew.out] at HR3
          have HB3 := Lib.hid hb3
          have HL3 : Hid ((flatS tss (xs.take (k + 1))).length = t + q) := by unfold Hid; rw [HNew.out, List.length_append, HLn.out, HQl.out]
          clear hb3 hc3
          go_wp2_with fail
          clear hrun cx ct
          go_roundw
          case rel => exact ⟨k + 1, t + q, by omega, by go_num, by go_num, by omega, by omega, HL3, HR3, HB3⟩
          case measure => (simp [intOf]) <;> omega
    · obtain rfl : k = m := by omega
      have hall := flatS_all (tss := tss) (Nat.le_of_eq HX.out.1)
      have h1 := HLn.out
      have h2 := HRm.out
      rw [hall] at h1 h2
      obtain rfl : R = (flatS tss xs, true) := HR.out.symm.trans (subR_yes (by omega))
      have hcl := clone_ints w.heap.size (w.heap.size + 1) (some ⟨w.heap.size, 0, none⟩) t 60 (flatS tss xs) wr (by have h_ := room_view h2 (by omega); rw [h1] at h_; exact h_) (by omega) (by omega)
      have HCl := Lib.hid hcl
      have H1 := Lib.hid h1
      have ht6' : (t : Int) ≤ 60 := by omega
      clear hall h1 h2 hcl hcx
      go_wp2_with fail
      refine HCl.out.mono ?_
      rintro e w3 ⟨g, cc, rfl, ho, b3⟩
      have HO3 := Lib.hid (ownsRow_base (b' := w.heap.size) ho HBr.out.size)
      have HB3 := Lib.hid (HBr.out.trans (b3.mono HBr.out.size))
      clear ho b3
      go_wp2_with fail
      go_ret2
      exact ⟨_, t, cc, rfl, (by first | exact H1.out.symm | rfl), OwnsInts.of_row HO3.out, HB3.out⟩

end Go.Proofs.Yteealelfghimbaa
