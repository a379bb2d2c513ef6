/-
  Contracts: slices.SortFunc at a row of sets by impl.orderOfSets, impl.setsThat. Conditions: the bounds that each theorem names.
-/
import Derived.Test.YtbpbbmfgkejgaaaOrdI
import Derived.Test.YtbpbbmfgkejgaaaAllM
import Derived.Test.YtbpbbmfgkejgaaaRowE
import Derived.Test.YtbpbbmfgkejgaaaPushN
namespace Go.Proofs.Ytbpbbmfgkejgaaa
open Go.RowKit Go.Sort
set_option linter.unusedVariables false
set_option linter.unusedSimpArgs false

def encF (x : Fin 256) : Value := setV x.val
def finF (s : Nat) : Fin 256 := ⟨s % 256, Nat.mod_lt _ (by decide)⟩
def cfF (x y : Fin 256) : Int := ordL (listK x.val 8) (listK y.val 8)
theorem enc_fin {ss : List Nat} (hs : ∀ s, s ∈ ss → s < 2 ^ 8) : ss.map setV = (ss.map finF).map encF := by
  rw [List.map_map]
  refine List.map_congr_left fun s h => ?_
  have := hs s h
  show setV s = setV (s % 256)
  rw [Nat.mod_eq_of_lt this]
theorem fin_back {ss : List Nat} (hs : ∀ s, s ∈ ss → s < 2 ^ 8) : (ss.map finF).map (fun x => x.val) = ss := by
  rw [List.map_map]
  conv => rhs; rw [← List.map_id ss]
  refine List.map_congr_left fun s h => ?_
  have := hs s h
  show s % 256 = s
  exact Nat.mod_eq_of_lt this
theorem perm_in {α : Type} [Inhabited α] {d d' : Array α} (h : PermIn 0 d.size d d') : d'.toList.Perm d.toList := by
  obtain ⟨hsz, _, hperm⟩ := h
  have e1 : d'.extract 0 d.size = d' := by rw [← hsz]; exact Array.extract_size
  rw [e1, Array.extract_size] at hperm
  exact hperm
theorem sorted_in {α : Type} [Inhabited α] {lt : α → α → Bool} {d : Array α} {n : Nat} (hn : d.size = n) (h : SortedIn lt 0 n d) : d.toList.Pairwise fun x y => lt y x = false := by
  rw [List.pairwise_iff_getElem]
  intro i j hi hj hij
  have hi' : i < d.size := by simpa using hi
  have hj' : j < d.size := by simpa using hj
  have := h i j (Nat.zero_le _) hij (by omega)
  rw [getElem!_pos d j hj', getElem!_pos d i hi'] at this
  simpa using this

theorem sortSets_any (base g n cap : Nat) (ss : List Nat) (w : World) (h : w.ownsRow base 53 1 (.slice (some ⟨g, 0, none⟩) n cap) n (ss.map setV)) (hs : ∀ s, s ∈ ss → s < 2 ^ 8) (hn : n ≤ 1048576) :
    Calls Try.prog 96 #[.slice (some ⟨g, 0, none⟩) n cap, .func (.func 97) #[] #[]] w fun e w' => e = .returned (.tuple #[]) ∧
      ∃ ts : List Nat, ts.Perm ss ∧ (ts.Pairwise fun x y => ¬ ordL (listK y 8) (listK x 8) < 0) ∧ w'.ownsRow base 53 1 (.slice (some ⟨g, 0, none⟩) n cap) n (ts.map setV) ∧ w.grownBy w' (some g) := by
  have hl : ss.length = n := by have := h.1; simpa using this
  have hg := (h.lt g rfl).2
  have eg : ∀ args w, (callFunc 97 args).run Try.prog w = .ok (.enter 97 args) w := enters_of Try.func97 (by kernel_rfl) rfl
  rw [enc_fin hs] at h
  have hH := holds_row h
  have hO : SWO (ltOf cfF) := ord_swo (fun x : Fin 256 => listK x.val 8)
  have hcmp : CmpLays1 Try.prog 97 #[] encF cfF g 0 (ss.map finF).toArray.size w := fun m os dk _ x y => orderOfSets_any x.val y.val _ x.isLt y.isLt
  have hcon := Any.slices_SortFunc Try.laysSort encF (fun _ => rfl) cfF hO 97 #[] g 0 cap (ss.map finF).toArray w eg hcmp hH hg (by simp; omega)
  have hsz : (ss.map finF).toArray.size = n := by simp [hl]
  refine Calls.mono (R := fun e w' => e = .returned (.tuple #[]) ∧ ∃ d' q os, PermIn 0 (ss.map finF).toArray.size (ss.map finF).toArray d' ∧ SortedIn (ltOf cfF) 0 (ss.map finF).toArray.size d' ∧ w' = sortWorld encF w g 0 q d' os) (by rw [hsz] at hcon ⊢; exact hcon) ?_
  rintro e w' ⟨he, d', q, os, hp, hso, hw⟩
  refine ⟨he, d'.toList.map (fun x => x.val), ?_, ?_, ?_, ?_⟩
  · have h1 := (perm_in hp).map (fun x : Fin 256 => x.val)
    rw [List.toList_toArray, fin_back hs] at h1
    exact h1
  · have h1 := sorted_in hp.1 hso
    rw [List.pairwise_map]
    refine h1.imp ?_
    intro x y hxy
    unfold ltOf cfF at hxy
    exact of_decide_eq_false hxy
  · have hd : d'.toList.length = n := by have := hp.1; rw [Array.length_toList]; omega
    have h1 := ownsRow_put (q := q) (k := n) (ts := d'.toList) (os := os) h hd (Nat.le_refl _)
    rw [List.take_of_length_le (by omega), Array.toArray_toList] at h1
    subst hw
    rw [List.map_map]
    exact h1
  · have h1 := grownBy_put (enc := encF) (w := w) (g := g) (q := q) (os := os) d'
    subst hw
    exact h1

/-- The sets below k that p accepts. -/
def setsL (p : Nat → Bool) (k : Nat) : List Nat := (List.range k).filter p
theorem setsL_yes {p : Nat → Bool} {k : Nat} (h : p k = true) : setsL p (k + 1) = setsL p k ++ [k] := by unfold setsL; rw [List.range_succ, List.filter_append]; simp [h]
theorem setsL_no {p : Nat → Bool} {k : Nat} (h : p k = false) : setsL p (k + 1) = setsL p k := by unfold setsL; rw [List.range_succ, List.filter_append]; simp [h]
theorem setsL_mem {p : Nat → Bool} {k s : Nat} : s ∈ setsL p k ↔ s < k ∧ p s = true := by unfold setsL; rw [List.mem_filter, List.mem_range]
theorem setsL_nodup (p : Nat → Bool) (k : Nat) : (setsL p k).Nodup := List.nodup_range.filter _
theorem setsL_len (p : Nat → Bool) (k : Nat) : (setsL p k).length ≤ k := by have := List.length_filter_le p (List.range k); rw [List.length_range] at this; exact this

set_option maxHeartbeats 2000000 in
set_option maxRecDepth 100000 in
theorem setsThat_any (z : Int) (ao : Option Addr) (c n X Y : Nat) (p : Nat → Bool) (w : World) (h1 : 1 ≤ z) (h8 : z ≤ 8)
    (hkeep : ∀ (s : Nat) (W : World), s < 2 ^ 8 → Below w.heap.size w W → Calls Try.prog 74 #[.int .u64 (s : Int), .pointer (some ⟨X, 0, none⟩), .pointer (some ⟨Y, 0, none⟩)] W fun e w' => e = .returned (.bool (p s)) ∧ Below W.heap.size W w')
    (hp : ∃ s, s < 2 ^ z.toNat ∧ p s = true) :
    Calls Try.prog 73 #[.agg #[.int .i64 z, .slice ao n c], .func (.func 74) #[] #[.pointer (some ⟨X, 0, none⟩), .pointer (some ⟨Y, 0, none⟩)]] w fun e w' =>
      ∃ (g m d : Nat) (ts : List Nat), e = .returned (.slice (some ⟨g, 0, none⟩) m d) ∧ ts.map (fun s => listK s 8) = allL p (2 ^ z.toNat) ∧ (∀ s, s ∈ ts → s < 2 ^ 8) ∧ m ≤ 256 ∧ w'.ownsRow w.heap.size 53 1 (.slice (some ⟨g, 0, none⟩) m d) m (ts.map setV) ∧ Below w.heap.size w w' := by
  obtain ⟨i0, hi0, hz0, hz1, hz2⟩ := info_parts Try.infoSet
  have hB := below_alloc w (.cells #[.int .i64 z, .slice ao n c] 31)
  have hpow : 2 ^ z.toNat ≤ 2 ^ 8 := Nat.pow_le_pow_right (by decide) (by omega)
  have hpos : 0 < 2 ^ z.toNat := Nat.pow_pos (by decide)
  obtain ⟨b, hb⟩ : ∃ b, 2 ^ z.toNat = b + 1 := ⟨2 ^ z.toNat - 1, by omega⟩
  have HA := Lib.hid (fun W => allEl_any z W h1 h8)
  rw [hb] at HA hpow hp ⊢
  simp only [Nat.add_sub_cancel] at HA
  have hb8 : (b : Int) < 256 := by omega
  have HK := Lib.hid hkeep
  have HB := Lib.hid hB
  have HP := Lib.hid hp
  clear hkeep hB hp hpow hpos hb
  go_enter Try.func73, Try.ntmps73
  go_wp2_with fail
  refine (HA.out _).mono ?_
  rintro e w1 ⟨rfl, rfl⟩
  go_wp2_with fail
  go_loopw [5, 11] (fun v i wr => ∃ (k m d : Nat) (a : Option Addr), k ≤ b + 1 ∧ i = .int .u64 (k : Int) ∧ v = .slice a m d ∧ m ≤ k ∧ Hid (wr.ownsRow w.heap.size 53 1 (.slice a m d) m ((setsL p k).map setV)) ∧ Hid (Below w.heap.size w wr)) (fun _ i _ => b + 1 - (intOf i).toNat)
  case atStart => exact ⟨0, 0, 0, none, Nat.zero_le _, rfl, rfl, Nat.le_refl _, World.ownsRow_nil _ _ _ _, HB.out⟩
  case round =>
    obtain ⟨k, m, d, a, hk, rfl, rfl, hmk, HR, HBr⟩ := hrel
    by_cases hkb : k < b + 1
    · have hkb' : (k : Int) < (b : Int) + 1 := by omega
      have hC := HK.out k wr (by omega) HBr.out
      obtain ⟨u, hu⟩ : ∃ u, p k = u := ⟨_, rfl⟩
      rw [hu] at hC
      have HC := Lib.hid hC
      have HU := Lib.hid hu
      clear hC hu
      cases u with
      | true =>
        go_wp2_with fail
        refine HC.out.mono ?_
        rintro e w2 ⟨rfl, b2⟩
        have HB2 := Lib.hid (HBr.out.trans (b2.mono HBr.out.size))
        have HR2 := Lib.hid (HR.out.kept (grown_of_below b2 none) (own_em _))
        clear b2
        go_wp2_with (at_builtin; refine wpList_append_own _ rfl _ _ 50 rfl w.heap.size 53 i0 (.int .u64 0) 1 8 Try.underlying50 hi0 hz0 hz1 hz2 rfl (by decide) (.slice a m d) m ((setsL p k).map setV) rfl (HR2.out.alloc _) ⟨w2.heap.size, 0, none⟩ 1 1 [.int .u64 (k : Int)] rfl rfl (cell_one_new _ _ _) (fun x hx => by simp at hx; subst hx; rfl) (by unfold maxLen; omega) (by omega) (by have := HB2.out.size; simp; omega) ?_; intro v' w3 hown' hgrow' hnil')
        obtain ⟨g3, cap, rfl⟩ := ownsRow_succ hown'
        have HB3 := Lib.hid ((HB2.out.alloc HB2.out.size (.cells #[.int .u64 (k : Int)] 53)).grown hgrow' (by have := HB2.out.size; simp; omega) (fun q hq => (HR2.out.lt q hq).1))
        have HR3 : Hid (w3.ownsRow w.heap.size 53 1 (.slice (some ⟨g3, 0, none⟩) (m + 1) cap) (m + 1) ((setsL p (k + 1)).map setV)) := by
          unfold Hid
          rw [setsL_yes HU.out, List.map_append]
          exact hown'
        clear hown' hgrow' hnil'
        go_wp2_with fail
        go_roundw
        case rel => exact ⟨k + 1, m + 1, cap, _, by omega, by go_num, rfl, by omega, HR3, HB3⟩
        case measure => simp [intOf]; omega
      | false =>
        go_wp2_with fail
        refine HC.out.mono ?_
        rintro e w2 ⟨rfl, b2⟩
        have HB2 := Lib.hid (HBr.out.trans (b2.mono HBr.out.size))
        have HR2 : Hid (w2.ownsRow w.heap.size 53 1 (.slice a m d) m ((setsL p (k + 1)).map setV)) := by
          unfold Hid
          rw [setsL_no HU.out]
          exact HR.out.kept (grown_of_below b2 none) (own_em _)
        clear b2
        go_wp2_with fail
        go_roundw
        case rel => exact ⟨k + 1, m, d, a, by omega, by go_num, rfl, by omega, HR2, HB2⟩
        case measure => simp [intOf]; omega
    · obtain rfl : k = b + 1 := by omega
      have hkb' : ¬ (((b + 1 : Nat) : Int)) < (b : Int) + 1 := by omega
      have hlt : ∀ s, s ∈ setsL p (b + 1) → s < 2 ^ 8 := fun s h => by have := (setsL_mem.1 h).1; omega
      obtain ⟨s0, hs0, hp0⟩ := HP.out
      have hm0 : 0 < m := by
        have h1 := HR.out.1
        rw [List.length_map, Nat.mul_one] at h1
        have := List.length_pos_of_mem (setsL_mem.2 ⟨hs0, hp0⟩)
        omega
      obtain ⟨g, hg⟩ := own_addr HR.out
      cases g with
      | none =>
        exfalso
        rw [hg] at HR
        rcases HR.out.2 with ⟨h0, _⟩ | ⟨_, _, _, h0, _⟩
        · cases h0; omega
        · cases h0
      | some g =>
        obtain rfl : a = some ⟨g, 0, none⟩ := hg
        have HS := Lib.hid (sortSets_any w.heap.size g m d _ wr HR.out hlt (by omega))
        have hgB := (HR.out.lt g rfl).1
        clear hlt hs0 hp0
        go_wp2_with fail
        refine HS.out.mono ?_
        rintro e w2 ⟨rfl, ts, hperm, hsort, ho2, hgr2⟩
        have HB2 : Hid (Below w.heap.size w w2) := HBr.out.grown hgr2 (HBr.out.size) (fun q hq => by cases hq; exact hgB)
        have HO2 := Lib.hid ho2
        have HPm := Lib.hid hperm
        have HSo := Lib.hid hsort
        clear hperm hsort ho2 hgr2
        go_wp2_with fail
        go_ret
        refine ⟨g, m, d, ts, rfl, ?_, fun s h => ?_, by omega, HO2.out, HB2.out⟩
        · exact allL_sort (by omega) (fun s => by rw [HPm.out.mem_iff, setsL_mem]) (HPm.out.nodup_iff.2 (setsL_nodup _ _)) (HSo.out.imp fun h => by omega)
        · have := (setsL_mem.1 (HPm.out.mem_iff.1 h)).1
          omega

end Go.Proofs.Ytbpbbmfgkejgaaa
