/-
  Contracts: impl.unbeaten, both MinimalSubs, with what they call. Conditions: the bounds that each theorem names.
-/
import Derived.Test.YtbpbbmfgkejgaaaSortI
import Derived.Test.YtbpbbmfgkejgaaaOwn
import Derived.Lib.SliceRun
import Derived.Test.YtbpbbmfgkejgaaaSubI
import Derived.Test.YtbpbbmfgkejgaaaSubM
import Derived.Test.YtbpbbmfgkejgaaaSetR
import Derived.Test.YtbpbbmfgkejgaaaIsAlg
import Derived.Test.YtbpbbmfgkejgaaaPushL
import Derived.Test.YtbpbbmfgkejgaaaThruS
import Derived.Deep.RegionHeld3
import Derived.Deep.DrawnRows
namespace Go.Proofs.Ytbpbbmfgkejgaaa
open Go.RowKit
set_option linter.unusedVariables false
set_option linter.unusedSimpArgs false

theorem grown_tr {a b c : World} {r : Option Nat} (h : a.grownBy b r) (k : b.grownBy c r) : a.grownBy c r :=
  ⟨k.os.trans h.os, k.tape.trans h.tape, k.output.trans h.output, Nat.le_trans h.size k.size, fun i hi hne => (k.block i (Nat.lt_of_lt_of_le hi h.size) hne).trans (h.block i hi hne)⟩
theorem owns_take {w : World} {B g n c k : Nat} {e : TypeId} {xs : List Value} (h : w.ownsRow B e 1 (.slice (some ⟨g, 0, none⟩) n c) n xs) (hk : k ≤ n) : w.ownsRow B e 1 (.slice (some ⟨g, 0, none⟩) k c) k (xs.take k) := by
  have hl : xs.length = n := by have := h.1; simpa using this
  rcases h.2 with ⟨h0, _⟩ | ⟨g', c', cur, h0, hb, hg, hnc, hcm, hcs, htake⟩
  · cases h0
  · cases h0
    refine ⟨by rw [List.length_take]; omega, .inr ⟨g, c, cur, rfl, hb, hg, by omega, hcm, hcs, ?_⟩⟩
    rw [← htake, List.take_take, Nat.mul_one, Nat.mul_one, Nat.min_eq_left hk]
theorem owns_many {B g n c : Nat} {e : TypeId} : ∀ (vs : List Value) (o : Nat) {w : World} {xs : List Value}, w.ownsRow B e 1 (.slice (some ⟨g, 0, none⟩) n c) n xs → ∃ ys, (w.setCells g o vs).ownsRow B e 1 (.slice (some ⟨g, 0, none⟩) n c) n ys ∧ ys.take o = xs.take o ∧ w.grownBy (w.setCells g o vs) (some g)
  | [], o, w, xs, h => ⟨xs, h, rfl, grown_of_below (Below.refl _ _) _⟩
  | v :: r, o, w, xs, h => by
    obtain ⟨h1, h2⟩ := h.stored o v
    obtain ⟨ys, h3, h4, h5⟩ := owns_many r (o + 1) h1
    refine ⟨ys, h3, ?_, grown_tr h2 h5⟩
    have h6 := congrArg (List.take o) h4
    rw [List.take_take, List.take_take, Nat.min_eq_left (by omega)] at h6
    rw [h6]
    exact List.take_set_of_le (Nat.le_refl _)

def hitB (o m : Nat) : Bool := (o != m) && decide (diffN o m = 0)
def isBeat (ss : List Nat) (m : Nat) : Bool := ss.any fun o => hitB o m
def ubL (ss : List Nat) : List Nat := ss.filter fun m => !isBeat ss m

theorem hit_any (o m X Y : Nat) (w : World) (ho : o < 2 ^ 8) (hm : m < 2 ^ 8) (hX : w.cell? ⟨X, 0, none⟩ = some (.int .u64 (m : Int))) (hY : w.cell? ⟨Y, 0, none⟩ = some (.func (.func 44) #[] #[])) :
    Calls Try.prog 78 #[.int .u64 (o : Int), .pointer (some ⟨X, 0, none⟩), .pointer (some ⟨Y, 0, none⟩)] w fun e w' => e = .returned (.bool (hitB o m)) ∧ Below w.heap.size w w' := by
  have HI := Lib.hid (isIn_any o m w ho hm)
  unfold hitB
  obtain ⟨u, hu⟩ : ∃ u, decide (diffN o m = 0) = u := ⟨_, rfl⟩
  rw [hu] at HI ⊢
  clear hu
  by_cases h : o = m
  · have hne : ((o : Int) != (m : Int)) = false := by subst h; simp
    have hne2 : (o != m) = false := by subst h; simp
    rw [hne2]
    go_enter Try.func78, Try.ntmps78
    go_wp2_with fail
    go_ret
    exact ⟨rfl, Below.refl _ _⟩
  · have hne : ((o : Int) != (m : Int)) = true := by rw [bne_iff_ne]; omega
    have hne2 : (o != m) = true := by rw [bne_iff_ne]; exact h
    rw [hne2]
    go_enter Try.func78, Try.ntmps78
    go_wp2_with fail
    refine HI.out.mono ?_
    rintro e w1 ⟨rfl, rfl⟩
    go_wp2_with fail
    go_ret
    exact ⟨rfl, Below.refl _ _⟩

set_option maxHeartbeats 1000000 in
theorem indexHit_any (B g n d X Y : Nat) (ss : List Nat) (p : Nat → Bool) (w : World) (h : w.ownsRow B 53 1 (.slice (some ⟨g, 0, none⟩) n d) n (ss.map setV)) (hn : n ≤ 1048576) (hs : ∀ s, s ∈ ss → s < 2 ^ 8)
    (hk : ∀ (s : Nat) (W : World), s < 2 ^ 8 → Below w.heap.size w W → Calls Try.prog 78 #[.int .u64 (s : Int), .pointer (some ⟨X, 0, none⟩), .pointer (some ⟨Y, 0, none⟩)] W fun e w' => e = .returned (.bool (p s)) ∧ Below W.heap.size W w') :
    Calls Try.prog 88 #[.slice (some ⟨g, 0, none⟩) n d, .func (.func 78) #[] #[.pointer (some ⟨X, 0, none⟩), .pointer (some ⟨Y, 0, none⟩)]] w fun e w' => ∃ r : Int, e = .returned (.int .i64 r) ∧ ((r = -1 ∧ ∀ s, s ∈ ss → p s = false) ∨ ∃ k : Nat, r = (k : Int) ∧ k < n ∧ (∀ x, ss[k]? = some x → p x = true) ∧ ∀ j y, j < k → ss[j]? = some y → p y = false) ∧ Below w.heap.size w w' := by
  have hl : ss.length = n := by have := h.1; simpa using this
  have HR := Lib.hid h
  have HK := Lib.hid hk
  have HS := Lib.hid hs
  have HL := Lib.hid hl
  clear h hk hs hl
  go_enter Try.func88, Try.ntmps88
  go_wp2_with fail
  go_loopw [8] (fun i wr => ∃ k : Nat, k ≤ n ∧ i = .int .i64 (k : Int) ∧ Hid (∀ j y, j < k → ss[j]? = some y → p y = false) ∧ Hid (Below w.heap.size w wr)) (fun i _ => n - (intOf i).toNat)
  case atStart => exact ⟨0, Nat.zero_le _, rfl, (fun j y hj _ => by omega), Below.refl _ _⟩
  case round =>
    obtain ⟨k, hk, rfl, HN, HB⟩ := hrel
    by_cases hkn : k < n
    · have hkn' : (k : Int) < (n : Int) := by omega
      obtain ⟨x, hx⟩ := get_of_lt HL.out hkn
      have hcell : wr.cell? ⟨g, k, none⟩ = some (.int .u64 (x : Int)) := by
        refine cell_b HB.out ?_
        rw [HR.out.cellAt k (by omega), List.getElem?_map, hx]; rfl
      have hC := HK.out x wr (HS.out x (List.mem_of_getElem? hx)) HB.out
      obtain ⟨u, hu⟩ : ∃ u, p x = u := ⟨_, rfl⟩
      rw [hu] at hC
      have HC := Lib.hid hC
      have HX := Lib.hid hx
      have HU := Lib.hid hu
      clear hC hu hx
      cases u with
      | true =>
        go_wp2_with fail
        refine HC.out.mono ?_
        rintro e w2 ⟨rfl, b2⟩
        have HB2 := Lib.hid (HB.out.trans (b2.mono HB.out.size))
        clear b2
        go_wp2_with fail
        go_ret
        exact ⟨(k : Int), rfl, .inr ⟨k, rfl, hkn, (fun y hy => by rw [HX.out] at hy; cases hy; exact HU.out), HN.out⟩, HB2.out⟩
      | false =>
        go_wp2_with fail
        refine HC.out.mono ?_
        rintro e w2 ⟨rfl, b2⟩
        have HB2 := Lib.hid (HB.out.trans (b2.mono HB.out.size))
        have HN2 : Hid (∀ j y, j < k + 1 → ss[j]? = some y → p y = false) := fun j y hj hy => by
          by_cases hjk : j = k
          · subst hjk; rw [HX.out] at hy; cases hy; exact HU.out
          · exact HN.out j y (by omega) hy
        clear b2
        go_wp2_with fail
        go_roundw
        case rel => exact ⟨k + 1, by omega, by go_num, HN2, HB2⟩
        case measure => simp [intOf]; omega
    · have hkn' : ¬ (k : Int) < (n : Int) := by omega
      have HN2 : Hid (∀ s, s ∈ ss → p s = false) := fun s hm => by
        obtain ⟨j, hj, he⟩ := List.getElem_of_mem hm
        exact HN.out j s (by have := HL.out; omega) (by rw [← he]; exact List.getElem?_eq_getElem hj)
      go_wp2_with fail
      go_ret
      exact ⟨-1, rfl, .inl ⟨rfl, HN2.out⟩, HB.out⟩

set_option maxHeartbeats 1000000 in
theorem indexBeat_any (B g n d X Y : Nat) (ss : List Nat) (p : Nat → Bool) (w : World) (h : w.ownsRow B 53 1 (.slice (some ⟨g, 0, none⟩) n d) n (ss.map setV)) (hn : n ≤ 1048576) (hs : ∀ s, s ∈ ss → s < 2 ^ 8)
    (hk : ∀ (s : Nat) (W : World), s < 2 ^ 8 → Below w.heap.size w W → Calls Try.prog 77 #[.int .u64 (s : Int), .pointer (some ⟨X, 0, none⟩), .pointer (some ⟨Y, 0, none⟩)] W fun e w' => e = .returned (.bool (p s)) ∧ Below W.heap.size W w') :
    Calls Try.prog 88 #[.slice (some ⟨g, 0, none⟩) n d, .func (.func 77) #[] #[.pointer (some ⟨X, 0, none⟩), .pointer (some ⟨Y, 0, none⟩)]] w fun e w' => ∃ r : Int, e = .returned (.int .i64 r) ∧ ((r = -1 ∧ ∀ s, s ∈ ss → p s = false) ∨ ∃ k : Nat, r = (k : Int) ∧ k < n ∧ (∀ x, ss[k]? = some x → p x = true) ∧ ∀ j y, j < k → ss[j]? = some y → p y = false) ∧ Below w.heap.size w w' := by
  have hl : ss.length = n := by have := h.1; simpa using this
  have HR := Lib.hid h
  have HK := Lib.hid hk
  have HS := Lib.hid hs
  have HL := Lib.hid hl
  clear h hk hs hl
  go_enter Try.func88, Try.ntmps88
  go_wp2_with fail
  go_loopw [8] (fun i wr => ∃ k : Nat, k ≤ n ∧ i = .int .i64 (k : Int) ∧ Hid (∀ j y, j < k → ss[j]? = some y → p y = false) ∧ Hid (Below w.heap.size w wr)) (fun i _ => n - (intOf i).toNat)
  case atStart => exact ⟨0, Nat.zero_le _, rfl, (fun j y hj _ => by omega), Below.refl _ _⟩
  case round =>
    obtain ⟨k, hk, rfl, HN, HB⟩ := hrel
    by_cases hkn : k < n
    · have hkn' : (k : Int) < (n : Int) := by omega
      obtain ⟨x, hx⟩ := get_of_lt HL.out hkn
      have hcell : wr.cell? ⟨g, k, none⟩ = some (.int .u64 (x : Int)) := by
        refine cell_b HB.out ?_
        rw [HR.out.cellAt k (by omega), List.getElem?_map, hx]; rfl
      have hC := HK.out x wr (HS.out x (List.mem_of_getElem? hx)) HB.out
      obtain ⟨u, hu⟩ : ∃ u, p x = u := ⟨_, rfl⟩
      rw [hu] at hC
      have HC := Lib.hid hC
      have HX := Lib.hid hx
      have HU := Lib.hid hu
      clear hC hu hx
      cases u with
      | true =>
        go_wp2_with fail
        refine HC.out.mono ?_
        rintro e w2 ⟨rfl, b2⟩
        have HB2 := Lib.hid (HB.out.trans (b2.mono HB.out.size))
        clear b2
        go_wp2_with fail
        go_ret
        exact ⟨(k : Int), rfl, .inr ⟨k, rfl, hkn, (fun y hy => by rw [HX.out] at hy; cases hy; exact HU.out), HN.out⟩, HB2.out⟩
      | false =>
        go_wp2_with fail
        refine HC.out.mono ?_
        rintro e w2 ⟨rfl, b2⟩
        have HB2 := Lib.hid (HB.out.trans (b2.mono HB.out.size))
        have HN2 : Hid (∀ j y, j < k + 1 → ss[j]? = some y → p y = false) := fun j y hj hy => by
          by_cases hjk : j = k
          · subst hjk; rw [HX.out] at hy; cases hy; exact HU.out
          · exact HN.out j y (by omega) hy
        clear b2
        go_wp2_with fail
        go_roundw
        case rel => exact ⟨k + 1, by omega, by go_num, HN2, HB2⟩
        case measure => simp [intOf]; omega
    · have hkn' : ¬ (k : Int) < (n : Int) := by omega
      have HN2 : Hid (∀ s, s ∈ ss → p s = false) := fun s hm => by
        obtain ⟨j, hj, he⟩ := List.getElem_of_mem hm
        exact HN.out j s (by have := HL.out; omega) (by rw [← he]; exact List.getElem?_eq_getElem hj)
      go_wp2_with fail
      go_ret
      exact ⟨-1, rfl, .inl ⟨rfl, HN2.out⟩, HB.out⟩

theorem contains_any (B g n d X Y : Nat) (ss : List Nat) (p : Nat → Bool) (w : World) (h : w.ownsRow B 53 1 (.slice (some ⟨g, 0, none⟩) n d) n (ss.map setV)) (hn : n ≤ 1048576) (hs : ∀ s, s ∈ ss → s < 2 ^ 8)
    (hk : ∀ (s : Nat) (W : World), s < 2 ^ 8 → Below w.heap.size w W → Calls Try.prog 78 #[.int .u64 (s : Int), .pointer (some ⟨X, 0, none⟩), .pointer (some ⟨Y, 0, none⟩)] W fun e w' => e = .returned (.bool (p s)) ∧ Below W.heap.size W w') :
    Calls Try.prog 62 #[.slice (some ⟨g, 0, none⟩) n d, .func (.func 78) #[] #[.pointer (some ⟨X, 0, none⟩), .pointer (some ⟨Y, 0, none⟩)]] w fun e w' => e = .returned (.bool (ss.any p)) ∧ Below w.heap.size w w' := by
  have HI := Lib.hid (indexHit_any B g n d X Y ss p w h hn hs hk)
  have hl : ss.length = n := by have := h.1; simpa using this
  have HL := Lib.hid hl
  clear h hs hk hl
  go_enter Try.func62, Try.ntmps62
  go_wp2_with fail
  refine HI.out.mono ?_
  rintro e w1 ⟨r, rfl, hr, b1⟩
  have HB := Lib.hid b1
  clear b1
  rcases hr with ⟨rfl, hf⟩ | ⟨k, rfl, hk, hy, _⟩
  · have HA : Hid (ss.any p = false) := by
      unfold Hid
      rw [List.any_eq_false]
      intro s hs
      rw [hf s hs]; simp
    clear hf
    go_wp2_with fail
    go_ret
    exact ⟨ret_bool HA.out.symm, HB.out⟩
  · have HA : Hid (ss.any p = true) := by
      obtain ⟨x, hx⟩ := get_of_lt HL.out hk
      exact List.any_eq_true.2 ⟨x, List.mem_of_getElem? hx, hy x hx⟩
    have hk0 : (0 : Int) ≤ (k : Int) := by omega
    clear hy
    go_wp2_with fail
    go_ret
    exact ⟨ret_bool HA.out.symm, HB.out⟩

theorem beaten_any (B g n d X Y m : Nat) (ss : List Nat) (w : World) (h : w.ownsRow B 53 1 (.slice (some ⟨g, 0, none⟩) n d) n (ss.map setV)) (hn : n ≤ 1048576) (hs : ∀ s, s ∈ ss → s < 2 ^ 8) (hm : m < 2 ^ 8)
    (hX : w.cell? ⟨X, 0, none⟩ = some (.slice (some ⟨g, 0, none⟩) n d)) (hY : w.cell? ⟨Y, 0, none⟩ = some (.func (.func 44) #[] #[])) :
    Calls Try.prog 77 #[.int .u64 (m : Int), .pointer (some ⟨X, 0, none⟩), .pointer (some ⟨Y, 0, none⟩)] w fun e w' => e = .returned (.bool (isBeat ss m)) ∧ Below w.heap.size w w' := by
  have hmf : ∀ (fn : Fn) (first cap : Array Value) (w : World), (Instr.makeFunc fn first cap).run Try.prog w = .ok (.func fn first cap) w := fun _ _ _ _ => rfl
  have hB := below_alloc w (.cells #[.int .u64 (m : Int)] 53)
  have hX1 := cell_b hB hX
  have hY1 := cell_b hB hY
  have hM : (w.alloc (.cells #[.int .u64 (m : Int)] 53)).cell? ⟨w.heap.size, 0, none⟩ = some (.int .u64 (m : Int)) := by simp
  have HC := Lib.hid (contains_any B g n d w.heap.size Y ss (fun o => hitB o m) (w.alloc (.cells #[.int .u64 (m : Int)] 53)) (h.kept (grown_of_below hB none) (own_em _)) hn hs (fun s W hs2 hW => hit_any s m w.heap.size Y W hs2 hm (cell_b hW hM) (cell_b hW hY1)))
  have HB := Lib.hid hB
  unfold isBeat
  clear h hs hX hY hM hY1 hB
  go_enter Try.func77, Try.ntmps77
  go_wp2_with fail
  refine HC.out.mono ?_
  rintro e w1 ⟨rfl, b1⟩
  have HB1 := Lib.hid (HB.out.trans (b1.mono HB.out.size))
  clear b1
  go_wp2_with fail
  go_ret
  exact ⟨rfl, HB1.out⟩

theorem take_keep {p : Nat → Bool} {ss : List Nat} {k : Nat} (h : ∀ j y, j < k → ss[j]? = some y → p y = false) : (ss.take k).filter (fun s => !p s) = ss.take k := by
  rw [List.filter_eq_self]
  intro y hy
  obtain ⟨j, hj, he⟩ := List.getElem_of_mem hy
  have hjk : j < k := by rw [List.length_take] at hj; omega
  have h1 : (ss.take k)[j]? = some y := by rw [List.getElem?_eq_getElem hj, he]
  rw [List.getElem?_take_of_lt hjk] at h1
  rw [h j y hjk h1]; rfl
theorem keep_yes {p : Nat → Bool} {ss : List Nat} {k x : Nat} (hx : ss[k]? = some x) (h : p x = false) : (ss.take (k + 1)).filter (fun s => !p s) = (ss.take k).filter (fun s => !p s) ++ [x] := by
  rw [List.take_add_one, hx, Option.toList_some, List.filter_append]; simp [h]
theorem keep_no {p : Nat → Bool} {ss : List Nat} {k x : Nat} (hx : ss[k]? = some x) (h : p x = true) : (ss.take (k + 1)).filter (fun s => !p s) = (ss.take k).filter (fun s => !p s) := by
  rw [List.take_add_one, hx, Option.toList_some, List.filter_append]; simp [h]

set_option maxHeartbeats 4000000 in
set_option maxRecDepth 100000 in
theorem deleteBeat_any (B g n d X Y : Nat) (ss : List Nat) (p : Nat → Bool) (w : World) (h : w.ownsRow B 53 1 (.slice (some ⟨g, 0, none⟩) n d) n (ss.map setV)) (hn : n ≤ 1048576) (hs : ∀ s, s ∈ ss → s < 2 ^ 8)
    (hk : ∀ (s : Nat) (W : World), s < 2 ^ 8 → w.grownBy W (some g) → Calls Try.prog 77 #[.int .u64 (s : Int), .pointer (some ⟨X, 0, none⟩), .pointer (some ⟨Y, 0, none⟩)] W fun e w' => e = .returned (.bool (p s)) ∧ Below W.heap.size W w') :
    Calls Try.prog 79 #[.slice (some ⟨g, 0, none⟩) n d, .func (.func 77) #[] #[.pointer (some ⟨X, 0, none⟩), .pointer (some ⟨Y, 0, none⟩)]] w fun e w' => ∃ k : Nat, e = .returned (.slice (some ⟨g, 0, none⟩) k d) ∧ Hid (k = (ss.filter fun s => !p s).length) ∧ w'.ownsRow B 53 1 (.slice (some ⟨g, 0, none⟩) k d) k ((ss.filter fun s => !p s).map setV) ∧ w.grownBy w' (some g) := by
  have hl : ss.length = n := by have := h.1; simpa using this
  have hcap : n ≤ d ∧ d ≤ maxLen := by
    rcases h.2 with ⟨h0, _⟩ | ⟨_, _, _, hv, _, _, h2, h3, _⟩
    · cases h0
    · cases hv; exact ⟨h2, h3⟩
  have HIx := Lib.hid (indexBeat_any B g n d X Y ss p w h hn hs (fun s W h1 h2 => hk s W h1 (grown_of_below h2 _)))
  have HR := Lib.hid h
  have HK := Lib.hid hk
  have HS := Lib.hid hs
  have HL := Lib.hid hl
  obtain ⟨hcap1, hcap2⟩ := hcap
  clear h hk hs hl
  go_enter Try.func79, Try.ntmps79
  go_wp2_with fail
  refine HIx.out.mono ?_
  rintro e w1 ⟨r, rfl, hr, b1⟩
  have HG1 : Hid (w.grownBy w1 (some g)) := grown_of_below b1 _
  have HR1 := Lib.hid (HR.out.kept (grown_of_below b1 none) (own_em _))
  clear b1 HIx
  rcases hr with ⟨rfl, hf⟩ | ⟨k, rfl, hkn, hy, hj⟩
  · have HE : Hid ((ss.filter fun s => !p s) = ss) := List.filter_eq_self.2 fun s h_ => by rw [hf s h_]; rfl
    clear hf
    go_wp2_with fail
    go_ret
    exact ⟨n, rfl, by unfold Hid; rw [HE.out]; exact HL.out.symm, by rw [HE.out]; exact HR1.out, HG1.out⟩
  · have HT0 : Hid (ss.take k = (ss.take (k + 1)).filter fun s => !p s) := by
      obtain ⟨x, hx⟩ := get_of_lt HL.out hkn
      unfold Hid
      rw [keep_no hx (hy x hx), take_keep hj]
    have hk1 : ¬ (k : Int) = -1 := by omega
    have hk2 : ((k : Int) == -1) = false := by rw [beq_eq_false_iff_ne]; exact hk1
    clear hy hj
    go_wp2_with fail
    go_loopw [5, 6] (fun i j wr => ∃ (a b : Nat) (us : List Nat), i = .int .i64 (a : Int) ∧ j = .int .i64 (b : Int) ∧ a < b ∧ b ≤ n ∧ Hid (us.length = n) ∧ Hid (us.take a = (ss.take b).filter fun s => !p s) ∧ Hid (us.drop b = ss.drop b) ∧ Hid (wr.ownsRow B 53 1 (.slice (some ⟨g, 0, none⟩) n d) n (us.map setV)) ∧ Hid (w.grownBy wr (some g))) (fun _ j _ => n - (intOf j).toNat)
    case atStart => exact ⟨k, k + 1, ss, rfl, by go_num, by omega, by omega, HL.out, HT0.out, rfl, HR1.out, HG1.out⟩
    case round =>
      obtain ⟨a, b, us, rfl, rfl, hab, hbn, HLu, HTk, HDr, HRu, HGu⟩ := hrel
      by_cases hlt : b < n
      · have hlt' : (b : Int) < (n : Int) := by omega
        obtain ⟨x, hx⟩ := get_of_lt HL.out hlt
        have hux : us[b]? = some x := by
          have h1 : (us.drop b)[0]? = (ss.drop b)[0]? := by rw [HDr.out]
          rw [List.getElem?_drop, List.getElem?_drop, Nat.add_zero] at h1
          rw [h1]; exact hx
        obtain ⟨z, hz⟩ := get_of_lt HLu.out (show a < n by omega)
        have cb : wr.cell? ⟨g, b, none⟩ = some (.int .u64 (x : Int)) := by rw [HRu.out.cellAt b (by omega), List.getElem?_map, hux]; rfl
        have hC := HK.out x wr (HS.out x (List.mem_of_getElem? hx)) HGu.out
        have HX := Lib.hid hx
        have HZ := Lib.hid hz
        obtain ⟨u, hu⟩ : ∃ u, p x = u := ⟨_, rfl⟩
        rw [hu] at hC
        have HC := Lib.hid hC
        have HU := Lib.hid hu
        clear hx hux hz hC hu
        cases u with
        | false =>
          go_wp2_with fail
          refine HC.out.mono ?_
          rintro e w2 ⟨rfl, b2⟩
          have HR2 := Lib.hid (HRu.out.kept (grown_of_below b2 none) (own_em _))
          have HG2 := Lib.hid (grown_tr HGu.out (grown_of_below b2 (some g)))
          have ca : w2.cell? ⟨g, a, none⟩ = some (.int .u64 (z : Int)) := by rw [HR2.out.cellAt a (by omega), List.getElem?_map, HZ.out]; rfl
          have fa : w2.frozen? ⟨g, a, none⟩ = false := HR2.out.frozenAt a
          clear b2
          go_wp2_with fail
          have h3 := HR2.out.stored a (.int .u64 (x : Int))
          have HR3 : Hid ((w2.setCell ⟨g, a, none⟩ (.int .u64 (x : Int))).ownsRow B 53 1 (.slice (some ⟨g, 0, none⟩) n d) n ((us.set a x).map setV)) := by
            unfold Hid; rw [List.map_set]; exact h3.1
          have HG3 := Lib.hid (grown_tr HG2.out h3.2)
          have HT3 : Hid ((us.set a x).take (a + 1) = (ss.take (b + 1)).filter fun s => !p s) := by
            unfold Hid
            rw [keep_yes HX.out HU.out, ← HTk.out, List.take_add_one, List.take_set_of_le (Nat.le_refl _), List.getElem?_set_self (by rw [HLu.out]; omega)]; rfl
          have HD3 : Hid ((us.set a x).drop (b + 1) = ss.drop (b + 1)) := by
            unfold Hid
            rw [List.drop_set_of_lt (by omega)]
            have h1 := congrArg (List.drop 1) HDr.out
            rw [List.drop_drop, List.drop_drop] at h1
            exact h1
          clear h3
          go_roundw
          case rel => exact ⟨a + 1, b + 1, us.set a x, by go_num, by go_num, by omega, by omega, by unfold Hid; rw [List.length_set]; exact HLu.out, HT3, HD3, HR3, HG3⟩
          case measure => simp [intOf]; omega
        | true =>
          have HT3 : Hid (us.take a = (ss.take (b + 1)).filter fun s => !p s) := by unfold Hid; rw [keep_no HX.out HU.out]; exact HTk.out
          have HD3 : Hid (us.drop (b + 1) = ss.drop (b + 1)) := by
            have h1 := congrArg (List.drop 1) HDr.out
            rw [List.drop_drop, List.drop_drop] at h1
            exact h1
          go_wp2_with fail
          refine HC.out.mono ?_
          rintro e w2 ⟨rfl, b2⟩
          have HR2 := Lib.hid (HRu.out.kept (grown_of_below b2 none) (own_em _))
          have HG2 := Lib.hid (grown_tr HGu.out (grown_of_below b2 (some g)))
          clear b2
          go_wp2_with fail
          go_roundw
          case rel => exact ⟨a, b + 1, us, rfl, by go_num, by omega, by omega, HLu, HT3, HD3, HR2, HG2⟩
          case measure => simp [intOf]; omega
      · obtain rfl : b = n := by omega
        have hlt' : ¬ (b : Int) < (b : Int) := by omega
        have ha0 : (0 : Int) ≤ (a : Int) := by omega
        have han : (a : Int) ≤ (b : Int) := by omega
        have had : (a : Int) ≤ (d : Int) := by omega
        have hda : ¬ d = a := by omega
        have hcl : ∀ ty, (Builtin.clear_ #[50] ty #[.slice (some ⟨g, a, none⟩) (b - a) (d - a)]).run Try.prog wr = .ok (.tuple #[]) (wr.setCells g a (List.replicate (b - a) (.int .u64 0))) :=
          fun ty => Lib.run_clear_slice wr _ _ ty _ Try.underlying50 Try.zeroValue53 rfl rfl g a _ _ (by omega) (fun t ht => by rw [HRu.out.cellAt (a + t) (by omega), List.getElem?_map, List.getElem?_eq_getElem (by rw [HLu.out]; omega)]; rfl) (fun t ht => HRu.out.frozenAt _)
        obtain ⟨ys, hy1, hy2, hy3⟩ := owns_many (List.replicate (b - a) (.int .u64 0)) a HRu.out
        have HF : Hid ((ss.take b).filter (fun s => !p s) = ss.filter fun s => !p s) := by unfold Hid; rw [List.take_of_length_le (by have := HL.out; omega)]
        have HTk2 : Hid (us.take a = ss.filter fun s => !p s) := HTk.out.trans HF.out
        have hrow := owns_take hy1 (k := a) (by omega)
        rw [hy2, ← List.map_take, HTk2.out] at hrow
        have HRow := Lib.hid hrow
        have HLen : Hid (a = (ss.filter fun s => !p s).length) := by unfold Hid; rw [← HTk2.out, List.length_take, HLu.out]; omega
        have HGr := Lib.hid (grown_tr HGu.out hy3)
        clear hy1 hy2 hy3 hrow
        go_wp2_with fail
        go_ret
        exact ⟨a, rfl, HLen, HRow.out, HGr.out⟩

set_option maxRecDepth 100000 in
theorem cloneSets_any (B g n d : Nat) (ss : List Nat) (w : World) (h : w.ownsRow B 53 1 (.slice (some ⟨g, 0, none⟩) n d) n (ss.map setV)) (hn : n ≤ 1048576) :
    Calls Try.prog 80 #[.slice (some ⟨g, 0, none⟩) n d] w fun e w' => ∃ g2 d2 : Nat, e = .returned (.slice (some ⟨g2, 0, none⟩) n d2) ∧ w'.ownsRow w.heap.size 53 1 (.slice (some ⟨g2, 0, none⟩) n d2) n (ss.map setV) ∧ Below w.heap.size w w' := by
  obtain ⟨i0, hi0, hz0, hz1, hz2⟩ := info_parts Try.infoSet
  have hl : ss.length = n := by have := h.1; simpa using this
  have HO0 : Hid ((w.alloc (.cells #[] 53)).ownsRow w.heap.size 53 1 (.slice (some ⟨w.heap.size, 0, none⟩) 0 0) 0 []) := World.ownsRow_lit (base := w.heap.size) (e := 53) (size := 1) w #[] 0 (Nat.le_refl _) (by decide) rfl
  have HB := Lib.hid (below_alloc w (.cells #[] 53))
  have HCell : Hid (∀ j u, (ss.map setV)[j]? = some u → (w.alloc (.cells #[] 53)).cell? ((⟨g, 0, none⟩ : Addr).add j) = some u) := fun j u hj => by
    rw [WideShapes.add_plain, Nat.zero_add]
    refine cell_b HB.out ?_
    rw [h.cellAt j (by have := (List.getElem?_eq_some_iff.1 hj).1; rw [List.length_map] at this; omega)]
    exact hj
  have HLl := Lib.hid hl
  have hnil : ∀ W : World, (binOp BinOp.eql 50 (.slice (some ⟨g, 0, none⟩) n d) (.slice none 0 0)).run Try.prog W = .ok (.bool false) W := fun W => rfl
  clear h hl
  go_enter Try.func80, Try.ntmps80
  go_wp2_with (at_builtin; refine wpList_append_own _ rfl _ _ 50 rfl w.heap.size 53 i0 (.int .u64 0) 1 8 Try.underlying50 hi0 hz0 hz1 hz2 rfl (by decide) (.slice (some ⟨w.heap.size, 0, none⟩) 0 0) 0 [] rfl HO0.out ⟨g, 0, none⟩ n d (ss.map setV) rfl (by rw [List.length_map, HLl.out]; omega) HCell.out (fun x hx => by obtain ⟨y, _, rfl⟩ := List.mem_map.1 hx; rfl) (by unfold maxLen; omega) (by omega) (by simp) ?_; intro v' w3 hown' hgrow' hnil')
  rw [Nat.zero_add, List.nil_append] at hown'
  obtain ⟨g2, d2, rfl⟩ : ∃ g2 d2, v' = .slice (some ⟨g2, 0, none⟩) n d2 := by
    rcases hown'.2 with ⟨h6, _⟩ | ⟨g2, d2, _, h6, _⟩
    · exact absurd (hnil'.1 h6).1 (fun e => by cases e)
    · exact ⟨g2, d2, h6⟩
  have HO := Lib.hid hown'
  have HB3 : Hid (Below w.heap.size w w3) := HB.out.grown hgrow' HB.out.size (fun q hq => by cases hq; exact Nat.le_refl _)
  clear hown' hgrow' hnil'
  go_wp2_with fail
  go_ret
  exact ⟨g2, d2, rfl, HO.out, HB3.out⟩

set_option maxHeartbeats 1000000 in
theorem unbeaten_any (B g n d : Nat) (ss : List Nat) (w : World) (h : w.ownsRow B 53 1 (.slice (some ⟨g, 0, none⟩) n d) n (ss.map setV)) (hn : n ≤ 1048576) (hs : ∀ s, s ∈ ss → s < 2 ^ 8) :
    Calls Try.prog 43 #[.slice (some ⟨g, 0, none⟩) n d, .func (.func 44) #[] #[]] w fun e w' => ∃ g2 k d2 : Nat, e = .returned (.slice (some ⟨g2, 0, none⟩) k d2) ∧ Hid (k = (ubL ss).length) ∧ w'.ownsRow w.heap.size 53 1 (.slice (some ⟨g2, 0, none⟩) k d2) k ((ubL ss).map setV) ∧ Below w.heap.size w w' := by
  have hmf : ∀ (fn : Fn) (first cap : Array Value) (w : World), (Instr.makeFunc fn first cap).run Try.prog w = .ok (.func fn first cap) w := fun _ _ _ _ => rfl
  obtain ⟨W0, hW0⟩ : ∃ W0, W0 = (w.alloc (.cells #[.slice (some ⟨g, 0, none⟩) n d] 50)).alloc (.cells #[.func (.func 44) #[] #[]] 58) := ⟨_, rfl⟩
  have hB : Below w.heap.size w W0 := by rw [hW0]; exact below_then (below_alloc _ _) (below_alloc _ _)
  have hS : W0.heap.size = w.heap.size + 1 + 1 := by rw [hW0]; simp
  have hX : W0.cell? ⟨w.heap.size, 0, none⟩ = some (.slice (some ⟨g, 0, none⟩) n d) := by rw [hW0]; exact cell_b (below_alloc _ _) (by simp)
  have hY : W0.cell? ⟨w.heap.size + 1, 0, none⟩ = some (.func (.func 44) #[] #[]) := by
    have h_ : ∀ (W : World) (v : Value) (T : TypeId), (W.alloc (.cells #[v] T)).cell? ⟨W.heap.size, 0, none⟩ = some v := fun W v T => by simp
    have h2 := h_ (w.alloc (.cells #[.slice (some ⟨g, 0, none⟩) n d] 50)) (.func (.func 44) #[] #[]) 58
    rw [World.size_alloc] at h2
    rw [hW0]; exact h2
  have hR0 := h.kept (grown_of_below hB none) (own_em _)
  have hg := (h.lt g rfl).2
  have HCl := Lib.hid (cloneSets_any B g n d ss W0 hR0 hn)
  have HB := Lib.hid hB
  have HR0 := Lib.hid hR0
  have HS := Lib.hid hs
  have HS0 := Lib.hid hS
  have HW0 := Lib.hid hW0
  have HX := Lib.hid hX
  have HY := Lib.hid hY
  clear h hs hB hR0 hS hW0 hY
  unfold ubL
  go_enter Try.func43, Try.ntmps43
  go_wp2_with fail
  rw [← HW0.out]
  refine HCl.out.mono ?_
  rintro e w2 ⟨g2, d2, rfl, ho2, b2⟩
  have HB2 := Lib.hid (HB.out.trans (b2.mono HB.out.size))
  have hg2 : w.heap.size + 1 + 1 ≤ g2 := by rw [← HS0.out]; exact (ho2.lt g2 rfl).1
  have hX2 := cell_b b2 HX.out
  have hY2 := cell_b b2 HY.out
  have hR2 := HR0.out.kept (grown_of_below b2 none) (own_em _)
  have hD := deleteBeat_any W0.heap.size g2 n d2 w.heap.size (w.heap.size + 1) ss (isBeat ss) w2 ho2 hn HS.out (fun s W h1 h2 => beaten_any B g n d w.heap.size (w.heap.size + 1) s ss W (hR2.kept h2 (.inr (by intro e; simp [Value.ownBlock] at e; omega))) hn HS.out h1 (h2.cell hX2 (by intro e; injection e with e; simp at e; omega)) (h2.cell hY2 (by intro e; injection e with e; simp at e; omega)))
  have HD := Lib.hid hD
  clear ho2 b2 hX2 hY2 hR2 hD hX
  go_wp2_with fail
  refine HD.out.mono ?_
  rintro e w3 ⟨k, rfl, hk, ho3, hgr⟩
  have HB3 : Hid (Below w.heap.size w w3) := HB2.out.grown hgr HB2.out.size (fun q hq => by cases hq; omega)
  have HO3 := Lib.hid (ownsRow_base ho3 HB.out.size)
  clear ho3 hgr
  go_wp2_with fail
  go_ret
  exact ⟨g2, k, d2, rfl, hk, HO3.out, HB3.out⟩


/-- A set is closed, not empty, and no other such one is in it. -/
def fillP (z : Int) (fs : List OpD) (s : Nat) : Bool := subP z fs (fun s => s != 0) s
def minP (z : Int) (fs : List OpD) (s : Nat) : Bool := fillP z fs s && !(List.range (2 ^ z.toNat)).any fun t => fillP z fs t && hitB t s
def valMinimalSubs (z : Int) (fs : List OpD) : List (List Int) × Bool := if algOkB z fs then (allL (minP z fs) (2 ^ z.toNat), true) else ([], false)
theorem smallMinimalSubs (z : Int) (fs : List OpD) : (valMinimalSubs z fs).1.length + lsum (valMinimalSubs z fs).1 ≤ 4194304 := by
  unfold valMinimalSubs
  cases h : algOkB z fs with
  | false => simp [lsum]
  | true => exact subs_small (algOkB_of h).1.2
theorem ts_mem {p : Nat → Bool} {ts : List Nat} {b : Nat} (hts : ts.map (fun s => listK s 8) = allL p b) (hlt : ∀ s, s ∈ ts → s < 2 ^ 8) (hb : b ≤ 2 ^ 8) (s : Nat) : s ∈ ts ↔ s < b ∧ p s = true := by
  constructor
  · intro h
    have h1 : listK s 8 ∈ allL p b := by rw [← hts]; exact List.mem_map.2 ⟨s, h, rfl⟩
    obtain ⟨s', h2, h3, h4⟩ := allL_mem.1 h1
    rw [listK_one (hlt s h) (by omega) h4]
    exact ⟨h2, h3⟩
  · rintro ⟨h1, h2⟩
    have h3 : listK s 8 ∈ allL p b := allL_mem.2 ⟨s, h1, h2, rfl⟩
    rw [← hts] at h3
    obtain ⟨s', h4, h5⟩ := List.mem_map.1 h3
    rw [← listK_one (hlt s' h4) (by omega) h5]
    exact h4
theorem ts_filter {p q : Nat → Bool} {ts : List Nat} {b : Nat} (hts : ts.map (fun s => listK s 8) = allL p b) (hlt : ∀ s, s ∈ ts → s < 2 ^ 8) (hb : b ≤ 2 ^ 8) : (ts.filter q).map (fun s => listK s 8) = allL (fun s => p s && q s) b := by
  refine asc_unique ?_ (allL_asc hb) fun y => ?_
  · have h := allL_asc (p := p) hb
    rw [← hts] at h
    exact h.sublist (List.filter_sublist.map _)
  · rw [List.mem_map, allL_mem]
    constructor
    · rintro ⟨s, h1, rfl⟩
      rw [List.mem_filter] at h1
      obtain ⟨h2, h3⟩ := (ts_mem hts hlt hb s).1 h1.1
      exact ⟨s, h2, by rw [h3, h1.2]; rfl, rfl⟩
    · rintro ⟨s, h1, h2, rfl⟩
      rw [Bool.and_eq_true] at h2
      exact ⟨s, List.mem_filter.2 ⟨(ts_mem hts hlt hb s).2 ⟨h1, h2.1⟩, h2.2⟩, rfl⟩
theorem beat_any {p : Nat → Bool} {ts : List Nat} {b : Nat} (hts : ts.map (fun s => listK s 8) = allL p b) (hlt : ∀ s, s ∈ ts → s < 2 ^ 8) (hb : b ≤ 2 ^ 8) (m : Nat) : isBeat ts m = (List.range b).any fun t => p t && hitB t m := by
  unfold isBeat
  rw [Bool.eq_iff_iff, List.any_eq_true, List.any_eq_true]
  constructor
  · rintro ⟨o, h1, h2⟩
    obtain ⟨h3, h4⟩ := (ts_mem hts hlt hb o).1 h1
    exact ⟨o, List.mem_range.2 h3, by rw [h4, h2]; rfl⟩
  · rintro ⟨o, h1, h2⟩
    rw [Bool.and_eq_true] at h2
    exact ⟨o, (ts_mem hts hlt hb o).2 ⟨List.mem_range.1 h1, h2.1⟩, h2.2⟩
theorem ub_min {z : Int} {fs : List OpD} {ts : List Nat} (h8 : z ≤ 8) (hts : ts.map (fun s => listK s 8) = allL (subP z fs fun s => s != 0) (2 ^ z.toNat)) (hlt : ∀ s, s ∈ ts → s < 2 ^ 8) : (ubL ts).map (fun s => listK s 8) = allL (minP z fs) (2 ^ z.toNat) := by
  have hb : 2 ^ z.toNat ≤ 2 ^ 8 := Nat.pow_le_pow_right (by decide) (by omega)
  unfold ubL
  rw [ts_filter hts hlt hb]
  refine allL_congr fun s hs => ?_
  rw [beat_any hts hlt hb]; rfl


theorem fill_any (s : Nat) (w : World) : Calls Try.prog 42 #[.int .u64 (s : Int)] w fun e w' => e = .returned (.bool (s != 0)) ∧ w = w' := by
  by_cases h : s = 0
  · subst h
    go_enter Try.func42, Try.ntmps42
    go_wp2
    go_ret
    exact ⟨rfl, rfl⟩
  · have hne : ((s : Int) != 0) = true := by rw [bne_iff_ne]; omega
    have hne2 : (s != 0) = true := by rw [bne_iff_ne]; exact h
    rw [hne2]
    go_enter Try.func42, Try.ntmps42
    go_wp2
    go_ret
    exact ⟨rfl, rfl⟩

theorem thatMin_any (lo hi : Nat) (z : Int) (ao : Option Addr) (c n X Y : Nat) (fs : List OpD) (s : Nat) (w : World) (hv : OView w lo hi ao n fs) (hhi : hi ≤ w.heap.size) (hok : algOkB z fs = true) (hs : s < 2 ^ 8)
    (hX : w.cell? ⟨X, 0, none⟩ = some (.func (.func 42) #[] #[])) (hY0 : w.cell? ⟨Y, 0, none⟩ = some (.int .i64 z)) (hY1 : w.cell? ⟨Y, 1, none⟩ = some (.slice ao n c)) :
    Calls Try.prog 74 #[.int .u64 (s : Int), .pointer (some ⟨X, 0, none⟩), .pointer (some ⟨Y, 0, none⟩)] w fun e w' => e = .returned (.bool (subP z fs (fun s => s != 0) s)) ∧ Below w.heap.size w w' := by
  have HK := Lib.hid (fill_any s w)
  have HC := Lib.hid (closed_any lo hi z ao c n fs s w hv hhi hok hs)
  unfold subP
  obtain ⟨u, hu⟩ : ∃ u, decide (stepN z fs s = s) = u := ⟨_, rfl⟩
  rw [hu] at HC ⊢
  dsimp only
  obtain ⟨v, hv2⟩ : ∃ v, (s != 0) = v := ⟨_, rfl⟩
  rw [hv2] at HK ⊢
  clear hv hok hs hu hv2
  go_enter Try.func74, Try.ntmps74
  cases v with
  | false =>
    go_wp2_with fail
    refine HK.out.mono ?_
    rintro e w1 ⟨rfl, rfl⟩
    go_wp2_with fail
    go_ret
    exact ⟨rfl, Below.refl _ _⟩
  | true =>
    go_wp2_with fail
    refine HK.out.mono ?_
    rintro e w1 ⟨rfl, rfl⟩
    go_wp2_with fail
    refine HC.out.mono ?_
    rintro e w2 ⟨rfl, b2⟩
    have HB2 := Lib.hid b2
    clear b2
    go_wp2_with fail
    go_ret
    exact ⟨rfl, HB2.out⟩

set_option maxHeartbeats 1000000 in
theorem subsMin_any (lo hi : Nat) (z : Int) (ao : Option Addr) (c n : Nat) (fs : List OpD) (w : World) (hv : OView w lo hi ao n fs) (hhi : hi ≤ w.heap.size) (hok : algOkB z fs = true) :
    Calls Try.prog 37 #[.agg #[.int .i64 z, .slice ao n c], .func (.func 42) #[] #[]] w fun e w' =>
      ∃ (g m d : Nat) (ts : List Nat), e = .returned (.slice (some ⟨g, 0, none⟩) m d) ∧ ts.map (fun s => listK s 8) = allL (subP z fs (fun s => s != 0)) (2 ^ z.toNat) ∧ (∀ s, s ∈ ts → s < 2 ^ 8) ∧ m ≤ 256 ∧ w'.ownsRow w.heap.size 53 1 (.slice (some ⟨g, 0, none⟩) m d) m (ts.map setV) ∧ Below w.heap.size w w' := by
  have hmf : ∀ (fn : Fn) (first cap : Array Value) (w : World), (Instr.makeFunc fn first cap).run Try.prog w = .ok (.func fn first cap) w := fun _ _ _ _ => rfl
  obtain ⟨hz1, hz8⟩ := (algOkB_of hok).1
  have hB := below_then (below_alloc w (.cells #[.int .i64 z, .slice ao n c] 31)) (below_alloc _ (.cells #[.func (.func 42) #[] #[]] 54))
  have hne : ∃ s, s < 2 ^ z.toNat ∧ subP z fs (fun s => s != 0) s = true := ⟨2 ^ z.toNat - 1, by have := Nat.two_pow_pos z.toNat; omega, by have h2 : 2 ^ 1 ≤ 2 ^ z.toNat := Nat.pow_le_pow_right (by decide) (by omega); simp only [subP, full_step hok (n := z.toNat) (by omega), decide_true, Bool.and_true, bne_iff_ne]; omega⟩
  have hS := setsThat_any z ao c n (w.heap.size + 1) w.heap.size (subP z fs (fun s => s != 0)) ((w.alloc (.cells #[.int .i64 z, .slice ao n c] 31)).alloc (.cells #[.func (.func 42) #[] #[]] 54)) hz1 hz8
    (fun s W hs hW => thatMin_any lo hi z ao c n (w.heap.size + 1) w.heap.size fs s W (hv.kept (Kept.of_below (hB.trans (hW.mono hB.size)) hhi)) (Nat.le_trans hhi (hB.trans (hW.mono hB.size)).size) hok hs
      (cell_b hW (by have h_ := cell_new1 (w.alloc (.cells #[.int .i64 z, .slice ao n c] 31)) (.func (.func 42) #[] #[]) 54; rw [World.size_alloc] at h_; exact h_))
      (cell_b hW (cell_b (below_alloc _ _) (by simp))) (cell_b hW (cell_b (below_alloc _ _) (by simp)))) hne
  have HS := Lib.hid hS
  have HB := Lib.hid hB
  clear hv hok hB hne hS
  go_enter Try.func37, Try.ntmps37
  go_wp2_with fail
  refine HS.out.mono ?_
  rintro e w2 ⟨g, m, d, ts, rfl, hts, hlt, hm, ho, b2⟩
  have HB2 := Lib.hid (HB.out.trans (b2.mono HB.out.size))
  have HO := Lib.hid (ownsRow_base ho HB.out.size)
  have HT := Lib.hid hts
  have HL := Lib.hid hlt
  clear b2 ho hts hlt
  go_wp2_with fail
  go_ret
  exact ⟨g, m, d, ts, rfl, HT.out, HL.out, hm, HO.out, HB2.out⟩

set_option maxHeartbeats 1000000 in
theorem implMinimalSubs (lo hi : Nat) (z : Int) (ao : Option Addr) (c n : Nat) (fs : List OpD) (w : World) (hv : OView w lo hi ao n fs) (hhi : hi ≤ w.heap.size) (hs : ∀ (j : Nat) (f : OpD), fs[j]? = some f → f.2.length ≤ maxLen) :
    Calls Try.prog 19 #[.agg #[.int .i64 z, .slice ao n c]] w fun e w' => ResS w w' (valMinimalSubs z fs).1 (valMinimalSubs z fs).2 e := by
  have hB := below_alloc w (.cells #[.int .i64 z, .slice ao n c] 31)
  have HB := Lib.hid hB
  have HV := Lib.hid hv
  have cz : (w.alloc (.cells #[.int .i64 z, .slice ao n c] 31)).cell? ⟨w.heap.size, 0, none⟩ = some (.int .i64 z) := by simp
  have ca : (w.alloc (.cells #[.int .i64 z, .slice ao n c] 31)).cell? ⟨w.heap.size, 1, none⟩ = some (.slice ao n c) := by simp
  have hC := isAlg_any lo hi z ao c n fs _ (hv.kept (Kept.of_below hB hhi)) (Nat.le_trans hhi hB.size) hs
  obtain ⟨r, hr⟩ : ∃ r, algOkB z fs = r := ⟨_, rfl⟩
  rw [hr] at hC
  have HC := Lib.hid hC
  have HRr := Lib.hid hr
  unfold ResS valMinimalSubs
  rw [hr]
  cases r with
  | false =>
    clear hv hs hB hC hr
    go_enter Try.func19, Try.ntmps19
    go_wp2_with fail
    refine HC.out.mono ?_
    rintro e w1 ⟨rfl, b1⟩
    have HB1 := Lib.hid (HB.out.trans (b1.mono HB.out.size))
    clear b1
    go_wp2_with fail
    go_ret2
    obtain ⟨G, C, h_⟩ := BuiltL.nil w1 w.heap.size (fun j => ([] : List (List Int)).getD j [])
    exact ⟨none, 0, 0, rfl, rfl, ⟨G, C, h_⟩, HB1.out⟩
  | true =>
    clear hv hs hB hC hr
    go_enter Try.func19, Try.ntmps19
    go_wp2_with fail
    refine HC.out.mono ?_
    rintro e w1 ⟨rfl, b1⟩
    have HB1 := Lib.hid (HB.out.trans (b1.mono HB.out.size))
    have cz1 := cell_b b1 cz
    have ca1 := cell_b b1 ca
    have HS := Lib.hid (subsMin_any lo hi z ao c n fs w1 (HV.out.kept (Kept.of_below HB1.out hhi)) (Nat.le_trans hhi HB1.out.size) HRr.out)
    clear b1 cz ca
    go_wp2_with fail
    refine HS.out.mono ?_
    rintro e w3 ⟨g, m, d, ts, rfl, hts, hlt, hm, ho, b3⟩
    have HB3 := Lib.hid (HB1.out.trans (b3.mono HB1.out.size))
    have HU := Lib.hid (unbeaten_any _ g m d ts w3 ho (by omega) hlt)
    have HT0 := Lib.hid (ub_min (fs := fs) (algOkB_of HRr.out).1.2 hts hlt)
    have HLt : Hid (∀ s, s ∈ ubL ts → s < 2 ^ 8) := fun s h_ => hlt s (List.mem_filter.1 h_).1
    clear b3 ho hts hlt
    go_wp2_with fail
    refine HU.out.mono ?_
    rintro e w5 ⟨g5, k5, d5, rfl, hk5, ho5, b5⟩
    have HB5 := Lib.hid (HB3.out.trans (b5.mono HB3.out.size))
    have h256 : k5 ≤ 256 := by
      have h1 := hk5.out
      have h2 : (ubL ts).length ≤ 2 ^ z.toNat := by
        have h3 := congrArg List.length HT0.out
        rw [List.length_map] at h3
        rw [h3]; exact allL_len _ _
      have h4 : 2 ^ z.toNat ≤ 2 ^ 8 := Nat.pow_le_pow_right (by decide) (by have := (algOkB_of HRr.out).1.2; omega)
      omega
    have HLi := Lib.hid (listsOf_any _ g5 k5 d5 (ubL ts) w5 ho5 (by omega) HLt.out)
    have HT := HT0
    have HM : Hid (k5 = (allL (minP z fs) (2 ^ z.toNat)).length) := by
      unfold Hid
      rw [← HT0.out, List.length_map]
      exact hk5.out
    clear b5 ho5 HT0
    go_wp2_with fail
    refine HLi.out.mono ?_
    rintro e w4 ⟨a4, c4, rfl, hbu, b4⟩
    have HB4 := Lib.hid (HB5.out.trans (b4.mono HB5.out.size))
    obtain ⟨G, C, hL⟩ := hbu
    have HL := Lib.hid (hL.lo_mono HB5.out.size)
    clear b4 hL
    go_wp2_with fail
    go_ret2
    exact ⟨a4, k5, c4, rfl, HM.out, ⟨G, C, by have h_ := HL.out; rw [HT.out] at h_; exact h_⟩, HB4.out⟩




def witB (xs ys : List Int) : Bool := xs.all fun x => decide (x ∈ ys)
theorem within5_any (lo hi lo2 hi2 : Nat) (ao bo : Option Addr) (n m c d : Nat) (xs ys : List Int) (w : World) (hx : IView w lo hi ao n xs) (hy : IView w lo2 hi2 bo m ys) (hn : n ≤ 1048576) (hm : m ≤ maxLen) :
    Calls Try.prog 41 #[.slice ao n c, .slice bo m d] w fun e w' => e = .returned (.bool (witB xs ys)) ∧ w = w' := by
  have HX := Lib.hid hx
  have HH := Lib.hid (fun x => l1Has_any lo2 hi2 bo d m ys x w hy hm)
  obtain ⟨R, hR⟩ : ∃ R, witB xs ys = R := ⟨_, rfl⟩
  have HR := Lib.hid hR
  rw [hR]
  clear hx hy hR
  go_enter Try.func41, Try.ntmps41
  go_wp2_with fail
  go_loop [5] (fun i => ∃ k : Nat, k ≤ n ∧ i = .int .i64 (k : Int) ∧ Hid (witB (xs.take k) ys = true)) (fun i => n - (intOf i).toNat)
  case atStart => exact ⟨0, Nat.zero_le _, rfl, by unfold Hid witB; simp⟩
  case round =>
    obtain ⟨k, hk, rfl, HT⟩ := hrel
    by_cases hkn : k < n
    · have hkn' : (k : Int) < (n : Int) := by omega
      obtain ⟨b, o, rfl, _, _, hc⟩ := HX.out.at_ (by omega)
      obtain ⟨x, hx⟩ := get_of_lt HX.out.1 hkn
      have hcell := hc k x hx
      have HC0 := HH.out x
      obtain ⟨u, hu⟩ : ∃ u, decide (x ∈ ys) = u := ⟨_, rfl⟩
      rw [hu] at HC0
      have HC := Lib.hid HC0
      have HXx := Lib.hid hx
      have HU := Lib.hid hu
      clear hc HC0 hx hu
      cases u with
      | true =>
        have HT2 : Hid (witB (xs.take (k + 1)) ys = true) := by
          have h_ : witB (xs.take k) ys = true := HT.out
          have h2_ : xs[k]? = some x := HXx.out
          have h3_ : decide (x ∈ ys) = true := HU.out
          unfold witB at h_
          unfold Hid witB
          rw [List.take_add_one, h2_, Option.toList_some, List.all_append, h_]
          simp [h3_]
        go_wp2_with fail
        refine HC.out.mono ?_
        rintro e w1 ⟨rfl, rfl⟩
        go_wp2_with fail
        go_round
        case rel => exact ⟨k + 1, by omega, by go_num, HT2⟩
        case measure => simp [intOf]; omega
      | false =>
        have HF : Hid (R = false) := by
          have h_ : witB xs ys = false := by
            unfold witB
            rw [List.all_eq_false]
            exact ⟨x, List.mem_of_getElem? HXx.out, by rw [HU.out]; simp⟩
          exact HR.out.symm.trans h_
        go_wp2_with fail
        refine HC.out.mono ?_
        rintro e w1 ⟨rfl, rfl⟩
        go_wp2_with fail
        go_ret
        exact ⟨ret_bool HF.out.symm, rfl⟩
    · have hkn' : ¬ (k : Int) < (n : Int) := by omega
      have HF : Hid (R = true) := by
        have h_ := HT.out
        rw [List.take_of_length_le (by have := HX.out.1; omega)] at h_
        exact HR.out.symm.trans h_
      go_wp2_with fail
      go_ret
      exact ⟨ret_bool HF.out.symm, rfl⟩

def btB (x y : List Int) : Bool := decide (0 < x.length) && (decide (x.length < y.length) && witB x y)
def lstB (ls : List (List Int)) (y : List Int) (k : Nat) : Bool := decide (0 < y.length) && (ls.take k).all fun x => !btB x y
theorem lst_succ {ls : List (List Int)} {x y : List Int} {k : Nat} (hx : ls[k]? = some x) : lstB ls y (k + 1) = (lstB ls y k && !btB x y) := by
  unfold lstB
  rw [List.take_add_one, hx, Option.toList_some, List.all_append, Bool.and_assoc]; simp
theorem bt_hit {s t n : Nat} (hs : s < 2 ^ n) (ht : t < 2 ^ n) (hn : n ≤ 8) : btB (listK t 8) (listK s 8) = ((t != 0) && hitB t s) := by
  have hp : 2 ^ n ≤ 2 ^ 8 := Nat.pow_le_pow_right (by decide) hn
  have hs8 : s < 2 ^ 8 := by omega
  have ht8 : t < 2 ^ 8 := by omega
  have h0 : decide (0 < (listK t 8).length) = (t != 0) := by
    by_cases h : t = 0
    · subst h; decide
    · have h1 : ¬ (listK t 8).length = 0 := fun h2 => h (by
        have h3 : listK t 8 = [] := List.eq_nil_of_length_eq_zero h2
        rw [← set_list ht8, h3]; rfl)
      rw [bne_iff_ne.2 h]; exact decide_eq_true (by omega)
  have hw : witB (listK t 8) (listK s 8) = true ↔ ∀ k, t.testBit k = true → s.testBit k = true := by
    unfold witB
    rw [List.all_eq_true]
    constructor
    · intro h k hk
      have hk8 : k < 8 := by
        by_cases hlt : k < 8
        · exact hlt
        · have : 2 ^ 8 ≤ 2 ^ k := Nat.pow_le_pow_right (by decide) (by omega)
          rw [Nat.testBit_lt_two_pow (by omega)] at hk; cases hk
      exact ((mem_listK_nat s 8 k).1 (of_decide_eq_true (h _ ((mem_listK_nat t 8 k).2 ⟨hk8, hk⟩)))).2
    · intro h x hx
      obtain ⟨j, hj, rfl, hb⟩ := (mem_listK _ _ _).1 hx
      exact decide_eq_true ((mem_listK_nat s 8 j).2 ⟨hj, h j hb⟩)
  have hd : diffN t s = 0 ↔ ∀ k, t.testBit k = true → s.testBit k = true := by
    constructor
    · intro h k hk
      have h1 := diffN_bit (s := t) (t := s) (k := k) ht8
      rw [h, Nat.zero_testBit, hk] at h1
      cases hb : s.testBit k with
      | true => rfl
      | false => rw [hb] at h1; cases h1
    · intro h
      refine Nat.eq_of_testBit_eq fun k => ?_
      rw [diffN_bit ht8, Nat.zero_testBit]
      cases hb : t.testBit k with
      | false => rfl
      | true => rw [h k hb]; rfl
  unfold btB hitB
  rw [h0]
  congr 1
  rw [Bool.eq_iff_iff, Bool.and_eq_true, Bool.and_eq_true, hw, decide_eq_true_eq, decide_eq_true_eq, hd, bne_iff_ne]
  constructor
  · rintro ⟨h1, h2⟩
    exact ⟨fun e => by rw [e] at h1; omega, h2⟩
  · rintro ⟨h1, h2⟩
    exact ⟨listK_lt_len 8 ht8 hs8 h2 h1, h2⟩
theorem min_eq {z : Int} {fs : List OpD} {ls : List (List Int)} (hz : z.toNat ≤ 8) (hls : allL (subP z fs fun _ => true) (2 ^ z.toNat) = ls) : ls.filter (fun y : List Int => lstB ls y ls.length) = allL (minP z fs) (2 ^ z.toNat) := by
  have hb : 2 ^ z.toNat ≤ 2 ^ 8 := Nat.pow_le_pow_right (by decide) hz
  have h1 := allL_filter (p := (subP z fs fun _ => true)) (q := (fun y : List Int => lstB ls y ls.length)) hb
  rw [hls] at h1
  rw [h1]
  refine allL_congr fun s hs => ?_
  have h0 : decide (0 < (listK s 8).length) = (s != 0) := by
    by_cases h : s = 0
    · subst h; decide
    · have h2 : ¬ (listK s 8).length = 0 := fun h2 => h (by
        have h3 : listK s 8 = [] := List.eq_nil_of_length_eq_zero h2
        rw [← set_list (show s < 2 ^ 8 by omega), h3]; rfl)
      rw [bne_iff_ne.2 h]; exact decide_eq_true (by omega)
  have h2 : (ls.all fun x => !btB x (listK s 8)) = !(List.range (2 ^ z.toNat)).any fun t => fillP z fs t && hitB t s := by
    rw [Bool.eq_iff_iff, List.all_eq_true, Bool.not_eq_true', List.any_eq_false]
    constructor
    · intro h t ht
      rw [List.mem_range] at ht
      intro h3
      rw [Bool.and_eq_true] at h3
      have h4 : subP z fs (fun _ => true) t = true ∧ (t != 0) = true := by
        have h5 := h3.1
        unfold fillP subP at h5
        unfold subP
        rw [Bool.and_eq_true] at h5
        exact ⟨by rw [h5.2]; rfl, h5.1⟩
      have h6 := h (listK t 8) (by rw [← hls]; exact allL_mem.2 ⟨t, ht, h4.1, rfl⟩)
      rw [bt_hit hs ht hz, h4.2, h3.2] at h6
      cases h6
    · intro h x hx
      rw [← hls] at hx
      obtain ⟨t, ht, h3, rfl⟩ := allL_mem.1 hx
      rw [bt_hit hs ht hz]
      have h4 := h t (List.mem_range.2 ht)
      have h5 : fillP z fs t = (t != 0) := by
        unfold fillP
        unfold subP at h3 ⊢
        rw [Bool.true_and] at h3
        rw [h3, Bool.and_true]
      rw [h5] at h4
      cases hq : ((t != 0) && hitB t s) with
      | false => rfl
      | true => exact absurd hq h4
  show (subP z fs (fun _ => true) s && lstB ls (listK s 8) ls.length) = minP z fs s
  unfold lstB minP
  rw [List.take_of_length_le (Nat.le_refl _), h2, h0]
  generalize ((List.range (2 ^ z.toNat)).any fun t => fillP z fs t && hitB t s) = e
  unfold fillP subP
  simp only [Bool.true_and]
  cases (s != 0) <;> cases decide (stepN z fs s = s) <;> simp

set_option maxHeartbeats 4000000 in
set_option maxRecDepth 100000 in
theorem specMinimalSubs (lo hi : Nat) (z : Int) (ao : Option Addr) (c n : Nat) (fs : List OpD) (w : World) (hv : OView w lo hi ao n fs) (hhi : hi ≤ w.heap.size) (hs : ∀ (j : Nat) (f : OpD), fs[j]? = some f → f.2.length ≤ maxLen) :
    Calls Try.prog 18 #[.agg #[.int .i64 z, .slice ao n c]] w fun e w' => ResV w w' (valMinimalSubs z fs).1 (valMinimalSubs z fs).2 e := by
  obtain ⟨i0, hi0, hz0, hz1, hz2⟩ := info_parts Try.infoInts
  have hB : Below w.heap.size w ((w.alloc (.cells #[.int .i64 z, .slice ao n c] 31)).alloc (.cells #[] 40)) := below_then (below_alloc _ _) (below_alloc _ _)
  have HB := Lib.hid hB
  have HV := Lib.hid hv
  have cz : ((w.alloc (.cells #[.int .i64 z, .slice ao n c] 31)).alloc (.cells #[] 40)).cell? ⟨w.heap.size, 0, none⟩ = some (.int .i64 z) := cell_b (below_alloc _ _) (by simp)
  have ca : ((w.alloc (.cells #[.int .i64 z, .slice ao n c] 31)).alloc (.cells #[] 40)).cell? ⟨w.heap.size, 1, none⟩ = some (.slice ao n c) := cell_b (below_alloc _ _) (by simp)
  have hO : ((w.alloc (.cells #[.int .i64 z, .slice ao n c] 31)).alloc (.cells #[] 40)).ownsRow (w.heap.size + 1) 40 1 (.slice (some ⟨w.heap.size + 1, 0, none⟩) 0 0) 0 [] := by
    have h_ := own_nilL (w.alloc (.cells #[.int .i64 z, .slice ao n c] 31)) (base := w.heap.size + 1) (by rw [World.size_alloc]; exact Nat.le_refl _)
    rw [World.size_alloc] at h_
    exact h_
  have HO := Lib.hid hO
  have hC := good_any lo hi z ao c n fs _ (hv.kept (Kept.of_below hB hhi)) (Nat.le_trans hhi hB.size) hs
  obtain ⟨r, hr⟩ : ∃ r, algOkB z fs = r := ⟨_, rfl⟩
  rw [hr] at hC
  have HC := Lib.hid hC
  have HRr := Lib.hid hr
  unfold ResV valMinimalSubs
  rw [hr]
  cases r with
  | false =>
    clear hv hs hB hC hr hO
    go_enter Try.func18, Try.ntmps18
    go_wp2_with fail
    refine HC.out.mono ?_
    rintro e w1 ⟨rfl, b1⟩
    have HB1 := Lib.hid (HB.out.trans (b1.mono HB.out.size))
    clear b1
    go_wp2_with fail
    go_ret2
    exact ⟨_, 0, ⟨0, rfl⟩, rfl, ⟨rfl, .inl rfl⟩, HB1.out⟩
  | true =>
    obtain ⟨hz1', hz8'⟩ := (algOkB_of hr).1
    obtain ⟨ls, hls⟩ : ∃ ls, allL (subP z fs fun _ => true) (2 ^ z.toNat) = ls := ⟨_, rfl⟩
    have HEq : Hid (ls.filter (fun y : List Int => lstB ls y ls.length) = allL (minP z fs) (2 ^ z.toNat)) := min_eq (by omega) hls
    have HY8 : Hid (∀ y, y ∈ ls → y.length ≤ 8) := fun y hy => by
      rw [← hls] at hy
      obtain ⟨s, _, _, rfl⟩ := allL_mem.1 hy
      exact listK_le s 8
    simp only [if_true]
    rw [← HEq.out]
    have HLs := Lib.hid hls
    clear hv hs hB hC hr hO hls HEq
    go_enter Try.func18, Try.ntmps18
    go_wp2_with fail
    refine HC.out.mono ?_
    rintro e w1 ⟨rfl, b1⟩
    have HB1 := Lib.hid (HB.out.trans (b1.mono HB.out.size))
    have HO1 := Lib.hid (HO.out.kept (grown_of_below b1 none) (own_em _))
    have cz1 := cell_b b1 cz
    have ca1 := cell_b b1 ca
    have hsz1 : w.heap.size + 1 + 1 ≤ w1.heap.size := by have := b1.size; simp only [World.size_alloc] at this; exact this
    have hAll := l5All_any lo hi z ao c n fs w1 (HV.out.kept (Kept.of_below HB1.out hhi)) (Nat.le_trans hhi HB1.out.size) HRr.out
    rw [HLs.out] at hAll
    have HAll := Lib.hid hAll
    clear hAll b1 cz ca
    go_wp2_with fail
    refine HAll.out.mono ?_
    rintro e w3 ⟨g3, M, d3, vs3, rfl, hM, hM256, ho3, hi3, b3⟩
    have HB3 := Lib.hid (HB1.out.trans (b3.mono HB1.out.size))
    have HO3 := Lib.hid (HO1.out.kept (grown_of_below b3 none) (own_em _))
    have hs31 : w1.heap.size ≤ w3.heap.size := b3.size
    have HI3 := Lib.hid hi3
    have HR3 := Lib.hid ho3
    have hg3 := ho3.lt g3 rfl
    have hMl : M = ls.length := hM
    have HMl := Lib.hid hMl
    clear b3 ho3 hi3 hM cz1 ca1 hMl
    go_wp2_with fail
    go_loopw [4, 6] (fun v i wr => ∃ (k m d g : Nat) (vs : List Value), k ≤ M ∧ i = .int .i64 (k : Int) ∧ v = .slice (some ⟨g, 0, none⟩) m d ∧ m ≤ k ∧ Hid (g < w1.heap.size + 1 ∨ w3.heap.size ≤ g) ∧ Hid (m = ((ls.take k).filter (fun y : List Int => lstB ls y ls.length)).length) ∧ Hid (wr.ownsRow (w.heap.size + 1) 40 1 (.slice (some ⟨g, 0, none⟩) m d) m vs) ∧ Hid (InnL w3 (w1.heap.size + 1) vs ((ls.take k).filter (fun y : List Int => lstB ls y ls.length))) ∧ Hid (Kept (w1.heap.size + 1) w3.heap.size w3 wr) ∧ Hid (w3.heap.size ≤ wr.heap.size) ∧ Hid (Below w.heap.size w wr)) (fun _ i _ => M - (intOf i).toNat)
    case atStart => exact ⟨0, 0, 0, _, [], Nat.zero_le _, rfl, rfl, Nat.le_refl _, .inl (by omega), (by unfold Hid; simp), HO3.out, InnL.nil _ _, (fun k _ _ => rfl), Nat.le_refl _, HB3.out⟩
    case round =>
      obtain ⟨k, m, d, g, vs, hk, rfl, rfl, hmk, HG, HMk, HR, HIk, HK, HSz, HBr⟩ := hrel
      by_cases hkM : k < M
      · have hkM' : (k : Int) < (M : Int) := by omega
        obtain ⟨a2, m2, c2, y, hv2, hy, hmc2, hc2, hvy⟩ := HI3.out.at_ (j := k) (by have := HMl.out; omega)
        have hc3 : w3.cell? ⟨g3, k, none⟩ = some (.slice a2 m2 c2) := by rw [HR3.out.cellAt k (by omega)]; exact hv2
        have hcell : wr.cell? ⟨g3, k, none⟩ = some (.slice a2 m2 c2) := (HK.out.cell (p := ⟨g3, k, none⟩) hg3.1 hg3.2).trans hc3
        have HVy := Lib.hid (hvy.kept HK.out)
        have hl8 : m2 ≤ 8 := by rw [← hvy.1]; exact HY8.out y (List.mem_of_getElem? hy)
        have HIn := Lib.hid (InnL.one (w := w3) (B := w1.heap.size + 1) (v := .slice a2 m2 c2) (xs := y) ⟨a2, m2, c2, rfl, hmc2, hc2, hvy⟩)
        have HYk := Lib.hid hy
        have HYl := Lib.hid hvy.1
        have HL0 : Hid (decide (0 < m2) = lstB ls y 0) := by
          unfold Hid lstB
          have h_ := hvy.1
          simp only [List.take_zero, List.all_nil, Bool.and_true]
          rw [h_]
        clear hv2 hy hvy hc3
        go_wp2_with fail
        go_loopw [7, 8] (fun l j wq => ∃ (b q : Nat), b ≤ M ∧ j = .int .i64 (b : Int) ∧ l = .bool (lstB ls y b) ∧ wq = wr.drewN q) (fun _ j _ => M - (intOf j).toNat)
        case atStart => exact ⟨0, 0, Nat.zero_le _, rfl, by rw [← HL0.out], rfl⟩
        case round =>
          obtain ⟨b, q, hbM, rfl, rfl, rfl⟩ := hrel
          by_cases hlt : b < M
          · have hlt' : (b : Int) < (M : Int) := by omega
            obtain ⟨aj, mj, cj, x, hvj, hxj, hmcj, hcj, hvx⟩ := HI3.out.at_ (j := b) (by have := HMl.out; omega)
            have hcj3 : w3.cell? ⟨g3, b, none⟩ = some (.slice aj mj cj) := by rw [HR3.out.cellAt b (by omega)]; exact hvj
            have hcjr : wr.cell? ⟨g3, b, none⟩ = some (.slice aj mj cj) := (HK.out.cell (p := ⟨g3, b, none⟩) hg3.1 hg3.2).trans hcj3
            have cj3 : (wr.drewN q).drew.cell? ⟨g3, b, none⟩ = some (.slice aj mj cj) := hcjr
            have ci3 : (wr.drewN q).drew.cell? ⟨g3, k, none⟩ = some (.slice a2 m2 c2) := hcell
            have hlj : mj ≤ 8 := by rw [← hvx.1]; exact HY8.out x (List.mem_of_getElem? hxj)
            have HVx : Hid (IView (wr.drewN q).drew (w1.heap.size + 1) w3.heap.size aj mj x) := (hvx.kept HK.out).kept (fun _ _ _ => rfl)
            have HVy2 : Hid (IView (wr.drewN q).drew (w1.heap.size + 1) w3.heap.size a2 m2 y) := HVy.out.kept (fun _ _ _ => rfl)
            have hwi := within5_any _ _ _ _ aj a2 mj m2 cj c2 x y (wr.drewN q).drew HVx.out HVy2.out (by omega) (by unfold maxLen; omega)
            have hlx := hvx.1
            have hly := HYl.out
            have hsu := lst_succ (y := y) hxj
            obtain ⟨l0, hl0⟩ : ∃ l0, lstB ls y b = l0 := ⟨_, rfl⟩
            rw [hl0] at hsu ⊢
            have hbt : btB x y = (decide (0 < mj) && (decide (mj < m2) && witB x y)) := by unfold btB; rw [hlx, hly]
            rw [hbt] at hsu
            by_cases h1 : 0 < mj
            · have h1' : (0 : Int) < (mj : Int) := by omega
              have hd1 : decide (0 < mj) = true := decide_eq_true h1
              rw [decide_eq_true h1, Bool.true_and] at hsu
              by_cases h2 : mj < m2
              · have h2' : (mj : Int) < (m2 : Int) := by omega
                have hd2 : decide (mj < m2) = true := decide_eq_true h2
                rw [decide_eq_true h2, Bool.true_and] at hsu
                obtain ⟨u, hu⟩ : ∃ u, witB x y = u := ⟨_, rfl⟩
                rw [hu] at hwi hsu
                have HWi := Lib.hid hwi
                clear hwi hu hvj hxj hvx hcj3 hlx hly hl0 hbt
                cases u with
                | true =>
                  have HN : Hid (lstB ls y (b + 1) = false) := by unfold Hid; rw [hsu]; simp
                  clear hsu
                  go_wp2_with fail
                  refine wp_region_noPanic ?_
                  refine wp_region_held_drew (S := fun W => W.cell? ⟨g3, b, none⟩ = some (.slice aj mj cj) ∧ W.cell? ⟨g3, k, none⟩ = some (.slice a2 m2 c2)) (by kernel_rfl) ?_ (fun hHeld => ?_)
                  · exact ⟨cj3, ci3⟩
                  refine wpAnyH_take (i := 0) (oi := ⟨_, _, _, _, _, _⟩) (v := ?_) rfl (by kernel_rfl) (by kernel_rfl) (by kernel_rfl) (fun _ _ _ h => h) (Or.inl ⟨rfl, ?_⟩) (by assumption) ?_
                  rotate_left 1
                  · intro w_ hSw; (try dsimp only at hSw); go_simp; (try with_reducible rfl)
                  (try simp only [Act.put, List.setIfInBounds_toArray, List.set_cons_zero, List.set_cons_succ])
                  refine wpAnyH_take (i := 1) (oi := ⟨_, _, _, _, _, _⟩) (v := ?_) rfl (by kernel_rfl) (by kernel_rfl) (by kernel_rfl) (fun _ _ _ h => h) (Or.inl ⟨rfl, ?_⟩) (by assumption) ?_
                  rotate_left 1
                  · intro w_ hSw; (try dsimp only at hSw); go_simp; (try with_reducible rfl)
                  (try simp only [Act.put, List.setIfInBounds_toArray, List.set_cons_zero, List.set_cons_succ])
                  refine wpAnyH_take (i := 2) (oi := ⟨_, _, _, _, _, _⟩) (v := ?_) rfl (by kernel_rfl) (by kernel_rfl) (by kernel_rfl) (fun _ _ _ h => h) (Or.inl ⟨rfl, ?_⟩) (by assumption) ?_
                  rotate_left 1
                  · intro w_ hSw; (try dsimp only at hSw); go_simp; (try with_reducible rfl)
                  (try simp only [Act.put, List.setIfInBounds_toArray, List.set_cons_zero, List.set_cons_succ])
                  refine wpAnyH_take (i := 3) (oi := ⟨_, _, _, _, _, _⟩) (v := ?_) rfl (by kernel_rfl) (by kernel_rfl) (by kernel_rfl) (fun _ _ _ h => h) (Or.inl ⟨rfl, ?_⟩) (by assumption) ?_
                  rotate_left 1
                  · intro w_ hSw; (try dsimp only at hSw); go_simp; (try with_reducible rfl)
                  (try simp only [Act.put, List.setIfInBounds_toArray, List.set_cons_zero, List.set_cons_succ])
                  refine wpAnyH_take (i := 4) (oi := ⟨_, _, _, _, _, _⟩) (v := ?_) rfl (by kernel_rfl) (by kernel_rfl) (by kernel_rfl) (fun _ _ _ h => h) (Or.inl ⟨rfl, ?_⟩) (by assumption) ?_
                  rotate_left 1
                  · intro w_ hSw; (try dsimp only at hSw); go_simp; (try with_reducible rfl)
                  (try simp only [Act.put, List.setIfInBounds_toArray, List.set_cons_zero, List.set_cons_succ])
                  refine wpAnyH_take (i := 5) (oi := ⟨_, _, _, _, _, _⟩) (v := ?_) rfl (by kernel_rfl) (by kernel_rfl) (by kernel_rfl) (fun _ _ _ h => h) (Or.inl ⟨rfl, ?_⟩) (by assumption) ?_
                  rotate_left 1
                  · intro w_ hSw; (try dsimp only at hSw); go_simp; (try with_reducible rfl)
                  (try simp only [Act.put, List.setIfInBounds_toArray, List.set_cons_zero, List.set_cons_succ])
                  refine wpAnyH_take (i := 6) (oi := ⟨_, _, _, _, _, _⟩) (v := ?_) rfl (by kernel_rfl) (by kernel_rfl) (by kernel_rfl) (fun _ _ _ h => h) (Or.inl ⟨rfl, ?_⟩) (by assumption) ?_
                  rotate_left 1
                  · intro w_ hSw; (try dsimp only at hSw); go_simp; (try with_reducible rfl)
                  (try simp only [Act.put, List.setIfInBounds_toArray, List.set_cons_zero, List.set_cons_succ])
                  refine wpAnyH_take (i := 7) (oi := ⟨_, _, _, _, _, _⟩) (v := ?_) rfl (by kernel_rfl) (by kernel_rfl) (by kernel_rfl) (fun _ _ _ h => h) (Or.inl ⟨rfl, ?_⟩) (by assumption) ?_
                  rotate_left 1
                  · intro w_ hSw; (try dsimp only at hSw); go_simp; (try with_reducible rfl)
                  (try simp only [Act.put, List.setIfInBounds_toArray, List.set_cons_zero, List.set_cons_succ])
                  refine wpAnyH_take (i := 8) (oi := ⟨_, _, _, _, _, _⟩) (v := ?_) rfl (by kernel_rfl) (by kernel_rfl) (by kernel_rfl) (fun _ _ _ h => h) (Or.inl ⟨rfl, ?_⟩) (by assumption) ?_
                  rotate_left 1
                  · intro w_ hSw; (try dsimp only at hSw); go_simp; (try with_reducible rfl)
                  (try simp only [Act.put, List.setIfInBounds_toArray, List.set_cons_zero, List.set_cons_succ])
                  refine wpAnyH_take (i := 9) (oi := ⟨_, _, _, _, _, _⟩) (v := ?_) rfl (by kernel_rfl) (by kernel_rfl) (by kernel_rfl) (fun _ _ _ h => h) (Or.inl ⟨rfl, ?_⟩) (by assumption) ?_
                  rotate_left 1
                  · intro w_ hSw; (try dsimp only at hSw); go_simp; (try with_reducible rfl)
                  (try simp only [Act.put, List.setIfInBounds_toArray, List.set_cons_zero, List.set_cons_succ])
                  refine wpAnyH_take (i := 10) (oi := ⟨_, _, _, _, _, _⟩) (v := ?_) rfl (by kernel_rfl) (by kernel_rfl) (by kernel_rfl) (fun _ _ _ h => h) (Or.inl ⟨rfl, ?_⟩) (by assumption) ?_
                  rotate_left 1
                  · intro w_ hSw; (try dsimp only at hSw); go_simp; (try with_reducible rfl)
                  (try simp only [Act.put, List.setIfInBounds_toArray, List.set_cons_zero, List.set_cons_succ])
                  refine wpAnyH_take (i := 11) (oi := ⟨_, _, _, _, _, _⟩) (v := ?_) rfl (by kernel_rfl) (by kernel_rfl) (by kernel_rfl) (fun _ _ _ h => h) (Or.inl ⟨rfl, ?_⟩) (by assumption) ?_
                  rotate_left 1
                  · intro w_ hSw; (try dsimp only at hSw); go_simp; (try with_reducible rfl)
                  (try simp only [Act.put, List.setIfInBounds_toArray, List.set_cons_zero, List.set_cons_succ])
                  refine wpAnyH_take (i := 12) (oi := ⟨_, _, _, _, _, _⟩) (v := ?_) rfl (by kernel_rfl) (by kernel_rfl) (by kernel_rfl) (fun _ _ _ h => h) (Or.inl ⟨rfl, ?_⟩) (by assumption) ?_
                  rotate_left 1
                  · intro w_ hSw; (try dsimp only at hSw); go_simp; (try with_reducible rfl)
                  (try simp only [Act.put, List.setIfInBounds_toArray, List.set_cons_zero, List.set_cons_succ])
                  refine wpAnyH_take (i := 13) (oi := ⟨_, _, _, _, _, _⟩) (v := ?_) rfl (by kernel_rfl) (by kernel_rfl) (by kernel_rfl) (fun _ _ _ h => h) (Or.inl ⟨rfl, ?_⟩) (by assumption) ?_
                  rotate_left 1
                  · intro w_ hSw; (try dsimp only at hSw); go_simp; (try with_reducible rfl)
                  (try simp only [Act.put, List.setIfInBounds_toArray, List.set_cons_zero, List.set_cons_succ])
                  refine wpAnyH_take (i := 14) (oi := ⟨_, _, _, _, _, _⟩) (v := ?_) rfl (by kernel_rfl) (by kernel_rfl) (by kernel_rfl) (fun _ _ _ h => h) (Or.inl ⟨rfl, ?_⟩) (by assumption) ?_
                  rotate_left 1
                  · intro w_ hSw; (try dsimp only at hSw); go_simp; (try with_reducible rfl)
                  (try simp only [Act.put, List.setIfInBounds_toArray, List.set_cons_zero, List.set_cons_succ])
                  refine wpAnyH_take (i := 15) (oi := ⟨_, _, _, _, _, _⟩) (v := ?_) rfl (by kernel_rfl) (by kernel_rfl) (by kernel_rfl) (fun _ _ _ h => h) (Or.inl ⟨rfl, ?_⟩) (by assumption) ?_
                  rotate_left 1
                  · intro w_ hSw; (try dsimp only at hSw); go_simp; (try with_reducible rfl)
                  (try simp only [Act.put, List.setIfInBounds_toArray, List.set_cons_zero, List.set_cons_succ])
                  refine wpAnyH_take (i := 16) (oi := ⟨_, _, _, _, _, _⟩) (v := ?_) rfl (by kernel_rfl) (by kernel_rfl) (by kernel_rfl) (fun _ _ _ h => h) (Or.inl ⟨rfl, ?_⟩) (by assumption) ?_
                  rotate_left 1
                  · intro w_ hSw; (try dsimp only at hSw); go_simp; (try with_reducible rfl)
                  (try simp only [Act.put, List.setIfInBounds_toArray, List.set_cons_zero, List.set_cons_succ])
                  refine wpAnyH_take (i := 17) (oi := ⟨_, _, _, _, _, _⟩) (v := ?_) rfl (by kernel_rfl) (by kernel_rfl) (by kernel_rfl) (fun _ _ _ h => h) (Or.inl ⟨rfl, ?_⟩) (by assumption) ?_
                  rotate_left 1
                  · intro w_ hSw; (try dsimp only at hSw); go_simp; (try with_reducible rfl)
                  (try simp only [Act.put, List.setIfInBounds_toArray, List.set_cons_zero, List.set_cons_succ])
                  refine wpAnyH_take (i := 18) (oi := ⟨_, _, _, _, _, _⟩) (v := ?_) rfl (by kernel_rfl) (by kernel_rfl) (by kernel_rfl) (fun _ _ _ h => h) (Or.inl ⟨rfl, ?_⟩) (by assumption) ?_
                  rotate_left 1
                  · intro w_ hSw; (try dsimp only at hSw); go_simp; (try with_reducible rfl)
                  (try simp only [Act.put, List.setIfInBounds_toArray, List.set_cons_zero, List.set_cons_succ])
                  refine wpAnyH_take (i := 19) (oi := ⟨_, _, _, _, _, _⟩) (v := ?_) rfl (by kernel_rfl) (by kernel_rfl) (by kernel_rfl) (fun _ _ _ h => h) (Or.inl ⟨rfl, ?_⟩) (by assumption) ?_
                  rotate_left 1
                  · intro w_ hSw; (try dsimp only at hSw); go_simp; (try with_reducible rfl)
                  (try simp only [Act.put, List.setIfInBounds_toArray, List.set_cons_zero, List.set_cons_succ])
                  refine wpAnyH_take (i := 20) (oi := ⟨_, _, _, _, _, _⟩) (v := ?_) rfl (by kernel_rfl) (by kernel_rfl) (by kernel_rfl) (fun _ _ _ h => h) (Or.inl ⟨rfl, ?_⟩) (by assumption) ?_
                  rotate_left 1
                  · intro w_ hSw; (try dsimp only at hSw); go_simp; (try with_reducible rfl)
                  (try simp only [Act.put, List.setIfInBounds_toArray, List.set_cons_zero, List.set_cons_succ])
                  refine wpAnyH_take (i := 21) (oi := ⟨_, _, _, _, _, _⟩) (v := ?_) rfl (by kernel_rfl) (by kernel_rfl) (by kernel_rfl) (fun _ _ _ h => h) (Or.inl ⟨rfl, ?_⟩) (by assumption) ?_
                  rotate_left 1
                  · intro w_ hSw; (try dsimp only at hSw); go_simp; (try with_reducible rfl)
                  (try simp only [Act.put, List.setIfInBounds_toArray, List.set_cons_zero, List.set_cons_succ])
                  refine wpAnyH_take (i := 22) (oi := ⟨_, _, _, _, _, _⟩) (v := ?_) rfl (by kernel_rfl) (by kernel_rfl) (by kernel_rfl) (fun _ _ _ h => h) (Or.inl ⟨rfl, ?_⟩) (by assumption) ?_
                  rotate_left 1
                  · intro w_ hSw; (try dsimp only at hSw); go_simp; (try with_reducible rfl)
                  (try simp only [Act.put, List.setIfInBounds_toArray, List.set_cons_zero, List.set_cons_succ])
                  refine wpAnyH_take (i := 23) (oi := ⟨_, _, _, _, _, _⟩) (v := ?_) rfl (by kernel_rfl) (by kernel_rfl) (by kernel_rfl) (fun _ _ _ h => h) (Or.inl ⟨rfl, ?_⟩) (by assumption) ?_
                  rotate_left 1
                  · intro w_ hSw; (try dsimp only at hSw); go_simp; (try with_reducible rfl)
                  (try simp only [Act.put, List.setIfInBounds_toArray, List.set_cons_zero, List.set_cons_succ])
                  refine wpAnyH_take (i := 24) (oi := ⟨_, _, _, _, _, _⟩) (v := ?_) rfl (by kernel_rfl) (by kernel_rfl) (by kernel_rfl) (fun _ _ _ h => h) (Or.inl ⟨rfl, ?_⟩) (by assumption) ?_
                  rotate_left 1
                  · intro w_ hSw; (try dsimp only at hSw); go_simp; (try with_reducible rfl)
                  (try simp only [Act.put, List.setIfInBounds_toArray, List.set_cons_zero, List.set_cons_succ])
                  refine wpAnyH_take (i := 25) (oi := ⟨_, _, _, _, _, _⟩) (v := ?_) rfl (by kernel_rfl) (by kernel_rfl) (by kernel_rfl) (fun _ _ _ h => h) (Or.inl ⟨rfl, ?_⟩) (by assumption) ?_
                  rotate_left 1
                  · intro w_ hSw; (try dsimp only at hSw); go_simp; (try with_reducible rfl)
                  (try simp only [Act.put, List.setIfInBounds_toArray, List.set_cons_zero, List.set_cons_succ])
                  refine wpAnyH_take (i := 26) (oi := ⟨_, _, _, _, _, _⟩) (v := ?_) rfl (by kernel_rfl) (by kernel_rfl) (by kernel_rfl) (fun _ _ _ h => h) (Or.inl ⟨rfl, ?_⟩) (by assumption) ?_
                  rotate_left 1
                  · intro w_ hSw; (try dsimp only at hSw); go_simp; (try with_reducible rfl)
                  (try simp only [Act.put, List.setIfInBounds_toArray, List.set_cons_zero, List.set_cons_succ])
                  refine wpAnyH_take (i := 27) (oi := ⟨_, _, _, _, _, _⟩) (v := ?_) rfl (by kernel_rfl) (by kernel_rfl) (by kernel_rfl) (fun _ _ _ h => h) (Or.inl ⟨rfl, ?_⟩) (by assumption) ?_
                  rotate_left 1
                  · intro w_ hSw; (try dsimp only at hSw); go_simp; (try with_reducible rfl)
                  (try simp only [Act.put, List.setIfInBounds_toArray, List.set_cons_zero, List.set_cons_succ])
                  refine wpAnyH_ready (rs := [28]) (by kernel_rfl) (by simp) ?_
                  refine AllReadyH.cons (o := ⟨_, _, _, _, _, _⟩) rfl (fun K hK => ?_) AllReadyH.nil
                  go_simp
                  go_at_call 41
                  refine HWi.out.mono ?_
                  rintro e w7 ⟨rfl, rfl⟩
                  go_wp2_with fail
                  refine hK.out _ _ ?_ (fun hHeld => ?_)
                  · exact ⟨cj3, ci3⟩
                  clear hK K
                  (try simp only [Act.put, List.setIfInBounds_toArray, List.set_cons_zero, List.set_cons_succ])
                  refine wpAnyH_take (i := 29) (oi := ⟨_, _, _, _, _, _⟩) (v := ?_) rfl (by kernel_rfl) (by kernel_rfl) (by kernel_rfl) (fun _ _ _ h => h) (Or.inl ⟨rfl, ?_⟩) (by assumption) ?_
                  rotate_left 1
                  · intro w_ hSw; (try dsimp only at hSw); go_simp; (try with_reducible rfl)
                  (try simp only [Act.put, List.setIfInBounds_toArray, List.set_cons_zero, List.set_cons_succ])
                  refine wpAnyH_done (by kernel_rfl) ?_ _
                  refine NoPanic.normal ?_

                  go_wp2_with fail
                  go_roundw
                  case rel => exact ⟨b + 1, q + 1, by omega, by go_num, by rw [HN.out], rfl⟩
                  case measure => simp [intOf]; omega

                | false =>
                  have HN : Hid (lstB ls y (b + 1) = l0) := by unfold Hid; rw [hsu]; simp
                  clear hsu
                  go_wp2_with fail
                  refine wp_region_noPanic ?_
                  refine wp_region_held_drew (S := fun W => W.cell? ⟨g3, b, none⟩ = some (.slice aj mj cj) ∧ W.cell? ⟨g3, k, none⟩ = some (.slice a2 m2 c2)) (by kernel_rfl) ?_ (fun hHeld => ?_)
                  · exact ⟨cj3, ci3⟩
                  refine wpAnyH_take (i := 0) (oi := ⟨_, _, _, _, _, _⟩) (v := ?_) rfl (by kernel_rfl) (by kernel_rfl) (by kernel_rfl) (fun _ _ _ h => h) (Or.inl ⟨rfl, ?_⟩) (by assumption) ?_
                  rotate_left 1
                  · intro w_ hSw; (try dsimp only at hSw); go_simp; (try with_reducible rfl)
                  (try simp only [Act.put, List.setIfInBounds_toArray, List.set_cons_zero, List.set_cons_succ])
                  refine wpAnyH_take (i := 1) (oi := ⟨_, _, _, _, _, _⟩) (v := ?_) rfl (by kernel_rfl) (by kernel_rfl) (by kernel_rfl) (fun _ _ _ h => h) (Or.inl ⟨rfl, ?_⟩) (by assumption) ?_
                  rotate_left 1
                  · intro w_ hSw; (try dsimp only at hSw); go_simp; (try with_reducible rfl)
                  (try simp only [Act.put, List.setIfInBounds_toArray, List.set_cons_zero, List.set_cons_succ])
                  refine wpAnyH_take (i := 2) (oi := ⟨_, _, _, _, _, _⟩) (v := ?_) rfl (by kernel_rfl) (by kernel_rfl) (by kernel_rfl) (fun _ _ _ h => h) (Or.inl ⟨rfl, ?_⟩) (by assumption) ?_
                  rotate_left 1
                  · intro w_ hSw; (try dsimp only at hSw); go_simp; (try with_reducible rfl)
                  (try simp only [Act.put, List.setIfInBounds_toArray, List.set_cons_zero, List.set_cons_succ])
                  refine wpAnyH_take (i := 3) (oi := ⟨_, _, _, _, _, _⟩) (v := ?_) rfl (by kernel_rfl) (by kernel_rfl) (by kernel_rfl) (fun _ _ _ h => h) (Or.inl ⟨rfl, ?_⟩) (by assumption) ?_
                  rotate_left 1
                  · intro w_ hSw; (try dsimp only at hSw); go_simp; (try with_reducible rfl)
                  (try simp only [Act.put, List.setIfInBounds_toArray, List.set_cons_zero, List.set_cons_succ])
                  refine wpAnyH_take (i := 4) (oi := ⟨_, _, _, _, _, _⟩) (v := ?_) rfl (by kernel_rfl) (by kernel_rfl) (by kernel_rfl) (fun _ _ _ h => h) (Or.inl ⟨rfl, ?_⟩) (by assumption) ?_
                  rotate_left 1
                  · intro w_ hSw; (try dsimp only at hSw); go_simp; (try with_reducible rfl)
                  (try simp only [Act.put, List.setIfInBounds_toArray, List.set_cons_zero, List.set_cons_succ])
                  refine wpAnyH_take (i := 5) (oi := ⟨_, _, _, _, _, _⟩) (v := ?_) rfl (by kernel_rfl) (by kernel_rfl) (by kernel_rfl) (fun _ _ _ h => h) (Or.inl ⟨rfl, ?_⟩) (by assumption) ?_
                  rotate_left 1
                  · intro w_ hSw; (try dsimp only at hSw); go_simp; (try with_reducible rfl)
                  (try simp only [Act.put, List.setIfInBounds_toArray, List.set_cons_zero, List.set_cons_succ])
                  refine wpAnyH_take (i := 6) (oi := ⟨_, _, _, _, _, _⟩) (v := ?_) rfl (by kernel_rfl) (by kernel_rfl) (by kernel_rfl) (fun _ _ _ h => h) (Or.inl ⟨rfl, ?_⟩) (by assumption) ?_
                  rotate_left 1
                  · intro w_ hSw; (try dsimp only at hSw); go_simp; (try with_reducible rfl)
                  (try simp only [Act.put, List.setIfInBounds_toArray, List.set_cons_zero, List.set_cons_succ])
                  refine wpAnyH_take (i := 7) (oi := ⟨_, _, _, _, _, _⟩) (v := ?_) rfl (by kernel_rfl) (by kernel_rfl) (by kernel_rfl) (fun _ _ _ h => h) (Or.inl ⟨rfl, ?_⟩) (by assumption) ?_
                  rotate_left 1
                  · intro w_ hSw; (try dsimp only at hSw); go_simp; (try with_reducible rfl)
                  (try simp only [Act.put, List.setIfInBounds_toArray, List.set_cons_zero, List.set_cons_succ])
                  refine wpAnyH_take (i := 8) (oi := ⟨_, _, _, _, _, _⟩) (v := ?_) rfl (by kernel_rfl) (by kernel_rfl) (by kernel_rfl) (fun _ _ _ h => h) (Or.inl ⟨rfl, ?_⟩) (by assumption) ?_
                  rotate_left 1
                  · intro w_ hSw; (try dsimp only at hSw); go_simp; (try with_reducible rfl)
                  (try simp only [Act.put, List.setIfInBounds_toArray, List.set_cons_zero, List.set_cons_succ])
                  refine wpAnyH_take (i := 9) (oi := ⟨_, _, _, _, _, _⟩) (v := ?_) rfl (by kernel_rfl) (by kernel_rfl) (by kernel_rfl) (fun _ _ _ h => h) (Or.inl ⟨rfl, ?_⟩) (by assumption) ?_
                  rotate_left 1
                  · intro w_ hSw; (try dsimp only at hSw); go_simp; (try with_reducible rfl)
                  (try simp only [Act.put, List.setIfInBounds_toArray, List.set_cons_zero, List.set_cons_succ])
                  refine wpAnyH_take (i := 10) (oi := ⟨_, _, _, _, _, _⟩) (v := ?_) rfl (by kernel_rfl) (by kernel_rfl) (by kernel_rfl) (fun _ _ _ h => h) (Or.inl ⟨rfl, ?_⟩) (by assumption) ?_
                  rotate_left 1
                  · intro w_ hSw; (try dsimp only at hSw); go_simp; (try with_reducible rfl)
                  (try simp only [Act.put, List.setIfInBounds_toArray, List.set_cons_zero, List.set_cons_succ])
                  refine wpAnyH_take (i := 11) (oi := ⟨_, _, _, _, _, _⟩) (v := ?_) rfl (by kernel_rfl) (by kernel_rfl) (by kernel_rfl) (fun _ _ _ h => h) (Or.inl ⟨rfl, ?_⟩) (by assumption) ?_
                  rotate_left 1
                  · intro w_ hSw; (try dsimp only at hSw); go_simp; (try with_reducible rfl)
                  (try simp only [Act.put, List.setIfInBounds_toArray, List.set_cons_zero, List.set_cons_succ])
                  refine wpAnyH_take (i := 12) (oi := ⟨_, _, _, _, _, _⟩) (v := ?_) rfl (by kernel_rfl) (by kernel_rfl) (by kernel_rfl) (fun _ _ _ h => h) (Or.inl ⟨rfl, ?_⟩) (by assumption) ?_
                  rotate_left 1
                  · intro w_ hSw; (try dsimp only at hSw); go_simp; (try with_reducible rfl)
                  (try simp only [Act.put, List.setIfInBounds_toArray, List.set_cons_zero, List.set_cons_succ])
                  refine wpAnyH_take (i := 13) (oi := ⟨_, _, _, _, _, _⟩) (v := ?_) rfl (by kernel_rfl) (by kernel_rfl) (by kernel_rfl) (fun _ _ _ h => h) (Or.inl ⟨rfl, ?_⟩) (by assumption) ?_
                  rotate_left 1
                  · intro w_ hSw; (try dsimp only at hSw); go_simp; (try with_reducible rfl)
                  (try simp only [Act.put, List.setIfInBounds_toArray, List.set_cons_zero, List.set_cons_succ])
                  refine wpAnyH_take (i := 14) (oi := ⟨_, _, _, _, _, _⟩) (v := ?_) rfl (by kernel_rfl) (by kernel_rfl) (by kernel_rfl) (fun _ _ _ h => h) (Or.inl ⟨rfl, ?_⟩) (by assumption) ?_
                  rotate_left 1
                  · intro w_ hSw; (try dsimp only at hSw); go_simp; (try with_reducible rfl)
                  (try simp only [Act.put, List.setIfInBounds_toArray, List.set_cons_zero, List.set_cons_succ])
                  refine wpAnyH_take (i := 15) (oi := ⟨_, _, _, _, _, _⟩) (v := ?_) rfl (by kernel_rfl) (by kernel_rfl) (by kernel_rfl) (fun _ _ _ h => h) (Or.inl ⟨rfl, ?_⟩) (by assumption) ?_
                  rotate_left 1
                  · intro w_ hSw; (try dsimp only at hSw); go_simp; (try with_reducible rfl)
                  (try simp only [Act.put, List.setIfInBounds_toArray, List.set_cons_zero, List.set_cons_succ])
                  refine wpAnyH_take (i := 16) (oi := ⟨_, _, _, _, _, _⟩) (v := ?_) rfl (by kernel_rfl) (by kernel_rfl) (by kernel_rfl) (fun _ _ _ h => h) (Or.inl ⟨rfl, ?_⟩) (by assumption) ?_
                  rotate_left 1
                  · intro w_ hSw; (try dsimp only at hSw); go_simp; (try with_reducible rfl)
                  (try simp only [Act.put, List.setIfInBounds_toArray, List.set_cons_zero, List.set_cons_succ])
                  refine wpAnyH_take (i := 17) (oi := ⟨_, _, _, _, _, _⟩) (v := ?_) rfl (by kernel_rfl) (by kernel_rfl) (by kernel_rfl) (fun _ _ _ h => h) (Or.inl ⟨rfl, ?_⟩) (by assumption) ?_
                  rotate_left 1
                  · intro w_ hSw; (try dsimp only at hSw); go_simp; (try with_reducible rfl)
                  (try simp only [Act.put, List.setIfInBounds_toArray, List.set_cons_zero, List.set_cons_succ])
                  refine wpAnyH_take (i := 18) (oi := ⟨_, _, _, _, _, _⟩) (v := ?_) rfl (by kernel_rfl) (by kernel_rfl) (by kernel_rfl) (fun _ _ _ h => h) (Or.inl ⟨rfl, ?_⟩) (by assumption) ?_
                  rotate_left 1
                  · intro w_ hSw; (try dsimp only at hSw); go_simp; (try with_reducible rfl)
                  (try simp only [Act.put, List.setIfInBounds_toArray, List.set_cons_zero, List.set_cons_succ])
                  refine wpAnyH_take (i := 19) (oi := ⟨_, _, _, _, _, _⟩) (v := ?_) rfl (by kernel_rfl) (by kernel_rfl) (by kernel_rfl) (fun _ _ _ h => h) (Or.inl ⟨rfl, ?_⟩) (by assumption) ?_
                  rotate_left 1
                  · intro w_ hSw; (try dsimp only at hSw); go_simp; (try with_reducible rfl)
                  (try simp only [Act.put, List.setIfInBounds_toArray, List.set_cons_zero, List.set_cons_succ])
                  refine wpAnyH_take (i := 20) (oi := ⟨_, _, _, _, _, _⟩) (v := ?_) rfl (by kernel_rfl) (by kernel_rfl) (by kernel_rfl) (fun _ _ _ h => h) (Or.inl ⟨rfl, ?_⟩) (by assumption) ?_
                  rotate_left 1
                  · intro w_ hSw; (try dsimp only at hSw); go_simp; (try with_reducible rfl)
                  (try simp only [Act.put, List.setIfInBounds_toArray, List.set_cons_zero, List.set_cons_succ])
                  refine wpAnyH_take (i := 21) (oi := ⟨_, _, _, _, _, _⟩) (v := ?_) rfl (by kernel_rfl) (by kernel_rfl) (by kernel_rfl) (fun _ _ _ h => h) (Or.inl ⟨rfl, ?_⟩) (by assumption) ?_
                  rotate_left 1
                  · intro w_ hSw; (try dsimp only at hSw); go_simp; (try with_reducible rfl)
                  (try simp only [Act.put, List.setIfInBounds_toArray, List.set_cons_zero, List.set_cons_succ])
                  refine wpAnyH_take (i := 22) (oi := ⟨_, _, _, _, _, _⟩) (v := ?_) rfl (by kernel_rfl) (by kernel_rfl) (by kernel_rfl) (fun _ _ _ h => h) (Or.inl ⟨rfl, ?_⟩) (by assumption) ?_
                  rotate_left 1
                  · intro w_ hSw; (try dsimp only at hSw); go_simp; (try with_reducible rfl)
                  (try simp only [Act.put, List.setIfInBounds_toArray, List.set_cons_zero, List.set_cons_succ])
                  refine wpAnyH_take (i := 23) (oi := ⟨_, _, _, _, _, _⟩) (v := ?_) rfl (by kernel_rfl) (by kernel_rfl) (by kernel_rfl) (fun _ _ _ h => h) (Or.inl ⟨rfl, ?_⟩) (by assumption) ?_
                  rotate_left 1
                  · intro w_ hSw; (try dsimp only at hSw); go_simp; (try with_reducible rfl)
                  (try simp only [Act.put, List.setIfInBounds_toArray, List.set_cons_zero, List.set_cons_succ])
                  refine wpAnyH_take (i := 24) (oi := ⟨_, _, _, _, _, _⟩) (v := ?_) rfl (by kernel_rfl) (by kernel_rfl) (by kernel_rfl) (fun _ _ _ h => h) (Or.inl ⟨rfl, ?_⟩) (by assumption) ?_
                  rotate_left 1
                  · intro w_ hSw; (try dsimp only at hSw); go_simp; (try with_reducible rfl)
                  (try simp only [Act.put, List.setIfInBounds_toArray, List.set_cons_zero, List.set_cons_succ])
                  refine wpAnyH_take (i := 25) (oi := ⟨_, _, _, _, _, _⟩) (v := ?_) rfl (by kernel_rfl) (by kernel_rfl) (by kernel_rfl) (fun _ _ _ h => h) (Or.inl ⟨rfl, ?_⟩) (by assumption) ?_
                  rotate_left 1
                  · intro w_ hSw; (try dsimp only at hSw); go_simp; (try with_reducible rfl)
                  (try simp only [Act.put, List.setIfInBounds_toArray, List.set_cons_zero, List.set_cons_succ])
                  refine wpAnyH_take (i := 26) (oi := ⟨_, _, _, _, _, _⟩) (v := ?_) rfl (by kernel_rfl) (by kernel_rfl) (by kernel_rfl) (fun _ _ _ h => h) (Or.inl ⟨rfl, ?_⟩) (by assumption) ?_
                  rotate_left 1
                  · intro w_ hSw; (try dsimp only at hSw); go_simp; (try with_reducible rfl)
                  (try simp only [Act.put, List.setIfInBounds_toArray, List.set_cons_zero, List.set_cons_succ])
                  refine wpAnyH_take (i := 27) (oi := ⟨_, _, _, _, _, _⟩) (v := ?_) rfl (by kernel_rfl) (by kernel_rfl) (by kernel_rfl) (fun _ _ _ h => h) (Or.inl ⟨rfl, ?_⟩) (by assumption) ?_
                  rotate_left 1
                  · intro w_ hSw; (try dsimp only at hSw); go_simp; (try with_reducible rfl)
                  (try simp only [Act.put, List.setIfInBounds_toArray, List.set_cons_zero, List.set_cons_succ])
                  refine wpAnyH_ready (rs := [28]) (by kernel_rfl) (by simp) ?_
                  refine AllReadyH.cons (o := ⟨_, _, _, _, _, _⟩) rfl (fun K hK => ?_) AllReadyH.nil
                  go_simp
                  go_at_call 41
                  refine HWi.out.mono ?_
                  rintro e w7 ⟨rfl, rfl⟩
                  go_wp2_with fail
                  refine hK.out _ _ ?_ (fun hHeld => ?_)
                  · exact ⟨cj3, ci3⟩
                  clear hK K
                  (try simp only [Act.put, List.setIfInBounds_toArray, List.set_cons_zero, List.set_cons_succ])
                  refine wpAnyH_take (i := 29) (oi := ⟨_, _, _, _, _, _⟩) (v := ?_) rfl (by kernel_rfl) (by kernel_rfl) (by kernel_rfl) (fun _ _ _ h => h) (Or.inl ⟨rfl, ?_⟩) (by assumption) ?_
                  rotate_left 1
                  · intro w_ hSw; (try dsimp only at hSw); go_simp; (try with_reducible rfl)
                  (try simp only [Act.put, List.setIfInBounds_toArray, List.set_cons_zero, List.set_cons_succ])
                  refine wpAnyH_done (by kernel_rfl) ?_ _
                  refine NoPanic.normal ?_

                  go_wp2_with fail
                  go_roundw
                  case rel => exact ⟨b + 1, q + 1, by omega, by go_num, by rw [HN.out], rfl⟩
                  case measure => simp [intOf]; omega

              · have h2' : ¬ (mj : Int) < (m2 : Int) := by omega
                have hd2 : decide (mj < m2) = false := decide_eq_false h2
                have HN : Hid (lstB ls y (b + 1) = l0) := by unfold Hid; rw [hsu, decide_eq_false h2]; simp
                clear hwi hsu hvj hxj hvx hcj3 hlx hly hl0 hbt
                go_wp2_with fail
                refine wp_region_noPanic ?_
                refine wp_region_held_drew (S := fun W => W.cell? ⟨g3, b, none⟩ = some (.slice aj mj cj) ∧ W.cell? ⟨g3, k, none⟩ = some (.slice a2 m2 c2)) (by kernel_rfl) ?_ (fun hHeld => ?_)
                · exact ⟨cj3, ci3⟩
                refine wpAnyH_take (i := 0) (oi := ⟨_, _, _, _, _, _⟩) (v := ?_) rfl (by kernel_rfl) (by kernel_rfl) (by kernel_rfl) (fun _ _ _ h => h) (Or.inl ⟨rfl, ?_⟩) (by assumption) ?_
                rotate_left 1
                · intro w_ hSw; (try dsimp only at hSw); go_simp; (try with_reducible rfl)
                (try simp only [Act.put, List.setIfInBounds_toArray, List.set_cons_zero, List.set_cons_succ])
                refine wpAnyH_take (i := 1) (oi := ⟨_, _, _, _, _, _⟩) (v := ?_) rfl (by kernel_rfl) (by kernel_rfl) (by kernel_rfl) (fun _ _ _ h => h) (Or.inl ⟨rfl, ?_⟩) (by assumption) ?_
                rotate_left 1
                · intro w_ hSw; (try dsimp only at hSw); go_simp; (try with_reducible rfl)
                (try simp only [Act.put, List.setIfInBounds_toArray, List.set_cons_zero, List.set_cons_succ])
                refine wpAnyH_take (i := 2) (oi := ⟨_, _, _, _, _, _⟩) (v := ?_) rfl (by kernel_rfl) (by kernel_rfl) (by kernel_rfl) (fun _ _ _ h => h) (Or.inl ⟨rfl, ?_⟩) (by assumption) ?_
                rotate_left 1
                · intro w_ hSw; (try dsimp only at hSw); go_simp; (try with_reducible rfl)
                (try simp only [Act.put, List.setIfInBounds_toArray, List.set_cons_zero, List.set_cons_succ])
                refine wpAnyH_take (i := 3) (oi := ⟨_, _, _, _, _, _⟩) (v := ?_) rfl (by kernel_rfl) (by kernel_rfl) (by kernel_rfl) (fun _ _ _ h => h) (Or.inl ⟨rfl, ?_⟩) (by assumption) ?_
                rotate_left 1
                · intro w_ hSw; (try dsimp only at hSw); go_simp; (try with_reducible rfl)
                (try simp only [Act.put, List.setIfInBounds_toArray, List.set_cons_zero, List.set_cons_succ])
                refine wpAnyH_take (i := 4) (oi := ⟨_, _, _, _, _, _⟩) (v := ?_) rfl (by kernel_rfl) (by kernel_rfl) (by kernel_rfl) (fun _ _ _ h => h) (Or.inl ⟨rfl, ?_⟩) (by assumption) ?_
                rotate_left 1
                · intro w_ hSw; (try dsimp only at hSw); go_simp; (try with_reducible rfl)
                (try simp only [Act.put, List.setIfInBounds_toArray, List.set_cons_zero, List.set_cons_succ])
                refine wpAnyH_take (i := 5) (oi := ⟨_, _, _, _, _, _⟩) (v := ?_) rfl (by kernel_rfl) (by kernel_rfl) (by kernel_rfl) (fun _ _ _ h => h) (Or.inl ⟨rfl, ?_⟩) (by assumption) ?_
                rotate_left 1
                · intro w_ hSw; (try dsimp only at hSw); go_simp; (try with_reducible rfl)
                (try simp only [Act.put, List.setIfInBounds_toArray, List.set_cons_zero, List.set_cons_succ])
                refine wpAnyH_take (i := 6) (oi := ⟨_, _, _, _, _, _⟩) (v := ?_) rfl (by kernel_rfl) (by kernel_rfl) (by kernel_rfl) (fun _ _ _ h => h) (Or.inl ⟨rfl, ?_⟩) (by assumption) ?_
                rotate_left 1
                · intro w_ hSw; (try dsimp only at hSw); go_simp; (try with_reducible rfl)
                (try simp only [Act.put, List.setIfInBounds_toArray, List.set_cons_zero, List.set_cons_succ])
                refine wpAnyH_take (i := 7) (oi := ⟨_, _, _, _, _, _⟩) (v := ?_) rfl (by kernel_rfl) (by kernel_rfl) (by kernel_rfl) (fun _ _ _ h => h) (Or.inl ⟨rfl, ?_⟩) (by assumption) ?_
                rotate_left 1
                · intro w_ hSw; (try dsimp only at hSw); go_simp; (try with_reducible rfl)
                (try simp only [Act.put, List.setIfInBounds_toArray, List.set_cons_zero, List.set_cons_succ])
                refine wpAnyH_take (i := 8) (oi := ⟨_, _, _, _, _, _⟩) (v := ?_) rfl (by kernel_rfl) (by kernel_rfl) (by kernel_rfl) (fun _ _ _ h => h) (Or.inl ⟨rfl, ?_⟩) (by assumption) ?_
                rotate_left 1
                · intro w_ hSw; (try dsimp only at hSw); go_simp; (try with_reducible rfl)
                (try simp only [Act.put, List.setIfInBounds_toArray, List.set_cons_zero, List.set_cons_succ])
                refine wpAnyH_take (i := 9) (oi := ⟨_, _, _, _, _, _⟩) (v := ?_) rfl (by kernel_rfl) (by kernel_rfl) (by kernel_rfl) (fun _ _ _ h => h) (Or.inl ⟨rfl, ?_⟩) (by assumption) ?_
                rotate_left 1
                · intro w_ hSw; (try dsimp only at hSw); go_simp; (try with_reducible rfl)
                (try simp only [Act.put, List.setIfInBounds_toArray, List.set_cons_zero, List.set_cons_succ])
                refine wpAnyH_take (i := 10) (oi := ⟨_, _, _, _, _, _⟩) (v := ?_) rfl (by kernel_rfl) (by kernel_rfl) (by kernel_rfl) (fun _ _ _ h => h) (Or.inl ⟨rfl, ?_⟩) (by assumption) ?_
                rotate_left 1
                · intro w_ hSw; (try dsimp only at hSw); go_simp; (try with_reducible rfl)
                (try simp only [Act.put, List.setIfInBounds_toArray, List.set_cons_zero, List.set_cons_succ])
                refine wpAnyH_take (i := 11) (oi := ⟨_, _, _, _, _, _⟩) (v := ?_) rfl (by kernel_rfl) (by kernel_rfl) (by kernel_rfl) (fun _ _ _ h => h) (Or.inl ⟨rfl, ?_⟩) (by assumption) ?_
                rotate_left 1
                · intro w_ hSw; (try dsimp only at hSw); go_simp; (try with_reducible rfl)
                (try simp only [Act.put, List.setIfInBounds_toArray, List.set_cons_zero, List.set_cons_succ])
                refine wpAnyH_take (i := 12) (oi := ⟨_, _, _, _, _, _⟩) (v := ?_) rfl (by kernel_rfl) (by kernel_rfl) (by kernel_rfl) (fun _ _ _ h => h) (Or.inl ⟨rfl, ?_⟩) (by assumption) ?_
                rotate_left 1
                · intro w_ hSw; (try dsimp only at hSw); go_simp; (try with_reducible rfl)
                (try simp only [Act.put, List.setIfInBounds_toArray, List.set_cons_zero, List.set_cons_succ])
                refine wpAnyH_take (i := 13) (oi := ⟨_, _, _, _, _, _⟩) (v := ?_) rfl (by kernel_rfl) (by kernel_rfl) (by kernel_rfl) (fun _ _ _ h => h) (Or.inl ⟨rfl, ?_⟩) (by assumption) ?_
                rotate_left 1
                · intro w_ hSw; (try dsimp only at hSw); go_simp; (try with_reducible rfl)
                (try simp only [Act.put, List.setIfInBounds_toArray, List.set_cons_zero, List.set_cons_succ])
                refine wpAnyH_take (i := 14) (oi := ⟨_, _, _, _, _, _⟩) (v := ?_) rfl (by kernel_rfl) (by kernel_rfl) (by kernel_rfl) (fun _ _ _ h => h) (Or.inl ⟨rfl, ?_⟩) (by assumption) ?_
                rotate_left 1
                · intro w_ hSw; (try dsimp only at hSw); go_simp; (try with_reducible rfl)
                (try simp only [Act.put, List.setIfInBounds_toArray, List.set_cons_zero, List.set_cons_succ])
                refine wpAnyH_take (i := 15) (oi := ⟨_, _, _, _, _, _⟩) (v := ?_) rfl (by kernel_rfl) (by kernel_rfl) (by kernel_rfl) (fun _ _ _ h => h) (Or.inl ⟨rfl, ?_⟩) (by assumption) ?_
                rotate_left 1
                · intro w_ hSw; (try dsimp only at hSw); go_simp; (try with_reducible rfl)
                (try simp only [Act.put, List.setIfInBounds_toArray, List.set_cons_zero, List.set_cons_succ])
                refine wpAnyH_take (i := 16) (oi := ⟨_, _, _, _, _, _⟩) (v := ?_) rfl (by kernel_rfl) (by kernel_rfl) (by kernel_rfl) (fun _ _ _ h => h) (Or.inl ⟨rfl, ?_⟩) (by assumption) ?_
                rotate_left 1
                · intro w_ hSw; (try dsimp only at hSw); go_simp; (try with_reducible rfl)
                (try simp only [Act.put, List.setIfInBounds_toArray, List.set_cons_zero, List.set_cons_succ])
                refine wpAnyH_take (i := 17) (oi := ⟨_, _, _, _, _, _⟩) (v := ?_) rfl (by kernel_rfl) (by kernel_rfl) (by kernel_rfl) (fun _ _ _ h => h) (Or.inl ⟨rfl, ?_⟩) (by assumption) ?_
                rotate_left 1
                · intro w_ hSw; (try dsimp only at hSw); go_simp; (try with_reducible rfl)
                (try simp only [Act.put, List.setIfInBounds_toArray, List.set_cons_zero, List.set_cons_succ])
                refine wpAnyH_take (i := 18) (oi := ⟨_, _, _, _, _, _⟩) (v := ?_) rfl (by kernel_rfl) (by kernel_rfl) (by kernel_rfl) (fun _ _ _ h => h) (Or.inl ⟨rfl, ?_⟩) (by assumption) ?_
                rotate_left 1
                · intro w_ hSw; (try dsimp only at hSw); go_simp; (try with_reducible rfl)
                (try simp only [Act.put, List.setIfInBounds_toArray, List.set_cons_zero, List.set_cons_succ])
                refine wpAnyH_take (i := 19) (oi := ⟨_, _, _, _, _, _⟩) (v := ?_) rfl (by kernel_rfl) (by kernel_rfl) (by kernel_rfl) (fun _ _ _ h => h) (Or.inl ⟨rfl, ?_⟩) (by assumption) ?_
                rotate_left 1
                · intro w_ hSw; (try dsimp only at hSw); go_simp; (try with_reducible rfl)
                (try simp only [Act.put, List.setIfInBounds_toArray, List.set_cons_zero, List.set_cons_succ])
                refine wpAnyH_take (i := 20) (oi := ⟨_, _, _, _, _, _⟩) (v := undef) rfl (by kernel_rfl) (by kernel_rfl) (by kernel_rfl) (fun _ _ _ h => h) (Or.inr ⟨rfl, rfl⟩) (by assumption) ?_
                (try simp only [Act.put, List.setIfInBounds_toArray, List.set_cons_zero, List.set_cons_succ])
                refine wpAnyH_take (i := 21) (oi := ⟨_, _, _, _, _, _⟩) (v := undef) rfl (by kernel_rfl) (by kernel_rfl) (by kernel_rfl) (fun _ _ _ h => h) (Or.inr ⟨rfl, rfl⟩) (by assumption) ?_
                (try simp only [Act.put, List.setIfInBounds_toArray, List.set_cons_zero, List.set_cons_succ])
                refine wpAnyH_take (i := 22) (oi := ⟨_, _, _, _, _, _⟩) (v := undef) rfl (by kernel_rfl) (by kernel_rfl) (by kernel_rfl) (fun _ _ _ h => h) (Or.inr ⟨rfl, rfl⟩) (by assumption) ?_
                (try simp only [Act.put, List.setIfInBounds_toArray, List.set_cons_zero, List.set_cons_succ])
                refine wpAnyH_take (i := 23) (oi := ⟨_, _, _, _, _, _⟩) (v := undef) rfl (by kernel_rfl) (by kernel_rfl) (by kernel_rfl) (fun _ _ _ h => h) (Or.inr ⟨rfl, rfl⟩) (by assumption) ?_
                (try simp only [Act.put, List.setIfInBounds_toArray, List.set_cons_zero, List.set_cons_succ])
                refine wpAnyH_take (i := 24) (oi := ⟨_, _, _, _, _, _⟩) (v := undef) rfl (by kernel_rfl) (by kernel_rfl) (by kernel_rfl) (fun _ _ _ h => h) (Or.inr ⟨rfl, rfl⟩) (by assumption) ?_
                (try simp only [Act.put, List.setIfInBounds_toArray, List.set_cons_zero, List.set_cons_succ])
                refine wpAnyH_take (i := 25) (oi := ⟨_, _, _, _, _, _⟩) (v := undef) rfl (by kernel_rfl) (by kernel_rfl) (by kernel_rfl) (fun _ _ _ h => h) (Or.inr ⟨rfl, rfl⟩) (by assumption) ?_
                (try simp only [Act.put, List.setIfInBounds_toArray, List.set_cons_zero, List.set_cons_succ])
                refine wpAnyH_take (i := 26) (oi := ⟨_, _, _, _, _, _⟩) (v := undef) rfl (by kernel_rfl) (by kernel_rfl) (by kernel_rfl) (fun _ _ _ h => h) (Or.inr ⟨rfl, rfl⟩) (by assumption) ?_
                (try simp only [Act.put, List.setIfInBounds_toArray, List.set_cons_zero, List.set_cons_succ])
                refine wpAnyH_take (i := 27) (oi := ⟨_, _, _, _, _, _⟩) (v := undef) rfl (by kernel_rfl) (by kernel_rfl) (by kernel_rfl) (fun _ _ _ h => h) (Or.inr ⟨rfl, rfl⟩) (by assumption) ?_
                (try simp only [Act.put, List.setIfInBounds_toArray, List.set_cons_zero, List.set_cons_succ])
                refine wpAnyH_take (i := 28) (oi := ⟨_, _, _, _, _, _⟩) (v := undef) rfl (by kernel_rfl) (by kernel_rfl) (by kernel_rfl) (fun _ _ _ h => h) (Or.inr ⟨rfl, rfl⟩) (by assumption) ?_
                (try simp only [Act.put, List.setIfInBounds_toArray, List.set_cons_zero, List.set_cons_succ])
                refine wpAnyH_take (i := 29) (oi := ⟨_, _, _, _, _, _⟩) (v := ?_) rfl (by kernel_rfl) (by kernel_rfl) (by kernel_rfl) (fun _ _ _ h => h) (Or.inl ⟨rfl, ?_⟩) (by assumption) ?_
                rotate_left 1
                · intro w_ hSw; (try dsimp only at hSw); go_simp; (try with_reducible rfl)
                (try simp only [Act.put, List.setIfInBounds_toArray, List.set_cons_zero, List.set_cons_succ])
                refine wpAnyH_done (by kernel_rfl) ?_ _
                refine NoPanic.normal ?_

                go_wp2_with fail
                go_roundw
                case rel => exact ⟨b + 1, q + 1, by omega, by go_num, by rw [HN.out], rfl⟩
                case measure => simp [intOf]; omega

            · have h1' : ¬ (0 : Int) < (mj : Int) := by omega
              have hd1 : decide (0 < mj) = false := decide_eq_false h1
              have HN : Hid (lstB ls y (b + 1) = l0) := by unfold Hid; rw [hsu, decide_eq_false h1]; simp
              clear hwi hsu hvj hxj hvx hcj3 hlx hly hl0 hbt
              go_wp2_with fail
              refine wp_region_noPanic ?_
              refine wp_region_held_drew (S := fun W => W.cell? ⟨g3, b, none⟩ = some (.slice aj mj cj) ∧ W.cell? ⟨g3, k, none⟩ = some (.slice a2 m2 c2)) (by kernel_rfl) ?_ (fun hHeld => ?_)
              · exact ⟨cj3, ci3⟩
              refine wpAnyH_take (i := 0) (oi := ⟨_, _, _, _, _, _⟩) (v := ?_) rfl (by kernel_rfl) (by kernel_rfl) (by kernel_rfl) (fun _ _ _ h => h) (Or.inl ⟨rfl, ?_⟩) (by assumption) ?_
              rotate_left 1
              · intro w_ hSw; (try dsimp only at hSw); go_simp; (try with_reducible rfl)
              (try simp only [Act.put, List.setIfInBounds_toArray, List.set_cons_zero, List.set_cons_succ])
              refine wpAnyH_take (i := 1) (oi := ⟨_, _, _, _, _, _⟩) (v := ?_) rfl (by kernel_rfl) (by kernel_rfl) (by kernel_rfl) (fun _ _ _ h => h) (Or.inl ⟨rfl, ?_⟩) (by assumption) ?_
              rotate_left 1
              · intro w_ hSw; (try dsimp only at hSw); go_simp; (try with_reducible rfl)
              (try simp only [Act.put, List.setIfInBounds_toArray, List.set_cons_zero, List.set_cons_succ])
              refine wpAnyH_take (i := 2) (oi := ⟨_, _, _, _, _, _⟩) (v := ?_) rfl (by kernel_rfl) (by kernel_rfl) (by kernel_rfl) (fun _ _ _ h => h) (Or.inl ⟨rfl, ?_⟩) (by assumption) ?_
              rotate_left 1
              · intro w_ hSw; (try dsimp only at hSw); go_simp; (try with_reducible rfl)
              (try simp only [Act.put, List.setIfInBounds_toArray, List.set_cons_zero, List.set_cons_succ])
              refine wpAnyH_take (i := 3) (oi := ⟨_, _, _, _, _, _⟩) (v := ?_) rfl (by kernel_rfl) (by kernel_rfl) (by kernel_rfl) (fun _ _ _ h => h) (Or.inl ⟨rfl, ?_⟩) (by assumption) ?_
              rotate_left 1
              · intro w_ hSw; (try dsimp only at hSw); go_simp; (try with_reducible rfl)
              (try simp only [Act.put, List.setIfInBounds_toArray, List.set_cons_zero, List.set_cons_succ])
              refine wpAnyH_take (i := 4) (oi := ⟨_, _, _, _, _, _⟩) (v := ?_) rfl (by kernel_rfl) (by kernel_rfl) (by kernel_rfl) (fun _ _ _ h => h) (Or.inl ⟨rfl, ?_⟩) (by assumption) ?_
              rotate_left 1
              · intro w_ hSw; (try dsimp only at hSw); go_simp; (try with_reducible rfl)
              (try simp only [Act.put, List.setIfInBounds_toArray, List.set_cons_zero, List.set_cons_succ])
              refine wpAnyH_take (i := 5) (oi := ⟨_, _, _, _, _, _⟩) (v := ?_) rfl (by kernel_rfl) (by kernel_rfl) (by kernel_rfl) (fun _ _ _ h => h) (Or.inl ⟨rfl, ?_⟩) (by assumption) ?_
              rotate_left 1
              · intro w_ hSw; (try dsimp only at hSw); go_simp; (try with_reducible rfl)
              (try simp only [Act.put, List.setIfInBounds_toArray, List.set_cons_zero, List.set_cons_succ])
              refine wpAnyH_take (i := 6) (oi := ⟨_, _, _, _, _, _⟩) (v := ?_) rfl (by kernel_rfl) (by kernel_rfl) (by kernel_rfl) (fun _ _ _ h => h) (Or.inl ⟨rfl, ?_⟩) (by assumption) ?_
              rotate_left 1
              · intro w_ hSw; (try dsimp only at hSw); go_simp; (try with_reducible rfl)
              (try simp only [Act.put, List.setIfInBounds_toArray, List.set_cons_zero, List.set_cons_succ])
              refine wpAnyH_take (i := 7) (oi := ⟨_, _, _, _, _, _⟩) (v := undef) rfl (by kernel_rfl) (by kernel_rfl) (by kernel_rfl) (fun _ _ _ h => h) (Or.inr ⟨rfl, rfl⟩) (by assumption) ?_
              (try simp only [Act.put, List.setIfInBounds_toArray, List.set_cons_zero, List.set_cons_succ])
              refine wpAnyH_take (i := 8) (oi := ⟨_, _, _, _, _, _⟩) (v := undef) rfl (by kernel_rfl) (by kernel_rfl) (by kernel_rfl) (fun _ _ _ h => h) (Or.inr ⟨rfl, rfl⟩) (by assumption) ?_
              (try simp only [Act.put, List.setIfInBounds_toArray, List.set_cons_zero, List.set_cons_succ])
              refine wpAnyH_take (i := 9) (oi := ⟨_, _, _, _, _, _⟩) (v := undef) rfl (by kernel_rfl) (by kernel_rfl) (by kernel_rfl) (fun _ _ _ h => h) (Or.inr ⟨rfl, rfl⟩) (by assumption) ?_
              (try simp only [Act.put, List.setIfInBounds_toArray, List.set_cons_zero, List.set_cons_succ])
              refine wpAnyH_take (i := 10) (oi := ⟨_, _, _, _, _, _⟩) (v := undef) rfl (by kernel_rfl) (by kernel_rfl) (by kernel_rfl) (fun _ _ _ h => h) (Or.inr ⟨rfl, rfl⟩) (by assumption) ?_
              (try simp only [Act.put, List.setIfInBounds_toArray, List.set_cons_zero, List.set_cons_succ])
              refine wpAnyH_take (i := 11) (oi := ⟨_, _, _, _, _, _⟩) (v := undef) rfl (by kernel_rfl) (by kernel_rfl) (by kernel_rfl) (fun _ _ _ h => h) (Or.inr ⟨rfl, rfl⟩) (by assumption) ?_
              (try simp only [Act.put, List.setIfInBounds_toArray, List.set_cons_zero, List.set_cons_succ])
              refine wpAnyH_take (i := 12) (oi := ⟨_, _, _, _, _, _⟩) (v := undef) rfl (by kernel_rfl) (by kernel_rfl) (by kernel_rfl) (fun _ _ _ h => h) (Or.inr ⟨rfl, rfl⟩) (by assumption) ?_
              (try simp only [Act.put, List.setIfInBounds_toArray, List.set_cons_zero, List.set_cons_succ])
              refine wpAnyH_take (i := 13) (oi := ⟨_, _, _, _, _, _⟩) (v := undef) rfl (by kernel_rfl) (by kernel_rfl) (by kernel_rfl) (fun _ _ _ h => h) (Or.inr ⟨rfl, rfl⟩) (by assumption) ?_
              (try simp only [Act.put, List.setIfInBounds_toArray, List.set_cons_zero, List.set_cons_succ])
              refine wpAnyH_take (i := 14) (oi := ⟨_, _, _, _, _, _⟩) (v := undef) rfl (by kernel_rfl) (by kernel_rfl) (by kernel_rfl) (fun _ _ _ h => h) (Or.inr ⟨rfl, rfl⟩) (by assumption) ?_
              (try simp only [Act.put, List.setIfInBounds_toArray, List.set_cons_zero, List.set_cons_succ])
              refine wpAnyH_take (i := 15) (oi := ⟨_, _, _, _, _, _⟩) (v := undef) rfl (by kernel_rfl) (by kernel_rfl) (by kernel_rfl) (fun _ _ _ h => h) (Or.inr ⟨rfl, rfl⟩) (by assumption) ?_
              (try simp only [Act.put, List.setIfInBounds_toArray, List.set_cons_zero, List.set_cons_succ])
              refine wpAnyH_take (i := 16) (oi := ⟨_, _, _, _, _, _⟩) (v := undef) rfl (by kernel_rfl) (by kernel_rfl) (by kernel_rfl) (fun _ _ _ h => h) (Or.inr ⟨rfl, rfl⟩) (by assumption) ?_
              (try simp only [Act.put, List.setIfInBounds_toArray, List.set_cons_zero, List.set_cons_succ])
              refine wpAnyH_take (i := 17) (oi := ⟨_, _, _, _, _, _⟩) (v := undef) rfl (by kernel_rfl) (by kernel_rfl) (by kernel_rfl) (fun _ _ _ h => h) (Or.inr ⟨rfl, rfl⟩) (by assumption) ?_
              (try simp only [Act.put, List.setIfInBounds_toArray, List.set_cons_zero, List.set_cons_succ])
              refine wpAnyH_take (i := 18) (oi := ⟨_, _, _, _, _, _⟩) (v := ?_) rfl (by kernel_rfl) (by kernel_rfl) (by kernel_rfl) (fun _ _ _ h => h) (Or.inl ⟨rfl, ?_⟩) (by assumption) ?_
              rotate_left 1
              · intro w_ hSw; (try dsimp only at hSw); go_simp; (try with_reducible rfl)
              (try simp only [Act.put, List.setIfInBounds_toArray, List.set_cons_zero, List.set_cons_succ])
              refine wpAnyH_take (i := 19) (oi := ⟨_, _, _, _, _, _⟩) (v := ?_) rfl (by kernel_rfl) (by kernel_rfl) (by kernel_rfl) (fun _ _ _ h => h) (Or.inl ⟨rfl, ?_⟩) (by assumption) ?_
              rotate_left 1
              · intro w_ hSw; (try dsimp only at hSw); go_simp; (try with_reducible rfl)
              (try simp only [Act.put, List.setIfInBounds_toArray, List.set_cons_zero, List.set_cons_succ])
              refine wpAnyH_take (i := 20) (oi := ⟨_, _, _, _, _, _⟩) (v := undef) rfl (by kernel_rfl) (by kernel_rfl) (by kernel_rfl) (fun _ _ _ h => h) (Or.inr ⟨rfl, rfl⟩) (by assumption) ?_
              (try simp only [Act.put, List.setIfInBounds_toArray, List.set_cons_zero, List.set_cons_succ])
              refine wpAnyH_take (i := 21) (oi := ⟨_, _, _, _, _, _⟩) (v := undef) rfl (by kernel_rfl) (by kernel_rfl) (by kernel_rfl) (fun _ _ _ h => h) (Or.inr ⟨rfl, rfl⟩) (by assumption) ?_
              (try simp only [Act.put, List.setIfInBounds_toArray, List.set_cons_zero, List.set_cons_succ])
              refine wpAnyH_take (i := 22) (oi := ⟨_, _, _, _, _, _⟩) (v := undef) rfl (by kernel_rfl) (by kernel_rfl) (by kernel_rfl) (fun _ _ _ h => h) (Or.inr ⟨rfl, rfl⟩) (by assumption) ?_
              (try simp only [Act.put, List.setIfInBounds_toArray, List.set_cons_zero, List.set_cons_succ])
              refine wpAnyH_take (i := 23) (oi := ⟨_, _, _, _, _, _⟩) (v := undef) rfl (by kernel_rfl) (by kernel_rfl) (by kernel_rfl) (fun _ _ _ h => h) (Or.inr ⟨rfl, rfl⟩) (by assumption) ?_
              (try simp only [Act.put, List.setIfInBounds_toArray, List.set_cons_zero, List.set_cons_succ])
              refine wpAnyH_take (i := 24) (oi := ⟨_, _, _, _, _, _⟩) (v := undef) rfl (by kernel_rfl) (by kernel_rfl) (by kernel_rfl) (fun _ _ _ h => h) (Or.inr ⟨rfl, rfl⟩) (by assumption) ?_
              (try simp only [Act.put, List.setIfInBounds_toArray, List.set_cons_zero, List.set_cons_succ])
              refine wpAnyH_take (i := 25) (oi := ⟨_, _, _, _, _, _⟩) (v := undef) rfl (by kernel_rfl) (by kernel_rfl) (by kernel_rfl) (fun _ _ _ h => h) (Or.inr ⟨rfl, rfl⟩) (by assumption) ?_
              (try simp only [Act.put, List.setIfInBounds_toArray, List.set_cons_zero, List.set_cons_succ])
              refine wpAnyH_take (i := 26) (oi := ⟨_, _, _, _, _, _⟩) (v := undef) rfl (by kernel_rfl) (by kernel_rfl) (by kernel_rfl) (fun _ _ _ h => h) (Or.inr ⟨rfl, rfl⟩) (by assumption) ?_
              (try simp only [Act.put, List.setIfInBounds_toArray, List.set_cons_zero, List.set_cons_succ])
              refine wpAnyH_take (i := 27) (oi := ⟨_, _, _, _, _, _⟩) (v := undef) rfl (by kernel_rfl) (by kernel_rfl) (by kernel_rfl) (fun _ _ _ h => h) (Or.inr ⟨rfl, rfl⟩) (by assumption) ?_
              (try simp only [Act.put, List.setIfInBounds_toArray, List.set_cons_zero, List.set_cons_succ])
              refine wpAnyH_take (i := 28) (oi := ⟨_, _, _, _, _, _⟩) (v := undef) rfl (by kernel_rfl) (by kernel_rfl) (by kernel_rfl) (fun _ _ _ h => h) (Or.inr ⟨rfl, rfl⟩) (by assumption) ?_
              (try simp only [Act.put, List.setIfInBounds_toArray, List.set_cons_zero, List.set_cons_succ])
              refine wpAnyH_take (i := 29) (oi := ⟨_, _, _, _, _, _⟩) (v := ?_) rfl (by kernel_rfl) (by kernel_rfl) (by kernel_rfl) (fun _ _ _ h => h) (Or.inl ⟨rfl, ?_⟩) (by assumption) ?_
              rotate_left 1
              · intro w_ hSw; (try dsimp only at hSw); go_simp; (try with_reducible rfl)
              (try simp only [Act.put, List.setIfInBounds_toArray, List.set_cons_zero, List.set_cons_succ])
              refine wpAnyH_done (by kernel_rfl) ?_ _
              refine NoPanic.normal ?_

              go_wp2_with fail
              go_roundw
              case rel => exact ⟨b + 1, q + 1, by omega, by go_num, by rw [HN.out], rfl⟩
              case measure => simp [intOf]; omega

          · have hlt' : ¬ (b : Int) < (M : Int) := by omega
            obtain rfl : b = M := by omega
            obtain ⟨u, hu⟩ : ∃ u, lstB ls y b = u := ⟨_, rfl⟩
            have HU : Hid ((fun y : List Int => lstB ls y ls.length) y = u) := by
              show lstB ls y ls.length = u
              rw [← HMl.out]; exact hu
            rw [hu]
            clear hu
            have HRq := Lib.hid (HR.out.kept (grown_of_below (below_drewN (Below.refl _ _) q) none) (own_em _))
            cases u with
            | true =>
              go_wp2_with (at_builtin; refine wpList_append_own_at _ rfl _ _ 26 rfl (w.heap.size + 1) 40 i0 (.slice none 0 0) 1 24 Try.underlying26 hi0 hz0 hz1 hz2 rfl (by decide) (.slice (some ⟨g, 0, none⟩) m d) m vs rfl (HRq.out.alloc _) ⟨wr.heap.size, 0, none⟩ 1 1 [.slice a2 m2 c2] rfl rfl (cell_one_new _ _ _) (fun x hx => by simp at hx; subst hx; rfl) (by unfold maxLen; omega) (by omega) (by have := HBr.out.size; have := HSz.out; simp; omega) ?_; intro v' w5 hown' hgrow' hnil' hat')
              obtain ⟨g5, cap, rfl⟩ := ownsRow_succ hown'
              have hgr : ((wr.drewN q).alloc (.cells #[.slice a2 m2 c2] 40)).grownBy w5 (some g) := by simpa [Value.ownBlock] using hgrow'
              have HBq : Hid (Below w.heap.size w (wr.drewN q)) := below_drewN HBr.out q
              have HG5 : Hid (g5 < w1.heap.size + 1 ∨ w3.heap.size ≤ g5) := by
                rcases hat' with h_ | h_
                · have : g5 = g := by simpa [Value.ownBlock] using h_
                  rw [this]; exact HG.out
                · have : g5 = wr.heap.size + 1 := by simpa [Value.ownBlock] using h_
                  have := HSz.out
                  exact .inr (by omega)
              have HB5 : Hid (Below w.heap.size w w5) := (below_then HBq.out (below_alloc (wr.drewN q) (.cells #[.slice a2 m2 c2] 40))).grown hgr (by have := HBr.out.size; simp; omega) (fun q hq => by cases hq; have := (HR.out.lt g rfl).1; omega)
              have HS5 : Hid (w3.heap.size ≤ w5.heap.size) := by
                have h1_ := hgr.size
                have h2_ := HSz.out
                simp only [World.size_alloc] at h1_
                have h3_ : (wr.drewN q).heap.size = wr.heap.size := rfl
                unfold Hid; omega
              have HK5 : Hid (Kept (w1.heap.size + 1) w3.heap.size w3 w5) := ((HK.out.trans (Kept.drewN wr q)).trans (Kept.of_below (below_alloc (wr.drewN q) (.cells #[.slice a2 m2 c2] 40)) HSz.out)).trans (Kept.of_grown hgr (by have := HSz.out; simp only [World.size_alloc]; have h3_ : (wr.drewN q).heap.size = wr.heap.size := rfl; omega) HG.out)
              have HM5 : Hid (m + 1 = ((ls.take (k + 1)).filter (fun y : List Int => lstB ls y ls.length)).length) := by unfold Hid; rw [filter_yes HYk.out HU.out, List.length_append, ← HMk.out]; rfl
              have HI5 : Hid (InnL w3 (w1.heap.size + 1) (vs ++ [.slice a2 m2 c2]) ((ls.take (k + 1)).filter (fun y : List Int => lstB ls y ls.length))) := by unfold Hid; rw [filter_yes HYk.out HU.out]; exact HIk.out.append HIn.out
              have HO5 := Lib.hid hown'
              clear hown' hgrow' hnil' hat' hgr
              go_wp2_with fail
              go_roundw
              case rel => exact ⟨k + 1, m + 1, cap, g5, _, by omega, by go_num, rfl, by omega, HG5, HM5, HO5, HI5, HK5, HS5, HB5⟩
              case measure => simp [intOf]; omega
            | false =>
              have HM5 : Hid (m = ((ls.take (k + 1)).filter (fun y : List Int => lstB ls y ls.length)).length) := by unfold Hid; rw [filter_no HYk.out HU.out]; exact HMk.out
              have HI5 : Hid (InnL w3 (w1.heap.size + 1) vs ((ls.take (k + 1)).filter (fun y : List Int => lstB ls y ls.length))) := by unfold Hid; rw [filter_no HYk.out HU.out]; exact HIk.out
              have HK5 : Hid (Kept (w1.heap.size + 1) w3.heap.size w3 (wr.drewN q)) := HK.out.trans (Kept.drewN wr q)
              have HBq : Hid (Below w.heap.size w (wr.drewN q)) := below_drewN HBr.out q
              go_wp2_with fail
              go_roundw
              case rel => exact ⟨k + 1, m, d, g, vs, by omega, by go_num, rfl, by omega, HG, HM5, HRq, HI5, HK5, HSz, HBq⟩
              case measure => simp [intOf]; omega
      · have hkM' : ¬ (k : Int) < (M : Int) := by omega
        obtain rfl : k = M := by omega
        have HAllk : Hid (ls.take k = ls) := List.take_of_length_le (by have := HMl.out; omega)
        rw [HAllk.out] at HMk HIk
        have hv5 := row_LView HR.out (((HIk.out.band rfl HK.out HSz.out).mono (by omega)) : InnL wr (w.heap.size + 1) vs _)
        have HL := Lib.hid (hv5.mono (Nat.le_succ _) (Nat.le_refl _))
        clear hv5
        go_wp2_with fail
        go_ret2
        exact ⟨_, m, ⟨d, rfl⟩, HMk, HL.out, HBr.out⟩

end Go.Proofs.Ytbpbbmfgkejgaaa
