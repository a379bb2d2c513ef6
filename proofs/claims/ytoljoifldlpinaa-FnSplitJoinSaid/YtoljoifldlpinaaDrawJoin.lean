/-
  Contract: the drawn arguments of JoinStrings: at most four texts, in new memory, and a mark of at most two bytes. Condition: the code has at most 2^16 bytes, each a byte.
-/
import Derived.Test.YtoljoifldlpinaaDrawSplit
import Derived.Test.YtoljoifldlpinaaSplit
import Derived.Laws.BytesString
namespace Go.Proofs.Ytoljoifldlpinaa
open Go.RowKit

theorem one_any (B : Nat) (ao : Option Addr) (n cap m : Nat) (k : Int) (w : World) (h : CurAt w B ao n cap m) (hn : n ≤ 65536) (hm : m ≤ 1000000) (hk : 2 ≤ k) (hk2 : k ≤ 200) :
    Calls Try.prog 29 #[.pointer (some ⟨B, 0, none⟩), .int .i64 k] w fun e w' => ∃ b : Bool, e = .returned (.bool b) ∧ CurAt w' B ao n cap (m + 1) ∧ w.grownBy w' (some B) := by
  have hN := Lib.hid (pick_small B ao n cap m k w h hn hm hk hk2)
  clear h
  go_enter Try.func29, Try.ntmps29
  go_wp2_with fail
  refine hN.out.mono ?_
  rintro e w1 ⟨v, rfl, h0, h1, hc, hg⟩
  have HC := Lib.hid (And.intro hc hg)
  clear hc hg
  go_wp2
  go_ret
  exact ⟨_, rfl, HC.out⟩

theorem CurAt.grown {w w' : World} {B n cap m : Nat} {ao : Option Addr} {row : Option Nat} (h : CurAt w B ao n cap m) (hg : w.grownBy w' row) (hr : ∀ q, row = some q → B < q) : CurAt w' B ao n cap m := by
  have hl := h.lt
  have hk : ∀ k, k ≤ B → w'.heap[k]? = w.heap[k]? := fun k hk => hg.block k (by omega) (fun e => by have := hr k e.symm; omega)
  obtain ⟨⟨p, seed, hp, h1⟩, hc⟩ := h
  exact ⟨⟨p, seed, hp, (hk B (Nat.le_refl _)).trans h1⟩, hc.kept (fun k hkb => hk k (by omega))⟩

/-- The texts drawn. -/
def Short (xs : List ByteArray) : Prop := ∀ (j : Nat) (x : ByteArray), xs[j]? = some x → x.size ≤ 4020
theorem Short.add {xs : List ByteArray} {x : ByteArray} (h : Short xs) (hx : x.size ≤ 4020) : Short (xs ++ [x]) := by
  intro j y hy
  rcases Nat.lt_or_ge j xs.length with h1 | h1
  · rw [List.getElem?_append_left h1] at hy
    exact h j y hy
  · rw [List.getElem?_append_right h1] at hy
    have : y ∈ [x] := List.mem_of_getElem? hy
    simp at this
    rw [this]
    exact hx

theorem mark_small {x : ByteArray} (h : x ∈ ([⟨#[44]⟩, ⟨#[59]⟩, ⟨#[59]⟩, ⟨#[]⟩, ⟨#[97, 98]⟩] : List ByteArray)) : x.size ≤ 10 := by
  simp only [List.mem_cons, List.not_mem_nil, or_false] at h
  rcases h with rfl | rfl | rfl | rfl | rfl <;> decide

theorem row_ne {w : World} {base e size n B : Nat} {v : Value} {xs : List Value} (h : w.ownsRow base e size v n xs) (hb : B < base) : v.ownBlock = none ∨ v.ownBlock ≠ some B :=
  .inr fun he => by have := (h.lt B he).1; omega
theorem row_gt {w : World} {base e size n B : Nat} {v : Value} {xs : List Value} (h : w.ownsRow base e size v n xs) (hb : B < base) : ∀ q, v.ownBlock = some q → B < q :=
  fun q he => by have := (h.lt q he).1; omega
theorem push_size (ns : List Int) : ∀ b : ByteArray, (ns.foldl (fun r n => r.push (UInt8.ofNat n.toNat)) b).size = b.size + ns.length := by
  induction ns with
  | nil => intro b; rfl
  | cons x r ih => intro b; rw [List.foldl_cons, ih, ByteArray.size_push, List.length_cons]; omega
theorem conv_zeros (w : World) (base g n c : Nat) (h : w.ownsRow base 5 1 (.slice (some ⟨g, 0, none⟩) n c) n (madeCells (Value.int .u8 0).cells (n * 1)).toList) :
    ∃ X : ByteArray, X.size = n ∧ (convert 22 9 (.slice (some ⟨g, 0, none⟩) n c)).run Try.prog w = .ok (.string X) w := by
  refine ⟨((List.range n).map (fun _ => (0 : Int))).foldl (fun r n => r.push (UInt8.ofNat n.toNat)) ByteArray.empty, ?_, ?_⟩
  · rw [push_size]
    simp
  · rw [run_convert_bytes_string _ _ _ 5 _ _ _ Try.underlying22 Try.underlying5 Try.underlying9, run_bytesToString _ _ _ _ ((List.range n).map (fun _ => (0 : Int)))]
    rw [run_loadCells _ _ n (fun _ => Value.int .u8 0)]
    · rw [List.map_map]; rfl
    · intro j hj
      have hp : (⟨g, 0, none⟩ : Addr).add j = ⟨g, j, none⟩ := by unfold Addr.add; split <;> simp_all
      rw [hp, h.cellAt j (by omega)]
      have hz : j % 1 = 0 := Nat.mod_one j
      simp [madeCells, Value.cells, hj, hz]
theorem Try.infoU8 : (Try.prog.info? 5).map (fun i => (i.zero, i.size, i.bytes)) = some (some (.int .u8 0), 1, 1) := by kernel_rfl

set_option maxHeartbeats 1000000 in
theorem DrawJoin_any (ao : Option Addr) (n cap : Nat) (w : World) (h : CodeOk w w.heap.size ao n) (hn : n ≤ 65536) :
    Calls Try.prog 11 #[.slice ao n cap] w fun e w' => ∃ (v : Value) (xs : List ByteArray) (b : ByteArray), e = .returned (.tuple #[v, .string b]) ∧ Short xs ∧ b.size ≤ 10 ∧ xs.length ≤ 4 ∧ Below w.heap.size w w' ∧ w'.ownsRow (w.heap.size + 1) 9 1 v xs.length (xs.map Value.string) := by
  have HC := Lib.hid h
  clear h
  obtain ⟨i0, hi, hz0, hz1, hz2⟩ := info_parts Try.infoStr2
  obtain ⟨i8, hi8, hy0, hy1, hy2⟩ := info_parts Try.infoU8
  go_enter Try.func11, Try.ntmps11
  go_wp2_with fail
  have c0 := CurAt.below (cur_new HC.out (cap := cap)) ((Below.refl _ _).alloc (Nat.le_refl _) (.cells #[] 9))
  have hsz : (w.alloc (.cells #[.slice ao n cap, .int .i64 0, .int .u64 0] 44 (0, 0))).heap.size = w.heap.size + 1 := by simp
  have r0 := World.ownsRow_lit (base := w.heap.size + 1) (e := 9) (size := 1) (w.alloc (.cells #[.slice ao n cap, .int .i64 0, .int .u64 0] 44 (0, 0))) #[] 0 (Nat.le_of_eq hsz.symm) (by decide) rfl
  rw [hsz] at r0
  have R0 := Lib.hid r0
  clear r0
  refine (pick_small w.heap.size ao n cap 0 4 _ c0 hn (by omega) (by omega) (by omega)).mono ?_
  rintro e w1 ⟨v, rfl, hv0, hv1, hc1, hg1⟩
  obtain ⟨N, rfl⟩ : ∃ N : Nat, v = (N : Int) := ⟨v.toNat, by omega⟩
  have hN : N ≤ 3 := by omega
  have R1 := Lib.hid (R0.out.kept hg1 (row_ne R0.out (by omega)))
  have B1 := Lib.hid ((((Below.refl w.heap.size w).alloc (Nat.le_refl _) _).alloc (by simp) _).grown hg1 (by simp; omega) (fun q hq => by cases hq; exact Nat.le_refl _))
  have H1 := Lib.hid hc1
  clear c0 hsz R0 hc1 hg1 hv0 hv1
  go_wp2_with fail
  go_loopw [5, 7] (fun l i wr => ∃ (k : Nat) (xs : List ByteArray), k ≤ N ∧ i = .int .i64 k ∧ xs.length = k ∧ Hid (Short xs) ∧ Hid (wr.ownsRow (w.heap.size + 1) 9 1 l xs.length (xs.map Value.string)) ∧ Hid (Below w.heap.size w wr) ∧ Hid (CurAt wr w.heap.size ao n cap (1 + k))) (fun _ i _ => N - (intOf i).toNat)
  case atStart => exact ⟨0, [], Nat.zero_le _, rfl, rfl, (fun j x h => by cases h), R1.out, B1.out, H1.out⟩
  case round =>
    obtain ⟨k, xs, hk, rfl, hxl, HS, HR, HB, HRC⟩ := hrel
    by_cases hlt : k < N
    · go_wp2_with fail
      refine (any1_any w.heap.size ao n cap (1 + k) wr HRC.out hn (by omega)).mono ?_
      rintro e w2 ⟨x, rfl, hx, hc2, hg2⟩
      have R2 := Lib.hid (HR.out.kept hg2 (row_ne HR.out (by omega)))
      have B2 := Lib.hid (HB.out.grown hg2 (by have := HB.out.size; omega) (fun q hq => by cases hq; exact Nat.le_refl _))
      have R2C := Lib.hid hc2
      clear hc2 hg2
      go_wp2_with (at_builtin; refine wpList_append_own _ rfl _ _ 26 rfl (w.heap.size + 1) 9 i0 (.string ByteArray.empty) 1 16 Try.underlying26 hi hz0 hz1 hz2 rfl (by decide) _ _ _ rfl (R2.out.alloc _) ⟨w2.heap.size, 0, none⟩ 1 1 [.string x] rfl rfl (cell_one_new _ _ _) (fun x hx => by simp at hx; subst hx; rfl) (by unfold maxLen; omega) (by omega) (by have := B2.out.size; have := R2C.out.lt; simp; omega) ?_; intro v' w4 hown' hgrow3 hnil3)
      have B4 := Lib.hid ((B2.out.alloc B2.out.size _).grown hgrow3 (by have := B2.out.size; simp; omega) (fun q hq => Nat.le_trans (Nat.le_succ _) (R2.out.lt q hq).1))
      have C4 := Lib.hid (CurAt.grown (R2C.out.below ((Below.refl _ _).alloc (Nat.le_refl _) _)) hgrow3 (row_gt R2.out (by omega)))
      have R4 : Hid (w4.ownsRow (w.heap.size + 1) 9 1 v' (xs ++ [x]).length ((xs ++ [x]).map Value.string)) := by
        rw [List.length_append, List.map_append]
        exact hown'
      clear hown' hgrow3 hnil3
      go_wp2
      go_roundw
      case rel => exact ⟨k + 1, xs ++ [x], by omega, by go_num, by simp; omega, HS.out.add (by omega), R4, B4, C4⟩
      case measure => simp [intOf]; omega
    · go_wp2_with fail
      refine (one_any w.heap.size ao n cap (1 + k) 20 wr HRC.out hn (by omega) (by omega) (by omega)).mono ?_
      rintro e w2 ⟨bb, rfl, hc2, hg2⟩
      have R2 := Lib.hid (HR.out.kept hg2 (row_ne HR.out (by omega)))
      have B2 := Lib.hid (HB.out.grown hg2 (by have := HB.out.size; omega) (fun q hq => by cases hq; exact Nat.le_refl _))
      have HT := Lib.hid hc2
      clear hc2 hg2
      cases bb with
      | false =>
        have RT := R2
        have BT := B2
        have ST := HS
        have hlT : xs.length ≤ 4 := by omega
        go_wp2_with fail
        refine (of_any w.heap.size ao n cap (1 + k + 1) w2.heap.size 0 5 5 [⟨#[44]⟩, ⟨#[59]⟩, ⟨#[59]⟩, ⟨#[]⟩, ⟨#[97, 98]⟩] _ (HT.out.below ((Below.refl _ _).alloc (Nat.le_refl _) _)) hn (by omega) (by have := HT.out.lt; omega) (by simp) (by omega) (by omega) rfl ?_).mono ?_
        · intro j x hx
          rw [Nat.zero_add, World.cell?_alloc_at _ _ _ _ rfl]
          match j, hx with
          | 0, h => cases h; rfl
          | 1, h => cases h; rfl
          | 2, h => cases h; rfl
          | 3, h => cases h; rfl
          | 4, h => cases h; rfl
          | k + 5, h => cases h
        rintro e w9 ⟨b, rfl, hx, hc9, hg9⟩
        have hb := mark_small hx
        have B9 := Lib.hid ((BT.out.alloc (by have := BT.out.size; omega) _).grown hg9 (by have := BT.out.size; simp; omega) (fun q hq => by cases hq; exact Nat.le_refl _))
        have R9 := Lib.hid ((RT.out.alloc _).kept hg9 (row_ne RT.out (by omega)))
        clear hc9 hg9 hx
        go_wp2_with fail
        go_ret2
        exact ⟨_, xs, b, rfl, ST.out, hb, hlT, B9.out, R9.out⟩
      | true =>
        go_wp2_with fail
        refine (pick_small w.heap.size ao n cap (1 + k + 1) 20 w2 HT.out hn (by omega) (by omega) (by omega)).mono ?_
        rintro e w3 ⟨v, rfl, hv0, hv1, hc3, hg3⟩
        obtain ⟨M, rfl⟩ : ∃ M : Nat, v = (M : Int) := ⟨v.toNat, by omega⟩
        have hM : M ≤ 19 := by omega
        have R3 := Lib.hid (R2.out.kept hg3 (row_ne R2.out (by omega)))
        have B3 := Lib.hid (B2.out.grown hg3 (by have := B2.out.size; omega) (fun q hq => by cases hq; exact Nat.le_refl _))
        have C3 := Lib.hid hc3
        clear hc3 hg3 hv0 hv1 HT R2 B2
        go_wp2_with (at_make; refine wpList_make_full _ rfl _ _ 22 rfl (w.heap.size + 1) 5 i8 (.int .u8 0) 1 Try.underlying22 hi8 hy0 hy1 .i64 .i64 _ _ (3990 + M) rfl rfl (by omega) (by omega) (by rw [hy2]; omega) (by unfold maxLen; omega) (by have := C3.out.lt; omega) ?_; intro w5 hrow5 hg5)
        obtain ⟨X, hX, hconv⟩ := conv_zeros w5 _ _ _ _ hrow5
        have R5 := Lib.hid (R3.out.kept hg5 (Classical.em _))
        have B5 := Lib.hid (B3.out.grown hg5 (by have := B3.out.size; omega) (fun q hq => by cases hq))
        have R5C := Lib.hid (CurAt.grown C3.out hg5 (fun q hq => by cases hq))
        clear hrow5 hg5
        rw [hconv]
        go_wp2_with (at_builtin; refine wpList_append_own _ rfl _ _ 26 rfl (w.heap.size + 1) 9 i0 (.string ByteArray.empty) 1 16 Try.underlying26 hi hz0 hz1 hz2 rfl (by decide) _ _ _ rfl (R5.out.alloc _) ⟨w5.heap.size, 0, none⟩ 1 1 [.string X] rfl rfl (cell_one_new _ _ _) (fun x hx => by simp at hx; subst hx; rfl) (by unfold maxLen; omega) (by omega) (by have := B5.out.size; have := R5C.out.lt; simp; omega) ?_; intro v' w4 hown' hgrow3 hnil3)
        have BT := Lib.hid ((B5.out.alloc B5.out.size _).grown hgrow3 (by have := B5.out.size; simp; omega) (fun q hq => Nat.le_trans (Nat.le_succ _) (R5.out.lt q hq).1))
        have HT := Lib.hid (CurAt.grown (R5C.out.below ((Below.refl _ _).alloc (Nat.le_refl _) _)) hgrow3 (row_gt R5.out (by omega)))
        have RT : Hid (w4.ownsRow (w.heap.size + 1) 9 1 v' (xs ++ [X]).length ((xs ++ [X]).map Value.string)) := by
          rw [List.length_append, List.map_append]
          exact hown'
        have ST := Lib.hid (HS.out.add (x := X) (by omega))
        have hlT : (xs ++ [X]).length ≤ 4 := by simp; omega
        clear hown' hgrow3 hnil3 hconv
        go_wp2_with fail
        refine (of_any w.heap.size ao n cap (1 + k + 1 + 1) w4.heap.size 0 5 5 [⟨#[44]⟩, ⟨#[59]⟩, ⟨#[59]⟩, ⟨#[]⟩, ⟨#[97, 98]⟩] _ (HT.out.below ((Below.refl _ _).alloc (Nat.le_refl _) _)) hn (by omega) (by have := HT.out.lt; omega) (by simp) (by omega) (by omega) rfl ?_).mono ?_
        · intro j x hx
          rw [Nat.zero_add, World.cell?_alloc_at _ _ _ _ rfl]
          match j, hx with
          | 0, h => cases h; rfl
          | 1, h => cases h; rfl
          | 2, h => cases h; rfl
          | 3, h => cases h; rfl
          | 4, h => cases h; rfl
          | k + 5, h => cases h
        rintro e w9 ⟨b, rfl, hx, hc9, hg9⟩
        have hb := mark_small hx
        have B9 := Lib.hid ((BT.out.alloc (by have := BT.out.size; omega) _).grown hg9 (by have := BT.out.size; simp; omega) (fun q hq => by cases hq; exact Nat.le_refl _))
        have R9 := Lib.hid ((RT.out.alloc _).kept hg9 (row_ne RT.out (by omega)))
        clear hc9 hg9 hx
        go_wp2_with fail
        go_ret2
        exact ⟨_, xs ++ [X], b, rfl, ST.out, hb, hlT, B9.out, R9.out⟩

end Go.Proofs.Ytoljoifldlpinaa
