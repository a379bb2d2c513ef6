/-
  Contracts: the laws' markText, markStringS and heldStringS: a slice that the call itself made is marked, and holds the marks. Conditions: the bounds that each theorem names.
-/
import Derived.Test.YtoljoifldlpinaaView
import Derived.Deep.RegionHeld3
import Derived.Laws.BytesString
import Derived.Laws.Cells
import Derived.Maps.AppendAt
namespace Go.Proofs.Ytoljoifldlpinaa
open Go.RowKit

def markByte (k : Nat) : ByteArray := ⟨#[UInt8.ofNat (48 + k % 10)]⟩
def markLoop : Nat → Nat → ByteArray → ByteArray
  | 0, _, out => out
  | f + 1, k, out => if k = 0 then out else markLoop f (k / 10) (markByte k ++ out)
def markOf (k : Nat) : ByteArray := ⟨#[109]⟩ ++ markLoop k k ⟨#[]⟩

theorem conv_one (w : World) (j : Nat) :
    (convert 22 9 (.slice (some ⟨w.heap.size, 0, none⟩) 1 1)).run Try.prog (w.alloc (.cells #[.int .u8 (48 + (j : Int) % 10)] 5)) = .ok (.string (markByte j)) (w.alloc (.cells #[.int .u8 (48 + (j : Int) % 10)] 5)) := by
  rw [run_convert_bytes_string _ _ _ 5 _ _ _ Try.underlying22 Try.underlying5 Try.underlying9, run_bytesToString _ _ _ _ [48 + (j : Int) % 10]]
  · have e : (48 + (j : Int) % 10).toNat = 48 + j % 10 := by omega
    simp only [List.foldl_cons, List.foldl_nil, e]
    rfl
  · exact run_loadCells_list _ _ [Value.int .u8 (48 + (j : Int) % 10)] (cell_one_new _ _ _)

theorem ret_str {a b : ByteArray} (h : a = b) : Ending.returned (.string a) = .returned (.string b) := by rw [h]

set_option maxHeartbeats 400000 in
theorem mark_any (k : Nat) (w : World) (h0 : 0 < k) (hk : k ≤ 5000) :
    Calls Try.prog 34 #[.int .i64 k] w fun e w' => e = .returned (.string (markOf k)) ∧ Below w.heap.size w w' := by
  have h109 : (⟨#[109]⟩ : ByteArray).size = 1 := rfl
  obtain ⟨M, hM⟩ : ∃ M, M = markLoop k k ⟨#[]⟩ := ⟨_, rfl⟩
  have HM := Lib.hid hM
  unfold markOf
  rw [← hM]
  clear hM
  go_enter Try.func34, Try.ntmps34
  go_wp2
  go_loopw [0, 3] (fun a b wr => ∃ (f j : Nat) (out : ByteArray), j ≤ f ∧ out.size + j ≤ 5000 ∧ a = .int .i64 j ∧ b = .string out ∧ Hid (markLoop f j out = M) ∧ Hid (Below w.heap.size w wr)) (fun a _ _ => (intOf a).toNat)
  case atStart => exact ⟨k, k, ⟨#[]⟩, Nat.le_refl _, by show 0 + k ≤ 5000; omega, rfl, rfl, HM.out.symm, Below.refl _ _⟩
  case round =>
    obtain ⟨f, j, out, hjf, hsz, rfl, rfl, HL, HB⟩ := hrel
    rcases Nat.eq_zero_or_pos j with hj | hj
    · subst hj
      have he : out = M := by
        have h := HL.out
        cases f with
        | zero => exact h
        | succ f => rw [markLoop, if_pos rfl] at h; exact h
      have hso : out.size ≤ 5000 := by omega
      subst he
      clear hsz HM
      go_wp2
      go_ret
      exact ⟨rfl, HB.out⟩
    · have hconv := Lib.hid (conv_one wr j)
      obtain ⟨D, hD⟩ : ∃ D, D = markByte j := ⟨_, rfl⟩
      have hDs : D.size ≤ 1 := by rw [hD]; exact Nat.le_refl _
      have hc := hconv.out
      rw [← hD] at hc
      have HD := Lib.hid hD
      clear hD hconv
      have hj10 : j / 10 + 1 ≤ j := by omega
      go_wp2
      go_roundw
      case rel =>
        obtain ⟨f', rfl⟩ : ∃ f', f = f' + 1 := ⟨f - 1, by omega⟩
        refine ⟨f', j / 10, D ++ out, by omega, by rw [ByteArray.size_append]; omega, by go_num, rfl, ?_, HB.out.alloc HB.out.size _⟩
        have h := HL.out
        rw [markLoop, if_neg (by omega), ← HD.out] at h
        exact h
      case measure => simp [intOf]; omega

theorem own_em (v : Value) : v.ownBlock = none ∨ v.ownBlock ≠ none := Classical.em _
theorem grown_of_below {w w' : World} (h : Below w.heap.size w w') (row : Option Nat) : w.grownBy w' row := ⟨h.os, h.tape, h.output, h.size, fun k hk _ => h.block k hk⟩

def marksFrom (n : Nat) : List Value := (List.range n).map (fun i => Value.string (markOf (i + 1)))
theorem marks_set {xs : List Value} {j n : Nat} (hl : xs.length = n) (hj : j < n) : (marksFrom j ++ xs.drop j).set j (.string (markOf (j + 1))) = marksFrom (j + 1) ++ xs.drop (j + 1) := by
  have h1 : (marksFrom j).length = j := by simp [marksFrom]
  have h2 : xs.drop j = xs[j]'(by omega) :: xs.drop (j + 1) := List.drop_eq_getElem_cons (by omega)
  rw [List.set_append_right _ _ (by omega), h1, Nat.sub_self, h2, List.set_cons_zero]
  generalize xs.drop (j + 1) = r
  simp [marksFrom, List.range_succ]
theorem marks_get {n j : Nat} (hj : j < n) : (marksFrom n)[j]? = some (.string (markOf (j + 1))) := by
  simp [marksFrom, hj]

theorem markS_zero (ao : Option Addr) (c : Nat) (w : World) :
    Calls Try.prog 19 #[.slice ao 0 c, .int .i64 1] w fun e w' => e = .returned (.int .i64 1) ∧ w = w' := by
  go_enter Try.func19, Try.ntmps19
  go_wp2
  refine wp_loop_rounds 1 ?_
  rw [rounds_succ]
  go_wp2
  go_ret
  exact ⟨rfl, rfl⟩

theorem heldS_zero (ao : Option Addr) (c : Nat) (w : World) :
    Calls Try.prog 20 #[.slice ao 0 c, .int .i64 1] w fun e w' => e = .returned (.int .i64 1) ∧ w = w' := by
  go_enter Try.func20, Try.ntmps20
  go_wp2
  refine wp_loop_rounds 1 ?_
  rw [rounds_succ]
  go_wp2
  go_ret
  exact ⟨rfl, rfl⟩

set_option maxHeartbeats 1000000 in
theorem markS_own (b g n c : Nat) (xs : List Value) (w : World) (hn : n ≤ 4002) (hb : b ≤ w.heap.size) (h : w.ownsRow b 9 1 (.slice (some ⟨g, 0, none⟩) n c) n xs) :
    Calls Try.prog 19 #[.slice (some ⟨g, 0, none⟩) n c, .int .i64 1] w fun e w' => e = .returned (.int .i64 (1 + (n : Int))) ∧ w'.ownsRow b 9 1 (.slice (some ⟨g, 0, none⟩) n c) n (marksFrom n) ∧ Below b w w' := by
  have HO := Lib.hid h
  have hbg := (h.lt g rfl).1
  clear h
  go_enter Try.func19, Try.ntmps19
  go_wp2
  go_loopw [1, 5] (fun kk i wr => ∃ j : Nat, j ≤ n ∧ i = .int .i64 j ∧ kk = .int .i64 (1 + (j : Int)) ∧ Hid (wr.ownsRow b 9 1 (.slice (some ⟨g, 0, none⟩) n c) n (marksFrom j ++ xs.drop j)) ∧ Hid (Below b w wr) ∧ b ≤ wr.heap.size) (fun _ i _ => n - (intOf i).toNat)
  case atStart => exact ⟨0, Nat.zero_le _, rfl, rfl, by simpa [marksFrom] using HO, Below.refl _ _, hb⟩
  case round =>
    obtain ⟨j, hj, rfl, rfl, HR, HB, hbr⟩ := hrel
    by_cases hlt : j < n
    · have hm := mark_any (j + 1) wr (by omega) (by omega)
      have e1 : (((j + 1 : Nat)) : Int) = 1 + (j : Int) := by omega
      rw [e1] at hm
      obtain ⟨X, hX⟩ : ∃ X, X = markOf (j + 1) := ⟨_, rfl⟩
      rw [← hX] at hm
      have HM := Lib.hid hm
      have HX := Lib.hid hX
      clear hm e1 hX
      go_wp2_with fail
      refine HM.out.mono ?_
      rintro e w1 ⟨rfl, b1⟩
      have HR1 := Lib.hid (HR.out.kept (grown_of_below b1 none) (own_em _))
      have HB1 := Lib.hid (HB.out.trans (b1.mono hbr))
      have hs1 := b1.size
      have hfr := HR1.out.frozenAt j
      have hst := HR1.out.stored j (.string X)
      rw [HX.out, marks_set (by have := HO.out.1; simpa using this) hlt, ← HX.out] at hst
      obtain ⟨u, hu⟩ : ∃ u, w1.cell? ⟨g, j, none⟩ = some u := by
        rw [HR1.out.cellAt j (by omega)]
        have hl1 := HR1.out.1
        exact ⟨_, List.getElem?_eq_getElem (by omega)⟩
      have HST := Lib.hid hst
      clear hst b1
      go_wp2
      go_roundw
      case rel => exact ⟨j + 1, by omega, by go_num, by go_num, HST.out.1, HB1.out.grown HST.out.2 (by omega) (by intro q hq; cases hq; exact hbg), by have := HST.out.2.size; omega⟩
      case measure => simp [intOf]; omega
    · go_wp2
      go_ret
      have hjn : j = n := by omega
      refine ⟨ret_int (by rw [hjn]), ?_, HB.out⟩
      have h := HR.out
      rw [hjn, List.drop_of_length_le (by have := HO.out.1; omega), List.append_nil] at h
      exact h

theorem mark_keep (k : Nat) (p : Addr) (v : Value) (W w : World) (h0 : 0 < k) (hk : k ≤ 5000) (h : w.cell? p = some v) (hB : Below W.heap.size W w) :
    Calls Try.prog 34 #[.int .i64 k] w fun e w' => e = .returned (.string (markOf k)) ∧ (w'.cell? p = some v ∧ Below W.heap.size W w') :=
  (mark_any k w h0 hk).mono fun _ _ ⟨he, hb⟩ => ⟨he, (hb.cell (World.block_lt_of_cell? w p h)).trans h, hB.trans (hb.mono hB.size)⟩

set_option maxHeartbeats 1000000 in
theorem heldS_own (b g n c : Nat) (w : World) (hn : n ≤ 4002) (h : w.ownsRow b 9 1 (.slice (some ⟨g, 0, none⟩) n c) n (marksFrom n)) :
    Calls Try.prog 20 #[.slice (some ⟨g, 0, none⟩) n c, .int .i64 1] w fun e w' => e = .returned (.int .i64 (1 + (n : Int))) ∧ Below w.heap.size w w' := by
  have HO := Lib.hid h
  have hgl := (h.lt g rfl).2
  clear h
  go_enter Try.func20, Try.ntmps20
  go_wp2
  go_loopw [1, 5] (fun kk i wr => ∃ j : Nat, j ≤ n ∧ i = .int .i64 j ∧ kk = .int .i64 (1 + (j : Int)) ∧ Hid (Below w.heap.size w wr)) (fun _ i _ => n - (intOf i).toNat)
  case atStart => exact ⟨0, Nat.zero_le _, rfl, rfl, Below.refl _ _⟩
  case round =>
    obtain ⟨j, hj, rfl, rfl, HB⟩ := hrel
    by_cases hlt : j < n
    · have hcell : wr.cell? ⟨g, j, none⟩ = some (.string (markOf (j + 1))) := by
        rw [HB.out.cell (p := ⟨g, j, none⟩) hgl, HO.out.cellAt j (by omega), marks_get hlt]
      obtain ⟨X, hX⟩ : ∃ X, X = markOf (j + 1) := ⟨_, rfl⟩
      have hk := fun w h1 h2 => mark_keep (j + 1) ⟨g, j, none⟩ (.string X) wr w (by omega) (by omega) h1 h2
      have e1 : (((j + 1 : Nat)) : Int) = 1 + (j : Int) := by omega
      rw [e1, ← hX] at hk
      rw [← hX] at hcell
      have HK := Lib.hid hk
      have hw0 : Below wr.heap.size wr wr.drew := (Below.refl _ _).drew
      clear hk e1 hX
      go_wp2
      go_region_held3 (fun w' => w'.cell? ⟨g, j, none⟩ = some (.string X) ∧ Below wr.heap.size wr w') (first | assumption | go_keep) ((go_at_call 34; refine (HK.out _ ?_ ?_).mono ?_; assumption; assumption; rintro e w2 ⟨rfl, hS⟩))
      have HB2 : Hid (Below w.heap.size w w2) := HB.out.trans (hS.2.mono HB.out.size)
      clear hS hw0
      go_wp2
      go_roundw
      case rel => exact ⟨j + 1, by omega, by go_num, by go_num, HB2⟩
      case measure => simp [intOf]; omega
    · go_wp2
      go_ret
      have hjn : j = n := by omega
      exact ⟨ret_int (by rw [hjn]), HB.out⟩

end Go.Proofs.Ytoljoifldlpinaa
