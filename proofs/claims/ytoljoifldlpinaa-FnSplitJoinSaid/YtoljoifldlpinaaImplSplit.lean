/-
  Contract: impl.SplitString returns the parts of the string between the separators, in new memory, and true; or no slice and false where the string has more than 4000 bytes or the separator not one. The loop is a range over a function value that reads two captured variables. Condition: the bounds that each theorem names.
-/
import Derived.Test.YtoljoifldlpinaaView
import Derived.Test.YtoljoifldlpinaaSplitPlain
import Derived.RangeFuncBox
import Derived.RangeFuncLeaves
import Derived.RangeFuncNested
import Derived.RangeFuncBound
import Derived.RangeFuncCalls
import Derived.Shelf.Abstract
import Derived.OwnWalkIn
import Derived.TacticsInMore
import Derived.LoopNIn
import Derived.LoopIn
import Derived.Maps.AppendAt
import Derived.Sort.QuietTacIn
import Derived.Sort.BigQuietIn
namespace Go.Proofs.Ytoljoifldlpinaa
open Go.RowKit Go.Shelf

attribute [local go_sem] Oper.semAt_some

theorem Try.infoStr3 : (Try.prog.info? 9).map (fun i => (i.zero, i.size, i.bytes)) = some (some (.string ByteArray.empty), 1, 16) := by kernel_rfl

/-- A round leaves the blocks from a on, below b, as they were. -/
def KeepsBand (a b : Nat) (W W' : World) : Prop := ∀ k, a ≤ k → k < b → W'.heap[k]? = W.heap[k]?
theorem bandK_t {a b : Nat} {A B C : World} (h : KeepsBand a b A B) (k : KeepsBand a b B C) : KeepsBand a b A C := fun j h1 h2 => (k j h1 h2).trans (h j h1 h2)
theorem bandK_b {a b : Nat} {w : World} (hb : b ≤ w.heap.size) (W : World) (l : Nat) (o o' : Obj) (hl : w.heap.size ≤ l) (_ : W.heap[l]? = some o) (_ : o.isCells = false) (_ : o.isWalk = false) : KeepsBand a b W (W.putObj l o') :=
  fun _ _ h2 => World.putObj_heap_other (by omega)
theorem KeepsBand.cell {a b : Nat} {W W' : World} (h : KeepsBand a b W W') {k : Nat} (h1 : a ≤ k) (h2 : k < b) (j : Nat) : W'.cell? ⟨k, j, none⟩ = W.cell? ⟨k, j, none⟩ := World.cell?_of_block (h k h1 h2)
theorem abides_draw {β : Type} {B : Nat} {J : β → World → Prop} (h : AbidesFrom B J) {s : β} {W : World} (q : Nat) (hs : J s W) : J s (W.drewN q) :=
  h s W _ none hs ⟨rfl, rfl, rfl, Nat.le_refl _, fun _ _ _ => rfl⟩ (fun _ e => by cases e)

set_option maxRecDepth 100000 in
set_option maxHeartbeats 1000000 in
theorem pieces1_in (n : Nat) (hn : 1 ≤ n) (l Bs Bc lo hi B0 : Nat) (s : ByteArray) (c : UInt8) (hs : s.size ≤ 4000) (h1 : lo ≤ Bs) (h2 : Bs < hi) (h3 : lo ≤ Bc) (h4 : Bc < hi)
    (J Jx : List ByteArray → World → Prop) (hJ : AbidesFrom B0 J)
    (hY : ∀ pre x W, J pre W → pre.length < s.size + 1 → YieldAt Fence.wide (n - 1) Try.prog l #[.string x] W fun e W' =>
      (e = .returned (.bool true) ∧ J (pre ++ [x]) W' ∧ KeepsBand lo hi W W') ∨ (e = .returned (.bool false) ∧ Jx (pre ++ [x]) W'))
    (W : World) (hBs : W.cell? ⟨Bs, 0, none⟩ = some (.string s)) (hBc : W.cell? ⟨Bc, 0, none⟩ = some (.int .u8 (c.toNat : Int))) (h0 : J [] W) :
    CallsIn Fence.wide n Try.prog 36 #[.func (.yield l) #[] #[], .pointer (some ⟨Bs, 0, none⟩), .pointer (some ⟨Bc, 0, none⟩)] W fun e W' => (∃ v, e = .returned v) ∧
      ((∃ ys, ys = parts s c ∧ J ys W') ∨ (∃ pre, True ∧ Jx pre W')) := by
  refine callsIn_of_wp Try.func36 rfl trivial ?_ rfl
  simp only [Try.ntmps36, List.size_toArray, List.length_cons, List.length_nil, Nat.reduceAdd, Nat.reduceSub, Array.replicate_succ, Array.replicate_zero, List.push_toArray, List.append_toArray, List.nil_append, List.cons_append]
  gi_wp2
  gi_loopw [4, 8] (fun st ix wr => ∃ (k f : Nat) (o : List ByteArray), k ≤ s.size ∧ ix = .int .i64 k ∧ st = .int .i64 f ∧ f ≤ k ∧ o.length ≤ k ∧ Hid (cutAt s c k = (f, o)) ∧ J o wr ∧ Hid (KeepsBand lo hi W wr))
    (fun _ ix _ => s.size - (intOf ix).toNat)
  case atStart => exact ⟨0, 0, [], Nat.zero_le _, rfl, rfl, Nat.le_refl _, Nat.le_refl _, rfl, h0, fun _ _ _ => rfl⟩
  case round =>
    obtain ⟨k, f, o, hk, rfl, rfl, hfk, hok, HC, hJs, HK⟩ := hrel
    have cs : wr.cell? ⟨Bs, 0, none⟩ = some (.string s) := (HK.out.cell h1 h2 0).trans hBs
    have cc : wr.cell? ⟨Bc, 0, none⟩ = some (.int .u8 (c.toNat : Int)) := (HK.out.cell h3 h4 0).trans hBc
    by_cases hlt : k < s.size
    · by_cases he : s[k] = c
      · have he2 : ((s[k].toNat : Int) == (c.toNat : Int)) = true := by rw [he]; simp
        have he3 : ((s[k].toNat : Int) != (c.toNat : Int)) = false := by rw [he]; simp
        have HX : Hid (cutAt s c (k + 1) = (k + 1, o ++ [s.extract f k])) := by
          have h := cutAt_hit hlt he
          rw [HC.out] at h
          exact h
        clear he
        gi_wp2
        gi_quiet_th (fail)
        obtain ⟨fn, tmps, assign, body, hy, hR⟩ := hY o (s.extract f k) (wr.drewN nq) (abides_draw hJ nq hJs) (by omega)
        gi_wp2
        refine hR.mono ?_
        rintro e W3 (⟨rfl, hJ3, hk3⟩ | ⟨rfl, hJx3⟩)
        · have HK3 : Hid (KeepsBand lo hi W W3) := bandK_t HK.out (fun j a b => hk3 j a b)
          clear hk3
          gi_wp2
          go_roundw
          case rel => exact ⟨k + 1, k + 1, o ++ [s.extract f k], by omega, by go_num, by go_num, Nat.le_refl _, by simp; omega, HX, hJ3, HK3⟩
          case measure => simp [intOf]; omega
        · gi_wp2
          refine bodyPost_ret (results_none rfl _ _ _) rfl ?_
          exact ⟨⟨_, rfl⟩, .inr ⟨_, trivial, hJx3⟩⟩
      · have he2 : ((s[k].toNat : Int) == (c.toNat : Int)) = false := by
          rw [beq_eq_false_iff_ne]
          intro h
          exact he (UInt8.toNat_inj.1 (by omega))
        have he3 : ((s[k].toNat : Int) != (c.toNat : Int)) = true := by
          rw [bne_iff_ne]
          intro h
          exact he (UInt8.toNat_inj.1 (by omega))
        have HX : Hid (cutAt s c (k + 1) = (f, o)) := by
          have h := cutAt_miss hlt he
          rw [HC.out] at h
          exact h
        clear he
        gi_wp2
        gi_quiet_th (fail)
        gi_wp2
        go_roundw
        case rel => exact ⟨k + 1, f, o, by omega, by go_num, rfl, by omega, by omega, HX, abides_draw hJ _ hJs, fun j a b => HK.out j a b⟩
        case measure => simp [intOf]; omega
    · obtain ⟨fn, tmps, assign, body, hy, hR⟩ := hY o (s.extract f s.size) wr hJs (by omega)
      have HP : Hid (parts s c = o ++ [s.extract f s.size]) := by
        unfold Hid parts
        have h := HC.out
        obtain rfl : k = s.size := by omega
        rw [h]
      gi_wp2
      refine hR.mono ?_
      rintro e W3 (⟨rfl, hJ3, hk3⟩ | ⟨rfl, hJx3⟩)
      · clear hk3
        gi_wp2
        go_end0
        exact ⟨⟨_, rfl⟩, .inl ⟨_, HP.out.symm, hJ3⟩⟩
      · gi_wp2
        go_end0
        exact ⟨⟨_, rfl⟩, .inr ⟨_, trivial, hJx3⟩⟩

set_option maxHeartbeats 1000000 in
theorem pieces_in (n : Nat) (s : ByteArray) (c : UInt8) (w : World) :
    CallsIn Fence.wide n Try.prog 27 #[.string s, .int .u8 (c.toNat : Int)] w fun e w' =>
      e = .returned (.func (.func 36) #[] #[.pointer (some ⟨w.heap.size, 0, none⟩), .pointer (some ⟨w.heap.size + 1, 0, none⟩)]) ∧ w' = (w.alloc (.cells #[.string s] 9)).alloc (.cells #[.int .u8 (c.toNat : Int)] 5) := by
  refine callsIn_of_wp Try.func27 rfl trivial ?_ rfl
  simp only [Try.ntmps27, List.size_toArray, List.length_cons, List.length_nil, Nat.reduceAdd, Nat.reduceSub, Array.replicate_succ, Array.replicate_zero, List.push_toArray, List.append_toArray, List.nil_append, List.cons_append]
  gi_wp2
  go_ret
  exact ⟨rfl, rfl⟩

theorem pieces_stops (n : Nat) (hn : 1 ≤ n) (Bs Bc lo hi : Nat) (s : ByteArray) (c : UInt8) (hs : s.size ≤ 4000) (h1 : lo ≤ Bs) (h2 : Bs < hi) (h3 : lo ≤ Bc) (h4 : Bc < hi) (w : World) (hw : hi ≤ w.heap.size)
    (hBs : w.cell? ⟨Bs, 0, none⟩ = some (.string s)) (hBc : w.cell? ⟨Bc, 0, none⟩ = some (.int .u8 (c.toNat : Int))) :
    SeqStopsK Fence.wide n Try.prog 36 #[.pointer (some ⟨Bs, 0, none⟩), .pointer (some ⟨Bc, 0, none⟩)] (fun x : ByteArray => #[Value.string x]) (KeepsBand lo hi) (fun ys => ys = parts s c) (fun _ => True) (s.size + 1) w :=
  fun l J Jx W hW hJ _ hY h0 => pieces1_in n hn l Bs Bc lo hi _ s c hs h1 h2 h3 h4 J Jx hJ hY W
    ((hW.cell (p := ⟨Bs, 0, none⟩) (by show Bs < _; omega)).trans hBs) ((hW.cell (p := ⟨Bc, 0, none⟩) (by show Bc < _; omega)).trans hBc) h0

/-- The slice holds the parts, in memory of the call's own; beside it true. -/
def HoldsSplit (w w' : World) (xs : List ByteArray) (e : Ending) : Prop :=
  ∃ g cap, e = .returned (.tuple #[.slice (some ⟨g, 0, none⟩) xs.length cap, .bool true]) ∧ w'.ownsRow w.heap.size 9 1 (.slice (some ⟨g, 0, none⟩) xs.length cap) xs.length (xs.map Value.string) ∧ Below w.heap.size w w'

theorem holds_split {w w' : World} {xs : List ByteArray} {m g cap : Nat} (hm : xs.length = m + 1) (h : w'.ownsRow w.heap.size 9 1 (.slice (some ⟨g, 0, none⟩) (m + 1) cap) (m + 1) (xs.map Value.string)) (hb : Below w.heap.size w w') :
    HoldsSplit w w' xs (.returned (.tuple #[.slice (some ⟨g, 0, none⟩) (m + 1) cap, .bool true])) := by
  rw [← hm] at h ⊢
  exact ⟨g, cap, rfl, h, hb⟩
theorem ownsRow_base {W : World} {b b' : Nat} {e : TypeId} {size : Nat} {v : Value} {k : Nat} {xs : List Value} (h : W.ownsRow b e size v k xs) (hb : b' ≤ b) : W.ownsRow b' e size v k xs := by
  refine ⟨h.1, ?_⟩
  rcases h.2 with h2 | ⟨g, cap, cur, h1, h2, h3⟩
  · exact .inl h2
  · exact .inr ⟨g, cap, cur, h1, by omega, h3⟩
theorem ownFrom_size {β : Type} (B m : Nat) : OwnFrom B (fun (_ : β) (W : World) => m ≤ W.heap.size) := fun _ _ _ _ hs hg _ => Nat.le_trans hs hg.size
/-- What an append and the store of its result do to two boxes that lie elsewhere. -/
theorem band_append {W w1 : World} {B lo hi : Nat} {tmp : Obj} {row : Option Nat} {v' : Value} (hgrow : (W.alloc tmp).grownBy w1 row) (hrow : ∀ k, row = some k → hi ≤ k) (hB : B < lo) (hW : hi ≤ W.heap.size) : KeepsBand lo hi W (w1.setCell ⟨B, 0, none⟩ v') := by
  intro k h1 h2
  rw [Below.heap_setCell w1 _ _ k (by show k ≠ B; omega), hgrow.block k (by simp; omega) (fun e => by have := hrow k e.symm; omega), Below.heap_alloc W tmp k (by omega)]

set_option maxRecDepth 100000 in
set_option maxHeartbeats 2000000 in
theorem implSplit_good (s : ByteArray) (c : UInt8) (w : World) (hs : s.size ≤ 4000) :
    Calls Try.prog 10 #[.string s, .string ⟨#[c]⟩] w fun e w' => HoldsSplit w w' (parts s c) e := by
  refine (callsIn_wide (n := 9)).1 ?_
  obtain ⟨i0, hi, hz0, hz1, hz2⟩ := info_parts Try.infoStr3
  have hb0 : ∀ h, (⟨#[c]⟩ : ByteArray)[0]'h = c := fun _ => rfl
  have hd : decide ((4000 : Int) < (s.size : Int)) = false := decide_eq_false (by omega)
  refine callsIn_of_wp_marks Try.func10 rfl trivial ?_ rfl
  simp only [Try.ntmps10, List.size_toArray, List.length_cons, List.length_nil, Nat.reduceAdd, Nat.reduceSub, Array.replicate_succ, Array.replicate_zero, List.push_toArray, List.append_toArray, List.nil_append, List.cons_append]
  gi_wp2_with (refine ⟨trivial, ?_⟩; gi_at_call 27; refine (pieces_in _ s c _).mono ?_; rintro e w' ⟨rfl, rfl⟩)
  clear hd hb0
  have bO := Boxed.new w 26 (.slice none 0 0)
  have bS := Boxed.new (w.alloc (.cells #[.slice none 0 0] 26)) 9 (.string s)
  have bC := Boxed.new ((w.alloc (.cells #[.slice none 0 0] 26)).alloc (.cells #[.string s] 9)) 5 (.int .u8 (c.toNat : Int))
  rw [World.size_alloc] at bS
  rw [World.size_alloc, World.size_alloc] at bC
  have bS2 := bS.alloc (.cells #[.int .u8 (c.toNat : Int)] 5)
  have hB0 : Below w.heap.size w (((w.alloc (.cells #[.slice none 0 0] 26)).alloc (.cells #[.string s] 9)).alloc (.cells #[.int .u8 (c.toNat : Int)] 5)) := (((Below.refl _ w).alloc (Nat.le_refl _) _).alloc (by simp) _).alloc (by simp; omega) _
  refine wpIn_rangeFunc_ownG rfl (by decide) (gf := 36) (lb := #[.pointer (some ⟨w.heap.size + 1, 0, none⟩), .pointer (some ⟨w.heap.size + 1 + 1, 0, none⟩)]) rfl trivial (enters_of Try.func36 (by kernel_rfl) rfl)
    (pieces_stops 8 (by decide) (w.heap.size + 1) (w.heap.size + 1 + 1) (w.heap.size + 1) (w.heap.size + 3) s c hs (Nat.le_refl _) (by omega) (by omega) (by omega) _ (by simp) bS2.cell bC.cell) bandK_t (bandK_b (by simp)) (Below.refl _ _) (fun _ => rfl)
    (fun pre W => ((∃ v, Boxed W w.heap.size 26 v ∧ W.ownsRow (w.heap.size + 3) 9 1 v pre.length (pre.map Value.string) ∧ (v = .slice none 0 0 ↔ pre = [])) ∧ Below w.heap.size w W) ∧ w.heap.size + 3 ≤ W.heap.size)
    (fun _ _ _ => False)
    (OwnFrom.and (OwnFrom.and (Own.from (holdsRow_own (w.heap.size + 3) w.heap.size 26 9 1 (fun pre => pre.length) (fun pre => pre.map Value.string) (fun pre v => v = .slice none 0 0 ↔ pre = [])) _) (ownFrom_below (Nat.le_refl _) (by simp; omega))) (ownFrom_size _ _))
    (fun _ _ _ _ _ hs _ _ => hs)
    ⟨⟨⟨_, (bO.alloc _).alloc _, World.ownsRow_nil _ _ _ _, by simp⟩, hB0⟩, by simp⟩
    (fun x => { tmps := #[.string s, .string ⟨#[c]⟩, undef, undef, .slice none 0 0, .bool false, .pointer (some ⟨w.heap.size, 0, none⟩), .string x, .string s, .int .i64 s.size, .bool false, .bool false, .string ⟨#[c]⟩, .int .i64 1, .bool false, .bool false, .string s, .string ⟨#[c]⟩, .int .u8 (c.toNat : Int), .func (.func 36) #[] #[.pointer (some ⟨w.heap.size + 1, 0, none⟩), .pointer (some ⟨w.heap.size + 1 + 1, 0, none⟩)], .string x, undef, undef, undef, undef, undef], defers := [] }) ?assign ?body ?done ?stop
  case assign =>
    intro l x W K hK
    gi_wp2
    exact hK
  case body =>
    rintro l pre x W ⟨⟨⟨v, hv, hrow, hnil⟩, hB⟩, hz⟩ hlt
    have hc := hv.cell
    gi_wp2_with (gi_at_builtin; refine wpListIn_append_own _ rfl _ _ 26 rfl (w.heap.size + 3) 9 i0 (.string ByteArray.empty) 1 16 Try.underlying26 hi hz0 hz1 hz2 rfl (by decide) _ _ _ rfl (hrow.alloc _) ⟨W.heap.size, 0, none⟩ 1 1 [.string x] rfl rfl (cell_one_new _ _ _) (by simp [Value.oneCell']) (by unfold maxLen; omega) (by omega) (by simp; omega) ?_; intro v' w1 hown' hgrow _; obtain ⟨g', cap', rfl⟩ := ownsRow_succ hown'; obtain ⟨hv1, hv2, hr2, hk2, hb2⟩ := hv.appended (by decide) (ownsRow_base hrow (by omega)) hB.size (Nat.le_refl _) (ownsRow_base hown' (by omega)) hgrow; have hc1 := hv1.cell; have hf1 := hv1.frozen)
    have hr3 := hown'.kept (grownBy_setCell' w1 w.heap.size (.slice (some ⟨g', 0, none⟩) (pre.length + 1) cap')) (.inr (hv1.not_row (by decide) hown').symm)
    have hband := band_append (B := w.heap.size) (lo := w.heap.size + 1) (hi := w.heap.size + 3) (v' := .slice (some ⟨g', 0, none⟩) (pre.length + 1) cap') hgrow (fun k e => (hrow.lt k e).1) (by omega) hz
    exact ⟨hk2.from _, hband, ⟨⟨⟨_, hv2, by simpa using hr3, by simp⟩, hB.trans hb2⟩, by have := hb2.size; omega⟩⟩
  case done =>
    rintro D ys W hD rfl ⟨⟨⟨v, hv, hrow, hnil⟩, hB⟩, hz⟩ hK
    have hc := hv.cell
    have hp := parts_pos s c
    obtain ⟨m, hm⟩ : ∃ m, (parts s c).length = m + 1 := ⟨(parts s c).length - 1, by omega⟩
    rw [hm] at hrow
    obtain ⟨g, cap, rfl⟩ := ownsRow_succ hrow
    gi_wp2
    refine ⟨by simp, .inl ⟨_, _, rfl, run_takeDeferred hK, ?_⟩⟩
    exact ⟨_, results_tmp2 rfl _ _ _, holds_split hm (ownsRow_base (ownsRow_putObj hrow _ hK rfl) (by omega)) (hB.trans (belowK_b (w := w) (Nat.le_refl _) W D _ _ (by simp at hD; omega) hK rfl rfl))⟩
  case stop =>
    rintro D c pre W _ _ h _
    exact h.elim

theorem implSplit_bad (s sep : ByteArray) (w : World) (h : 4000 < s.size ∨ sep.size ≠ 1) :
    Calls Try.prog 10 #[.string s, .string sep] w fun e w' => e = .returned (.tuple #[.slice none 0 0, .bool false]) ∧ w = w' := by
  by_cases h1 : 4000 < s.size
  · clear h
    go_enter Try.func10, Try.ntmps10
    go_wp2
    go_ret2
    exact ⟨rfl, rfl⟩
  · have h2 : ((sep.size : Int) != 1) = true := by rw [bne_iff_ne]; omega
    have h3 : ((sep.size : Int) == 1) = false := by rw [beq_eq_false_iff_ne]; omega
    clear h
    go_enter Try.func10, Try.ntmps10
    go_wp2
    go_ret2
    exact ⟨rfl, rfl⟩

end Go.Proofs.Ytoljoifldlpinaa
