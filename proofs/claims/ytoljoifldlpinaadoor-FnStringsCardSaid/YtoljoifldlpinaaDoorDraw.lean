/-
  Contracts: the model's reader of choices: next, pick, one, of and any1 return values within their bounds and change only the reader's own block. Conditions: the bounds that each theorem names.
-/
import Derived.Test.YtoljoifldlpinaaDoorView
import Derived.OneCell
import Derived.Laws.Bits64
import Derived.Laws.BitsAllLaws
namespace Go.Proofs.YtoljoifldlpinaaDoor
open Go.RowKit

/-- The bytes that the reader reads lie below its block. -/
def CodeOk (w : World) (B : Nat) (ao : Option Addr) (n : Nat) : Prop :=
  n = 0 ∨ ∃ b o, ao = some ⟨b, o, none⟩ ∧ b < B ∧ ∀ j, j < n → ∃ x : Int, w.cell? ⟨b, o + j, none⟩ = some (.int .u8 x) ∧ 0 ≤ x ∧ x ≤ 255
/-- The reader: a block of three cells. -/
def CurAt (w : World) (B : Nat) (ao : Option Addr) (n cap : Nat) (m : Nat) : Prop :=
  (∃ (p : Nat) (seed : Int), p ≤ m ∧ w.heap[B]? = some (.cells #[.slice ao n cap, .int .i64 (p : Int), .int .u64 seed] 37 (0, 0))) ∧ CodeOk w B ao n

theorem CodeOk.kept {w w' : World} {B : Nat} {ao : Option Addr} {n : Nat} (h : CodeOk w B ao n) (hk : ∀ k, k < B → w'.heap[k]? = w.heap[k]?) : CodeOk w' B ao n := by
  rcases h with h | ⟨b, o, h1, h2, h3⟩
  · exact .inl h
  · refine .inr ⟨b, o, h1, h2, fun j hj => ?_⟩
    obtain ⟨x, hx, h4⟩ := h3 j hj
    exact ⟨x, (World.cell?_of_block (hk b h2)).trans hx, h4⟩
theorem cur_step {w W2 : World} {B n cap m p : Nat} {ao : Option Addr} {seed S : Int} (hb : w.heap[B]? = some (.cells #[.slice ao n cap, .int .i64 (p : Int), .int .u64 seed] 37 (0, 0))) (hc : CodeOk w B ao n) (hp : p ≤ m)
    (h1 : W2.heap = ((w.setCell ⟨B, 1, none⟩ (.int .i64 ((p : Int) + 1))).setCell ⟨B, 2, none⟩ (.int .u64 S)).heap) (h2 : W2.os = w.os) (h3 : W2.tape = w.tape) (h4 : W2.output = w.output) : CurAt W2 B ao n cap (m + 1) ∧ w.grownBy W2 (some B) := by
  have ho : ∀ k, k ≠ B → W2.heap[k]? = w.heap[k]? := fun k hk => by
    rw [h1, Below.heap_setCell _ _ _ k hk, Below.heap_setCell _ _ _ k hk]
  refine ⟨⟨⟨p + 1, S, by omega, ?_⟩, hc.kept (fun k hk => ho k (by omega))⟩, ⟨h2, h3, h4, ?_, fun k _ hk => ho k (fun e => hk (by rw [e]))⟩⟩
  · rw [h1]
    exact heap_setCell_same _ B 2 _ _ _ (heap_setCell_same w B 1 _ _ _ hb)
  · rw [h1]; simp
theorem byte_bits (X : Int) : 0 ≤ wrap64 (bits .and .u64 (IntKind.u64.wrap X / 1099511627776) 255) ∧ wrap64 (bits .and .u64 (IntKind.u64.wrap X / 1099511627776) 255) ≤ 255 := by
  have hw : 0 ≤ IntKind.u64.wrap X ∧ IntKind.u64.wrap X < 18446744073709551616 := by
    unfold IntKind.wrap
    simp [IntKind.bits, IntKind.signed]
    omega
  rw [u64_and _ _ (by omega) (by omega) (by omega) (by omega)]
  have h := @Nat.and_le_right (IntKind.u64.wrap X / 1099511627776).toNat (255 : Int).toNat
  have h2 : ((255 : Int)).toNat = 255 := rfl
  rw [h2] at h ⊢
  rw [IntWalk.wrap64_in _ (by omega)]
  omega
/-- What a call of the reader leaves. -/
def Reads (B : Nat) (ao : Option Addr) (n cap m : Nat) (lo hi : Int) (w : World) (e : Ending) (w' : World) : Prop :=
  ∃ v : Int, e = .returned (.int .i64 v) ∧ lo ≤ v ∧ v ≤ hi ∧ CurAt w' B ao n cap m ∧ w.grownBy w' (some B)
theorem reads_mk {B : Nat} {ao : Option Addr} {n cap m : Nat} {lo hi v : Int} {w w' : World} (h : lo ≤ v ∧ v ≤ hi) (hs : CurAt w' B ao n cap m ∧ w.grownBy w' (some B)) : Reads B ao n cap m lo hi w (.returned (.int .i64 v)) w' :=
  ⟨v, rfl, h.1, h.2, hs.1, hs.2⟩

theorem next_any (B : Nat) (ao : Option Addr) (n cap m : Nat) (w : World) (h : CurAt w B ao n cap m) (hn : n ≤ 65536) (hm : m ≤ 1000000) :
    Calls Tryd.prog 37 #[.pointer (some ⟨B, 0, none⟩)] w (Reads B ao n cap (m + 1) 0 255 w) := by
  obtain ⟨⟨p, seed, hp, hb⟩, hc⟩ := h
  have c0 : w.cell? ⟨B, 0, none⟩ = some (.slice ao n cap) := by rw [cell_of_row w B 0 _ _ _ hb]; rfl
  have c1 : w.cell? ⟨B, 1, none⟩ = some (.int .i64 (p : Int)) := by rw [cell_of_row w B 1 _ _ _ hb]; rfl
  have c2 : w.cell? ⟨B, 2, none⟩ = some (.int .u64 seed) := by rw [cell_of_row w B 2 _ _ _ hb]; rfl
  have f1 : w.frozen? ⟨B, 1, none⟩ = false := frozen_of_row w B 1 _ _ hb
  have f2 : w.frozen? ⟨B, 2, none⟩ = false := frozen_of_row w B 2 _ _ hb
  have HB := Lib.hid hb
  have HC := Lib.hid hc
  clear hb hc
  by_cases hlt : p < n
  · obtain ⟨b, o, x, rfl, hcell, hx0, hx1⟩ : ∃ b o x, ao = some ⟨b, o, none⟩ ∧ w.cell? ⟨b, o + p, none⟩ = some (.int .u8 x) ∧ 0 ≤ x ∧ x ≤ 255 := by
      rcases HC.out with h0 | ⟨b, o, h1, _, h2⟩
      · omega
      · obtain ⟨x, h3⟩ := h2 p hlt
        exact ⟨b, o, x, h1, h3⟩
    go_enter Tryd.func37, Tryd.ntmps37
    go_wp2
    go_quiet (fail)
    go_wp2
    go_quiet (fail)
    go_wp2
    go_quiet (fail)
    go_wp2
    go_ret
    exact reads_mk ⟨hx0, hx1⟩ (cur_step HB.out HC.out hp rfl rfl rfl rfl)
  · go_enter Tryd.func37, Tryd.ntmps37
    go_wp2
    go_quiet (fail)
    go_wp2
    go_quiet (fail)
    go_wp2
    go_ret
    exact reads_mk (byte_bits _) (cur_step HB.out HC.out hp rfl rfl rfl rfl)

theorem grownBy_trans {a b c : World} {r : Option Nat} (h : a.grownBy b r) (k : b.grownBy c r) : a.grownBy c r :=
  ⟨k.os.trans h.os, k.tape.trans h.tape, k.output.trans h.output, Nat.le_trans h.size k.size, fun j hj hr => (k.block j (Nat.lt_of_lt_of_le hj h.size) hr).trans (h.block j hj hr)⟩
theorem CurAt.lt {w : World} {B n cap m : Nat} {ao : Option Addr} (h : CurAt w B ao n cap m) : B < w.heap.size := by
  obtain ⟨⟨p, seed, _, hb⟩, _⟩ := h
  exact (Array.getElem?_eq_some_iff.1 hb).1
theorem CurAt.below {w w' : World} {B n cap m : Nat} {ao : Option Addr} (h : CurAt w B ao n cap m) (hb : Below w.heap.size w w') : CurAt w' B ao n cap m := by
  have hl := h.lt
  obtain ⟨⟨p, seed, hp, h1⟩, hc⟩ := h
  exact ⟨⟨p, seed, hp, (hb.block B hl).trans h1⟩, hc.kept (fun k hk => hb.block k (by omega))⟩
theorem CurAt.more {w : World} {B n cap m m' : Nat} {ao : Option Addr} (h : CurAt w B ao n cap m) (hm : m ≤ m') : CurAt w B ao n cap m' := by
  obtain ⟨⟨p, seed, hp, h1⟩, hc⟩ := h
  exact ⟨⟨p, seed, by omega, h1⟩, hc⟩

theorem pick_one (B : Nat) (k : Int) (w : World) (hk : k ≤ 1) :
    Calls Tryd.prog 22 #[.pointer (some ⟨B, 0, none⟩), .int .i64 k] w fun e w' => e = .returned (.int .i64 0) ∧ w = w' := by
  go_enter Tryd.func22, Tryd.ntmps22
  go_wp2
  go_ret
  exact ⟨rfl, rfl⟩

theorem pick_small (B : Nat) (ao : Option Addr) (n cap m : Nat) (k : Int) (w : World) (h : CurAt w B ao n cap m) (hn : n ≤ 65536) (hm : m ≤ 1000000) (hk : 2 ≤ k) (hk2 : k ≤ 200) :
    Calls Tryd.prog 22 #[.pointer (some ⟨B, 0, none⟩), .int .i64 k] w (Reads B ao n cap (m + 1) 0 (k - 1) w) := by
  have hN := Lib.hid (next_any B ao n cap m w h hn hm)
  clear h
  go_enter Tryd.func22, Tryd.ntmps22
  go_wp2_with fail
  refine hN.out.mono ?_
  rintro e w1 ⟨v, rfl, h0, h1, hc, hg⟩
  have HC := Lib.hid (And.intro hc hg)
  clear hc hg
  have hr0 := Int.emod_nonneg v (show k ≠ 0 by omega)
  have hr1 := Int.emod_lt_of_pos v (show 0 < k by omega)
  go_wp2
  go_ret
  exact reads_mk ⟨hr0, by omega⟩ HC.out

/-- What a choice of a text leaves. -/
def ReadsText (xs : List ByteArray) (B : Nat) (ao : Option Addr) (n cap m : Nat) (w : World) (e : Ending) (w' : World) : Prop :=
  ∃ x : ByteArray, e = .returned (.string x) ∧ x ∈ xs ∧ CurAt w' B ao n cap m ∧ w.grownBy w' (some B)

theorem of_any (B : Nat) (ao : Option Addr) (n cap m b2 o2 k c2 : Nat) (xs : List ByteArray) (w : World) (h : CurAt w B ao n cap m) (hn : n ≤ 65536) (hm : m ≤ 1000000) (hb : b2 ≠ B) (hb2 : b2 < w.heap.size) (hk : 2 ≤ k) (hk2 : k ≤ 200) (hl : xs.length = k)
    (hc : ∀ j x, xs[j]? = some x → w.cell? ⟨b2, o2 + j, none⟩ = some (.string x)) :
    Calls Tryd.prog 27 #[.pointer (some ⟨B, 0, none⟩), .slice (some ⟨b2, o2, none⟩) k c2] w (ReadsText xs B ao n cap (m + 1) w) := by
  have hP := Lib.hid (pick_small B ao n cap m (k : Int) w h hn hm (by omega) (by omega))
  have HC := Lib.hid hc
  have HL := Lib.hid hl
  clear h hc hl
  go_enter Tryd.func27, Tryd.ntmps27
  go_wp2_with fail
  refine hP.out.mono ?_
  rintro e w1 ⟨v, rfl, h0, h1, hcu, hg⟩
  obtain ⟨j, rfl⟩ : ∃ j : Nat, v = (j : Int) := ⟨v.toNat, by omega⟩
  have hjk : j < k := by omega
  obtain ⟨x, hx⟩ := get_of_lt HL.out hjk
  have hcell : w1.cell? ⟨b2, o2 + j, none⟩ = some (.string x) := (World.cell?_of_block (hg.block b2 hb2 (fun e => hb (Option.some.inj e)))).trans (HC.out j x hx)
  have HX := Lib.hid (And.intro (List.mem_of_getElem? hx) (And.intro hcu hg))
  clear hcu hg hx h1 h0
  go_wp2
  go_ret
  exact ⟨x, rfl, HX.out.1, HX.out.2.1, HX.out.2.2⟩

theorem any_small {x : ByteArray} (h : x ∈ ([⟨#[]⟩, ⟨#[97]⟩, ⟨#[97, 44, 98]⟩, ⟨#[115, 111, 109, 101, 32, 119, 111, 114, 100, 115]⟩, ⟨#[120, 35, 121]⟩, ⟨#[45, 49, 50]⟩, ⟨#[0, 255]⟩, ⟨#[44, 44]⟩, ⟨#[48]⟩] : List ByteArray)) : x.size ≤ 10 := by
  simp only [List.mem_cons, List.not_mem_nil, or_false] at h
  rcases h with rfl | rfl | rfl | rfl | rfl | rfl | rfl | rfl | rfl <;> decide

/-- What a choice of a short text leaves. -/
def ReadsSmall (B : Nat) (ao : Option Addr) (n cap m : Nat) (w : World) (e : Ending) (w' : World) : Prop :=
  ∃ x : ByteArray, e = .returned (.string x) ∧ x.size ≤ 10 ∧ CurAt w' B ao n cap m ∧ w.grownBy w' (some B)

theorem any1_any (B : Nat) (ao : Option Addr) (n cap m : Nat) (w : World) (h : CurAt w B ao n cap m) (hn : n ≤ 65536) (hm : m ≤ 1000000) :
    Calls Tryd.prog 30 #[.pointer (some ⟨B, 0, none⟩)] w (ReadsSmall B ao n cap (m + 1) w) := by
  have hlt := h.lt
  have HC := Lib.hid h
  clear h
  go_enter Tryd.func30, Tryd.ntmps30
  go_wp2_with fail
  refine (of_any B ao n cap m w.heap.size 0 9 9 [⟨#[]⟩, ⟨#[97]⟩, ⟨#[97, 44, 98]⟩, ⟨#[115, 111, 109, 101, 32, 119, 111, 114, 100, 115]⟩, ⟨#[120, 35, 121]⟩, ⟨#[45, 49, 50]⟩, ⟨#[0, 255]⟩, ⟨#[44, 44]⟩, ⟨#[48]⟩] _ (HC.out.below ((Below.refl _ _).alloc (Nat.le_refl _) _)) hn hm (by omega) (by simp) (by omega) (by omega) rfl ?_).mono ?_
  · intro j x hx
    rw [Nat.zero_add, World.cell?_alloc_at _ _ _ _ rfl]
    match j, hx with
    | 0, h => cases h; rfl
    | 1, h => cases h; rfl
    | 2, h => cases h; rfl
    | 3, h => cases h; rfl
    | 4, h => cases h; rfl
    | 5, h => cases h; rfl
    | 6, h => cases h; rfl
    | 7, h => cases h; rfl
    | 8, h => cases h; rfl
    | k + 9, h => cases h
  rintro e w1 ⟨x, rfl, hx, hc, hg⟩
  have HG := Lib.hid (And.intro (any_small hx) (And.intro hc (grownBy_trans (World.grownBy_alloc w _ _) hg)))
  clear hx hc hg
  go_wp2
  go_ret
  exact ⟨x, rfl, HG.out.1, HG.out.2.1, HG.out.2.2⟩

end Go.Proofs.YtoljoifldlpinaaDoor
