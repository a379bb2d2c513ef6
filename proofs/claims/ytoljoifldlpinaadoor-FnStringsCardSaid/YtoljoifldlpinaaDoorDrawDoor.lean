/-
  Contracts: the drawn arguments of FormatInt, ParseInt and AppendChecksum, the law's own vBig and vAt: each returns within its bounds, in new memory of the reader alone. Condition: the code has at most 2^16 bytes, each a byte.
-/
import Derived.Test.YtoljoifldlpinaaDoorDraw
import Derived.Test.YtoljoifldlpinaaDoorNum
import Derived.Test.YtoljoifldlpinaaDoorReadPlain
import Derived.Maps.AppendAt
import Derived.Laws.BytesString
namespace Go.Proofs.YtoljoifldlpinaaDoor
open Go.RowKit

theorem big_any (ao : Option Addr) (n cap : Nat) (w : World) :
    Calls Tryd.prog 8 #[.slice ao n cap] w fun e w' => e = .returned (.bool (decide (65536 < n))) ∧ w = w' := by
  go_enter Tryd.func8, Tryd.ntmps8
  go_wp2
  go_ret
  refine ⟨ret_bool ?_, rfl⟩
  by_cases h : 65536 < n
  · rw [decide_eq_true h]; simp; omega
  · rw [decide_eq_false h]; simp; omega

theorem heap_new (w : World) (o : Obj) : (w.alloc o).heap[w.heap.size]? = some o := by
  show (w.heap.push o)[w.heap.size]? = _
  simp
/-- The block of a new reader. -/
theorem cur_new {w : World} {ao : Option Addr} {n cap : Nat} (h : CodeOk w w.heap.size ao n) : CurAt (w.alloc (.cells #[.slice ao n cap, .int .i64 0, .int .u64 0] 37 (0, 0))) w.heap.size ao n cap 0 := by
  refine ⟨⟨0, 0, Nat.le_refl _, ?_⟩, h.kept fun k hk => Below.heap_alloc _ _ _ (by omega)⟩
  exact heap_new _ _
/-- Reading on. -/
theorem below_cur {w w1 : World} {o : Obj} (h : (w.alloc o).grownBy w1 (some w.heap.size)) : Below w.heap.size w w1 :=
  ((Below.refl _ _).alloc (Nat.le_refl _) o).grown h (by simp) (fun q hq => by cases hq; exact Nat.le_refl _)
theorem CodeOk.up {w : World} {B B' n : Nat} {ao : Option Addr} (h : CodeOk w B ao n) (hb : B ≤ B') : CodeOk w B' ao n := by
  rcases h with h | ⟨b, o, h1, h2, h3⟩
  · exact .inl h
  · exact .inr ⟨b, o, h1, by omega, h3⟩
theorem CodeOk.below {w w' : World} {n : Nat} {ao : Option Addr} (h : CodeOk w w.heap.size ao n) (hb : Below w.heap.size w w') : CodeOk w' w'.heap.size ao n :=
  (h.kept hb.block).up hb.size
theorem CurAt.grown {w w' : World} {B n cap m : Nat} {ao : Option Addr} {row : Option Nat} (h : CurAt w B ao n cap m) (hg : w.grownBy w' row) (hr : ∀ q, row = some q → B < q) : CurAt w' B ao n cap m := by
  have hl := h.lt
  have hk : ∀ k, k ≤ B → w'.heap[k]? = w.heap[k]? := fun k hk => hg.block k (by omega) (fun e => by have := hr k e.symm; omega)
  obtain ⟨⟨p, seed, hp, h1⟩, hc⟩ := h
  exact ⟨⟨p, seed, hp, (hk B (Nat.le_refl _)).trans h1⟩, hc.kept (fun k hkb => hk k (by omega))⟩

theorem one_any (B : Nat) (ao : Option Addr) (n cap m : Nat) (k : Int) (w : World) (h : CurAt w B ao n cap m) (hn : n ≤ 65536) (hm : m ≤ 1000000) (hk : 2 ≤ k) (hk2 : k ≤ 200) :
    Calls Tryd.prog 26 #[.pointer (some ⟨B, 0, none⟩), .int .i64 k] w fun e w' => ∃ b : Bool, e = .returned (.bool b) ∧ CurAt w' B ao n cap (m + 1) ∧ w.grownBy w' (some B) := by
  have hN := Lib.hid (pick_small B ao n cap m k w h hn hm hk hk2)
  clear h
  go_enter Tryd.func26, Tryd.ntmps26
  go_wp2_with fail
  refine hN.out.mono ?_
  rintro e w1 ⟨v, rfl, h0, h1, hc, hg⟩
  have HC := Lib.hid (And.intro hc hg)
  clear hc hg
  go_wp2
  go_ret
  exact ⟨_, rfl, HC.out⟩

theorem pick_big (B : Nat) (ao : Option Addr) (n cap m : Nat) (k : Int) (w : World) (h : CurAt w B ao n cap m) (hn : n ≤ 65536) (hm : m ≤ 900000) (hk : 201 ≤ k) (hk2 : k ≤ 60000) :
    Calls Tryd.prog 22 #[.pointer (some ⟨B, 0, none⟩), .int .i64 k] w (Reads B ao n cap (m + 2) 0 (k - 1) w) := by
  have hN := Lib.hid (next_any B ao n cap m w h hn (by omega))
  clear h
  go_enter Tryd.func22, Tryd.ntmps22
  go_wp2_with fail
  refine hN.out.mono ?_
  rintro e w1 ⟨v, rfl, h0, h1, hc, hg⟩
  have hN2 := Lib.hid (next_any B ao n cap (m + 1) w1 hc hn (by omega))
  have HG := Lib.hid hg
  clear hc hg hN
  go_wp2_with fail
  refine hN2.out.mono ?_
  rintro e w2 ⟨u, rfl, u0, u1, hc, hg⟩
  have HC := Lib.hid (And.intro hc (grownBy_trans HG.out hg))
  clear hc hg hN2
  have hr0 := Int.emod_nonneg (v * 256 + u) (show k ≠ 0 by omega)
  have hr1 := Int.emod_lt_of_pos (v * 256 + u) (show 0 < k by omega)
  go_wp2
  go_ret
  exact reads_mk ⟨hr0, by omega⟩ HC.out

/-- What a choice of a number leaves. -/
def ReadsInt (xs : List Int) (B : Nat) (ao : Option Addr) (n cap m : Nat) (w : World) (e : Ending) (w' : World) : Prop :=
  ∃ x : Int, e = .returned (.int .i64 x) ∧ x ∈ xs ∧ CurAt w' B ao n cap m ∧ w.grownBy w' (some B)
theorem int_of_lt {xs : List Int} {k n : Nat} (hn : xs.length = n) (h : k < n) : ∃ x, xs[k]? = some x := ⟨xs[k]'(by omega), List.getElem?_eq_getElem (by omega)⟩
theorem among_any (B : Nat) (ao : Option Addr) (n cap m b2 o2 k c2 : Nat) (xs : List Int) (w : World) (h : CurAt w B ao n cap m) (hn : n ≤ 65536) (hm : m ≤ 1000000) (hb : b2 ≠ B) (hb2 : b2 < w.heap.size) (hk : 2 ≤ k) (hk2 : k ≤ 200) (hl : xs.length = k)
    (hc : ∀ j x, xs[j]? = some x → w.cell? ⟨b2, o2 + j, none⟩ = some (.int .i64 x)) :
    Calls Tryd.prog 21 #[.pointer (some ⟨B, 0, none⟩), .slice (some ⟨b2, o2, none⟩) k c2] w (ReadsInt xs B ao n cap (m + 1) w) := by
  have hP := Lib.hid (pick_small B ao n cap m (k : Int) w h hn hm (by omega) (by omega))
  have HC := Lib.hid hc
  have HL := Lib.hid hl
  clear h hc hl
  go_enter Tryd.func21, Tryd.ntmps21
  go_wp2_with fail
  refine hP.out.mono ?_
  rintro e w1 ⟨v, rfl, h0, h1, hcu, hg⟩
  obtain ⟨j, rfl⟩ : ∃ j : Nat, v = (j : Int) := ⟨v.toNat, by omega⟩
  have hjk : j < k := by omega
  obtain ⟨x, hx⟩ := int_of_lt HL.out hjk
  have hcell : w1.cell? ⟨b2, o2 + j, none⟩ = some (.int .i64 x) := (World.cell?_of_block (hg.block b2 hb2 (fun e => hb (Option.some.inj e)))).trans (HC.out j x hx)
  have HX := Lib.hid (And.intro (List.mem_of_getElem? hx) (And.intro hcu hg))
  clear hcu hg hx h1 h0
  go_wp2
  go_ret
  exact ⟨x, rfl, HX.out.1, HX.out.2.1, HX.out.2.2⟩

theorem DrawFormat_any (ao : Option Addr) (n cap : Nat) (w : World) (h : CodeOk w w.heap.size ao n) (hn : n ≤ 65536) :
    Calls Tryd.prog 9 #[.slice ao n cap] w fun e w' => ∃ x : Int, e = .returned (.int .i64 x) ∧ -1000000 ≤ x ∧ x ≤ 1000000 ∧ Below w.heap.size w w' := by
  have HC := Lib.hid h
  clear h
  go_enter Tryd.func9, Tryd.ntmps9
  go_wp2_with fail
  refine (pick_big w.heap.size ao n cap 0 1000 _ (cur_new HC.out) hn (by omega) (by omega) (by omega)).mono ?_
  rintro e w1 ⟨v, rfl, v0, v1, hc1, hg1⟩
  have H1 := Lib.hid hc1
  have G1 := Lib.hid hg1
  clear hc1 hg1
  go_wp2_with fail
  have hlt := H1.out.lt
  refine (among_any w.heap.size ao n cap 2 w1.heap.size 0 9 9 [0, 1, -1, 10, 999999, -999999, 1000000, -1000000, v - 500] _ (H1.out.below ((Below.refl _ _).alloc (Nat.le_refl _) _)) hn (by omega) (by omega) (by simp) (by omega) (by omega) rfl ?_).mono ?_
  · intro j x hx
    rw [Nat.zero_add, World.cell?_alloc_at _ _ _ _ rfl]
    match j, hx with
    | 0, h => cases h; rfl
    | 1, h => cases h; rfl
    | 2, h => cases h; rfl
    | 3, h => cases h; rfl
    | 4, h => cases h; rfl
    | 5, h => cases h; rfl
    | 6, h => cases h; rfl
    | 7, h => cases h; rfl
    | 8, h => cases h; rfl
    | k + 9, h => cases h
  rintro e w2 ⟨x, rfl, hx, hc2, hg2⟩
  have hb : -1000000 ≤ x ∧ x ≤ 1000000 := by
    simp only [List.mem_cons, List.not_mem_nil, or_false] at hx
    omega
  have B2 := Lib.hid (below_cur (grownBy_trans G1.out (grownBy_trans (World.grownBy_alloc w1 _ _) hg2)))
  clear hc2 hg2 hx
  go_wp2_with fail
  go_ret
  exact ⟨x, rfl, hb.1, hb.2, B2.out⟩

theorem itoa_len {n : Int} (h0 : -999999 ≤ n) (h1 : n ≤ 999999) : (⟨(Lib.itoa n).toArray⟩ : ByteArray).size ≤ 20 := by
  show (Lib.itoa n).toArray.size ≤ 20
  rw [List.size_toArray]
  have := dec_len6 (u := n.natAbs) (by omega)
  have := dec_len6 (u := n.toNat) (by omega)
  unfold Lib.itoa
  split <;> simp <;> omega

theorem text_small {x : ByteArray} (h : x ∈ ([⟨#[]⟩, ⟨#[45]⟩, ⟨#[45, 48]⟩, ⟨#[48, 48]⟩, ⟨#[48, 49]⟩, ⟨#[45, 45, 49]⟩, ⟨#[49, 120]⟩, ⟨#[57, 57, 57, 57, 57, 57]⟩, ⟨#[49, 48, 48, 48, 48, 48, 48]⟩, ⟨#[45, 57, 57, 57, 57, 57, 57]⟩, ⟨#[49, 56, 52, 52, 54, 55, 52, 52, 48, 55, 51, 55, 48, 57, 53, 53, 49, 54, 49, 55]⟩] : List ByteArray)) : x.size ≤ 20 := by
  simp only [List.mem_cons, List.not_mem_nil, or_false] at h
  rcases h with rfl | rfl | rfl | rfl | rfl | rfl | rfl | rfl | rfl | rfl | rfl <;> decide

theorem DrawParse_any (ao : Option Addr) (n cap : Nat) (w : World) (h : CodeOk w w.heap.size ao n) (hn : n ≤ 65536) :
    Calls Tryd.prog 12 #[.slice ao n cap] w fun e w' => ∃ x : ByteArray, e = .returned (.string x) ∧ x.size ≤ 20 ∧ Below w.heap.size w w' := by
  have HC := Lib.hid h
  clear h
  go_enter Tryd.func12, Tryd.ntmps12
  go_wp2_with fail
  refine (one_any w.heap.size ao n cap 0 2 _ (cur_new HC.out) hn (by omega) (by omega) (by omega)).mono ?_
  rintro e w1 ⟨b, rfl, hc1, hg1⟩
  have H1 := Lib.hid hc1
  have G1 := Lib.hid hg1
  have hlt := hc1.lt
  clear hc1 hg1
  cases b with
  | true =>
    go_wp2_with fail
    refine (of_any w.heap.size ao n cap 1 w1.heap.size 0 11 11 [⟨#[]⟩, ⟨#[45]⟩, ⟨#[45, 48]⟩, ⟨#[48, 48]⟩, ⟨#[48, 49]⟩, ⟨#[45, 45, 49]⟩, ⟨#[49, 120]⟩, ⟨#[57, 57, 57, 57, 57, 57]⟩, ⟨#[49, 48, 48, 48, 48, 48, 48]⟩, ⟨#[45, 57, 57, 57, 57, 57, 57]⟩, ⟨#[49, 56, 52, 52, 54, 55, 52, 52, 48, 55, 51, 55, 48, 57, 53, 53, 49, 54, 49, 55]⟩] _ (H1.out.below ((Below.refl _ _).alloc (Nat.le_refl _) _)) hn (by omega) (by omega) (by simp) (by omega) (by omega) rfl ?_).mono ?_
    · intro j x hx
      rw [Nat.zero_add, World.cell?_alloc_at _ _ _ _ rfl]
      match j, hx with
      | 0, h => cases h; rfl
      | 1, h => cases h; rfl
      | 2, h => cases h; rfl
      | 3, h => cases h; rfl
      | 4, h => cases h; rfl
      | 5, h => cases h; rfl
      | 6, h => cases h; rfl
      | 7, h => cases h; rfl
      | 8, h => cases h; rfl
      | 9, h => cases h; rfl
      | 10, h => cases h; rfl
      | k + 11, h => cases h
    rintro e w2 ⟨x, rfl, hx, hc2, hg2⟩
    have hb := text_small hx
    have B2 := Lib.hid (below_cur (grownBy_trans G1.out (grownBy_trans (World.grownBy_alloc w1 _ _) hg2)))
    clear hc2 hg2 hx
    go_wp2_with fail
    go_ret
    exact ⟨x, rfl, hb, B2.out⟩
  | false =>
    go_wp2_with fail
    refine (pick_big w.heap.size ao n cap 1 2000 _ H1.out hn (by omega) (by omega) (by omega)).mono ?_
    rintro e w2 ⟨v, rfl, v0, v1, hc2, hg2⟩
    have B2 := Lib.hid (below_cur (grownBy_trans G1.out hg2))
    have hb := itoa_len (n := v - 1000) (by omega) (by omega)
    have hN := num_any (v - 1000) w2 (by omega) (by omega)
    obtain ⟨X, hX⟩ : ∃ X : ByteArray, X = ⟨(Lib.itoa (v - 1000)).toArray⟩ := ⟨_, rfl⟩
    rw [← hX] at hN hb
    have HN := Lib.hid hN
    clear hN hX hc2 hg2
    go_wp2_with fail
    refine HN.out.mono ?_
    rintro e w3 ⟨rfl, q, rfl⟩
    go_wp2_with fail
    go_ret
    exact ⟨X, rfl, hb, below_drewN B2.out q⟩

theorem push_size (ns : List Int) : ∀ b : ByteArray, (ns.foldl (fun r n => r.push (UInt8.ofNat n.toNat)) b).size = b.size + ns.length := by
  induction ns with
  | nil => intro b; rfl
  | cons x r ih => intro b; rw [List.foldl_cons, ih, ByteArray.size_push, List.length_cons]; omega
theorem conv_zeros (w : World) (base g n c : Nat) (h : w.ownsRow base 5 1 (.slice (some ⟨g, 0, none⟩) n c) n (madeCells (Value.int .u8 0).cells (n * 1)).toList) :
    ∃ X : ByteArray, X.size = n ∧ (convert 22 9 (.slice (some ⟨g, 0, none⟩) n c)).run Tryd.prog w = .ok (.string X) w := by
  refine ⟨((List.range n).map (fun _ => (0 : Int))).foldl (fun r n => r.push (UInt8.ofNat n.toNat)) ByteArray.empty, ?_, ?_⟩
  · rw [push_size]
    simp
  · rw [run_convert_bytes_string _ _ _ 5 _ _ _ Tryd.underlying22 Tryd.underlying5 Tryd.underlying9, run_bytesToString _ _ _ _ ((List.range n).map (fun _ => (0 : Int)))]
    rw [run_loadCells _ _ n (fun _ => Value.int .u8 0)]
    · rw [List.map_map]; rfl
    · intro j hj
      have hp : (⟨g, 0, none⟩ : Addr).add j = ⟨g, j, none⟩ := by unfold Addr.add; split <;> simp_all
      rw [hp, h.cellAt j (by omega)]
      have hz : j % 1 = 0 := Nat.mod_one j
      simp [madeCells, Value.cells, hj, hz]
theorem Tryd.infoU8 : (Tryd.prog.info? 5).map (fun i => (i.zero, i.size, i.bytes)) = some (some (.int .u8 0), 1, 1) := by kernel_rfl

theorem DrawAppend_any (ao : Option Addr) (n cap : Nat) (w : World) (h : CodeOk w w.heap.size ao n) (hn : n ≤ 65536) :
    Calls Tryd.prog 15 #[.slice ao n cap] w fun e w' => ∃ x : ByteArray, e = .returned (.string x) ∧ x.size ≤ 4020 ∧ Below w.heap.size w w' := by
  have HC := Lib.hid h
  clear h
  obtain ⟨i8, hi8, hy0, hy1, hy2⟩ := info_parts Tryd.infoU8
  go_enter Tryd.func15, Tryd.ntmps15
  go_wp2_with fail
  refine (one_any w.heap.size ao n cap 0 20 _ (cur_new HC.out) hn (by omega) (by omega) (by omega)).mono ?_
  rintro e w1 ⟨b, rfl, hc1, hg1⟩
  have H1 := Lib.hid hc1
  have G1 := Lib.hid hg1
  clear hc1 hg1
  cases b with
  | true =>
    go_wp2_with fail
    refine (pick_small w.heap.size ao n cap 1 10 _ H1.out hn (by omega) (by omega) (by omega)).mono ?_
    rintro e w3 ⟨v, rfl, hv0, hv1, hc3, hg3⟩
    obtain ⟨M, rfl⟩ : ∃ M : Nat, v = (M : Int) := ⟨v.toNat, by omega⟩
    have hM : M ≤ 9 := by omega
    have B3 := Lib.hid (below_cur (grownBy_trans G1.out hg3))
    have hsz3 := B3.out.size
    clear hc3 hg3 hv0 hv1
    go_wp2_with (at_make; refine wpList_make_full _ rfl _ _ 22 rfl w.heap.size 5 i8 (.int .u8 0) 1 Tryd.underlying22 hi8 hy0 hy1 .i64 .i64 _ _ (3990 + M) rfl rfl (by omega) (by omega) (by rw [hy2]; omega) (by unfold maxLen; omega) (by omega) ?_; intro w5 hrow5 hg5; obtain ⟨X, hX, hconv⟩ := conv_zeros w5 _ _ _ _ hrow5; have B5 := Lib.hid (B3.out.grown hg5 (by omega) (fun q hq => by cases hq)); clear hrow5 hg5)
    go_ret
    exact ⟨X, rfl, by omega, B5.out⟩
  | false =>
    go_wp2_with fail
    refine (any1_any w.heap.size ao n cap 1 w1 H1.out hn (by omega)).mono ?_
    rintro e w2 ⟨x, rfl, hx, hc2, hg2⟩
    have B2 := Lib.hid (below_cur (grownBy_trans G1.out hg2))
    clear hc2 hg2
    go_wp2_with fail
    go_ret
    exact ⟨x, rfl, by omega, B2.out⟩

theorem at_any (ao : Option Addr) (n cap : Nat) (i : Nat) (B : Nat) (w : World) (h : CodeOk w B ao n) (hn : n ≤ 65536) (hi : i ≤ 100) :
    Calls Tryd.prog 19 #[.slice ao n cap, .int .i64 i] w fun e w' => ∃ v : Int, e = .returned (.int .i64 v) ∧ 0 ≤ v ∧ v ≤ 255 ∧ w = w' := by
  by_cases hlt : i < n
  · obtain ⟨b, o, x, rfl, hcell, hx0, hx1⟩ : ∃ b o x, ao = some ⟨b, o, none⟩ ∧ w.cell? ⟨b, o + i, none⟩ = some (.int .u8 x) ∧ 0 ≤ x ∧ x ≤ 255 := by
      rcases h with h0 | ⟨b, o, h1, _, h2⟩
      · omega
      · obtain ⟨x, h3⟩ := h2 i hlt
        exact ⟨b, o, x, h1, h3⟩
    clear h
    go_enter Tryd.func19, Tryd.ntmps19
    go_wp2
    go_ret
    exact ⟨x, rfl, hx0, hx1, rfl⟩
  · clear h
    go_enter Tryd.func19, Tryd.ntmps19
    go_wp2
    go_ret
    exact ⟨_, rfl, by omega, by omega, rfl⟩

end Go.Proofs.YtoljoifldlpinaaDoor
