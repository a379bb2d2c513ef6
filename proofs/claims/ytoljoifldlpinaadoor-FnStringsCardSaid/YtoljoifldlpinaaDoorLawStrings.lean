/-
  Contract: the law FnStrings returns true, and leaves every block as it was. Conditions: each cell of the code is a byte; the listed package variables lie as their text lays them; the world has the program's shape.
-/
import Derived.Test.YtoljoifldlpinaaDoorDrawDoor
import Derived.Test.YtoljoifldlpinaaDoorTamper
import Derived.Test.YtoljoifldlpinaaDoorLawFormatInt
import Derived.Test.YtoljoifldlpinaaDoorLawParseInt
import Derived.Test.YtoljoifldlpinaaDoorLawVerifyChecksum
namespace Go.Proofs.YtoljoifldlpinaaDoor
open Go.RowKit

/-- What FormatInt answers. -/
def FmtIs (n : Int) (s : ByteArray) (ok : Bool) : Prop := (-999999 ≤ n ∧ n ≤ 999999 ∧ s = ⟨(Lib.itoa n).toArray⟩ ∧ ok = true) ∨ ((n < -999999 ∨ 999999 < n) ∧ s = ⟨#[]⟩ ∧ ok = false)
theorem fmt_ex (n : Int) : ∃ s ok, FmtIs n s ok := by
  by_cases h : -999999 ≤ n ∧ n ≤ 999999
  · exact ⟨_, _, .inl ⟨h.1, h.2, rfl, rfl⟩⟩
  · exact ⟨_, _, .inr ⟨by omega, rfl, rfl⟩⟩
theorem implFormat (n : Int) (s : ByteArray) (ok : Bool) (w : World) (h : FmtIs n s ok) (htab : Lib.TabIs Tryd.prog w "internal/strconv.uint64pow10" .u64 Lib.pow10Tab) :
    Calls Tryd.prog 10 #[.int .i64 n] w fun e w' => e = .returned (.tuple #[.string s, .bool ok]) ∧ Below w.heap.size w w' := by
  rcases h with ⟨h0, h1, rfl, rfl⟩ | ⟨h0, rfl, rfl⟩
  · exact implFormat_yes n w h0 h1 htab
  · exact (implFormat_no n w h0).mono fun e w' ⟨he, hw⟩ => ⟨he, hw ▸ Below.refl _ _⟩
theorem specFormat (n : Int) (s : ByteArray) (ok : Bool) (w : World) (h : FmtIs n s ok) :
    Calls Tryd.prog 11 #[.int .i64 n] w fun e w' => e = .returned (.tuple #[.string s, .bool ok]) ∧ ∃ q, w' = w.drewN q := by
  rcases h with ⟨h0, h1, rfl, rfl⟩ | ⟨h0, rfl, rfl⟩
  · exact specFormat_yes n w h0 h1
  · exact (specFormat_no n w h0).mono fun e w' ⟨he, hw⟩ => ⟨he, 0, hw.symm⟩

theorem var_below {P : Program} {w w' : World} {n : String} {cs : Array Value} (h : w.var? P n = some cs) (hb : Below w.heap.size w w') : w'.var? P n = some cs := by
  unfold World.var? at h ⊢
  cases hg : P.globalNamed n with
  | none => rw [hg] at h; cases h
  | some g =>
    rw [hg] at h
    have hlt : g < w.heap.size := by
      rcases Nat.lt_or_ge g w.heap.size with h1 | h1
      · exact h1
      · simp [Array.getElem?_eq_none h1] at h
    show (match w'.heap[g]? with | some (.cells cs _ _) => some cs | _ => none) = some cs
    rw [hb.block g hlt]
    exact h
theorem parse_fmt {a : Int} {s : ByteArray} {ok : Bool} (h : FmtIs a s ok) : s.size ≤ 20 ∧ ∃ m b, ParseIs s m b ∧ (ok = true → b = true ∧ m = a) := by
  rcases h with ⟨h0, h1, rfl, rfl⟩ | ⟨_, rfl, rfl⟩
  · exact ⟨itoa_len h0 h1, a, true, .inl ⟨rfl, h0, h1, by simp⟩, fun _ => ⟨rfl, rfl⟩⟩
  · obtain ⟨m, b, h⟩ := parse_ex ⟨#[]⟩
    exact ⟨Nat.zero_le _, m, b, h, fun h => by cases h⟩

theorem at_val (ao : Option Addr) (n cap : Nat) (i : Nat) (B : Nat) (w : World) (h : CodeOk w B ao n) (hn : n ≤ 65536) (hi : i ≤ 100) :
    ∃ v : Int, 0 ≤ v ∧ v ≤ 255 ∧ ∀ w1 : World, w1.heap = w.heap → Calls Tryd.prog 19 #[.slice ao n cap, .int .i64 i] w1 fun e w' => e = .returned (.int .i64 v) ∧ w1 = w' := by
  by_cases hlt : i < n
  · obtain ⟨b, o, x, rfl, hcell, hx0, hx1⟩ : ∃ b o x, ao = some ⟨b, o, none⟩ ∧ w.cell? ⟨b, o + i, none⟩ = some (.int .u8 x) ∧ 0 ≤ x ∧ x ≤ 255 := by
      rcases h with h0 | ⟨b, o, h1, _, h2⟩
      · omega
      · obtain ⟨x, h3⟩ := h2 i hlt
        exact ⟨b, o, x, h1, h3⟩
    clear h
    refine ⟨x, hx0, hx1, fun w1 hw1 => ?_⟩
    have hcell1 : w1.cell? ⟨b, o + i, none⟩ = some (.int .u8 x) := (World.cell?_of_block (by rw [hw1])).trans hcell
    clear hcell hw1
    go_enter Tryd.func19, Tryd.ntmps19
    go_wp2
    go_ret
    exact ⟨rfl, rfl⟩
  · clear h
    refine ⟨((i : Int) * 7 + (n : Int)) % 256, by omega, by omega, fun w1 hw1 => ?_⟩
    clear hw1
    go_enter Tryd.func19, Tryd.ntmps19
    go_wp2
    go_ret
    exact ⟨rfl, rfl⟩
/-- The bytes of a text, in new memory. -/
theorem bytes_facts (w : World) (y : ByteArray) : (∀ (j : Nat) (u : UInt8), y.data.toList[j]? = some u → (Lib.bytesWorld w 5 y).cell? ⟨w.heap.size, j, none⟩ = some (.int .u8 (u.toNat : Int)) ∧ (Lib.bytesWorld w 5 y).frozen? ⟨w.heap.size, j, none⟩ = false) ∧ Below w.heap.size w (Lib.bytesWorld w 5 y) := by
  refine ⟨fun j u hu => ?_, Lib.bytesWorld_below w _ y⟩
  have hj : j < y.size := by rw [Lib.size_eq]; exact (List.getElem?_eq_some_iff.1 hu).1
  refine ⟨?_, ?_⟩
  · rw [Lib.bytesWorld_cell w _ y j hj, List.getD_eq_getElem?_getD, hu]; rfl
  · unfold World.frozen?
    rw [Lib.bytesWorld_at_new]
    have : y.size ≤ (Lib.bytesCells w 5 y).size := by simp [Lib.bytesCells]
    show (decide _ && decide _) = false
    rw [Bool.and_eq_false_iff]
    left
    rw [decide_eq_false_iff_not]
    show ¬ _ ≤ j
    omega
theorem push_all : ∀ (l : List UInt8) (b : ByteArray), ((l.map (fun x => (x.toNat : Int))).foldl (fun r n => r.push (UInt8.ofNat n.toNat)) b).data.toList = b.data.toList ++ l
  | [], b => by simp
  | c :: l, b => by
    rw [List.map_cons, List.foldl_cons, push_all l]
    simp
theorem conv_back (w : World) (g n cp : Nat) (l : List UInt8) (hl : l.length = n) (hc : ∀ (j : Nat) (u : UInt8), l[j]? = some u → w.cell? ⟨g, j, none⟩ = some (.int .u8 (u.toNat : Int))) :
    (convert 22 9 (.slice (some ⟨g, 0, none⟩) n cp)).run Tryd.prog w = .ok (.string ⟨l.toArray⟩) w := by
  rw [run_convert_bytes_string _ _ _ 5 _ _ _ Tryd.underlying22 Tryd.underlying5 Tryd.underlying9, run_bytesToString _ _ _ _ (l.map (fun x => (x.toNat : Int)))]
  · congr 2
    apply data_inj
    rw [push_all]
    simp
  · have h := run_loadCells_list (P := Tryd.prog) w ⟨g, 0, none⟩ (l.map (fun u => Value.int .u8 (u.toNat : Int))) (fun j v hv => by
      rw [List.getElem?_map] at hv
      obtain ⟨u, hu, rfl⟩ := Option.map_eq_some_iff.1 hv
      have hp : (⟨g, 0, none⟩ : Addr).add j = ⟨g, j, none⟩ := by unfold Addr.add; split <;> simp_all
      rw [hp]
      exact hc j u hu)
    rw [List.length_map, hl] at h
    rw [h, List.map_map]
    rfl
/-- One byte turned. -/
theorem xor_byte (u : UInt8) (v : Int) (h0 : 0 ≤ v) : ∃ u2 : UInt8, u2 ≠ u ∧ bits .xor .u8 (u.toNat : Int) (IntKind.u8.wrap (IntKind.i64.wrap (1 + v.tmod 255))) = (u2.toNat : Int) := by
  have hu := u.toNat_lt
  have hw : IntKind.u8.wrap (IntKind.i64.wrap (1 + v.tmod 255)) = 1 + v % 255 := by
    rw [Int.tmod_eq_emod_of_nonneg h0]
    unfold IntKind.wrap
    simp [IntKind.bits, IntKind.signed]
    omega
  rw [hw]
  have hm : 1 + v % 255 = (((1 + v % 255).toNat : Nat) : Int) := by omega
  have hm2 : (1 + v % 255).toNat < 256 := by omega
  have hm3 : (1 + v % 255).toNat ≠ 0 := by omega
  obtain ⟨m, hmm⟩ : ∃ m, (1 + v % 255).toNat = m := ⟨_, rfl⟩
  rw [hmm] at hm hm2 hm3
  have hx : u.toNat ^^^ m < 2 ^ 8 := Nat.xor_lt_two_pow (by omega) (by omega)
  refine ⟨UInt8.ofNat (u.toNat ^^^ m), fun h => ?_, ?_⟩
  · have h2 := congrArg UInt8.toNat h
    rw [UInt8.toNat_ofNat', Nat.mod_eq_of_lt hx] at h2
    have h3 : u.toNat ^^^ (u.toNat ^^^ m) = u.toNat ^^^ u.toNat := by rw [h2]
    rw [← Nat.xor_assoc, Nat.xor_self, Nat.zero_xor] at h3
    exact hm3 h3
  · rw [hm, u8_xor_nat _ _ (by omega) hm2, UInt8.toNat_ofNat', Nat.mod_eq_of_lt hx]

theorem world_turned {w : World} {g k : Nat} {l : List UInt8} {u2 : UInt8} (hc : ∀ (j : Nat) (u : UInt8), l[j]? = some u → w.cell? ⟨g, j, none⟩ = some (.int .u8 (u.toNat : Int))) :
    ∀ (j : Nat) (u : UInt8), (l.set k u2)[j]? = some u → ((w.setCell ⟨g, k, none⟩ (.int .u8 (u2.toNat : Int))).drew).cell? ⟨g, j, none⟩ = some (.int .u8 (u.toNat : Int)) := by
  intro j u hu
  show (w.setCell ⟨g, k, none⟩ (.int .u8 (u2.toNat : Int))).cell? ⟨g, j, none⟩ = _
  by_cases hj : k = j
  · subst hj
    have hk : k < l.length := by have := (List.getElem?_eq_some_iff.1 hu).1; simpa using this
    rw [List.getElem?_set_self hk] at hu
    rw [World.cell?_setCell_same (h := hc k _ (List.getElem?_eq_getElem hk))]
    cases hu
    rfl
  · rw [List.getElem?_set_ne hj] at hu
    rw [World.cell?_setCell_other (h := by intro e; injection e with _ e2 _; exact hj e2)]
    exact hc j u hu

set_option maxRecDepth 100000 in
set_option maxHeartbeats 4000000 in
theorem lawStrings (ao : Option Addr) (n cap : Nat) (w : World) (h : CodeOk w w.heap.size ao n) (hL : laidMetH Tryd.prog laidB w) (hsh : w.ShapedOpen Tryd.prog) :
    Calls Tryd.prog 3 #[.slice ao n cap] w fun e w' => e = .returned (.bool true) ∧ Below w.heap.size w w' := by
  by_cases hn : 65536 < n
  · clear hL hsh
    go_enter Tryd.func3, Tryd.ntmps3
    go_wp2_with fail
    refine (big_any ao n cap w).mono ?_
    rw [decide_eq_true hn]
    rintro e w' ⟨rfl, rfl⟩
    go_wp2_with fail
    go_ret
    exact ⟨rfl, Below.refl _ _⟩
  have htab := tab_of_laidB hL
  obtain ⟨hsyn, hrng⟩ := errs_of_laidB hL
  have HTab := Lib.hid (fun w' (hb : Below w.heap.size w w') => (Lib.tabBelow_of_tabIs htab w' hb : Lib.TabIs Tryd.prog w' "internal/strconv.uint64pow10" .u64 Lib.pow10Tab))
  have HSyn := Lib.hid hsyn
  have HRng := Lib.hid hrng
  have HSh := Lib.hid hsh
  have HC := Lib.hid h
  clear h hL hsh htab hsyn hrng
  go_enter Tryd.func3, Tryd.ntmps3
  go_wp2_with fail
  refine (big_any ao n cap w).mono ?_
  rw [decide_eq_false hn]
  rintro e w' ⟨rfl, rfl⟩
  go_wp2_with fail
  refine (DrawFormat_any ao n cap w HC.out (by omega)).mono ?_
  rintro e w1 ⟨a, rfl, ha0, ha1, b1⟩
  obtain ⟨s, ok, hf⟩ := fmt_ex a
  have HF := Lib.hid hf
  have B1 := Lib.hid b1
  clear b1 hf
  go_wp2_with fail
  refine (implFormat a s ok w1 HF.out (HTab.out _ B1.out)).mono ?_
  rintro e w2 ⟨rfl, b2⟩
  have B2 := Lib.hid (B1.out.trans (b2.mono B1.out.size))
  clear b2
  go_wp2_with fail
  refine (specFormat a s ok w2 HF.out).mono ?_
  rintro e w3 ⟨rfl, d3⟩
  have B3 := Lib.hid (below_drawn B2.out d3)
  clear d3
  go_wp2_with fail
  refine (DrawParse_any ao n cap w3 (HC.out.below B3.out) (by omega)).mono ?_
  rintro e w4 ⟨t, rfl, ht, b4⟩
  have B4 := Lib.hid (B3.out.trans (b4.mono B3.out.size))
  obtain ⟨m, fine, hp⟩ := parse_ex t
  have HP := Lib.hid hp
  clear b4 hp
  go_wp2_with fail
  have hpI := fun w1 (hb : Below w.heap.size w w1) => implParse t m fine w1 (by omega) HP.out (fun w' hb2 => HTab.out w' (hb.trans (hb2.mono hb.size))) (HSyn.out.imp fun p hv => var_below hv hb) (HRng.out.imp fun p hv => var_below hv hb)
  obtain ⟨hss, m2, bb2, hp2, hok⟩ := parse_fmt HF.out
  have hpI2 := Lib.hid (fun w1 (hb : Below w.heap.size w w1) => implParse s m2 bb2 w1 (by omega) hp2 (fun w' hb2 => HTab.out w' (hb.trans (hb2.mono hb.size))) (HSyn.out.imp fun p hv => var_below hv hb) (HRng.out.imp fun p hv => var_below hv hb))
  refine (hpI w4 B4.out).mono ?_
  rintro e w5 ⟨rfl, b5⟩
  have B5 := Lib.hid (B4.out.trans (b5.mono B4.out.size))
  clear b5 hpI hp2
  go_wp2_with fail
  refine (specParse t m fine w5 (by unfold maxLen; omega) HP.out).mono ?_
  rintro e w6 ⟨rfl, d6⟩
  have B6 := Lib.hid (below_drawn B5.out d6)
  clear d6
  go_wp2_with fail
  refine (DrawAppend_any ao n cap w6 (HC.out.below B6.out) (by omega)).mono ?_
  rintro e w7 ⟨x, rfl, hx, b7⟩
  have B7 := Lib.hid (B6.out.trans (b7.mono B6.out.size))
  obtain ⟨y, sealed, hsl⟩ := seal_ex x
  have HS := Lib.hid hsl
  clear b7 hsl
  go_wp2_with fail
  refine (implAppend x y sealed w7 (by omega) HS.out (HTab.out _ B7.out)).mono ?_
  rintro e w8 ⟨rfl, b8⟩
  have B8 := Lib.hid (B7.out.trans (b8.mono B7.out.size))
  clear b8
  go_wp2_with fail
  refine (specAppend x y sealed w8 (by omega) HS.out).mono ?_
  rintro e w9 ⟨rfl, d9⟩
  have B9 := Lib.hid (below_drawn B8.out d9)
  clear d9
  go_wp2_with fail
  refine (hpI2.out w9 B9.out).mono ?_
  rintro e w10 ⟨rfl, b10⟩
  have B10 := Lib.hid (B9.out.trans (b10.mono B9.out.size))
  clear b10 hpI2
  have HV : Hid (sealed = true → Seals x ∧ y = sealOf x) := fun h => by
    rcases HS.out with ⟨h1, h2, _⟩ | ⟨_, _, h3⟩
    · exact ⟨h1, h2⟩
    · rw [h3] at h; cases h
  have hbad : sealed = false → y = ⟨#[]⟩ := fun h => by
    rcases HS.out with ⟨_, _, h3⟩ | ⟨_, h3, _⟩
    · rw [h3] at h; cases h
    · exact h3
  cases ok with
  | true =>
    obtain ⟨rfl, rfl⟩ := hok rfl
    cases sealed with
    | false =>
      obtain rfl := hbad rfl
      go_wp2_with fail
      go_ret
      exact ⟨rfl, B10.out⟩
    | true =>
      clear hbad
      obtain ⟨hsx, hy⟩ := HV.out rfl
      have HSX := Lib.hid hsx
      have HY := Lib.hid hy
      clear hsx hy HV
      go_wp2_with fail
      have hyz : y.size ≤ 4000 := by rw [HY.out]; exact HSX.out.2.2
      have hy0 : 0 < y.size := by rw [HY.out, Lib.size_eq, seal_data]; simp; omega
      refine (implVerify y x true w10 (by omega) (.inl ⟨x, HSX.out, HY.out.symm, rfl, rfl⟩) (shape_below HSh.out B10.out) (fun w' hb2 => HTab.out w' (B10.out.trans (hb2.mono B10.out.size)))).mono ?_
      rintro e w11 ⟨rfl, b11⟩
      have B11 := Lib.hid (B10.out.trans (b11.mono B10.out.size))
      have hconv := Lib.run_convert_string_bytes (P := Tryd.prog) w11 9 22 5 y Tryd.underlying9 Tryd.underlying22 Tryd.underlying5
      obtain ⟨w12, hw12⟩ : ∃ w12, w12 = Lib.bytesWorld w11 5 y := ⟨_, rfl⟩
      obtain ⟨cp, hcp⟩ : ∃ cp, cp = grownCap w11 y.size 0 5 := ⟨_, rfl⟩
      rw [← hw12, ← hcp] at hconv
      have HW12 := Lib.hid hw12
      clear b11 hw12 hcp
      go_wp2_with fail
      have hfacts := bytes_facts w11 y
      rw [← HW12.out] at hfacts
      obtain ⟨hcells, hb12⟩ := hfacts
      have HCells := Lib.hid hcells
      have B12 := Lib.hid (B11.out.trans (hb12.mono B11.out.size))
      have hg := B11.out.size
      obtain ⟨g, hgg⟩ : ∃ g, g = w11.heap.size := ⟨_, rfl⟩
      rw [← hgg] at HCells hg
      rw [← hgg]
      clear hcells hb12 HW12 hconv hgg
      refine (at_any ao n cap 9 w12.heap.size w12 (HC.out.below B12.out) (by omega) (by omega)).mono ?_
      rintro e w' ⟨v1, rfl, v10, v11, rfl⟩
      obtain ⟨k, hk⟩ : ∃ k : Nat, v1 % (y.size : Int) = (k : Int) := ⟨(v1 % (y.size : Int)).toNat, by have := Int.emod_nonneg v1 (show (y.size : Int) ≠ 0 by omega); omega⟩
      have hky : k < y.size := by have := Int.emod_lt_of_pos v1 (show 0 < (y.size : Int) by omega); omega
      obtain ⟨u, hu⟩ : ∃ u, y.data.toList[k]? = some u := ⟨_, List.getElem?_eq_getElem (by rw [← Lib.size_eq]; exact hky)⟩
      obtain ⟨v2, v20, v21, hv2⟩ := at_val ao n cap 10 w12.heap.size w12 (HC.out.below B12.out) (by omega) (by omega)
      obtain ⟨u2, hne, hxor⟩ := xor_byte u v2 v20
      obtain ⟨hcell, hfz⟩ := HCells.out k u hu
      have HV2 := Lib.hid hv2
      have HU := Lib.hid (And.intro hu hne)
      clear hv2 hu hne
      go_wp2_with fail
      rw [hk]
      clear hk v10 v11
      go_region_with (go_at_call 19; refine (HV2.out _ (by rfl)).mono ?_; rintro e w' ⟨rfl, rfl⟩)
      all_goals
        try rw [hxor]
        have hconv2 := conv_back ((w12.setCell ⟨g, k, none⟩ (.int .u8 (u2.toNat : Int))).drew) g y.size cp (y.data.toList.set k u2) (by rw [List.length_set]; exact (Lib.size_eq y).symm) (world_turned fun j u h => (HCells.out j u h).1)
        have B13 := Lib.hid ((B12.out.setCell (p := ⟨g, k, none⟩) hg (.int .u8 (u2.toNat : Int))).drew)
        obtain ⟨w13, hw13⟩ : ∃ w13, w13 = (w12.setCell ⟨g, k, none⟩ (.int .u8 (u2.toNat : Int))).drew := ⟨_, rfl⟩
        obtain ⟨Y, hY⟩ : ∃ Y : ByteArray, Y = ⟨(y.data.toList.set k u2).toArray⟩ := ⟨_, rfl⟩
        rw [← hw13, ← hY] at hconv2
        rw [← hw13] at B13
        rw [← hw13]
        have hYs : Y.size ≤ 1048576 := by
          rw [hY, Lib.size_eq]
          simp
          have := Lib.size_eq y
          simp at this
          omega
        have hver : VerIs Y ⟨#[]⟩ false := .inr ⟨tamper (x := x) (k := k) HSX.out (by rw [← HY.out]; exact HU.out.1) HU.out.2 (by rw [hY, ← HY.out]), rfl, rfl⟩
        have HVer := Lib.hid hver
        clear hxor hw13 hY hcell hfz hver hy0
        go_wp2_with fail
        refine (implVerify Y ⟨#[]⟩ false w13 hYs HVer.out (shape_below HSh.out B13.out) (fun w' hb2 => HTab.out w' (B13.out.trans (hb2.mono B13.out.size)))).mono ?_
        rintro e w14 ⟨rfl, b14⟩
        have B14 := Lib.hid (B13.out.trans (b14.mono B13.out.size))
        clear b14
        go_wp2_with fail
        go_ret
        exact ⟨rfl, B14.out⟩
  | false =>
    clear hok
    cases sealed with
    | false =>
      obtain rfl := hbad rfl
      go_wp2_with fail
      go_ret
      exact ⟨rfl, B10.out⟩
    | true =>
      clear hbad
      obtain ⟨hsx, hy⟩ := HV.out rfl
      have HSX := Lib.hid hsx
      have HY := Lib.hid hy
      clear hsx hy HV
      go_wp2_with fail
      have hyz : y.size ≤ 4000 := by rw [HY.out]; exact HSX.out.2.2
      have hy0 : 0 < y.size := by rw [HY.out, Lib.size_eq, seal_data]; simp; omega
      refine (implVerify y x true w10 (by omega) (.inl ⟨x, HSX.out, HY.out.symm, rfl, rfl⟩) (shape_below HSh.out B10.out) (fun w' hb2 => HTab.out w' (B10.out.trans (hb2.mono B10.out.size)))).mono ?_
      rintro e w11 ⟨rfl, b11⟩
      have B11 := Lib.hid (B10.out.trans (b11.mono B10.out.size))
      have hconv := Lib.run_convert_string_bytes (P := Tryd.prog) w11 9 22 5 y Tryd.underlying9 Tryd.underlying22 Tryd.underlying5
      obtain ⟨w12, hw12⟩ : ∃ w12, w12 = Lib.bytesWorld w11 5 y := ⟨_, rfl⟩
      obtain ⟨cp, hcp⟩ : ∃ cp, cp = grownCap w11 y.size 0 5 := ⟨_, rfl⟩
      rw [← hw12, ← hcp] at hconv
      have HW12 := Lib.hid hw12
      clear b11 hw12 hcp
      go_wp2_with fail
      have hfacts := bytes_facts w11 y
      rw [← HW12.out] at hfacts
      obtain ⟨hcells, hb12⟩ := hfacts
      have HCells := Lib.hid hcells
      have B12 := Lib.hid (B11.out.trans (hb12.mono B11.out.size))
      have hg := B11.out.size
      obtain ⟨g, hgg⟩ : ∃ g, g = w11.heap.size := ⟨_, rfl⟩
      rw [← hgg] at HCells hg
      rw [← hgg]
      clear hcells hb12 HW12 hconv hgg
      refine (at_any ao n cap 9 w12.heap.size w12 (HC.out.below B12.out) (by omega) (by omega)).mono ?_
      rintro e w' ⟨v1, rfl, v10, v11, rfl⟩
      obtain ⟨k, hk⟩ : ∃ k : Nat, v1 % (y.size : Int) = (k : Int) := ⟨(v1 % (y.size : Int)).toNat, by have := Int.emod_nonneg v1 (show (y.size : Int) ≠ 0 by omega); omega⟩
      have hky : k < y.size := by have := Int.emod_lt_of_pos v1 (show 0 < (y.size : Int) by omega); omega
      obtain ⟨u, hu⟩ : ∃ u, y.data.toList[k]? = some u := ⟨_, List.getElem?_eq_getElem (by rw [← Lib.size_eq]; exact hky)⟩
      obtain ⟨v2, v20, v21, hv2⟩ := at_val ao n cap 10 w12.heap.size w12 (HC.out.below B12.out) (by omega) (by omega)
      obtain ⟨u2, hne, hxor⟩ := xor_byte u v2 v20
      obtain ⟨hcell, hfz⟩ := HCells.out k u hu
      have HV2 := Lib.hid hv2
      have HU := Lib.hid (And.intro hu hne)
      clear hv2 hu hne
      go_wp2_with fail
      rw [hk]
      clear hk v10 v11
      go_region_with (go_at_call 19; refine (HV2.out _ (by rfl)).mono ?_; rintro e w' ⟨rfl, rfl⟩)
      all_goals
        try rw [hxor]
        have hconv2 := conv_back ((w12.setCell ⟨g, k, none⟩ (.int .u8 (u2.toNat : Int))).drew) g y.size cp (y.data.toList.set k u2) (by rw [List.length_set]; exact (Lib.size_eq y).symm) (world_turned fun j u h => (HCells.out j u h).1)
        have B13 := Lib.hid ((B12.out.setCell (p := ⟨g, k, none⟩) hg (.int .u8 (u2.toNat : Int))).drew)
        obtain ⟨w13, hw13⟩ : ∃ w13, w13 = (w12.setCell ⟨g, k, none⟩ (.int .u8 (u2.toNat : Int))).drew := ⟨_, rfl⟩
        obtain ⟨Y, hY⟩ : ∃ Y : ByteArray, Y = ⟨(y.data.toList.set k u2).toArray⟩ := ⟨_, rfl⟩
        rw [← hw13, ← hY] at hconv2
        rw [← hw13] at B13
        rw [← hw13]
        have hYs : Y.size ≤ 1048576 := by
          rw [hY, Lib.size_eq]
          simp
          have := Lib.size_eq y
          simp at this
          omega
        have hver : VerIs Y ⟨#[]⟩ false := .inr ⟨tamper (x := x) (k := k) HSX.out (by rw [← HY.out]; exact HU.out.1) HU.out.2 (by rw [hY, ← HY.out]), rfl, rfl⟩
        have HVer := Lib.hid hver
        clear hxor hw13 hY hcell hfz hver hy0
        go_wp2_with fail
        refine (implVerify Y ⟨#[]⟩ false w13 hYs HVer.out (shape_below HSh.out B13.out) (fun w' hb2 => HTab.out w' (B13.out.trans (hb2.mono B13.out.size)))).mono ?_
        rintro e w14 ⟨rfl, b14⟩
        have B14 := Lib.hid (B13.out.trans (b14.mono B13.out.size))
        clear b14
        go_wp2_with fail
        go_ret
        exact ⟨rfl, B14.out⟩

end Go.Proofs.YtoljoifldlpinaaDoor
