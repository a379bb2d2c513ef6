/-
  Contract of impl.AppendChecksum, and the walk of the law FnExactAppendChecksum: it returns true for every string, where the library's table of powers of ten lies as its text lays it. Condition: the string has at most maxLen bytes.
-/
import Derived.Test.YtoljoifldlpinaaDoorSeal
import Derived.Test.YtoljoifldlpinaaDoorLaid
namespace Go.Proofs.YtoljoifldlpinaaDoor
open Go.RowKit

theorem seal_fits {s : ByteArray} (h1 : s.size ≤ 4000) : fitsB [s, sumText s] 35 = true ↔ Seals s := by
  have h6 := sumText_size s
  have hb : blens [s, sumText s] = s.size + (sumText s).size := by simp [blens]
  have hz : (sealOf s).size = s.size + 1 + (sumText s).size := by
    unfold sealOf
    rw [ByteArray.size_append, ByteArray.size_append]
    rfl
  have hn := sumText_noSep s
  unfold fitsB Seals
  rw [hb, hz, Bool.and_eq_true, decide_eq_true_eq, List.all_cons, List.all_cons, hn, Bool.and_eq_true]
  simp only [List.length_cons, List.length_nil, List.all_nil, Bool.and_self, and_true]
  constructor
  · rintro ⟨a, b⟩; exact ⟨h1, b, by omega⟩
  · rintro ⟨_, b, c⟩; exact ⟨by omega, b⟩
theorem seal_join (s : ByteArray) : joinV [s, sumText s] ⟨#[35]⟩ = sealOf s := by
  unfold joinV sealOf lists
  have h : Lib.join (List.map (fun x : ByteArray => x.data.toList) [s, sumText s]) (⟨#[35]⟩ : ByteArray).data.toList = s.data.toList ++ [35] ++ (sumText s).data.toList := by
    rw [List.map_cons, Lib.join_cons]
    simp [Lib.joinTail]
  rw [h]
  generalize sumText s = N
  rcases s with ⟨⟨a⟩⟩
  rcases N with ⟨⟨b⟩⟩
  rw [ByteArray.mk_append_mk, ByteArray.mk_append_mk]
theorem seal_joinIs {s js : ByteArray} {jb : Bool} (h1 : s.size ≤ 4000) (h : SealIs s js jb) : JoinIs [s, sumText s] ⟨#[35]⟩ js jb := by
  unfold JoinIs joinRes
  have e : (⟨#[35]⟩ : ByteArray).data.toList.headD 0 = 35 := rfl
  rw [e]
  by_cases g : Seals s
  · obtain ⟨rfl, rfl⟩ := h.good g
    rw [if_pos ⟨rfl, by simp, (seal_fits h1).2 g⟩, seal_join]
  · obtain ⟨rfl, rfl⟩ := h.bad g
    rw [if_neg (fun h2 => g ((seal_fits h1).1 h2.2.2))]

/-- The two strings that the call lays for JoinStrings. -/
theorem pair_view (w : World) (s N : ByteArray) (t : TypeId) : View (w.alloc (.cells #[.string s, .string N] t)) (some ⟨w.heap.size, 0, none⟩) 2 [s, N] := by
  refine ⟨rfl, .inr ⟨w.heap.size, 0, rfl, by simp, fun j x hx => ?_⟩⟩
  rw [Nat.zero_add, World.cell?_alloc_at _ _ _ _ rfl]
  match j, hx with
  | 0, hx => simp at hx; subst hx; rfl
  | 1, hx => simp at hx; subst hx; rfl

set_option maxHeartbeats 400000 in
theorem implAppend (s js : ByteArray) (jb : Bool) (w : World) (hs : s.size ≤ 1048576) (h : SealIs s js jb) (htab : Lib.TabIs Tryd.prog w "internal/strconv.uint64pow10" .u64 Lib.pow10Tab) :
    Calls Tryd.prog 16 #[.string s] w fun e w' => e = .returned (.tuple #[.string js, .bool jb]) ∧ Below w.heap.size w w' := by
  by_cases h1 : s.size ≤ 4000
  · obtain ⟨c0, c1⟩ := ck_bd s.data.toList
    have hJ := Lib.hid (seal_joinIs h1 h)
    have hF := Lib.hid (implFormat_yes (ck s.data.toList) w (by omega) (by omega) htab)
    have h6 := sumText_size s
    obtain ⟨N, hN⟩ : ∃ N, N = sumText s := ⟨_, rfl⟩
    have hF2 : Hid (Calls Tryd.prog 10 #[.int .i64 (ck s.data.toList)] w fun e w' => e = .returned (.tuple #[.string N, .bool true]) ∧ Below w.heap.size w w') := by
      rw [hN]; exact hF
    have hJ2 : Hid (JoinIs [s, N] ⟨#[35]⟩ js jb) := by rw [hN]; exact hJ
    rw [← hN] at h6
    have hC := Lib.hid (implSum_yes s w h1)
    have hbl : Hid (blens [s, N] = s.size + N.size) := by simp [blens, Hid]
    clear hN hF hJ h htab c0 c1
    go_enter Tryd.func16, Tryd.ntmps16
    go_wp2_with fail
    refine hC.out.mono ?_
    rintro e w' ⟨rfl, rfl⟩
    go_wp2_with fail
    refine hF2.out.mono ?_
    rintro e w1 ⟨rfl, b1⟩
    have B1 := Lib.hid b1
    clear b1
    go_wp2_with fail
    refine (implJoin_view _ _ 2 [s, N] _ js jb _ (pair_view _ _ _ _) (by rw [hbl.out]; omega) (Nat.le_refl _) hJ2.out).mono ?_
    rintro e w2 ⟨rfl, b2⟩
    have B2 := Lib.hid ((B1.out.alloc B1.out.size _).trans (b2.mono (by have := B1.out.size; simp; omega)))
    clear b2
    go_wp2
    go_ret2
    exact ⟨rfl, B2.out⟩
  · obtain ⟨rfl, rfl⟩ := h.bad (fun g => h1 g.1)
    have hC := Lib.hid (implSum_no s w (by omega))
    clear h htab
    go_enter Tryd.func16, Tryd.ntmps16
    go_wp2_with fail
    refine hC.out.mono ?_
    rintro e w' ⟨rfl, rfl⟩
    go_wp2
    go_ret2
    exact ⟨rfl, Below.refl _ _⟩

theorem lawAppendChecksum (s : ByteArray) (w : World) (_hs : s.size ≤ maxLen) (hL : laidMetH Tryd.prog laidA w) :
    Calls Tryd.prog 6 #[.string s] w fun e w' => e = .returned (.bool true) ∧ Below w.heap.size w w' := by
  have htab := tab_of_laidA hL
  clear hL
  by_cases h1 : s.size ≤ 1048576
  · obtain ⟨js, jb, hp⟩ := seal_ex s
    have hS := Lib.hid (specAppend s js jb w h1 hp)
    have hI := Lib.hid (fun q => implAppend s js jb (w.drewN q) h1 hp htab)
    clear hp htab
    go_enter Tryd.func6, Tryd.ntmps6
    go_wp2_with fail
    refine hS.out.mono ?_
    rintro e w' ⟨rfl, q, rfl⟩
    go_wp2_with fail
    refine (hI.out q).mono ?_
    rintro e w2 ⟨rfl, b2⟩
    have B2 := Lib.hid ((below_drewN (Below.refl _ w) q).trans b2)
    clear b2
    go_wp2
    go_ret
    exact ⟨rfl, B2.out⟩
  · clear htab
    go_enter Tryd.func6, Tryd.ntmps6
    go_wp2
    go_ret
    exact ⟨rfl, Below.refl _ _⟩

end Go.Proofs.YtoljoifldlpinaaDoor
