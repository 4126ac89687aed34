/- Contracts of sums of bytes over this program: crc.More and crc.Sum, by its table of sixteen. -/
import Derived.Test.YtmlmmjjnejbceaaDoorWordsB
import Derived.Test.YtmlmmjjnejbceaaDoorCrcL
import Derived.Laws.BitsAllLaws
import Derived.Laws.Shifts
import Derived.Lib.LaidTab
namespace Go.Proofs.YtmlmmjjnejbceaaDoor
open Go.RowKit

namespace K
def fours : List Nat := [0, 498536548, 997073096, 651767980, 1994146192, 1802195444, 1303535960, 1342533948, 3988292384, 4027552580, 3604390888, 3412177804, 2607071920, 2262029012, 2685067896, 3183342108]
theorem fours_at : ∀ i : Fin 16, fours.getD i.1 0 = clkN 4 i.1 := by decide +kernel
theorem four_step (s : Nat) : s / 16 ^^^ fours.getD (s % 16) 0 = clkN 4 s := by
  rw [fours_at ⟨s % 16, by omega⟩]
  have h := join_xor4 (s % 16) (s / 16) (by omega)
  have e : s = s % 16 ^^^ 16 * (s / 16) := by rw [← h]; omega
  conv => rhs; rw [e]
  rw [clkN_xor, show 16 * (s / 16) = 2 ^ 4 * (s / 16) from rfl, clkN_shift, Nat.xor_comm]
theorem byte_step (c z : Nat) : clkN 4 (clkN 4 (c ^^^ z)) = clkN 8 (c ^^^ z) := (clkN_add 4 4 _).symm
theorem run_snoc (c : Nat) (l : List Int) (z : Int) : run c (l ++ [z]) = clkN 8 (run c l ^^^ z.toNat) := by unfold run; rw [List.foldl_append]; rfl
theorem fours_lt : ∀ i : Fin 16, fours.getD i.1 0 < 4294967296 := by decide +kernel
end K

/-- The table of sixteen as the program lays it. -/
def Fours (w : World) : Prop := Lib.TabIs Tryd.prog w "gerund/crc.fours" .u32 (K.fours.map Int.ofNat)
theorem Fours.below {w w' : World} (h : Fours w) (hb : Below w.heap.size w w') : Fours w' := by
  unfold Fours Lib.TabIs at *
  have hg : Tryd.prog.globalNamed "gerund/crc.fours" = some 0 := by kernel_rfl
  refine var?_below hb hg ?_ h
  have h' := h
  unfold World.var? at h'
  rw [hg] at h'
  simp only [Option.bind_some] at h'
  rcases Nat.lt_or_ge 0 w.heap.size with hl | hl
  · exact hl
  · rw [Array.getElem?_eq_none hl] at h'; simp at h'
theorem fours_cell (k i : Nat) (hi : i < 16) (h2 : K.fours.getD i 0 = k) : ((K.fours.map Int.ofNat).map fun z => Value.int .u32 z)[i]? = some (.int .u32 (k : Int)) := by
  have hl : i < K.fours.length := hi
  rw [List.getD, List.getElem?_eq_getElem hl] at h2
  simp only [Option.getD_some] at h2
  rw [List.getElem?_map, List.getElem?_map, List.getElem?_eq_getElem hl, h2]
  rfl
theorem Fours.cell {w : World} (h : Fours w) (i : Nat) (hi : i < 16) : w.cell? ⟨0, i, none⟩ = some (.int .u32 ((K.fours.getD i 0 : Nat) : Int)) := by
  have hg : Tryd.prog.globalNamed "gerund/crc.fours" = some 0 := by kernel_rfl
  rw [World.var?_cell hg h, List.getElem?_toArray]
  exact fours_cell _ i hi rfl

theorem not_u32 (s : Nat) (h : s < 4294967296) : bits .xor .u32 IntKind.u32.max (s : Int) = ((K.top - s : Nat) : Int) := by
  have := u32_xor_nat 4294967295 s (by omega) h
  rw [show (4294967295 : Nat) = K.top from rfl, ← K.top_sub h] at this
  exact this
theorem shr4 (x : Nat) : (x : Int) / 16 = ((x / 16 : Nat) : Int) := by omega
theorem mod16 (x : Nat) : (x : Int) % 16 = ((x % 16 : Nat) : Int) := by omega

set_option maxHeartbeats 1000000 in
theorem more_any (s : Nat) (A : Option Addr) (c B : Nat) (l : List Int) (w : World) (hs : s < 4294967296) (hr : RdB w B A l) (hl : K.Bytes l) (hn : l.length ≤ 9223372036854775807) (ht : Fours w) :
    Calls Tryd.prog 10 #[.int .u32 s, .slice A l.length c] w fun e w' => e = .returned (.int .u32 (K.more s l)) ∧ w' = w := by
  have E0 := hide (not_u32 s hs)
  go_enter Tryd.func10, Tryd.ntmps10
  go_wp2
  go_loop [12, 5] (fun vi vs => ∃ (k : Nat), k ≤ l.length ∧ vi = .int .i64 k ∧ vs = .int .u32 (K.run (K.top - s) (l.take k))) (fun vi _ => l.length - (intOf vi).toNat)
  case atStart => exact ⟨0, by omega, rfl, by rw [E0.out]; rfl⟩
  case round =>
    obtain ⟨k, hk, rfl, rfl⟩ := hrel
    by_cases hlt : k < l.length
    · obtain ⟨g, o, rfl, _, hc⟩ := hr (by omega)
      have hcell := hc k hlt
      have hz := hl.getD k
      have hst := hide (show K.clkN 4 (K.clkN 4 (K.run (K.top - s) (l.take k) ^^^ (l.getD k 0).toNat)) = K.run (K.top - s) (l.take (k + 1)) by rw [L.take_snoc l k hlt, K.run_snoc, K.byte_step])
      have hlt1 := K.run_lt (l.take k) (hl.take k) (c := K.top - s) (by unfold K.top; omega)
      generalize l.getD k 0 = z at *
      generalize K.run (K.top - s) (l.take k) = r at *
      obtain ⟨b, rfl⟩ := Int.eq_ofNat_of_zero_le hz.1
      rw [Int.toNat_natCast] at hst
      have hb : b < 256 := by omega
      clear hc hz
      have e1 := u32_xor_nat r b hlt1 (by omega)
      have hx := K.xor_lt hlt1 (show b < 4294967296 by omega)
      generalize r ^^^ b = x at *
      have q1 := hide (shr4 x)
      have m1 := hide (mod16 x)
      have c1 := ht.cell (x % 16) (by omega)
      have f1 := K.fours_lt ⟨x % 16, by omega⟩
      have e2 := u32_xor_nat (x / 16) (K.fours.getD (x % 16) 0) (by omega) f1
      rw [K.four_step] at e2
      have hy := K.clkN_lt 4 hx
      generalize K.clkN 4 x = y at *
      have q2 := hide (shr4 y)
      have m2 := hide (mod16 y)
      have c2 := ht.cell (y % 16) (by omega)
      have f2 := K.fours_lt ⟨y % 16, by omega⟩
      have e3 := u32_xor_nat (y / 16) (K.fours.getD (y % 16) 0) (by omega) f2
      rw [K.four_step] at e3
      simp only at f1 f2
      generalize K.fours.getD (x % 16) 0 = v1 at *
      generalize K.fours.getD (y % 16) 0 = v2 at *
      have i1 : x % 16 < 16 := by omega
      have i2 : y % 16 < 16 := by omega
      generalize x % 16 = j1 at *
      generalize y % 16 = j2 at *
      generalize x / 16 = p1 at *
      generalize y / 16 = p2 at *
      go_wp2_with (first | simp only [q1.out, m1.out] | simp only [q1.out] | simp only [m1.out] | simp only [e2] | simp only [q2.out, m2.out] | simp only [q2.out] | simp only [m2.out] | simp only [e3])
      go_round
      case rel => exact ⟨k + 1, by omega, by go_num, by rw [hst.out]⟩
      case measure => simp [intOf]; omega
    · obtain rfl : k = l.length := by omega
      rw [List.take_length]
      have hlt1 := K.run_lt l hl (c := K.top - s) (by unfold K.top; omega)
      have E1 := hide (not_u32 _ hlt1)
      go_wp2
      go_ret
      exact ⟨ret_int E1.out, rfl⟩
end Go.Proofs.YtmlmmjjnejbceaaDoor
