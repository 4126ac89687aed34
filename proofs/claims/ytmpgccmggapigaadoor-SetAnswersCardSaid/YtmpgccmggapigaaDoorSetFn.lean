/- Contracts of set's functions over this program, and of the library's counts of bits: only, Of, Has, Count, Least, Members, Below. -/
import Derived.Test.YtmpgccmggapigaaDoorWordsI
import Derived.Test.YtmpgccmggapigaaDoorSetL
import Derived.Laws.BitsAllLaws
import Derived.Laws.Shifts
namespace Go.Proofs.YtmpgccmggapigaaDoor
open Go.RowKit

theorem pow_bit (n : Int) (h : 0 ≤ n) : (2 : Int) ^ (min n.toNat 32) % 4294967296 = (S.bit n : Int) := by
  by_cases hb : n ≤ 31
  · obtain ⟨k, rfl⟩ := Int.eq_ofNat_of_zero_le h
    rw [S.bit_nat (by omega), show min (k : Int).toNat 32 = k by omega]
    have hp : 2 ^ k ≤ 2 ^ 31 := Nat.pow_le_pow_right (by decide) (by omega)
    have e : (2 : Int) ^ k = ((2 ^ k : Nat) : Int) := by simp
    rw [e]
    generalize 2 ^ k = a at *
    omega
  · rw [S.bit_big (by omega), show min n.toNat 32 = 32 by omega]; decide
theorem pow_below (n : Int) (h : 0 < n) : ((2 : Int) ^ (min n.toNat 32) - 1) % 4294967296 = (S.below n : Int) := by
  unfold S.below
  rw [if_neg (by omega)]
  have e : (2 : Int) ^ (min n.toNat 32) = ((2 ^ (min n.toNat 32) : Nat) : Int) := by simp
  rw [e]
  have hp : 2 ^ (min n.toNat 32) ≤ 2 ^ 32 := Nat.pow_le_pow_right (by decide) (by omega)
  have h0 : 0 < 2 ^ (min n.toNat 32) := Nat.two_pow_pos _
  generalize 2 ^ (min n.toNat 32) = a at *
  omega

theorem only_any (n : Int) (w : World) :
    Calls Tryd.prog 20 #[.int .i64 n] w fun e w' => e = .returned (.int .u32 (S.bit n)) ∧ w' = w := by
  go_enter Tryd.func20, Tryd.ntmps20
  by_cases h : n < 0
  · have e := hide (S.bit_neg h)
    go_wp2
    go_ret
    rw [e.out]; exact ⟨rfl, rfl⟩
  · have h' : 0 ≤ n := by omega
    have e := hide (pow_bit n h')
    go_wp2
    go_ret
    exact ⟨ret_int e.out, rfl⟩

theorem below_any (n : Int) (w : World) :
    Calls Tryd.prog 18 #[.int .i64 n] w fun e w' => e = .returned (.int .u32 (S.below n)) ∧ w' = w := by
  go_enter Tryd.func18, Tryd.ntmps18
  by_cases h : n ≤ 0
  · have e := hide (show S.below n = 0 by unfold S.below; rw [if_pos h])
    go_wp2
    go_ret
    rw [e.out]; exact ⟨rfl, rfl⟩
  · have h' : 0 ≤ n := by omega
    have e := hide (pow_below n (by omega))
    go_wp2
    go_ret
    exact ⟨ret_int e.out, rfl⟩

theorem has_any (s : Nat) (n : Int) (w : World) (hs : s < 4294967296) :
    Calls Tryd.prog 9 #[.int .u32 s, .int .i64 n] w fun e w' => e = .returned (.bool (S.has s n)) ∧ w' = w := by
  have e := hide (u32_and_nat s (S.bit n) hs (S.bit_lt n))
  go_enter Tryd.func9, Tryd.ntmps9
  go_wp2_with fail
  refine (only_any _ _).mono ?_; rintro _ _ ⟨rfl, rfl⟩
  go_wp2_with fail
  go_ret
  refine ⟨ret_bool ?_, rfl⟩
  rw [e.out, ← S.and_bit]
  generalize s &&& S.bit n = a
  rw [Bool.eq_iff_iff, bne_iff_ne, bne_iff_ne]
  omega

theorem of_any (A : Option Addr) (c B : Nat) (l : List Int) (w : World) (hr : RdI w B A l) (hn : l.length ≤ 9223372036854775807) :
    Calls Tryd.prog 7 #[.slice A l.length c] w fun e w' => e = .returned (.int .u32 (S.of l)) ∧ ∃ n, w' = w.drewN n := by
  go_enter Tryd.func7, Tryd.ntmps7
  go_wp2
  go_loopw [8, 3] (fun vi vs wr => ∃ (k : Nat) (n : Nat), k ≤ l.length ∧ vi = .int .i64 k ∧ vs = .int .u32 (S.of (l.take k)) ∧ wr = w.drewN n) (fun vi _ _ => l.length - (intOf vi).toNat)
  case atStart => exact ⟨0, 0, by omega, rfl, rfl, rfl⟩
  case round =>
    obtain ⟨k, n, hk, rfl, rfl, rfl⟩ := hrel
    by_cases hlt : k < l.length
    · obtain ⟨g, o, rfl, _, hc⟩ := hr (by omega)
      have hcell := hc k hlt
      have hst := hide (show S.of (l.take k) ||| S.bit (l.getD k 0) = S.of (l.take (k + 1)) by rw [L.take_snoc l k hlt, S.of_snoc])
      have e := hide (u32_or_nat (S.of (l.take k)) (S.bit (l.getD k 0)) (S.of_lt _) (S.bit_lt _))
      generalize l.getD k 0 = z at *
      clear hc
      go_wp2_with fail
      refine (only_any _ _).mono ?_; rintro _ _ ⟨rfl, rfl⟩
      go_wp2_with (rw [e.out, hst.out])
      go_roundw
      case rel => exact ⟨k + 1, _, by omega, by go_num, rfl, rfl⟩
      case measure => simp [intOf]; omega
    · obtain rfl : k = l.length := by omega
      rw [List.take_length]
      go_wp2
      go_ret
      exact ⟨rfl, _, rfl⟩
end Go.Proofs.YtmpgccmggapigaaDoor
