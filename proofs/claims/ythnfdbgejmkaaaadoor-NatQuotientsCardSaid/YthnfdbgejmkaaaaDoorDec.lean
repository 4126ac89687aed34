/- Contract of nat's isDecimal over this program: a text of digits, without noughts ahead. -/
import Derived.Test.YthnfdbgejmkaaaaDoorRef
namespace Go.Proofs.YthnfdbgejmkaaaaDoor
open Go.RowKit

def dig (c : UInt8) : Bool := decide (48 ≤ c.toNat) && decide (c.toNat ≤ 57)
/-- A text of digits, at least one, without noughts ahead of others. -/
def isDec (l : List UInt8) : Bool := l.all dig && (l.length == 1 || (decide (1 < l.length) && (l.headD 0).toNat != 48))
/-- The number of digits. -/
def numD (l : List UInt8) : Nat := l.foldl (fun a c => a * 10 + (c.toNat - 48)) 0

theorem bytes_len (s : ByteArray) : s.data.toList.length = s.size := by rw [Array.length_toList]; rfl
theorem bytes_getD (s : ByteArray) (k : Nat) (h : k < s.size) : s.data.toList[k]? = some s[k] := by
  rw [List.getElem?_eq_getElem (by rw [bytes_len]; exact h)]; rfl
theorem bytes_take (s : ByteArray) (k : Nat) (h : k < s.size) : s.data.toList.take (k + 1) = s.data.toList.take k ++ [s[k]] := by
  rw [List.take_succ_eq_append_getElem (by simpa using h)]; rfl
theorem all_false {l : List UInt8} {k : Nat} {c : UInt8} (h : l[k]? = some c) (hc : dig c = false) : isDec l = false := by
  have : l.all dig = false := by
    rw [List.all_eq_false]
    exact ⟨c, List.mem_of_getElem? h, by rw [hc]; simp⟩
  unfold isDec; rw [this]; rfl

set_option maxHeartbeats 400000 in
set_option maxRecDepth 100000 in
theorem isDecimal_any (s : ByteArray) (w : World) (hs : s.size ≤ 9223372036854775807) :
    Calls Tryd.prog 48 #[.string s] w fun e w' => e = .returned (.bool (isDec s.data.toList)) ∧ w = w' := by
  go_enter Tryd.func48, Tryd.ntmps48
  go_wp2
  go_loop [6] (fun vi => ∃ k : Nat, k ≤ s.size ∧ vi = .int .i64 k ∧ (s.data.toList.take k).all dig = true) (fun vi => s.size - (intOf vi).toNat)
  case atStart => exact ⟨0, Nat.zero_le _, rfl, rfl⟩
  case round =>
    obtain ⟨k, hk, rfl, ha⟩ := hrel
    have HA := hide ha
    clear ha
    by_cases hlt : k < s.size
    · have ht := bytes_take s k hlt
      have hg := bytes_getD s k hlt
      by_cases h1 : (s[k].toNat : Int) < 48
      · have HN : Hid (isDec s.data.toList = false) := all_false hg (by unfold dig; simp; omega)
        clear ht hg
        go_wp2
        go_ret
        exact ⟨ret_bool HN.out.symm, rfl⟩
      · by_cases h2 : 57 < (s[k].toNat : Int)
        · have HN : Hid (isDec s.data.toList = false) := all_false hg (by unfold dig; simp; omega)
          clear ht hg
          go_wp2
          go_ret
          exact ⟨ret_bool HN.out.symm, rfl⟩
        · have HN : Hid ((s.data.toList.take (k + 1)).all dig = true) := by
            show (s.data.toList.take (k + 1)).all dig = true
            rw [ht, List.all_append, HA.out]
            simp [dig]; omega
          clear ht hg
          go_wp2
          go_round
          case rel => exact ⟨k + 1, by omega, by go_num, HN.out⟩
          case measure => simp [intOf]; omega
    · have hall := HA.out
      have hl := bytes_len s
      rw [List.take_of_length_le (by omega)] at hall
      rcases (by omega : s.size = 0 ∨ s.size = 1 ∨ 1 < s.size) with h | h | h
      · have HN : Hid (isDec s.data.toList = false) := by show isDec _ = false; unfold isDec; rw [hl, h]; simp
        have g1 : ((s.size : Int) == 1) = false := by rw [h]; rfl
        have g2 : (s.size : Int) ≤ 1 := by omega
        clear hall hl h
        go_wp2
        go_ret
        exact ⟨ret_bool HN.out.symm, rfl⟩
      · have HN : Hid (isDec s.data.toList = true) := by show isDec _ = true; unfold isDec; rw [hl, h, hall]; simp
        have g1 : ((s.size : Int) == 1) = true := by rw [h]; rfl
        clear hall hl h
        go_wp2
        go_ret
        exact ⟨ret_bool HN.out.symm, rfl⟩
      · have hp : 0 < s.size := by omega
        have hh : s.data.toList.headD 0 = s[0]'hp := by
          have := bytes_getD s 0 hp
          rw [List.headD_eq_head?_getD, List.head?_eq_getElem?, this]; rfl
        have g1 : ((s.size : Int) == 1) = false := by simp; omega
        by_cases h3 : ((s[0]'hp).toNat : Int) = 48
        · have HN : Hid (isDec s.data.toList = false) := by show isDec _ = false; unfold isDec; rw [hl, hall, hh]; simp; omega
          have g3 : (((s[0]'hp).toNat : Int) != 48) = false := by rw [h3]; rfl
          clear hall hl hh h3
          go_wp2
          go_ret
          exact ⟨ret_bool HN.out.symm, rfl⟩
        · have HN : Hid (isDec s.data.toList = true) := by show isDec _ = true; unfold isDec; rw [hl, hall, hh]; simp; omega
          have g3 : (((s[0]'hp).toNat : Int) != 48) = true := by rw [bne_iff_ne]; exact h3
          clear hall hl hh h3
          go_wp2
          go_ret
          exact ⟨ret_bool HN.out.symm, rfl⟩
end Go.Proofs.YthnfdbgejmkaaaaDoor
