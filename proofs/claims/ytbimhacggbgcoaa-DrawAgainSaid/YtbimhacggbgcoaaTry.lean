/- The document's number of a try's words, over this program. -/
import Derived.Test.YtbimhacggbgcoaaLow
namespace Go.Proofs.Ytbimhacggbgcoaa
open Go.RowKit

theorem maskS_low {k i : Nat} {ws : List Int} (h : M.Lim ws) (hn : ws.length = (k + 31) / 32) (hi : i < ws.length) (hk : 32 * i + 32 ≤ k) : (maskS k ws).getD i 0 = ws.getD i 0 := by
  unfold maskS
  by_cases e : i = ws.length - 1
  · rw [← e]
    have b := h.getD i
    have hk2 : k - 32 * i = 32 := by omega
    rw [hk2, show (2 : Int) ^ 32 = 4294967296 by decide, Int.emod_eq_of_lt b.1 b.2, M.gd_lt hi, List.set_getElem_self]
    rw [M.gd_lt hi]
  · rw [M.gd_lt (by rw [List.length_set]; exact hi), M.gd_lt hi, List.getElem_set_ne (by omega)]
theorem maskS_top {k i : Nat} {ws : List Int} (hn : ws.length = (k + 31) / 32) (hi : i < ws.length) (hk : k < 32 * i + 32) : (maskS k ws).getD i 0 = ws.getD i 0 % 2 ^ (k - 32 * i) := by
  unfold maskS
  obtain rfl : i = ws.length - 1 := by omega
  rw [M.gd_lt (by rw [List.length_set]; exact hi), List.getElem_set_self]

theorem mod_low {x p : Int} (h : 0 ≤ x) (hp : 1 ≤ p) : 0 ≤ x % p ∧ x % p ≤ x := by
  have h1 := Int.emod_nonneg x (by omega : p ≠ 0)
  have := Int.emod_add_mul_ediv x p
  have h3 := Int.ediv_nonneg h (by omega : 0 ≤ p)
  have := Int.mul_nonneg (by omega : 0 ≤ p) h3
  omega
theorem pow_low (j : Nat) (h : j < 32) : (1 : Int) ≤ 2 ^ j ∧ (2 : Int) ^ j ≤ 2147483648 := by
  have hp : 2 ^ j ≤ 2 ^ 31 := Nat.pow_le_pow_right (by omega) (by omega)
  have h0 : 0 < 2 ^ j := Nat.pow_pos (by omega)
  have e : ((2 ^ j : Nat) : Int) = (2 : Int) ^ j := by simp
  omega

set_option maxHeartbeats 2000000 in
set_option maxRecDepth 100000 in
theorem try_any (A : Option Addr) (c k : Nat) (ws : List Int) (w : World) (hr : Rd w w.heap.size A ws) (hw : M.Lim ws) (hk : k ≤ 1024) (hn : ws.length = (k + 31) / 32) :
    Calls Try.prog 20 #[.int .i64 k, .slice A ws.length c] w (Ret1 (lowS k ws) w) := by
  have HN := hide hn
  have HR := hide hr
  have HWL := hide hw
  have hl : ws.length ≤ 32 := by omega
  clear hr hn hw
  go_enter Try.func20, Try.ntmps20
  go_wp2
  go_loopw [5, 6] (fun vo vi wr => ∃ (i : Nat) (os : List Int), i ≤ ws.length ∧ vi = .int .i64 i ∧ OwnU wr w.heap.size vo os ∧ os = (maskS k ws).take i ∧ Below w.heap.size w wr) (fun _ vi _ => ws.length - (intOf vi).toNat)
  case atStart => exact ⟨0, [], Nat.zero_le _, rfl, OwnU.nil _ _, rfl, Below.refl _ _⟩
  case round =>
    obtain ⟨i, os, hi, rfl, hown, hos, hbl⟩ := hrel
    have HOS := hide hos
    have hol : os.length = i := by rw [hos, List.length_take, maskS_len]; omega
    have HOL := hide hol
    clear hos hol
    by_cases hlt : i < ws.length
    · obtain ⟨g, o, hA, _, hc⟩ := HR.out.below hbl (Nat.le_refl _) (by omega)
      subst hA
      have hci := hc i hlt
      have bx := HWL.out.getD i
      have hi1 : (0 : Int) ≤ (i : Int) := by omega
      have hi2 : (i : Int) < (ws.length : Int) := by omega
      have hi3 : i < 32 := by omega
      have NEXT : Hid (∀ (z : Int) (v' : Value) (w2 : World), z = (maskS k ws).getD i 0 → OwnU w2 w.heap.size v' (os ++ [z]) → Below w.heap.size w w2 → ∃ (i' : Nat) (os' : List Int), i' ≤ ws.length ∧ Value.int .i64 ((i : Int) + 1) = .int .i64 i' ∧ OwnU w2 w.heap.size v' os' ∧ os' = (maskS k ws).take i' ∧ Below w.heap.size w w2) := by
        intro z v' w2 hz h1 h2
        exact ⟨i + 1, os ++ [z], hlt, by go_num, h1, by rw [M.take_snoc _ i (by rw [maskS_len]; exact hlt), ← hz, HOS.out], h2⟩
      by_cases hle : k < 32 * i + 32
      · have EZ := hide (maskS_top HN.out hlt hle)
        obtain ⟨m, hm⟩ : ∃ m, k = 32 * i + m := ⟨k - 32 * i, by have := HN.out; omega⟩
        have HM := hide hm
        have m1 : 0 < m := by have := HN.out; omega
        have m2 : m < 32 := by omega
        generalize hX : ws.getD i 0 = x at *
        clear hc hX
        have HKI := hide (show (k : Int) - 32 * (i : Int) = (m : Int) by omega)
        have hki : (k : Int) - 32 * (i : Int) < 32 := by omega
        clear hm hle
        go_wp2_with fail
        rw [HKI.out]
        clear hki
        go_loop [9, 10] (fun vp vj => ∃ (j : Nat) (p : Int), j ≤ m ∧ vj = .int .i64 j ∧ vp = .int .u64 p ∧ p = 2 ^ j) (fun _ vj => m - (intOf vj).toNat)
        case atStart => exact ⟨0, 1, Nat.zero_le _, rfl, rfl, rfl⟩
        case round =>
          obtain ⟨j, p, hj, rfl, rfl, hp⟩ := hrel
          have bp := pow_low j (by omega)
          rw [← hp] at bp
          have HP := hide hp
          clear hp
          by_cases hjm : j < m
          · have hjm' : (j : Int) < (m : Int) := by omega
            have hj32 : (j : Int) < 32 := by omega
            clear hci
            go_wp2
            go_round
            case rel => exact ⟨j + 1, 2 * p, hjm, by go_num, rfl, by rw [HP.out, Int.pow_succ]; omega⟩
            case measure => simp [intOf]; omega
          · obtain rfl : j = m := by omega
            have hmd := mod_low (x := x) (p := p) bx.1 bp.1
            have HEZ : Hid ((maskS k ws).getD i 0 = x % p) := by
              show (maskS k ws).getD i 0 = x % p
              rw [EZ.out, HP.out, show k - 32 * i = j by have := HM.out; omega]
            have hmd1 : 0 ≤ x % p := hmd.1
            have hmd2 : x % p < 4294967296 := by omega
            have hp0 : p ≠ 0 := by omega
            clear hci hjm
            go_wp2_with (at_builtin; refine ap_arm rfl (.tmp 38) (.tmp 41) _ rfl Try.underlying23 w.heap.size _ os rfl (hown.alloc _) wr.heap.size 1 (x % p) rfl (World.cell?_alloc_new _ _ _ 0) (by have := HOL.out; omega) (by have := hbl.size; simp; omega) ?_; intro v' w2 ho2 hg2)
            go_roundw
            case rel => exact NEXT.out (x % p) _ _ HEZ.out.symm ho2 (below_grown (hbl.alloc hbl.size _) (hown.alloc _) hg2 (by have := hbl.size; simp; omega))
            case measure => simp [intOf]; omega
      · have EZ := hide (maskS_low HWL.out HN.out hlt (by omega))
        generalize hX : ws.getD i 0 = x at *
        have hki : (32 : Int) ≤ (k : Int) - 32 * (i : Int) := by omega
        clear hc hX hle
        go_wp2_with (at_builtin; refine ap_arm rfl (.tmp 38) (.tmp 41) _ rfl Try.underlying23 w.heap.size _ os rfl (hown.alloc _) wr.heap.size 1 x rfl (World.cell?_alloc_new _ _ _ 0) (by have := HOL.out; omega) (by have := hbl.size; simp; omega) ?_; intro v' w2 ho2 hg2)
        go_roundw
        case rel => exact NEXT.out x _ _ EZ.out.symm ho2 (below_grown (hbl.alloc hbl.size _) (hown.alloc _) hg2 (by have := hbl.size; simp; omega))
        case measure => simp [intOf]; omega
    · obtain rfl : i = ws.length := by omega
      obtain ⟨AA, cc, rfl, hc1, hc2, HRD0⟩ := hown.form
      obtain ⟨ms, hms⟩ : ∃ ms : List Int, ms = os := ⟨_, rfl⟩
      have hmk : os = maskS k ws := by rw [HOS.out, List.take_of_length_le (by rw [maskS_len]; omega)]
      obtain ⟨L, hL⟩ : ∃ L : Nat, L = os.length := ⟨_, rfl⟩
      have HLM : Hid (ms.length = L) := by show ms.length = L; rw [hms, hL]
      have HRD : Hid (Rd wr wr.heap.size AA ms) := by show Rd wr wr.heap.size AA ms; rw [hms]; exact HRD0
      have FIN : Hid (∀ k' : Nat, k' ≤ ms.length → M.trim ms = ms.take k' → Ret1 (lowS k ws) w (.returned (.slice AA k' cc)) wr) := by
        intro k' h1 h2
        have := low_fin AA cc ms w wr HRD.out (by rw [hms]; omega) (by unfold maxLen at hc2; omega) hbl k' h1 h2
        have e : lowS k ws = M.trim ms := by rw [hms, hmk]; rfl
        rw [e]; exact this
      have hl2 : L ≤ 32 := by have := HOL.out; omega
      have hl3 : L ≤ cc := by omega
      have hl4 : cc ≤ 9223372036854775807 := by unfold maxLen at hc2; omega
      rw [← hL]
      clear hms hmk hL hc1 hc2 HRD0 hown HOS HOL HR HWL HN
      go_wp2
      go_loop [5] (fun v => ∃ k : Nat, k ≤ ms.length ∧ v = .slice AA k cc ∧ M.trim (ms.take k) = M.trim ms) (fun v => match v with | .slice _ n _ => n | _ => 0)
      case atStart => exact ⟨L, Nat.le_of_eq HLM.out.symm, rfl, by rw [← HLM.out, List.take_length]⟩
      case round =>
        obtain ⟨k', hk', rfl, ht⟩ := hrel
        have HT := hide ht; clear ht
        by_cases h0 : k' = 0
        · subst h0
          go_wp2
          go_ret
          exact FIN.out 0 (by omega) (by rw [← HT.out]; rfl)
        · obtain ⟨i, rfl⟩ : ∃ i, k' = i + 1 := ⟨k' - 1, by omega⟩
          obtain ⟨g', o', hAA', _, hc'⟩ := HRD.out (by omega)
          have hci := hc' i (by omega)
          have hi32 : i < 32 := by have := HLM.out; omega
          have hi33 : (i : Int) < 32 := by omega
          have hi34 : i + 1 ≤ cc := by have := HLM.out; omega
          clear hc' h0
          subst hAA'
          by_cases hz : ms.getD i 0 = 0
          · have HZ := hide (M.trim_take_zero (by omega) hz)
            rw [hz] at hci
            clear hz
            go_wp2
            go_round
            case rel => exact ⟨i, by omega, rfl, by rw [← HZ.out, HT.out]⟩
            case measure => simp
          · have HZ := hide (M.trim_take_stop (by omega) hz)
            have hz' : (ms.getD i 0 == 0) = false := by simpa using hz
            clear hz
            generalize ms.getD i 0 = z at *
            go_wp2
            go_ret
            exact FIN.out (i + 1) (by omega) (by rw [← HT.out, HZ.out])
end Go.Proofs.Ytbimhacggbgcoaa
