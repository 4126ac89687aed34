/- The contract of the document's own Get over this program. -/
import Derived.Test.YtihdkaggjinmmaaCodeGet
namespace Go.Proofs.Ytihdkaggjinmmaa
open Go.RowKit

set_option maxHeartbeats 1000000 in
set_option maxRecDepth 100000 in
theorem rget_any (A : Option Addr) (c B : Nat) (l : List Int) (a : Int) (w : World) (hr : RdB w B A l) (hl : K.Bytes l) (hc : l.length ≤ 9223372036854775807) :
    Calls Try.prog 9 #[.slice A l.length c, .int .i64 a] w fun e w' => e = .returned (V.ans (V.get l a)) ∧ w' = w := by
  by_cases h1 : a < 0
  · rw [V.get_out (.inl h1)]
    clear hr hl
    go_enter Try.func9, Try.ntmps9
    go_wp2
    go_ret3
    exact ⟨rfl, rfl⟩
  · by_cases h2 : (l.length : Int) < a
    · rw [V.get_out (.inr h2)]
      clear hr hl
      go_enter Try.func9, Try.ntmps9
      go_wp2
      go_ret3
      exact ⟨rfl, rfl⟩
    · obtain ⟨m, rfl⟩ := Int.eq_ofNat_of_zero_le (by omega : 0 ≤ a)
      have hml : m ≤ l.length := by omega
      rw [V.get_in hml]
      generalize hR : V.scan 5 0 0 (l.drop m) = R at *
      generalize hX : (if R.2.2 = 0 then (R.1, m + R.2.1, 0) else (0, 0, R.2.2) : Nat × Nat × Nat) = X at *
      have HX := hide hX
      have HRd := hide hr
      clear hX hr
      go_enter Try.func9, Try.ntmps9
      go_wp2
      go_loop [9, 7, 8] (fun vi vn vo => ∃ (k n : Nat), k ≤ 5 ∧ m + k ≤ l.length ∧ vi = .int .i64 k ∧ vn = .int .u64 n ∧ vo = .int .u64 ((128 ^ k : Nat) : Int) ∧ n < 128 ^ k ∧ V.scan (5 - k) k n (l.drop (m + k)) = R) (fun vi _ _ => 5 - (intOf vi).toNat)
      case atStart => exact ⟨0, 0, by omega, hml, rfl, rfl, rfl, by omega, hR⟩
      case round =>
        obtain ⟨k, n, hk, hmk, rfl, rfl, rfl, hn, hs⟩ := hrel
        clear hR
        by_cases h5 : k = 5
        · subst h5
          rw [V.scan_0] at hs
          obtain rfl : X = (0, 0, 3) := by rw [← HX.out, ← hs]; rfl
          clear hs HX hn
          go_wp2
          go_ret3
          exact ⟨rfl, rfl⟩
        · by_cases hend : m + k = l.length
          · rw [show l.drop (m + k) = [] from List.drop_of_length_le (by omega), show 5 - k = (4 - k) + 1 by omega, V.scan_nil] at hs
            obtain rfl : X = (0, 0, 4) := by rw [← HX.out, ← hs]; rfl
            have he1 : (l.length : Int) - (k : Int) ≤ (m : Int) := by omega
            clear hs HX hn hend
            go_wp2
            go_ret3
            exact ⟨rfl, rfl⟩
          · have hlt : m + k < l.length := by omega
            obtain ⟨g, o, rfl, _, hcell⟩ := HRd.out (by omega)
            have hz := hl.getD (m + k)
            have hc0 := hcell (m + k) hlt
            rw [L.cons_drop l (m + k) hlt, show 5 - k = (4 - k) + 1 by omega, V.scan_cons] at hs
            generalize l.getD (m + k) 0 = z at *
            obtain ⟨b, rfl⟩ := Int.eq_ofNat_of_zero_le hz.1
            rw [Int.toNat_natCast] at hs
            have hb : b < 256 := by omega
            have he1 : (m : Int) < (l.length : Int) - (k : Int) := by omega
            have he2 : (m : Int) + (k : Int) < (l.length : Int) := by omega
            have HN := hide (V.step_lt (y := b % 128) hn (by omega))
            clear hcell hz hend h1 h2 HRd
            by_cases hg : 128 ≤ b
            · rw [if_pos (by omega)] at hs
              have HS := hide hs
              clear hs
              obtain rfl | rfl | rfl | rfl | rfl : k = 0 ∨ k = 1 ∨ k = 2 ∨ k = 3 ∨ k = 4 := by omega
              · rw [show m + 0 = m from rfl] at hc0
                go_wp2
                go_round
                case rel => exact ⟨1, n + 1 * (b % 128), by omega, by omega, by go_num, by go_num, by go_num, HN.out, HS.out⟩
                case measure => simp [intOf]
              · go_wp2
                go_round
                case rel => exact ⟨2, n + 128 * (b % 128), by omega, by omega, by go_num, by go_num, by go_num, HN.out, HS.out⟩
                case measure => simp [intOf]
              · go_wp2
                go_round
                case rel => exact ⟨3, n + 16384 * (b % 128), by omega, by omega, by go_num, by go_num, by go_num, HN.out, HS.out⟩
                case measure => simp [intOf]
              · go_wp2
                go_round
                case rel => exact ⟨4, n + 2097152 * (b % 128), by omega, by omega, by go_num, by go_num, by go_num, HN.out, HS.out⟩
                case measure => simp [intOf]
              · go_wp2
                go_round
                case rel => exact ⟨5, n + 268435456 * (b % 128), by omega, by omega, by go_num, by go_num, by go_num, HN.out, HS.out⟩
                case measure => simp [intOf]
            · rw [if_neg (by omega)] at hs
              have HL := hide (show k = 0 → n + 128 ^ k * b < 4294967296 by rintro rfl; omega)
              by_cases hbad : (b = 0 ∧ 0 < k) ∨ 4294967296 ≤ n + 128 ^ k * b
              · rw [if_pos (by omega)] at hs
                obtain rfl : X = (0, 0, 3) := by rw [← HX.out, ← hs]; rfl
                clear hs HX HN
                by_cases hb0 : b = 0
                · have hb1 : ((b : Int) == 0) = true := by rw [hb0]; rfl
                  have HB := hide hbad
                  have HB0 := hide hb0
                  clear hbad hb0
                  obtain rfl | rfl | rfl | rfl | rfl : k = 0 ∨ k = 1 ∨ k = 2 ∨ k = 3 ∨ k = 4 := by omega
                  · exact absurd HB.out (by have := HL.out rfl; omega)
                  · go_wp2
                    go_ret3
                    exact ⟨rfl, rfl⟩
                  · go_wp2
                    go_ret3
                    exact ⟨rfl, rfl⟩
                  · go_wp2
                    go_ret3
                    exact ⟨rfl, rfl⟩
                  · go_wp2
                    go_ret3
                    exact ⟨rfl, rfl⟩
                · have hb1 : ((b : Int) == 0) = false := by simp; omega
                  replace hbad : 4294967296 ≤ n + 128 ^ k * b := by omega
                  clear hb0
                  obtain rfl : k = 4 := by
                    obtain rfl | rfl | rfl | rfl | rfl : k = 0 ∨ k = 1 ∨ k = 2 ∨ k = 3 ∨ k = 4 := by omega
                    all_goals omega
                  have hN4 : (4294967296 : Int) ≤ (n : Int) + 268435456 * ((b : Int) % 128) := by omega
                  clear hbad
                  go_wp2
                  go_ret3
                  exact ⟨rfl, rfl⟩
              · rw [if_neg (by omega)] at hs
                replace hbad : n + 128 ^ k * b < 4294967296 ∧ (b = 0 → k = 0) := by omega
                obtain ⟨N, hN⟩ : ∃ N, n + 128 ^ k * b = N := ⟨_, rfl⟩
                rw [hN] at hs hbad
                obtain rfl : X = (N, m + (k + 1), 0) := by rw [← HX.out, ← hs]; rfl
                have HNN := hide hN
                have HNb := hide hbad.1
                clear hs HX HN HL hN
                by_cases hb0 : b = 0
                · have hb1 : ((b : Int) == 0) = true := by rw [hb0]; rfl
                  obtain rfl : k = 0 := hbad.2 hb0
                  rw [show m + 0 = m from rfl] at hc0
                  have hF : ((4294967296 : Int) ≤ (N : Int)) = False := eq_false (by omega)
                  have hsum : (n : Int) + ((b : Int) % 128) = (N : Int) := by have := HNN.out; omega
                  clear hbad hb0
                  go_wp2
                  go_ret3
                  exact ⟨V.ret3 (by have := HNb.out; omega) (by omega) (by omega), rfl⟩
                · have hb1 : ((b : Int) == 0) = false := by simp; omega
                  clear hb0
                  obtain rfl | rfl | rfl | rfl | rfl : k = 0 ∨ k = 1 ∨ k = 2 ∨ k = 3 ∨ k = 4 := by omega
                  · rw [show m + 0 = m from rfl] at hc0
                    have hF : ((4294967296 : Int) ≤ (N : Int)) = False := eq_false (by omega)
                    have hsum : (n : Int) + ((b : Int) % 128) = (N : Int) := by have := HNN.out; omega
                    clear hbad
                    go_wp2
                    go_ret3
                    exact ⟨V.ret3 (by have := HNb.out; omega) (by omega) (by omega), rfl⟩
                  · have hF : ((4294967296 : Int) ≤ (N : Int)) = False := eq_false (by omega)
                    have hsum : (n : Int) + 128 * ((b : Int) % 128) = (N : Int) := by have := HNN.out; omega
                    clear hbad
                    go_wp2
                    go_ret3
                    exact ⟨V.ret3 (by have := HNb.out; omega) (by omega) (by omega), rfl⟩
                  · have hF : ((4294967296 : Int) ≤ (N : Int)) = False := eq_false (by omega)
                    have hsum : (n : Int) + 16384 * ((b : Int) % 128) = (N : Int) := by have := HNN.out; omega
                    clear hbad
                    go_wp2
                    go_ret3
                    exact ⟨V.ret3 (by have := HNb.out; omega) (by omega) (by omega), rfl⟩
                  · have hF : ((4294967296 : Int) ≤ (N : Int)) = False := eq_false (by omega)
                    have hsum : (n : Int) + 2097152 * ((b : Int) % 128) = (N : Int) := by have := HNN.out; omega
                    clear hbad
                    go_wp2
                    go_ret3
                    exact ⟨V.ret3 (by have := HNb.out; omega) (by omega) (by omega), rfl⟩
                  · have hF : ((4294967296 : Int) ≤ (N : Int)) = False := eq_false (by omega)
                    have hsum : (n : Int) + 268435456 * ((b : Int) % 128) = (N : Int) := by have := HNN.out; omega
                    clear hbad
                    go_wp2
                    go_ret3
                    exact ⟨V.ret3 (by have := HNb.out; omega) (by omega) (by omega), rfl⟩
end Go.Proofs.Ytihdkaggjinmmaa
