/- Contracts of Get over this program, and of the document's own. -/
import Derived.Test.YtihdkaggjinmmaaCodeFn
namespace Go.Proofs.Ytihdkaggjinmmaa
open Go.RowKit

/-- What Get answers. -/
def V.ans (r : Nat × Nat × Nat) : Value := .tuple #[.int .u32 (r.1 : Int), .int .i64 (r.2.1 : Int), .int .i64 (r.2.2 : Int)]
theorem V.ret3 {a b c : Int} {x y z : Nat} (h1 : a = x) (h2 : b = y) (h3 : c = z) : Ending.returned (.tuple #[.int .u32 a, .int .i64 b, .int .i64 c]) = .returned (V.ans (x, y, z)) := by rw [h1, h2, h3]; rfl

theorem V.get_out {l : List Int} {a : Int} (h : a < 0 ∨ (l.length : Int) < a) : V.get l a = (0, 0, 1) := by unfold V.get; rw [if_pos h]
theorem V.get_in {l : List Int} {m : Nat} (h : m ≤ l.length) : V.get l (m : Int) = if (V.scan 5 0 0 (l.drop m)).2.2 = 0 then ((V.scan 5 0 0 (l.drop m)).1, m + (V.scan 5 0 0 (l.drop m)).2.1, 0) else (0, 0, (V.scan 5 0 0 (l.drop m)).2.2) := by
  unfold V.get; rw [if_neg (by omega), Int.toNat_natCast]
theorem V.pow7 (k : Nat) : 128 ^ k = 2 ^ (7 * k) := by rw [show (128 : Nat) = 2 ^ 7 from rfl, ← Nat.pow_mul]
theorem V.or_join {k n y : Nat} (hn : n < 128 ^ k) : n ||| 128 ^ k * y = n + 128 ^ k * y := by
  rw [V.pow7] at hn ⊢
  rw [Nat.add_comm, Nat.two_pow_add_eq_or_of_lt hn, Nat.or_comm]
theorem V.step_lt {k n y : Nat} (hn : n < 128 ^ k) (hy : y < 128) : n + 128 ^ k * y < 128 ^ (k + 1) := by
  rw [Nat.pow_succ]
  have : 128 ^ k * y + 128 ^ k ≤ 128 ^ k * 128 := by rw [← Nat.mul_succ]; exact Nat.mul_le_mul_left _ hy
  omega
theorem V.or64 {k n y d : Nat} {x : Int} (hn : n < 128 ^ k) (hk : k ≤ 4) (hy : y < 128) (hd : d = 128 ^ k) (hx : x = ((d * y : Nat) : Int)) : bits .or .u64 (n : Int) x = ((n + 128 ^ k * y : Nat) : Int) := by
  have h4 : 128 ^ k ≤ 128 ^ 4 := Nat.pow_le_pow_right (by decide) hk
  have h5 : 128 ^ k * y ≤ 128 ^ 4 * 128 := Nat.mul_le_mul h4 (by omega)
  rw [hx, hd, u64_or_nat n _ (by omega) (by omega), V.or_join hn]

set_option maxHeartbeats 1000000 in
set_option maxRecDepth 100000 in
theorem get_end (A : Option Addr) (c n : Nat) (w : World) (hc : n ≤ c) :
    Calls Try.prog 8 #[.slice A n c, .int .i64 n] w fun e w' => e = .returned (V.ans (0, 0, 4)) ∧ w' = w := by
  rcases A with _ | ⟨g, o, x⟩ <;> by_cases hcc : c = n
  all_goals
    go_enter Try.func8, Try.ntmps8
    go_wp2
    go_loop [29, 8] (fun vi _ => vi = .int .i64 0) (fun _ _ => 0)
    case atStart => rfl
    case round =>
      subst hrel
      go_wp2
      go_ret3
      exact ⟨rfl, rfl⟩

set_option maxHeartbeats 1000000 in
set_option maxRecDepth 100000 in
theorem get_any (A : Option Addr) (c B : Nat) (l : List Int) (a : Int) (w : World) (hr : RdB w B A l) (hl : K.Bytes l) (hc : l.length ≤ c) (hm : c ≤ 9223372036854775807) :
    Calls Try.prog 8 #[.slice A l.length c, .int .i64 a] w fun e w' => e = .returned (V.ans (V.get l a)) ∧ w' = w := by
  by_cases h1 : a < 0
  · rw [V.get_out (.inl h1)]
    clear hr hl
    go_enter Try.func8, Try.ntmps8
    go_wp2
    go_ret3
    exact ⟨rfl, rfl⟩
  · by_cases h2 : (l.length : Int) < a
    · rw [V.get_out (.inr h2)]
      clear hr hl
      go_enter Try.func8, Try.ntmps8
      go_wp2
      go_ret3
      exact ⟨rfl, rfl⟩
    · obtain ⟨m, rfl⟩ := Int.eq_ofNat_of_zero_le (by omega : 0 ≤ a)
      have hml : m ≤ l.length := by omega
      rw [V.get_in hml]
      have hT := hl.drop m
      by_cases h3 : m = l.length
      · subst h3
        rw [List.drop_length, V.scan_nil]
        exact get_end A c l.length w hc
      · obtain ⟨g, o, rfl, _, hcell⟩ := hr (by omega)
        obtain ⟨d, hd⟩ : ∃ d, l.length = m + d := ⟨l.length - m, by omega⟩
        obtain ⟨e, rfl⟩ : ∃ e, c = m + e := ⟨c - m, by omega⟩
        obtain ⟨h, hh⟩ : ∃ h : Nat, (if (5 : Int) < (d : Int) then (5 : Int) else (d : Int)) = (h : Int) := by
          by_cases h5 : (5 : Int) < (d : Int)
          · exact ⟨5, by rw [if_pos h5]; rfl⟩
          · exact ⟨d, by rw [if_neg h5]⟩
        rw [hd]
        have hbd : m + d ≤ m + e := by omega
        have hd0 : 0 < d := by omega
        generalize hR : V.scan 5 0 0 (l.drop m) = R at *
        generalize hX : (if R.2.2 = 0 then (R.1, m + R.2.1, 0) else (0, 0, R.2.2) : Nat × Nat × Nat) = X at *
        have HX := hide hX
        clear hr hX
        go_enter Try.func8, Try.ntmps8
        go_wp2
        go_loop [29, 8] (fun vi vn => ∃ (k n : Nat), k ≤ h ∧ vi = .int .i64 k ∧ vn = .int .u64 n ∧ n < 128 ^ k ∧ V.scan (5 - k) k n (l.drop (m + k)) = R) (fun vi _ => h - (intOf vi).toNat)
        case atStart => exact ⟨0, 0, by omega, rfl, rfl, by omega, hR⟩
        case round =>
          obtain ⟨k, n, hk, rfl, rfl, hn, hs⟩ := hrel
          have hh5 : h ≤ 5 ∧ h ≤ d ∧ (h = 5 ∨ h = d) := by
            by_cases h5 : (5 : Int) < (d : Int)
            · rw [if_pos h5] at hh; omega
            · rw [if_neg h5] at hh; omega
          by_cases hlt : k < h
          · have hz := hl.getD (m + k)
            have hc0 := hcell (m + k) (by omega)
            rw [L.cons_drop l (m + k) (by omega), show 5 - k = (4 - k) + 1 by omega, V.scan_cons] at hs
            generalize l.getD (m + k) 0 = z at *
            obtain ⟨b, rfl⟩ := Int.eq_ofNat_of_zero_le hz.1
            rw [Int.toNat_natCast] at hs
            have hcc : w.cell? ⟨g, o + m + k, none⟩ = some (.int .u8 (b : Int)) := by rw [Nat.add_assoc]; exact hc0
            have hb : b < 256 := by omega
            have HE := hide (fun (d : Nat) (x : Int) (h1 : d = 128 ^ k) (h2 : x = ((d * (b % 128) : Nat) : Int)) => V.or64 hn (by omega) (by omega) h1 h2)
            have HN := hide (V.step_lt (y := b % 128) hn (by omega))
            clear hcell hT hl hR hc0 hz hh
            by_cases hg : 128 ≤ b
            · rw [if_pos (by omega)] at hs
              have HS := hide hs
              clear hs hn
              obtain rfl | rfl | rfl | rfl | rfl : k = 0 ∨ k = 1 ∨ k = 2 ∨ k = 3 ∨ k = 4 := by omega
              · rw [Nat.add_zero] at hcc
                go_wp2
                go_round
                case rel => exact ⟨1, _, by omega, by go_num, congrArg (Value.int .u64) (HE.out 1 _ (by decide) (by omega)), HN.out, HS.out⟩
                case measure => simp [intOf]; omega
              · go_wp2
                go_round
                case rel => exact ⟨2, _, by omega, by go_num, congrArg (Value.int .u64) (HE.out 128 _ (by decide) (by omega)), HN.out, HS.out⟩
                case measure => simp [intOf]; omega
              · go_wp2
                go_round
                case rel => exact ⟨3, _, by omega, by go_num, congrArg (Value.int .u64) (HE.out 16384 _ (by decide) (by omega)), HN.out, HS.out⟩
                case measure => simp [intOf]; omega
              · go_wp2
                go_round
                case rel => exact ⟨4, _, by omega, by go_num, congrArg (Value.int .u64) (HE.out 2097152 _ (by decide) (by omega)), HN.out, HS.out⟩
                case measure => simp [intOf]; omega
              · go_wp2
                go_round
                case rel => exact ⟨5, _, by omega, by go_num, congrArg (Value.int .u64) (HE.out 268435456 _ (by decide) (by omega)), HN.out, HS.out⟩
                case measure => simp [intOf]; omega
            · rw [if_neg (by omega)] at hs
              have hbm : b % 128 = b := by omega
              have HL := hide (show k = 0 → n + 128 ^ k * b < 4294967296 by rintro rfl; omega)
              have hke : ∃ N : Nat, N = n + 128 ^ k * b := ⟨_, rfl⟩
              obtain ⟨N, hN⟩ := hke
              rw [← hN] at hs HL
              rw [hbm, ← hN] at HE
              have HNN := hide hN
              clear hN hbm HN
              by_cases hbad : (b = 0 ∧ 0 < k) ∨ 4294967296 ≤ N
              · rw [if_pos (by omega)] at hs
                obtain rfl : X = (0, 0, 3) := by rw [← HX.out, ← hs]; rfl
                clear hs HX hn
                by_cases hb0 : b = 0
                · have hb1 : ((b : Int) == 0) = true := by rw [hb0]; rfl
                  clear hb0
                  have HB := hide hbad
                  clear hbad
                  obtain rfl | rfl | rfl | rfl | rfl : k = 0 ∨ k = 1 ∨ k = 2 ∨ k = 3 ∨ k = 4 := by omega
                  · exact absurd HB.out (by have := HL.out rfl; omega)
                  · have he := HE.out 128 _ (by decide) (show (b : Int) % 128 * 128 = _ by omega)
                    go_wp2
                    go_ret3
                    exact ⟨rfl, rfl⟩
                  · have he := HE.out 16384 _ (by decide) (show (b : Int) % 128 * 16384 = _ by omega)
                    go_wp2
                    go_ret3
                    exact ⟨rfl, rfl⟩
                  · have he := HE.out 2097152 _ (by decide) (show (b : Int) % 128 * 2097152 = _ by omega)
                    go_wp2
                    go_ret3
                    exact ⟨rfl, rfl⟩
                  · have he := HE.out 268435456 _ (by decide) (show (b : Int) % 128 * 268435456 = _ by omega)
                    go_wp2
                    go_ret3
                    exact ⟨rfl, rfl⟩
                · have hb1 : ((b : Int) == 0) = false := by simp; omega
                  have hN4 : (4294967295 : Int) < (N : Int) := by omega
                  clear hb0 hbad
                  obtain rfl | rfl | rfl | rfl | rfl : k = 0 ∨ k = 1 ∨ k = 2 ∨ k = 3 ∨ k = 4 := by omega
                  · exact absurd (HL.out rfl) (by omega)
                  · have he := HE.out 128 _ (by decide) (show (b : Int) % 128 * 128 = _ by omega)
                    go_wp2
                    go_ret3
                    exact ⟨rfl, rfl⟩
                  · have he := HE.out 16384 _ (by decide) (show (b : Int) % 128 * 16384 = _ by omega)
                    go_wp2
                    go_ret3
                    exact ⟨rfl, rfl⟩
                  · have he := HE.out 2097152 _ (by decide) (show (b : Int) % 128 * 2097152 = _ by omega)
                    go_wp2
                    go_ret3
                    exact ⟨rfl, rfl⟩
                  · have he := HE.out 268435456 _ (by decide) (show (b : Int) % 128 * 268435456 = _ by omega)
                    go_wp2
                    go_ret3
                    exact ⟨rfl, rfl⟩
              · rw [if_neg (by omega)] at hs
                obtain rfl : X = (N, m + (k + 1), 0) := by rw [← HX.out, ← hs]; rfl
                clear hs HX hn
                have hN4 : (N : Int) ≤ 4294967295 := by omega
                by_cases hb0 : b = 0
                · have hb1 : ((b : Int) == 0) = true := by rw [hb0]; rfl
                  obtain rfl : k = 0 := by omega
                  clear hb0 hbad
                  rw [Nat.add_zero] at hcc
                  have he := HE.out 1 _ (by decide) (show (b : Int) % 128 = _ by omega)
                  go_wp2
                  go_ret3
                  exact ⟨V.ret3 (by omega) (by omega) (by omega), rfl⟩
                · have hb1 : ((b : Int) == 0) = false := by simp; omega
                  clear hb0 hbad
                  obtain rfl | rfl | rfl | rfl | rfl : k = 0 ∨ k = 1 ∨ k = 2 ∨ k = 3 ∨ k = 4 := by omega
                  · rw [Nat.add_zero] at hcc
                    have he := HE.out 1 _ (by decide) (show (b : Int) % 128 = _ by omega)
                    go_wp2
                    go_ret3
                    exact ⟨V.ret3 (by omega) (by omega) (by omega), rfl⟩
                  · have he := HE.out 128 _ (by decide) (show (b : Int) % 128 * 128 = _ by omega)
                    go_wp2
                    go_ret3
                    exact ⟨V.ret3 (by omega) (by omega) (by omega), rfl⟩
                  · have he := HE.out 16384 _ (by decide) (show (b : Int) % 128 * 16384 = _ by omega)
                    go_wp2
                    go_ret3
                    exact ⟨V.ret3 (by omega) (by omega) (by omega), rfl⟩
                  · have he := HE.out 2097152 _ (by decide) (show (b : Int) % 128 * 2097152 = _ by omega)
                    go_wp2
                    go_ret3
                    exact ⟨V.ret3 (by omega) (by omega) (by omega), rfl⟩
                  · have he := HE.out 268435456 _ (by decide) (show (b : Int) % 128 * 268435456 = _ by omega)
                    go_wp2
                    go_ret3
                    exact ⟨V.ret3 (by omega) (by omega) (by omega), rfl⟩
          · obtain rfl : k = h := by omega
            by_cases h5 : k = 5
            · subst h5
              rw [V.scan_0] at hs
              obtain rfl : X = (0, 0, 3) := by rw [← HX.out, ← hs]; rfl
              clear hs HX hcell hT hl hR hh hn
              go_wp2
              go_ret3
              exact ⟨rfl, rfl⟩
            · obtain rfl : k = d := by omega
              rw [show l.drop (m + k) = [] from List.drop_of_length_le (by omega), show 5 - k = (4 - k) + 1 by omega, V.scan_nil] at hs
              obtain rfl : X = (0, 0, 4) := by rw [← HX.out, ← hs]; rfl
              have h6 : ((k : Int) == 5) = false := by simp; omega
              clear hs HX hcell hT hl hR hh hn
              go_wp2
              go_ret3
              exact ⟨rfl, rfl⟩
end Go.Proofs.Ytihdkaggjinmmaa
