/- Contracts of the document's own answers for sums and frames over this program. -/
import Derived.Test.YtmlmmjjnejbceaaDoorCrcFn
import Derived.Laws.IdiomStrings
import Derived.Deep.RegionHeld3
namespace Go.Proofs.YtmlmmjjnejbceaaDoor
open Go.RowKit

theorem K.clkN_succ (k c : Nat) : K.clkN (k + 1) c = K.clk (K.clkN k c) := K.clkN_add k 1 c
theorem K.bit_like {c x : Nat} (h : c % 2 = x % 2) : c / 2 ^^^ x / 2 = K.clk (c ^^^ x) := by have := K.bit_step c x; rwa [if_neg (by simpa using h)] at this
theorem K.bit_unlike {c x : Nat} (h : c % 2 ≠ x % 2) : (c / 2 ^^^ K.P) ^^^ x / 2 = K.clk (c ^^^ x) := by have := K.bit_step c x; rwa [if_pos h] at this

set_option maxHeartbeats 1000000 in
theorem rmore_any (s : Nat) (A : Option Addr) (c B : Nat) (l : List Int) (w : World) (hs : s < 4294967296) (hr : RdB w B A l) (hl : K.Bytes l) (hn : l.length ≤ 9223372036854775807) :
    Calls Tryd.prog 11 #[.int .u32 s, .slice A l.length c] w fun e w' => e = .returned (.int .u32 (K.more s l)) ∧ w' = w := by
  go_enter Tryd.func11, Tryd.ntmps11
  go_wp2
  go_loop [6, 5] (fun vi vs => ∃ (k : Nat), k ≤ l.length ∧ vi = .int .i64 k ∧ vs = .int .u32 (K.run (K.top - s) (l.take k))) (fun vi _ => l.length - (intOf vi).toNat)
  case atStart => exact ⟨0, by omega, rfl, congrArg (Value.int .u32) (show (4294967295 : Int) - (s : Int) = ((K.top - s : Nat) : Int) by unfold K.top; omega)⟩
  case round =>
    obtain ⟨k, hk, rfl, rfl⟩ := hrel
    by_cases hlt : k < l.length
    · obtain ⟨g, o, rfl, _, hc⟩ := hr (by omega)
      have hcell := hc k hlt
      have hz := hl.getD k
      have hst := hide (show K.clkN 8 (K.run (K.top - s) (l.take k) ^^^ (l.getD k 0).toNat) = K.run (K.top - s) (l.take (k + 1)) by rw [L.take_snoc l k hlt, K.run_snoc])
      have hlt1 := K.run_lt (l.take k) (hl.take k) (c := K.top - s) (by unfold K.top; omega)
      generalize l.getD k 0 = z at *
      generalize K.run (K.top - s) (l.take k) = r at *
      obtain ⟨b, rfl⟩ := Int.eq_ofNat_of_zero_le hz.1
      rw [Int.toNat_natCast] at hst
      have hb : b < 256 := by omega
      clear hc hz
      go_wp2
      go_loop [8, 5, 7] (fun vi vs vx => ∃ (i c x : Nat), i ≤ 8 ∧ vi = .int .i64 i ∧ vs = .int .u32 c ∧ vx = .int .u8 x ∧ c < 4294967296 ∧ x = b / 2 ^ i ∧ c ^^^ x = K.clkN i (r ^^^ b)) (fun vi _ _ => 8 - (intOf vi).toNat)
      case atStart => exact ⟨0, r, b, by omega, rfl, rfl, rfl, hlt1, by simp, rfl⟩
      case round =>
        obtain ⟨i, d, x, hi, rfl, rfl, rfl, hd, hx, hxc⟩ := hrel
        by_cases hi8 : i < 8
        · have hx2 := hide (show x / 2 = b / 2 ^ (i + 1) by rw [hx, Nat.div_div_eq_div_mul, Nat.pow_succ])
          have hx256 : x < 256 := by rw [hx]; exact Nat.lt_of_le_of_lt (Nat.div_le_self _ _) hb
          have hn := hide (K.clkN_succ i (r ^^^ b))
          have HXC := hide hxc
          have HDT := hide (show d / 2 < 4294967296 by omega)
          clear hx hxc
          by_cases hp : d % 2 = x % 2
          · have hq := hide (K.bit_like hp)
            have hbo : ((d : Int) % 2 != (x : Int) % 2) = false := by rw [bne_eq_false_iff_eq]; omega
            have hie : (d : Int) % 2 = (x : Int) % 2 := by omega
            go_wp2
            go_round
            case rel => exact ⟨i + 1, d / 2, x / 2, by omega, by go_num, by go_num, by go_num, HDT.out, hx2.out, by rw [hq.out, HXC.out, hn.out]⟩
            case measure => simp [intOf]; omega
          · have hq := hide (K.bit_unlike hp)
            have hbo : ((d : Int) % 2 != (x : Int) % 2) = true := by rw [bne_iff_ne]; omega
            have hie : ¬ (d : Int) % 2 = (x : Int) % 2 := by omega
            have hxr := u32_xor_nat (d / 2) K.P (by omega) (by unfold K.P; omega)
            rw [show ((d / 2 : Nat) : Int) = (d : Int) / 2 by omega, show ((K.P : Nat) : Int) = 3988292384 from rfl] at hxr
            have hxl := hide (K.xor_lt (show d / 2 < 4294967296 by omega) (show K.P < 4294967296 by unfold K.P; omega))
            go_wp2
            go_round
            case rel => exact ⟨i + 1, d / 2 ^^^ K.P, x / 2, by omega, by go_num, by first | rfl | rw [hxr], by go_num, hxl.out, hx2.out, by rw [hq.out, HXC.out, hn.out]⟩
            case measure => simp [intOf]; omega
        · obtain rfl : i = 8 := by omega
          have hx0 : x = 0 := by rw [hx]; omega
          subst hx0
          rw [Nat.xor_zero, hst.out] at hxc
          subst hxc
          go_wp2
          go_round
          case rel => exact ⟨k + 1, by omega, by go_num, rfl⟩
          case measure => simp [intOf]; omega
    · obtain rfl : k = l.length := by omega
      rw [List.take_length]
      have hlt1 := K.run_lt l hl (c := K.top - s) (by unfold K.top; omega)
      go_wp2
      go_ret
      exact ⟨ret_int (show (4294967295 : Int) - (K.run (K.top - s) l : Nat) = ((K.top - K.run (K.top - s) l : Nat) : Int) by unfold K.top at *; omega), rfl⟩

theorem rsum_any (A : Option Addr) (c B : Nat) (l : List Int) (w : World) (hr : RdB w B A l) (hl : K.Bytes l) (hn : l.length ≤ 9223372036854775807) :
    Calls Tryd.prog 9 #[.slice A l.length c] w fun e w' => e = .returned (.int .u32 (K.sum l)) ∧ w' = w := by
  have H := hide (show Calls Tryd.prog 11 #[.int .u32 0, .slice A l.length c] w _ from rmore_any 0 A c B l w (by omega) hr hl hn)
  clear hr hl hn
  go_enter Tryd.func9, Tryd.ntmps9
  go_wp2_with fail
  refine H.out.mono ?_; rintro _ _ ⟨rfl, rfl⟩
  go_wp2
  go_ret
  exact ⟨rfl, rfl⟩

theorem tail_int (s : Nat) : ([(s : Int) % 256, (s : Int) / 256 % 256, (s : Int) / 65536 % 256, (s : Int) / 16777216] : List Int) = K.tail s := by
  unfold K.tail
  simp

set_option maxHeartbeats 1000000 in
theorem rframe_any (A : Option Addr) (c : Nat) (l : List Int) (w : World) (hr : RdB w w.heap.size A l) (hl : K.Bytes l) (hn : l.length ≤ 100000) :
    Calls Tryd.prog 15 #[.slice A l.length c] w (GotB (K.frame l) w) := by
  have HS := hide (rsum_any A c w.heap.size l w hr hl (by omega))
  have HF := hide (show K.frame l = l ++ K.tail (K.sum l) from rfl)
  have hsl := K.more_lt' l
  generalize K.frame l = fr at *
  generalize K.sum l = s at *
  have HT := hide (tail_int s)
  have HR := hide hr
  clear hr hl
  go_enter Tryd.func15, Tryd.ntmps15
  go_wp2_with fail
  refine HS.out.mono ?_; rintro _ wr ⟨rfl, rfl⟩
  go_wp2_with (first
    | (at_builtin; refine apnB_arm rfl (.tmp 6) (.tmp 7) _ rfl Tryd.underlying22 wr.heap.size _ [] rfl (ownB_empty wr) wr.heap.size l.length c A l rfl rfl (HR.out.alloc (Nat.le_refl _) _) (by simp; omega) (by simp) ?_; intro v4 w4 ho4 hg4; have hb4 := below_grownB ((Below.refl wr.heap.size wr).alloc (Nat.le_refl _) (.cells #[] 5)) (ownB_empty wr) hg4 (by simp))
    | (at_builtin; refine apnB_arm rfl (.tmp 8) (.tmp 23) _ rfl Tryd.underlying22 wr.heap.size _ ([] ++ l) rfl (ho4.alloc _) (w4.heap.size + 1) 4 4 (some ⟨w4.heap.size, 0, none⟩) [(s : Int) % 256, (s : Int) / 256 % 256, (s : Int) / 65536 % 256, (s : Int) / 16777216] rfl rfl ((UBB.new w4 [(s : Int) % 256, (s : Int) / 256 % 256, (s : Int) / 65536 % 256, (s : Int) / 16777216]).rd0 (by simp)) (by simp; omega) (by have := hb4.size; simp; omega) ?_; intro v5 w5 ho5 hg5))
  go_ret
  refine ⟨v5, rfl, ?_, below_grownB (hb4.alloc hb4.size _) (ho4.alloc _) hg5 (by have := hb4.size; simp; omega)⟩
  rw [HT.out, List.nil_append, ← HF.out] at ho5
  exact ho5
end Go.Proofs.YtmlmmjjnejbceaaDoor
