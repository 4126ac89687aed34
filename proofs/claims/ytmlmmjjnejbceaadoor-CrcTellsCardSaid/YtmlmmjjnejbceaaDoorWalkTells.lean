/- The walk of the statement that turned frames are none, over this program. -/
import Derived.Test.YtmlmmjjnejbceaaDoorAlive4
namespace Go.Proofs.YtmlmmjjnejbceaaDoor
open Go.RowKit

namespace K
/-- One more bit of the turned ones. -/
theorem turn_more (x s e i : Nat) (h : e / 2 ^ i % 2 = 1) : (x ^^^ 2 ^ s * (e % 2 ^ i)) ^^^ 2 ^ (s + i) = x ^^^ 2 ^ s * (e % 2 ^ (i + 1)) := by
  rw [Nat.xor_assoc]
  congr 1
  have h1 : e % 2 ^ (i + 1) = e % 2 ^ i + 2 ^ i := by rw [Nat.pow_succ, Nat.mod_mul, h, Nat.mul_one]
  have h2 := Nat.two_pow_add_eq_or_of_lt (i := i) (b := e % 2 ^ i) (Nat.mod_lt _ (Nat.two_pow_pos i)) 1
  rw [Nat.mul_one] at h2
  apply Nat.eq_of_testBit_eq; intro j
  rw [h1, Nat.add_comm (e % 2 ^ i), h2, Nat.testBit_xor, Nat.mul_comm (2 ^ s), Nat.mul_comm (2 ^ s), Nat.testBit_mul_two_pow, Nat.testBit_mul_two_pow, Nat.testBit_two_pow, Nat.testBit_or, Nat.testBit_two_pow]
  by_cases hj : s ≤ j
  · by_cases hi : s + i = j
    · have : (e % 2 ^ i).testBit (j - s) = false := by rw [Nat.testBit_mod_two_pow]; simp; omega
      simp [hj, hi, this]
      omega
    · have : ¬ i = j - s := by omega
      simp [hi, this]
  · have : ¬ s + i = j := by omega
    simp [hj, this]
theorem turn_none (e i : Nat) (h : e / 2 ^ i % 2 = 0) : e % 2 ^ (i + 1) = e % 2 ^ i := by rw [Nat.pow_succ, Nat.mod_mul, h, Nat.mul_zero, Nat.add_zero]
end K

theorem crcTells_short (A : Option Addr) (c at' e : Nat) (l : List Int) (w : World) (h2 : ¬ (l.length ≤ 2000 ∧ e ≠ 0)) (hn : l.length ≤ 140737488351232) (ht : Fours w) :
    Calls Tryd.prog 6 #[.slice A l.length c, .int .u16 at', .int .u32 e] w fun e w' => e = .returned (.bool true) ∧ Below w.heap.size w w' := by
  have HA := hide (alive4_any w ht)
  clear ht
  go_enter Tryd.func6, Tryd.ntmps6
  go_wp2_with fail
  refine HA.out.mono ?_; rintro _ w1 ⟨rfl, hb1⟩
  by_cases h3 : (l.length : Int) > 2000
  · go_wp2
    go_ret
    exact ⟨rfl, hb1⟩
  · have h4 : (e : Int) = 0 := by omega
    go_wp2
    go_ret
    exact ⟨rfl, hb1⟩

set_option maxHeartbeats 2000000 in
theorem crcTells_long (A : Option Addr) (c at' e : Nat) (l : List Int) (w : World) (h2 : l.length ≤ 2000) (h0 : e ≠ 0) (he : e < 4294967296) (ha : at' < 65536) (hr : RdB w w.heap.size A l) (hl : K.Bytes l) (ht : Fours w) :
    Calls Tryd.prog 6 #[.slice A l.length c, .int .u16 at', .int .u32 e] w fun e w' => e = .returned (.bool true) ∧ Below w.heap.size w w' := by
  have HA := hide (alive4_any w ht)
  have hfb := hide (K.frame_bytes hl)
  have hfl := K.frame_len l
  have hfv := hide (K.frame_valid l)
  have F1 := hide (fun (w1 : World) (h : Below w.heap.size w w1) => frame_any A c l w1 (hr.up h) hl (by omega) (ht.below h))
  have FO := hide (fun (w1 : World) (h : Below w.heap.size w w1) (A : Option Addr) (c : Nat) (zs : List Int) (hz : K.Bytes zs) (hn : zs.length ≤ 100000) (hc : zs.length ≤ c) (hr : RdB w1 w1.heap.size A zs) (hv : K.valid zs = false) => by
    have q := open_any A c zs w1 hr hz hn hc (ht.below h)
    rw [show K.openS zs = [] by unfold K.openS; rw [hv]; rfl, hv] at q
    exact q)
  generalize K.frame l = fr at *
  have h0' : ((e : Int) == 0) = false := by simpa using h0
  have h0'' : ¬ (e : Int) = 0 := by omega
  clear hr ht hl
  go_enter Tryd.func6, Tryd.ntmps6
  go_wp2_with fail
  refine HA.out.mono ?_; rintro _ w1 ⟨rfl, hb1⟩
  have B1 := hide hb1
  clear hb1
  have h3 : ¬ (l.length : Int) > 2000 := by omega
  go_wp2_with fail
  refine (F1.out _ (B1.out.alloc B1.out.size _)).mono ?_; rintro _ w2 ⟨v2, rfl, ho2, hb2⟩
  obtain ⟨A2, c2, rfl, _, _, hr2⟩ := ho2.form
  have ho1 := (ownB_empty w1).below hb2 (Nat.le_refl _)
  have hb12 : Below w1.heap.size w1 w2 := ((Below.refl w1.heap.size w1).alloc (Nat.le_refl _) _).trans (hb2.mono (by simp))
  go_wp2_with (at_builtin; refine apnB_arm rfl (.tmp 22) (.tmp 24) _ rfl Tryd.underlying22 w1.heap.size _ [] rfl ho1 w2.heap.size (l.length + 4) c2 A2 fr rfl hfl.symm hr2 (by simp; omega) hb12.size ?_; intro v3 w3 ho3 hg3; have hb3 := below_grownB hb12 ho1 hg3 hb12.size; rw [List.nil_append] at ho3; have hv3 := ho3.addr (by omega); obtain ⟨g, c3, hv3, hc3, _, hg1⟩ := hv3; subst hv3)
  obtain ⟨s, hs⟩ : ∃ s : Nat, (at' : Int) % (8 * ((l.length : Int) + 4) - 31) = (s : Int) := ⟨((at' : Int) % (8 * ((l.length : Int) + 4) - 31)).toNat, by
    have := Int.emod_nonneg (at' : Int) (show (8 * ((l.length : Int) + 4) - 31) ≠ 0 by omega); omega⟩
  have hs2 : (s : Int) < 8 * ((l.length : Int) + 4) - 31 := by rw [← hs]; exact Int.emod_lt_of_pos _ (by omega)
  simp only [hs]
  have B3 := hide (B1.out.trans (hb3.mono B1.out.size))
  have O3 := hide ho3
  clear hb3 ho3 hb12 ho1 hg3 hr2 ho2 hb2 hs F1 h0' h0''
  go_loopw [9, 10] (fun vi _ wr => ∃ (i : Nat) (ls : List Int), i ≤ 32 ∧ vi = .int .i64 i ∧ OwnB wr w1.heap.size (.slice (some ⟨g, 0, none⟩) (l.length + 4) c3) ls ∧ ls.length = l.length + 4 ∧ K.Bytes ls ∧ K.num ls = K.num fr ^^^ 2 ^ s * (e % 2 ^ i) ∧ Below w.heap.size w wr) (fun vi _ _ => 32 - (intOf vi).toNat)
  case atStart => exact ⟨0, fr, by omega, rfl, hfl ▸ O3.out, hfl, hfb.out, by simp [Nat.mod_one], B3.out⟩
  case round =>
    obtain ⟨i, ls, hi, rfl, ho, hll, hlb, hnum, hb⟩ := hrel
    have HO := hide ho
    have HB := hide hb
    have HLB := hide hlb
    have HN := hide hnum
    clear ho hb hlb hnum O3 B3
    by_cases h32 : i < 32
    · have hi0 : (0 : Int) ≤ (i : Int) := by omega
      have hi1 : (i : Int) < 32 := by omega
      have hbit : bits .and .u32 ((e : Int) / 2 ^ i) 1 = ((e / 2 ^ i % 2 : Nat) : Int) := by
        have h1 : (e : Int) / 2 ^ i = ((e / 2 ^ i : Nat) : Int) := by simp
        have h2 := u32_and_nat (e / 2 ^ i) 1 (Nat.lt_of_le_of_lt (Nat.div_le_self _ _) he) (by omega)
        rw [Nat.and_one_is_mod] at h2
        rw [h1]; exact h2
      have hk : ∃ k : Nat, (s : Int) + (i : Int) = (k : Int) := ⟨s + i, by omega⟩
      by_cases hb1 : e / 2 ^ i % 2 = 1
      · rw [hb1] at hbit
        have hbit' : (bits .and .u32 ((e : Int) / 2 ^ i) 1 == 1) = true := by rw [hbit]; rfl
        have HMO := hide (K.turn_more (K.num fr) s e i hb1)
        clear hb1
        obtain ⟨k, hk⟩ := hk
        have hkk : k = s + i := by omega
        obtain ⟨q, hq⟩ : ∃ q : Nat, q = k / 8 := ⟨_, rfl⟩
        obtain ⟨r, hr⟩ : ∃ r : Nat, r = k % 8 := ⟨_, rfl⟩
        have hq1 : (k : Int) / 8 = (q : Int) := by omega
        have hr1 : (k : Int) % 8 = (r : Int) := by omega
        have hr2 : (r : Int) < 8 := by omega
        have hr3 : (0 : Int) ≤ (r : Int) := by omega
        have hq2 : (q : Int) < (l.length : Int) + 4 := by omega
        have hq3 : q < ls.length := by omega
        have hcell := HO.out.cellAt hll.symm q hq3
        have hfrz := HO.out.frozenAt hll.symm q
        have hz := HLB.out.getD q
        have HTU := hide (K.num_turn HLB.out k (by omega))
        rw [← hq, ← hr] at HTU
        generalize hzz : ls.getD q 0 = z at *
        obtain ⟨b, rfl⟩ := Int.eq_ofNat_of_zero_le hz.1
        have hb8 : b < 256 := by omega
        have HKK := hide hkk
        have HK := hide hk
        clear hz hq hr hkk hk hzz
        go_wp2_with (simp only [HK.out])
        go_region
        go_wp2
        have hpow : (2 : Int) ^ r % 256 = ((2 ^ r : Nat) : Int) := by
          have h1 : ((2 ^ r : Nat) : Int) = (2 : Int) ^ r := by simp
          have h2 : 2 ^ r ≤ 2 ^ 7 := Nat.pow_le_pow_right (by decide) (by omega)
          rw [← h1]; clear h1; generalize 2 ^ r = P at *; omega
        have hxb : 2 ^ r < 2 ^ 8 := Nat.pow_lt_pow_right (by decide) (by omega)
        have hxx := u8_xor_nat b (2 ^ r) hb8 hxb
        rw [hpow, hxx]
        have hxl : b ^^^ 2 ^ r < 2 ^ 8 := Nat.xor_lt_two_pow hb8 hxb
        go_roundw
        case rel =>
          refine ⟨i + 1, ls.set q ((b ^^^ 2 ^ r : Nat) : Int), by omega, by go_num, (HO.out.stored hll.symm q _).drewN 1, by rw [List.length_set]; exact hll, HLB.out.set q (by omega) (by omega), ?_, below_drewN (HB.out.setCell (by show w.heap.size ≤ g; have := B1.out.size; omega) _) 1⟩
          have ht := HTU.out
          rw [Int.toNat_natCast] at ht
          rw [ht, HN.out, HKK.out, HMO.out]
        case measure => simp [intOf]; omega
      · have hb0 : e / 2 ^ i % 2 = 0 := by omega
        rw [hb0] at hbit
        have hbit' : (bits .and .u32 ((e : Int) / 2 ^ i) 1 == 1) = false := by rw [hbit]; rfl
        have HMO := hide (K.turn_none e i hb0)
        clear hb1 hb0
        go_wp2
        go_roundw
        case rel => exact ⟨i + 1, ls, by omega, by go_num, HO.out, hll, HLB.out, by rw [HN.out, HMO.out], HB.out⟩
        case measure => simp [intOf]; omega
    · obtain rfl : i = 32 := by omega
      have hv : K.valid ls = false := by
        refine K.tells hfb.out HLB.out (by omega) (by omega) hfv.out s e he h0 (by omega) ?_
        rw [HN.out, Nat.mod_eq_of_lt (show e < 2 ^ 32 from he)]
      have hrd : RdB wr wr.heap.size (some ⟨g, 0, none⟩) ls := by
        obtain ⟨A', c', e', _, _, h⟩ := HO.out.form
        injection e' with e1 _ _
        rw [e1]; exact h
      have Q := hide (FO.out wr HB.out (some ⟨g, 0, none⟩) c3 ls HLB.out (by omega) (by omega) hrd hv)
      rw [hll] at Q
      clear FO hrd hv HN HLB hfb hfv
      go_wp2_with fail
      refine Q.out.mono ?_; rintro _ w5 ⟨v5, rfl, ho5, hb5⟩
      obtain ⟨A5, c5, rfl, _, _, _⟩ := ho5.form
      have hB5 := HB.out.trans (hb5.mono HB.out.size)
      go_wp2
      go_ret
      exact ⟨rfl, hB5⟩
theorem crcTells_walk (A : Option Addr) (c at' e : Nat) (l : List Int) (w : World) (ha : at' < 65536) (he : e < 4294967296) (hr : RdB w w.heap.size A l) (hl : K.Bytes l) (hn : l.length ≤ 140737488351232) (ht : Fours w) :
    Calls Tryd.prog 6 #[.slice A l.length c, .int .u16 at', .int .u32 e] w fun e w' => e = .returned (.bool true) ∧ Below w.heap.size w w' := by
  by_cases h2 : l.length ≤ 2000 ∧ e ≠ 0
  · exact crcTells_long A c at' e l w h2.1 h2.2 he ha hr hl ht
  · exact crcTells_short A c at' e l w h2 hn ht
end Go.Proofs.YtmlmmjjnejbceaaDoor
