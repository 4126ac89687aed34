/- Contracts of the document's own answers for sets over this program. -/
import Derived.Test.YtmpgccmggapigaaDoorSetLow
namespace Go.Proofs.YtmpgccmggapigaaDoor
open Go.RowKit

theorem pow_step {k : Nat} (hk : k < 31) : (2 : Int) * ((2 ^ k : Nat) : Int) = ((2 ^ (k + 1) : Nat) : Int) ∧ ((2 ^ k : Nat) : Int) ≤ 1073741824 := by
  have hp : 2 ^ k ≤ 2 ^ 30 := Nat.pow_le_pow_right (by decide) (by omega)
  rw [Nat.pow_succ]
  generalize 2 ^ k = a at *
  omega

theorem rbit_any (n : Int) (w : World) (hn : n ≤ 9223372036854775807) :
    Calls Tryd.prog 21 #[.int .i64 n] w fun e w' => e = .returned (.int .u32 (S.bit n)) ∧ ∃ q, w' = w.drewN q := by
  by_cases h1 : n < 0
  · have e := hide (S.bit_neg h1)
    go_enter Tryd.func21, Tryd.ntmps21
    go_wp2
    go_ret
    rw [e.out]; exact ⟨rfl, 0, rfl⟩
  · by_cases h2 : 31 < n
    · have e := hide (S.bit_big h2)
      go_enter Tryd.func21, Tryd.ntmps21
      go_wp2
      go_ret
      rw [e.out]; exact ⟨rfl, 0, rfl⟩
    · have h3 : 0 ≤ n := by omega
      have h4 : n ≤ 31 := by omega
      obtain ⟨m, rfl⟩ := Int.eq_ofNat_of_zero_le h3
      have hm : m ≤ 31 := by omega
      have e := hide (S.bit_nat hm)
      clear hn
      go_enter Tryd.func21, Tryd.ntmps21
      go_wp2
      go_loop [4, 3] (fun vi vx => ∃ k : Nat, k ≤ m ∧ vi = .int .i64 k ∧ vx = .int .u32 ((2 ^ k : Nat) : Int)) (fun vi _ => m - (intOf vi).toNat)
      case atStart => exact ⟨0, by omega, rfl, rfl⟩
      case round =>
        obtain ⟨k, hk, rfl, rfl⟩ := hrel
        by_cases hlt : k < m
        · have hp := pow_step (k := k) (by omega)
          have HP := hide hp.1
          have hq := hp.2
          have hq0 : (0 : Int) ≤ ((2 ^ k : Nat) : Int) := Int.natCast_nonneg _
          clear hp
          generalize ((2 ^ k : Nat) : Int) = a at *
          go_wp2
          go_round
          case rel => exact ⟨k + 1, by omega, by go_num, by rw [← HP.out]; go_num⟩
          case measure => simp [intOf]; omega
        · obtain rfl : k = m := by omega
          go_wp2
          go_ret
          rw [e.out]; exact ⟨rfl, 0, rfl⟩

theorem rhas_any (s : Nat) (n : Int) (w : World) (hs : s < 4294967296) (hn : n ≤ 9223372036854775807) :
    Calls Tryd.prog 10 #[.int .u32 s, .int .i64 n] w fun e w' => e = .returned (.bool (S.has s n)) ∧ ∃ q, w' = w.drewN q := by
  have e := hide (u32_and_nat s (S.bit n) hs (S.bit_lt n))
  have H := hide (rbit_any n w hn)
  go_enter Tryd.func10, Tryd.ntmps10
  go_wp2_with fail
  refine H.out.mono ?_; rintro _ _ ⟨rfl, q, rfl⟩
  go_wp2_with fail
  go_ret
  refine ⟨ret_bool ?_, _, rfl⟩
  rw [e.out, ← S.and_bit]
  generalize s &&& S.bit n = a
  rw [Bool.eq_iff_iff, bne_iff_ne, bne_iff_ne]
  omega

theorem rof_any (A : Option Addr) (c B : Nat) (l : List Int) (w : World) (hr : RdI w B A l) (hn : l.length ≤ 9223372036854775807) (hl : ∀ z ∈ l, z ≤ 9223372036854775807) :
    Calls Tryd.prog 8 #[.slice A l.length c] w fun e w' => e = .returned (.int .u32 (S.of l)) ∧ ∃ n, w' = w.drewN n := by
  go_enter Tryd.func8, Tryd.ntmps8
  go_wp2
  go_loopw [4, 3] (fun vi vs wr => ∃ (k : Nat) (n : Nat), k ≤ l.length ∧ vi = .int .i64 k ∧ vs = .int .u32 (S.of (l.take k)) ∧ wr = w.drewN n) (fun vi _ _ => l.length - (intOf vi).toNat)
  case atStart => exact ⟨0, 0, by omega, rfl, rfl, rfl⟩
  case round =>
    obtain ⟨k, n, hk, rfl, rfl, rfl⟩ := hrel
    by_cases hlt : k < l.length
    · obtain ⟨g, o, rfl, _, hc⟩ := hr (by omega)
      have hcell := hc k hlt
      have hst := hide (show S.of (l.take k) ||| S.bit (l.getD k 0) = S.of (l.take (k + 1)) by rw [L.take_snoc l k hlt, S.of_snoc])
      have e := hide (u32_or_nat (S.of (l.take k)) (S.bit (l.getD k 0)) (S.of_lt _) (S.bit_lt _))
      have hz := hl (l.getD k 0) (by rw [L.gd_lt hlt]; exact List.getElem_mem hlt)
      generalize l.getD k 0 = z at *
      clear hc
      go_wp2_with fail
      refine (rbit_any _ _ hz).mono ?_; rintro _ _ ⟨rfl, q, rfl⟩
      go_wp2_with fail
      go_roundw
      case rel => exact ⟨k + 1, _, by omega, by go_num, by rw [e.out, hst.out], rfl⟩
      case measure => simp [intOf]; omega
    · obtain rfl : k = l.length := by omega
      rw [List.take_length]
      go_wp2
      go_ret
      exact ⟨rfl, _, rfl⟩

theorem rbelow_any (n : Int) (w : World) (hn : n ≤ 9223372036854775807) :
    Calls Tryd.prog 19 #[.int .i64 n] w fun e w' => e = .returned (.int .u32 (S.below n)) ∧ ∃ q, w' = w.drewN q := by
  go_enter Tryd.func19, Tryd.ntmps19
  go_wp2
  go_loopw [4, 3] (fun vi vs wr => ∃ (k : Nat) (q : Nat), k ≤ 32 ∧ (k = 0 ∨ (k : Int) ≤ n) ∧ vi = .int .i64 k ∧ vs = .int .u32 ((2 ^ k - 1 : Nat) : Int) ∧ wr = w.drewN q) (fun vi _ _ => 32 - (intOf vi).toNat)
  case atStart => exact ⟨0, 0, by omega, .inl rfl, rfl, rfl, rfl⟩
  case round =>
    obtain ⟨k, q, hk, hkn, rfl, rfl, rfl⟩ := hrel
    by_cases h1 : (k : Int) < n
    · by_cases h2 : (k : Int) < 32
      · have hst := hide (show (2 ^ k - 1) ||| S.bit k = 2 ^ (k + 1) - 1 by rw [S.bit_nat (by omega)]; exact S.below_step ⟨k, by omega⟩)
        have hp : 2 ^ k ≤ 2 ^ 31 := Nat.pow_le_pow_right (by decide) (by omega)
        have e := hide (u32_or_nat (2 ^ k - 1) (S.bit k) (by omega) (S.bit_lt _))
        generalize hA : 2 ^ k - 1 = a at *
        clear hp
        go_wp2_with fail
        refine (rbit_any _ _ (by omega)).mono ?_; rintro _ _ ⟨rfl, q', rfl⟩
        go_wp2_with fail
        go_roundw
        case rel => exact ⟨k + 1, _, by omega, .inr (by omega), by go_num, by rw [e.out, hst.out], rfl⟩
        case measure => simp [intOf]; omega
      · obtain rfl : k = 32 := by omega
        have e := hide (show S.below n = 2 ^ 32 - 1 by unfold S.below; rw [if_neg (by omega), show min n.toNat 32 = 32 by omega])
        go_wp2
        go_ret
        rw [e.out]; exact ⟨rfl, _, rfl⟩
    · have e := hide (show S.below n = 2 ^ k - 1 by
        unfold S.below; split
        · rename_i h; have : k = 0 := by omega
          subst this; rfl
        · rename_i h; rw [show min n.toNat 32 = k by omega])
      have hkn' := hide hkn
      clear hkn
      generalize 2 ^ k - 1 = a at *
      go_wp2
      go_ret
      rw [e.out]; exact ⟨rfl, _, rfl⟩

set_option maxHeartbeats 400000 in
theorem rmembers_any (s : Nat) (w : World) (hs : s < 4294967296) :
    Calls Tryd.prog 13 #[.int .u32 s] w (GotI (S.mem s) w) := by
  go_enter Tryd.func13, Tryd.ntmps13
  go_wp2
  go_loopw [4, 3] (fun vn vl wr => ∃ k : Nat, k ≤ 32 ∧ vn = .int .i64 k ∧ OwnI wr w.heap.size vl (S.upTo s k) ∧ Below w.heap.size w wr) (fun vn _ _ => 32 - (intOf vn).toNat)
  case atStart => exact ⟨0, by omega, rfl, OwnI.nil _ _, Below.refl _ _⟩
  case round =>
    obtain ⟨k, hk, rfl, ho, hb⟩ := hrel
    have HO := hide ho
    have HB := hide hb
    clear ho hb
    by_cases h2 : (k : Int) < 32
    · have hst := hide (S.upTo_succ s k)
      have hhas := hide (S.has_nat s (show k ≤ 31 by omega))
      have hlen := hide (S.upTo_len s k)
      have CH := hide (rhas_any s k wr hs (by omega))
      cases hbit : s.testBit k with
      | true =>
        have HH := hide (hhas.out.trans hbit)
        have HS := hide hbit
        clear hbit
        go_wp2_with fail
        refine (CH.out).mono ?_; rw [HH.out]; rintro _ _ ⟨rfl, q, rfl⟩
        go_wp2_with (at_builtin; refine apI_arm rfl (.tmp 12) (.tmp 14) _ rfl Tryd.underlying23 w.heap.size _ (S.upTo s k) rfl ((HO.out.drewN q).alloc _) wr.heap.size 1 (k : Int) rfl (World.cell?_alloc_new _ _ _ 0) (by have := hlen.out; omega) (by have := HB.out.size; simp; omega) ?_; intro v' w2 ho2 hg2)
        go_roundw
        case rel =>
          refine ⟨k + 1, by omega, by go_num, ?_, ?_⟩
          · rw [hst.out, if_pos HS.out]; exact ho2
          · exact below_grownI ((below_drewN HB.out q).alloc (by have := HB.out.size; simp; omega) _) ((HO.out.drewN q).alloc _) hg2 (by have := HB.out.size; simp; omega)
        case measure => simp [intOf]; omega
      | false =>
        have HH := hide (hhas.out.trans hbit)
        have HS := hide hbit
        clear hbit
        go_wp2_with fail
        refine (CH.out).mono ?_; rw [HH.out]; rintro _ _ ⟨rfl, q, rfl⟩
        go_wp2_with fail
        go_roundw
        case rel =>
          refine ⟨k + 1, by omega, by go_num, ?_, below_drewN HB.out q⟩
          rw [hst.out, if_neg (by rw [HS.out]; decide)]; exact HO.out.drewN q
        case measure => simp [intOf]; omega
    · obtain rfl : k = 32 := by omega
      go_wp2
      go_ret
      exact ⟨_, rfl, HO.out, HB.out⟩

theorem rcount_any (s : Nat) (w : World) (hs : s < 4294967296) :
    Calls Tryd.prog 15 #[.int .u32 s] w fun e w' => e = .returned (.int .i64 (S.count s)) ∧ Below w.heap.size w w' := by
  have H := hide (rmembers_any s w hs)
  have hl := S.mem_len s
  go_enter Tryd.func15, Tryd.ntmps15
  go_wp2_with fail
  refine H.out.mono ?_; rintro _ w1 ⟨v, rfl, ho, hb⟩
  obtain ⟨A, c, rfl, _, _, hr⟩ := ho.form
  have HR := hide hr
  have HB := hide hb
  clear hr hb ho
  go_wp2
  go_ret
  exact ⟨rfl, HB.out⟩

theorem rleast_any (s : Nat) (w : World) (hs : s < 4294967296) :
    Calls Tryd.prog 17 #[.int .u32 s] w fun e w' => e = .returned (.int .i64 (S.least s)) ∧ Below w.heap.size w w' := by
  have H := hide (rmembers_any s w hs)
  have hl := S.mem_len s
  have hd := hide (show S.least s = (S.mem s).headD (-1) from rfl)
  generalize S.mem s = l at *
  go_enter Tryd.func17, Tryd.ntmps17
  go_wp2_with fail
  refine H.out.mono ?_; rintro _ w1 ⟨v, rfl, ho, hb⟩
  obtain ⟨A, c, rfl, hc1, hc2, hr⟩ := ho.form
  have HB := hide hb
  clear hb ho
  match l, hr, hd, hl, hc1 with
  | [], hr, hd, hl, hc1 =>
    clear hr
    go_wp2
    go_ret
    rw [hd.out]; exact ⟨rfl, HB.out⟩
  | z :: r, hr, hd, hl, hc1 =>
    obtain ⟨g, o, rfl, _, hc⟩ := hr (by simp)
    have hcell := hc 0 (by simp)
    rw [Nat.add_zero] at hcell
    have hcell' : w1.cell? ⟨g, o, none⟩ = some (.int .i64 z) := hcell
    have h0 : (r.length : Int) + 1 ≠ 0 := by omega
    clear hc hr hcell
    simp only [List.length_cons] at hl hc1 ⊢
    generalize r.length = m at *
    go_wp2
    go_ret
    rw [hd.out]; exact ⟨rfl, HB.out⟩

theorem ints_any (A A' : Option Addr) (ca cb : Nat) (xs ys : List Int) (w : World) (hra : RdI w w.heap.size A xs) (hrb : RdI w w.heap.size A' ys) (hxl : xs.length ≤ 9223372036854775807) (hyl : ys.length ≤ 9223372036854775807) :
    Calls Tryd.prog 11 #[.slice A xs.length ca, .slice A' ys.length cb] w fun e w' => e = .returned (.bool (decide (xs = ys))) ∧ ∃ n, w' = w.drewN n := by
  by_cases hl : xs.length = ys.length
  · have HL := hide hl
    rw [← hl]
    have hne : ((xs.length : Int) != (xs.length : Int)) = false := by simp
    clear hl hyl
    go_enter Tryd.func11, Tryd.ntmps11
    go_wp2
    go_loopw [5] (fun vi wr => ∃ (k q : Nat), k ≤ xs.length ∧ vi = .int .i64 k ∧ xs.take k = ys.take k ∧ wr = w.drewN q) (fun vi _ => xs.length - (intOf vi).toNat)
    case atStart => exact ⟨0, 0, Nat.zero_le _, rfl, rfl, rfl⟩
    case round =>
      obtain ⟨k, q, hk, rfl, ht, hwr⟩ := hrel
      have HT := hide ht
      have HW := hide hwr
      by_cases hlt : k < xs.length
      · obtain ⟨ga, oa, rfl, _, ha⟩ := hra (by omega)
        obtain ⟨gb, ob, rfl, _, hb⟩ := hrb (by have := HL.out; omega)
        have ca' : wr.cell? ⟨ga, oa + k, none⟩ = some (.int .i64 (xs.getD k 0)) := by rw [hwr]; exact ha k hlt
        have cb' : wr.cell? ⟨gb, ob + k, none⟩ = some (.int .i64 (ys.getD k 0)) := by rw [hwr]; exact hb k (by have := HL.out; omega)
        have k0 : (0 : Int) ≤ (k : Int) := by omega
        have k1 : (k : Int) < (xs.length : Int) := by omega
        clear ha hb ht hwr hra hrb
        by_cases hxy : xs.getD k 0 = ys.getD k 0
        · have HN : Hid (xs.take (k + 1) = ys.take (k + 1)) := by
            show xs.take (k + 1) = ys.take (k + 1)
            rw [L.take_snoc xs k hlt, L.take_snoc ys k (by have := HL.out; omega), HT.out, hxy]
          rw [← hxy] at cb'
          generalize xs.getD k 0 = x at *
          have hx' : (x != x) = false := by simp
          clear hxy
          go_wp2_with fail
          go_quiet (fail)
          go_wp2
          go_roundw
          case rel => exact ⟨k + 1, _, hlt, by go_num, HN.out, by rw [HW.out]; exact World.drewN_drewN _ _ _⟩
          case measure => simp [intOf]; omega
        · have HN : Hid (decide (xs = ys) = false) := by
            show decide (xs = ys) = false
            rw [decide_eq_false_iff_not]; rintro rfl; exact hxy rfl
          generalize xs.getD k 0 = x at *
          generalize ys.getD k 0 = y at *
          have hx' : (x != y) = true := by simpa using hxy
          clear hxy
          go_wp2_with fail
          go_quiet (fail)
          go_wp2
          go_ret
          exact ⟨ret_bool HN.out.symm, _, by rw [HW.out, World.drewN_drewN]⟩
      · obtain rfl : k = xs.length := by omega
        have HE : Hid (decide (xs = ys) = true) := by
          show decide (xs = ys) = true
          rw [decide_eq_true_iff]
          have h := HT.out
          rwa [List.take_length, HL.out, List.take_length] at h
        clear ht
        subst hwr
        go_wp2
        go_ret
        exact ⟨ret_bool HE.out.symm, _, rfl⟩
  · have HE : Hid (decide (xs = ys) = false) := by
      show decide (xs = ys) = false
      rw [decide_eq_false_iff_not]; rintro rfl; exact hl rfl
    have hne : ((xs.length : Int) != (ys.length : Int)) = true := by simp; omega
    go_enter Tryd.func11, Tryd.ntmps11
    go_wp2
    go_ret
    exact ⟨ret_bool HE.out.symm, 0, rfl⟩
end Go.Proofs.YtmpgccmggapigaaDoor
