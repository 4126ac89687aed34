/- Contracts of the highest bit (nat's Bits, and the document's), of Same, and of the document's small and Of, over this program. -/
import Derived.Test.YtbimhacggbgcoaaDiv
import Derived.Test.YtbimhacggbgcoaaShelf
namespace Go.Proofs.Ytbimhacggbgcoaa
open Go.RowKit

def bitsS (xs : List Int) : Int := if right xs && xs.length != 0 then 32 * ((xs.length : Int) - 1) + (Lib.bitLen (xs.getD (xs.length - 1) 0).toNat : Int) else 0

set_option maxHeartbeats 400000 in
set_option maxRecDepth 100000 in
theorem nbits_any (A : Option Addr) (ca B : Nat) (xs : List Int) (w : World) (hra : Rd w B A xs) (hx : M.Lim xs) (hxc : xs.length ≤ ca) (hca : ca ≤ 9223372036854775807) :
    Calls Try.prog 27 #[.slice A xs.length ca] w fun e w' => e = .returned (.int .i64 (bitsS xs)) ∧ ∃ n, w' = w.drewN n := by
  have C1 := nright_any A ca B xs w hra (by omega)
  by_cases h1 : right xs = true
  · rw [h1] at C1
    by_cases h0 : xs.length = 0
    · have hS : Hid (bitsS xs = 0) := by show bitsS xs = 0; unfold bitsS; rw [h0]; simp
      rw [h0] at C1 ⊢
      have D1 := hide C1
      clear h1 C1 hra h0
      go_enter Try.func27, Try.ntmps27
      go_wp2_with fail
      refine D1.out.mono ?_; rintro e w' ⟨rfl, rfl⟩
      go_wp2
      go_ret
      exact ⟨ret_int hS.out.symm, 0, rfl⟩
    · have l1 := right_len h1
      obtain ⟨g, o, rfl, _, hc⟩ := hra h0
      obtain ⟨k, hk⟩ : ∃ k, xs.length = k + 1 := ⟨xs.length - 1, by omega⟩
      have hck := hc k (by omega)
      have bx := hx.getD k
      have hS : Hid (bitsS xs = 32 * (k : Int) + (Lib.bitLen (xs.getD k 0).toNat : Int)) := by
        show bitsS xs = _
        unfold bitsS; rw [h1, hk, if_pos (by simp), Nat.add_sub_cancel]; congr 2; omega
      rw [hk] at C1 l1 ⊢
      have D1 := hide C1
      generalize xs.getD k 0 = x at *
      have hbl : Lib.bitLen x.toNat ≤ 32 := Lib.bitLen_le x.toNat 32 (by omega) (by omega)
      have H0 : ((k : Int) + 1 == 0) = false := by simp; omega
      generalize hbb : (Lib.bitLen x.toNat) = bl at *
      have HBB := hide hbb
      have CL := fun W : World => (Try.bits_Len32 x W bx.1 (by omega)).mono (R' := fun e w' => e = .returned (.int .i64 (bl : Int)) ∧ W = w') (fun e w' hh => ⟨by rw [hh.1, HBB.out], hh.2.symm⟩)
      have DL := hide CL
      clear h1 C1 hc hk h0 hbb hra CL
      go_enter Try.func27, Try.ntmps27
      go_wp2_with fail
      refine D1.out.mono ?_; rintro e w' ⟨rfl, rfl⟩
      go_wp2_with fail
      refine (DL.out _).mono ?_; rintro e w' ⟨rfl, rfl⟩
      go_wp2
      go_ret
      exact ⟨ret_int hS.out.symm, 0, rfl⟩
  · have h1 : right xs = false := by simpa using h1
    have hS : Hid (bitsS xs = 0) := by show bitsS xs = 0; unfold bitsS; rw [h1]; rfl
    rw [h1] at C1
    have D1 := hide C1
    clear h1 C1 hra
    go_enter Try.func27, Try.ntmps27
    go_wp2_with fail
    refine D1.out.mono ?_; rintro e w' ⟨rfl, rfl⟩
    go_wp2
    go_ret
    exact ⟨ret_int hS.out.symm, 0, rfl⟩

theorem bitLen_zero : Lib.bitLen 0 = 0 := by decide

set_option maxHeartbeats 400000 in
set_option maxRecDepth 100000 in
theorem rbits_any (A : Option Addr) (ca B : Nat) (xs : List Int) (w : World) (hra : Rd w B A xs) (hx : M.Lim xs) (hxc : xs.length ≤ ca) (hca : ca ≤ 9223372036854775807) :
    Calls Try.prog 32 #[.slice A xs.length ca] w fun e w' => e = .returned (.int .i64 (bitsS xs)) ∧ w = w' := by
  have C1 := rright_any A ca B xs w hra (by omega)
  by_cases h1 : right xs = true
  · rw [h1] at C1
    by_cases h0 : xs.length = 0
    · have hS : Hid (bitsS xs = 0) := by show bitsS xs = 0; unfold bitsS; rw [h0]; simp
      rw [h0] at C1 ⊢
      have D1 := hide C1
      clear h1 C1 hra h0
      go_enter Try.func32, Try.ntmps32
      go_wp2_with fail
      refine D1.out.mono ?_; rintro e w' ⟨rfl, rfl⟩
      go_wp2
      go_ret
      exact ⟨ret_int hS.out.symm, rfl⟩
    · have l1 := right_len h1
      obtain ⟨g, o, rfl, _, hc⟩ := hra h0
      obtain ⟨k, hk⟩ : ∃ k, xs.length = k + 1 := ⟨xs.length - 1, by omega⟩
      have hck := hc k (by omega)
      have bx := hx.getD k
      have hS : Hid (bitsS xs = 32 * (k : Int) + (Lib.bitLen (xs.getD k 0).toNat : Int)) := by
        show bitsS xs = _
        unfold bitsS; rw [h1, hk, if_pos (by simp), Nat.add_sub_cancel]; congr 2; omega
      rw [hk] at C1 l1 ⊢
      have D1 := hide C1
      generalize xs.getD k 0 = x at *
      have H0 : ((k : Int) + 1 == 0) = false := by simp; omega
      clear h1 C1 hc hk h0 hra
      go_enter Try.func32, Try.ntmps32
      go_wp2_with fail
      refine D1.out.mono ?_; rintro e w' ⟨rfl, rfl⟩
      go_wp2
      go_loop [3, 4] (fun vn vt => ∃ (m t : Int), vn = .int .i64 m ∧ vt = .int .u32 t ∧ 0 ≤ t ∧ t < 4294967296 ∧ 0 ≤ m ∧ m ≤ 32 * (k : Int) + 32 ∧ m + (Lib.bitLen t.toNat : Int) = 32 * (k : Int) + (Lib.bitLen x.toNat : Int)) (fun _ vt => (intOf vt).toNat)
      case atStart => exact ⟨_, x, rfl, rfl, bx.1, bx.2, by omega, by omega, rfl⟩
      case round =>
        obtain ⟨m, t, rfl, rfl, t0, t1, m0, m1, hm⟩ := hrel
        have hle : Lib.bitLen x.toNat ≤ 32 := Lib.bitLen_le x.toNat 32 (by omega) (by omega)
        by_cases ht : 0 < t
        · have hh := Lib.bitLen_half t.toNat (by omega) (by omega)
          have hd : t.toNat / 2 = (t / 2).toNat := by omega
          rw [hd] at hh
          have HN : Hid (m + 1 + (Lib.bitLen (t / 2).toNat : Int) = 32 * (k : Int) + (Lib.bitLen x.toNat : Int)) := by show m + 1 + _ = _; omega
          have hm1 : m + 1 ≤ 32 * (k : Int) + 32 := by omega
          clear hh hd hm
          go_wp2
          go_round
          case rel => exact ⟨m + 1, t / 2, rfl, rfl, by omega, by omega, by omega, hm1, HN.out⟩
          case measure => simp [intOf]; omega
        · obtain rfl : t = 0 := by omega
          have HN : Hid (m = 32 * (k : Int) + (Lib.bitLen x.toNat : Int)) := by
            show m = _
            rw [Int.toNat_zero, bitLen_zero] at hm; omega
          clear hm
          go_wp2
          go_ret
          exact ⟨ret_int (by rw [hS.out, HN.out]), rfl⟩
  · have h1 : right xs = false := by simpa using h1
    have hS : Hid (bitsS xs = 0) := by show bitsS xs = 0; unfold bitsS; rw [h1]; rfl
    rw [h1] at C1
    have D1 := hide C1
    clear h1 C1 hra
    go_enter Try.func32, Try.ntmps32
    go_wp2_with fail
    refine D1.out.mono ?_; rintro e w' ⟨rfl, rfl⟩
    go_wp2
    go_ret
    exact ⟨ret_int hS.out.symm, rfl⟩

set_option maxHeartbeats 400000 in
set_option maxRecDepth 100000 in
theorem same_any (A A' : Option Addr) (ca cb B : Nat) (xs ys : List Int) (w : World) (hra : Rd w B A xs) (hrb : Rd w B A' ys) (hxl : xs.length ≤ 9223372036854775807) (_hyl : ys.length ≤ 9223372036854775807) :
    Calls Try.prog 10 #[.slice A xs.length ca, .slice A' ys.length cb] w fun e w' => e = .returned (.bool (decide (xs = ys))) ∧ ∃ n, w' = w.drewN n := by
  by_cases hl : xs.length = ys.length
  · have HL := hide hl
    rw [← hl]
    have hne : ((xs.length : Int) != (xs.length : Int)) = false := by simp
    clear hl
    go_enter Try.func10, Try.ntmps10
    go_wp2
    go_loopw [5] (fun vi wr => ∃ (k q : Nat), k ≤ xs.length ∧ vi = .int .i64 k ∧ xs.take k = ys.take k ∧ wr = w.drewN q) (fun vi _ => xs.length - (intOf vi).toNat)
    case atStart => exact ⟨0, 0, Nat.zero_le _, rfl, rfl, rfl⟩
    case round =>
      obtain ⟨k, q, hk, rfl, ht, hwr⟩ := hrel
      have HT := hide ht
      have HW := hide hwr
      by_cases hlt : k < xs.length
      · obtain ⟨ga, oa, rfl, _, ha⟩ := hra (by omega)
        obtain ⟨gb, ob, rfl, _, hb⟩ := hrb (by have := HL.out; omega)
        have ca' : wr.cell? ⟨ga, oa + k, none⟩ = some (.int .u32 (xs.getD k 0)) := by rw [hwr]; exact ha k hlt
        have cb' : wr.cell? ⟨gb, ob + k, none⟩ = some (.int .u32 (ys.getD k 0)) := by rw [hwr]; exact hb k (by have := HL.out; omega)
        have k0 : (0 : Int) ≤ (k : Int) := by omega
        have k1 : (k : Int) < (xs.length : Int) := by omega
        clear ha hb ht hwr hra hrb
        by_cases hxy : xs.getD k 0 = ys.getD k 0
        · have HN : Hid (xs.take (k + 1) = ys.take (k + 1)) := by
            show xs.take (k + 1) = ys.take (k + 1)
            rw [M.take_snoc xs k hlt, M.take_snoc ys k (by have := HL.out; omega), HT.out, hxy]
          rw [← hxy] at cb'
          generalize xs.getD k 0 = x at *
          have hx' : (x != x) = false := by simp
          clear hxy
          go_wp2_with fail
          go_quiet (fail)
          go_wp2
          go_roundw
          case rel => exact ⟨k + 1, q + nq, hlt, by go_num, HN.out, by rw [HW.out]; exact World.drewN_drewN _ _ _⟩
          case measure => simp [intOf]; omega
        · have HN : Hid (decide (xs = ys) = false) := by
            show decide (xs = ys) = false
            rw [decide_eq_false_iff_not]; intro e; exact hxy (by rw [e])
          have hx' : (xs.getD k 0 != ys.getD k 0) = true := by rw [bne_iff_ne]; exact hxy
          generalize xs.getD k 0 = x at *
          generalize ys.getD k 0 = y at *
          clear hxy
          go_wp2_with fail
          go_quiet (fail)
          go_wp2
          go_ret
          exact ⟨ret_bool HN.out.symm, _, by rw [HW.out, World.drewN_drewN]⟩
      · have HN : Hid (decide (xs = ys) = true) := by
          show decide (xs = ys) = true
          rw [decide_eq_true_iff]
          have := HL.out
          rwa [List.take_of_length_le (by omega), List.take_of_length_le (by omega)] at ht
        clear ht hra hrb hwr
        go_wp2
        go_ret
        exact ⟨ret_bool HN.out.symm, _, HW.out⟩
  · have HN : Hid (decide (xs = ys) = false) := by
      show decide (xs = ys) = false
      rw [decide_eq_false_iff_not]; intro e; exact hl (by rw [e])
    have hne : ((xs.length : Int) != (ys.length : Int)) = true := by rw [bne_iff_ne]; omega
    generalize xs.length = n at *
    generalize ys.length = m at *
    clear hl hra hrb
    go_enter Try.func10, Try.ntmps10
    go_wp2
    go_ret
    exact ⟨ret_bool HN.out.symm, 0, rfl⟩

set_option maxHeartbeats 400000 in
theorem small_any (A : Option Addr) (n c B : Nat) (zs : List Int) (w w3 : World) (hr : Rd w3 B A zs) (hz : M.Lim zs) (hb : Below w.heap.size w w3) (hB : B ≤ w3.heap.size) (en : n = zs.length) (hl : zs.length ≤ c) (hc : c ≤ 9223372036854775807) :
    Calls Try.prog 38 #[.slice A n c] w3 (Ret2 (fitL (M.val zs).toNat) w) := by
  subst en
  have ht := M.trim_eq_canon hz
  have hrt : Rd w3 w3.heap.size A (M.trim zs) := by rw [M.trim_prefix]; exact (hr.take _).more hB
  have hlt := M.trim_length_le zs
  have hcc := neat_any A c B zs w3 hr hl hc
  by_cases h32 : (M.canon (M.val zs).toNat).length ≤ 32
  · have hf : fitL (M.val zs).toNat = (M.canon (M.val zs).toNat, 0) := by unfold fitL; rw [if_pos h32]
    rw [hf]
    rw [← ht] at h32 ⊢
    have Hr := hide hrt
    clear hf ht hrt hr hz
    generalize M.trim zs = ts at *
    have HC := hide hcc
    clear hcc
    go_enter Try.func38, Try.ntmps38
    go_wp2_with (go_at_call 23; refine HC.out.mono ?_; rintro e w' ⟨rfl, rfl⟩)
    go_ret2
    exact ⟨_, _, rfl, (by show ts.length ≤ c; omega), hc, Hr.out, hb⟩
  · have hf : fitL (M.val zs).toNat = ([], 2) := by unfold fitL; rw [if_neg h32]
    rw [hf]
    rw [← ht] at h32
    clear hf ht hrt hr hz
    generalize M.trim zs = ts at *
    have HC := hide hcc
    clear hcc
    go_enter Try.func38, Try.ntmps38
    go_wp2_with (go_at_call 23; refine HC.out.mono ?_; rintro e w' ⟨rfl, rfl⟩)
    go_ret2
    exact Ret2.bad 2 _ _ hb

set_option maxHeartbeats 400000 in
theorem rof_any (n : Int) (w : World) (_n0 : 0 ≤ n) (_n1 : n ≤ 18446744073709551615) :
    Calls Try.prog 14 #[.int .u64 n] w (Ret1 (M.canon n.toNat) w) := by
  have hv := of_val n _n0 _n1
  have hu := UB.new w [n % 4294967296, n / 4294967296]
  have C := neat_any (some ⟨w.heap.size, 0, none⟩) 2 (w.heap.size + 1) _ _ (hu.rd0 (by omega)) (by simp) (by omega)
  have hl := M.trim_length_le [n % 4294967296, n / 4294967296]
  have hr : Rd (w.alloc (.cells (([n % 4294967296, n / 4294967296] : List Int).map (Value.int .u32)).toArray 34)) (w.heap.size + 1) (some ⟨w.heap.size, 0, none⟩) (M.trim [n % 4294967296, n / 4294967296]) := by rw [M.trim_prefix]; exact (hu.rd0 (by omega)).take _
  rw [M.trim_eq_canon hv.1, hv.2] at C hl hr
  have D := hide C
  have R := hide hr
  clear hv hu C hr
  go_enter Try.func14, Try.ntmps14
  go_wp2_with (go_at_call 23; refine D.out.mono ?_; rintro e w4 ⟨rfl, rfl⟩)
  go_ret
  exact ⟨_, _, rfl, hl, by omega, R.out.more (by simp), (Below.refl _ _).alloc (Nat.le_refl _) _⟩
end Go.Proofs.Ytbimhacggbgcoaa
