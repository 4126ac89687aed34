/- The walk of DrawEven over this program: it answers true, for every bound, and writes nothing that was there. -/
import Derived.Test.YtbimhacggbgcoaaAlive2
import Derived.Test.YtbimhacggbgcoaaDrawL
namespace Go.Proofs.Ytbimhacggbgcoaa
open Go.RowKit

theorem bits600 : ∀ m : Fin 600, m.val + 1 ≤ 2 ^ Lib.bitLen m.val ∧ Lib.bitLen m.val ≤ 10 ∧ (m.val ≠ 0 → 0 < Lib.bitLen m.val) := by decide +kernel
theorem pow_lt {j k n : Nat} (hjk : j ≤ k) (h : 2 ^ j < n) (hn : n ≤ 2 ^ k) : j < k := by
  rcases Nat.lt_or_ge j k with h' | h'
  · exact h'
  · obtain rfl : j = k := by omega
    omega
theorem pow_1024 {j : Nat} (h : j ≤ 10) : 1 ≤ 2 ^ j ∧ 2 ^ j ≤ 1024 :=
  ⟨Nat.pow_pos (by omega), Nat.pow_le_pow_right (by omega) h⟩

set_option maxHeartbeats 4000000 in
set_option maxRecDepth 100000 in
theorem drawEven_walk (x : Int) (w : World) (x0 : 0 ≤ x) (x1 : x < 65536) :
    Calls Try.prog 5 #[.int .u16 x] w fun e w' => e = .returned (.bool true) ∧ Below w.heap.size w w' := by
  have AL := hide (alive2_any w)
  obtain ⟨m, hm⟩ : ∃ m : Nat, (m : Int) = x % 600 := ⟨(x % 600).toNat, by omega⟩
  have hm6 : m < 600 := by omega
  obtain ⟨q1, q2, q3⟩ := bits600 ⟨m, hm6⟩
  have HM := hide hm
  have q1 : m + 1 ≤ 2 ^ Lib.bitLen m := q1
  have q2 : Lib.bitLen m ≤ 10 := q2
  have q3 : m ≠ 0 → 0 < Lib.bitLen m := q3
  have EV := hide (fun (z : Nat) (hz : z < 2 ^ Lib.bitLen m) (h0 : m ≠ 0) => belowS_one (n := m) (z := z) (by omega) rfl (q3 h0) (by omega) hz (by have := pow_1024 q2; omega))
  generalize Lib.bitLen m = k at *
  have Q1 := hide q1
  clear hm q1
  go_enter Try.func5, Try.ntmps5
  go_wp2_with fail
  refine AL.out.mono ?_
  rintro e w1 ⟨rfl, b1⟩
  go_wp2_with fail
  rw [← HM.out]
  clear x0 x1 HM AL
  obtain ⟨n, hn⟩ : ∃ n : Nat, n = m + 1 := ⟨_, rfl⟩
  rw [show (m : Int) + 1 = (n : Int) by omega]
  have OF := hide (fun (z : Nat) (hz : z < 4294967296) (W : World) => by
    have q := rof_any (z : Int) W (by omega) (by omega)
    rw [show ((z : Nat) : Int).toNat = z by omega] at q; exact q)
  have SM := hide (fun (W : World) (X Y : Option Addr) (cx cy : Nat) (xs : List Int) (h : Rd W W.heap.size X xs) (h' : Rd W W.heap.size Y xs) (l : xs.length ≤ 9223372036854775807) => by
    have q := same_up W X Y cx cy xs xs h h' l l
    rw [show decide (xs = xs) = true by simp] at q; exact q)
  have DR := hide (fun (z : Nat) (hz : z < 2 ^ k) (hz2 : z < 4294967296) (h0 : m ≠ 0) (W : World) (A : Option Addr) (c : Nat) (h : Rd W W.heap.size A (M.canon n)) (g1 : (M.canon n).length ≤ c) (g2 : c ≤ 9223372036854775807) => by
    obtain ⟨h1, h3⟩ := lit1 W [(z : Int)]
    have q := below_any A (some ⟨W.heap.size, 0, none⟩) c 1 (M.canon n) [(z : Int)] _ (h.up h3) h1 (M.lim_canon _) (M.Lim.cons (by omega) (by omega) M.Lim.nil) g1 g2 (Nat.le_refl _) (by omega)
    rw [hn, EV.out z hz h0, ← hn] at q
    exact (show Calls Try.prog 8 #[.slice A (M.canon n).length c, .slice (some ⟨W.heap.size, 0, none⟩) 1 1] (W.alloc (.cells #[.int .u32 (z : Int)] 34)) (fun e w' => ∃ X cx, e = .returned (.tuple #[.slice X (if z < n then (M.canon z, (1 : Int), (0 : Int)) else ([], 0, 12)).1.length cx, .int .i64 (if z < n then (M.canon z, (1 : Int), (0 : Int)) else ([], 0, 12)).2.1, .int .i64 (if z < n then (M.canon z, (1 : Int), (0 : Int)) else ([], 0, 12)).2.2]) ∧
      (if z < n then (M.canon z, (1 : Int), (0 : Int)) else ([], 0, 12)).1.length ≤ cx ∧ cx ≤ 9223372036854775807 ∧ Rd w' w'.heap.size X (if z < n then (M.canon z, (1 : Int), (0 : Int)) else ([], 0, 12)).1 ∧ Below W.heap.size W w') from
      q.mono (by rintro e w' ⟨X, cx, he, g1, g2, g3, g4⟩; exact ⟨X, cx, he, g1, g2, g3, h3.trans (g4.mono h3.size)⟩)))
  have hn1 : 1 ≤ n := by omega
  have hn6 : n ≤ 600 := by omega
  have hnk : n ≤ 2 ^ k := by omega
  have HNK := hide hnk
  have hm0 : Hid (n ≠ 1 → m ≠ 0) := fun h => by omega
  clear q1 Q1 q3 EV hnk hn hm6
  go_loop [4] (fun vp => ∃ (j p : Nat), vp = .int .u32 p ∧ j ≤ k ∧ p = 2 ^ j) (fun vp => 2048 - (intOf vp).toNat)
  case atStart => exact ⟨0, 1, rfl, Nat.zero_le _, rfl⟩
  case round =>
    obtain ⟨j, p, rfl, hj, hp⟩ := hrel
    have bp := pow_1024 (j := j) (by omega)
    rw [← hp] at bp
    have HP := hide hp
    clear hp
    by_cases hlt : p < n
    · have hlt' : (p : Int) < (n : Int) := by omega
      have HJ : Hid (j < k) := pow_lt hj (by rw [← HP.out]; exact hlt) HNK.out
      go_wp2
      go_round
      case rel => exact ⟨j + 1, 2 * p, by go_num, HJ.out, by rw [HP.out, Nat.pow_succ]; omega⟩
      case measure => simp [intOf]; omega
    · have hlt' : ¬ (p : Int) < (n : Int) := by omega
      have HPK : Hid (p ≤ 2 ^ k) := by show p ≤ 2 ^ k; rw [HP.out]; exact Nat.pow_le_pow_right (by omega) hj
      by_cases h1 : n = 1
      · have h1' : ((n : Int) == 1) = true := by rw [h1]; rfl
        clear hlt
        go_wp2
        go_ret
        exact ⟨rfl, b1⟩
      · have h1' : ((n : Int) == 1) = false := by simp; omega
        have HM0 := hide (hm0.out h1)
        clear hlt h1
        go_wp2_with fail
        go_loopw [5] (fun vw wr => ∃ z : Nat, vw = .int .u32 z ∧ z ≤ p ∧ Below w.heap.size w wr) (fun vw _ => p - (intOf vw).toNat)
        case atStart => exact ⟨0, rfl, Nat.zero_le _, b1⟩
        case round =>
          obtain ⟨z, rfl, hz, hbl⟩ := hrel
          by_cases hzp : z < p
          · have hzp' : (z : Int) < (p : Int) := by omega
            have O1 := hide (OF.out n (by omega))
            have O2 := hide (OF.out z (by omega))
            have D := hide (DR.out z (by have := HPK.out; omega) (by omega) HM0.out)
            by_cases hzn : z < n
            · have hzn' : (z : Int) < (n : Int) := by omega
              have D := hide (fun (W : World) (A : Option Addr) (c : Nat) (h : Rd W W.heap.size A (M.canon n)) (g1 : (M.canon n).length ≤ c) (g2 : c ≤ 9223372036854775807) => by
                have q := D.out W A c h g1 g2
                rw [if_pos hzn] at q; exact q)
              have HL : Hid ((M.canon z).length ≤ 9223372036854775807) := by have := C.len64 (n := z) (by omega); show _ ≤ _; omega
              go_wp2_with fail
              refine (O1.out wr).mono ?_; rintro e w2 ⟨A2, c2, rfl, m1, m2, m3, b2⟩
              have d2 := hbl.trans (b2.mono hbl.size)
              go_wp2_with fail
              refine (D.out w2 A2 c2 m3 m1 m2).mono ?_; rintro e w3 ⟨X, cx, rfl, n1, n2, n3, b3⟩
              have d3 := d2.trans (b3.mono d2.size)
              have HX := hide n3
              clear n3 m3
              go_wp2_with fail
              refine (O2.out w3).mono ?_; rintro e w4 ⟨Y, cy, rfl, y1, y2, y3, b4⟩
              have d4 := d3.trans (b4.mono d3.size)
              go_wp2_with fail
              refine (SM.out w4 X Y cx cy _ (HX.out.up b4) y3 HL.out).mono ?_; rintro e w5 ⟨rfl, b5⟩
              have d5 := d4.trans (b5.mono d4.size)
              clear b2 b3 b4 b5 y3
              go_wp2
              go_roundw
              case rel => exact ⟨z + 1, by go_num, hzp, d5⟩
              case measure => simp [intOf]; omega
            · have hzn' : ¬ (z : Int) < (n : Int) := by omega
              have hzn'' : (n : Int) ≤ (z : Int) := by omega
              have D := hide (fun (W : World) (A : Option Addr) (c : Nat) (h : Rd W W.heap.size A (M.canon n)) (g1 : (M.canon n).length ≤ c) (g2 : c ≤ 9223372036854775807) => by
                have q := D.out W A c h g1 g2
                rw [if_neg hzn] at q; exact q)
              go_wp2_with fail
              refine (O1.out wr).mono ?_; rintro e w2 ⟨A2, c2, rfl, m1, m2, m3, b2⟩
              have d2 := hbl.trans (b2.mono hbl.size)
              go_wp2_with fail
              refine (D.out w2 A2 c2 m3 m1 m2).mono ?_; rintro e w3 ⟨X, cx, rfl, n1, n2, n3, b3⟩
              have d3 := d2.trans (b3.mono d2.size)
              clear b2 b3 m3 n3
              go_wp2
              go_roundw
              case rel => exact ⟨z + 1, by go_num, hzp, d3⟩
              case measure => simp [intOf]; omega
          · have hzp' : ¬ (z : Int) < (p : Int) := by omega
            go_wp2
            go_ret
            exact ⟨rfl, hbl⟩
end Go.Proofs.Ytbimhacggbgcoaa
