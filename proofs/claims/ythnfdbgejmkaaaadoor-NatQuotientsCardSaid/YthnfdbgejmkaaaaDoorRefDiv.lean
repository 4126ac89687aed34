/- Contract of the document's Div over this program: it answers what nat's does. -/
import Derived.Test.YthnfdbgejmkaaaaDoorRef
namespace Go.Proofs.YthnfdbgejmkaaaaDoor
open Go.RowKit

set_option maxHeartbeats 1000000 in
set_option maxRecDepth 100000 in
theorem rdiv_any (A : Option Addr) (ca B : Nat) (d : Int) (xs : List Int) (w : World) (hra : Rd w B A xs) (hx : M.Lim xs) (hxc : xs.length ≤ ca) (hca : ca ≤ 9223372036854775807) (hB : B ≤ w.heap.size) (_d0 : 0 ≤ d) (_d1 : d < 4294967296) :
    Calls Tryd.prog 27 #[.slice A xs.length ca, .int .u32 d] w (Ret3 (divS xs d) w) := by
  have C1 := rright_any A ca B xs w hra (by omega)
  by_cases h1 : right xs = true
  · rw [h1] at C1
    by_cases h2 : d = 0
    · subst h2
      have hS : divS xs 0 = ([], 0, 1) := by unfold divS; rw [h1]; rfl
      rw [hS]
      have D1 := hide C1
      clear h1 hS C1 hra
      go_enter Tryd.func27, Tryd.ntmps27
      go_wp2_with fail
      refine D1.out.mono ?_; rintro e w' ⟨rfl, rfl⟩
      go_wp2
      go_ret3
      exact ⟨none, 0, rfl, Nat.le_refl _, by omega, Rd.nil _ _ _, Below.refl _ _⟩
    · have l1 := right_len h1
      have hS : divS xs d = (M.canon (M.val xs / d).toNat, M.val xs % d, 0) := by unfold divS; rw [h1, if_pos (by simpa using h2)]
      rw [hS]
      have hd : (d == 0) = false := by simpa using h2
      have hd2 : (d != 0) = true := by simpa using h2
      have dp : 1 ≤ d := by omega
      have D1 := hide C1
      have HX := hide hx
      clear h1 hS C1 h2 hx
      go_enter Tryd.func27, Tryd.ntmps27
      go_wp2_with fail
      refine D1.out.mono ?_; rintro e w' ⟨rfl, rfl⟩
      go_wp2_with (at_make; refine mk_arm rfl _ _ _ rfl Tryd.underlying23 xs.length _ _ rfl rfl (by omega) (by omega) (by omega) ?_; intro w1 hu1 hb1 hs1)
      have g1 : w.heap.size < w1.heap.size := hs1
      generalize hgg : w.heap.size = g at *
      go_loopw [8, 9] (fun vr vi wr => ∃ (i r : Int) (k : Nat) (xk : List Int), -1 ≤ i ∧ i + 1 = k ∧ k ≤ xs.length ∧ vi = .int .i64 i ∧ vr = .int .u64 r ∧ 0 ≤ r ∧ r < d ∧ xk.length = xs.length ∧ M.Lim xk ∧
        M.val (xs.drop k) = d * M.val (xk.drop k) + r ∧ UB wr g xk ∧ Below g w wr) (fun _ vi _ => (intOf vi + 1).toNat)
      case atStart => exact ⟨(xs.length : Int) - 1, 0, xs.length, _, by omega, by omega, Nat.le_refl _, rfl, rfl, by omega, by omega, by simp, M.Lim.replicate _, by rw [List.drop_of_length_le (Nat.le_refl _), List.drop_of_length_le (by simp)]; simp [M.val], hu1, hb1⟩
      case round =>
        obtain ⟨i, r, k, xk, hi, hik, hk, rfl, rfl, hr0, hr1, hlen, hlim, hval, hub, hbl⟩ := hrel
        by_cases hlt : 0 ≤ i
        · obtain ⟨j, rfl⟩ := Int.eq_ofNat_of_zero_le hlt
          obtain rfl : k = j + 1 := by omega
          obtain ⟨ga, oa, rfl, hga, ha⟩ := (hra.below hbl (by omega)) (by omega)
          have hca' := ha j (by omega)
          have hpc := hub.cell j (by omega)
          have hpf := hub.frozen j
          have bx := HX.out.getD j
          generalize hX : xs.getD j 0 = x at *
          have hq1 : (r * 4294967296 + x) / d < 4294967296 := Int.ediv_lt_of_lt_mul (by omega) (by omega)
          have hq0 : 0 ≤ (r * 4294967296 + x) / d := Int.ediv_nonneg (by omega) (by omega)
          have hm1 : (r * 4294967296 + x) % d < d := Int.emod_lt_of_pos _ (by omega)
          have hm0 : 0 ≤ (r * 4294967296 + x) % d := Int.emod_nonneg _ (by omega)
          have hrel' : ∀ wz, wz = wr.setCell ⟨g, j, none⟩ (.int .u32 ((r * 4294967296 + x) / d)) → ∃ (i' r' : Int) (k' : Nat) (xk' : List Int), -1 ≤ i' ∧ i' + 1 = k' ∧ k' ≤ xs.length ∧ Value.int .i64 ((j : Int) - 1) = .int .i64 i' ∧ Value.int .u64 ((r * 4294967296 + x) % d) = .int .u64 r' ∧ 0 ≤ r' ∧ r' < d ∧
              xk'.length = xs.length ∧ M.Lim xk' ∧ M.val (xs.drop k') = d * M.val (xk'.drop k') + r' ∧ UB wz g xk' ∧ Below g w wz := by
            rintro wz rfl
            refine ⟨(j : Int) - 1, (r * 4294967296 + x) % d, j, xk.set j ((r * 4294967296 + x) / d), by omega, by omega, by omega, rfl, rfl, hm0, hm1, by rw [List.length_set]; exact hlen, hlim.set j hq0 hq1,
              M.div_step (by omega) hlen hval hX rfl, hub.set_ _ _, hbl.setCell (Nat.le_refl _) _⟩
          have HR := hide hrel'
          clear hrel' hX hlen hval hik ha hra hub
          go_wp2
          go_roundw
          case rel => exact HR.out _ rfl
          case measure => simp [intOf]
        · obtain rfl : i = -1 := by omega
          obtain rfl : k = 0 := by omega
          rw [List.drop_zero, List.drop_zero] at hval
          have hdp := div_parts (M.val_nonneg hlim) hval hr0 hr1
          have N := neat_any (some ⟨g, 0, none⟩) xs.length wr.heap.size xk wr (hub.rd0 hub.lt) (by omega) (by omega)
          have hl := M.trim_length_le xk
          have hr : Rd wr wr.heap.size (some ⟨g, 0, none⟩) (M.trim xk) := by rw [M.trim_prefix]; exact (hub.rd0 hub.lt).take _
          rw [hlen, M.trim_eq_canon hlim, ← hdp.1] at N
          rw [M.trim_eq_canon hlim, ← hdp.1, hlen] at hl
          rw [M.trim_eq_canon hlim, ← hdp.1] at hr
          have HN := hide N
          have HV := hide hdp.2
          have HR := hide hr
          clear N hdp hr hval hlen hra hik hub
          go_wp2_with (go_at_call 47; refine HN.out.mono ?_; rintro e w4 ⟨rfl, rfl⟩)
          go_ret3
          exact ⟨_, _, ret_mid HV.out.symm, hl, by omega, HR.out, by rw [hgg]; exact hbl⟩
  · have h1 : right xs = false := by simpa using h1
    have hS : divS xs d = ([], 0, 1) := by unfold divS; rw [h1]; rfl
    rw [hS]
    rw [h1] at C1
    have D1 := hide C1
    clear h1 hS C1 hra
    go_enter Tryd.func27, Tryd.ntmps27
    go_wp2_with fail
    refine D1.out.mono ?_; rintro e w' ⟨rfl, rfl⟩
    go_wp2
    go_ret3
    exact ⟨none, 0, rfl, Nat.le_refl _, by omega, Rd.nil _ _ _, Below.refl _ _⟩
end Go.Proofs.YthnfdbgejmkaaaaDoor
