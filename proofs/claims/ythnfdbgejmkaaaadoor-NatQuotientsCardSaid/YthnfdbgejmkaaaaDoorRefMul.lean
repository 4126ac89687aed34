/- Contracts of the document's Mul and Div over this program: they answer what nat's do. -/
import Derived.Test.YthnfdbgejmkaaaaDoorRef
import Derived.Test.YthnfdbgejmkaaaaDoorMul
namespace Go.Proofs.YthnfdbgejmkaaaaDoor
open Go.RowKit

set_option maxHeartbeats 1000000 in
set_option maxRecDepth 100000 in
theorem rmul_any (A A' : Option Addr) (ca cb B : Nat) (xs ys : List Int) (w : World) (hra : Rd w B A xs) (hrb : Rd w B A' ys) (hx : M.Lim xs) (hy : M.Lim ys) (hxc : xs.length ≤ ca) (hyc : ys.length ≤ cb) (hca : ca ≤ 9223372036854775807) (hcb : cb ≤ 9223372036854775807) (hB : B ≤ w.heap.size) :
    Calls Tryd.prog 23 #[.slice A xs.length ca, .slice A' ys.length cb] w (Ret2 (mulS xs ys) w) := by
  have C1 := rright_any A ca B xs w hra (by omega)
  have C2 := rright_any A' cb B ys w hrb (by omega)
  by_cases h1 : right xs = true
  · rw [h1] at C1
    by_cases h2 : right ys = true
    · have l1 := right_len h1
      have l2 := right_len h2
      rw [h2] at C2
      have hS : mulS xs ys = fitL (M.val xs * M.val ys).toNat := by unfold mulS; rw [h1, h2]; rfl
      rw [hS]
      have D1 := hide C1
      have D2 := hide C2
      have HX := hide hx
      have HY := hide hy
      clear hS h1 h2 C1 C2 hx hy
      go_enter Tryd.func23, Tryd.ntmps23
      go_wp2_with fail
      refine D1.out.mono ?_; rintro e w' ⟨rfl, rfl⟩
      go_wp2_with fail
      refine D2.out.mono ?_; rintro e w' ⟨rfl, rfl⟩
      go_wp2_with (at_make; refine mk_arm rfl _ _ _ rfl Tryd.underlying23 64 64 64 rfl rfl rfl rfl (by omega) ?_; intro w1 hu1 hb1 hs1)
      have g1 : w.heap.size < w1.heap.size := hs1
      generalize hgg : w.heap.size = g at *
      go_loopw [7] (fun vi wr => ∃ (i : Nat) (ps : List Int), i ≤ xs.length ∧ vi = .int .i64 i ∧ ps.length = 64 ∧ M.Lim ps ∧ M.val ps = M.val (xs.take i) * M.val ys ∧ UB wr g ps ∧ Below g w wr) (fun vi _ => xs.length - (intOf vi).toNat)
      case atStart => exact ⟨0, _, Nat.zero_le _, rfl, by simp, M.Lim.replicate _, by rw [M.val_replicate]; simp [M.val], hu1, hb1⟩
      case round =>
        obtain ⟨i, ps, hi, rfl, hlen, hlim, hval, hub, hbl⟩ := hrel
        obtain ⟨wo, hwo⟩ : ∃ wo : World, wo = wr := ⟨_, rfl⟩
        subst hwo
        have HL := hide hlen
        have HV := hide hval
        clear hlen hval hu1
        by_cases hlt : i < xs.length
        · obtain ⟨ga, oa, rfl, hga, ha⟩ := hra (by omega)
          have hca' := ha i hlt
          have bx := HX.out.getD i
          generalize hX : xs.getD i 0 = x at *
          have EX := hide hX
          clear hX ha
          go_wp2_with fail
          go_loopw [8, 9] (fun vc vj wr => ∃ (j : Nat) (c : Int) (p : List Int), i + j ≤ 64 ∧ vj = .int .i64 j ∧ vc = .int .u64 c ∧ 0 ≤ c ∧ c < 4294967296 ∧ p.length = 64 ∧ M.Lim p ∧ p.drop (i + j) = ps.drop (i + j) ∧
              M.val (p.take (i + j)) + M.pw (i + j) * c = M.val (ps.take (i + j)) + M.pw i * x * M.val (ys.take j) ∧ UB wr g p ∧ Below g w wr) (fun _ vj _ => 64 - (intOf vj).toNat)
          case atStart => exact ⟨0, 0, ps, by omega, rfl, rfl, by omega, by omega, HL.out, hlim, rfl, by simp [M.val], hub, hbl⟩
          case round =>
            obtain ⟨j, c, p, hj, rfl, rfl, hc0, hc1, hlp, hlimp, hdrop, hvp, hubp, hblp⟩ := hrel
            have hlj := HL.out
            by_cases hjt : i + j < 64
            · have hpc := hubp.cell (i + j) (by omega)
              have hpf := hubp.frozen (i + j)
              rw [M.drop_getD hdrop] at hpc
              have bz := hlim.getD (i + j)
              have b_y := HY.out.getD j
              have hcw : wr.cell? ⟨ga, oa + i, none⟩ = some (.int .u32 x) := (hblp.cell (p := ⟨ga, oa + i, none⟩) (by show ga < g; omega)).trans hca'
              have LB := fun n : Nat => limb_any A' cb j B ys (wr.drewN n) ((hrb.below hblp hB).drewN n) HY.out (by omega) (by omega)
              generalize hY : ys.getD j 0 = y at *
              generalize hZ : ps.getD (i + j) 0 = z at *
              have bm := mul_bd bx.1 bx.2 b_y.1 b_y.2
              have hrel' : ∀ cc wz q, cc = z + x * y + c → wz = (wr.setCell ⟨g, i + j, none⟩ (.int .u32 (cc % 4294967296))).drewN q → ∃ (j' : Nat) (c' : Int) (p' : List Int), i + j' ≤ 64 ∧ Value.int .i64 ((j : Int) + 1) = .int .i64 j' ∧ Value.int .u64 (cc / 4294967296) = .int .u64 c' ∧ 0 ≤ c' ∧ c' < 4294967296 ∧ p'.length = 64 ∧ M.Lim p' ∧ p'.drop (i + j') = ps.drop (i + j') ∧
                  M.val (p'.take (i + j')) + M.pw (i + j') * c' = M.val (ps.take (i + j')) + M.pw i * x * M.val (ys.take j') ∧ UB wz g p' ∧ Below g w wz := by
                rintro cc wz q hcc rfl
                exact ⟨j + 1, cc / 4294967296, p.set (i + j) (cc % 4294967296), hjt, by go_num, rfl, by omega, by omega, by rw [List.length_set]; exact hlp, hlimp.set _ (by omega) (by omega), by rw [← Nat.add_assoc, M.set_drop]; exact M.drop_more hdrop,
                  M.mul_step (by omega) hvp hY hZ (by omega), (hubp.set_ _ _).drewN q, below_drewN (hblp.setCell (Nat.le_refl _) _) q⟩
              have HR := hide hrel'
              have HLB := hide LB
              have hi0 : (0 : Int) ≤ (i : Int) := by omega
              have hi1 : (i : Int) < (xs.length : Int) := by omega
              have hij0 : (0 : Int) ≤ (i : Int) + (j : Int) := by omega
              have hij1 : (i : Int) + (j : Int) < 64 := by omega
              have hij2 : ((i : Int) + (j : Int)).toNat = i + j := by omega
              have hw1 : IntKind.i64.wrap ((i : Int) + (j : Int)) = (i : Int) + (j : Int) := IntWalk.i64_in _ (by omega)
              have hw2 : IntKind.u64.wrap (x * y) = x * y := IntWalk.u64_in _ (by omega)
              have hw3 : IntKind.u64.wrap (z + x * y) = z + x * y := IntWalk.u64_in _ (by omega)
              have hw4 : IntKind.u64.wrap (z + x * y + c) = z + x * y + c := IntWalk.u64_in _ (by omega)
              have HW1 := hide hij2
              have HW2 := hide hw1
              clear hrel' hY hZ hlp hdrop hvp hra hrb hubp hub LB hlj hij2 hw1
              go_wp2_with fail
              have hw1 := HW2.out
              have hij2 := HW1.out
              go_quiet ((go_at_call 38; exact quiet_one (HLB.out _)))
              clear hw1 hij2 hw2 hw3 hw4
              go_wp2
              go_roundw
              case rel => exact HR.out _ _ _ rfl rfl
              case measure => simp [intOf]; omega
            · obtain rfl : j = 64 - i := by omega
              have hij : i + (64 - i) = 64 := by omega
              rw [hij, List.take_of_length_le (by omega), List.take_of_length_le (by omega), List.take_of_length_le (by omega), HV.out] at hvp
              have hnew : M.val p = M.val (xs.take (i + 1)) * M.val ys := by
                have e : M.val (xs.take (i + 1)) * M.val ys = M.val (xs.take i) * M.val ys + M.pw i * x * M.val ys := by
                  rw [M.val_take_succ, EX.out]; grind
                have b1 := (val_take_bd HX.out (i + 1)).2
                have b2 := M.val_lt HY.out
                have b3 := M.pw_mono (show i + 1 ≤ 32 by omega)
                have b4 := M.pw_mono l2
                have b5 := M.val_nonneg HY.out
                have b6 := (val_take_bd HX.out (i + 1)).1
                have b7 := M.val_nonneg hlimp
                have b8 : M.val (xs.take (i + 1)) * M.val ys ≤ M.pw 32 * M.val ys := Int.mul_le_mul_of_nonneg_right (by omega) b5
                have b9 : M.pw 32 * M.val ys < M.pw 32 * M.pw 32 := Int.mul_lt_mul_of_pos_left (by omega) (M.pw_pos 32)
                have b10 : M.pw 64 = M.pw 32 * M.pw 32 := M.pw_add 32 32
                have b11 := M.pw_pos 64
                rcases (by omega : c = 0 ∨ 1 ≤ c) with h | h
                · subst h; omega
                · have := Int.mul_le_mul_of_nonneg_left h (show 0 ≤ M.pw 64 by omega); omega
              have HN := hide hnew
              have HP := hide hlp
              clear hnew hvp hlp hdrop hij hra hrb hub hlj
              go_wp2
              go_roundw
              case rel => exact ⟨i + 1, p, hlt, by go_num, HP.out, hlimp, HN.out, hubp, hblp⟩
              case measure => simp [intOf]; omega
        · obtain rfl : i = xs.length := by omega
          have hv := HV.out
          rw [List.take_length] at hv
          have S := small_any (some ⟨g, 0, none⟩) 64 64 wo.heap.size ps w wo (hub.rd0 hub.lt) hlim (by rw [hgg]; exact hbl) (Nat.le_refl _) HL.out.symm (by have := HL.out; omega) (by omega)
          rw [hv] at S
          have HS := hide S
          clear hv hra hrb S
          go_wp2_with fail
          refine HS.out.mono ?_
          rintro e w4 ⟨A4, c4, rfl, m1, m2, m3, m4⟩
          go_wp2
          go_ret2
          exact ⟨A4, c4, rfl, m1, m2, m3, m4⟩
    · have h2 : right ys = false := by simpa using h2
      have hS : mulS xs ys = ([], 1) := by unfold mulS; rw [h1, h2]; rfl
      rw [hS]
      rw [h2] at C2
      have D1 := hide C1
      have D2 := hide C2
      clear h1 h2 hS C1 C2 hra hrb
      go_enter Tryd.func23, Tryd.ntmps23
      go_wp2_with fail
      refine D1.out.mono ?_; rintro e w' ⟨rfl, rfl⟩
      go_wp2_with fail
      refine D2.out.mono ?_; rintro e w' ⟨rfl, rfl⟩
      go_wp2
      go_ret2
      exact Ret2.bad 1 _ _ (Below.refl _ _)
  · have h1 : right xs = false := by simpa using h1
    have hS : mulS xs ys = ([], 1) := by unfold mulS; rw [h1]; rfl
    rw [hS]
    rw [h1] at C1
    have D1 := hide C1
    clear h1 hS C1 C2 hra hrb
    go_enter Tryd.func23, Tryd.ntmps23
    go_wp2_with fail
    refine D1.out.mono ?_; rintro e w' ⟨rfl, rfl⟩
    go_wp2
    go_ret2
    exact Ret2.bad 1 _ _ (Below.refl _ _)
end Go.Proofs.YthnfdbgejmkaaaaDoor
