/- Contract of nat's Mul over this program: the product of two numbers. -/
import Derived.Test.YthnfdbgejmkaaaaDoorAdd
namespace Go.Proofs.YthnfdbgejmkaaaaDoor
open Go.RowKit

def mulS (xs ys : List Int) : List Int × Int := if right xs && right ys then fitL (M.val xs * M.val ys).toNat else ([], 1)

set_option maxHeartbeats 1000000 in
set_option maxRecDepth 100000 in
theorem nmul_any (A A' : Option Addr) (ca cb B : Nat) (xs ys : List Int) (w : World) (hra : Rd w B A xs) (hrb : Rd w B A' ys) (hx : M.Lim xs) (hy : M.Lim ys) (hxc : xs.length ≤ ca) (hyc : ys.length ≤ cb) (hca : ca ≤ 9223372036854775807) (hcb : cb ≤ 9223372036854775807) (hB : B ≤ w.heap.size) :
    Calls Tryd.prog 22 #[.slice A xs.length ca, .slice A' ys.length cb] w (Ret2 (mulS xs ys) w) := by
  have C1 := nright_any A ca B xs w hra (by omega)
  have C2 := nright_any A' cb B ys w hrb (by omega)
  by_cases h1 : right xs = true
  · rw [h1] at C1
    by_cases h2 : right ys = true
    · have l1 := right_len h1
      have l2 := right_len h2
      rw [h2] at C2
      have hS : mulS xs ys = fitL (M.val xs * M.val ys).toNat := by unfold mulS; rw [h1, h2]; rfl
      rw [hS]
      have D1 := hide C1
      have D2 := hide C2
      have HX := hide hx
      have HY := hide hy
      clear hS h1 h2 C1 C2 hx hy
      go_enter Tryd.func22, Tryd.ntmps22
      go_wp2_with fail
      refine D1.out.mono ?_; rintro e w' ⟨rfl, rfl⟩
      go_wp2_with fail
      refine D2.out.mono ?_; rintro e w' ⟨rfl, rfl⟩
      go_wp2_with (at_make; refine mk_arm rfl _ _ _ rfl Tryd.underlying23 (xs.length + ys.length) _ _ rfl rfl (by omega) (by omega) (by omega) ?_; intro w1 hu1 hb1 hs1)
      have g1 : w.heap.size < w1.heap.size := hs1
      generalize hgg : w.heap.size = g at *
      go_loopw [28] (fun vi wr => ∃ (i : Nat) (ps : List Int), i ≤ xs.length ∧ vi = .int .i64 i ∧ ps.length = xs.length + ys.length ∧ M.Lim ps ∧ M.val (ps.take (i + ys.length)) = M.val (xs.take i) * M.val ys ∧ UB wr g ps ∧ Below g w wr) (fun vi _ => xs.length - (intOf vi).toNat)
      case atStart => exact ⟨0, _, Nat.zero_le _, rfl, by simp, M.Lim.replicate _, by rw [List.take_replicate, M.val_replicate]; simp [M.val], hu1, hb1⟩
      case round =>
        obtain ⟨i, ps, hi, rfl, hlen, hlim, hval, hub, hbl⟩ := hrel
        obtain ⟨wo, hwo⟩ : ∃ wo : World, wo = wr := ⟨_, rfl⟩
        subst hwo
        have HL := hide hlen
        have HV := hide hval
        clear hlen hval hu1
        by_cases hlt : i < xs.length
        · obtain ⟨ga, oa, rfl, hga, ha⟩ := (hra.below hbl (by omega)) (by omega)
          have hca' := ha i hlt
          have bx := HX.out.getD i
          generalize hX : xs.getD i 0 = x at *
          have EX := hide hX
          clear hX ha
          go_wp2_with fail
          go_loopw [9, 35] (fun vc vj wr => ∃ (j : Nat) (c : Int) (p : List Int), j ≤ ys.length ∧ vj = .int .i64 j ∧ vc = .int .u64 c ∧ 0 ≤ c ∧ c < 4294967296 ∧ p.length = xs.length + ys.length ∧ M.Lim p ∧ p.drop (i + j) = ps.drop (i + j) ∧
              M.val (p.take (i + j)) + M.pw (i + j) * c = M.val (ps.take (i + j)) + M.pw i * x * M.val (ys.take j) ∧ UB wr g p ∧ Below g w wr) (fun _ vj _ => ys.length - (intOf vj).toNat)
          case atStart => exact ⟨0, 0, ps, Nat.zero_le _, rfl, rfl, by omega, by omega, HL.out, hlim, rfl, by simp [M.val], hub, hbl⟩
          case round =>
            obtain ⟨j, c, p, hj, rfl, rfl, hc0, hc1, hlp, hlimp, hdrop, hvp, hubp, hblp⟩ := hrel
            by_cases hjt : j < ys.length
            · obtain ⟨gb, ob, rfl, hgb, hb⟩ := (hrb.below hblp (by omega)) (by omega)
              have hcb' := hb j hjt
              have b_y := HY.out.getD j
              have hpc := hubp.cell (i + j) (by omega)
              have hpf := hubp.frozen (i + j)
              rw [M.drop_getD hdrop] at hpc
              have bz := hlim.getD (i + j)
              generalize hY : ys.getD j 0 = y at *
              generalize hZ : ps.getD (i + j) 0 = z at *
              have bm := mul_bd bx.1 bx.2 b_y.1 b_y.2
              have hij : (i : Int) + (j : Int) < (xs.length : Int) + (ys.length : Int) := by omega
              have EY := hide hY
              have EZ := hide hZ
              have HLP := hide hlp
              have HD := hide hdrop
              have HVP := hide hvp
              have hrel' : ∀ cc wz, cc = c + (x * y + z) → wz = wr.setCell ⟨g, i + j, none⟩ (.int .u32 (cc % 4294967296)) → ∃ (j' : Nat) (c' : Int) (p' : List Int), j' ≤ ys.length ∧ Value.int .i64 ((j : Int) + 1) = .int .i64 j' ∧ Value.int .u64 (cc / 4294967296) = .int .u64 c' ∧ 0 ≤ c' ∧ c' < 4294967296 ∧ p'.length = xs.length + ys.length ∧ M.Lim p' ∧ p'.drop (i + j') = ps.drop (i + j') ∧
                  M.val (p'.take (i + j')) + M.pw (i + j') * c' = M.val (ps.take (i + j')) + M.pw i * x * M.val (ys.take j') ∧ UB wz g p' ∧ Below g w wz := by
                rintro cc wz hcc rfl
                exact ⟨j + 1, cc / 4294967296, p.set (i + j) (cc % 4294967296), hjt, by go_num, rfl, by omega, by omega, by rw [List.length_set]; exact hlp, hlimp.set _ (by omega) (by omega), by rw [← Nat.add_assoc, M.set_drop]; exact M.drop_more hdrop,
                  M.mul_step (by omega) hvp hY hZ hcc, hubp.set_ _ _, hblp.setCell (Nat.le_refl _) _⟩
              have HR := hide hrel'
              clear hrel' hY hZ hlp hdrop hvp hb hrb hra hubp hub
              go_wp2
              go_roundw
              case rel => exact HR.out _ _ rfl rfl
              case measure => simp [intOf]; omega
            · obtain rfl : j = ys.length := by omega
              have hpf := hubp.frozen (i + ys.length)
              have hpc := hubp.cell (i + ys.length) (by omega)
              have hrel' : ∀ wz, wz = wr.setCell ⟨g, i + ys.length, none⟩ (.int .u32 c) → ∃ (i' : Nat) (p' : List Int), i' ≤ xs.length ∧ Value.int .i64 ((i : Int) + 1) = .int .i64 i' ∧ p'.length = xs.length + ys.length ∧ M.Lim p' ∧ M.val (p'.take (i' + ys.length)) = M.val (xs.take i') * M.val ys ∧ UB wz g p' ∧ Below g w wz := by
                rintro wz rfl
                exact ⟨i + 1, p.set (i + ys.length) c, hlt, by go_num, by rw [List.length_set]; exact hlp, hlimp.set _ hc0 hc1, M.mul_row (by omega) rfl hvp HV.out EX.out, hubp.set_ _ _, hblp.setCell (Nat.le_refl _) _⟩
              have HR := hide hrel'
              clear hrel' hlp hdrop hvp hubp hub hrb hra
              go_wp2
              go_roundw
              case rel => exact HR.out _ rfl
              case measure => simp [intOf]; omega
        · obtain rfl : i = xs.length := by omega
          have hv := HV.out
          rw [List.take_length, ← HL.out, List.take_length] at hv
          have HV2 := hide hv
          clear hv hra hrb
          go_wp2_with fail
          have hfit := fit_own g (xs.length + ys.length) (xs.length + ys.length) ps w wo hub hlim (by rw [hgg]; exact hbl) HL.out.symm (by have := HL.out; omega) (by omega)
          rw [HV2.out] at hfit
          refine hfit.mono ?_
          rintro e w4 ⟨A4, c4, rfl, m1, m2, m3, m4⟩
          go_wp2
          go_ret2
          exact ⟨A4, c4, rfl, m1, m2, m3, m4⟩
    · have h2 : right ys = false := by simpa using h2
      have hS : mulS xs ys = ([], 1) := by unfold mulS; rw [h1, h2]; rfl
      rw [hS]
      rw [h2] at C2
      have D1 := hide C1
      have D2 := hide C2
      clear h1 h2 hS C1 C2 hra hrb
      go_enter Tryd.func22, Tryd.ntmps22
      go_wp2_with fail
      refine D1.out.mono ?_; rintro e w' ⟨rfl, rfl⟩
      go_wp2_with fail
      refine D2.out.mono ?_; rintro e w' ⟨rfl, rfl⟩
      go_wp2
      go_ret2
      exact Ret2.bad 1 _ _ (Below.refl _ _)
  · have h1 : right xs = false := by simpa using h1
    have hS : mulS xs ys = ([], 1) := by unfold mulS; rw [h1]; rfl
    rw [hS]
    rw [h1] at C1
    have D1 := hide C1
    clear h1 hS C1 C2 hra hrb
    go_enter Tryd.func22, Tryd.ntmps22
    go_wp2_with fail
    refine D1.out.mono ?_; rintro e w' ⟨rfl, rfl⟩
    go_wp2
    go_ret2
    exact Ret2.bad 1 _ _ (Below.refl _ _)
end Go.Proofs.YthnfdbgejmkaaaaDoor
