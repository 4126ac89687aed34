/- Contracts of nat's shifted, shiftBack and guess over this program. -/
import Derived.Test.YthnfdbgejmkaaaaDoorAlive
namespace Go.Proofs.YthnfdbgejmkaaaaDoor
open Go.RowKit

/-- 2 to the s-th. -/
def tw (s : Nat) : Int := (2 : Int) ^ s
theorem tw_nat (s : Nat) : tw s = ((2 ^ s : Nat) : Int) := by unfold tw; rw [Int.natCast_pow]; rfl
theorem tw_bd {s : Nat} (h : s < 32) : 1 ≤ tw s ∧ tw s ≤ 2147483648 := by
  rw [tw_nat]
  have h1 : 2 ^ s ≤ 2 ^ 31 := Nat.pow_le_pow_right (by omega) (by omega)
  have h2 : 1 ≤ 2 ^ s := Nat.one_le_pow _ _ (by omega)
  omega
theorem mul_tw {x : Int} {s : Nat} (h : s < 32) (x0 : 0 ≤ x) (x1 : x < 4294967296) : 0 ≤ x * tw s ∧ x * tw s ≤ 4294967295 * tw s := by
  have b := tw_bd h
  exact ⟨Int.mul_nonneg x0 (by omega), Int.mul_le_mul_of_nonneg_right (by omega) (by omega)⟩
theorem or_low {cc x : Int} {s : Nat} (h : s < 32) (c0 : 0 ≤ cc) (c1 : cc < tw s) (x0 : 0 ≤ x) (x1 : x < 4294967296) : bits BinOp.or IntKind.u64 cc (IntKind.u64.wrap (x * 2 ^ s)) = cc + x * tw s := by
  have b := tw_bd h
  have m := mul_tw h x0 x1
  have e : x * 2 ^ s = x * tw s := rfl
  rw [e, IntWalk.u64_in _ (by omega), u64_or _ _ (by omega) (by omega) (by omega) (by omega), Nat.or_comm]
  obtain ⟨n, rfl⟩ := Int.eq_ofNat_of_zero_le x0
  have hn : ((n : Int) * tw s).toNat = n * 2 ^ s := by rw [tw_nat, ← Int.natCast_mul]; rfl
  rw [hn, nat_join s _ _ (Nat.mul_mod_left _ _) (by rw [tw_nat] at c1; omega)]
  rw [tw_nat, Int.natCast_add, Int.natCast_mul]; omega
theorem shift_step {xs ps : List Int} {k : Nat} {c z x D : Int} (h : k < ps.length) (hv : M.val (ps.take k) + M.pw k * c = M.val (xs.take k) * D) (hx : xs.getD k 0 = x) (hz : z = c + x * D) :
    M.val ((ps.set k (z % 4294967296)).take (k + 1)) + M.pw (k + 1) * (z / 4294967296) = M.val (xs.take (k + 1)) * D := by
  rw [M.set_take ps k _ h, M.val_snoc, M.val_take_succ xs, hx, List.length_take, Nat.min_eq_left (by omega), M.pw_succ]
  have := Int.emod_add_mul_ediv z 4294967296
  generalize z % 4294967296 = r at *
  generalize z / 4294967296 = q at *
  generalize M.pw k = P at *
  grind

set_option maxHeartbeats 1000000 in
set_option maxRecDepth 100000 in
theorem shifted_any (A : Option Addr) (c B s : Nat) (xs : List Int) (w : World) (hr : Rd w B A xs) (hx : M.Lim xs) (hl : xs.length ≤ 32) (hB : B ≤ w.heap.size) (hs : s < 32) :
    Calls Tryd.prog 70 #[.slice A xs.length c, .int .i64 s] w fun e w' => e = .returned (.slice (some ⟨w.heap.size, 0, none⟩) (xs.length + 1) (xs.length + 1)) ∧ ∃ ls, ls.length = xs.length + 1 ∧ M.Lim ls ∧ M.val ls = M.val xs * tw s ∧ UB w' w.heap.size ls ∧ Below w.heap.size w w' := by
  have hs0 : (0 : Int) ≤ (s : Int) := by omega
  have hs1 : (s : Int) < 32 := by omega
  go_enter Tryd.func70, Tryd.ntmps70
  go_wp2_with (at_make; refine mk_arm rfl _ _ _ rfl Tryd.underlying22 (xs.length + 1) _ _ rfl rfl (by omega) (by omega) (by omega) ?_; intro w1 hu1 hb1 hs1)
  go_loopw [6, 15] (fun vc vi wr => ∃ (k : Nat) (cc : Int) (ps : List Int), k ≤ xs.length ∧ vi = .int .i64 k ∧ vc = .int .u64 cc ∧ 0 ≤ cc ∧ cc < tw s ∧ ps.length = xs.length + 1 ∧ M.Lim ps ∧ M.val (ps.take k) + M.pw k * cc = M.val (xs.take k) * tw s ∧ UB wr w.heap.size ps ∧ Below w.heap.size w wr) (fun _ vi _ => xs.length - (intOf vi).toNat)
  case atStart => exact ⟨0, 0, _, Nat.zero_le _, rfl, rfl, by omega, by have := tw_bd hs; omega, by simp, M.Lim.replicate _, by simp [M.val], hu1, hb1⟩
  case round =>
    obtain ⟨k, cc, ps, hk, rfl, rfl, c0, c1, hlen, hlim, hval, hub, hbl⟩ := hrel
    by_cases hlt : k < xs.length
    · obtain ⟨ga, oa, rfl, hga, ha⟩ := (hr.below hbl hB) (by omega)
      have hcell := ha k hlt
      have hpf := hub.frozen k
      have hpc := hub.cell k (by omega)
      have bx := hx.getD k
      generalize hX : xs.getD k 0 = x at *
      have bt := tw_bd hs
      have bm := mul_tw hs bx.1 bx.2
      have hor := or_low hs c0 c1 bx.1 bx.2
      have hrel' : ∀ z wz, z = bits BinOp.or IntKind.u64 cc (IntKind.u64.wrap (x * 2 ^ s)) → wz = wr.setCell ⟨w.heap.size, k, none⟩ (.int .u32 (z % 4294967296)) → ∃ (k' : Nat) (cc' : Int) (ps' : List Int), k' ≤ xs.length ∧ Value.int .i64 ((k : Int) + 1) = .int .i64 k' ∧ Value.int .u64 (z / 4294967296) = .int .u64 cc' ∧ 0 ≤ cc' ∧ cc' < tw s ∧ ps'.length = xs.length + 1 ∧ M.Lim ps' ∧
          M.val (ps'.take k') + M.pw k' * cc' = M.val (xs.take k') * tw s ∧ UB wz w.heap.size ps' ∧ Below w.heap.size w wz := by
        rintro z wz hz rfl
        rw [hor] at hz
        exact ⟨k + 1, z / 4294967296, ps.set k (z % 4294967296), hlt, by go_num, rfl, by omega, by omega, by rw [List.length_set]; exact hlen, hlim.set _ (by omega) (by omega), shift_step (by omega) hval hX hz, hub.set_ _ _, hbl.setCell (Nat.le_refl _) _⟩
      have HR := hide hrel'
      clear ha hr hub hor hrel' bt bm hX hlen hval
      go_wp2
      go_roundw
      case rel => exact HR.out _ _ rfl rfl
      case measure => simp [intOf]; omega
    · obtain rfl : k = xs.length := by omega
      have hpf := hub.frozen xs.length
      have hpc := hub.cell xs.length (by omega)
      have bt := tw_bd hs
      have hfin : ∃ ls, ls.length = xs.length + 1 ∧ M.Lim ls ∧ M.val ls = M.val xs * tw s ∧ UB (wr.setCell ⟨w.heap.size, xs.length, none⟩ (.int .u32 cc)) w.heap.size ls ∧ Below w.heap.size w (wr.setCell ⟨w.heap.size, xs.length, none⟩ (.int .u32 cc)) := by
        refine ⟨ps.set xs.length cc, by rw [List.length_set]; exact hlen, hlim.set _ c0 (by omega), ?_, hub.set_ _ _, hbl.setCell (Nat.le_refl _) _⟩
        have e := M.set_take ps xs.length cc (by omega)
        rw [List.take_of_length_le (by rw [List.length_set]; omega)] at e
        rw [e, M.val_snoc, List.length_take, Nat.min_eq_left (by omega), hval, List.take_length]
      have HF := hide hfin
      have hcc : cc < 4294967296 := by omega
      clear hfin hlen hval hub bt
      go_wp2
      go_ret
      exact ⟨rfl, HF.out⟩

theorem back_or {a x : Int} (_a0 : 0 ≤ a) (x0 : 0 ≤ x) (x1 : x < 4294967296) : bits BinOp.or IntKind.u64 (IntKind.u64.wrap (a * 4294967296)) x = a % 4294967296 * 4294967296 + x := by
  have e : IntKind.u64.wrap (a * 4294967296) = a % 4294967296 * 4294967296 := by rw [IntKind.wrap_u64]; omega
  rw [e]; exact or_shift _ _ (by omega) (by omega) x0 x1
theorem base_tw {s : Nat} (hs : s < 32) : (4294967296 : Int) % tw s = 0 := by
  rw [tw_nat]
  have h : (2 ^ s : Nat) ∣ 4294967296 := ⟨2 ^ (32 - s), by rw [← Nat.pow_add, show s + (32 - s) = 32 by omega]⟩
  exact Int.emod_eq_zero_of_dvd (Int.natCast_dvd_natCast.2 h)
theorem back_div {a x t : Int} {s : Nat} (hs : s < 32) (x0 : 0 ≤ x) (x1 : x < 4294967296) (ht : t = a * 4294967296 + x) :
    t / tw s % 4294967296 = (a % tw s * 4294967296 + x) / tw s ∧ 0 ≤ (a % tw s * 4294967296 + x) / tw s ∧ (a % tw s * 4294967296 + x) / tw s < 4294967296 ∧ (a % tw s * 4294967296 + x) % tw s = x % tw s := by
  have bt := tw_bd hs
  have h1 := Int.emod_add_mul_ediv a (tw s)
  have h2 := Int.emod_lt_of_pos a (show 0 < tw s by omega)
  have h3 := Int.emod_nonneg a (show tw s ≠ 0 by omega)
  have hq : (a % tw s * 4294967296 + x) / tw s < 4294967296 := Int.ediv_lt_of_lt_mul (by omega) (by omega)
  have hq0 : 0 ≤ (a % tw s * 4294967296 + x) / tw s := Int.ediv_nonneg (by omega) (by omega)
  have e : t = (a % tw s * 4294967296 + x) + tw s * (a / tw s * 4294967296) := by
    rw [ht]
    generalize a % tw s = r at *
    generalize a / tw s = q at *
    grind
  refine ⟨?_, hq0, hq, ?_⟩
  · rw [e, Int.add_mul_ediv_left _ _ (by omega)]; omega
  · rw [Int.add_emod, Int.mul_emod, base_tw hs]; simp
theorem back_step {xs ps : List Int} {j : Nat} {a x z D : Int} (h : j < ps.length) (hl : ps.length = xs.length) (hv : M.val (xs.drop (j + 1)) = D * M.val (ps.drop (j + 1)) + a % D) (hx : xs.getD j 0 = x) (hz : z = (a % D * 4294967296 + x) / D) (hm : (a % D * 4294967296 + x) % D = x % D) :
    M.val (xs.drop j) = D * M.val ((ps.set j z).drop j) + x % D := by
  rw [M.val_drop xs j (by omega), M.val_drop (ps.set j z) j (by rw [List.length_set]; exact h), M.set_drop, hv, hx, M.gd_lt (by rw [List.length_set]; exact h)]
  have := Int.emod_add_mul_ediv (a % D * 4294967296 + x) D
  simp only [List.getElem_set_self]
  rw [hm, ← hz] at this
  generalize x % D = r' at *
  generalize a % D = b at *
  grind

set_option maxHeartbeats 1000000 in
set_option maxRecDepth 100000 in
theorem shiftBack_any (g s n cx : Nat) (xs : List Int) (w : World) (hu : UB w g xs) (hx : M.Lim xs) (en : n = xs.length) (hl : xs.length ≤ 1000) (hs : s < 32) :
    Calls Tryd.prog 72 #[.slice (some ⟨g, 0, none⟩) n cx, .int .i64 s] w fun e w' => e = .returned (.tuple #[]) ∧ ∃ ps, ps.length = xs.length ∧ M.Lim ps ∧ M.val ps = M.val xs / tw s ∧ UB w' g ps ∧ w.grownBy w' (some g) := by
  subst en
  have hs0 : (0 : Int) ≤ (s : Int) := by omega
  have hs1 : (s : Int) < 32 := by omega
  go_enter Tryd.func72, Tryd.ntmps72
  go_wp2
  go_loopw [4, 5] (fun va vi wr => ∃ (i t : Int) (k : Nat) (ps : List Int), -1 ≤ i ∧ i + 1 = k ∧ k ≤ xs.length ∧ vi = .int .i64 i ∧ va = .int .u64 t ∧ 0 ≤ t ∧ t ≤ 18446744073709551615 ∧ t % 4294967296 = xs.getD k 0 ∧ ps.length = xs.length ∧ M.Lim ps ∧ ps.take k = xs.take k ∧
    M.val (xs.drop k) = tw s * M.val (ps.drop k) + xs.getD k 0 % tw s ∧ UB wr g ps ∧ w.grownBy wr (some g)) (fun _ vi _ => (intOf vi + 1).toNat)
  case atStart => exact ⟨(xs.length : Int) - 1, 0, xs.length, xs, by omega, by omega, Nat.le_refl _, rfl, rfl, by omega, by omega, by rw [M.gd_ge (Nat.le_refl _)]; rfl, rfl, hx, rfl, by rw [M.gd_ge (Nat.le_refl _)]; simp [M.val], hu, World.grownBy.refl _ _⟩
  case round =>
    obtain ⟨i, t, k, ps, hi, hik, hk, rfl, rfl, t0, t1, ha, hlen, hlim, htake, hval, hub, hgr⟩ := hrel
    by_cases hlt : 0 ≤ i
    · obtain ⟨j, rfl⟩ := Int.eq_ofNat_of_zero_le hlt
      obtain rfl : k = j + 1 := by omega
      have hcell := hub.cell j (by omega)
      have hpf := hub.frozen j
      rw [M.take_getD htake] at hcell
      have bx := hx.getD j
      have ba := hx.getD (j + 1)
      generalize hX : xs.getD j 0 = x at *
      generalize hA : xs.getD (j + 1) 0 = a at *
      have hor := back_or t0 bx.1 bx.2
      rw [ha] at hor
      have hbd := back_div (a := a) (t := a * 4294967296 + x) hs bx.1 bx.2 rfl
      have hrel' : ∀ t' wz, t' = bits BinOp.or IntKind.u64 (IntKind.u64.wrap (t * 4294967296)) x → wz = wr.setCell ⟨g, j, none⟩ (.int .u32 (t' / 2 ^ s % 4294967296)) → ∃ (i' t'' : Int) (k' : Nat) (ps' : List Int), -1 ≤ i' ∧ i' + 1 = k' ∧ k' ≤ xs.length ∧ Value.int .i64 ((j : Int) - 1) = .int .i64 i' ∧ Value.int .u64 t' = .int .u64 t'' ∧ 0 ≤ t'' ∧ t'' ≤ 18446744073709551615 ∧ t'' % 4294967296 = xs.getD k' 0 ∧ ps'.length = xs.length ∧ M.Lim ps' ∧ ps'.take k' = xs.take k' ∧
          M.val (xs.drop k') = tw s * M.val (ps'.drop k') + xs.getD k' 0 % tw s ∧ UB wz g ps' ∧ w.grownBy wz (some g) := by
        rintro t' wz ht' rfl
        rw [hor] at ht'
        have e1 : t' / 2 ^ s % 4294967296 = (a % tw s * 4294967296 + x) / tw s := by rw [ht']; exact hbd.1
        rw [e1]
        refine ⟨(j : Int) - 1, t', j, ps.set j _, by omega, by omega, by omega, rfl, rfl, by omega, by omega, by rw [hX]; omega, by rw [List.length_set]; exact hlen, hlim.set j hbd.2.1 hbd.2.2.1, by rw [M.set_take_le]; exact M.take_less htake,
          by rw [hX]; exact back_step (by omega) hlen hval hX rfl hbd.2.2.2, hub.set_ _ _, only_set hgr _ _⟩
      have HR := hide hrel'
      clear hrel' hor hbd hX hA ha hlen htake hval hub hik hu
      go_wp2
      go_roundw
      case rel => exact HR.out _ _ rfl rfl
      case measure => simp [intOf]
    · obtain rfl : i = -1 := by omega
      obtain rfl : k = 0 := by omega
      rw [List.drop_zero, List.drop_zero] at hval
      have bt := tw_bd hs
      have hdp := div_parts (M.val_nonneg hlim) hval (Int.emod_nonneg _ (by omega)) (Int.emod_lt_of_pos _ (by omega))
      have HD := hide hdp.1
      have HL := hide hlen
      clear hdp hval hlen htake ha hik hu
      go_wp2
      go_end0
      exact ⟨rfl, ps, HL.out, hlim, HD.out.symm, hub, hgr⟩

set_option maxHeartbeats 1000000 in
set_option maxRecDepth 100000 in
theorem guess_any (A : Option Addr) (c B n m : Nat) (ps : List Int) (top : Int) (w : World) (hr : Rd w B A ps) (hp : M.Lim ps) (en : m = ps.length) (hn : ps.length = n + 2) (hl : ps.length ≤ 1000) (t0 : 0 ≤ top) (t1 : top < 4294967296) :
    Calls Tryd.prog 71 #[.slice A m c, .int .u32 top] w fun e w' => ∃ q : Int, e = .returned (.int .u32 q) ∧ 0 ≤ q ∧ q < 4294967296 ∧ ((top ≤ ps.getD (n + 1) 0 ∧ q = 4294967295) ∨ (ps.getD (n + 1) 0 < top ∧ q = (ps.getD (n + 1) 0 * 4294967296 + ps.getD n 0) / top)) ∧ ∃ k, w' = w.drewN k := by
  subst en
  rw [hn]
  obtain ⟨g, o, rfl, _, hc⟩ := hr (by omega)
  have c1 := hc (n + 1) (by omega)
  have c0 := hc n (by omega)
  have b1 := hp.getD (n + 1)
  have b0 := hp.getD n
  generalize ps.getD (n + 1) 0 = y at *
  generalize ps.getD n 0 = x at *
  have hnl : n ≤ 1000 := by omega
  clear hc hr hn hl hp
  by_cases h : top ≤ y
  · go_enter Tryd.func71, Tryd.ntmps71
    go_wp2
    go_ret
    exact ⟨4294967295, rfl, by omega, by omega, .inl ⟨h, rfl⟩, 0, rfl⟩
  · have hq1 : (y * 4294967296 + x) / top < 4294967296 := Int.ediv_lt_of_lt_mul (by omega) (by omega)
    have hq0 : 0 ≤ (y * 4294967296 + x) / top := Int.ediv_nonneg (by omega) (by omega)
    have hw1 : IntKind.i64.wrap ((n : Int) + 1 - 1) = (n : Int) := by rw [show (n : Int) + 1 - 1 = n by omega]; exact IntWalk.i64_in _ (by omega)
    have hn0 : (0 : Int) ≤ (n : Int) := by omega
    have hn1 : (n : Int) < (n : Int) + 2 := by omega
    have DV := hide (fun k : Nat => div32_any y x top (w.drewN k) b1.1 (by omega) b0.1 b0.2 t1)
    go_enter Tryd.func71, Tryd.ntmps71
    go_wp2_with fail
    go_quiet ((go_at_call 62; exact Calls.quiet_of (DV.out _)))
    go_wp2
    go_ret
    exact ⟨_, rfl, hq0, hq1, .inr ⟨by omega, rfl⟩, _, rfl⟩
end Go.Proofs.YthnfdbgejmkaaaaDoor
