/- Contracts of the document's below and less over this program. -/
import Derived.Test.YthnfdbgejmkaaaaDoorKit
namespace Go.Proofs.YthnfdbgejmkaaaaDoor
open Go.RowKit

set_option maxHeartbeats 1000000 in
set_option maxRecDepth 100000 in
theorem below_any (A A' : Option Addr) (ca cb B : Nat) (xs ys : List Int) (w : World) (hra : Rd w B A xs) (hrb : Rd w B A' ys) (hx : M.Lim xs) (hy : M.Lim ys) (l1 : xs.length ≤ 33) (l2 : ys.length ≤ 33) :
    Calls Tryd.prog 56 #[.slice A xs.length ca, .slice A' ys.length cb] w fun e w' => e = .returned (.bool (decide (M.val xs < M.val ys))) ∧ w = w' := by
  have HX := hide hx
  have HY := hide hy
  clear hx hy
  go_enter Tryd.func56, Tryd.ntmps56
  go_wp2_with fail
  go_loop [5] (fun vi => ∃ (i : Int) (k : Nat), -1 ≤ i ∧ i + 1 = k ∧ k ≤ 33 ∧ vi = .int .i64 i ∧ (∀ m, k ≤ m → xs.getD m 0 = ys.getD m 0)) (fun vi => (intOf vi + 1).toNat)
  case atStart => exact ⟨32, 33, by omega, rfl, Nat.le_refl _, rfl, fun m hm => by rw [M.gd_ge (by omega), M.gd_ge (by omega)]⟩
  case round =>
    obtain ⟨i, k, hi, hik, hk, rfl, hd⟩ := hrel
    have HD := hide hd
    clear hd
    by_cases hlt : 0 ≤ i
    · obtain ⟨j, rfl⟩ := Int.eq_ofNat_of_zero_le hlt
      obtain rfl : k = j + 1 := by omega
      have L1 := fun W : World => fun (h : Rd W B A xs) => limb_any A ca j B xs W h HX.out (by omega) (by omega)
      have L2 := fun W : World => fun (h : Rd W B A' ys) => limb_any A' cb j B ys W h HY.out (by omega) (by omega)
      have bx := HX.out.getD j
      have b_y := HY.out.getD j
      generalize hX : xs.getD j 0 = x at *
      generalize hY : ys.getD j 0 = y at *
      have EX := hide hX
      have EY := hide hY
      have M1 := hide L1
      have M2 := hide L2
      have R1 := hide hra
      have R2 := hide hrb
      clear hX hY L1 L2 hra hrb
      by_cases hxy : x = y
      · have HN : Hid (∀ m, j ≤ m → xs.getD m 0 = ys.getD m 0) := fun m hm => by
          by_cases e : m = j
          · rw [e, EX.out, EY.out, hxy]
          · exact HD.out m (by omega)
        have hne : (x != y) = false := by simp [hxy]
        clear hxy
        go_wp2_with fail
        refine (M1.out _ R1.out).mono ?_; rintro e w' ⟨rfl, rfl⟩
        go_wp2_with fail
        refine (M2.out _ R2.out).mono ?_; rintro e w' ⟨rfl, rfl⟩
        go_wp2
        go_round
        case rel => exact ⟨(j : Int) - 1, j, by omega, by omega, by omega, rfl, HN.out⟩
        case measure => simp [intOf]
      · have hne : (x != y) = true := by rw [bne_iff_ne]; exact hxy
        have HN : Hid (decide (x < y) = decide (M.val xs < M.val ys)) := by
          show decide (x < y) = decide (M.val xs < M.val ys)
          by_cases h : x < y
          · rw [decide_eq_true h, decide_eq_true (vals_less HX.out HY.out HD.out EX.out EY.out h)]
          · have := vals_less HY.out HX.out (fun m hm => (HD.out m hm).symm) EY.out EX.out (by omega)
            rw [decide_eq_false h, decide_eq_false (by omega)]
        obtain ⟨b, hb⟩ : ∃ b : Bool, decide (x < y) = b := ⟨_, rfl⟩
        have HB := hide hb
        clear hxy
        go_wp2_with fail
        refine (M1.out _ R1.out).mono ?_; rintro e w' ⟨rfl, rfl⟩
        go_wp2_with fail
        refine (M2.out _ R2.out).mono ?_; rintro e w' ⟨rfl, rfl⟩
        go_wp2_with fail
        refine (M1.out _ R1.out).mono ?_; rintro e w' ⟨rfl, rfl⟩
        go_wp2_with fail
        refine (M2.out _ R2.out).mono ?_; rintro e w' ⟨rfl, rfl⟩
        go_wp2
        go_ret
        exact ⟨ret_bool (by rw [← HN.out]; exact HB.out.symm), rfl⟩
    · obtain rfl : i = -1 := by omega
      obtain rfl : k = 0 := by omega
      have HN : Hid (decide (M.val xs < M.val ys) = false) := by
        show decide (M.val xs < M.val ys) = false
        rw [val_congr (fun m => HD.out m (by omega))]; simp
      clear hra hrb
      go_wp2
      go_ret
      exact ⟨ret_bool HN.out.symm, rfl⟩

set_option maxHeartbeats 1000000 in
set_option maxRecDepth 100000 in
theorem less_any (A A' : Option Addr) (ca cb B : Nat) (xs ys : List Int) (w : World) (hra : Rd w B A xs) (hrb : Rd w B A' ys) (hx : M.Lim xs) (hy : M.Lim ys) (l1 : xs.length ≤ 33) (l2 : ys.length ≤ 33) (hB : B ≤ w.heap.size) (hv : M.val ys ≤ M.val xs) :
    Calls Tryd.prog 57 #[.slice A xs.length ca, .slice A' ys.length cb] w (Ret1 (M.canon (M.val xs - M.val ys).toNat) w) := by
  have HX := hide hx
  have HY := hide hy
  have HVV := hide hv
  clear hx hy hv
  go_enter Tryd.func57, Tryd.ntmps57
  go_wp2_with fail
  go_loopw [5, 6, 7] (fun vo vc vi wr => ∃ (k : Nat) (c : Int) (os : List Int), k ≤ 33 ∧ vi = .int .i64 k ∧ vc = .int .u64 c ∧ 0 ≤ c ∧ c ≤ 1 ∧ OwnU wr w.heap.size vo os ∧ os.length = k ∧ M.Lim os ∧ M.val os = M.val (xs.take k) - M.val (ys.take k) + M.pw k * c ∧ Below w.heap.size w wr) (fun _ _ vi _ => 33 - (intOf vi).toNat)
  case atStart => exact ⟨0, 0, [], by omega, rfl, rfl, by omega, by omega, OwnU.nil _ _, rfl, M.Lim.nil, by simp [M.val], Below.refl _ _⟩
  case round =>
    rename_i vo _
    obtain ⟨k, c, os, hk, rfl, rfl, c0, c1, hown, hlen, hlim, hval, hbl⟩ := hrel
    have HL := hide hlen
    have HV := hide hval
    clear hlen hval
    by_cases hlt : k < 33
    · have L1 := hide (limb_any A ca k B xs wr (hra.below hbl hB) HX.out (by omega) (by omega))
      have L2 := hide (limb_any A' cb k B ys wr (hrb.below hbl hB) HY.out (by omega) (by omega))
      have bx := HX.out.getD k
      have b_y := HY.out.getD k
      generalize hX : xs.getD k 0 = x at *
      generalize hY : ys.getD k 0 = y at *
      have EX := hide hX
      have EY := hide hY
      clear hX hY hra hrb
      go_wp2_with fail
      refine L1.out.mono ?_; rintro e w' ⟨rfl, rfl⟩
      go_wp2_with fail
      refine L2.out.mono ?_; rintro e w' ⟨rfl, rfl⟩
      go_wp2_with (at_builtin; refine ap_arm rfl (.tmp 23) (.tmp 27) _ rfl Tryd.underlying23 w.heap.size _ os rfl (hown.alloc _) wr.heap.size 1 ((4294967296 + x - y - c) % 4294967296) rfl (World.cell?_alloc_new _ _ _ 0) (by have := HL.out; omega) (by have := hbl.size; simp; omega) ?_; intro v' w2 ho2 hg2)
      go_roundw
      case rel =>
        have hlm : M.Lim (os ++ [(4294967296 + x - y - c) % 4294967296]) := hlim.snoc (by omega) (by omega)
        exact ⟨k + 1, 1 - (4294967296 + x - y - c) / 4294967296, os ++ [(4294967296 + x - y - c) % 4294967296], by omega, by go_num, rfl, by omega, by omega, ho2, by rw [List.length_append, HL.out]; rfl, hlm, sub_step' HL.out HV.out EX.out EY.out rfl, below_grown (hbl.alloc hbl.size _) (hown.alloc _) hg2 (by have := hbl.size; simp; omega)⟩
      case measure => simp [intOf]; omega
    · obtain rfl : k = 33 := by omega
      have hv := HV.out
      have hl := HL.out
      rw [List.take_of_length_le (by omega), List.take_of_length_le (by omega)] at hv
      have b0 := HVV.out
      have b1 := M.val_lt hlim
      rw [hl] at b1
      have hv2 : M.val os = M.val xs - M.val ys := by
        rcases (by omega : c = 0 ∨ c = 1) with h | h
        · subst h; omega
        · subst h; omega
      obtain ⟨Ao, co, rfl, ho1, ho2, ho3⟩ := hown.form
      have N := neat_any Ao co wr.heap.size os wr ho3 ho1 (by unfold maxLen at ho2; omega)
      have hle := M.trim_length_le os
      have hr : Rd wr wr.heap.size Ao (M.trim os) := by rw [M.trim_prefix]; exact ho3.take _
      rw [M.trim_eq_canon hlim, hv2] at N hle hr
      have HN := hide N
      have HR := hide hr
      have hcm : co ≤ 9223372036854775807 := by unfold maxLen at ho2; omega
      clear N hr hv hv2 b0 b1 hl hra hrb hown ho3
      go_wp2_with (go_at_call 47; refine HN.out.mono ?_; rintro e w4 ⟨rfl, rfl⟩)
      go_ret
      exact ⟨Ao, co, rfl, by omega, hcm, HR.out, hbl⟩

theorem bit_of (v j : Nat) : (v / 4294967296 ^ (j / 32) % 4294967296) / 2 ^ (j % 32) % 2 = v / 2 ^ j % 2 := by
  have e1 : (4294967296 : Nat) ^ (j / 32) = 2 ^ (32 * (j / 32)) := by rw [Nat.pow_mul]
  rw [e1]
  generalize hy : v / 2 ^ (32 * (j / 32)) = y
  have h1 := Nat.testBit_mod_two_pow y 32 (j % 32)
  have ht : j % 32 < 32 := Nat.mod_lt _ (by omega)
  have e2 : y / 2 ^ (j % 32) = v / 2 ^ j := by
    rw [← hy, Nat.div_div_eq_div_mul, ← Nat.pow_add, Nat.div_add_mod]
  rw [← e2]
  rw [Nat.testBit_eq_decide_div_mod_eq, Nat.testBit_eq_decide_div_mod_eq] at h1
  simp [ht] at h1
  have k1 := Nat.mod_two_eq_zero_or_one (y % 4294967296 / 2 ^ (j % 32))
  have k2 := Nat.mod_two_eq_zero_or_one (y / 2 ^ (j % 32))
  omega
end Go.Proofs.YthnfdbgejmkaaaaDoor
