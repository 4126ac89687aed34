/- Contracts of nat's Cmp and Sub over this program: which number is more, and what is left. -/
import Derived.Test.YtbimhacggbgcoaaAdd
namespace Go.Proofs.Ytbimhacggbgcoaa
open Go.RowKit

theorem quiet_more {P : Program} {f : FuncId} {args : Array Value} {w : World} {a n : Nat} {v : Value} (h : Calls P f args (w.drewN (a + n)) fun e w' => e = .returned v ∧ w.drewN (a + n) = w') :
    Calls P f args (w.drewN (a + n)) fun e w'' => e = .returned v ∧ ∃ m, w'' = w.drewN (a + m) := h.mono fun _ _ ⟨he, hm⟩ => ⟨he, n, hm.symm⟩
theorem quiet_one {P : Program} {f : FuncId} {args : Array Value} {w : World} {n : Nat} {v : Value} (h : Calls P f args (w.drewN n) fun e w' => e = .returned v ∧ w.drewN n = w') :
    Calls P f args (w.drewN n) fun e w'' => e = .returned v ∧ ∃ m, w'' = w.drewN m := h.mono fun _ _ ⟨he, hm⟩ => ⟨he, n, hm.symm⟩

theorem right_low {ys : List Int} (h : right ys = true) (hy : M.Lim ys) (h0 : ys.length ≠ 0) : M.pw (ys.length - 1) ≤ M.val ys := by
  have hl : ys.getD (ys.length - 1) 0 ≠ 0 := by
    unfold right at h; simp at h
    rcases h with h | h
    · exact absurd (by rw [h]; rfl) h0
    · simpa [List.getD] using h.2
  have b := hy.getD (ys.length - 1)
  have e := M.val_take_succ ys (ys.length - 1)
  rw [show ys.length - 1 + 1 = ys.length by omega, List.take_length] at e
  have v := M.val_nonneg (hy.take (ys.length - 1))
  have p := M.pw_pos (ys.length - 1)
  have m : M.pw (ys.length - 1) * 1 ≤ M.pw (ys.length - 1) * ys.getD (ys.length - 1) 0 := Int.mul_le_mul_of_nonneg_left (by omega) (by omega)
  omega
theorem short_less {xs ys : List Int} (hx : M.Lim xs) (hy : M.Lim ys) (h : right ys = true) (hl : xs.length < ys.length) : M.val xs < M.val ys := by
  have h1 := M.val_lt hx
  have h2 := right_low h hy (by omega)
  have h3 := M.pw_mono (show xs.length ≤ ys.length - 1 by omega)
  omega
theorem limb_less {xs ys : List Int} {j : Nat} {x y : Int} (hx : M.Lim xs) (hl : xs.length = ys.length) (hy : M.Lim ys) (hj : j < xs.length) (hd : xs.drop (j + 1) = ys.drop (j + 1)) (ex : xs.getD j 0 = x) (ey : ys.getD j 0 = y) (h : x < y) : M.val xs < M.val ys := by
  have e1 := M.val_take_drop xs (j + 1) (by omega)
  have e2 := M.val_take_drop ys (j + 1) (by omega)
  rw [M.val_take_succ, ex] at e1
  rw [M.val_take_succ, ey] at e2
  rw [hd] at e1
  have b1 := M.val_lt (hx.take j)
  rw [List.length_take, Nat.min_eq_left (by omega)] at b1
  have b2 := M.val_nonneg (hy.take j)
  have m : M.pw j * (x + 1) ≤ M.pw j * y := Int.mul_le_mul_of_nonneg_left (by omega) (by have := M.pw_pos j; omega)
  rw [Int.mul_add, Int.mul_one] at m
  omega

theorem drop_cons (l : List Int) (j : Nat) (h : j < l.length) : l.drop j = l.getD j 0 :: l.drop (j + 1) := by rw [List.drop_eq_getElem_cons h, M.gd_lt h]

def cmpS (xs ys : List Int) : Int := if right xs && right ys then cmpI (M.val xs) (M.val ys) else 0

set_option maxHeartbeats 1000000 in
theorem ncmp_any (A A' : Option Addr) (ca cb B : Nat) (xs ys : List Int) (w : World) (hra : Rd w B A xs) (hrb : Rd w B A' ys) (hx : M.Lim xs) (hy : M.Lim ys) (hxc : xs.length ≤ ca) (hyc : ys.length ≤ cb) (hca : ca ≤ 9223372036854775807) (hcb : cb ≤ 9223372036854775807) :
    Calls Try.prog 18 #[.slice A xs.length ca, .slice A' ys.length cb] w fun e w' => e = .returned (.int .i64 (cmpS xs ys)) ∧ ∃ n, w' = w.drewN n := by
  have C1 := nright_any A ca B xs w hra (by omega)
  have C2 := nright_any A' cb B ys w hrb (by omega)
  by_cases h1 : right xs = true
  · rw [h1] at C1
    by_cases h2 : right ys = true
    · have l1 := right_len h1
      have l2 := right_len h2
      have hS : cmpS xs ys = cmpI (M.val xs) (M.val ys) := by unfold cmpS; rw [h1, h2]; rfl
      rw [hS]
      rw [h2] at C2
      have D1 := hide C1
      have D2 := hide C2
      have HX := hide hx
      have HY := hide hy
      have H1 := hide h1
      have H2 := hide h2
      clear hS C1 C2 hx hy h1 h2
      by_cases hle : xs.length = ys.length
      · have HE := hide hle
        have hne : ((xs.length : Int) != (ys.length : Int)) = false := by simp [hle]
        clear hle
        generalize hyl : ys.length = yl at *
        have HYL := hide hyl
        clear hyl
        go_enter Try.func18, Try.ntmps18
        go_wp2_with fail
        refine D1.out.mono ?_; rintro e w' ⟨rfl, rfl⟩
        go_wp2_with fail
        refine D2.out.mono ?_; rintro e w' ⟨rfl, rfl⟩
        go_wp2_with fail
        go_loopw [5] (fun vi wr => ∃ (i : Int) (k q : Nat), -1 ≤ i ∧ i + 1 = k ∧ k ≤ xs.length ∧ vi = .int .i64 i ∧ xs.drop k = ys.drop k ∧ wr = w.drewN q) (fun vi _ => (intOf vi + 1).toNat)
        case atStart => exact ⟨(xs.length : Int) - 1, xs.length, 0, by omega, by omega, Nat.le_refl _, rfl, by rw [List.drop_of_length_le (by omega), List.drop_of_length_le (by have := HE.out; have := HYL.out; omega)], rfl⟩
        case round =>
          obtain ⟨i, k, q, hi, hik, hk, rfl, hd, hwr⟩ := hrel
          have HD := hide hd
          have HW := hide hwr
          by_cases hlt : 0 ≤ i
          · obtain ⟨j, rfl⟩ := Int.eq_ofNat_of_zero_le hlt
            obtain rfl : k = j + 1 := by omega
            obtain ⟨ga, oa, rfl, _, ha⟩ := hra (by omega)
            obtain ⟨gb, ob, rfl, _, hb⟩ := hrb (by have := HE.out; have := HYL.out; omega)
            have ca := ha j (by omega)
            have cb := hb j (by have := HE.out; have := HYL.out; omega)
            have jy : (j : Int) < (yl : Int) := by have := HE.out; omega
            have jx : (j : Int) < (xs.length : Int) := by omega
            have j0 : (0 : Int) ≤ (j : Int) := by omega
            have ca' : wr.cell? ⟨ga, oa + j, none⟩ = some (.int .u32 (xs.getD j 0)) := by rw [hwr]; exact ca
            have cb' : wr.cell? ⟨gb, ob + j, none⟩ = some (.int .u32 (ys.getD j 0)) := by rw [hwr]; exact cb
            clear ha hb ca cb hd hwr hra hrb hik hi hlt
            generalize hX : xs.getD j 0 = x at *
            generalize hY : ys.getD j 0 = y at *
            have EX := hide hX
            have EY := hide hY
            clear hX hY
            go_wp2_with fail
            by_cases hxy : x = y
            · have hxy' : (x != y) = false := by simp [hxy]
              have HN : Hid (xs.drop j = ys.drop j) := by
                show xs.drop j = ys.drop j
                have := HE.out; have := HYL.out
                rw [drop_cons xs j (by omega), drop_cons ys j (by omega), HD.out, EX.out, EY.out, hxy]
              clear hxy
              go_quiet (fail)
              go_wp2
              go_roundw
              case rel => exact ⟨(j : Int) - 1, j, q + nq, by omega, by omega, by omega, rfl, HN.out, by rw [HW.out]; exact World.drewN_drewN _ _ _⟩
              case measure => simp [intOf]
            · have hxy' : (x != y) = true := by rw [bne_iff_ne]; exact hxy
              have HN : Hid (cmpI x y = cmpI (M.val xs) (M.val ys)) := by
                show cmpI x y = cmpI (M.val xs) (M.val ys)
                have := HE.out; have := HYL.out
                by_cases hlt : x < y
                · rw [cmpI_lt hlt, cmpI_lt (limb_less HX.out (by omega) HY.out (by omega) HD.out EX.out EY.out hlt)]
                · rw [cmpI_gt (by omega : y < x), cmpI_gt (limb_less HY.out (by omega) HX.out (by omega) HD.out.symm EY.out EX.out (by omega))]
              clear hxy
              go_quiet (fail)
              go_wp2_with fail
              go_quiet ((go_at_call 30; exact quiet_more (cmpu_any _ _ _)))
              go_wp2
              go_ret
              exact ⟨ret_int HN.out, _, by rw [HW.out, World.drewN_drewN, World.drewN_drewN]⟩
          · obtain rfl : i = -1 := by omega
            obtain rfl : k = 0 := by omega
            have HN : Hid (cmpI (M.val xs) (M.val ys) = 0) := by
              show cmpI (M.val xs) (M.val ys) = 0
              rw [List.drop_zero, List.drop_zero] at hd
              rw [hd]; exact cmpI_eq
            clear hd hwr hra hrb hik
            go_wp2
            go_ret
            exact ⟨ret_int HN.out.symm, _, HW.out⟩
      · have HN : Hid (cmpI xs.length ys.length = cmpI (M.val xs) (M.val ys)) := by
          show cmpI xs.length ys.length = cmpI (M.val xs) (M.val ys)
          by_cases hlt : xs.length < ys.length
          · rw [cmpI_lt (by omega), cmpI_lt (short_less HX.out HY.out H2.out hlt)]
          · rw [cmpI_gt (by omega), cmpI_gt (short_less HY.out HX.out H1.out (by omega))]
        have hne : ((xs.length : Int) != (ys.length : Int)) = true := by rw [bne_iff_ne]; omega
        clear hra hrb hle
        go_enter Try.func18, Try.ntmps18
        go_wp2_with fail
        refine D1.out.mono ?_; rintro e w' ⟨rfl, rfl⟩
        go_wp2_with fail
        refine D2.out.mono ?_; rintro e w' ⟨rfl, rfl⟩
        go_wp2_with (go_at_call 29; refine (cmpn_any _ _ _).mono ?_; rintro e w' ⟨rfl, rfl⟩)
        go_ret
        exact ⟨ret_int HN.out, 0, rfl⟩
    · have h2 : right ys = false := by simpa using h2
      have hS : cmpS xs ys = 0 := by unfold cmpS; rw [h1, h2]; rfl
      rw [hS]
      rw [h2] at C2
      have D1 := hide C1
      have D2 := hide C2
      clear h1 h2 hS hra hrb C1 C2
      go_enter Try.func18, Try.ntmps18
      go_wp2_with fail
      refine D1.out.mono ?_; rintro e w' ⟨rfl, rfl⟩
      go_wp2_with fail
      refine D2.out.mono ?_; rintro e w' ⟨rfl, rfl⟩
      go_wp2
      go_ret
      exact ⟨rfl, 0, rfl⟩
  · have h1 : right xs = false := by simpa using h1
    have hS : cmpS xs ys = 0 := by unfold cmpS; rw [h1]; rfl
    rw [hS]
    rw [h1] at C1
    have D1 := hide C1
    clear h1 hS C2 hra hrb C1
    go_enter Try.func18, Try.ntmps18
    go_wp2_with fail
    refine D1.out.mono ?_; rintro e w' ⟨rfl, rfl⟩
    go_wp2
    go_ret
    exact ⟨rfl, 0, rfl⟩

def subS (xs ys : List Int) : List Int × Int := if right xs && right ys then (if M.val xs < M.val ys then ([], 11) else (M.canon (M.val xs - M.val ys).toNat, 0)) else ([], 1)

theorem val_le_len {xs ys : List Int} (hx : M.Lim xs) (hy : M.Lim ys) (h : right ys = true) (hv : M.val ys ≤ M.val xs) : ys.length ≤ xs.length := by
  rcases Nat.lt_or_ge xs.length ys.length with hl | hl
  · have := short_less hx hy h hl; omega
  · exact hl

/-- A copy of xs, and ys taken from it. -/
theorem diff_calls (g n ca m cb B : Nat) (A' : Option Addr) (xs ys : List Int) (w w2 : World) (hu : UB w2 g xs) (hr : Rd w B A' ys) (hx : M.Lim xs) (hy : M.Lim ys) (hl : ys.length ≤ xs.length) (hv : M.val ys ≤ M.val xs) (hn : xs.length ≤ 32) (hb : Below w.heap.size w w2) (hB : B ≤ w.heap.size) (hg : w.heap.size ≤ g)
    (en : n = xs.length) (em : m = ys.length) :
    Calls Try.prog 33 #[.slice (some ⟨g, 0, none⟩) n ca, .slice A' m cb, .int .u32 1] w2 fun e w3 => ∃ xs', xs'.length = xs.length ∧ M.Lim xs' ∧ M.val xs' = M.val xs - M.val ys ∧ UB w3 g xs' ∧ Below w.heap.size w w3 ∧ ∃ b, e = .returned (.bool b) := by
  refine (takeFrom_n g 0 n ca m cb 1 A' [] xs [] ys w2 (by simpa using hu) rfl hx ((hr.below hb hB).more (by omega)) hy hl (by omega) (by omega) (by omega) en em).mono ?_
  rintro e w3 ⟨xs', t, rfl, ht, h1, h2, h3, h4, h5⟩
  refine ⟨xs', h1, h2, ?_, by simpa using h4, below_only hb h5 hg hb.size, _, rfl⟩
  have v1 := M.val_lt h2
  rw [h1] at v1
  have v2 := M.val_nonneg h2
  have v3 := M.val_lt hx
  have v4 := M.val_nonneg hy
  rcases (by omega : 0 < t ∨ t ≤ 0) with h0 | h0
  · have := Int.mul_le_mul_of_nonneg_left (show 1 ≤ t by omega) (show 0 ≤ M.pw xs.length by have := M.pw_pos xs.length; omega)
    omega
  · obtain rfl : t = 0 := by omega
    omega

/-- What the shortest limbs of a block of the call's own are. -/
theorem trim_own (g n c : Nat) (zs : List Int) (w w3 : World) (hu : UB w3 g zs) (hz : M.Lim zs) (hb : Below w.heap.size w w3) (en : n = zs.length) (hl : zs.length ≤ c) (hc : c ≤ 9223372036854775807) :
    Calls Try.prog 34 #[.slice (some ⟨g, 0, none⟩) n c] w3 fun e w' => ∃ A' c', e = .returned (.slice A' (M.canon (M.val zs).toNat).length c') ∧ (M.canon (M.val zs).toNat).length ≤ c' ∧ c' ≤ 9223372036854775807 ∧ Rd w3 w3.heap.size A' (M.canon (M.val zs).toNat) ∧ Below w.heap.size w w3 ∧ w3 = w' := by
  subst en
  refine (trimmed_any (some ⟨g, 0, none⟩) c w3.heap.size zs w3 (hu.rd0 hu.lt) (by omega) (by omega)).mono ?_
  rintro e w' ⟨⟨A', c', rfl, h1⟩, rfl⟩
  have hl' := M.trim_length_le zs
  have hr : Rd w3 w3.heap.size (some ⟨g, 0, none⟩) (M.trim zs) := by rw [M.trim_prefix]; exact (hu.rd0 hu.lt).take _
  rw [M.trim_eq_canon hz] at h1 hl' hr
  rcases h1 with ⟨h0, rfl, rfl⟩ | ⟨_, rfl, rfl⟩
  · exact ⟨none, 0, by rw [M.trim_eq_canon hz], by rw [h0]; exact Nat.le_refl _, by omega, by rw [h0]; exact Rd.nil _ _ _, hb, rfl⟩
  · exact ⟨_, _, by rw [M.trim_eq_canon hz], by omega, hc, hr, hb, rfl⟩

set_option maxHeartbeats 1000000 in
set_option maxRecDepth 100000 in
theorem nsub_any (A A' : Option Addr) (ca cb B : Nat) (xs ys : List Int) (w : World) (hra : Rd w B A xs) (hrb : Rd w B A' ys) (hx : M.Lim xs) (hy : M.Lim ys) (hxc : xs.length ≤ ca) (hyc : ys.length ≤ cb) (hca : ca ≤ 9223372036854775807) (hcb : cb ≤ 9223372036854775807) (hB : B ≤ w.heap.size) :
    Calls Try.prog 25 #[.slice A xs.length ca, .slice A' ys.length cb] w (Ret2 (subS xs ys) w) := by
  have C1 := nright_any A ca B xs w hra (by omega)
  have C2 := nright_any A' cb B ys w hrb (by omega)
  have C3 := ncmp_any A A' ca cb B xs ys w hra hrb hx hy hxc hyc hca hcb
  by_cases h1 : right xs = true
  · rw [h1] at C1
    by_cases h2 : right ys = true
    · have l1 := right_len h1
      have l2 := right_len h2
      rw [h2] at C2
      rw [show cmpS xs ys = cmpI (M.val xs) (M.val ys) by unfold cmpS; rw [h1, h2]; rfl] at C3
      by_cases hlt : M.val xs < M.val ys
      · have hS : subS xs ys = ([], 11) := by unfold subS; rw [h1, h2, if_pos hlt]; rfl
        rw [hS]
        rw [cmpI_lt hlt] at C3
        have D1 := hide C1
        have D2 := hide C2
        have D3 := hide C3
        clear hS h1 h2 hlt C1 C2 C3 hra hrb
        go_enter Try.func25, Try.ntmps25
        go_wp2_with fail
        refine D1.out.mono ?_; rintro e w' ⟨rfl, rfl⟩
        go_wp2_with fail
        refine D2.out.mono ?_; rintro e w' ⟨rfl, rfl⟩
        go_wp2_with fail
        refine D3.out.mono ?_; rintro e w' ⟨rfl, q, rfl⟩
        go_wp2
        go_ret2
        exact Ret2.bad 11 _ _ (below_drewN (Below.refl _ _) _)
      · have hS : subS xs ys = (M.canon (M.val xs - M.val ys).toNat, 0) := by unfold subS; rw [h1, h2, if_neg hlt]; rfl
        rw [hS]
        have hcc : 0 ≤ cmpI (M.val xs) (M.val ys) := by unfold cmpI; rw [if_neg hlt]; split <;> omega
        have hll := val_le_len hx hy h2 (by omega)
        generalize cmpI (M.val xs) (M.val ys) = cc at *
        have hv : M.val ys ≤ M.val xs := by omega
        have D1 := hide C1
        have D2 := hide C2
        have D3 := hide C3
        have HX := hide hx
        have HY := hide hy
        have HV := hide hv
        clear hS h1 h2 hlt C1 C2 C3 hx hy hv
        go_enter Try.func25, Try.ntmps25
        go_wp2_with fail
        refine D1.out.mono ?_; rintro e w' ⟨rfl, rfl⟩
        go_wp2_with fail
        refine D2.out.mono ?_; rintro e w' ⟨rfl, rfl⟩
        go_wp2_with fail
        refine D3.out.mono ?_; rintro e w' ⟨rfl, q, hw'⟩
        have hbq : Below w.heap.size w w' := by rw [hw']; exact below_drewN (Below.refl _ _) _
        have hsq : w'.heap.size = w.heap.size := by rw [hw']; rfl
        have HSQ := hide hsq
        clear hw' hsq
        go_wp2_with (first | (at_make; refine mk_arm rfl _ _ _ rfl Try.underlying23 xs.length _ _ rfl rfl (by omega) (by omega) (by omega) ?_; intro w1 hu1 hb1 hs1) | (with_reducible show wpList _ _ _ _ _ _; refine cp_arm rfl (.tmp 22) (.tmp 23) _ _ rfl Try.underlying23 w'.heap.size xs.length xs.length xs.length ca B A (List.replicate xs.length 0) xs rfl rfl (by simp) rfl hu1 (((hra.below hbq hB)).below hb1 (by have := HSQ.out; omega)) (by simp) ?_; intro w2 hu2 hg2))
        have hs := HSQ.out
        have e0 : xs ++ (List.replicate xs.length 0).drop xs.length = xs := by simp
        rw [e0] at hu2
        have hb2 : Below w.heap.size w w2 := hbq.trans (below_only (hb1.mono (by omega)) hg2 (by omega) (by have := hb1.size; omega))
        refine (diff_calls w'.heap.size _ _ _ _ B A' xs ys w w2 hu2 hrb HX.out HY.out (by omega) HV.out (by omega) hb2 hB (by omega) rfl rfl).mono ?_
        rintro e w3 ⟨xs', k1, k2, k3, k4, k5, b, rfl⟩
        have HK := hide k3
        clear k3 hu1 hu2 hg2 hs e0
        go_wp2_with fail
        have hfit := trim_own w'.heap.size xs.length xs.length xs' w w3 k4 k2 k5 k1.symm (by omega) (by omega)
        rw [HK.out] at hfit
        refine hfit.mono ?_
        rintro e w4 ⟨A4, c4, rfl, m1, m2, m3, m4, rfl⟩
        go_wp2
        go_ret2
        exact ⟨A4, c4, rfl, m1, m2, m3, m4⟩
    · have h2 : right ys = false := by simpa using h2
      have hS : subS xs ys = ([], 1) := by unfold subS; rw [h1, h2]; rfl
      rw [hS]
      rw [h2] at C2
      have D1 := hide C1
      have D2 := hide C2
      clear h1 h2 hS C1 C2 C3 hra hrb
      go_enter Try.func25, Try.ntmps25
      go_wp2_with fail
      refine D1.out.mono ?_; rintro e w' ⟨rfl, rfl⟩
      go_wp2_with fail
      refine D2.out.mono ?_; rintro e w' ⟨rfl, rfl⟩
      go_wp2
      go_ret2
      exact Ret2.bad 1 _ _ (Below.refl _ _)
  · have h1 : right xs = false := by simpa using h1
    have hS : subS xs ys = ([], 1) := by unfold subS; rw [h1]; rfl
    rw [hS]
    rw [h1] at C1
    have D1 := hide C1
    clear h1 hS C1 C2 C3 hra hrb
    go_enter Try.func25, Try.ntmps25
    go_wp2_with fail
    refine D1.out.mono ?_; rintro e w' ⟨rfl, rfl⟩
    go_wp2
    go_ret2
    exact Ret2.bad 1 _ _ (Below.refl _ _)
end Go.Proofs.Ytbimhacggbgcoaa
