/- Contracts of nat's Add and Sub over this program: what they answer, said on limbs. -/
import Derived.Test.YthnfdbgejmkaaaaDoorInto
import Derived.Test.YthnfdbgejmkaaaaDoorArms
namespace Go.Proofs.YthnfdbgejmkaaaaDoor
open Go.RowKit

/-- A number, if it fits; else too great. -/
def fitL (m : Nat) : List Int × Int := if (M.canon m).length ≤ 32 then (M.canon m, 0) else ([], 2)

/-- What is answered: limbs, in new memory or none, and an error's number. -/
def Ret2 (r : List Int × Int) (w : World) (e : Ending) (w' : World) : Prop :=
  ∃ A c, e = .returned (.tuple #[.slice A r.1.length c, .int .i64 r.2]) ∧ r.1.length ≤ c ∧ c ≤ 9223372036854775807 ∧ Rd w' w'.heap.size A r.1 ∧ Below w.heap.size w w'

theorem Ret2.bad (n : Int) (w w' : World) (h : Below w.heap.size w w') : Ret2 ([], n) w (.returned (.tuple #[.slice none 0 0, .int .i64 n])) w' :=
  ⟨none, 0, rfl, Nat.le_refl _, by omega, Rd.nil _ _ _, h⟩

set_option maxHeartbeats 400000 in
theorem fitting_any (A : Option Addr) (c B : Nat) (zs : List Int) (w : World) (hr : Rd w B A zs) (hz : M.Lim zs) (_hl : zs.length ≤ c) (_hc : c ≤ 9223372036854775807) :
    Calls Tryd.prog 37 #[.slice A zs.length c] w fun e w' => (∃ A' c', e = .returned (.tuple #[.slice A' (fitL (M.val zs).toNat).1.length c', .int .i64 (fitL (M.val zs).toNat).2]) ∧
      (fitL (M.val zs).toNat).1.length ≤ c' ∧ c' ≤ 9223372036854775807 ∧ Rd w B A' (fitL (M.val zs).toNat).1) ∧ w = w' := by
  have ht := M.trim_eq_canon hz
  have hrt : Rd w B A (M.trim zs) := by rw [M.trim_prefix]; exact hr.take _
  have hlt := M.trim_length_le zs
  by_cases h32 : (M.canon (M.val zs).toNat).length ≤ 32
  · have hf : fitL (M.val zs).toNat = (M.canon (M.val zs).toNat, 0) := by unfold fitL; rw [if_pos h32]
    rw [hf]
    rw [← ht] at h32 ⊢
    have Ht := hide ht
    have Hr := hide hrt
    clear hf ht hrt
    have hc := trimmed_any A c B zs w hr (by omega) (by omega)
    generalize M.trim zs = ts at *
    have HC := hide hc
    clear hc hr hz
    go_enter Tryd.func37, Tryd.ntmps37
    go_wp2_with (go_at_call 41; refine HC.out.mono ?_; rintro e w' ⟨⟨A', c', rfl, hAc⟩, rfl⟩)
    have HA := hide hAc
    clear hAc
    go_ret2
    refine ⟨⟨A', c', rfl, ?_⟩, rfl⟩
    rcases HA.out with ⟨rfl, rfl, rfl⟩ | ⟨_, rfl, rfl⟩
    · exact ⟨Nat.le_refl _, by omega, Rd.nil _ _ _⟩
    · exact ⟨by omega, _hc, Hr.out⟩
  · have hf : fitL (M.val zs).toNat = ([], 2) := by unfold fitL; rw [if_neg h32]
    rw [hf]
    rw [← ht] at h32
    clear hf ht hrt
    have hc := trimmed_any A c B zs w hr (by omega) (by omega)
    generalize M.trim zs = ts at *
    have HC := hide hc
    clear hc hr hz
    go_enter Tryd.func37, Tryd.ntmps37
    go_wp2_with (go_at_call 41; refine HC.out.mono ?_; rintro e w' ⟨⟨A', c', rfl, hAc⟩, rfl⟩; have HA := hide hAc; clear hAc)
    go_ret2
    exact ⟨⟨none, 0, rfl, Nat.le_refl _, by omega, Rd.nil _ _ _⟩, rfl⟩
def addS (xs ys : List Int) : List Int × Int := if right xs && right ys then fitL (M.val xs + M.val ys).toNat else ([], 1)

theorem right_len {xs : List Int} (h : right xs = true) : xs.length ≤ 32 := by
  unfold right at h; simp at h; rcases h with h | h
  · subst h; simp
  · exact h.1

theorem addTo_n (g o n cx m cy : Nat) (A : Option Addr) (pre xs post ys : List Int) (w : World) (hu : UB w g (pre ++ xs ++ post)) (ho : o = pre.length) (hx : M.Lim xs) (hr : Rd w g A ys) (hy : M.Lim ys)
    (hl : ys.length ≤ xs.length) (hn : xs.length ≤ 9223372036854775807) (en : n = xs.length) (em : m = ys.length) :
    Calls Tryd.prog 36 #[.slice (some ⟨g, o, none⟩) n cx, .slice A m cy] w (AddTo g pre xs post ys w) := by
  subst en em; exact addTo_any g o cx cy A pre xs post ys w hu ho hx hr hy hl hn
theorem takeFrom_n (g o k cx m cy : Nat) (n : Int) (A : Option Addr) (pre xs post ys : List Int) (w : World) (hu : UB w g (pre ++ xs ++ post)) (ho : o = pre.length) (hx : M.Lim xs) (hr : Rd w g A ys) (hy : M.Lim ys)
    (hl : ys.length ≤ xs.length) (hn : xs.length ≤ 9223372036854775807) (n0 : 0 ≤ n) (n1 : n < 4294967296) (en : k = xs.length) (em : m = ys.length) :
    Calls Tryd.prog 40 #[.slice (some ⟨g, o, none⟩) k cx, .slice A m cy, .int .u32 n] w (TakeFrom g pre xs post ys n w) := by
  subst en em; exact takeFrom_any g o cx cy n A pre xs post ys w hu ho hx hr hy hl hn n0 n1

theorem noughts_drop (n k : Nat) : (List.replicate (n + k) (0 : Int)).drop n = List.replicate k 0 := by
  rw [List.drop_replicate]; congr 1; omega

/-- What fits of a block of the call's own is answered. -/
theorem fit_own (g n c : Nat) (zs : List Int) (w w3 : World) (hu : UB w3 g zs) (hz : M.Lim zs) (hb : Below w.heap.size w w3) (en : n = zs.length) (hl : zs.length ≤ c) (hc : c ≤ 9223372036854775807) :
    Calls Tryd.prog 37 #[.slice (some ⟨g, 0, none⟩) n c] w3 (Ret2 (fitL (M.val zs).toNat) w) := by
  subst en
  refine (fitting_any (some ⟨g, 0, none⟩) c w3.heap.size zs w3 (hu.rd0 hu.lt) hz hl hc).mono ?_
  rintro e w' ⟨⟨A', c', rfl, h1, h2, h3⟩, rfl⟩
  exact ⟨A', c', rfl, h1, h2, h3, hb⟩

theorem sum_fin {xs ys xs' : List Int} {c : Int} (hx : M.Lim xs) (hy : M.Lim ys) (hx' : M.Lim xs') (hl : ys.length ≤ xs.length) (hc : c = 0 ∨ c = 1) (_hn : xs'.length = xs.length + 1)
    (hv : M.val xs' + M.pw (xs.length + 1) * c = M.val (xs ++ [0]) + M.val ys) : M.val xs' = M.val xs + M.val ys := by
  rw [M.val_snoc, Int.mul_zero, Int.add_zero] at hv
  have h1 := M.val_lt hx
  have h2 := M.val_lt hy
  have h3 := M.pw_mono hl
  have h4 := M.pw_succ xs.length
  have h5 := M.val_nonneg hx'
  have h6 := M.pw_pos xs.length
  rcases hc with rfl | rfl
  · omega
  · omega

/-- A copy of xs with a limb more, and ys added: what the sum of both answers, once memory is there. -/
theorem sum_calls (g n ca m cb B : Nat) (A' : Option Addr) (xs ys : List Int) (w w2 : World) (hu : UB w2 g (xs ++ [0])) (hr : Rd w B A' ys) (hx : M.Lim xs) (hy : M.Lim ys) (hl : ys.length ≤ xs.length) (_hn : xs.length ≤ 32) (hb : Below w.heap.size w w2) (hB : B ≤ w.heap.size) (hg : w.heap.size ≤ g)
    (en : n = xs.length + 1) (em : m = ys.length) :
    Calls Tryd.prog 36 #[.slice (some ⟨g, 0, none⟩) n ca, .slice A' m cb] w2 fun e w3 => ∃ xs', xs'.length = xs.length + 1 ∧ M.Lim xs' ∧ M.val xs' = M.val xs + M.val ys ∧ UB w3 g xs' ∧ Below w.heap.size w w3 ∧ ∃ b, e = .returned (.bool b) := by
  refine (addTo_n g 0 n ca m cb A' [] (xs ++ [0]) [] ys w2 (by simpa using hu) rfl (hx.snoc (by omega) (by omega)) ((hr.below hb hB).more (by omega)) hy (by simp; omega) (by simp; omega) (by simpa using en) em).mono ?_
  rintro e w3 ⟨xs', c, rfl, hc, h1, h2, h3, h4, h5⟩
  rw [List.length_append, List.length_singleton] at h1 h3
  exact ⟨xs', h1, h2, sum_fin hx hy h2 hl hc h1 h3, by simpa using h4, below_only hb h5 hg hb.size, _, rfl⟩

set_option maxHeartbeats 1000000 in
set_option maxRecDepth 100000 in
theorem nadd_any (A A' : Option Addr) (ca cb B : Nat) (xs ys : List Int) (w : World) (hra : Rd w B A xs) (hrb : Rd w B A' ys) (hx : M.Lim xs) (hy : M.Lim ys) (hxc : xs.length ≤ ca) (hyc : ys.length ≤ cb) (hca : ca ≤ 9223372036854775807) (hcb : cb ≤ 9223372036854775807) (hB : B ≤ w.heap.size) :
    Calls Tryd.prog 13 #[.slice A xs.length ca, .slice A' ys.length cb] w (Ret2 (addS xs ys) w) := by
  have C1 := nright_any A ca B xs w hra (by omega)
  have C2 := nright_any A' cb B ys w hrb (by omega)
  by_cases h1 : right xs = true
  · rw [h1] at C1
    by_cases h2 : right ys = true
    · have l1 := right_len h1
      have l2 := right_len h2
      have hS : addS xs ys = fitL (M.val xs + M.val ys).toNat := by unfold addS; rw [h1, h2]; rfl
      rw [hS]
      rw [h2] at C2
      clear h1 h2 hS
      have C1 := hide C1
      have C2 := hide C2
      have HX := hide hx
      have HY := hide hy
      by_cases hlt : xs.length < ys.length
      · skip
        go_enter Tryd.func13, Tryd.ntmps13
        go_wp2_with fail
        refine C1.out.mono ?_; rintro e w' ⟨rfl, rfl⟩
        go_wp2_with fail
        refine C2.out.mono ?_; rintro e w' ⟨rfl, rfl⟩
        go_wp2_with (first | (at_make; refine mk_arm rfl _ _ _ rfl Tryd.underlying23 (ys.length + 1) _ _ rfl rfl (by omega) (by omega) (by omega) ?_; intro w1 hu1 hb1 hs1) | (with_reducible show wpList _ _ _ _ _ _; refine cp_arm rfl (.tmp 26) (.tmp 27) _ _ rfl Tryd.underlying23 w.heap.size (ys.length + 1) (ys.length + 1) ys.length cb B A' (List.replicate (ys.length + 1) 0) ys rfl rfl (by simp) rfl hu1 (hrb.below hb1 hB) (by simp) ?_; intro w2 hu2 hg2))
        rw [noughts_drop] at hu2
        have hb2 := below_only hb1 hg2 (Nat.le_refl _) hb1.size
        refine (sum_calls w.heap.size _ _ _ _ B A ys xs w w2 hu2 hra HY.out HX.out (by omega) (by omega) hb2 hB (Nat.le_refl _) rfl rfl).mono ?_
        rintro e w3 ⟨xs', k1, k2, k3, k4, k5, b, rfl⟩
        have HV := hide k3
        clear k3 hu1 hu2 hg2
        go_wp2_with fail
        have hfit := fit_own w.heap.size (ys.length + 1) (ys.length + 1) xs' w w3 k4 k2 k5 k1.symm (by omega) (by omega)
        rw [HV.out, Int.add_comm (M.val ys) (M.val xs)] at hfit
        refine hfit.mono ?_
        rintro e w4 ⟨A4, c4, rfl, m1, m2, m3, m4⟩
        go_wp2
        go_ret2
        exact ⟨A4, c4, rfl, m1, m2, m3, m4⟩
      · skip
        go_enter Tryd.func13, Tryd.ntmps13
        go_wp2_with fail
        refine C1.out.mono ?_; rintro e w' ⟨rfl, rfl⟩
        go_wp2_with fail
        refine C2.out.mono ?_; rintro e w' ⟨rfl, rfl⟩
        go_wp2_with (first | (at_make; refine mk_arm rfl _ _ _ rfl Tryd.underlying23 (xs.length + 1) _ _ rfl rfl (by omega) (by omega) (by omega) ?_; intro w1 hu1 hb1 hs1) | (with_reducible show wpList _ _ _ _ _ _; refine cp_arm rfl (.tmp 26) (.tmp 27) _ _ rfl Tryd.underlying23 w.heap.size (xs.length + 1) (xs.length + 1) xs.length ca B A (List.replicate (xs.length + 1) 0) xs rfl rfl (by simp) rfl hu1 (hra.below hb1 hB) (by simp) ?_; intro w2 hu2 hg2))
        rw [noughts_drop] at hu2
        have hb2 := below_only hb1 hg2 (Nat.le_refl _) hb1.size
        refine (sum_calls w.heap.size _ _ _ _ B A' xs ys w w2 hu2 hrb HX.out HY.out (by omega) (by omega) hb2 hB (Nat.le_refl _) rfl rfl).mono ?_
        rintro e w3 ⟨xs', k1, k2, k3, k4, k5, b, rfl⟩
        have HV := hide k3
        clear k3 hu1 hu2 hg2
        go_wp2_with fail
        have hfit := fit_own w.heap.size (xs.length + 1) (xs.length + 1) xs' w w3 k4 k2 k5 k1.symm (by omega) (by omega)
        rw [HV.out] at hfit
        refine hfit.mono ?_
        rintro e w4 ⟨A4, c4, rfl, m1, m2, m3, m4⟩
        go_wp2
        go_ret2
        exact ⟨A4, c4, rfl, m1, m2, m3, m4⟩
    · have h2 : right ys = false := by simpa using h2
      have hS : addS xs ys = ([], 1) := by unfold addS; rw [h1, h2]; rfl
      rw [hS]
      rw [h2] at C2
      clear h1 h2 hS
      have D1 := hide C1
      have D2 := hide C2
      clear C1 C2
      go_enter Tryd.func13, Tryd.ntmps13
      go_wp2_with fail
      refine D1.out.mono ?_; rintro e w' ⟨rfl, rfl⟩
      go_wp2_with fail
      refine D2.out.mono ?_; rintro e w' ⟨rfl, rfl⟩
      go_wp2
      go_ret2
      exact Ret2.bad 1 _ _ (Below.refl _ _)
  · have h1 : right xs = false := by simpa using h1
    have hS : addS xs ys = ([], 1) := by unfold addS; rw [h1]; rfl
    rw [hS]
    rw [h1] at C1
    clear h1 hS C2
    have D1 := hide C1
    clear C1
    go_enter Tryd.func13, Tryd.ntmps13
    go_wp2_with fail
    refine D1.out.mono ?_; rintro e w' ⟨rfl, rfl⟩
    go_wp2
    go_ret2
    exact Ret2.bad 1 _ _ (Below.refl _ _)

/-! Which is more. -/
def cmpI (x y : Int) : Int := if x < y then -1 else if y < x then 1 else 0
theorem cmpI_lt {x y : Int} (h : x < y) : cmpI x y = -1 := by unfold cmpI; rw [if_pos h]
theorem cmpI_gt {x y : Int} (h : y < x) : cmpI x y = 1 := by unfold cmpI; rw [if_neg (by omega), if_pos h]
theorem cmpI_eq {x : Int} : cmpI x x = 0 := by unfold cmpI; rw [if_neg (by omega), if_neg (by omega)]

theorem cmpu_any (x y : Int) (w : World) : Calls Tryd.prog 43 #[.int .u32 x, .int .u32 y] w fun e w' => e = .returned (.int .i64 (cmpI x y)) ∧ w = w' := by
  have n1 : (x != x) = false := by simp
  have n2 : (y != y) = false := by simp
  rcases Int.lt_trichotomy x y with h | h | h
  · have E := hide (cmpI_lt h)
    go_enter Tryd.func43, Tryd.ntmps43
    go_wp2
    go_ret
    exact ⟨ret_int E.out.symm, rfl⟩
  · subst h
    have E := hide (cmpI_eq (x := x))
    go_enter Tryd.func43, Tryd.ntmps43
    go_wp2
    go_ret
    exact ⟨ret_int E.out.symm, rfl⟩
  · have E := hide (cmpI_gt h)
    go_enter Tryd.func43, Tryd.ntmps43
    go_wp2
    go_ret
    exact ⟨ret_int E.out.symm, rfl⟩
theorem cmpn_any (x y : Int) (w : World) : Calls Tryd.prog 42 #[.int .i64 x, .int .i64 y] w fun e w' => e = .returned (.int .i64 (cmpI x y)) ∧ w = w' := by
  have n1 : (x != x) = false := by simp
  have n2 : (y != y) = false := by simp
  rcases Int.lt_trichotomy x y with h | h | h
  · have E := hide (cmpI_lt h)
    go_enter Tryd.func42, Tryd.ntmps42
    go_wp2
    go_ret
    exact ⟨ret_int E.out.symm, rfl⟩
  · subst h
    have E := hide (cmpI_eq (x := x))
    go_enter Tryd.func42, Tryd.ntmps42
    go_wp2
    go_ret
    exact ⟨ret_int E.out.symm, rfl⟩
  · have E := hide (cmpI_gt h)
    go_enter Tryd.func42, Tryd.ntmps42
    go_wp2
    go_ret
    exact ⟨ret_int E.out.symm, rfl⟩
end Go.Proofs.YthnfdbgejmkaaaaDoor
