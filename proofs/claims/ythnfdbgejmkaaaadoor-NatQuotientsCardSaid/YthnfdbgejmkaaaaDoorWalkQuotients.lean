/- The walk of NatQuotients over this program: it answers true, for every two lists of limbs, and writes nothing that was there. -/
import Derived.Test.YthnfdbgejmkaaaaDoorRefQuo3
import Derived.Test.YthnfdbgejmkaaaaDoorWalkLaws
namespace Go.Proofs.YthnfdbgejmkaaaaDoor
open Go.RowKit

/-- What a quotient's answer is, for every two lists: refused; or right numbers that make the first up again. -/
theorem quoS_what (xs ys : List Int) (hx : M.Lim xs) (hy : M.Lim ys) :
    quoS xs ys = ([], [], 1) ∨ ∃ Q R P, quoS xs ys = (Q, R, 0) ∧ Q.length ≤ 32 ∧ R.length ≤ 32 ∧ P.length ≤ 32 ∧ xs.length ≤ 32 ∧ M.Lim Q ∧ M.Lim R ∧ M.Lim P ∧ mulS Q ys = (P, 0) ∧ addS P R = (xs, 0) ∧ cmpS R ys = -1 := by
  by_cases h1 : right xs = true
  · by_cases h2 : right ys = true
    · by_cases h3 : ys.length = 0
      · left; unfold quoS; rw [h3]; simp
      · right
        have e := quoS_canon hx hy h1 h2 h3
        have ea := canon_of_right hx h1
        have eb := canon_of_right hy h2
        have la := right_len h1
        have lb := right_len h2
        have hu0 : (M.val ys).toNat ≠ 0 := by
          intro e
          rw [e, M.canon_zero] at eb
          exact h3 (by rw [eb]; rfl)
        generalize (M.val xs).toNat = v at *
        generalize (M.val ys).toNat = u at *
        have hdm := Nat.div_add_mod v u
        have hlt := Nat.mod_lt v (Nat.pos_of_ne_zero hu0)
        have hq : v / u ≤ v := Nat.div_le_self _ _
        have hp : v / u * u ≤ v := Nat.div_mul_le_self _ _
        rw [Nat.mul_comm] at hdm
        generalize v / u = q at *
        generalize v % u = r at *
        rw [ea] at la
        rw [eb] at lb
        have fq := canon_len_mono hq
        have fp := canon_len_mono hp
        have fr := canon_len_mono (show r ≤ v by omega)
        refine ⟨M.canon q, M.canon r, M.canon (q * u), e, by omega, by omega, by omega, by rw [ea]; exact la, M.lim_canon _, M.lim_canon _, M.lim_canon _, ?_, ?_, ?_⟩
        · rw [eb, mulS_canon (by omega) lb, fitL_ok (by omega)]
        · rw [ea, addS_canon (by omega) (by omega), hdm, fitL_ok la]
        · unfold cmpS
          rw [h2, right_canon (by omega)]
          simp only [Bool.and_true, if_true]
          rw [eb, M.val_canon, M.val_canon]
          exact cmpI_lt (by omega)
    · left
      have h2 : right ys = false := by simpa using h2
      unfold quoS; rw [h1, h2]; rfl
  · left
    have h1 : right xs = false := by simpa using h1
    unfold quoS; rw [h1]; rfl

set_option maxHeartbeats 4000000 in
set_option maxRecDepth 100000 in
theorem quotients_walk (A : Option Addr) (c : Nat) (xs : List Int) (A' : Option Addr) (c' : Nat) (ys : List Int) (w : World) (hr : Rd w w.heap.size A xs) (hx : M.Lim xs) (hc : xs.length ≤ c) (hcm : c ≤ 9223372036854775807)
    (hr' : Rd w w.heap.size A' ys) (hy : M.Lim ys) (hc' : ys.length ≤ c') (hcm' : c' ≤ 9223372036854775807) (htab : Tab w) :
    Calls Tryd.prog 10 #[.slice A xs.length c, .slice A' ys.length c'] w fun e w' => e = .returned (.bool true) ∧ Below w.heap.size w w' := by
  have AL := hide (alive_any w htab)
  have HR := hide hr
  have HR' := hide hr'
  have HX := hide hx
  have HY := hide hy
  clear hr hr' hx hy htab
  by_cases g1 : xs.length ≤ 40
  · by_cases g2 : ys.length ≤ 40
    · have NQ := hide (fun (W : World) (h1 : Rd W W.heap.size A xs) (h2 : Rd W W.heap.size A' ys) => nquo_any A A' c c' xs ys W h1 h2 HX.out HY.out hc hc' hcm hcm')
      have RQ := hide (fun (W : World) (h1 : Rd W W.heap.size A xs) (h2 : Rd W W.heap.size A' ys) => rquo_any A A' c c' xs ys W h1 h2 HX.out HY.out (by omega) (by omega))
      rcases quoS_what xs ys HX.out HY.out with hS | ⟨Q, R, P, hS, lq, lr, lp, lx, limq, limr, limp, hm, ha, hcm1⟩
      · rw [hS] at NQ RQ
        clear hS
        go_enter Tryd.func10, Tryd.ntmps10
        go_wp2_with fail
        refine AL.out.mono ?_
        rintro e w1 ⟨rfl, b1⟩
        go_wp2_with fail
        refine (NQ.out w1 (HR.out.on b1) (HR'.out.on b1)).mono ?_
        rintro e w2 ⟨Aq, cq, Ar, cr, rfl, q1, q2, q3, q4, q5, q6, b2⟩
        have e2 := b1.trans (b2.mono b1.size)
        go_wp2_with fail
        refine (RQ.out w2 (HR.out.on e2) (HR'.out.on e2)).mono ?_
        rintro e w3 ⟨Ap, cp, As, cs, rfl, p1, p2, p3, p4, p5, p6, b3⟩
        have e3 := e2.trans (b3.mono e2.size)
        go_wp2_with fail
        refine (k_same w3 Aq Ap cq cp [] (q5.on b3) p5 (by simp)).mono ?_
        rintro e w4 ⟨rfl, b4⟩
        have e4 := e3.trans (b4.mono e3.size)
        go_wp2_with fail
        refine (k_same w4 Ar As cr cs [] ((q6.on b3).on b4) (p6.on b4) (by simp)).mono ?_
        rintro e w5 ⟨rfl, b5⟩
        have e5 := e4.trans (b5.mono e4.size)
        go_wp2
        go_ret
        exact ⟨rfl, e5⟩
      · rw [hS] at NQ RQ
        have KM := hide (k_mul _ _ _ hm limq HY.out)
        have KA := hide (k_add _ _ _ ha limp limr)
        have KC := hide (fun (W : World) (A1 : Option Addr) (c1 : Nat) (h1 : Rd W W.heap.size A1 R) (h2 : Rd W W.heap.size A' ys) (e1 : R.length ≤ c1) (e2 : c1 ≤ 9223372036854775807) => by
          have q := k_ncmp W A1 A' c1 c' R ys h1 h2 limr HY.out e1 e2 hc' hcm'
          rw [hcm1] at q; exact q)
        clear hS hm ha hcm1 limq limr limp
        go_enter Tryd.func10, Tryd.ntmps10
        go_wp2_with fail
        refine AL.out.mono ?_
        rintro e w1 ⟨rfl, b1⟩
        go_wp2_with fail
        refine (NQ.out w1 (HR.out.on b1) (HR'.out.on b1)).mono ?_
        rintro e w2 ⟨Aq, cq, Ar, cr, rfl, q1, q2, q3, q4, q5, q6, b2⟩
        have e2 := b1.trans (b2.mono b1.size)
        go_wp2_with fail
        refine (RQ.out w2 (HR.out.on e2) (HR'.out.on e2)).mono ?_
        rintro e w3 ⟨Ap, cp, As, cs, rfl, p1, p2, p3, p4, p5, p6, b3⟩
        have e3 := e2.trans (b3.mono e2.size)
        go_wp2_with fail
        refine (k_same w3 Aq Ap cq cp Q (q5.on b3) p5 (by omega)).mono ?_
        rintro e w4 ⟨rfl, b4⟩
        have e4 := e3.trans (b4.mono e3.size)
        go_wp2_with fail
        refine (k_same w4 Ar As cr cs R ((q6.on b3).on b4) (p6.on b4) (by omega)).mono ?_
        rintro e w5 ⟨rfl, b5⟩
        have e5 := e4.trans (b5.mono e4.size)
        have hq5 := ((q5.on b3).on b4).on b5
        have hr5 := ((q6.on b3).on b4).on b5
        go_wp2_with fail
        refine (KM.out w5 Aq A' cq c' hq5 (HR'.out.on e5) q1 q2 hc' hcm').mono ?_
        rintro e w6 ⟨Ax, cx, rfl, x1, x2, x3, b6⟩
        have e6 := e5.trans (b6.mono e5.size)
        go_wp2_with fail
        refine (KA.out w6 Ax Ar cx cr x3 (hr5.on b6) x1 x2 q3 q4).mono ?_
        rintro e w7 ⟨Ay, cy, rfl, y1, y2, y3, b7⟩
        have e7 := e6.trans (b7.mono e6.size)
        go_wp2_with fail
        refine (k_same w7 Ay A cy c xs y3 (HR.out.on e7) (by omega)).mono ?_
        rintro e w8 ⟨rfl, b8⟩
        have e8 := e7.trans (b8.mono e7.size)
        go_wp2_with fail
        refine (KC.out w8 Ar cr (((hr5.on b6).on b7).on b8) (HR'.out.on e8) q3 q4).mono ?_
        rintro e w9 ⟨rfl, b9⟩
        have e9 := e8.trans (b9.mono e8.size)
        go_wp2
        go_ret
        exact ⟨rfl, e9⟩
    · go_enter Tryd.func10, Tryd.ntmps10
      go_wp2_with fail
      refine AL.out.mono ?_
      rintro e w1 ⟨rfl, b1⟩
      go_wp2
      go_ret
      exact ⟨rfl, b1⟩
  · go_enter Tryd.func10, Tryd.ntmps10
    go_wp2_with fail
    refine AL.out.mono ?_
    rintro e w1 ⟨rfl, b1⟩
    go_wp2
    go_ret
    exact ⟨rfl, b1⟩
end Go.Proofs.YthnfdbgejmkaaaaDoor
