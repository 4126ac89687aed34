/- The walk of NatLaws over this program: it answers true, for every three lists of limbs, and writes nothing that was there. -/
import Derived.Test.YthnfdbgejmkaaaaDoorKit
namespace Go.Proofs.YthnfdbgejmkaaaaDoor
open Go.RowKit

theorem k_mul (S : List Int × Int) (xs ys : List Int) (hS : mulS xs ys = S) (hx : M.Lim xs) (hy : M.Lim ys) (W : World) (A1 A2 : Option Addr) (c1 c2 : Nat) (h1 : Rd W W.heap.size A1 xs) (h2 : Rd W W.heap.size A2 ys) (e1 : xs.length ≤ c1) (e2 : c1 ≤ 9223372036854775807) (e3 : ys.length ≤ c2) (e4 : c2 ≤ 9223372036854775807) :
    Calls Tryd.prog 22 #[.slice A1 xs.length c1, .slice A2 ys.length c2] W (Ret2 S W) := by
  rw [← hS]; exact nmul_any A1 A2 c1 c2 W.heap.size _ _ W h1 h2 hx hy e1 e3 e2 e4 (Nat.le_refl _)
theorem k_add (S : List Int × Int) (xs ys : List Int) (hS : addS xs ys = S) (hx : M.Lim xs) (hy : M.Lim ys) (W : World) (A1 A2 : Option Addr) (c1 c2 : Nat) (h1 : Rd W W.heap.size A1 xs) (h2 : Rd W W.heap.size A2 ys) (e1 : xs.length ≤ c1) (e2 : c1 ≤ 9223372036854775807) (e3 : ys.length ≤ c2) (e4 : c2 ≤ 9223372036854775807) :
    Calls Tryd.prog 13 #[.slice A1 xs.length c1, .slice A2 ys.length c2] W (Ret2 S W) := by
  rw [← hS]; exact nadd_any A1 A2 c1 c2 W.heap.size _ _ W h1 h2 hx hy e1 e3 e2 e4 (Nat.le_refl _)
theorem k_sub (S : List Int × Int) (xs ys : List Int) (hS : subS xs ys = S) (hx : M.Lim xs) (hy : M.Lim ys) (W : World) (A1 A2 : Option Addr) (c1 c2 : Nat) (h1 : Rd W W.heap.size A1 xs) (h2 : Rd W W.heap.size A2 ys) (e1 : xs.length ≤ c1) (e2 : c1 ≤ 9223372036854775807) (e3 : ys.length ≤ c2) (e4 : c2 ≤ 9223372036854775807) :
    Calls Tryd.prog 15 #[.slice A1 xs.length c1, .slice A2 ys.length c2] W (Ret2 S W) := by
  rw [← hS]; exact nsub_any A1 A2 c1 c2 W.heap.size _ _ W h1 h2 hx hy e1 e3 e2 e4 (Nat.le_refl _)
theorem fitL_big {n : Nat} (h : ¬ (M.canon n).length ≤ 32) : fitL n = ([], 2) := by unfold fitL; rw [if_neg h]

set_option maxHeartbeats 4000000 in
set_option maxRecDepth 100000 in
theorem laws_right (Aa Ab Ac : Option Addr) (ca cb cc : Nat) (xa xb xc : List Int) (w : World) (hra : Rd w w.heap.size Aa xa) (hxa : M.Lim xa) (hca : xa.length ≤ ca) (hma : ca ≤ 9223372036854775807)
    (hrb : Rd w w.heap.size Ab xb) (hxb : M.Lim xb) (hcb : xb.length ≤ cb) (hmb : cb ≤ 9223372036854775807) (hrc : Rd w w.heap.size Ac xc) (hxc : M.Lim xc) (hcc : xc.length ≤ cc) (hmc : cc ≤ 9223372036854775807) (htab : Tab w)
    (h1 : right xa = true) (h2 : right xb = true) (h3 : right xc = true) :
    Calls Tryd.prog 7 #[.slice Aa xa.length ca, .slice Ab xb.length cb, .slice Ac xc.length cc] w fun e w' => e = .returned (.bool true) ∧ Below w.heap.size w w' := by
  have AL := hide (alive_any w htab)
  have HA := hide hra
  have HB := hide hrb
  have HC := hide hrc
  have RA := hide (fun (W : World) (h : Rd W W.heap.size Aa xa) => by have q := rright_any Aa ca W.heap.size xa W h (by omega); rw [h1] at q; exact q)
  have RB := hide (fun (W : World) (h : Rd W W.heap.size Ab xb) => by have q := rright_any Ab cb W.heap.size xb W h (by omega); rw [h2] at q; exact q)
  have RC := hide (fun (W : World) (h : Rd W W.heap.size Ac xc) => by have q := rright_any Ac cc W.heap.size xc W h (by omega); rw [h3] at q; exact q)
  have la := right_len h1
  have lb := right_len h2
  have lc := right_len h3
  have ea := canon_of_right hxa h1
  have eb := canon_of_right hxb h2
  have ec := canon_of_right hxc h3
  generalize (M.val xa).toNat = a at *
  generalize (M.val xb).toNat = b at *
  generalize (M.val xc).toNat = c at *
  have fa : (M.canon a).length ≤ 32 := by rw [← ea]; exact la
  have fb : (M.canon b).length ≤ 32 := by rw [← eb]; exact lb
  have fc : (M.canon c).length ≤ 32 := by rw [← ec]; exact lc
  have sab : addS xa xb = fitL (a + b) := by rw [ea, eb]; exact addS_canon fa fb
  have sba : addS xb xa = fitL (a + b) := by rw [ea, eb, Nat.add_comm]; exact addS_canon fb fa
  have mac : mulS xa xc = fitL (a * c) := by rw [ea, ec]; exact mulS_canon fa fc
  have mbc : mulS xb xc = fitL (b * c) := by rw [eb, ec]; exact mulS_canon fb fc
  clear h1 h2 h3 hra hrb hrc htab
  by_cases g1 : (M.canon (a + b)).length ≤ 32
  · have sx : subS (M.canon (a + b)) xb = (xa, 0) := by rw [eb, subS_canon g1 fb (by omega), Nat.add_sub_cancel, ← ea]
    have mx : mulS (M.canon (a + b)) xc = fitL ((a + b) * c) := by rw [ec]; exact mulS_canon g1 fc
    have mx' : mulS xc (M.canon (a + b)) = fitL ((a + b) * c) := by rw [ec, Nat.mul_comm]; exact mulS_canon fc g1
    rw [fitL_ok g1] at sab sba
    have hlx := M.lim_canon (a + b)
    by_cases g2 : (M.canon ((a + b) * c)).length ≤ 32
    · have hac : (M.canon (a * c)).length ≤ 32 := by have := canon_len_mono (show a * c ≤ (a + b) * c from Nat.mul_le_mul_right _ (by omega)); omega
      have hbc : (M.canon (b * c)).length ≤ 32 := by have := canon_len_mono (show b * c ≤ (a + b) * c from Nat.mul_le_mul_right _ (by omega)); omega
      have ss : addS (M.canon (a * c)) (M.canon (b * c)) = (M.canon ((a + b) * c), 0) := by rw [addS_canon hac hbc, ← Nat.add_mul, fitL_ok g2]
      rw [fitL_ok g2] at mx mx'
      rw [fitL_ok hac] at mac
      rw [fitL_ok hbc] at mbc
      have hlac := M.lim_canon (a * c)
      have hlbc := M.lim_canon (b * c)
      generalize M.canon (a + b) = X at *
      generalize M.canon (a * c) = Q at *
      generalize M.canon (b * c) = R at *
      generalize M.canon ((a + b) * c) = P at *
      have K1 := hide (k_add _ _ _ sab hxa hxb)
      have K2 := hide (k_add _ _ _ sba hxb hxa)
      have K3 := hide (k_sub _ _ _ sx hlx hxb)
      have K4 := hide (k_mul _ _ _ mx hlx hxc)
      have K5 := hide (k_mul _ _ _ mac hxa hxc)
      have K6 := hide (k_mul _ _ _ mbc hxb hxc)
      have K7 := hide (k_add _ _ _ ss hlac hlbc)
      have K8 := hide (k_mul _ _ _ mx' hxc hlx)
      clear sab sba sx mx mx' mac mbc ss hlx hlac hlbc ea eb ec fa fb fc hxa hxb hxc
      go_enter Tryd.func7, Tryd.ntmps7
      go_wp2_with fail
      refine AL.out.mono ?_
      rintro e w1 ⟨rfl, b1⟩
      go_wp2_with fail
      refine (RA.out w1 (HA.out.on b1)).mono ?_
      rintro e w' ⟨rfl, rfl⟩
      go_wp2_with fail
      refine (RB.out w1 (HB.out.on b1)).mono ?_
      rintro e w' ⟨rfl, rfl⟩
      go_wp2_with fail
      refine (RC.out w1 (HC.out.on b1)).mono ?_
      rintro e w' ⟨rfl, rfl⟩
      go_wp2_with fail
      refine (K1.out w1 Aa Ab ca cb (HA.out.on b1) (HB.out.on b1) hca hma hcb hmb).mono ?_
      rintro e w2 ⟨Ax, cx, rfl, x1, x2, x3, b2⟩
      have e2 := b1.trans (b2.mono b1.size)
      go_wp2_with fail
      refine (K2.out w2 Ab Aa cb ca (HB.out.on e2) (HA.out.on e2) hcb hmb hca hma).mono ?_
      rintro e w3 ⟨Ay, cy, rfl, y1, y2, y3, b3⟩
      have e3 := e2.trans (b3.mono e2.size)
      go_wp2_with fail
      refine (k_same w3 Ax Ay cx cy X (x3.on b3) y3 (by omega)).mono ?_
      rintro e w4 ⟨rfl, b4⟩
      have e4 := e3.trans (b4.mono e3.size)
      go_wp2_with fail
      refine (K3.out w4 Ax Ab cx cb ((x3.on b3).on b4) (HB.out.on e4) x1 x2 hcb hmb).mono ?_
      rintro e w5 ⟨Az, cz, rfl, z1, z2, z3, b5⟩
      have e5 := e4.trans (b5.mono e4.size)
      go_wp2_with fail
      refine (k_same w5 Az Aa cz ca xa z3 (HA.out.on e5) (by omega)).mono ?_
      rintro e w6 ⟨rfl, b6⟩
      have e6 := e5.trans (b6.mono e5.size)
      have hx6 := (((x3.on b3).on b4).on b5).on b6
      go_wp2_with fail
      refine (K4.out w6 Ax Ac cx cc hx6 (HC.out.on e6) x1 x2 hcc hmc).mono ?_
      rintro e w7 ⟨Ap, cp, rfl, p1, p2, p3, b7⟩
      have e7 := e6.trans (b7.mono e6.size)
      go_wp2_with fail
      refine (K5.out w7 Aa Ac ca cc (HA.out.on e7) (HC.out.on e7) hca hma hcc hmc).mono ?_
      rintro e w8 ⟨Aq, cq, rfl, q1, q2, q3, b8⟩
      have e8 := e7.trans (b8.mono e7.size)
      go_wp2_with fail
      refine (K6.out w8 Ab Ac cb cc (HB.out.on e8) (HC.out.on e8) hcb hmb hcc hmc).mono ?_
      rintro e w9 ⟨Ar, cr, rfl, r1, r2, r3, b9⟩
      have e9 := e8.trans (b9.mono e8.size)
      go_wp2_with fail
      refine (K7.out w9 Aq Ar cq cr (q3.on b9) r3 q1 q2 r1 r2).mono ?_
      rintro e w10 ⟨As, cs, rfl, s1, s2, s3, b10⟩
      have e10 := e9.trans (b10.mono e9.size)
      go_wp2_with fail
      refine (K8.out w10 Ac Ax cc cx (HC.out.on e10) ((((hx6.on b7).on b8).on b9).on b10) hcc hmc x1 x2).mono ?_
      rintro e w11 ⟨At, ct, rfl, t1, t2, t3, b11⟩
      have e11 := e10.trans (b11.mono e10.size)
      have hp11 := (((p3.on b8).on b9).on b10).on b11
      go_wp2_with fail
      refine (k_same w11 As Ap cs cp P (s3.on b11) hp11 (by omega)).mono ?_
      rintro e w12 ⟨rfl, b12⟩
      have e12 := e11.trans (b12.mono e11.size)
      go_wp2_with fail
      refine (k_same w12 At Ap ct cp P (t3.on b12) (hp11.on b12) (by omega)).mono ?_
      rintro e w13 ⟨rfl, b13⟩
      have e13 := e12.trans (b13.mono e12.size)
      go_wp2
      go_ret
      exact ⟨rfl, e13⟩
    · rw [fitL_big g2] at mx
      generalize M.canon (a + b) = X at *
      generalize fitL (a * c) = Q at *
      generalize fitL (b * c) = R at *
      have K1 := hide (k_add _ _ _ sab hxa hxb)
      have K2 := hide (k_add _ _ _ sba hxb hxa)
      have K3 := hide (k_sub _ _ _ sx hlx hxb)
      have K4 := hide (k_mul _ _ _ mx hlx hxc)
      have K5 := hide (k_mul _ _ _ mac hxa hxc)
      have K6 := hide (k_mul _ _ _ mbc hxb hxc)
      obtain ⟨Ql, Qe⟩ := Q
      obtain ⟨Rl, Re⟩ := R
      clear sab sba sx mx mx' mac mbc hlx ea eb ec fa fb fc hxa hxb hxc g2
      go_enter Tryd.func7, Tryd.ntmps7
      go_wp2_with fail
      refine AL.out.mono ?_
      rintro e w1 ⟨rfl, b1⟩
      go_wp2_with fail
      refine (RA.out w1 (HA.out.on b1)).mono ?_
      rintro e w' ⟨rfl, rfl⟩
      go_wp2_with fail
      refine (RB.out w1 (HB.out.on b1)).mono ?_
      rintro e w' ⟨rfl, rfl⟩
      go_wp2_with fail
      refine (RC.out w1 (HC.out.on b1)).mono ?_
      rintro e w' ⟨rfl, rfl⟩
      go_wp2_with fail
      refine (K1.out w1 Aa Ab ca cb (HA.out.on b1) (HB.out.on b1) hca hma hcb hmb).mono ?_
      rintro e w2 ⟨Ax, cx, rfl, x1, x2, x3, b2⟩
      have e2 := b1.trans (b2.mono b1.size)
      go_wp2_with fail
      refine (K2.out w2 Ab Aa cb ca (HB.out.on e2) (HA.out.on e2) hcb hmb hca hma).mono ?_
      rintro e w3 ⟨Ay, cy, rfl, y1, y2, y3, b3⟩
      have e3 := e2.trans (b3.mono e2.size)
      go_wp2_with fail
      refine (k_same w3 Ax Ay cx cy X (x3.on b3) y3 (by omega)).mono ?_
      rintro e w4 ⟨rfl, b4⟩
      have e4 := e3.trans (b4.mono e3.size)
      go_wp2_with fail
      refine (K3.out w4 Ax Ab cx cb ((x3.on b3).on b4) (HB.out.on e4) x1 x2 hcb hmb).mono ?_
      rintro e w5 ⟨Az, cz, rfl, z1, z2, z3, b5⟩
      have e5 := e4.trans (b5.mono e4.size)
      go_wp2_with fail
      refine (k_same w5 Az Aa cz ca xa z3 (HA.out.on e5) (by omega)).mono ?_
      rintro e w6 ⟨rfl, b6⟩
      have e6 := e5.trans (b6.mono e5.size)
      have hx6 := (((x3.on b3).on b4).on b5).on b6
      go_wp2_with fail
      refine (K4.out w6 Ax Ac cx cc hx6 (HC.out.on e6) x1 x2 hcc hmc).mono ?_
      rintro e w7 ⟨Ap, cp, rfl, p1, p2, p3, b7⟩
      have e7 := e6.trans (b7.mono e6.size)
      go_wp2_with fail
      refine (K5.out w7 Aa Ac ca cc (HA.out.on e7) (HC.out.on e7) hca hma hcc hmc).mono ?_
      rintro e w8 ⟨Aq, cq, rfl, q1, q2, q3, b8⟩
      have e8 := e7.trans (b8.mono e7.size)
      go_wp2_with fail
      refine (K6.out w8 Ab Ac cb cc (HB.out.on e8) (HC.out.on e8) hcb hmb hcc hmc).mono ?_
      rintro e w9 ⟨Ar, cr, rfl, r1, r2, r3, b9⟩
      have e9 := e8.trans (b9.mono e8.size)
      go_wp2
      go_ret
      exact ⟨rfl, e9⟩
  · have mx : mulS [] xc = fitL 0 := by
      have h : ([] : List Int) = M.canon 0 := M.canon_zero.symm
      rw [h, ec, mulS_canon (by rw [M.canon_zero]; exact Nat.zero_le _) fc, Nat.zero_mul]
    rw [fitL_big g1] at sab sba
    generalize fitL (a * c) = Q at *
    generalize fitL (b * c) = R at *
    generalize fitL 0 = P at *
    have K1 := hide (k_add _ _ _ sab hxa hxb)
    have K2 := hide (k_add _ _ _ sba hxb hxa)
    have K4 := hide (k_mul _ _ _ mx M.Lim.nil hxc)
    have K5 := hide (k_mul _ _ _ mac hxa hxc)
    have K6 := hide (k_mul _ _ _ mbc hxb hxc)
    obtain ⟨Ql, Qe⟩ := Q
    obtain ⟨Rl, Re⟩ := R
    obtain ⟨Pl, Pe⟩ := P
    clear sab sba mx mac mbc ea eb ec fa fb fc hxa hxb hxc g1
    go_enter Tryd.func7, Tryd.ntmps7
    go_wp2_with fail
    refine AL.out.mono ?_
    rintro e w1 ⟨rfl, b1⟩
    go_wp2_with fail
    refine (RA.out w1 (HA.out.on b1)).mono ?_
    rintro e w' ⟨rfl, rfl⟩
    go_wp2_with fail
    refine (RB.out w1 (HB.out.on b1)).mono ?_
    rintro e w' ⟨rfl, rfl⟩
    go_wp2_with fail
    refine (RC.out w1 (HC.out.on b1)).mono ?_
    rintro e w' ⟨rfl, rfl⟩
    go_wp2_with fail
    refine (K1.out w1 Aa Ab ca cb (HA.out.on b1) (HB.out.on b1) hca hma hcb hmb).mono ?_
    rintro e w2 ⟨Ax, cx, rfl, x1, x2, x3, b2⟩
    have e2 := b1.trans (b2.mono b1.size)
    go_wp2_with fail
    refine (K2.out w2 Ab Aa cb ca (HB.out.on e2) (HA.out.on e2) hcb hmb hca hma).mono ?_
    rintro e w3 ⟨Ay, cy, rfl, y1, y2, y3, b3⟩
    have e3 := e2.trans (b3.mono e2.size)
    go_wp2_with fail
    refine (k_same w3 Ax Ay cx cy [] (Rd.nil _ _ _) (Rd.nil _ _ _) (by simp)).mono ?_
    rintro e w4 ⟨rfl, b4⟩
    have e4 := e3.trans (b4.mono e3.size)
    go_wp2_with fail
    refine (K4.out w4 Ax Ac cx cc (Rd.nil _ _ _) (HC.out.on e4) (Nat.zero_le _) x2 hcc hmc).mono ?_
    rintro e w7 ⟨Ap, cp, rfl, p1, p2, p3, b7⟩
    have e7 := e4.trans (b7.mono e4.size)
    go_wp2_with fail
    refine (K5.out w7 Aa Ac ca cc (HA.out.on e7) (HC.out.on e7) hca hma hcc hmc).mono ?_
    rintro e w8 ⟨Aq, cq, rfl, q1, q2, q3, b8⟩
    have e8 := e7.trans (b8.mono e7.size)
    go_wp2_with fail
    refine (K6.out w8 Ab Ac cb cc (HB.out.on e8) (HC.out.on e8) hcb hmb hcc hmc).mono ?_
    rintro e w9 ⟨Ar, cr, rfl, r1, r2, r3, b9⟩
    have e9 := e8.trans (b9.mono e8.size)
    go_wp2
    go_ret
    exact ⟨rfl, e9⟩

set_option maxHeartbeats 4000000 in
set_option maxRecDepth 100000 in
theorem laws_walk (Aa : Option Addr) (ca : Nat) (xa : List Int) (Ab : Option Addr) (cb : Nat) (xb : List Int) (Ac : Option Addr) (cc : Nat) (xc : List Int) (w : World) (hra : Rd w w.heap.size Aa xa) (hxa : M.Lim xa) (hca : xa.length ≤ ca) (hma : ca ≤ 9223372036854775807)
    (hrb : Rd w w.heap.size Ab xb) (hxb : M.Lim xb) (hcb : xb.length ≤ cb) (hmb : cb ≤ 9223372036854775807) (hrc : Rd w w.heap.size Ac xc) (hxc : M.Lim xc) (hcc : xc.length ≤ cc) (hmc : cc ≤ 9223372036854775807) (htab : Tab w) :
    Calls Tryd.prog 7 #[.slice Aa xa.length ca, .slice Ab xb.length cb, .slice Ac xc.length cc] w fun e w' => e = .returned (.bool true) ∧ Below w.heap.size w w' := by
  have AL := hide (alive_any w htab)
  have RA := fun (W : World) (h : Rd W W.heap.size Aa xa) => rright_any Aa ca W.heap.size xa W h (by omega)
  have RB := fun (W : World) (h : Rd W W.heap.size Ab xb) => rright_any Ab cb W.heap.size xb W h (by omega)
  have RC := fun (W : World) (h : Rd W W.heap.size Ac xc) => rright_any Ac cc W.heap.size xc W h (by omega)
  by_cases h1 : right xa = true
  · by_cases h2 : right xb = true
    · by_cases h3 : right xc = true
      · exact laws_right Aa Ab Ac ca cb cc xa xb xc w hra hxa hca hma hrb hxb hcb hmb hrc hxc hcc hmc htab h1 h2 h3
      · have h3 : right xc = false := by simpa using h3
        rw [h1] at RA
        rw [h2] at RB
        rw [h3] at RC
        have HA := hide hra
        have HB := hide hrb
        have HC := hide hrc
        have SA := hide RA
        have SB := hide RB
        have SC := hide RC
        clear RA RB RC h1 h2 h3 hra hrb hrc htab
        go_enter Tryd.func7, Tryd.ntmps7
        go_wp2_with fail
        refine AL.out.mono ?_
        rintro e w1 ⟨rfl, b1⟩
        go_wp2_with fail
        refine (SA.out w1 (HA.out.on b1)).mono ?_
        rintro e w' ⟨rfl, rfl⟩
        go_wp2_with fail
        refine (SB.out w1 (HB.out.on b1)).mono ?_
        rintro e w' ⟨rfl, rfl⟩
        go_wp2_with fail
        refine (SC.out w1 (HC.out.on b1)).mono ?_
        rintro e w' ⟨rfl, rfl⟩
        go_wp2
        go_ret
        exact ⟨rfl, b1⟩
    · have h2 : right xb = false := by simpa using h2
      rw [h1] at RA
      rw [h2] at RB
      have HA := hide hra
      have HB := hide hrb
      have SA := hide RA
      have SB := hide RB
      clear RA RB RC h1 h2 hra hrb hrc htab
      go_enter Tryd.func7, Tryd.ntmps7
      go_wp2_with fail
      refine AL.out.mono ?_
      rintro e w1 ⟨rfl, b1⟩
      go_wp2_with fail
      refine (SA.out w1 (HA.out.on b1)).mono ?_
      rintro e w' ⟨rfl, rfl⟩
      go_wp2_with fail
      refine (SB.out w1 (HB.out.on b1)).mono ?_
      rintro e w' ⟨rfl, rfl⟩
      go_wp2
      go_ret
      exact ⟨rfl, b1⟩
  · have h1 : right xa = false := by simpa using h1
    rw [h1] at RA
    have HA := hide hra
    have SA := hide RA
    clear RA RB RC h1 hra hrb hrc htab
    go_enter Tryd.func7, Tryd.ntmps7
    go_wp2_with fail
    refine AL.out.mono ?_
    rintro e w1 ⟨rfl, b1⟩
    go_wp2_with fail
    refine (SA.out w1 (HA.out.on b1)).mono ?_
    rintro e w' ⟨rfl, rfl⟩
    go_wp2
    go_ret
    exact ⟨rfl, b1⟩
end Go.Proofs.YthnfdbgejmkaaaaDoor
