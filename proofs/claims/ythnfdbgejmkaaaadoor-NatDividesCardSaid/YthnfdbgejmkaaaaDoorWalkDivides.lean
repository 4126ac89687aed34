/- The walk of NatDivides over this program: it answers true, for every list of limbs, divisor and 64-bit number, and writes nothing that was there. -/
import Derived.Test.YthnfdbgejmkaaaaDoorKit
namespace Go.Proofs.YthnfdbgejmkaaaaDoor
open Go.RowKit

set_option maxHeartbeats 4000000 in
set_option maxRecDepth 100000 in
theorem divides_walk (A : Option Addr) (c : Nat) (xs : List Int) (d n : Int) (w : World) (hr : Rd w w.heap.size A xs) (hx : M.Lim xs) (hc : xs.length ≤ c) (hcm : c ≤ 9223372036854775807) (d0 : 0 ≤ d) (d1 : d < 4294967296) (n0 : 0 ≤ n) (n1 : n ≤ 18446744073709551615) (htab : Tab w) :
    Calls Tryd.prog 5 #[.slice A xs.length c, .int .u32 d, .int .u64 n] w fun e w' => e = .returned (.bool true) ∧ Below w.heap.size w w' := by
  have AL := hide (alive_any w htab)
  have HR := hide hr
  have HX := hide hx
  clear hr hx htab
  by_cases g1 : xs.length ≤ 40
  · obtain ⟨S, hS⟩ : ∃ S, S = divS xs d := ⟨_, rfl⟩
    have sl : S.1.length ≤ 32 := by rw [hS]; exact divS_len HX.out d d0
    have NA := hide (fun (W : World) (A1 : Option Addr) (c1 : Nat) (h1 : Rd W W.heap.size A1 xs) (e1 : xs.length ≤ c1) (e2 : c1 ≤ 9223372036854775807) => by
      have q := ndiv_any A1 c1 W.heap.size d xs W h1 HX.out e1 e2 (Nat.le_refl _) d0 d1
      rw [← hS] at q; exact q)
    have RA := hide (fun (W : World) (h1 : Rd W W.heap.size A xs) => by
      have q := rdiv_any A c W.heap.size d xs W h1 HX.out hc hcm (Nat.le_refl _) d0 d1
      rw [← hS] at q; exact q)
    have NO := hide (fun W : World => nof_any n W n0 n1)
    have RO := hide (fun W : World => rof_any n W n0 n1)
    have ol : (M.canon n.toNat).length ≤ 32 := small64 (by omega)
    generalize M.canon n.toNat = O at *
    obtain ⟨Sl, Sr, Se⟩ := S
    have hcc : (Sr == Sr) = true := by simp
    have hce : (Se == Se) = true := by simp
    clear hS
    go_enter Tryd.func5, Tryd.ntmps5
    go_wp2_with fail
    refine AL.out.mono ?_
    rintro e w1 ⟨rfl, b1⟩
    go_wp2_with fail
    refine (k_copy w1 A c xs (HR.out.on b1) (by omega)).mono ?_
    rintro e w2 ⟨Ao, co, rfl, o1, o2, o3, b2⟩
    have e2 := b1.trans (b2.mono b1.size)
    go_wp2_with fail
    refine (NA.out w2 Ao co o3 o1 o2).mono ?_
    rintro e w4 ⟨Ax, cx, rfl, x1, x2, x3, b4⟩
    have e4 := e2.trans (b4.mono e2.size)
    go_wp2_with fail
    refine (RA.out w4 (HR.out.on e4)).mono ?_
    rintro e w5 ⟨Ay, cy, rfl, y1, y2, y3, b5⟩
    have e5 := e4.trans (b5.mono e4.size)
    go_wp2_with fail
    refine (k_same w5 Ax Ay cx cy Sl (x3.on b5) y3 (by omega)).mono ?_
    rintro e w8 ⟨rfl, b8⟩
    have e8 := e5.trans (b8.mono e5.size)
    go_wp2_with fail
    refine (k_same w8 Ao A co c xs (((o3.on b4).on b5).on b8) (HR.out.on e8) (by omega)).mono ?_
    rintro e w14 ⟨rfl, b14⟩
    have e14 := e8.trans (b14.mono e8.size)
    go_wp2_with fail
    refine (NO.out w14).mono ?_
    rintro e w15 ⟨Ap, cp, rfl, p1, p2, p3, b15⟩
    have e15 := e14.trans (b15.mono e14.size)
    go_wp2_with fail
    refine (RO.out w15).mono ?_
    rintro e w16 ⟨Aq, cq, rfl, q1, q2, q3, b16⟩
    have e16 := e15.trans (b16.mono e15.size)
    go_wp2_with fail
    refine (k_same w16 Ap Aq cp cq O (p3.on b16) q3 (by omega)).mono ?_
    rintro e w17 ⟨rfl, b17⟩
    have e17 := e16.trans (b17.mono e16.size)
    go_wp2
    go_ret
    exact ⟨rfl, e17⟩
  · go_enter Tryd.func5, Tryd.ntmps5
    go_wp2_with fail
    refine AL.out.mono ?_
    rintro e w1 ⟨rfl, b1⟩
    go_wp2
    go_ret
    exact ⟨rfl, b1⟩
end Go.Proofs.YthnfdbgejmkaaaaDoor
