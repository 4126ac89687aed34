/- The walk of NatProducts over this program: it answers true, for every two lists of limbs, and writes nothing that was there. -/
import Derived.Test.YthnfdbgejmkaaaaDoorKit
namespace Go.Proofs.YthnfdbgejmkaaaaDoor
open Go.RowKit

set_option maxHeartbeats 4000000 in
set_option maxRecDepth 100000 in
theorem products_walk (A : Option Addr) (c : Nat) (xs : List Int) (A' : Option Addr) (c' : Nat) (ys : List Int) (w : World) (hr : Rd w w.heap.size A xs) (hx : M.Lim xs) (hc : xs.length ≤ c) (hcm : c ≤ 9223372036854775807)
    (hr' : Rd w w.heap.size A' ys) (hy : M.Lim ys) (hc' : ys.length ≤ c') (hcm' : c' ≤ 9223372036854775807) (htab : Tab w) :
    Calls Tryd.prog 4 #[.slice A xs.length c, .slice A' ys.length c'] w fun e w' => e = .returned (.bool true) ∧ Below w.heap.size w w' := by
  have AL := hide (alive_any w htab)
  have HR := hide hr
  have HR' := hide hr'
  have HX := hide hx
  have HY := hide hy
  clear hr hr' hx hy htab
  by_cases g1 : xs.length ≤ 40
  · by_cases g2 : ys.length ≤ 40
    · obtain ⟨S, hS⟩ : ∃ S, S = mulS xs ys := ⟨_, rfl⟩
      have sl : S.1.length ≤ 32 := by rw [hS]; exact mulS_len xs ys
      have NA := hide (fun (W : World) (A1 A2 : Option Addr) (c1 c2 : Nat) (h1 : Rd W W.heap.size A1 xs) (h2 : Rd W W.heap.size A2 ys) (e1 : xs.length ≤ c1) (e2 : c1 ≤ 9223372036854775807) (e3 : ys.length ≤ c2) (e4 : c2 ≤ 9223372036854775807) => by
        have q := nmul_any A1 A2 c1 c2 W.heap.size _ _ W h1 h2 HX.out HY.out e1 e3 e2 e4 (Nat.le_refl _)
        rw [← hS] at q; exact q)
      have RA := hide (fun (W : World) (h1 : Rd W W.heap.size A xs) (h2 : Rd W W.heap.size A' ys) => by
        have q := rmul_any A A' c c' W.heap.size _ _ W h1 h2 HX.out HY.out hc hc' hcm hcm' (Nat.le_refl _)
        rw [← hS] at q; exact q)
      have NB := hide (fun (W : World) (h1 : Rd W W.heap.size A xs) => k_nbits W A c xs h1 HX.out hc hcm)
      have RB := hide (fun (W : World) (h1 : Rd W W.heap.size A xs) => rbits_any A c W.heap.size xs W h1 HX.out hc hcm)
      generalize bitsS xs = cm at *
      obtain ⟨Sl, Se⟩ := S
      have hcc : (cm == cm) = true := by simp
      clear hS
      go_enter Tryd.func4, Tryd.ntmps4
      go_wp2_with fail
      refine AL.out.mono ?_
      rintro e w1 ⟨rfl, b1⟩
      go_wp2_with fail
      refine (k_copy w1 A c xs (HR.out.on b1) (by omega)).mono ?_
      rintro e w2 ⟨Ao, co, rfl, o1, o2, o3, b2⟩
      have e2 := b1.trans (b2.mono b1.size)
      go_wp2_with fail
      refine (k_copy w2 A' c' ys (HR'.out.on e2) (by omega)).mono ?_
      rintro e w3 ⟨Am, cm', rfl, m1, m2, m3, b3⟩
      have e3 := e2.trans (b3.mono e2.size)
      go_wp2_with fail
      refine (NA.out w3 Ao Am co cm' (o3.on b3) m3 o1 o2 m1 m2).mono ?_
      rintro e w4 ⟨Ax, cx, rfl, x1, x2, x3, b4⟩
      have e4 := e3.trans (b4.mono e3.size)
      go_wp2_with fail
      refine (RA.out w4 (HR.out.on e4) (HR'.out.on e4)).mono ?_
      rintro e w5 ⟨Ay, cy, rfl, y1, y2, y3, b5⟩
      have e5 := e4.trans (b5.mono e4.size)
      go_wp2_with fail
      refine (k_same w5 Ax Ay cx cy Sl (x3.on b5) y3 (by omega)).mono ?_
      rintro e w8 ⟨rfl, b8⟩
      have e8 := e5.trans (b8.mono e5.size)
      go_wp2_with fail
      refine (NB.out w8 (HR.out.on e8)).mono ?_
      rintro e w9 ⟨rfl, b9⟩
      have e9 := e8.trans (b9.mono e8.size)
      go_wp2_with fail
      refine (RB.out w9 (HR.out.on e9)).mono ?_
      rintro e w10 ⟨rfl, rfl⟩
      go_wp2_with fail
      refine (k_same w9 Ao A co c xs (((((o3.on b3).on b4).on b5).on b8).on b9) (HR.out.on e9) (by omega)).mono ?_
      rintro e w14 ⟨rfl, b14⟩
      have e14 := e9.trans (b14.mono e9.size)
      go_wp2_with fail
      refine (k_same w14 Am A' cm' c' ys (((((m3.on b4).on b5).on b8).on b9).on b14) (HR'.out.on e14) (by omega)).mono ?_
      rintro e w15 ⟨rfl, b15⟩
      have e15 := e14.trans (b15.mono e14.size)
      go_wp2
      go_ret
      exact ⟨rfl, e15⟩
    · go_enter Tryd.func4, Tryd.ntmps4
      go_wp2_with fail
      refine AL.out.mono ?_
      rintro e w1 ⟨rfl, b1⟩
      go_wp2
      go_ret
      exact ⟨rfl, b1⟩
  · go_enter Tryd.func4, Tryd.ntmps4
    go_wp2_with fail
    refine AL.out.mono ?_
    rintro e w1 ⟨rfl, b1⟩
    go_wp2
    go_ret
    exact ⟨rfl, b1⟩
end Go.Proofs.YthnfdbgejmkaaaaDoor
