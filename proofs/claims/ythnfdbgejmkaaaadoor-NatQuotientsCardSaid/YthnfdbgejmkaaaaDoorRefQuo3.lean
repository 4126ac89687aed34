/- Contract of the document's Quo over this program, for every two lists of limbs. -/
import Derived.Test.YthnfdbgejmkaaaaDoorRefQuo2
namespace Go.Proofs.YthnfdbgejmkaaaaDoor
open Go.RowKit

theorem quoS_canon {xs ys : List Int} (hx : M.Lim xs) (hy : M.Lim ys) (h1 : right xs = true) (h2 : right ys = true) (h3 : ys.length ≠ 0) :
    quoS xs ys = (M.canon ((M.val xs).toNat / (M.val ys).toNat), M.canon ((M.val xs).toNat % (M.val ys).toNat), 0) := by
  have a := M.val_nonneg hx
  have b := M.val_nonneg hy
  unfold quoS
  rw [h1, h2, if_pos (by simpa using h3)]
  generalize M.val xs = X at *
  generalize M.val ys = Y at *
  obtain ⟨x, rfl⟩ := Int.eq_ofNat_of_zero_le a
  obtain ⟨y, rfl⟩ := Int.eq_ofNat_of_zero_le b
  rw [← Int.natCast_ediv, ← Int.natCast_emod]
  rfl

set_option maxHeartbeats 2000000 in
set_option maxRecDepth 100000 in
theorem rquo_any (A A' : Option Addr) (ca cb : Nat) (xs ys : List Int) (w : World) (hra : Rd w w.heap.size A xs) (hrb : Rd w w.heap.size A' ys) (hx : M.Lim xs) (hy : M.Lim ys) (hxc : xs.length ≤ 9223372036854775807) (hyc : ys.length ≤ 9223372036854775807) :
    Calls Tryd.prog 35 #[.slice A xs.length ca, .slice A' ys.length cb] w (RetQ (quoS xs ys) w) := by
  have C1 := rright_any A ca w.heap.size xs w hra (by omega)
  have C2 := rright_any A' cb w.heap.size ys w hrb (by omega)
  by_cases h1 : right xs = true
  · by_cases h2 : right ys = true
    · by_cases h3 : ys.length = 0
      · have hS : quoS xs ys = ([], [], 1) := by unfold quoS; rw [h3]; simp
        rw [hS]
        rw [h1] at C1
        rw [h2] at C2
        have D1 := hide C1
        have D2 := hide C2
        have hz : ((ys.length : Int) == 0) = true := by rw [h3]; rfl
        clear C1 C2 hS h1 h2 h3 hra hrb hx hy
        go_enter Tryd.func35, Tryd.ntmps35
        go_wp2_with fail
        refine D1.out.mono ?_; rintro e w' ⟨rfl, rfl⟩
        go_wp2_with fail
        refine D2.out.mono ?_; rintro e w' ⟨rfl, rfl⟩
        go_wp2
        go_ret3
        exact RetQ.bad _ _ (Below.refl _ _)
      · rw [quoS_canon hx hy h1 h2 h3]
        have ea := canon_of_right hx h1
        have eb := canon_of_right hy h2
        have la := right_len h1
        have lb := right_len h2
        have hu0 : (M.val ys).toNat ≠ 0 := by
          intro e
          rw [e, M.canon_zero] at eb
          exact h3 (by rw [eb]; rfl)
        generalize (M.val xs).toNat = v at *
        generalize (M.val ys).toNat = u at *
        subst ea
        subst eb
        exact rquo_main A A' ca cb v u w hra hrb la lb hu0
    · have h2 : right ys = false := by simpa using h2
      have hS : quoS xs ys = ([], [], 1) := by unfold quoS; rw [h1, h2]; rfl
      rw [hS]
      rw [h1] at C1
      rw [h2] at C2
      have D1 := hide C1
      have D2 := hide C2
      clear C1 C2 hS h1 h2 hra hrb hx hy
      go_enter Tryd.func35, Tryd.ntmps35
      go_wp2_with fail
      refine D1.out.mono ?_; rintro e w' ⟨rfl, rfl⟩
      go_wp2_with fail
      refine D2.out.mono ?_; rintro e w' ⟨rfl, rfl⟩
      go_wp2
      go_ret3
      exact RetQ.bad _ _ (Below.refl _ _)
  · have h1 : right xs = false := by simpa using h1
    have hS : quoS xs ys = ([], [], 1) := by unfold quoS; rw [h1]; rfl
    rw [hS]
    rw [h1] at C1
    have D1 := hide C1
    clear C1 C2 hS h1 hra hrb hx hy
    go_enter Tryd.func35, Tryd.ntmps35
    go_wp2_with fail
    refine D1.out.mono ?_; rintro e w' ⟨rfl, rfl⟩
    go_wp2
    go_ret3
    exact RetQ.bad _ _ (Below.refl _ _)
end Go.Proofs.YthnfdbgejmkaaaaDoor
