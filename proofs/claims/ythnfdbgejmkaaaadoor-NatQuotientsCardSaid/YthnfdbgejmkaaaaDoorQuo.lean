/- Contract of nat's Quo over this program. -/
import Derived.Test.YthnfdbgejmkaaaaDoorLong
import Derived.Test.YthnfdbgejmkaaaaDoorKit
namespace Go.Proofs.YthnfdbgejmkaaaaDoor
open Go.RowKit

def quoS (xs ys : List Int) : List Int × List Int × Int := if right xs && right ys && ys.length != 0 then (M.canon (M.val xs / M.val ys).toNat, M.canon (M.val xs % M.val ys).toNat, 0) else ([], [], 1)
/-- What is answered: two numbers, in new memory or none, and an error's number. -/
def RetQ (r : List Int × List Int × Int) (w : World) (e : Ending) (w' : World) : Prop :=
  ∃ A1 c1 A2 c2, e = .returned (.tuple #[.slice A1 r.1.length c1, .slice A2 r.2.1.length c2, .int .i64 r.2.2]) ∧ r.1.length ≤ c1 ∧ c1 ≤ 9223372036854775807 ∧ r.2.1.length ≤ c2 ∧ c2 ≤ 9223372036854775807 ∧ Rd w' w'.heap.size A1 r.1 ∧ Rd w' w'.heap.size A2 r.2.1 ∧ Below w.heap.size w w'
theorem RetQ.bad (w w' : World) (h : Below w.heap.size w w') : RetQ ([], [], 1) w (.returned (.tuple #[.slice none 0 0, .slice none 0 0, .int .i64 1])) w' :=
  ⟨none, 0, none, 0, rfl, Nat.le_refl _, by omega, Nat.le_refl _, by omega, Rd.nil _ _ _, Rd.nil _ _ _, h⟩

set_option maxHeartbeats 2000000 in
set_option maxRecDepth 100000 in
theorem nquo_any (A A' : Option Addr) (ca cb : Nat) (xs ys : List Int) (w : World) (hra : Rd w w.heap.size A xs) (hrb : Rd w w.heap.size A' ys) (hx : M.Lim xs) (hy : M.Lim ys) (hxc : xs.length ≤ ca) (hyc : ys.length ≤ cb) (hca : ca ≤ 9223372036854775807) (hcb : cb ≤ 9223372036854775807) :
    Calls Tryd.prog 34 #[.slice A xs.length ca, .slice A' ys.length cb] w (RetQ (quoS xs ys) w) := by
  have C1 := fun (W : World) (h : Rd W W.heap.size A xs) => nright_any A ca W.heap.size xs W h (by omega)
  have C2 := fun (W : World) (h : Rd W W.heap.size A' ys) => nright_any A' cb W.heap.size ys W h (by omega)
  by_cases h1 : right xs = true
  · by_cases h2 : right ys = true
    · by_cases h3 : ys.length = 0
      · have hS : quoS xs ys = ([], [], 1) := by unfold quoS; rw [h3]; simp
        rw [hS]
        have q1 := C1 w hra
        have q2 := C2 w hrb
        rw [h1] at q1
        rw [h2] at q2
        have D1 := hide q1
        have D2 := hide q2
        have hz : ((ys.length : Int) == 0) = true := by rw [h3]; rfl
        clear q1 q2 C1 C2 hS h1 h2 h3 hra hrb hx hy
        go_enter Tryd.func34, Tryd.ntmps34
        go_wp2_with fail
        refine D1.out.mono ?_; rintro e w' ⟨rfl, rfl⟩
        go_wp2_with fail
        refine D2.out.mono ?_; rintro e w' ⟨rfl, rfl⟩
        go_wp2
        go_ret3
        exact RetQ.bad _ _ (Below.refl _ _)
      · have hS : quoS xs ys = (M.canon (M.val xs / M.val ys).toNat, M.canon (M.val xs % M.val ys).toNat, 0) := by unfold quoS; rw [h1, h2, if_pos (by simpa using h3)]
        rw [hS]
        have l1 := right_len h1
        have hcan := canon_of_right hx h1
        have hlow := right_low h2 hy h3
        obtain ⟨n, hn⟩ : ∃ n, ys.length = n + 1 := ⟨ys.length - 1, by omega⟩
        have htop : ys.getD n 0 ≠ 0 := by
          unfold right at h2; simp at h2
          rcases h2 with h2 | h2
          · rw [h2] at h3; exact absurd rfl h3
          · have := h2.2; rw [hn, Nat.add_sub_cancel] at this; simpa [List.getD] using this
        have K := k_ncmp w A A' ca cb xs ys hra hrb hx hy hxc hca hyc hcb
        rw [show cmpS xs ys = cmpI (M.val xs) (M.val ys) by unfold cmpS; rw [h1, h2]; rfl] at K
        have q1 := C1 w hra
        have q2 := C2 w hrb
        rw [h1] at q1
        rw [h2] at q2
        have D1 := hide q1
        have D2 := hide q2
        have hz : ((ys.length : Int) == 0) = false := beq_eq_false_iff_ne.2 (by omega)
        by_cases hlt : M.val xs < M.val ys
        · rw [cmpI_lt hlt] at K
          have D3 := hide K
          have hq0 : M.val xs / M.val ys = 0 := Int.ediv_eq_zero_of_lt (M.val_nonneg hx) hlt
          have hr0 : M.val xs % M.val ys = M.val xs := Int.emod_eq_of_lt (M.val_nonneg hx) hlt
          rw [hq0, hr0, ← hcan, show M.canon (0 : Int).toNat = [] from M.canon_zero]
          have HRA := hide hra
          clear q1 q2 K C1 C2 hS h1 h2 h3 hra hrb hx hy hlow htop hn hcan hlt hq0 hr0
          go_enter Tryd.func34, Tryd.ntmps34
          go_wp2_with fail
          refine D1.out.mono ?_; rintro e w' ⟨rfl, rfl⟩
          go_wp2_with fail
          refine D2.out.mono ?_; rintro e w' ⟨rfl, rfl⟩
          go_wp2_with fail
          refine D3.out.mono ?_; rintro e w1 ⟨rfl, b1⟩
          go_wp2_with fail
          refine (clone_any A ca w1.heap.size xs w1 (HRA.out.on b1) (by omega) (Nat.le_refl _)).mono ?_
          rintro e w2 ⟨v, rfl, ho, b2⟩
          obtain ⟨A2, c2, rfl, y1, y2, y3⟩ := ho.form
          have e2 := b1.trans (b2.mono b1.size)
          clear ho
          go_wp2
          go_ret3
          exact ⟨none, 0, A2, c2, rfl, Nat.le_refl _, by omega, y1, by unfold maxLen at y2; omega, Rd.nil _ _ _, y3, e2⟩
        · have hcc : 0 ≤ cmpI (M.val xs) (M.val ys) := by unfold cmpI; rw [if_neg hlt]; split <;> omega
          have hll := val_le_len hx hy h2 (by omega)
          generalize cmpI (M.val xs) (M.val ys) = cc at *
          have D3 := hide K
          have DV := hide (fun (W : World) (h1 : Rd W W.heap.size A xs) (h2 : Rd W W.heap.size A' ys) => divide_any A A' ca cb W.heap.size n xs ys W h1 h2 hx hy (Nat.le_refl _) hn hll l1 htop (by omega))
          generalize M.canon (M.val xs / M.val ys).toNat = Q at *
          generalize M.canon (M.val xs % M.val ys).toNat = R at *
          have HRA := hide hra
          have HRB := hide hrb
          clear q1 q2 K C1 C2 hS h1 h2 h3 hra hrb hx hy hlow htop hn hcan hlt
          go_enter Tryd.func34, Tryd.ntmps34
          go_wp2_with fail
          refine D1.out.mono ?_; rintro e w' ⟨rfl, rfl⟩
          go_wp2_with fail
          refine D2.out.mono ?_; rintro e w' ⟨rfl, rfl⟩
          go_wp2_with fail
          refine D3.out.mono ?_; rintro e w1 ⟨rfl, b1⟩
          go_wp2_with fail
          refine (DV.out w1 (HRA.out.on b1) (HRB.out.on b1)).mono ?_
          rintro e w2 ⟨A1, c1, A2, c2, rfl, u1, u2, u3, u4, u5, u6, b2⟩
          have e2 := b1.trans (b2.mono b1.size)
          go_wp2
          go_ret3
          exact ⟨A1, c1, A2, c2, rfl, u1, u2, u3, u4, u5, u6, e2⟩
    · have h2 : right ys = false := by simpa using h2
      have hS : quoS xs ys = ([], [], 1) := by unfold quoS; rw [h1, h2]; rfl
      rw [hS]
      have q1 := C1 w hra
      have q2 := C2 w hrb
      rw [h1] at q1
      rw [h2] at q2
      have D1 := hide q1
      have D2 := hide q2
      clear q1 q2 C1 C2 hS h1 h2 hra hrb hx hy
      go_enter Tryd.func34, Tryd.ntmps34
      go_wp2_with fail
      refine D1.out.mono ?_; rintro e w' ⟨rfl, rfl⟩
      go_wp2_with fail
      refine D2.out.mono ?_; rintro e w' ⟨rfl, rfl⟩
      go_wp2
      go_ret3
      exact RetQ.bad _ _ (Below.refl _ _)
  · have h1 : right xs = false := by simpa using h1
    have hS : quoS xs ys = ([], [], 1) := by unfold quoS; rw [h1]; rfl
    rw [hS]
    have q1 := C1 w hra
    rw [h1] at q1
    have D1 := hide q1
    clear q1 C1 C2 hS h1 hra hrb hx hy
    go_enter Tryd.func34, Tryd.ntmps34
    go_wp2_with fail
    refine D1.out.mono ?_; rintro e w' ⟨rfl, rfl⟩
    go_wp2
    go_ret3
    exact RetQ.bad _ _ (Below.refl _ _)
end Go.Proofs.YthnfdbgejmkaaaaDoor
