/- Contracts of slices.Index and slices.Contains of ints, over this program. -/
import Derived.Test.YtoehbkgdodogkaaGreatWordsI
namespace Go.Proofs.YtoehbkgdodogkaaGreat
set_option maxRecDepth 100000
open Go.RowKit

/-- The first place of a number in a list; below 0: there is none. -/
def ixI (z : Int) : List Int → Int
  | [] => -1
  | x :: r => if z = x then 0 else if ixI z r < 0 then -1 else ixI z r + 1
theorem ixI_cons (z x : Int) (r : List Int) : ixI z (x :: r) = if z = x then 0 else if ixI z r < 0 then -1 else ixI z r + 1 := rfl
theorem ixI_ge (z : Int) : ∀ l, -1 ≤ ixI z l
  | [] => by simp [ixI]
  | x :: r => by
    have := ixI_ge z r
    unfold ixI
    split
    · omega
    split <;> omega
theorem ixI_has (z : Int) : ∀ l : List Int, decide (0 ≤ ixI z l) = l.contains z
  | [] => by simp [ixI]
  | x :: r => by
    have ih := ixI_has z r
    unfold ixI
    by_cases h : z = x
    · subst h; simp
    · rw [if_neg h]
      have e : (x :: r).contains z = r.contains z := by rw [List.contains_cons]; simp [h]
      rw [e, ← ih]
      split
      · rename_i h2; rw [decide_eq_false (by omega), decide_eq_false (by omega)]
      · rename_i h2; rw [decide_eq_true (by omega), decide_eq_true (by omega)]

set_option maxHeartbeats 1000000 in
theorem index_int (A : Option Addr) (c B : Nat) (l : List Int) (z : Int) (w : World) (hr : RdI w B A l) (hn : l.length ≤ 1000) :
    Calls Tryz.prog 117 #[.slice A l.length c, .int .i64 z] w fun e w' => e = .returned (.int .i64 (ixI z l)) ∧ w = w' := by
  have HX : Hid (∀ k, (∀ j, j < k → l.getD j 0 ≠ z) → k ≤ l.length → ixI z l = if ixI z (l.drop k) < 0 then -1 else ixI z (l.drop k) + k) := hide (by
    intro k
    induction k with
    | zero => intro _ _; have := ixI_ge z l; simp; intro; omega
    | succ k ih =>
      intro h hk
      rw [ih (fun j hj => h j (by omega)) (by omega), L.cons_drop l k (by omega)]
      have h1 := h k (by omega)
      have h2 := ixI_ge z (l.drop (k + 1))
      rw [ixI_cons, if_neg (Ne.symm h1)]
      by_cases h3 : ixI z (l.drop (k + 1)) < 0
      · rw [if_pos h3, if_pos h3, if_pos (by omega)]
      · rw [if_neg h3, if_neg h3, if_neg (by omega)]; omega)
  go_enter Tryz.func117, Tryz.ntmps117
  go_wp2
  go_loop [8] (fun vi => ∃ (k : Nat), k ≤ l.length ∧ vi = .int .i64 k ∧ ∀ j, j < k → l.getD j 0 ≠ z) (fun vi => l.length - (intOf vi).toNat)
  case atStart => exact ⟨0, by omega, rfl, fun j hj => by omega⟩
  case round =>
    obtain ⟨k, hk, rfl, hs⟩ := hrel
    have HS := hide hs
    clear hs
    by_cases hlt : k < l.length
    · obtain ⟨g, o, rfl, _, hcl⟩ := hr (by omega)
      have hcell := hcl k hlt
      have HD := hide (L.cons_drop l k hlt)
      have HXk := hide (HX.out k HS.out (by omega))
      clear hcl hr HX
      generalize hy : l.getD k 0 = y at *
      have HY := hide hy
      clear hy
      by_cases hz : z = y
      · have hz' : (z == y) = true := by simpa using hz
        have HZ := hide hz
        clear hz
        go_wp2
        go_ret
        refine ⟨ret_int ?_, rfl⟩
        rw [HXk.out, HD.out, ixI_cons, if_pos HZ.out]; simp
      · have hz' : (z == y) = false := by simpa using hz
        have HZ := hide hz
        clear hz
        go_wp2
        go_round
        case rel =>
          refine ⟨k + 1, by omega, by go_num, fun j hj => ?_⟩
          by_cases hjk : j = k
          · subst hjk; rw [HY.out]; exact Ne.symm HZ.out
          · exact HS.out j (by omega)
        case measure => simp [intOf]; omega
    · obtain rfl : k = l.length := by omega
      go_wp2
      go_ret
      refine ⟨ret_int ?_, rfl⟩
      rw [HX.out _ HS.out (Nat.le_refl _), List.drop_length]; simp [ixI]

theorem contains_int (A : Option Addr) (c B : Nat) (l : List Int) (z : Int) (w : World) (hr : RdI w B A l) (hn : l.length ≤ 1000) :
    Calls Tryz.prog 100 #[.slice A l.length c, .int .i64 z] w fun e w' => e = .returned (.bool (l.contains z)) ∧ w = w' := by
  have P := hide (fun w (h : RdI w B A l) => index_int A c B l z w h hn)
  have HR := hide hr
  have HH := hide (ixI_has z l)
  clear hr hn
  generalize ixI z l = i at *
  go_enter Tryz.func100, Tryz.ntmps100
  go_wp2_with fail
  refine (P.out _ HR.out).mono ?_; rintro _ w' ⟨rfl, rfl⟩
  go_wp2
  go_ret
  exact ⟨ret_bool HH.out, rfl⟩
end Go.Proofs.YtoehbkgdodogkaaGreat
