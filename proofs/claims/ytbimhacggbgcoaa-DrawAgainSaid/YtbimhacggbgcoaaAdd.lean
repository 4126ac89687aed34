/- Contracts of nat's Add and Sub over this program: what they answer, said on limbs. -/
import Derived.Test.YtbimhacggbgcoaaInto
import Derived.Test.YtbimhacggbgcoaaArms
namespace Go.Proofs.Ytbimhacggbgcoaa
open Go.RowKit

/-- A number, if it fits; else too great. -/
def fitL (m : Nat) : List Int × Int := if (M.canon m).length ≤ 32 then (M.canon m, 0) else ([], 2)

/-- What is answered: limbs, in new memory or none, and an error's number. -/
def Ret2 (r : List Int × Int) (w : World) (e : Ending) (w' : World) : Prop :=
  ∃ A c, e = .returned (.tuple #[.slice A r.1.length c, .int .i64 r.2]) ∧ r.1.length ≤ c ∧ c ≤ 9223372036854775807 ∧ Rd w' w'.heap.size A r.1 ∧ Below w.heap.size w w'

theorem Ret2.bad (n : Int) (w w' : World) (h : Below w.heap.size w w') : Ret2 ([], n) w (.returned (.tuple #[.slice none 0 0, .int .i64 n])) w' :=
  ⟨none, 0, rfl, Nat.le_refl _, by omega, Rd.nil _ _ _, h⟩

def addS (xs ys : List Int) : List Int × Int := if right xs && right ys then fitL (M.val xs + M.val ys).toNat else ([], 1)

theorem right_len {xs : List Int} (h : right xs = true) : xs.length ≤ 32 := by
  unfold right at h; simp at h; rcases h with h | h
  · subst h; simp
  · exact h.1

theorem takeFrom_n (g o k cx m cy : Nat) (n : Int) (A : Option Addr) (pre xs post ys : List Int) (w : World) (hu : UB w g (pre ++ xs ++ post)) (ho : o = pre.length) (hx : M.Lim xs) (hr : Rd w g A ys) (hy : M.Lim ys)
    (hl : ys.length ≤ xs.length) (hn : xs.length ≤ 9223372036854775807) (n0 : 0 ≤ n) (n1 : n < 4294967296) (en : k = xs.length) (em : m = ys.length) :
    Calls Try.prog 33 #[.slice (some ⟨g, o, none⟩) k cx, .slice A m cy, .int .u32 n] w (TakeFrom g pre xs post ys n w) := by
  subst en em; exact takeFrom_any g o cx cy n A pre xs post ys w hu ho hx hr hy hl hn n0 n1

theorem noughts_drop (n k : Nat) : (List.replicate (n + k) (0 : Int)).drop n = List.replicate k 0 := by
  rw [List.drop_replicate]; congr 1; omega

theorem sum_fin {xs ys xs' : List Int} {c : Int} (hx : M.Lim xs) (hy : M.Lim ys) (hx' : M.Lim xs') (hl : ys.length ≤ xs.length) (hc : c = 0 ∨ c = 1) (_hn : xs'.length = xs.length + 1)
    (hv : M.val xs' + M.pw (xs.length + 1) * c = M.val (xs ++ [0]) + M.val ys) : M.val xs' = M.val xs + M.val ys := by
  rw [M.val_snoc, Int.mul_zero, Int.add_zero] at hv
  have h1 := M.val_lt hx
  have h2 := M.val_lt hy
  have h3 := M.pw_mono hl
  have h4 := M.pw_succ xs.length
  have h5 := M.val_nonneg hx'
  have h6 := M.pw_pos xs.length
  rcases hc with rfl | rfl
  · omega
  · omega

/-! Which is more. -/
def cmpI (x y : Int) : Int := if x < y then -1 else if y < x then 1 else 0
theorem cmpI_lt {x y : Int} (h : x < y) : cmpI x y = -1 := by unfold cmpI; rw [if_pos h]
theorem cmpI_gt {x y : Int} (h : y < x) : cmpI x y = 1 := by unfold cmpI; rw [if_neg (by omega), if_pos h]
theorem cmpI_eq {x : Int} : cmpI x x = 0 := by unfold cmpI; rw [if_neg (by omega), if_neg (by omega)]

theorem cmpu_any (x y : Int) (w : World) : Calls Try.prog 30 #[.int .u32 x, .int .u32 y] w fun e w' => e = .returned (.int .i64 (cmpI x y)) ∧ w = w' := by
  have n1 : (x != x) = false := by simp
  have n2 : (y != y) = false := by simp
  rcases Int.lt_trichotomy x y with h | h | h
  · have E := hide (cmpI_lt h)
    go_enter Try.func30, Try.ntmps30
    go_wp2
    go_ret
    exact ⟨ret_int E.out.symm, rfl⟩
  · subst h
    have E := hide (cmpI_eq (x := x))
    go_enter Try.func30, Try.ntmps30
    go_wp2
    go_ret
    exact ⟨ret_int E.out.symm, rfl⟩
  · have E := hide (cmpI_gt h)
    go_enter Try.func30, Try.ntmps30
    go_wp2
    go_ret
    exact ⟨ret_int E.out.symm, rfl⟩
theorem cmpn_any (x y : Int) (w : World) : Calls Try.prog 29 #[.int .i64 x, .int .i64 y] w fun e w' => e = .returned (.int .i64 (cmpI x y)) ∧ w = w' := by
  have n1 : (x != x) = false := by simp
  have n2 : (y != y) = false := by simp
  rcases Int.lt_trichotomy x y with h | h | h
  · have E := hide (cmpI_lt h)
    go_enter Try.func29, Try.ntmps29
    go_wp2
    go_ret
    exact ⟨ret_int E.out.symm, rfl⟩
  · subst h
    have E := hide (cmpI_eq (x := x))
    go_enter Try.func29, Try.ntmps29
    go_wp2
    go_ret
    exact ⟨ret_int E.out.symm, rfl⟩
  · have E := hide (cmpI_gt h)
    go_enter Try.func29, Try.ntmps29
    go_wp2
    go_ret
    exact ⟨ret_int E.out.symm, rfl⟩
end Go.Proofs.Ytbimhacggbgcoaa
