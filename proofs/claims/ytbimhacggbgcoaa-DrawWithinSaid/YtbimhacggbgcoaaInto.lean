/- Contracts of the functions that turn a slice of the call's own in its place: addTo, takeFrom, divideBy, over this program. -/
import Derived.Test.YtbimhacggbgcoaaLeaf
import Derived.Test.YtbimhacggbgcoaaBits
namespace Go.Proofs.Ytbimhacggbgcoaa
open Go.RowKit

def AddTo (g : Nat) (pre xs post ys : List Int) (w : World) (e : Ending) (w' : World) : Prop :=
  ∃ (xs' : List Int) (c : Int), e = .returned (.bool (c != 0)) ∧ (c = 0 ∨ c = 1) ∧ xs'.length = xs.length ∧ M.Lim xs' ∧ M.val xs' + M.pw xs.length * c = M.val xs + M.val ys ∧
    UB w' g (pre ++ xs' ++ post) ∧ w.grownBy w' (some g)

def TakeFrom (g : Nat) (pre xs post ys : List Int) (n : Int) (w : World) (e : Ending) (w' : World) : Prop :=
  ∃ (xs' : List Int) (t : Int), e = .returned (.bool (t != 0)) ∧ 0 ≤ t ∧ xs'.length = xs.length ∧ M.Lim xs' ∧ M.val xs' = M.val xs - n * M.val ys + M.pw xs.length * t ∧
    UB w' g (pre ++ xs' ++ post) ∧ w.grownBy w' (some g)

set_option maxHeartbeats 400000 in
theorem takeFrom_any (g o cx cy : Nat) (n : Int) (A : Option Addr) (pre xs post ys : List Int) (w : World) (hu : UB w g (pre ++ xs ++ post)) (ho : o = pre.length) (hx : M.Lim xs) (hr : Rd w g A ys) (hy : M.Lim ys)
    (_hl : ys.length ≤ xs.length) (_hn : xs.length ≤ 9223372036854775807) (_n0 : 0 ≤ n) (_n1 : n < 4294967296) :
    Calls Try.prog 33 #[.slice (some ⟨g, o, none⟩) xs.length cx, .slice A ys.length cy, .int .u32 n] w (TakeFrom g pre xs post ys n w) := by
  have hglt := hu.lt
  go_enter Try.func33, Try.ntmps33
  go_wp2
  go_loopw [7, 8, 12] (fun vc vb vk wr => ∃ (k : Nat) (c b : Int) (xk : List Int), k ≤ xs.length ∧ vk = .int .i64 k ∧ vc = .int .u64 c ∧ vb = .int .u32 b ∧ 0 ≤ c ∧ c < 4294967296 ∧ 0 ≤ b ∧ b ≤ 1 ∧ xk.length = xs.length ∧ M.Lim xk ∧ xk.drop k = xs.drop k ∧
      M.val (xk.take k) = M.val (xs.take k) - n * M.val (ys.take k) + M.pw k * (c + b) ∧ UB wr g (pre ++ xk ++ post) ∧ w.grownBy wr (some g)) (fun _ _ vk _ => xs.length - (intOf vk).toNat)
  case atStart => exact ⟨0, 0, 0, xs, Nat.zero_le _, rfl, rfl, rfl, by omega, by omega, by omega, by omega, rfl, hx, rfl, by simp [M.val], hu, World.grownBy.refl _ _⟩
  case round =>
    obtain ⟨k, c, b, xk, hk, rfl, rfl, rfl, hc0, hc1, hb0, hb1, hlen, hlim, hdrop, hval, hub, hgr⟩ := hrel
    by_cases hlt : k < xs.length
    · have hcell := hub.mid ho k (by omega)
      have hfr := hub.frozen (o + k)
      rw [M.drop_getD hdrop] at hcell
      have bx := hx.getD k
      have b_y := hy.getD k
      generalize hX : xs.getD k 0 = x at *
      generalize hY : ys.getD k 0 = y at *
      have bm := mul_bd b_y.1 b_y.2 _n0 _n1
      have HX := hide hX
      have HY := hide hY
      have HO := hide ho
      have HL := hide hlen
      have HD := hide hdrop
      have HV := hide hval
      clear hX hY ho hlen hdrop hval hu
      have hrel' : ∀ cc lo wz, cc = c + y * n → lo = cc % 4294967296 → wz = wr.setCell ⟨g, o + k, none⟩ (.int .u32 ((x - lo - b) % 4294967296)) → ∃ (k' : Nat) (c' b' : Int) (xk' : List Int), k' ≤ xs.length ∧ Value.int .i64 ((k : Int) + 1) = .int .i64 k' ∧ Value.int .u64 (cc / 4294967296) = .int .u64 c' ∧
          Value.int .u32 (bor x lo b) = .int .u32 b' ∧ 0 ≤ c' ∧ c' < 4294967296 ∧ 0 ≤ b' ∧ b' ≤ 1 ∧ xk'.length = xs.length ∧ M.Lim xk' ∧ xk'.drop k' = xs.drop k' ∧ M.val (xk'.take k') = M.val (xs.take k') - n * M.val (ys.take k') + M.pw k' * (c' + b') ∧ UB wz g (pre ++ xk' ++ post) ∧ w.grownBy wz (some g) := by
        rintro cc lo wz hcc hlo rfl
        have h2 := HL.out
        have hb := bor_is x lo b bx.1 bx.2 (by omega) (by omega) hb0 hb1
        refine ⟨k + 1, cc / 4294967296, bor x lo b, xk.set k ((x - lo - b) % 4294967296), hlt, by go_num, rfl, rfl, by omega, by omega, hb.2.1, hb.2.2, by rw [List.length_set]; exact h2, hlim.set k (by omega) (by omega), by rw [M.set_drop]; exact M.drop_more HD.out,
          M.take_step (by omega) HV.out HX.out HY.out hcc (by omega) hb.1, hub.mid_set HO.out k _ (by omega), only_set hgr _ _⟩
      have HR := hide hrel'
      clear hrel'
      by_cases hy2 : k < ys.length
      · obtain ⟨gy, oy, rfl, hgy, hcy⟩ := (hr.grown hgr (Nat.le_refl g) (Nat.le_of_lt hglt)) (by omega)
        have hcy2 := hcy k hy2
        rw [HY.out] at hcy2
        clear hcy hr
        go_wp2_with (go_at_call 39; refine (sub32_any _ _ _ _ (by omega) (by omega) (by omega) (by omega) (by omega) (by omega)).mono ?_; rintro e w' ⟨rfl, rfl⟩)
        go_roundw
        case rel => exact HR.out (c + y * n) _ _ rfl rfl rfl
        case measure => simp [intOf]; omega
      · have hy0 : y = 0 := by rw [← HY.out]; exact M.gd_ge (by omega)
        subst hy0
        clear hr
        go_wp2_with (go_at_call 39; refine (sub32_any _ _ _ _ (by omega) (by omega) (by omega) (by omega) (by omega) (by omega)).mono ?_; rintro e w' ⟨rfl, rfl⟩)
        go_roundw
        case rel => exact HR.out c c _ (by omega) (by omega) rfl
        case measure => simp [intOf]; omega
    · obtain rfl : k = xs.length := by omega
      rw [List.take_of_length_le (by omega), List.take_of_length_le (by omega), List.take_of_length_le (by omega)] at hval
      have HL := hide hlen
      have HV := hide hval
      clear hlen hval hdrop hu
      have fin : ∀ B : Bool, B = (c + b != 0) → TakeFrom g pre xs post ys n w (.returned (.bool B)) wr := by
        rintro B rfl; exact ⟨xk, c + b, rfl, by omega, HL.out, hlim, HV.out, hub, hgr⟩
      have FIN := hide fin
      clear fin
      by_cases hcz : c = 0
      · have hcz' : (c != 0) = false := by simpa using hcz
        clear hcz
        go_wp2
        go_ret
        exact FIN.out _ (by simp at hcz'; simp [hcz'])
      · have hcz' : (c != 0) = true := by simpa using hcz
        go_wp2
        go_ret
        exact FIN.out _ (by symm; rw [bne_iff_ne]; omega)

end Go.Proofs.Ytbimhacggbgcoaa
