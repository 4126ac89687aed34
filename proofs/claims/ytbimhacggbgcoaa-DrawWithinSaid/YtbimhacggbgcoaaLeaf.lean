/- Contracts of the functions that only read limbs: limb, Right, neat, trimmed, over this program. -/
import Derived.Test.YtbimhacggbgcoaaBase
namespace Go.Proofs.Ytbimhacggbgcoaa
open Go.RowKit

theorem limb_any (A : Option Addr) (c i B : Nat) (zs : List Int) (w : World) (hr : Rd w B A zs) (hz : M.Lim zs) (_hl : zs.length ≤ 9223372036854775807) (_hi : i ≤ 9223372036854775807) :
    Calls Try.prog 22 #[.slice A zs.length c, .int .i64 i] w fun e w' => e = .returned (.int .u64 (zs.getD i 0)) ∧ w = w' := by
  by_cases h : zs.length ≤ i
  · have e := M.gd_ge h
    have E := hide e; clear e
    go_enter Try.func22, Try.ntmps22
    go_wp2
    go_ret
    exact ⟨ret_int (by rw [E.out]), rfl⟩
  · have b := hz.getD i
    obtain ⟨g, o, rfl, _, hc⟩ := hr (by omega)
    have hci := hc i (by omega)
    clear hc hr
    generalize zs.getD i 0 = z at *
    go_enter Try.func22, Try.ntmps22
    go_wp2
    go_ret
    exact ⟨rfl, rfl⟩

/-- A number that may be. -/
def right (zs : List Int) : Bool := zs.length == 0 || (decide (zs.length ≤ 32) && zs.getD (zs.length - 1) 0 != 0)

theorem nright_any (A : Option Addr) (c B : Nat) (zs : List Int) (w : World) (hr : Rd w B A zs) (_hl : zs.length ≤ 9223372036854775807) :
    Calls Try.prog 24 #[.slice A zs.length c] w fun e w' => e = .returned (.bool (right zs)) ∧ w = w' := by
  by_cases h0 : zs.length = 0
  · have E : Hid (right zs = true) := by show right zs = true; simp [right, h0]
    have g0 : ((zs.length : Int) == 0) = true := by simp [h0]
    generalize zs.length = n at *
    clear hr
    go_enter Try.func24, Try.ntmps24
    go_wp2
    go_ret
    exact ⟨ret_bool (by rw [E.out]), rfl⟩
  · obtain ⟨k, hk⟩ : ∃ k, zs.length = k + 1 := ⟨zs.length - 1, by omega⟩
    have g0 : ((k : Int) + 1 == 0) = false := by simp; omega
    obtain ⟨g, o, rfl, _, hc⟩ := hr h0
    have hck := hc k (by omega)
    clear hc hr h0
    rw [hk]
    by_cases h1 : k + 1 ≤ 32
    · by_cases h2 : zs.getD k 0 = 0
      · have E : Hid (right zs = false) := by show right zs = false; unfold right; rw [hk, Nat.add_sub_cancel, h2]; simp
        rw [h2] at hck
        clear h2 hk
        go_enter Try.func24, Try.ntmps24
        go_wp2
        go_ret
        exact ⟨ret_bool (by rw [E.out]), rfl⟩
      · have E : Hid (right zs = true) := by show right zs = true; unfold right; rw [hk, Nat.add_sub_cancel]; simp [h1]; simpa [List.getD] using h2
        have h3 : (zs.getD k 0 != 0) = true := by simpa using h2
        generalize zs.getD k 0 = z at *
        clear h2 hk
        go_enter Try.func24, Try.ntmps24
        go_wp2
        go_ret
        exact ⟨ret_bool (by rw [E.out]), rfl⟩
    · have E : Hid (right zs = false) := by show right zs = false; unfold right; rw [hk, Nat.add_sub_cancel]; simp [h1]
      clear hck hk
      go_enter Try.func24, Try.ntmps24
      go_wp2
      go_ret
      exact ⟨ret_bool (by rw [E.out]), rfl⟩

theorem rright_any (A : Option Addr) (c B : Nat) (zs : List Int) (w : World) (hr : Rd w B A zs) (_hl : zs.length ≤ 9223372036854775807) :
    Calls Try.prog 19 #[.slice A zs.length c] w fun e w' => e = .returned (.bool (right zs)) ∧ w = w' := by
  by_cases h0 : zs.length = 0
  · have E : Hid (right zs = true) := by show right zs = true; simp [right, h0]
    have g0 : ((zs.length : Int) == 0) = true := by simp [h0]
    have g1 : zs.length ≤ 32 := by omega
    generalize zs.length = n at *
    clear hr
    go_enter Try.func19, Try.ntmps19
    go_wp2
    go_ret
    exact ⟨ret_bool (by rw [E.out]), rfl⟩
  · obtain ⟨k, hk⟩ : ∃ k, zs.length = k + 1 := ⟨zs.length - 1, by omega⟩
    have g0 : ((k : Int) + 1 == 0) = false := by simp; omega
    obtain ⟨g, o, rfl, _, hc⟩ := hr h0
    have hck := hc k (by omega)
    clear hc hr h0
    rw [hk]
    by_cases h1 : k + 1 ≤ 32
    · by_cases h2 : zs.getD k 0 = 0
      · have E : Hid (right zs = false) := by show right zs = false; unfold right; rw [hk, Nat.add_sub_cancel, h2]; simp
        rw [h2] at hck
        clear h2 hk
        go_enter Try.func19, Try.ntmps19
        go_wp2
        go_ret
        exact ⟨ret_bool (by rw [E.out]), rfl⟩
      · have E : Hid (right zs = true) := by show right zs = true; unfold right; rw [hk, Nat.add_sub_cancel]; simp [h1]; simpa [List.getD] using h2
        have h3 : (zs.getD k 0 != 0) = true := by simpa using h2
        generalize zs.getD k 0 = z at *
        clear h2 hk
        go_enter Try.func19, Try.ntmps19
        go_wp2
        go_ret
        exact ⟨ret_bool (by rw [E.out]), rfl⟩
    · have E : Hid (right zs = false) := by show right zs = false; unfold right; rw [hk, Nat.add_sub_cancel]; simp [h1]
      clear hck hk
      go_enter Try.func19, Try.ntmps19
      go_wp2
      go_ret
      exact ⟨ret_bool (by rw [E.out]), rfl⟩

theorem neat_any (A : Option Addr) (c B : Nat) (zs : List Int) (w : World) (hr : Rd w B A zs) (_hl : zs.length ≤ c) (_hc : c ≤ 9223372036854775807) :
    Calls Try.prog 23 #[.slice A zs.length c] w fun e w' => e = .returned (.slice A (M.trim zs).length c) ∧ w = w' := by
  go_enter Try.func23, Try.ntmps23
  go_wp2
  go_loop [0] (fun v => ∃ k : Nat, k ≤ zs.length ∧ v = .slice A k c ∧ M.trim (zs.take k) = M.trim zs) (fun v => match v with | .slice _ n _ => n | _ => 0)
  case atStart => exact ⟨zs.length, Nat.le_refl _, rfl, by rw [List.take_length]⟩
  case round =>
    obtain ⟨k, hk, rfl, ht⟩ := hrel
    have HT := hide ht; clear ht
    by_cases h0 : k = 0
    · subst h0
      go_wp2
      go_ret
      exact ⟨ret_slice (by rw [← HT.out]; rfl), rfl⟩
    · obtain ⟨j, rfl⟩ : ∃ j, k = j + 1 := ⟨k - 1, by omega⟩
      obtain ⟨g, o, rfl, _, hc⟩ := hr (by omega)
      have hcj := hc j (by omega)
      clear hc hr h0
      by_cases hz : zs.getD j 0 = 0
      · have HZ := hide (M.trim_take_zero (by omega) hz)
        rw [hz] at hcj
        clear hz
        go_wp2
        go_round
        case rel => exact ⟨j, by omega, rfl, by rw [← HZ.out, HT.out]⟩
        case measure => simp
      · have HZ := hide (M.trim_take_stop (by omega) hz)
        have hz' : (zs.getD j 0 == 0) = false := by simpa using hz
        clear hz
        generalize zs.getD j 0 = z at *
        go_wp2
        go_ret
        exact ⟨ret_slice (by rw [← HT.out, HZ.out, List.length_take, Nat.min_eq_left hk]), rfl⟩

theorem trimmed_any (A : Option Addr) (c B : Nat) (zs : List Int) (w : World) (hr : Rd w B A zs) (_hl : zs.length ≤ c) (_hc : c ≤ 9223372036854775807) :
    Calls Try.prog 34 #[.slice A zs.length c] w fun e w' => (∃ A' c', e = .returned (.slice A' (M.trim zs).length c') ∧
      ((M.trim zs = [] ∧ A' = none ∧ c' = 0) ∨ (¬ M.trim zs = [] ∧ A' = A ∧ c' = c))) ∧ w = w' := by
  go_enter Try.func34, Try.ntmps34
  go_wp2
  go_loop [3] (fun vn => ∃ k : Nat, k ≤ zs.length ∧ vn = .int .i64 k ∧ M.trim (zs.take k) = M.trim zs) (fun vn => (intOf vn).toNat)
  case atStart => exact ⟨zs.length, Nat.le_refl _, rfl, by rw [List.take_length]⟩
  case round =>
    obtain ⟨k, hk, rfl, ht⟩ := hrel
    have HT := hide ht; clear ht
    by_cases h0 : k = 0
    · subst h0
      have HE : Hid ((M.trim zs).length = 0) := by show (M.trim zs).length = 0; rw [← HT.out]; rfl
      go_wp2
      go_ret
      exact ⟨⟨none, 0, ret_slice HE.out.symm, .inl ⟨List.eq_nil_of_length_eq_zero HE.out, rfl, rfl⟩⟩, rfl⟩
    · obtain ⟨j, rfl⟩ : ∃ j, k = j + 1 := ⟨k - 1, by omega⟩
      obtain ⟨g, o, rfl, _, hc⟩ := hr (by omega)
      have hcj := hc j (by omega)
      clear hc hr h0
      by_cases hz : zs.getD j 0 = 0
      · have HZ := hide (M.trim_take_zero (by omega) hz)
        rw [hz] at hcj
        clear hz
        go_wp2
        go_round
        case rel => exact ⟨j, by omega, by go_num, by rw [← HZ.out, HT.out]⟩
        case measure => simp [intOf]
      · have HZ := hide (M.trim_take_stop (by omega) hz)
        have hz' : (zs.getD j 0 == 0) = false := by simpa using hz
        have HE : Hid ((M.trim zs).length = j + 1) := by show (M.trim zs).length = j + 1; rw [← HT.out, HZ.out, List.length_take, Nat.min_eq_left hk]
        have hj0 : ((j : Int) + 1 == 0) = false := by simp; omega
        clear hz
        generalize zs.getD j 0 = z at *
        go_wp2
        go_ret
        exact ⟨⟨_, _, ret_slice HE.out.symm, .inr ⟨(fun e => by have := HE.out; rw [e] at this; cases this), rfl, rfl⟩⟩, rfl⟩
end Go.Proofs.Ytbimhacggbgcoaa
