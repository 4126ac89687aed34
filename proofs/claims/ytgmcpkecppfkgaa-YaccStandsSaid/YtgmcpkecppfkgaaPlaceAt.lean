/- Contracts of At over this program, and of the document's own; places of a text, and their order. -/
import Derived.Test.YtgmcpkecppfkgaaPlaceFn
import Derived.Test.YtgmcpkecppfkgaaBytes
namespace Go.Proofs.Ytgmcpkecppfkgaa
set_option maxRecDepth 100000
open Go.RowKit

namespace Pl
def stp (p : Int × Int) (z : Int) : Int × Int := if z = 10 then (p.1 + 1, 1) else (p.1, p.2 + 1)
/-- The place behind a text. -/
def pos (l : List Int) : Int × Int := l.foldl stp (1, 1)
theorem pos_snoc (l : List Int) (z : Int) : pos (l ++ [z]) = stp (pos l) z := by unfold pos; rw [List.foldl_append]; rfl
theorem pos_next (l : List Int) (k : Nat) (h : k < l.length) : pos (l.take (k + 1)) = stp (pos (l.take k)) (l.getD k 0) := by rw [L.take_snoc l k h, pos_snoc]
theorem pos_bd (l : List Int) (k : Nat) (h : k ≤ l.length) : 1 ≤ (pos (l.take k)).1 ∧ (pos (l.take k)).1 ≤ 1 + k ∧ 1 ≤ (pos (l.take k)).2 ∧ (pos (l.take k)).2 ≤ 1 + k := by
  induction k with
  | zero => simp [pos]
  | succ k ih =>
    have := ih (by omega)
    rw [pos_next l k (by omega)]
    unfold stp
    split <;> simp only <;> omega
theorem pos_lt (l : List Int) (i k : Nat) (h : i < k) (hk : k ≤ l.length) : befP (pos (l.take i)).1 (pos (l.take i)).2 (pos (l.take k)).1 (pos (l.take k)).2 = true := by
  induction k with
  | zero => omega
  | succ k ih =>
    rw [pos_next l k (by omega)]
    by_cases e : i = k
    · subst e
      unfold stp befP
      split <;> simp
      all_goals omega
    · have := ih (by omega) (by omega)
      unfold befP at this ⊢
      unfold stp
      simp only [Bool.or_eq_true, Bool.and_eq_true, decide_eq_true_eq] at this ⊢
      split <;> simp only <;> omega
end Pl

theorem rat_out (A : Option Addr) (c n : Nat) (i : Int) (w : World) (h : i < 0 ∨ (n : Int) < i) :
    Calls Try.prog 13 #[.slice A n c, .int .i64 i] w fun e w' => e = .returned (.complex .f64 0 0) ∧ w = w' := by
  by_cases h1 : i < 0
  · clear h
    go_enter Try.func13, Try.ntmps13
    go_wp2
    go_ret
    exact ⟨rfl, rfl⟩
  · have h2 : (n : Int) < i := by omega
    clear h
    go_enter Try.func13, Try.ntmps13
    go_wp2
    go_ret
    exact ⟨rfl, rfl⟩

set_option maxHeartbeats 1000000 in
theorem rat_in (A : Option Addr) (c B : Nat) (l : List Int) (i : Nat) (w : World) (hr : RdB w B A l) (hn : l.length ≤ 2000) (hi : i ≤ l.length) :
    Calls Try.prog 13 #[.slice A l.length c, .int .i64 i] w fun e w' => e = .returned (.complex .f64 (Fl.fl (Pl.pos (l.take i)).1) (Fl.fl (Pl.pos (l.take i)).2)) ∧ w = w' := by
  have hi' : ¬ (l.length : Int) < i := by omega
  go_enter Try.func13, Try.ntmps13
  go_wp2
  go_loop [7, 5, 6] (fun vi vl vc => ∃ (k : Nat), k ≤ i ∧ vi = .int .i64 k ∧ vl = .int .i64 (Pl.pos (l.take k)).1 ∧ vc = .int .i64 (Pl.pos (l.take k)).2) (fun vi _ _ => i - (intOf vi).toNat)
  case atStart => exact ⟨0, by omega, rfl, rfl, rfl⟩
  case round =>
    obtain ⟨k, hk, rfl, rfl, rfl⟩ := hrel
    have hb := Pl.pos_bd l k (by omega)
    by_cases hlt : k < i
    · obtain ⟨g, o, rfl, _, hcl⟩ := hr (by omega)
      have hcell := hcl k (by omega)
      have hnx := hide (Pl.pos_next l k (by omega))
      have hkl : k < l.length := by omega
      generalize l.getD k 0 = z at *
      generalize Pl.pos (l.take k) = p at *
      obtain ⟨x, y⟩ := p
      simp only at hb
      obtain ⟨b1, b2, b3, b4⟩ := hb
      clear hcl
      by_cases h10 : z = 10
      · subst h10
        go_wp2
        go_round
        case rel => exact ⟨k + 1, by omega, by go_num, by rw [hnx.out]; rfl, by rw [hnx.out]; rfl⟩
        case measure => simp [intOf]; omega
      · have h11 : (z == 10) = false := by simpa using h10
        have HN := hide h10
        clear h10
        go_wp2
        go_round
        case rel => exact ⟨k + 1, by omega, by go_num, by rw [hnx.out]; unfold Pl.stp; rw [if_neg HN.out], by rw [hnx.out]; unfold Pl.stp; rw [if_neg HN.out]⟩
        case measure => simp [intOf]; omega
    · obtain rfl : k = i := by omega
      clear hr
      have HS := hide (fun w => rof_yes (Pl.pos (l.take k)).1 (Pl.pos (l.take k)).2 w (by unfold okN; omega) (by unfold okN; omega))
      clear hb
      go_wp2_with fail
      refine (HS.out _).mono ?_; rintro _ w' ⟨rfl, rfl⟩
      go_wp2
      go_ret
      exact ⟨rfl, rfl⟩
end Go.Proofs.Ytgmcpkecppfkgaa
