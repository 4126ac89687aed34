/- Contracts of lex's token and of the place behind bytes; slices of tokens of the call's own; over this program. -/
import Derived.Test.YtoehbkgdodogkaaGreatLexPc
import Derived.Test.YtoehbkgdodogkaaGreatPlaceAt
namespace Go.Proofs.YtoehbkgdodogkaaGreat
set_option maxRecDepth 100000
open Go.RowKit

namespace Pl
/-- The place behind a text that begins at one. -/
def go (p : Int × Int) (l : List Int) : Int × Int := l.foldl stp p
theorem go_nil (p : Int × Int) : go p [] = p := rfl
theorem go_snoc (p : Int × Int) (l : List Int) (z : Int) : go p (l ++ [z]) = stp (go p l) z := by unfold go; rw [List.foldl_append]; rfl
theorem go_next (p : Int × Int) (l : List Int) (k : Nat) (h : k < l.length) : go p (l.take (k + 1)) = stp (go p (l.take k)) (l.getD k 0) := by rw [L.take_snoc l k h, go_snoc]
theorem go_bd (p : Int × Int) (hx : 1 ≤ p.1) (hy : 1 ≤ p.2) (l : List Int) (k : Nat) (h : k ≤ l.length) : 1 ≤ (go p (l.take k)).1 ∧ (go p (l.take k)).1 ≤ p.1 + k ∧ 1 ≤ (go p (l.take k)).2 ∧ (go p (l.take k)).2 ≤ p.2 + k := by
  induction k with
  | zero => simp [go]; omega
  | succ k ih =>
    have := ih (by omega)
    rw [go_next p l k (by omega)]
    unfold stp
    split <;> simp only <;> omega
theorem go_pos (L : List Int) (k n : Nat) : go (pos (L.take k)) ((L.drop k).take n) = pos (L.take (k + n)) := by
  unfold go pos
  rw [← List.foldl_append, ← List.take_add]
end Pl

set_option maxHeartbeats 1000000 in
theorem behind_any (A : Option Addr) (c B : Nat) (l : List Int) (p : Int × Int) (hx : 1 ≤ p.1) (hx2 : p.1 ≤ 10000) (hy : 1 ≤ p.2) (hy2 : p.2 ≤ 10000) (w : World) (hr : RdB w B A l) (hl : K.Bytes l) (hn : l.length ≤ 5000) :
    Calls Tryz.prog 57 #[.complex .f64 (Fl.fl p.1) (Fl.fl p.2), .slice A l.length c] w fun e w' => e = .returned (.complex .f64 (Fl.fl (Pl.go p l).1) (Fl.fl (Pl.go p l).2)) ∧ w = w' := by
  have HB := hide (Pl.go_bd p hx hy l)
  have HN := hide (Pl.go_next p l)
  have HE : Hid (Pl.go p (l.take l.length) = Pl.go p l) := hide (by rw [List.take_length])
  go_enter Tryz.func57, Tryz.ntmps57
  go_wp2
  go_loop [9, 0] (fun vi vp => ∃ (k : Nat), k ≤ l.length ∧ vi = .int .i64 k ∧ vp = .complex .f64 (Fl.fl (Pl.go p (l.take k)).1) (Fl.fl (Pl.go p (l.take k)).2)) (fun vi _ => l.length - (intOf vi).toNat)
  case atStart => exact ⟨0, by omega, rfl, rfl⟩
  case round =>
    obtain ⟨k, hk, rfl, rfl⟩ := hrel
    by_cases hlt : k < l.length
    · obtain ⟨g, o, rfl, _, hcl⟩ := hr (by omega)
      have hcell := hcl k (by omega)
      have hz := hl.getD k
      have hb := HB.out k (by omega)
      have hnx := hide (HN.out k (by omega))
      clear hcl HB HN HE hr hl
      generalize l.getD k 0 = z at *
      generalize Pl.go p (l.take k) = q at *
      obtain ⟨x, y⟩ := q
      simp only at hb
      have ox : okN x := by unfold okN; omega
      have oy : okN y := by unfold okN; omega
      by_cases h10 : z = 10
      · subst h10
        have HS := hide (fun w => step_feed x y w ox oy (by unfold okN; omega))
        clear ox oy hz hb
        go_wp2_with fail
        refine (HS.out _).mono ?_; rintro _ w' ⟨rfl, rfl⟩
        go_wp2
        go_round
        case rel => exact ⟨k + 1, by omega, by go_num, by rw [hnx.out]; rfl⟩
        case measure => simp [intOf]; omega
      · have HS := hide (fun w => step_on x y z w ox oy (by unfold okN; omega) (by simpa using h10))
        have HN := hide h10
        clear ox oy hz hb h10
        go_wp2_with fail
        refine (HS.out _).mono ?_; rintro _ w' ⟨rfl, rfl⟩
        go_wp2
        go_round
        case rel => exact ⟨k + 1, by omega, by go_num, by rw [hnx.out]; unfold Pl.stp; rw [if_neg HN.out]⟩
        case measure => simp [intOf]; omega
    · obtain rfl : k = l.length := by omega
      clear hr hl
      rw [HE.out]
      go_wp2
      go_ret
      exact ⟨rfl, rfl⟩

theorem infoT : (Tryz.prog.info? 89).map (fun i => (i.zero, i.size, i.bytes)) = some (some (.agg #[.int .i64 0, .string ⟨#[]⟩, .complex .f64 0 0]), 3, 40) := by kernel_rfl

/-- A token's text, by its kind. -/
def ttext (k : Int) (l : List Int) : List Int := if k = 1 ∨ k = 2 then l else []

/-- A token without anything. -/
def tok0 : Obj := .cells #[.int .i64 0, .string ⟨#[]⟩, .complex .f64 0 0] 89

set_option maxHeartbeats 1000000 in
theorem token_any (k : Int) (A : Option Addr) (c : Nat) (l : List Int) (X Y : Nat) (w : World) (hr : RdB w w.heap.size A l) (hl : K.Bytes l) :
    Calls Tryz.prog 59 #[.int .i64 k, .slice A l.length c, .complex .f64 X Y] w fun e w' => e = .returned (.agg #[.int .i64 k, .string (K.str (ttext k l)), .complex .f64 X Y]) ∧ Below w.heap.size w w' := by
  have C1 := str_conv (hr.alloc (Nat.le_refl _) tok0) hl c
  unfold tok0 at C1
  have HB := hide (fun o => ((Below.refl w.heap.size w).alloc (Nat.le_refl _) o))
  have SC := fun a w m => show (store a (.complex .f64 X Y) m).run Tryz.prog w = stored Tryz.prog w a (.complex .f64 X Y) m from run_store _ w a _ m rfl
  by_cases hk : k = 1 ∨ k = 2
  · have ht : ttext k l = l := by unfold ttext; rw [if_pos hk]
    rw [ht]
    clear ht hl hr
    generalize K.str l = s at *
    rcases hk with rfl | rfl
    all_goals
      go_enter Tryz.func59, Tryz.ntmps59
      go_wp2_with (simp only [C1])
      exact bodyPost_ret (v := .agg #[.int .i64 _, .string s, .complex .f64 X Y]) (by simp [results, Tryz.results59, go_sem]) rfl ⟨rfl, HB.out _⟩
  · have ht : ttext k l = [] := by unfold ttext; rw [if_neg hk]
    have h1 : (k == 1) = false := by simpa using fun h => hk (Or.inl h)
    have h2 : (k == 2) = false := by simpa using fun h => hk (Or.inr h)
    rw [ht, show K.str [] = ⟨#[]⟩ from rfl]
    clear ht hl hr hk C1
    go_enter Tryz.func59, Tryz.ntmps59
    go_wp2
    exact bodyPost_ret (v := .agg #[.int .i64 k, .string ⟨#[]⟩, .complex .f64 X Y]) (by simp [results, Tryz.results59, go_sem]) rfl ⟨rfl, HB.out _⟩
end Go.Proofs.YtoehbkgdodogkaaGreat
