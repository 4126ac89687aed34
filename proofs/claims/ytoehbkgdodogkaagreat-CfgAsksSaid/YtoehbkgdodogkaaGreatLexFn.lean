/- Contracts of lex's functions of single bytes, of names, of literals and of words, over this program. -/
import Derived.Test.YtoehbkgdodogkaaGreatLexL
import Derived.Test.YtoehbkgdodogkaaGreatShelf
namespace Go.Proofs.YtoehbkgdodogkaaGreat
set_option maxRecDepth 100000
open Go.RowKit

theorem small_any (z : Int) (w : World) :
    Calls Tryz.prog 92 #[.int .u8 z] w fun e w' => e = .returned (.bool (T.small z)) ∧ w = w' := by
  unfold T.small
  go_enter Tryz.func92, Tryz.ntmps92
  go_wp2
  all_goals go_ret
  all_goals (refine ⟨ret_bool ?_, rfl⟩; first | rfl | (rw [Bool.eq_iff_iff]; simp; done) | (rw [Bool.eq_iff_iff]; simp; omega))

theorem head_any (z : Int) (w : World) :
    Calls Tryz.prog 69 #[.int .u8 z] w fun e w' => e = .returned (.bool (T.head z)) ∧ w = w' := by
  have P1 := fun w => small_any z w
  unfold T.head
  generalize T.small z = s at *
  go_enter Tryz.func69, Tryz.ntmps69
  go_wp2_with fail
  refine (P1 _).mono ?_; rintro _ w' ⟨rfl, rfl⟩
  clear P1
  cases s <;> go_wp2
  all_goals go_ret
  all_goals (refine ⟨ret_bool ?_, rfl⟩; first | rfl | (rw [Bool.eq_iff_iff]; simp; done) | (rw [Bool.eq_iff_iff]; simp; omega))

theorem tail_any (z : Int) (w : World) :
    Calls Tryz.prog 70 #[.int .u8 z] w fun e w' => e = .returned (.bool (T.tail z)) ∧ w = w' := by
  unfold T.tail
  go_enter Tryz.func70, Tryz.ntmps70
  go_wp2
  all_goals go_ret
  all_goals (refine ⟨ret_bool ?_, rfl⟩; first | rfl | (rw [Bool.eq_iff_iff]; simp; done) | (rw [Bool.eq_iff_iff]; simp; omega))

theorem first_any (z : Int) (w : World) :
    Calls Tryz.prog 54 #[.int .u8 z] w fun e w' => e = .returned (.bool (T.head z)) ∧ w = w' := by
  unfold T.head T.small
  go_enter Tryz.func54, Tryz.ntmps54
  go_wp2
  all_goals go_ret
  all_goals (refine ⟨ret_bool ?_, rfl⟩; first | rfl | (rw [Bool.eq_iff_iff]; simp; done) | (rw [Bool.eq_iff_iff]; simp; omega))

theorem later_any (z : Int) (w : World) :
    Calls Tryz.prog 55 #[.int .u8 z] w fun e w' => e = .returned (.bool (T.inName z)) ∧ w = w' := by
  have P1 := fun w => first_any z w
  unfold T.inName T.tail
  generalize T.head z = s at *
  go_enter Tryz.func55, Tryz.ntmps55
  go_wp2_with fail
  refine (P1 _).mono ?_; rintro _ w' ⟨rfl, rfl⟩
  clear P1
  cases s <;> go_wp2
  all_goals go_ret
  all_goals (refine ⟨ret_bool ?_, rfl⟩; first | rfl | (rw [Bool.eq_iff_iff]; simp; done) | (rw [Bool.eq_iff_iff]; simp; omega))

set_option maxHeartbeats 1000000 in
theorem nsize_any (A : Option Addr) (c B : Nat) (l : List Int) (w : World) (hr : RdB w B A l) (hn : l.length ≤ 5000) :
    Calls Tryz.prog 49 #[.slice A l.length c] w fun e w' => e = .returned (.int .i64 (T.nsize l)) ∧ w = w' := by
  have HF := hide (T.nsize_first l)
  go_enter Tryz.func49, Tryz.ntmps49
  go_wp2
  go_loop [3] (fun vi => ∃ (k : Nat), k ≤ l.length ∧ vi = .int .i64 k ∧ (k = 0 ∨ T.nsize l = k + T.run T.inName (l.drop k))) (fun vi => l.length - (intOf vi).toNat)
  case atStart => exact ⟨0, by omega, rfl, Or.inl rfl⟩
  case round =>
    obtain ⟨k, hk, rfl, hs⟩ := hrel
    have HS := hide hs
    clear hs
    by_cases hlt : k < l.length
    · obtain ⟨g, o, rfl, _, hcl⟩ := hr (by omega)
      have hcell := hcl k (by omega)
      have HN := hide (T.run_next T.inName l k hlt)
      have P1 := hide (fun w => head_any (l.getD k 0) w)
      have P2 := hide (fun w => tail_any (l.getD k 0) w)
      have HI : Hid (T.inName (l.getD k 0) = (T.head (l.getD k 0) || T.tail (l.getD k 0))) := hide rfl
      have HF' : Hid (k = 0 → T.nsize l = if T.head (l.getD k 0) then T.run T.inName (l.drop 1) + 1 else 0) := hide (by rintro rfl; exact HF.out (by omega))
      clear hcl HF
      generalize l.getD k 0 = z at *
      generalize T.head z = hh at *
      generalize T.tail z = tt at *
      generalize T.inName z = ii at *
      go_wp2_with fail
      refine (P1.out _).mono ?_; rintro _ w' ⟨rfl, rfl⟩
      cases hh
      · by_cases h0 : k = 0
        · subst h0
          go_wp2
          go_ret
          exact ⟨ret_int (by have := HF'.out (by trivial); simp at this; omega), rfl⟩
        · have h1 : 0 < k := by omega
          clear h0
          go_wp2_with fail
          refine (P2.out _).mono ?_; rintro _ w' ⟨rfl, rfl⟩
          cases tt
          · go_wp2
            go_ret
            refine ⟨ret_int ?_, rfl⟩
            have e1 := HS.out; have e2 := HN.out; have e3 := HI.out
            rw [e3] at e2; simp at e2; omega
          · go_wp2
            go_round
            case rel =>
              refine ⟨k + 1, by omega, by go_num, Or.inr ?_⟩
              have e1 := HS.out; have e2 := HN.out; have e3 := HI.out
              rw [e3] at e2; simp at e2; omega
            case measure => simp [intOf]; omega
      · go_wp2
        go_round
        case rel =>
          refine ⟨k + 1, by omega, by go_num, Or.inr ?_⟩
          have e1 := HS.out; have e2 := HN.out; have e3 := HI.out; have e4 := HF'.out
          rw [e3] at e2
          rcases e1 with rfl | e1
          · have := e4 rfl; simp at this; simp; omega
          · simp at e2; omega
        case measure => simp [intOf]; omega
    · obtain rfl : k = l.length := by omega
      clear hr HF
      go_wp2
      go_ret
      refine ⟨ret_int ?_, rfl⟩
      rcases HS.out with h | h
      · obtain rfl := List.eq_nil_of_length_eq_zero h
        simp [T.nsize]
      · rw [T.run_end _ _ _ (Nat.le_refl _)] at h; omega
end Go.Proofs.YtoehbkgdodogkaaGreat
