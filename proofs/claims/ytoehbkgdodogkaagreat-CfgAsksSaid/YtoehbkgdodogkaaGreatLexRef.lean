/- Contracts of the document's own Name and Literal, over this program. -/
import Derived.Test.YtoehbkgdodogkaaGreatLexStr
namespace Go.Proofs.YtoehbkgdodogkaaGreat
set_option maxRecDepth 100000
open Go.RowKit

set_option maxHeartbeats 1000000 in
theorem rname_any (l : List Int) (hl : K.Bytes l) (w : World) :
    Calls Tryz.prog 39 #[.string (K.str l)] w fun e w' => e = .returned (.bool (T.isName l)) ∧ w = w' := by
  have hsz := K.str_size l
  by_cases h0 : l.length = 0
  · obtain rfl := List.eq_nil_of_length_eq_zero h0
    rw [show T.isName [] = false from rfl]
    have hs0 : ((K.str []).size : Int) = 0 := by rw [hsz]; rfl
    clear hsz hl h0
    generalize K.str [] = s at *
    go_enter Tryz.func39, Tryz.ntmps39
    go_wp2
    go_ret
    exact ⟨rfl, rfl⟩
  by_cases h20 : l.length ≤ 20
  · have hiff := T.isName_iff l
    rw [decide_eq_true h0, decide_eq_true h20, Bool.true_and, Bool.true_and] at hiff
    have hp : 0 < (K.str l).size := by omega
    have hb0 := K.str_get hl 0 hp
    have P1 := hide (fun w => first_any (l.getD 0 0) w)
    have hp2 : (((K.str l).size : Int) == 0) = false := beq_eq_false_iff_ne.2 (by omega)
    have hs3 : ((K.str l).size : Int) ≤ 20 := by omega
    by_cases hh : T.head (l.getD 0 0) = true
    · rw [hh, Bool.true_and] at hiff
      have HI := hide hiff
      have hsz' : (l.length : Int) = ((K.str l).size : Int) := by omega
      have HB := hide (fun k h => K.str_get hl k h)
      have HP := hide (fun k w => later_any (l.getD k 0) w)
      rw [hh] at P1
      have HL := hide hsz
      clear hsz hsz' hiff hh h0 h20 hl
      generalize l.getD 0 0 = z at *
      generalize T.isName l = res at *
      generalize K.str l = s at *
      go_enter Tryz.func39, Tryz.ntmps39
      go_wp2_with fail
      refine (P1.out _).mono ?_; rintro _ w' ⟨rfl, rfl⟩
      go_wp2
      go_loop [3] (fun vi => ∃ (k : Nat), k ≤ s.size ∧ vi = .int .i64 k ∧ ∀ j, j < k → T.inName (l.getD j 0) = true) (fun vi => s.size - (intOf vi).toNat)
      case atStart => exact ⟨0, by omega, rfl, fun j hj => by omega⟩
      case round =>
        obtain ⟨k, hk, rfl, hs⟩ := hrel
        have HS := hide hs
        clear hs hb0 P1
        by_cases hlt : k < s.size
        · have hbk := HB.out k hlt
          have P2 := hide (HP.out k)
          rcases hq : T.inName (l.getD k 0) with _ | _
          · have HF : Hid (T.inName (l.getD k 0) = false) := hide hq
            rw [hq] at P2
            clear hq
            have HK : Hid (k < l.length) := hide (by have := HL.out; omega)
            generalize hz : l.getD k 0 = z at *
            have HZ := hide hz
            clear hz
            go_wp2_with fail
            refine (P2.out _).mono ?_; rintro _ w' ⟨rfl, rfl⟩
            go_wp2
            go_ret
            refine ⟨ret_bool ?_, rfl⟩
            rw [HI.out]
            symm
            apply decide_eq_false
            intro h
            have h1 := h k HK.out
            have h2 := HF.out
            rw [HZ.out] at h1
            rw [h1] at h2; cases h2
          · have HF : Hid (T.inName (l.getD k 0) = true) := hide hq
            rw [hq] at P2
            clear hq
            generalize hz : l.getD k 0 = z at *
            have HZ := hide hz
            clear hz
            go_wp2_with fail
            refine (P2.out _).mono ?_; rintro _ w' ⟨rfl, rfl⟩
            go_wp2
            go_round
            case rel =>
              refine ⟨k + 1, by omega, by go_num, fun j hj => ?_⟩
              by_cases hjk : j = k
              · subst hjk; rw [HZ.out]; exact HF.out
              · exact HS.out j (by omega)
            case measure => simp [intOf]; omega
        · obtain rfl : k = s.size := by omega
          go_wp2
          go_ret
          refine ⟨ret_bool ?_, rfl⟩
          rw [HI.out]
          symm
          apply decide_eq_true
          intro j hj
          exact HS.out j (by have := HL.out; omega)
    · have hh' : T.head (l.getD 0 0) = false := by simpa using hh
      rw [hh', Bool.false_and] at hiff
      rw [hiff]
      rw [hh'] at P1
      clear hsz hiff hh hh' h0 h20 hl
      generalize l.getD 0 0 = z at *
      generalize K.str l = s at *
      go_enter Tryz.func39, Tryz.ntmps39
      go_wp2_with fail
      refine (P1.out _).mono ?_; rintro _ w' ⟨rfl, rfl⟩
      go_wp2
      go_ret
      exact ⟨rfl, rfl⟩
  · have hv : T.isName l = false := by unfold T.isName; rw [decide_eq_false h20]; rfl
    rw [hv]
    have h21 : ((K.str l).size : Int) > 20 := by omega
    have h22 : (((K.str l).size : Int) == 0) = false := beq_eq_false_iff_ne.2 (by omega)
    clear hv h0 hl h20 hsz
    generalize K.str l = s at *
    go_enter Tryz.func39, Tryz.ntmps39
    go_wp2
    go_ret
    exact ⟨rfl, rfl⟩

set_option maxHeartbeats 1000000 in
theorem rlit_any (l : List Int) (hl : K.Bytes l) (w : World) :
    Calls Tryz.prog 53 #[.string (K.str l)] w fun e w' => e = .returned (.bool (T.isLit l)) ∧ w = w' := by
  have hsz := K.str_size l
  by_cases h3 : l.length = 3
  · obtain ⟨a, b, c, rfl⟩ : ∃ a b c, l = [a, b, c] := by
      match l, h3 with
      | [a, b, c], _ => exact ⟨a, b, c, rfl⟩
    clear h3
    have hs : (K.str [a, b, c]).size = 3 := hsz
    have hp0 : 0 < (K.str [a, b, c]).size := by omega
    have hp1 : 1 < (K.str [a, b, c]).size := by omega
    have hp2 : 2 < (K.str [a, b, c]).size := by omega
    have hb0 : (((K.str [a, b, c])[0]'hp0).toNat : Int) = a := K.str_get hl 0 hp0
    have hb1 : (((K.str [a, b, c])[1]'hp1).toNat : Int) = b := K.str_get hl 1 hp1
    have hb2 : (((K.str [a, b, c])[2]'hp2).toNat : Int) = c := K.str_get hl 2 hp2
    have hq : (((K.str [a, b, c]).size : Int) == 3) = true := by rw [hs]; rfl
    unfold T.isLit
    clear hs hsz hl
    generalize K.str [a, b, c] = s at *
    go_enter Tryz.func53, Tryz.ntmps53
    go_wp2
    all_goals go_ret
    all_goals (refine ⟨ret_bool ?_, rfl⟩; first | (simp_all; done) | (simp_all; omega))
  by_cases h4 : l.length = 4
  · obtain ⟨a, b, c, d, rfl⟩ : ∃ a b c d, l = [a, b, c, d] := by
      match l, h4 with
      | [a, b, c, d], _ => exact ⟨a, b, c, d, rfl⟩
    clear h3 h4
    have hs : (K.str [a, b, c, d]).size = 4 := hsz
    have hp0 : 0 < (K.str [a, b, c, d]).size := by omega
    have hp1 : 1 < (K.str [a, b, c, d]).size := by omega
    have hp2 : 2 < (K.str [a, b, c, d]).size := by omega
    have hp3 : 3 < (K.str [a, b, c, d]).size := by omega
    have hb0 : (((K.str [a, b, c, d])[0]'hp0).toNat : Int) = a := K.str_get hl 0 hp0
    have hb1 : (((K.str [a, b, c, d])[1]'hp1).toNat : Int) = b := K.str_get hl 1 hp1
    have hb2 : (((K.str [a, b, c, d])[2]'hp2).toNat : Int) = c := K.str_get hl 2 hp2
    have hb3 : (((K.str [a, b, c, d])[3]'hp3).toNat : Int) = d := K.str_get hl 3 hp3
    have hq3 : (((K.str [a, b, c, d]).size : Int) == 3) = false := by rw [hs]; rfl
    have hq : (((K.str [a, b, c, d]).size : Int) == 4) = true := by rw [hs]; rfl
    unfold T.isLit
    clear hs hsz hl
    generalize K.str [a, b, c, d] = s at *
    go_enter Tryz.func53, Tryz.ntmps53
    go_wp2
    all_goals go_ret
    all_goals (refine ⟨ret_bool ?_, rfl⟩; first | (simp_all; done) | (simp_all; omega))
  · have hv : T.isLit l = false := by
      rcases hq : T.isLit l with _ | _
      · rfl
      · have := T.isLit_len hq; omega
    rw [hv]
    have hq3 : (((K.str l).size : Int) == 3) = false := beq_eq_false_iff_ne.2 (by omega)
    have hq4 : (((K.str l).size : Int) == 4) = false := beq_eq_false_iff_ne.2 (by omega)
    clear hv hl hsz h3 h4
    generalize K.str l = s at *
    go_enter Tryz.func53, Tryz.ntmps53
    go_wp2
    go_ret
    exact ⟨rfl, rfl⟩
end Go.Proofs.YtoehbkgdodogkaaGreat
