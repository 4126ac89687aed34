/- Contracts of the document's own Name and Literal, over this program. -/
import Derived.Test.YtgmcpkecppfkgaaLexStr
namespace Go.Proofs.Ytgmcpkecppfkgaa
set_option maxRecDepth 100000
open Go.RowKit

set_option maxHeartbeats 1000000 in
theorem rlit_any (l : List Int) (hl : K.Bytes l) (w : World) :
    Calls Try.prog 36 #[.string (K.str l)] w fun e w' => e = .returned (.bool (T.isLit l)) ∧ w = w' := by
  have hsz := K.str_size l
  by_cases h3 : l.length = 3
  · obtain ⟨a, b, c, rfl⟩ : ∃ a b c, l = [a, b, c] := by
      match l, h3 with
      | [a, b, c], _ => exact ⟨a, b, c, rfl⟩
    clear h3
    have hs : (K.str [a, b, c]).size = 3 := hsz
    have hp0 : 0 < (K.str [a, b, c]).size := by omega
    have hp1 : 1 < (K.str [a, b, c]).size := by omega
    have hp2 : 2 < (K.str [a, b, c]).size := by omega
    have hb0 : (((K.str [a, b, c])[0]'hp0).toNat : Int) = a := K.str_get hl 0 hp0
    have hb1 : (((K.str [a, b, c])[1]'hp1).toNat : Int) = b := K.str_get hl 1 hp1
    have hb2 : (((K.str [a, b, c])[2]'hp2).toNat : Int) = c := K.str_get hl 2 hp2
    have hq : (((K.str [a, b, c]).size : Int) == 3) = true := by rw [hs]; rfl
    unfold T.isLit
    clear hs hsz hl
    generalize K.str [a, b, c] = s at *
    go_enter Try.func36, Try.ntmps36
    go_wp2
    all_goals go_ret
    all_goals (refine ⟨ret_bool ?_, rfl⟩; first | (simp_all; done) | (simp_all; omega))
  by_cases h4 : l.length = 4
  · obtain ⟨a, b, c, d, rfl⟩ : ∃ a b c d, l = [a, b, c, d] := by
      match l, h4 with
      | [a, b, c, d], _ => exact ⟨a, b, c, d, rfl⟩
    clear h3 h4
    have hs : (K.str [a, b, c, d]).size = 4 := hsz
    have hp0 : 0 < (K.str [a, b, c, d]).size := by omega
    have hp1 : 1 < (K.str [a, b, c, d]).size := by omega
    have hp2 : 2 < (K.str [a, b, c, d]).size := by omega
    have hp3 : 3 < (K.str [a, b, c, d]).size := by omega
    have hb0 : (((K.str [a, b, c, d])[0]'hp0).toNat : Int) = a := K.str_get hl 0 hp0
    have hb1 : (((K.str [a, b, c, d])[1]'hp1).toNat : Int) = b := K.str_get hl 1 hp1
    have hb2 : (((K.str [a, b, c, d])[2]'hp2).toNat : Int) = c := K.str_get hl 2 hp2
    have hb3 : (((K.str [a, b, c, d])[3]'hp3).toNat : Int) = d := K.str_get hl 3 hp3
    have hq3 : (((K.str [a, b, c, d]).size : Int) == 3) = false := by rw [hs]; rfl
    have hq : (((K.str [a, b, c, d]).size : Int) == 4) = true := by rw [hs]; rfl
    unfold T.isLit
    clear hs hsz hl
    generalize K.str [a, b, c, d] = s at *
    go_enter Try.func36, Try.ntmps36
    go_wp2
    all_goals go_ret
    all_goals (refine ⟨ret_bool ?_, rfl⟩; first | (simp_all; done) | (simp_all; omega))
  · have hv : T.isLit l = false := by
      rcases hq : T.isLit l with _ | _
      · rfl
      · have := T.isLit_len hq; omega
    rw [hv]
    have hq3 : (((K.str l).size : Int) == 3) = false := beq_eq_false_iff_ne.2 (by omega)
    have hq4 : (((K.str l).size : Int) == 4) = false := beq_eq_false_iff_ne.2 (by omega)
    clear hv hl hsz h3 h4
    generalize K.str l = s at *
    go_enter Try.func36, Try.ntmps36
    go_wp2
    go_ret
    exact ⟨rfl, rfl⟩
end Go.Proofs.Ytgmcpkecppfkgaa
