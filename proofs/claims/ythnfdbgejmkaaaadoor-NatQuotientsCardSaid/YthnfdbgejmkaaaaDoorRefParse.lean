/- Contract of the document's Parse over this program: it answers what nat's does. -/
import Derived.Test.YthnfdbgejmkaaaaDoorParses
import Derived.Test.YthnfdbgejmkaaaaDoorRefMul
namespace Go.Proofs.YthnfdbgejmkaaaaDoor
open Go.RowKit

theorem right_canon {m : Nat} (h : (M.canon m).length ≤ 32) : right (M.canon m) = true := by
  unfold right
  by_cases e : m = 0
  · subst e; rw [M.canon_zero]; rfl
  · have := M.canon_last e
    simp [h]
    right
    simpa [List.getD] using this
theorem mulS_canon {m n : Nat} (hm : (M.canon m).length ≤ 32) (hn : (M.canon n).length ≤ 32) : mulS (M.canon m) (M.canon n) = fitL (m * n) := by
  unfold mulS; rw [right_canon hm, right_canon hn, M.val_canon, M.val_canon]; simp; congr 1
theorem addS_canon {m n : Nat} (hm : (M.canon m).length ≤ 32) (hn : (M.canon n).length ≤ 32) : addS (M.canon m) (M.canon n) = fitL (m + n) := by
  unfold addS; rw [right_canon hm, right_canon hn, M.val_canon, M.val_canon]; simp; congr 1
theorem canon_small {n : Nat} (h : n < 4294967296) : (M.canon n).length ≤ 32 := M.canon_length_le.2 (by
  have h1 : M.pw 1 ≤ M.pw 32 := M.pw_mono (by omega)
  have h2 : M.pw 1 = 4294967296 := by rw [M.pw_succ, M.pw_zero]; rfl
  omega)

set_option maxHeartbeats 2000000 in
set_option maxRecDepth 100000 in
theorem rparse_any (s : ByteArray) (w : World) (hs : s.size ≤ 9223372036854775807) :
    Calls Tryd.prog 31 #[.string s] w (Ret2 (parseS s.data.toList) w) := by
  have hbl := bytes_len s
  by_cases h0 : s.size = 0
  · have hS : parseS s.data.toList = ([], 3) := by
      have : isDec s.data.toList = false := by unfold isDec; rw [hbl, h0]; simp
      unfold parseS; rw [this]; rfl
    rw [hS]
    have g1 : ((s.size : Int) == 0) = true := by rw [h0]; rfl
    clear hbl h0 hS
    go_enter Tryd.func31, Tryd.ntmps31
    go_wp2
    go_ret2
    exact Ret2.bad 3 _ _ (Below.refl _ _)
  · have hp : 0 < s.size := by omega
    have g1 : ((s.size : Int) == 0) = false := beq_eq_false_iff_ne.2 (by omega)
    have hh : s.data.toList.headD 0 = s[0]'hp := by
      have := bytes_getD s 0 hp
      rw [List.headD_eq_head?_getD, List.head?_eq_getElem?, this]; rfl
    by_cases h3 : 1 < s.size ∧ ((s[0]'hp).toNat : Int) = 48
    · obtain ⟨h3, h4⟩ := h3
      have hS : parseS s.data.toList = ([], 3) := by
        have : isDec s.data.toList = false := by
          unfold isDec; rw [hbl, hh]
          have e1 : (s.size == 1) = false := beq_eq_false_iff_ne.2 (by omega)
          have e2 : ((s[0]'hp).toNat != 48) = false := bne_eq_false_iff_eq.2 (by omega)
          rw [e1, e2]; simp
        unfold parseS; rw [this]; rfl
      rw [hS]
      have g4 : (((s[0]'hp).toNat : Int) == 48) = true := by rw [h4]; rfl
      clear hbl h0 hS hh h4
      go_enter Tryd.func31, Tryd.ntmps31
      go_wp2
      go_ret2
      exact Ret2.bad 3 _ _ (Below.refl _ _)
    · have hhead : s.data.toList.all dig = true → isDec s.data.toList = true := by
        intro ha
        unfold isDec; rw [ha, hbl, hh]
        by_cases e : s.size = 1
        · simp [e]
        · have e2 : ((s[0]'hp).toNat != 48) = true := by rw [bne_iff_ne]; omega
          rw [e2]; simp; omega
      have HH := hide hhead
      have HBL := hide hbl
      have body : ∀ (a : Act) (K : Act → World → Prop) (Q : Exit → Act → World → Prop), True := fun _ _ _ => trivial
      clear hbl hh hhead h0 body
      have g2 : (decide (1 < (s.size : Int)) = false) ∨ (decide (1 < (s.size : Int)) = true ∧ (((s[0]'hp).toNat : Int) == 48) = false) := by
        by_cases e : 1 < s.size
        · right; refine ⟨by simp; omega, ?_⟩
          rw [beq_eq_false_iff_ne]; intro e2; exact h3 ⟨e, e2⟩
        · left; simp; omega
      clear h3
      rcases g2 with g2 | ⟨g2, g3⟩
      all_goals
        go_enter Tryd.func31, Tryd.ntmps31
        go_wp2
        go_loop [4] (fun vi => ∃ k : Nat, k ≤ s.size ∧ vi = .int .i64 k ∧ (s.data.toList.take k).all dig = true) (fun vi => s.size - (intOf vi).toNat)
        case atStart => exact ⟨0, Nat.zero_le _, rfl, rfl⟩
        case round =>
          obtain ⟨k, hk, rfl, ha⟩ := hrel
          have HA := hide ha
          clear ha
          by_cases hlt : k < s.size
          · have ht := bytes_take s k hlt
            have hg := bytes_getD s k hlt
            have hbad : dig s[k] = false → parseS s.data.toList = ([], 3) := fun hc => by unfold parseS; rw [all_false hg hc]; rfl
            have HBAD := hide hbad
            clear hbad
            by_cases h1 : (s[k].toNat : Int) < 48
            · have HS := hide (HBAD.out (by unfold dig; simp; omega))
              clear ht hg
              go_wp2
              go_ret2
              rw [HS.out]
              exact Ret2.bad 3 _ _ (Below.refl _ _)
            · by_cases h2 : 57 < (s[k].toNat : Int)
              · have HS := hide (HBAD.out (by unfold dig; simp; omega))
                clear ht hg
                go_wp2
                go_ret2
                rw [HS.out]
                exact Ret2.bad 3 _ _ (Below.refl _ _)
              · have HN : Hid ((s.data.toList.take (k + 1)).all dig = true) := by
                  show (s.data.toList.take (k + 1)).all dig = true
                  rw [ht, List.all_append, HA.out]
                  simp [dig]; omega
                clear ht hg
                go_wp2
                go_round
                case rel => exact ⟨k + 1, by omega, by go_num, HN.out⟩
                case measure => simp [intOf]; omega
          · have hall := HA.out
            rw [List.take_of_length_le (by have := HBL.out; omega)] at hall
            have hS : parseS s.data.toList = fitL (numD s.data.toList) := by unfold parseS; rw [if_pos (HH.out hall)]
            have HS := hide hS
            have HALL := hide hall
            clear hS hall
            go_wp2
            go_loopw [5, 6] (fun vx vi wr => ∃ (k : Nat) (A : Option Addr) (c : Nat), k ≤ s.size ∧ vi = .int .i64 k ∧ vx = .slice A (M.canon (numD (s.data.toList.take k))).length c ∧ (M.canon (numD (s.data.toList.take k))).length ≤ c ∧ c ≤ 9223372036854775807 ∧ Rd wr wr.heap.size A (M.canon (numD (s.data.toList.take k))) ∧ (M.canon (numD (s.data.toList.take k))).length ≤ 32 ∧ Below w.heap.size w wr) (fun _ vi _ => s.size - (intOf vi).toNat)
            case atStart =>
              have e : M.canon (numD (s.data.toList.take 0)) = [] := by rw [List.take_zero, show numD [] = 0 from rfl, M.canon_zero]
              rw [show (0 : Int) = ((0 : Nat) : Int) from rfl]
              exact ⟨0, none, 0, Nat.zero_le _, rfl, by rw [e]; rfl, by rw [e]; exact Nat.le_refl _, by omega, by rw [e]; exact Rd.nil _ _ _, by rw [e]; exact Nat.zero_le _, Below.refl _ _⟩
            case round =>
              obtain ⟨k, A, c, hk, rfl, rfl, hc1, hc2, hr, h32, hbl⟩ := hrel
              by_cases hlt : k < s.size
              · have hdk : dig s[k] = true := List.all_eq_true.1 HALL.out _ (List.mem_of_getElem? (bytes_getD s k hlt))
                simp only [dig, Bool.and_eq_true, decide_eq_true_eq] at hdk
                have c1 : 48 ≤ (s[k].toNat : Int) := by omega
                have c2 : (s[k].toNat : Int) ≤ 57 := by omega
                have hsn := numD_snoc (s.data.toList.take k) s[k]
                rw [← bytes_take s k hlt] at hsn
                have hmono : numD (s.data.toList.take (k + 1)) ≤ numD s.data.toList := by
                  have := numD_mono (s.data.toList.take (k + 1)) (s.data.toList.drop (k + 1)); rwa [List.take_append_drop] at this
                have hdn : ((s[k].toNat : Int) - 48).toNat = s[k].toNat - 48 := by omega
                have hlk := M.lim_canon (numD (s.data.toList.take k))
                have hml := mulS_canon (m := numD (s.data.toList.take k)) (n := 10) h32 (canon_small (by omega))
                generalize hm : numD (s.data.toList.take k) = m at *
                have OF10 := fun W : World => rof_any 10 W (by omega) (by omega)
                have OFD := fun W : World => rof_any ((s[k].toNat : Int) - 48) W (by omega) (by omega)
                rw [hdn] at OFD
                have hdsm : (M.canon (s[k].toNat - 48)).length ≤ 32 := canon_small (by omega)
                have H10 := hide OF10
                have HDD := hide OFD
                have HSN := hide hsn
                have HMO := hide hmono
                have HML := hide hml
                have HLK := hide hlk
                have HDS := hide hdsm
                clear OF10 OFD hsn hmono hml hlk hdk hdn hdsm
                go_wp2_with fail
                refine (H10.out wr).mono ?_
                rintro e w2 ⟨A2, cc2, rfl, a1, a2, a3, a4⟩
                go_wp2_with fail
                have MUL := rmul_any A A2 c cc2 w2.heap.size (M.canon m) (M.canon (10 : Int).toNat) w2 ((hr.below a4 (Nat.le_refl _)).more a4.size) a3 HLK.out (M.lim_canon _) hc1 a1 hc2 a2 (Nat.le_refl _)
                rw [show mulS (M.canon m) (M.canon (10 : Int).toNat) = fitL (m * 10) from HML.out] at MUL
                by_cases hf : (M.canon (m * 10)).length ≤ 32
                · rw [show fitL (m * 10) = (M.canon (m * 10), 0) by unfold fitL; rw [if_pos hf]] at MUL
                  refine MUL.mono ?_
                  rintro e w3 ⟨A3, cc3, rfl, b1, b2, b3, b4⟩
                  have hb3 := (hbl.trans (a4.mono hbl.size)).trans (b4.mono (Nat.le_trans hbl.size a4.size))
                  clear MUL
                  go_wp2_with fail
                  refine (HDD.out w3).mono ?_
                  rintro e w4 ⟨A4, cc4, rfl, d1, d2, d3, d4⟩
                  go_wp2_with fail
                  have ADD := radd_any A3 A4 cc3 cc4 w4.heap.size (M.canon (m * 10)) (M.canon (s[k].toNat - 48)) w4 ((b3.below d4 (Nat.le_refl _)).more d4.size) d3 (M.lim_canon _) (M.lim_canon _) b1 d1 b2 d2 (Nat.le_refl _)
                  rw [addS_canon hf HDS.out, ← HSN.out] at ADD
                  by_cases hf2 : (M.canon (numD (s.data.toList.take (k + 1)))).length ≤ 32
                  · rw [show fitL (numD (s.data.toList.take (k + 1))) = (M.canon (numD (s.data.toList.take (k + 1))), 0) by unfold fitL; rw [if_pos hf2]] at ADD
                    refine ADD.mono ?_
                    rintro e w5 ⟨A5, cc5, rfl, f1, f2, f3, f4⟩
                    have hb5 := (hb3.trans (d4.mono hb3.size)).trans (f4.mono (Nat.le_trans hb3.size d4.size))
                    clear ADD
                    go_wp2
                    go_roundw
                    case rel => exact ⟨k + 1, A5, cc5, hlt, by go_num, rfl, f1, f2, f3, hf2, hb5⟩
                    case measure => simp [intOf]; omega
                  · rw [show fitL (numD (s.data.toList.take (k + 1))) = ([], 2) by unfold fitL; rw [if_neg hf2]] at ADD
                    have hf3 : fitL (numD s.data.toList) = ([], 2) := by
                      have := canon_len_mono HMO.out
                      unfold fitL; rw [if_neg (by omega)]
                    have HF3 := hide hf3
                    refine ADD.mono ?_
                    rintro e w5 ⟨A5, cc5, rfl, f1, f2, f3, f4⟩
                    have hb5 := (hb3.trans (d4.mono hb3.size)).trans (f4.mono (Nat.le_trans hb3.size d4.size))
                    clear ADD hf3
                    go_wp2
                    go_ret2
                    rw [HS.out, HF3.out]
                    exact Ret2.bad 2 _ _ hb5
                · rw [show fitL (m * 10) = ([], 2) by unfold fitL; rw [if_neg hf]] at MUL
                  have hf3 : fitL (numD s.data.toList) = ([], 2) := by
                    have h1 := canon_len_mono HMO.out
                    have h2 := canon_len_mono (show m * 10 ≤ numD (s.data.toList.take (k + 1)) by rw [HSN.out]; omega)
                    unfold fitL; rw [if_neg (by omega)]
                  have HF3 := hide hf3
                  refine MUL.mono ?_
                  rintro e w3 ⟨A3, cc3, rfl, b1, b2, b3, b4⟩
                  have hb3 := (hbl.trans (a4.mono hbl.size)).trans (b4.mono (Nat.le_trans hbl.size a4.size))
                  clear MUL hf3
                  go_wp2
                  go_ret2
                  rw [HS.out, HF3.out]
                  exact Ret2.bad 2 _ _ hb3
              · obtain rfl : k = s.size := by omega
                have ht : s.data.toList.take s.size = s.data.toList := List.take_of_length_le (by have := HBL.out; omega)
                have hf : fitL (numD s.data.toList) = (M.canon (numD s.data.toList), 0) := by rw [ht] at h32; unfold fitL; rw [if_pos h32]
                have HF := hide hf
                rw [ht] at hc1 hr h32 ⊢
                clear hf ht
                go_wp2
                go_ret2
                rw [HS.out, HF.out]
                exact ⟨A, c, rfl, hc1, hc2, hr, hbl⟩
end Go.Proofs.YthnfdbgejmkaaaaDoor
