/- Contracts of lex's literals, names, and of any piece; over this program. -/
import Derived.Test.YtoehbkgdodogkaaGreatLexPiece
namespace Go.Proofs.YtoehbkgdodogkaaGreat
set_option maxRecDepth 100000
open Go.RowKit

theorem slice_to (w : World) (A : Option Addr) (c n j : Nat) (h2 : j ≤ c) : (Instr.sliceAt 33 (.slice A n c) none (some (.int .i64 j)) none).run Tryz.prog w = .ok (.slice A j c) w := by
  rw [run_sliceAt_slice _ _ _ _ _ _ (by kernel_rfl), run_slice_h _ _ _ _ _ (by kernel_rfl) .i64 (j : Int) (by omega) (by omega)]
  have hs : (sizeOf (Tryz.prog.elem 33)).run Tryz.prog w = .ok 1 w := by kernel_rfl
  rw [hs]
  have e : ∀ A : Option Addr, A.map (fun x => x.add 0) = A := fun A => by
    cases A with
    | none => rfl
    | some x => simp [Addr.add]
  simp [Result.andThen, sliced, e]
theorem isCut_any (A : Option Addr) (c B : Nat) (l : List Int) (w : World) (hr : RdB w B A l) (hl : K.Bytes l) (hn : l.length ≤ 5000) :
    Calls Tryz.prog 99 #[.slice A l.length c] w fun e w' => e = .returned (.bool (T.isLit (l ++ [39]) || T.isLit (l ++ [110, 39]))) ∧ w = w' := by
  have C1 := fun (w : World) (hr : RdB w B A l) => str_conv hr hl c
  have C2 := C1 w hr
  have hsz : ((K.str l).size : Int) ≤ 5000 := by rw [K.str_size]; omega
  have P1 := hide (fun w => lit_any (l ++ [39]) (hl.app (bytes_lit [39] (by decide))) (by simp; omega) w)
  have P2 := hide (fun w => lit_any (l ++ [110, 39]) (hl.app (bytes_lit [110, 39] (by decide))) (by simp; omega) w)
  rw [← K.str_app, show K.str [39] = ⟨#[39]⟩ from rfl] at P1
  rw [← K.str_app, show K.str [110, 39] = ⟨#[110, 39]⟩ from rfl] at P2
  clear C1 hr hl
  generalize K.str l = s at *
  generalize T.isLit (l ++ [39]) = b1 at *
  generalize T.isLit (l ++ [110, 39]) = b2 at *
  go_enter Tryz.func99, Tryz.ntmps99
  go_wp2_with (simp only [C2])
  refine (P1.out _).mono ?_; rintro _ w' ⟨rfl, rfl⟩
  cases b1
  · go_wp2_with fail
    refine (P2.out _).mono ?_; rintro _ w' ⟨rfl, rfl⟩
    go_wp2
    go_ret
    exact ⟨rfl, rfl⟩
  · go_wp2
    go_ret
    exact ⟨rfl, rfl⟩

set_option maxHeartbeats 1000000 in
theorem literal_any (A : Option Addr) (c B : Nat) (l : List Int) (w : World) (hr : RdB w B A l) (hl : K.Bytes l) (hc : l.length ≤ c) (hn : l.length ≤ 5000) :
    Calls Tryz.prog 79 #[.slice A l.length c] w fun e w' => e = .returned (p3v (T.literal l)) ∧ w = w' := by
  have HCt := hide (isCut_any A c B l w hr hl hn)
  have HC := hide (fun k (hk : k ≤ l.length) => (by
    have := str_conv (hr.take k) (hl.take k) c
    rw [List.length_take, Nat.min_eq_left hk] at this
    exact this : (convert 33 9 (.slice A k c)).run Tryz.prog w = .ok (.string (K.str (l.take k))) w))
  have HL := hide (fun k => lit_any (l.take k) (hl.take k) (by rw [List.length_take]; omega))
  have HS := hide (fun (w : World) k (hk : k ≤ l.length) => slice_to w A c l.length k (by omega))
  obtain ⟨h, hh⟩ : ∃ h : Nat, min (l.length : Int) 4 = (h : Int) := ⟨min l.length 4, by omega⟩
  have hh5 : h ≤ 4 ∧ h ≤ l.length ∧ (h = 4 ∨ h = l.length) := by omega
  obtain ⟨hh1, hh2, hh3⟩ := hh5
  have HH3 := hide hh3
  have HV : Hid (T.literal l = if T.isLit (l.take 3) then (2, 3, 0) else if T.isLit (l.take 4) then (2, 4, 0) else if T.isLit (l ++ [39]) || T.isLit (l ++ [110, 39]) then (0, 0, 4) else (0, 0, 3)) := hide rfl
  clear hr hl hh3
  generalize (T.isLit (l ++ [39]) || T.isLit (l ++ [110, 39])) = cut at *
  generalize T.literal l = R at *
  go_enter Tryz.func79, Tryz.ntmps79
  go_wp2
  go_loop [10] (fun vi => ∃ (k : Nat), k ≤ h + 1 ∧ vi = .int .i64 k ∧ ∀ j, j < k → T.isLit (l.take j) = false) (fun vi => h + 1 - (intOf vi).toNat)
  case atStart => exact ⟨0, by omega, rfl, fun j hj => by omega⟩
  case round =>
    obtain ⟨k, hk, rfl, hs⟩ := hrel
    have HR := hide hs
    clear hs
    by_cases hlt : k < h + 1
    · have hkl : k ≤ l.length := by omega
      have C2 := HC.out k hkl
      have S2 := HS.out w k hkl
      have HLk := hide (HL.out k w)
      rcases hq : T.isLit (l.take k) with _ | _
      · rw [hq] at HLk
        have HQ := hide hq
        clear hq
        generalize hst : K.str (l.take k) = s at *
        have HST := hide hst
        clear hst
        go_wp2_with (first | simp only [S2] | simp only [C2])
        refine HLk.out.mono ?_; rintro _ w' ⟨rfl, rfl⟩
        go_wp2
        go_round
        case rel =>
          refine ⟨k + 1, by omega, by go_num, fun j hj => ?_⟩
          by_cases hjk : j = k
          · subst hjk; exact HQ.out
          · exact HR.out j (by omega)
        case measure => simp [intOf]; omega
      · rw [hq] at HLk
        have HQ := hide hq
        have HE : Hid (R = (2, k, 0)) := hide (by
          have hlen := T.isLit_len hq
          rw [List.length_take, Nat.min_eq_left hkl] at hlen
          rw [HV.out]
          rcases hlen with rfl | rfl
          · rw [if_pos hq]
          · rw [if_neg (by rw [HR.out 3 (by omega)]; simp), if_pos hq])
        clear hq
        generalize hst : K.str (l.take k) = s at *
        have HST := hide hst
        clear hst
        go_wp2_with (first | simp only [S2] | simp only [C2])
        refine HLk.out.mono ?_; rintro _ w' ⟨rfl, rfl⟩
        go_wp2
        go_ret3
        exact ⟨by rw [HE.out]; rfl, rfl⟩
    · obtain rfl : k = h + 1 := by omega
      have HE : Hid (R = if cut then (0, 0, 4) else (0, 0, 3)) := hide (by
        have h3 : T.isLit (l.take 3) = false := by
          rcases hq : T.isLit (l.take 3) with _ | _
          · rfl
          · have := T.isLit_len hq
            rw [List.length_take] at this
            have e := HR.out 3 (by have := HH3.out; omega)
            rw [e] at hq; cases hq
        have h4 : T.isLit (l.take 4) = false := by
          rcases hq : T.isLit (l.take 4) with _ | _
          · rfl
          · have := T.isLit_len hq
            rw [List.length_take] at this
            by_cases hl4 : 4 ≤ l.length
            · have e := HR.out 4 (by have := HH3.out; omega)
              rw [e] at hq; cases hq
            · rw [List.take_of_length_le (by omega)] at hq
              rw [List.take_of_length_le (by omega)] at h3
              rw [h3] at hq; cases hq
        rw [HV.out, if_neg (by rw [h3]; simp), if_neg (by rw [h4]; simp)])
      cases cut
      · go_wp2_with fail
        refine HCt.out.mono ?_; rintro _ w' ⟨rfl, rfl⟩
        go_wp2
        go_ret3
        exact ⟨by rw [HE.out]; rfl, rfl⟩
      · go_wp2_with fail
        refine HCt.out.mono ?_; rintro _ w' ⟨rfl, rfl⟩
        go_wp2
        go_ret3
        exact ⟨by rw [HE.out]; rfl, rfl⟩

theorem lname_any (A : Option Addr) (c B : Nat) (l : List Int) (w : World) (hr : RdB w B A l) (hn : l.length ≤ 5000) :
    Calls Tryz.prog 80 #[.slice A l.length c] w fun e w' => e = .returned (p3v (T.name l)) ∧ w = w' := by
  have P1 := hide (nsize_any A c B l w hr hn)
  have HV : Hid (T.name l = if T.nsize l = 0 then (0, 0, 3) else if 20 < T.nsize l then (0, 0, 5) else (1, T.nsize l, 0)) := hide rfl
  generalize T.name l = R at *
  generalize T.nsize l = n at *
  by_cases h0 : n = 0
  · subst h0
    have HE : Hid (R = (0, 0, 3)) := HV
    go_enter Tryz.func80, Tryz.ntmps80
    go_wp2_with fail
    refine P1.out.mono ?_; rintro _ w' ⟨rfl, rfl⟩
    go_wp2
    go_ret3
    exact ⟨by rw [HE.out]; rfl, rfl⟩
  · have hb0 : ((n : Int) == 0) = false := beq_eq_false_iff_ne.2 (by omega)
    by_cases h20 : 20 < n
    · have HE : Hid (R = (0, 0, 5)) := hide (by rw [HV.out, if_neg h0, if_pos h20])
      have h20' : (n : Int) > 20 := by omega
      clear h0 h20
      go_enter Tryz.func80, Tryz.ntmps80
      go_wp2_with fail
      refine P1.out.mono ?_; rintro _ w' ⟨rfl, rfl⟩
      go_wp2
      go_ret3
      exact ⟨by rw [HE.out]; rfl, rfl⟩
    · have HE : Hid (R = (1, n, 0)) := hide (by rw [HV.out, if_neg h0, if_neg h20])
      have h20' : ¬ (n : Int) > 20 := by omega
      clear h0 h20
      go_enter Tryz.func80, Tryz.ntmps80
      go_wp2_with fail
      refine P1.out.mono ?_; rintro _ w' ⟨rfl, rfl⟩
      go_wp2
      go_ret3
      exact ⟨by rw [HE.out]; rfl, rfl⟩
end Go.Proofs.YtoehbkgdodogkaaGreat
