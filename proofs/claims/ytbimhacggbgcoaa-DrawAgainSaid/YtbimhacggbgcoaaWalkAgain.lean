/- The walk of DrawAgain over this program: it answers true, for every bound and all words, and writes nothing that was there. -/
import Derived.Test.YtbimhacggbgcoaaAlive2
import Derived.Test.YtbimhacggbgcoaaDrawL
namespace Go.Proofs.Ytbimhacggbgcoaa
open Go.RowKit

set_option maxHeartbeats 4000000 in
set_option maxRecDepth 100000 in
theorem drawAgain_walk (A A' A'' : Option Addr) (ca cb cc : Nat) (b fs ws : List Int) (w : World) (hr : Rd w w.heap.size A b) (hr' : Rd w w.heap.size A' fs) (hr'' : Rd w w.heap.size A'' ws) (hb : M.Lim b) (hf : M.Lim fs) (hw : M.Lim ws) (e1 : b.length ≤ ca) (e2 : ca ≤ 9223372036854775807) (e3 : fs.length ≤ cb) (e4 : cb ≤ 9223372036854775807) (e5 : ws.length ≤ cc) (e6 : cc ≤ 9223372036854775807) :
    Calls Try.prog 6 #[.slice A b.length ca, .slice A' fs.length cb, .slice A'' ws.length cc] w fun e w' => e = .returned (.bool true) ∧ Below w.heap.size w w' := by
  have AL := hide (alive2_any w)
  have HR := hide hr
  have HR' := hide hr'
  have HR'' := hide hr''
  have N1 := hide (fun (W : World) (h : Rd W W.heap.size A b) => need_any A ca b W h hb e1 e2)
  have hnl := nN_le b
  by_cases h1 : ws.length ≤ 500
  · by_cases h2 : fs.length ≤ 40
    · by_cases h3 : fs.length = nN b
      · by_cases h4 : nN b = 0
        · have h4' : ((nN b : Int) == 0) = true := by rw [h4]; rfl
          have h3' : ((fs.length : Int) != (nN b : Int)) = false := by rw [h3]; simp
          generalize nN b = N at *
          clear hr hr' hr'' h3 h4
          go_enter Try.func6, Try.ntmps6
          go_wp2_with fail
          refine AL.out.mono ?_
          rintro e w1 ⟨rfl, b1⟩
          go_wp2_with fail
          refine (N1.out w1 (HR.out.up b1)).mono ?_
          rintro e w2 ⟨rfl, b2⟩
          have c2 := b1.trans (b2.mono b1.size)
          go_wp2
          go_ret
          exact ⟨rfl, c2⟩
        · have CF := hide (fun (W : World) (h : Rd W W.heap.size A b) (h' : Rd W W.heap.size A' fs) => below_any A A' ca cb b fs W h h' hb hf e1 e2 e3 e4)
          have h4' : ((nN b : Int) == 0) = false := by simp; exact h4
          have h3' : ((fs.length : Int) != (nN b : Int)) = false := by rw [h3]; simp
          by_cases h5 : (belowS b fs).2.2 = 12
          · have AG := belowS_again (ws := ws) h3 h4 (by omega) h5
            have CW := hide (fun (W : World) (h : Rd W W.heap.size A b) (h' : Rd W W.heap.size A'' ws) => below_any A A'' ca cc b ws W h h' hb hw e1 e2 e5 e6)
            have CM := hide (fun (W : World) (X : Option Addr) (cx : Nat) (h : Rd W W.heap.size A b) (h' : Rd W W.heap.size X (fs ++ ws)) (k1 : (fs ++ ws).length ≤ cx) (k2 : cx ≤ 9223372036854775807) => by
              have q := below_any A X ca cx b (fs ++ ws) W h h' hb (hf.append hw) e1 e2 k1 k2
              rw [AG] at q; exact q)
            have SM := hide (fun (W : World) (X Y : Option Addr) (cx cy : Nat) (xs : List Int) (h : Rd W W.heap.size X xs) (h' : Rd W W.heap.size Y xs) (l : xs.length ≤ 9223372036854775807) => by
              have q := same_up W X Y cx cy xs xs h h' l l
              rw [show decide (xs = xs) = true by simp] at q; exact q)
            have hmd : (belowS b ws).2.2 = 0 → 0 ≤ (belowS b ws).2.1 ∧ (belowS b ws).2.1 ≤ (ws.length : Int) := fun h => ⟨(belowS_ok hb hw h).2.2.2.1, (belowS_ok hb hw h).2.2.2.2.1⟩
            have hfl : (belowS b ws).2.2 ≠ 0 → (belowS b ws).2.2 = 12 := fun h => by
              have hm : mayB b = true := by
                rcases Bool.eq_false_or_eq_true (mayB b) with h' | h'
                · exact h'
                · exact absurd (by unfold nN; rw [kN_not h']) h4
              unfold belowS at h ⊢
              rw [if_pos hm, if_neg (by omega), if_neg h4] at h ⊢
              rw [drawL_fail _ _ _ h]
            generalize belowS b fs = F at *
            obtain ⟨fx, fm, fe⟩ := F
            have h5 : fe = 12 := h5
            subst h5
            generalize belowS b ws = R at *
            obtain ⟨xs, m, er⟩ := R
            by_cases h6 : er = 0
            · subst h6
              have hmd : 0 ≤ m ∧ m ≤ (ws.length : Int) := hmd rfl
              have CM := hide (fun (W : World) (X : Option Addr) (cx : Nat) (h : Rd W W.heap.size A b) (h' : Rd W W.heap.size X (fs ++ ws)) (k1 : (fs ++ ws).length ≤ cx) (k2 : cx ≤ 9223372036854775807) => by
                have q := CM.out W X cx h h' k1 k2
                rw [if_pos rfl] at q; exact q)
              have hN : (nN b : Int) ≤ 32 := by omega
              generalize nN b = N at *
              obtain ⟨hm0, hm1⟩ := hmd
              clear hr hr' hr'' h3 h4 AG hfl
              go_enter Try.func6, Try.ntmps6
              go_wp2_with fail
              refine AL.out.mono ?_
              rintro e w1 ⟨rfl, b1⟩
              go_wp2_with fail
              refine (N1.out w1 (HR.out.up b1)).mono ?_
              rintro e w2 ⟨rfl, b2⟩
              have c2 := b1.trans (b2.mono b1.size)
              go_wp2_with fail
              refine (CF.out w2 (HR.out.up c2) (HR'.out.up c2)).mono ?_
              rintro e w3 ⟨Z, cz, rfl, z1, z2, z3, b3⟩
              have c3 := c2.trans (b3.mono c2.size)
              clear b1 b2 b3 z3 c2
              go_wp2_with fail
              refine (CW.out w3 (HR.out.up c3) (HR''.out.up c3)).mono ?_
              rintro e w4 ⟨X, cx, rfl, x1, x2, x3, b4⟩
              have c4 := c3.trans (b4.mono c3.size)
              have hr1 := (HR'.out.up c4).alloc (Nat.le_refl _) (.cells #[] 34)
              have HX := hide x3
              clear x3 b4 c3
              go_wp2_with (at_builtin; first | (refine apn_arm rfl (.tmp 57) (.tmp 58) _ rfl Try.underlying22 w4.heap.size _ [] rfl (own_empty w4) w4.heap.size fs.length cb A' fs rfl rfl hr1 (by simp; omega) (by simp) ?_; intro v' w5 h3 h4) | (refine apn_arm rfl (.tmp 59) (.tmp 60) _ rfl Try.underlying22 w4.heap.size v' ([] ++ fs) rfl h3 w5.heap.size ws.length cc A'' ws rfl rfl ((HR''.out.up c4).up (below_grown ((Below.refl w4.heap.size w4).alloc (Nat.le_refl _) _) (own_empty w4) h4 (by simp))) (by simp; omega) (below_grown ((Below.refl w4.heap.size w4).alloc (Nat.le_refl _) _) (own_empty w4) h4 (by simp)).size ?_; intro v'' w6 h5 h6))
              have b34 : Below w4.heap.size w4 w6 := below_grown (below_grown ((Below.refl w4.heap.size w4).alloc (Nat.le_refl _) _) (own_empty w4) h4 (by simp)) h3 h6 (below_grown ((Below.refl w4.heap.size w4).alloc (Nat.le_refl _) _) (own_empty w4) h4 (by simp)).size
              have c34 := c4.trans (b34.mono c4.size)
              rw [List.nil_append] at h5
              obtain ⟨AO, co, rfl, o1, o2, o3⟩ := h5.form
              have o4 : co ≤ 9223372036854775807 := by unfold maxLen at o2; omega
              have HX4 := hide (HX.out.up b34)
              have HO := hide o3
              have c6 := c34
              clear o3 h3 h4 h5 h6 hr1 b34 c34
              go_wp2_with fail
              refine (CM.out w6 AO co (HR.out.up c6) HO.out o1 o4).mono ?_
              rintro e w7 ⟨Y, cy, rfl, y1, y2, y3, b7⟩
              have c7 := c6.trans (b7.mono c6.size)
              have l5 : xs.length ≤ 9223372036854775807 := Nat.le_trans x1 x2
              have HY := hide y3
              clear y3
              go_wp2_with fail
              refine (SM.out w7 X Y cx cy xs (HX4.out.up b7) HY.out l5).mono ?_
              rintro e w8 ⟨rfl, b8⟩
              have c8 := c7.trans (b8.mono c7.size)
              clear b7 b8 c7
              go_wp2
              go_ret
              exact ⟨rfl, c8⟩
            · have h6' : (er != 0) = true := by rw [bne_iff_ne]; exact h6
              have CM := hide (fun (W : World) (X : Option Addr) (cx : Nat) (h : Rd W W.heap.size A b) (h' : Rd W W.heap.size X (fs ++ ws)) (k1 : (fs ++ ws).length ≤ cx) (k2 : cx ≤ 9223372036854775807) => by
                have q := CM.out W X cx h h' k1 k2
                rw [if_neg h6] at q; exact q)
              have h7 : er = 12 := hfl h6
              subst h7
              generalize nN b = N at *
              clear hr hr' hr'' h3 h4 AG hfl hmd h6
              go_enter Try.func6, Try.ntmps6
              go_wp2_with fail
              refine AL.out.mono ?_
              rintro e w1 ⟨rfl, b1⟩
              go_wp2_with fail
              refine (N1.out w1 (HR.out.up b1)).mono ?_
              rintro e w2 ⟨rfl, b2⟩
              have c2 := b1.trans (b2.mono b1.size)
              go_wp2_with fail
              refine (CF.out w2 (HR.out.up c2) (HR'.out.up c2)).mono ?_
              rintro e w3 ⟨Z, cz, rfl, z1, z2, z3, b3⟩
              have c3 := c2.trans (b3.mono c2.size)
              clear b1 b2 b3 z3 c2
              go_wp2_with fail
              refine (CW.out w3 (HR.out.up c3) (HR''.out.up c3)).mono ?_
              rintro e w4 ⟨X, cx, rfl, x1, x2, x3, b4⟩
              have c4 := c3.trans (b4.mono c3.size)
              have hr1 := (HR'.out.up c4).alloc (Nat.le_refl _) (.cells #[] 34)
              have HX := hide x3
              clear x3 b4 c3
              go_wp2_with (at_builtin; first | (refine apn_arm rfl (.tmp 57) (.tmp 58) _ rfl Try.underlying22 w4.heap.size _ [] rfl (own_empty w4) w4.heap.size fs.length cb A' fs rfl rfl hr1 (by simp; omega) (by simp) ?_; intro v' w5 h3 h4) | (refine apn_arm rfl (.tmp 59) (.tmp 60) _ rfl Try.underlying22 w4.heap.size v' ([] ++ fs) rfl h3 w5.heap.size ws.length cc A'' ws rfl rfl ((HR''.out.up c4).up (below_grown ((Below.refl w4.heap.size w4).alloc (Nat.le_refl _) _) (own_empty w4) h4 (by simp))) (by simp; omega) (below_grown ((Below.refl w4.heap.size w4).alloc (Nat.le_refl _) _) (own_empty w4) h4 (by simp)).size ?_; intro v'' w6 h5 h6))
              have b34 : Below w4.heap.size w4 w6 := below_grown (below_grown ((Below.refl w4.heap.size w4).alloc (Nat.le_refl _) _) (own_empty w4) h4 (by simp)) h3 h6 (below_grown ((Below.refl w4.heap.size w4).alloc (Nat.le_refl _) _) (own_empty w4) h4 (by simp)).size
              have c34 := c4.trans (b34.mono c4.size)
              rw [List.nil_append] at h5
              obtain ⟨AO, co, rfl, o1, o2, o3⟩ := h5.form
              have o4 : co ≤ 9223372036854775807 := by unfold maxLen at o2; omega
              have HX4 := hide (HX.out.up b34)
              have HO := hide o3
              have c6 := c34
              clear o3 h3 h4 h5 h6 hr1 b34 c34
              go_wp2_with fail
              refine (CM.out w6 AO co (HR.out.up c6) HO.out o1 o4).mono ?_
              rintro e w7 ⟨Y, cy, rfl, y1, y2, y3, b7⟩
              have c7 := c6.trans (b7.mono c6.size)
              clear y3 b7
              go_wp2
              go_ret
              exact ⟨rfl, c7⟩
          · generalize belowS b fs = F at *
            obtain ⟨fx, fm, fe⟩ := F
            have h5' : (fe != 12) = true := by rw [bne_iff_ne]; exact h5
            generalize nN b = N at *
            clear hr hr' hr'' h3 h4 h5
            go_enter Try.func6, Try.ntmps6
            go_wp2_with fail
            refine AL.out.mono ?_
            rintro e w1 ⟨rfl, b1⟩
            go_wp2_with fail
            refine (N1.out w1 (HR.out.up b1)).mono ?_
            rintro e w2 ⟨rfl, b2⟩
            have c2 := b1.trans (b2.mono b1.size)
            go_wp2_with fail
            refine (CF.out w2 (HR.out.up c2) (HR'.out.up c2)).mono ?_
            rintro e w3 ⟨X, cx, rfl, x1, x2, x3, b3⟩
            have c3 := c2.trans (b3.mono c2.size)
            go_wp2
            go_ret
            exact ⟨rfl, c3⟩
      · have h3' : ((fs.length : Int) != (nN b : Int)) = true := by rw [bne_iff_ne]; omega
        generalize nN b = N at *
        clear hr hr' hr'' h3
        go_enter Try.func6, Try.ntmps6
        go_wp2_with fail
        refine AL.out.mono ?_
        rintro e w1 ⟨rfl, b1⟩
        go_wp2_with fail
        refine (N1.out w1 (HR.out.up b1)).mono ?_
        rintro e w2 ⟨rfl, b2⟩
        have c2 := b1.trans (b2.mono b1.size)
        go_wp2
        go_ret
        exact ⟨rfl, c2⟩
    · generalize nN b = N at *
      clear hr hr' hr''
      go_enter Try.func6, Try.ntmps6
      go_wp2_with fail
      refine AL.out.mono ?_
      rintro e w1 ⟨rfl, b1⟩
      go_wp2_with fail
      refine (N1.out w1 (HR.out.up b1)).mono ?_
      rintro e w2 ⟨rfl, b2⟩
      have c2 := b1.trans (b2.mono b1.size)
      go_wp2
      go_ret
      exact ⟨rfl, c2⟩
  · generalize nN b = N at *
    clear hr hr' hr''
    go_enter Try.func6, Try.ntmps6
    go_wp2_with fail
    refine AL.out.mono ?_
    rintro e w1 ⟨rfl, b1⟩
    go_wp2_with fail
    refine (N1.out w1 (HR.out.up b1)).mono ?_
    rintro e w2 ⟨rfl, b2⟩
    have c2 := b1.trans (b2.mono b1.size)
    go_wp2
    go_ret
    exact ⟨rfl, c2⟩
end Go.Proofs.Ytbimhacggbgcoaa
