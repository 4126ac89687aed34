/- What is drawn below a bound, by the document over this program. -/
import Derived.Test.YtbimhacggbgcoaaBelow
import Derived.Deep.RegionWith
namespace Go.Proofs.Ytbimhacggbgcoaa
open Go.RowKit

set_option maxHeartbeats 2000000 in
set_option maxRecDepth 100000 in
theorem rbelow_any (A A' : Option Addr) (ca cb : Nat) (b ws : List Int) (w : World) (hr : Rd w w.heap.size A b) (hr' : Rd w w.heap.size A' ws) (hb : M.Lim b) (hw : M.Lim ws) (e1 : b.length ≤ ca) (e2 : ca ≤ 9223372036854775807) (e3 : ws.length ≤ cb) (e4 : cb ≤ 9223372036854775807) :
    Calls Try.prog 9 #[.slice A b.length ca, .slice A' ws.length cb] w (RetB (belowS b ws) w) := by
  have C1 := rright_any A ca w.heap.size b w hr (by omega)
  by_cases hrb : right b = true
  · rw [hrb] at C1
    have D1 := hide C1
    by_cases hb0 : b.length = 0
    · have hS : belowS b ws = ([], 0, 1) := by unfold belowS mayB; rw [hrb, hb0]; rfl
      rw [hS]
      have hb0' : ((b.length : Int) == 0) = true := by simp [hb0]
      clear hS C1 hr hr' hrb hb0
      go_enter Try.func9, Try.ntmps9
      go_wp2_with fail
      refine D1.out.mono ?_; rintro e w' ⟨rfl, rfl⟩
      go_wp2
      go_ret3
      exact RetB.bad 1 _ _ (Below.refl _ _)
    · have hb0' : ((b.length : Int) == 0) = false := by simp; exact List.ne_nil_of_length_pos (by omega)
      have h1 : mayB b = true := by unfold mayB; rw [hrb]; simpa using hb0
      by_cases h2 : 1000 < ws.length
      · have hS : belowS b ws = ([], 0, 5) := by unfold belowS; rw [if_pos h1, if_pos h2]
        rw [hS]
        clear hS h1 C1 hr hr' hrb hb0
        go_enter Try.func9, Try.ntmps9
        go_wp2_with fail
        refine D1.out.mono ?_; rintro e w' ⟨rfl, rfl⟩
        go_wp2
        go_ret3
        exact RetB.bad 5 _ _ (Below.refl _ _)
      · have D2 := hide (fun W : World => fun h : Rd W W.heap.size A b => rbits2_any A ca b W h hb e1 e2)
        have D3 := hide (fun W : World => fun h : Rd W W.heap.size A b => rneed_any A ca b W h hb e1 e2)
        have hnl := nN_le b
        have hkl := kN_le b
        have hvp := C.val_pos hb hrb hb0
        have HR := hide hr
        have HR' := hide hr'
        have CM := hide (fun (W : World) (X : Option Addr) (cx : Nat) (xs : List Int) (hx : M.Lim xs) (h : Rd W W.heap.size X xs) (h' : Rd W W.heap.size A b) (g1 : xs.length ≤ cx) (g2 : cx ≤ 9223372036854775807) => rcmp_any X A cx ca W.heap.size xs b W h h' hx hb g1 e1 g2 e2)
        by_cases h3 : nN b = 0
        · have hS : belowS b ws = ([], 0, 0) := by unfold belowS; rw [if_pos h1, if_neg h2, if_pos h3]
          rw [hS]
          rw [h3] at D3
          clear hS h1 C1 hr hr' hrb hb0 hvp CM
          go_enter Try.func9, Try.ntmps9
          go_wp2_with fail
          refine D1.out.mono ?_; rintro e w' ⟨rfl, rfl⟩
          go_wp2_with fail
          refine (D3.out w HR.out).mono ?_; rintro e w2 ⟨rfl, b2⟩
          go_wp2
          go_ret3
          exact RetB.bad 0 _ _ b2
        · have hS : belowS b ws = drawL b (kN b) (nN b) (ws.length / nN b) ws 0 := by unfold belowS; rw [if_pos h1, if_neg h2, if_neg h3]
          rw [hS]
          have hkn : (kN b + 31) / 32 = nN b := rfl
          have LB := hide (fun (W : World) (X : Option Addr) (cx : Nat) (d : Nat) (hd : d + nN b ≤ ws.length) (h : Rd W W.heap.size X ((ws.drop d).take (nN b))) => by
            have q := try_any X cx (kN b) ((ws.drop d).take (nN b)) W h (lim_part hw) hkl (by rw [take_part_len hd]; exact hkn.symm)
            rw [take_part_len hd] at q; exact q)
          have CL := hide (fun (W : World) (X : Option Addr) (cx : Nat) (d : Nat) (hd : d + nN b ≤ ws.length) (h : Rd W W.heap.size X (lowS (kN b) ((ws.drop d).take (nN b)))) (h' : Rd W W.heap.size A b) (g1 : (lowS (kN b) ((ws.drop d).take (nN b))).length ≤ cx) (g2 : cx ≤ 9223372036854775807) => by
            have hl : ((ws.drop d).take (nN b)).length ≤ 32 := by rw [take_part_len hd]; exact hnl
            have q := CM.out W X cx _ (lowS_canon (k := kN b) (lim_part hw) hl).1 h h' g1 g2
            rw [cmp_low (lim_part hw) hl hrb] at q; exact q)
          have STEP := hide (fun (d : Nat) => @drawL_step b ws (kN b) (nN b) d h3)
          have STOP := hide (fun (d : Nat) => @drawL_stop b ws (kN b) (nN b) d h3)
          have START : Hid (drawL b (kN b) (nN b) ((ws.length - 0) / nN b) (ws.drop 0) 0 = drawL b (kN b) (nN b) (ws.length / nN b) ws 0) := rfl
          generalize drawL b (kN b) (nN b) (ws.length / nN b) ws 0 = R at *
          have hn0 : 0 < nN b := by omega
          have hn1 : ((nN b : Int) == 0) = false := by simp; omega
          generalize nN b = n at *
          generalize kN b = k at *
          have hl := h2
          clear hS h1 C1 hr hr' hrb hb0 hvp CM hkn h3
          go_enter Try.func9, Try.ntmps9
          go_wp2_with fail
          refine D1.out.mono ?_; rintro e w' ⟨rfl, rfl⟩
          go_wp2_with fail
          refine (D3.out w HR.out).mono ?_; rintro e w2 ⟨rfl, b12⟩
          go_wp2_with fail
          go_loopw [8] (fun vu wr => ∃ d : Nat, vu = .int .i64 (d : Int) ∧ d ≤ ws.length ∧ drawL b k n ((ws.length - d) / n) (ws.drop d) d = R ∧ Below w.heap.size w wr) (fun vu _ => ws.length + 1 - (intOf vu).toNat)
          case atStart => exact ⟨0, rfl, Nat.zero_le _, START.out, b12⟩
          case round =>
            obtain ⟨d, rfl, hd, hdr, hbl⟩ := hrel
            have HDR := hide hdr
            clear hdr
            by_cases hle : d + n ≤ ws.length
            · have hs := STEP.out d hle
              rw [HDR.out] at hs
              have hrd := HR'.out.up hbl
              obtain ⟨g, o, hA, _, _⟩ := HR'.out (by omega)
              subst hA
              have HP := hide (rd_part d n hrd hle)
              clear hrd
              have hle' : (d : Int) + (n : Int) ≤ (ws.length : Int) := by omega
              have hcap : (d : Int) + (n : Int) ≤ (cb : Int) := by omega
              have HS := hide hs
              clear hs
              have hd0 : (0 : Int) ≤ (d : Int) := by omega
              have hd1 : (d : Int) ≤ (d : Int) + (n : Int) := by omega
              obtain ⟨m, hm⟩ : ∃ m, m = d + n := ⟨_, rfl⟩
              have hm1 : IntKind.i64.wrap ((d : Int) + (n : Int)) = (m : Int) := by rw [IntKind.wrap_i64]; omega
              have hm2 : (d : Int) ≤ (m : Int) := by omega
              have hm3 : (m : Int) ≤ (cb : Int) := by omega
              have hm4 : m - d = n := by omega
              have hm5 : ¬ cb = d := by omega
              have hm6 : d ≤ m := by omega
              have hm7 : m ≤ cb := by omega
              have HM := hide hm
              clear hm
              have LBd := hide (fun (W : World) (X : Option Addr) (cx : Nat) => LB.out W X cx d hle)
              have CLd := hide (fun (W : World) (X : Option Addr) (cx : Nat) => CL.out W X cx d hle)
              generalize (ws.drop d).take n = part at *
              go_wp2_with fail
              go_region_with (first | (go_at_call 21; refine (D2.out _ (HR.out.up (below_drewN hbl 1))).mono ?_; rintro e w3 ⟨rfl, b3⟩) | (go_at_call 20; refine (LBd.out _ _ _ ((HP.out.drewN 1).up b3)).mono ?_; rintro e w4 ⟨X, cx, rfl, m1, m2, m3, b4⟩))
              have hb3 := (below_drewN hbl 1).trans (b3.mono hbl.size)
              have hb4 := hb3.trans (b4.mono hb3.size)
              go_wp2_with fail
              refine (CLd.out w4 X cx m3 (HR.out.up hb4) m1 m2).mono ?_; rintro e w5 ⟨rfl, rfl⟩
              by_cases hv : M.val (lowS k part) < M.val b
              · have hneg := cmpI_neg hv
                have HF : Hid (R = (lowS k part, ((d + n : Nat) : Int), 0)) := by show R = _; rw [HS.out, if_pos hv]
                generalize cmpI (M.val (lowS k part)) (M.val b) = cc at *
                clear hv
                go_wp2
                go_ret3
                rw [HF.out]
                exact ⟨X, cx, by rw [HM.out]; simp, m1, m2, m3, hb4⟩
              · have hneg := cmpI_not hv
                have HF : Hid (drawL b k n ((ws.length - (d + n)) / n) (ws.drop (d + n)) (d + n) = R) := by show _ = R; rw [HS.out, if_neg hv]
                generalize cmpI (M.val (lowS k part)) (M.val b) = cc at *
                clear hv
                go_wp2
                go_roundw
                case rel => exact ⟨d + n, by rw [HM.out], hle, HF.out, hb4⟩
                case measure => simp [intOf]; omega
            · have hgt : ¬ (d : Int) + (n : Int) ≤ (ws.length : Int) := by omega
              have hs := STOP.out d (by omega)
              rw [HDR.out] at hs
              have HS := hide hs
              clear hs
              go_wp2
              go_ret3
              rw [HS.out]
              exact RetB.bad 12 _ _ hbl
  · have hrb : right b = false := by simpa using hrb
    have hS : belowS b ws = ([], 0, 1) := by unfold belowS mayB; rw [hrb]; rfl
    rw [hS]
    rw [hrb] at C1
    have D1 := hide C1
    clear hrb hS C1 hr hr'
    go_enter Try.func9, Try.ntmps9
    go_wp2_with fail
    refine D1.out.mono ?_; rintro e w' ⟨rfl, rfl⟩
    go_wp2
    go_ret3
    exact RetB.bad 1 _ _ (Below.refl _ _)
end Go.Proofs.Ytbimhacggbgcoaa
