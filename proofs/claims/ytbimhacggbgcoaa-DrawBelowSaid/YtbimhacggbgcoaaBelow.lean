/- What is drawn below a bound: said on lists, and by the code over this program. -/
import Derived.Test.YtbimhacggbgcoaaTry
namespace Go.Proofs.Ytbimhacggbgcoaa
open Go.RowKit

/-- So many tries of n words, the first one behind so many words: the first that is below the bound is drawn. -/
def drawL (b : List Int) (k n : Nat) : Nat → List Int → Nat → List Int × Int × Int
  | 0, _, _ => ([], 0, 12)
  | r + 1, ws, used => if M.val (lowS k (ws.take n)) < M.val b then (lowS k (ws.take n), ((used + n : Nat) : Int), 0) else drawL b k n r (ws.drop n) (used + n)
/-- What any words draw below any bound. -/
def belowS (b ws : List Int) : List Int × Int × Int :=
  if mayB b then (if 1000 < ws.length then ([], 0, 5) else if nN b = 0 then ([], 0, 0) else drawL b (kN b) (nN b) (ws.length / nN b) ws 0) else ([], 0, 1)

/-- What is answered: limbs, in new memory or none, how many words, and an error's number. -/
def RetB (r : List Int × Int × Int) (w : World) (e : Ending) (w' : World) : Prop :=
  ∃ A c, e = .returned (.tuple #[.slice A r.1.length c, .int .i64 r.2.1, .int .i64 r.2.2]) ∧ r.1.length ≤ c ∧ c ≤ 9223372036854775807 ∧ Rd w' w'.heap.size A r.1 ∧ Below w.heap.size w w'
theorem RetB.bad (n : Int) (w w' : World) (h : Below w.heap.size w w') : RetB ([], 0, n) w (.returned (.tuple #[.slice none 0 0, .int .i64 0, .int .i64 n])) w' :=
  ⟨none, 0, rfl, Nat.le_refl _, by omega, Rd.nil _ _ _, h⟩

theorem lowS_canon {k : Nat} {ws : List Int} (h : M.Lim ws) (hl : ws.length ≤ 32) : M.Lim (lowS k ws) ∧ right (lowS k ws) = true ∧ (lowS k ws).length ≤ 32 := by
  have hm := maskS_lim (k := k) h
  have ht := M.trim_eq_canon hm
  have h2 := M.trim_length_le (maskS k ws)
  rw [maskS_len] at h2
  unfold lowS
  refine ⟨M.lim_trim hm, ?_, by omega⟩
  rw [ht] at h2 ⊢
  exact C.right (by omega)
theorem cmp_low {k : Nat} {ws b : List Int} (h : M.Lim ws) (hl : ws.length ≤ 32) (hb : right b = true) : cmpS (lowS k ws) b = cmpI (M.val (lowS k ws)) (M.val b) := by
  unfold cmpS; rw [(lowS_canon h hl).2.1, hb]; rfl
theorem cmpI_neg {a b : Int} (h : a < b) : cmpI a b < 0 := by rw [cmpI_lt h]; omega
theorem cmpI_not {a b : Int} (h : ¬ a < b) : ¬ cmpI a b < 0 := by unfold cmpI; rw [if_neg h]; split <;> omega

theorem drawL_step {b ws : List Int} {k n d : Nat} (hn : n ≠ 0) (h : d + n ≤ ws.length) :
    drawL b k n ((ws.length - d) / n) (ws.drop d) d = if M.val (lowS k ((ws.drop d).take n)) < M.val b then (lowS k ((ws.drop d).take n), ((d + n : Nat) : Int), 0) else drawL b k n ((ws.length - (d + n)) / n) (ws.drop (d + n)) (d + n) := by
  have e : (ws.length - d) / n = (ws.length - (d + n)) / n + 1 := by
    rw [Nat.div_eq_sub_div (by omega) (by omega), show ws.length - d - n = ws.length - (d + n) by omega]
  rw [e, drawL, List.drop_drop]
theorem drawL_stop {b ws : List Int} {k n d : Nat} (hn : n ≠ 0) (h : ws.length < d + n) : drawL b k n ((ws.length - d) / n) (ws.drop d) d = ([], 0, 12) := by
  rw [Nat.div_eq_of_lt (by omega), drawL]

theorem nN_zero {b : List Int} (h : nN b = 0) : kN b = 0 := by unfold nN at h; omega
theorem nN_le (b : List Int) : nN b ≤ 32 := by have := kN_le b; unfold nN; omega

theorem rd_part {w : World} {B g o : Nat} {ws : List Int} (d n : Nat) (h : Rd w B (some ⟨g, o, none⟩) ws) (hd : d + n ≤ ws.length) : Rd w B (some ⟨g, o + d, none⟩) ((ws.drop d).take n) := by
  intro h0
  have hl : ((ws.drop d).take n).length = n := by rw [List.length_take, List.length_drop]; omega
  obtain ⟨g', o', he, hg, hc⟩ := h (by omega)
  injection he with he
  injection he with h1 h2
  subst h1 h2
  refine ⟨g, o + d, rfl, hg, fun j hj => ?_⟩
  rw [hl] at hj
  have := hc (d + j) (by omega)
  rw [← Nat.add_assoc] at this
  rw [this, M.gd_lt (by omega), M.gd_lt (by omega), List.getElem_take, List.getElem_drop]
theorem take_part_len {ws : List Int} {d n : Nat} (hd : d + n ≤ ws.length) : ((ws.drop d).take n).length = n := by rw [List.length_take, List.length_drop]; omega
theorem lim_part {ws : List Int} {d n : Nat} (h : M.Lim ws) : M.Lim ((ws.drop d).take n) := (h.drop d).take n

set_option maxHeartbeats 2000000 in
set_option maxRecDepth 100000 in
theorem below_any (A A' : Option Addr) (ca cb : Nat) (b ws : List Int) (w : World) (hr : Rd w w.heap.size A b) (hr' : Rd w w.heap.size A' ws) (hb : M.Lim b) (hw : M.Lim ws) (e1 : b.length ≤ ca) (e2 : ca ≤ 9223372036854775807) (e3 : ws.length ≤ cb) (e4 : cb ≤ 9223372036854775807) :
    Calls Try.prog 8 #[.slice A b.length ca, .slice A' ws.length cb] w (RetB (belowS b ws) w) := by
  have C1 := mayBound_any A ca b w hr (by omega)
  by_cases h1 : mayB b = true
  · obtain ⟨hrb, hb0⟩ := mayB_parts h1
    rw [h1] at C1
    have D1 := hide C1
    by_cases h2 : 1000 < ws.length
    · have hS : belowS b ws = ([], 0, 5) := by unfold belowS; rw [if_pos h1, if_pos h2]
      rw [hS]
      clear hS h1 C1 hr hr' hrb hb0
      go_enter Try.func8, Try.ntmps8
      go_wp2_with fail
      refine D1.out.mono ?_; rintro e w' ⟨rfl, rfl⟩
      go_wp2
      go_ret3
      exact RetB.bad 5 _ _ (Below.refl _ _)
    · have D2 := hide (fun W : World => fun h : Rd W W.heap.size A b => bitsBelow_any A ca b W h hb e1 e2)
      have D3 := hide (fun W : World => fun h : Rd W W.heap.size A b => need_any A ca b W h hb e1 e2)
      have hnl := nN_le b
      have hkl := kN_le b
      have hvp := C.val_pos hb hrb hb0
      have HR := hide hr
      have HR' := hide hr'
      have CM := hide (fun (W : World) (X : Option Addr) (cx : Nat) (xs : List Int) (hx : M.Lim xs) (h : Rd W W.heap.size X xs) (h' : Rd W W.heap.size A b) (g1 : xs.length ≤ cx) (g2 : cx ≤ 9223372036854775807) => ncmp_any X A cx ca W.heap.size xs b W h h' hx hb g1 e1 g2 e2)
      by_cases h3 : nN b = 0
      · have hS : belowS b ws = ([], 0, 0) := by unfold belowS; rw [if_pos h1, if_neg h2, if_pos h3]
        rw [hS]
        have hk0 := nN_zero h3
        rw [hk0] at D2
        rw [h3] at D3
        have LB := hide (fun (W : World) (X : Option Addr) (cx : Nat) => show Calls _ _ _ _ (Ret1 [] W) from lowBits_any X cx 0 [] W (Rd.nil _ _ _) M.Lim.nil (by omega) (by simp))
        have hc0 : cmpS (lowS 0 []) b = -1 := by rw [cmp_low M.Lim.nil (by simp) hrb]; exact cmpI_lt (by show (0 : Int) < _; exact hvp)
        have CM0 := hide (fun (W : World) (X : Option Addr) (cx : Nat) (h' : Rd W W.heap.size A b) (g2 : cx ≤ 9223372036854775807) => by
          have q := CM.out W X cx [] M.Lim.nil (Rd.nil _ _ _) h' (Nat.zero_le _) g2
          rw [show cmpS [] b = -1 from hc0] at q; exact q)
        clear hS h1 C1 hr hr' hrb hb0 hvp CM hc0 hk0
        go_enter Try.func8, Try.ntmps8
        go_wp2_with fail
        refine D1.out.mono ?_; rintro e w' ⟨rfl, rfl⟩
        go_wp2_with fail
        refine (D2.out w HR.out).mono ?_; rintro e w1 ⟨rfl, b1⟩
        go_wp2_with fail
        refine (D3.out w1 (HR.out.up b1)).mono ?_; rintro e w2 ⟨rfl, b2⟩
        have b12 := b1.trans (b2.mono b1.size)
        go_wp2_with fail
        clear h3
        go_loopw [9] (fun vu wr => vu = .int .i64 0 ∧ Below w.heap.size w wr) (fun _ _ => 0)
        case atStart => exact ⟨rfl, b12⟩
        case round =>
          obtain ⟨rfl, hbl⟩ := hrel
          go_wp2_with fail
          refine (LB.out wr _ _).mono ?_; rintro e w3 ⟨X, cx, rfl, m1, m2, m3, b3⟩
          have hb3 := hbl.trans (b3.mono hbl.size)
          go_wp2_with fail
          refine (CM0.out w3 X cx (HR.out.up hb3) m2).mono ?_; rintro e w4 ⟨rfl, q, hq⟩
          have hb4 : Below w.heap.size w w4 := by rw [hq]; exact below_drewN hb3 _
          have m4 : Rd w4 w4.heap.size X [] := Rd.nil _ _ _
          clear hq
          go_wp2
          go_ret3
          exact ⟨X, cx, rfl, m1, m2, m4, hb4⟩
      · have hS : belowS b ws = drawL b (kN b) (nN b) (ws.length / nN b) ws 0 := by unfold belowS; rw [if_pos h1, if_neg h2, if_neg h3]
        rw [hS]
        have hkn : (kN b + 31) / 32 = nN b := rfl
        have LB := hide (fun (W : World) (X : Option Addr) (cx : Nat) (d : Nat) (hd : d + nN b ≤ ws.length) (h : Rd W W.heap.size X ((ws.drop d).take (nN b))) => by
          have q := lowBits_any X cx (kN b) ((ws.drop d).take (nN b)) W h (lim_part hw) hkl (by rw [take_part_len hd]; exact hkn.symm)
          rw [take_part_len hd] at q; exact q)
        have CL := hide (fun (W : World) (X : Option Addr) (cx : Nat) (d : Nat) (hd : d + nN b ≤ ws.length) (h : Rd W W.heap.size X (lowS (kN b) ((ws.drop d).take (nN b)))) (h' : Rd W W.heap.size A b) (g1 : (lowS (kN b) ((ws.drop d).take (nN b))).length ≤ cx) (g2 : cx ≤ 9223372036854775807) => by
          have hl : ((ws.drop d).take (nN b)).length ≤ 32 := by rw [take_part_len hd]; exact hnl
          have q := CM.out W X cx _ (lowS_canon (k := kN b) (lim_part hw) hl).1 h h' g1 g2
          rw [cmp_low (lim_part hw) hl hrb] at q; exact q)
        have STEP := hide (fun (d : Nat) => @drawL_step b ws (kN b) (nN b) d h3)
        have STOP := hide (fun (d : Nat) => @drawL_stop b ws (kN b) (nN b) d h3)
        have START : Hid (drawL b (kN b) (nN b) ((ws.length - 0) / nN b) (ws.drop 0) 0 = drawL b (kN b) (nN b) (ws.length / nN b) ws 0) := rfl
        generalize drawL b (kN b) (nN b) (ws.length / nN b) ws 0 = R at *
        have hn0 : 0 < nN b := by omega
        generalize nN b = n at *
        generalize kN b = k at *
        have hl := h2
        clear hS h1 C1 hr hr' hrb hb0 hvp CM hkn h3
        go_enter Try.func8, Try.ntmps8
        go_wp2_with fail
        refine D1.out.mono ?_; rintro e w' ⟨rfl, rfl⟩
        go_wp2_with fail
        refine (D2.out w HR.out).mono ?_; rintro e w1 ⟨rfl, b1⟩
        go_wp2_with fail
        refine (D3.out w1 (HR.out.up b1)).mono ?_; rintro e w2 ⟨rfl, b2⟩
        have b12 := b1.trans (b2.mono b1.size)
        go_wp2_with fail
        go_loopw [9] (fun vu wr => ∃ d : Nat, vu = .int .i64 ((d : Int) + (n : Int)) ∧ d ≤ ws.length ∧ drawL b k n ((ws.length - d) / n) (ws.drop d) d = R ∧ Below w.heap.size w wr) (fun vu _ => ws.length + n + 1 - (intOf vu).toNat)
        case atStart => exact ⟨0, by simp, Nat.zero_le _, START.out, b12⟩
        case round =>
          obtain ⟨d, rfl, hd, hdr, hbl⟩ := hrel
          have HDR := hide hdr
          clear hdr
          by_cases hle : d + n ≤ ws.length
          · have hs := STEP.out d hle
            rw [HDR.out] at hs
            have hrd := HR'.out.up hbl
            obtain ⟨g, o, hA, _, _⟩ := HR'.out (by omega)
            subst hA
            have HP := hide (rd_part d n hrd hle)
            clear hrd
            have hle' : (d : Int) + (n : Int) ≤ (ws.length : Int) := by omega
            have hcap : (d : Int) + (n : Int) ≤ (cb : Int) := by omega
            have HS := hide hs
            clear hs
            have LBd := hide (fun (W : World) (X : Option Addr) (cx : Nat) => LB.out W X cx d hle)
            have CLd := hide (fun (W : World) (X : Option Addr) (cx : Nat) => CL.out W X cx d hle)
            generalize (ws.drop d).take n = part at *
            go_wp2_with fail
            refine (LBd.out wr _ _ HP.out).mono ?_; rintro e w3 ⟨X, cx, rfl, m1, m2, m3, b3⟩
            have hb3 := hbl.trans (b3.mono hbl.size)
            go_wp2_with fail
            refine (CLd.out w3 X cx m3 (HR.out.up hb3) m1 m2).mono ?_; rintro e w4 ⟨rfl, q, hq⟩
            have hb4 : Below w.heap.size w w4 := by rw [hq]; exact below_drewN hb3 _
            have m4 : Rd w4 w4.heap.size X (lowS k part) := by rw [hq]; exact m3
            clear hq
            by_cases hv : M.val (lowS k part) < M.val b
            · have hneg := cmpI_neg hv
              have HF : Hid (R = (lowS k part, ((d + n : Nat) : Int), 0)) := by show R = _; rw [HS.out, if_pos hv]
              generalize cmpI (M.val (lowS k part)) (M.val b) = cc at *
              clear hv
              go_wp2
              go_ret3
              rw [HF.out]
              exact ⟨X, cx, rfl, m1, m2, m4, hb4⟩
            · have hneg := cmpI_not hv
              have HF : Hid (drawL b k n ((ws.length - (d + n)) / n) (ws.drop (d + n)) (d + n) = R) := by show _ = R; rw [HS.out, if_neg hv]
              generalize cmpI (M.val (lowS k part)) (M.val b) = cc at *
              clear hv
              go_wp2
              go_roundw
              case rel => exact ⟨d + n, by simp, hle, HF.out, hb4⟩
              case measure => simp [intOf]; omega
          · have hgt : ¬ (d : Int) + (n : Int) ≤ (ws.length : Int) := by omega
            have hs := STOP.out d (by omega)
            rw [HDR.out] at hs
            have HS := hide hs
            clear hs
            go_wp2
            go_ret3
            rw [HS.out]
            exact RetB.bad 12 _ _ hbl
  · have h1 : mayB b = false := by simpa using h1
    have hS : belowS b ws = ([], 0, 1) := by unfold belowS; rw [h1]; rfl
    rw [hS]
    rw [h1] at C1
    have D1 := hide C1
    clear h1 hS C1 hr hr'
    go_enter Try.func8, Try.ntmps8
    go_wp2_with fail
    refine D1.out.mono ?_; rintro e w' ⟨rfl, rfl⟩
    go_wp2
    go_ret3
    exact RetB.bad 1 _ _ (Below.refl _ _)
end Go.Proofs.Ytbimhacggbgcoaa
