/- The walk of the statement of tokens in order, over this program. -/
import Derived.Test.YthhendkimdddoaaAlive7
import Derived.Test.YthhendkimdddoaaLexRef
import Derived.Test.YthhendkimdddoaaRef6
import Derived.Test.YthhendkimdddoaaScanL
import Derived.IntWalk
namespace Go.Proofs.Ythhendkimdddoaa
open Go.RowKit

/-- A world that reads as another one did, and goes on from a third. -/
def KeepW (w w2 W : World) : Prop := (∀ p, W.cell? p = w2.cell? p) ∧ Below w.heap.size w W
theorem KeepW.drewN {w w2 W : World} (h : KeepW w w2 W) (n : Nat) : KeepW w w2 (W.drewN n) := ⟨h.1, below_drewN h.2 n⟩
theorem KeepW.rd {w w2 W : World} (h : KeepW w w2 W) {B : Nat} {A : Option Addr} {l : List Int} (hr : RdB w2 B A l) : RdB W B A l := hr.keep fun g o _ => h.1 ⟨g, o, none⟩

theorem slice_mid (w : World) (A : Option Addr) (c n i j : Nat) (h1 : i ≤ j) (h2 : j ≤ c) : (Instr.sliceAt 24 (.slice A n c) (some (.int .i64 i)) (some (.int .i64 j)) none).run Try.prog w = .ok (.slice (dropA A c i) (j - i) (c - i)) w := by
  rw [run_sliceAt_slice _ _ _ _ _ _ (by kernel_rfl), run_slice_lh _ _ _ _ _ (by kernel_rfl) .i64 .i64 (i : Int) (j : Int) (by omega) (by omega) (by omega)]
  have hs : (sizeOf (Try.prog.elem 24)).run Try.prog w = .ok 1 w := by kernel_rfl
  rw [hs]
  simp [Result.andThen, sliced, dropA]

/-- Two places of a text are the same just if they are those of one byte. -/
theorem pos_eq (L : List Int) (i k : Nat) (hi : i ≤ L.length) (hk : k ≤ L.length) (hn : L.length ≤ 4000) : ((FloatKind.f64.format.order (Fl.fl (Pl.pos (L.take i)).1) (Fl.fl (Pl.pos (L.take k)).1) == some .eq) && (FloatKind.f64.format.order (Fl.fl (Pl.pos (L.take i)).2) (Fl.fl (Pl.pos (L.take k)).2) == some .eq)) = decide (i = k) := by
  have b1 := Pl.pos_bd L i hi
  have b2 := Pl.pos_bd L k hk
  rw [eq_fl _ _ (by omega) (by omega), eq_fl _ _ (by omega) (by omega)]
  rcases Nat.lt_trichotomy i k with h | h | h
  · have := Pl.pos_lt L i k h hk
    rw [decide_eq_false (show ¬ i = k by omega)]
    unfold befP at this
    simp only [Bool.or_eq_true, Bool.and_eq_true, decide_eq_true_eq] at this
    simp only [Bool.and_eq_false_iff, decide_eq_false_iff_not]
    omega
  · subst h; simp
  · have := Pl.pos_lt L k i h hi
    rw [decide_eq_false (show ¬ i = k by omega)]
    unfold befP at this
    simp only [Bool.or_eq_true, Bool.and_eq_true, decide_eq_true_eq] at this
    simp only [Bool.and_eq_false_iff, decide_eq_false_iff_not]
    omega

theorem lexOrder_long (A : Option Addr) (c n : Nat) (w : World) (hm : ML w) (h : (n : Int) > 2000) :
    Calls Try.prog 4 #[.slice A n c] w fun e w' => e = .returned (.bool true) ∧ Below w.heap.size w w' := by
  have HA := hide (alive7_any w hm)
  clear hm
  go_enter Try.func4, Try.ntmps4
  go_wp2_with fail
  refine HA.out.mono ?_; rintro _ w1 ⟨rfl, hb⟩
  have HB := hide hb
  clear hb
  go_wp2
  go_ret
  exact ⟨rfl, HB.out⟩

set_option maxHeartbeats 4000000 in
set_option maxRecDepth 100000 in
theorem lexOrder_short (A : Option Addr) (c : Nat) (L : List Int) (w : World) (hr : RdB w w.heap.size A L) (hl : K.Bytes L) (hc : L.length ≤ c) (hm : ML w) (hn : L.length ≤ 2000) :
    Calls Try.prog 4 #[.slice A L.length c] w fun e w' => e = .returned (.bool true) ∧ Below w.heap.size w w' := by
  have HA := hide (alive7_any w hm)
  have HT := hide (fun (w1 : World) (h1 : Below w.heap.size w w1) => toks_any A c L w1 (hr.up h1) hl hc (by omega) (hm.up h1))
  have HRR := hide (fun (w1 : World) (h1 : Below w.heap.size w w1) => hr.below h1 (Nat.le_refl _))
  have h4 : ¬ (L.length : Int) > 2000 := by omega
  have HRI := hide (toks_rise L hl)
  have HL := hide hl
  have HM := hide hm
  clear hr hm hl
  rcases hR : toks L with xs | ⟨o, d⟩
  · have hrise := HRI.out xs hR
    rw [hR] at HT
    clear hR HRI
    go_enter Try.func4, Try.ntmps4
    go_wp2_with fail
    refine HA.out.mono ?_; rintro _ w1 ⟨rfl, hb⟩
    have HB := hide hb
    clear hb
    go_wp2_with fail
    refine (HT.out _ HB.out).mono ?_; rintro _ w2 hans
    obtain ⟨v, rfl, ho, hb2⟩ := hans
    have HB2 := hide (HB.out.trans (hb2.mono HB.out.size))
    have HO := hide ho
    obtain ⟨A', c', rfl, hxc, hxm⟩ := ho.form
    have HRI := hide hrise
    have hxb : xs.length ≤ 2000 := by have := hrise.count; omega
    have HK0 : Hid (KeepW w w2 w2) := hide ⟨fun _ => rfl, HB2.out⟩
    have HR2 := hide (HRR.out w2 HB2.out)
    have HHN := hide hn
    clear hb2 ho hrise HT HRR HA HB hxm
    go_wp2
    go_loopw [7, 6] (fun vi va wr => ∃ (i a : Nat), i ≤ xs.length ∧ vi = .int .i64 i ∧ va = .int .i64 a ∧ a ≤ L.length ∧ (∀ h : i < xs.length, a ≤ xs[i].o) ∧ KeepW w w2 wr) (fun vi _ _ => xs.length - (intOf vi).toNat)
    case atStart => exact ⟨0, 0, by omega, rfl, rfl, by omega, fun _ => Nat.zero_le _, HK0.out⟩
    case round =>
      obtain ⟨i, a, hi, rfl, rfl, ha, hai, hk⟩ := hrel
      have HKR := hide hk
      have HAI := hide hai
      clear hk hai
      by_cases hlt : i < xs.length
      · have hst := HRI.out.at i hlt
        obtain ⟨g, c2, hv, _, _, _, _, hcell⟩ := HO.out.addr (by omega)
        injection hv with hv1 hv2 hv3
        subst hv1 hv3
        have hxi : xs[i]? = some xs[i] := List.getElem?_eq_getElem hlt
        have hc0 := hcell i 0 _ hlt (by omega) (by rw [hxi]; rfl)
        have hc1 := hcell i 1 _ hlt (by omega) (by rw [hxi]; rfl)
        have hc2 := hcell i 2 _ hlt (by omega) (by rw [hxi]; rfl)
        have HC0 := hide (fun (W : World) (hW : KeepW w w2 W) => ((hW.1 ⟨g, i * 3, none⟩).trans hc0 : W.cell? ⟨g, i * 3, none⟩ = some (.int .i64 xs[i].k)))
        have HC1 := hide (fun (W : World) (hW : KeepW w w2 W) => (hW.1 ⟨g, i * 3 + 1, none⟩).trans hc1)
        have HC2 := hide (fun (W : World) (hW : KeepW w w2 W) => (hW.1 ⟨g, i * 3 + 2, none⟩).trans hc2)
        have hai := HAI.out hlt
        obtain ⟨so, slen, stext, sname, slit, sbytes⟩ := hst
        have HAt := hide (fun (W : World) (hW : KeepW w w2 W) (k : Nat) (hk : k ≤ L.length) (n : Nat) => (rat_in A c _ L k (W.drewN n) ((hW.rd HR2.out).drewN n) HHN.out hk).mono (R' := fun e w' => e = .returned (.complex .f64 (Fl.fl (Pl.pos (L.take k)).1) (Fl.fl (Pl.pos (L.take k)).2)) ∧ w' = W.drewN n) fun _ _ h => ⟨h.1, h.2.symm⟩)
        have HPV : Hid (∀ j, i = j + 1 → ∃ X0 Y0, (∀ W : World, KeepW w w2 W → W.cell? ⟨g, j * 3 + 2, none⟩ = some (.complex .f64 X0 Y0)) ∧ ∀ W, Calls Try.prog 13 #[.complex .f64 X0 Y0, .complex .f64 (Fl.fl (Pl.pos (L.take xs[i].o)).1) (Fl.fl (Pl.pos (L.take xs[i].o)).2)] W fun e w' => e = .returned (.bool true) ∧ w' = W) := hide (by
          intro j hj
          subst hj
          have hlt0 : j < xs.length := by omega
          have hxj : xs[j]? = some xs[j] := List.getElem?_eq_getElem hlt0
          have h2 := hcell j 2 _ hlt0 (by omega) (by rw [hxj]; rfl)
          have h3 := HRI.out.lt j (j + 1) (by omega) hlt
          have b1 := Pl.pos_bd L xs[j].o (by omega)
          have b2 := Pl.pos_bd L xs[j + 1].o (by omega)
          refine ⟨_, _, fun W hW => (hW.1 ⟨g, j * 3 + 2, none⟩).trans h2, fun W => (rbefore_yes _ _ _ _ W (by unfold okN; omega) (by unfold okN; omega) (by unfold okN; omega) (by unfold okN; omega) (Pl.pos_lt L _ _ h3 (by omega))).mono fun _ _ h => ⟨h.1, h.2.symm⟩⟩)
        have HCV := hide (fun (W : World) (hW : KeepW w w2 W) (n : Nat) => (by
          have h := str_conv ((((hW.drewN n).rd HR2.out).dropA hc xs[i].o).take xs[i].t.length) ((HL.out.drop xs[i].o).take _) (c - xs[i].o)
          rw [stext] at h
          exact h : (convert 24 9 (.slice (dropA A c xs[i].o) xs[i].t.length (c - xs[i].o))).run Try.prog (W.drewN n) = .ok (.string (K.str xs[i].t)) (W.drewN n)))
        have HS3 := hide (fun (W : World) => (by
          have h := slice_mid W A c L.length xs[i].o (xs[i].o + xs[i].t.length) (by omega) (by omega)
          rw [show xs[i].o + xs[i].t.length - xs[i].o = xs[i].t.length by omega] at h
          exact h : (Instr.sliceAt 24 (.slice A L.length c) (some (.int .i64 xs[i].o)) (some (.int .i64 ((xs[i].o + xs[i].t.length : Nat) : Int))) none).run Try.prog W = .ok (.slice (dropA A c xs[i].o) xs[i].t.length (c - xs[i].o)) W))
        have HSZ := hide (K.str_size xs[i].t)
        have HNX : Hid (∀ h : i + 1 < xs.length, xs[i].o < xs[i + 1].o) := hide (fun h => HRI.out.lt i (i + 1) (by omega) h)
        have HNm := hide (fun W => (rname_any xs[i].t sbytes W).mono (R' := fun e w' => e = .returned (.bool (T.isName xs[i].t)) ∧ w' = W) fun _ _ h => ⟨h.1, h.2.symm⟩)
        have HLt := hide (fun W => (rlit_any xs[i].t sbytes W).mono (R' := fun e w' => e = .returned (.bool (T.isLit xs[i].t)) ∧ w' = W) fun _ _ h => ⟨h.1, h.2.symm⟩)
        clear hcell hc0 hc1 hc2 hxi HAI stext sbytes
        generalize xs[i].o = xo at *
        generalize xs[i].t = xt at *
        generalize xs[i].k = xk at *
        generalize xt.length = tl at *
        generalize K.str xt = s at *
        generalize T.isName xt = nb at *
        generalize T.isLit xt = lb at *
        have HNB := hide sname
        have HLB := hide slit
        have HSO := hide so
        have HSL := hide slen
        clear sname slit so slen
        go_wp2
        obtain ⟨wo, hwo⟩ : ∃ wo : World, wo = wr := ⟨_, rfl⟩
        subst hwo
        go_loopw [6] (fun va wr => ∃ (a : Nat), a ≤ xo ∧ va = .int .i64 a ∧ KeepW w w2 wr) (fun va _ => xo - (intOf va).toNat)
        case atStart => exact ⟨a, hai, rfl, HKR.out⟩
        case round =>
          clear HKR
          obtain ⟨b, hb, rfl, hk⟩ := hrel
          have HKR := hide hk
          have hcl2 := HC2.out wr hk
          have HAb := hide (HAt.out wr hk b (by have := HSO.out; omega))
          clear hk
          have haL : b < L.length := by have := HSO.out; omega
          have hcmp := pos_eq L b xo (by omega) (by have := HSO.out; omega) (by have := HHN.out; omega)
          by_cases hlt2 : b < xo
          · rw [decide_eq_false (show ¬ b = xo by omega)] at hcmp
            generalize Fl.fl (Pl.pos (L.take b)).1 = X at *
            generalize Fl.fl (Pl.pos (L.take b)).2 = Y at *
            generalize Fl.fl (Pl.pos (L.take xo)).1 = X' at *
            generalize Fl.fl (Pl.pos (L.take xo)).2 = Y' at *
            go_wp2
            go_quiet ((go_at_call 12; exact Calls.quiet_of_same (HAb.out _)))
            go_wp2
            go_roundw
            case rel => exact ⟨b + 1, by omega, by go_num, HKR.out.drewN nq⟩
            case measure => simp [intOf]; omega
          · obtain rfl : b = xo := by omega
            rw [decide_eq_true rfl] at hcmp
            have HX : Hid (Fl.fl (Pl.pos (L.take b)).1 = Fl.fl (Pl.pos (L.take b)).1) := hide rfl
            generalize hX : Fl.fl (Pl.pos (L.take b)).1 = X at *
            generalize hY : Fl.fl (Pl.pos (L.take b)).2 = Y at *
            have HXX := hide hX
            have HYY := hide hY
            clear hX hY HX
            go_wp2
            go_quiet ((go_at_call 12; exact Calls.quiet_of_same (HAb.out _)))
            obtain ⟨W1, hW1⟩ : ∃ W1, wr.drewN nq = W1 := ⟨_, rfl⟩
            rw [hW1]
            have HK1 : Hid (KeepW w w2 W1) := hide (hW1 ▸ HKR.out.drewN nq)
            clear hW1 hcl2 hcmp HAb HKR
            have hcl1 := HC1.out W1 HK1.out
            have hcl2 := HC2.out W1 HK1.out
            go_wp2
            obtain ⟨m, hm⟩ : ∃ m : Nat, m = L.length - b := ⟨_, rfl⟩
            obtain ⟨e, he⟩ : ∃ e : Nat, e = b + tl := ⟨_, rfl⟩
            have htl : tl ≤ m := by have := HSL.out; omega
            have hLN := HHN.out
            have q1 : decide (L.length ≤ b) = false := decide_eq_false (by omega)
            have q3 : decide (m < tl) = false := decide_eq_false (by omega)
            have q4 : (s.toList == s.toList) = true := by simp
            have r1 : IntKind.i64.wrap ((L.length : Int) - (b : Int)) = (m : Int) := by rw [IntKind.wrap_i64]; omega
            have r2 : IntKind.i64.wrap ((b : Int) + (tl : Int)) = (e : Int) := by rw [IntKind.wrap_i64]; omega
            have S3 := HS3.out
            rw [← he] at S3
            have C3 := HCV.out W1 HK1.out
            have hsz := HSZ.out
            generalize dropA A c b = D at *
            generalize c - b = cb at *
            clear hm he htl hLN HS3 HCV HSZ HSL
            by_cases hi0 : i = 0
            · have q2 : decide (0 < i) = false := decide_eq_false (by omega)
              clear hi0
              go_quiet (first | simp only [S3] | simp only [C3])
              obtain ⟨W2, hW2⟩ : ∃ W2, W1.drewN nq = W2 := ⟨_, rfl⟩
              rw [hW2]
              have HK2 : Hid (KeepW w w2 W2) := hide (hW2 ▸ HK1.out.drewN nq)
              clear hW2 C3 S3 q1 q2 q3 q4 r1 r2 hcl1 hcl2 
              have hcl0 := HC0.out W2 HK2.out
              have hnb := HNB.out
              have hlb := HLB.out
              cases nb
              · cases lb
                · go_wp2
                  go_quiet (first | (go_at_call 8; exact Calls.quiet_of_same (HNm.out _)) | (go_at_call 10; exact Calls.quiet_of_same (HLt.out _)))
                  go_wp2
                  go_roundw
                  case rel => exact ⟨i + 1, b, by omega, by go_num, rfl, by omega, fun h => Nat.le_of_lt (HNX.out h), HK2.out.drewN nq⟩
                  case measure => simp [intOf]; omega
                · go_wp2
                  go_quiet (first | (go_at_call 8; exact Calls.quiet_of_same (HNm.out _)) | (go_at_call 10; exact Calls.quiet_of_same (HLt.out _)))
                  go_wp2
                  go_roundw
                  case rel => exact ⟨i + 1, b, by omega, by go_num, rfl, by omega, fun h => Nat.le_of_lt (HNX.out h), HK2.out.drewN nq⟩
                  case measure => simp [intOf]; omega
              · obtain rfl : lb = false := by
                  have e1 : xk = 1 := by simpa using hnb
                  rw [← hlb, e1]; rfl
                go_wp2
                go_quiet (first | (go_at_call 8; exact Calls.quiet_of_same (HNm.out _)) | (go_at_call 10; exact Calls.quiet_of_same (HLt.out _)))
                go_wp2
                go_roundw
                case rel => exact ⟨i + 1, b, by omega, by go_num, rfl, by omega, fun h => Nat.le_of_lt (HNX.out h), HK2.out.drewN nq⟩
                case measure => simp [intOf]; omega
            · obtain ⟨j, hj⟩ : ∃ j, i = j + 1 := ⟨i - 1, by omega⟩
              obtain ⟨X0, Y0, hp1, hp2⟩ := HPV.out j hj
              have hclp := hp1 W1 HK1.out
              have HBF := hide (fun n => hp2 (W1.drewN n))
              have hjl : j < xs.length := by omega
              have q2 : decide (0 < i) = true := decide_eq_true (by omega)
              have r3 : IntKind.i64.wrap ((i : Int) - 1) = (j : Int) := by rw [IntKind.wrap_i64]; omega
              clear hi0 hj hp1 hp2
              go_quiet (first | (go_at_call 13; exact Calls.quiet_of_same (HBF.out _)) | simp only [S3] | simp only [C3])
              obtain ⟨W2, hW2⟩ : ∃ W2, W1.drewN nq = W2 := ⟨_, rfl⟩
              rw [hW2]
              have HK2 : Hid (KeepW w w2 W2) := hide (hW2 ▸ HK1.out.drewN nq)
              clear hW2 C3 S3 q1 q2 q3 q4 r1 r2 hcl1 hcl2 r3 hclp
              have hcl0 := HC0.out W2 HK2.out
              have hnb := HNB.out
              have hlb := HLB.out
              cases nb
              · cases lb
                · go_wp2
                  go_quiet (first | (go_at_call 8; exact Calls.quiet_of_same (HNm.out _)) | (go_at_call 10; exact Calls.quiet_of_same (HLt.out _)))
                  go_wp2
                  go_roundw
                  case rel => exact ⟨i + 1, b, by omega, by go_num, rfl, by omega, fun h => Nat.le_of_lt (HNX.out h), HK2.out.drewN nq⟩
                  case measure => simp [intOf]; omega
                · go_wp2
                  go_quiet (first | (go_at_call 8; exact Calls.quiet_of_same (HNm.out _)) | (go_at_call 10; exact Calls.quiet_of_same (HLt.out _)))
                  go_wp2
                  go_roundw
                  case rel => exact ⟨i + 1, b, by omega, by go_num, rfl, by omega, fun h => Nat.le_of_lt (HNX.out h), HK2.out.drewN nq⟩
                  case measure => simp [intOf]; omega
              · obtain rfl : lb = false := by
                  have e1 : xk = 1 := by simpa using hnb
                  rw [← hlb, e1]; rfl
                go_wp2
                go_quiet (first | (go_at_call 8; exact Calls.quiet_of_same (HNm.out _)) | (go_at_call 10; exact Calls.quiet_of_same (HLt.out _)))
                go_wp2
                go_roundw
                case rel => exact ⟨i + 1, b, by omega, by go_num, rfl, by omega, fun h => Nat.le_of_lt (HNX.out h), HK2.out.drewN nq⟩
                case measure => simp [intOf]; omega
      · obtain rfl : i = xs.length := by omega
        have HKW := HKR.out
        have HAt := hide ((rat_in A c _ L L.length wr (HKW.rd HR2.out) HHN.out (Nat.le_refl _)))
        rw [List.take_length] at HAt
        have hbd := Pl.pos_bd L L.length (Nat.le_refl _)
        rw [List.take_length] at hbd
        have f1 := eq_same (Pl.pos L).1 (by unfold okN; omega)
        have f2 := eq_same (Pl.pos L).2 (by unfold okN; omega)
        clear hbd HKW
        generalize Fl.fl (Pl.pos L).1 = X at *
        generalize Fl.fl (Pl.pos L).2 = Y at *
        go_wp2_with fail
        refine HAt.out.mono ?_; rintro _ w' ⟨rfl, rfl⟩
        go_wp2
        go_ret
        exact ⟨rfl, HKR.out.2⟩
  · rw [hR] at HT
    have hd0 : (d == 0) = false := by simpa using toks_ne L o d hR
    clear hR HRI HRR
    go_enter Try.func4, Try.ntmps4
    go_wp2_with fail
    refine HA.out.mono ?_; rintro _ w1 ⟨rfl, hb⟩
    have HB := hide hb
    clear hb
    go_wp2_with fail
    refine (HT.out _ HB.out).mono ?_; rintro _ w2 hans
    obtain ⟨rfl, hb2⟩ := hans
    have HB2 := hide (HB.out.trans (hb2.mono HB.out.size))
    clear hb2
    go_wp2
    go_ret
    exact ⟨rfl, HB2.out⟩

theorem lexOrder_walk (A : Option Addr) (c : Nat) (L : List Int) (w : World) (hr : RdB w w.heap.size A L) (hl : K.Bytes L) (hc : L.length ≤ c) (hm : ML w) :
    Calls Try.prog 4 #[.slice A L.length c] w fun e w' => e = .returned (.bool true) ∧ Below w.heap.size w w' := by
  by_cases h : L.length ≤ 2000
  · exact lexOrder_short A c L w hr hl hc hm h
  · exact lexOrder_long A c L.length w hm (by omega)
end Go.Proofs.Ythhendkimdddoaa
