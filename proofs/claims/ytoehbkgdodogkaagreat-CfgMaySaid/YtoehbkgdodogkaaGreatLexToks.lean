/- The contract of lex's Tokens: the tokens of any text of up to 4000 bytes; over this program. -/
import Derived.Test.YtoehbkgdodogkaaGreatLexScan
namespace Go.Proofs.YtoehbkgdodogkaaGreat
set_option maxRecDepth 100000
open Go.RowKit

def slLen (v : Value) : Nat := match v with | .slice _ n _ => n | _ => 0
/-- What is answered of a text. -/
def ToksAns (L : List Int) (r : Out) (w : World) (e : Ending) (w' : World) : Prop :=
  match r with
  | .ok xs => ∃ v, e = .returned (.tuple #[v, .complex .f64 (Fl.fl (Pl.pos L).1) (Fl.fl (Pl.pos L).2), .int .i64 0]) ∧ OwnT L w' w.heap.size v xs ∧ Below w.heap.size w w'
  | .bad o d => e = .returned (.tuple #[.slice none 0 0, .complex .f64 (Fl.fl (Pl.pos (L.take o)).1) (Fl.fl (Pl.pos (L.take o)).2), .int .i64 d]) ∧ Below w.heap.size w w'
theorem ToksAns.good {L : List Int} {xs : List Tok} {w w' : World} {v : Value} {q : Int × Int} (hq : q = Pl.pos L) (h : OwnT L w' w.heap.size v xs) (hb : Below w.heap.size w w') : ToksAns L (.ok xs) w (.returned (.tuple #[v, .complex .f64 (Fl.fl q.1) (Fl.fl q.2), .int .i64 0])) w' := by
  subst hq; exact ⟨v, rfl, h, hb⟩
theorem ToksAns.wrong {L : List Int} {o : Nat} {d : Int} {w w' : World} {q : Int × Int} (hq : q = Pl.pos (L.take o)) (hb : Below w.heap.size w w') : ToksAns L (.bad o d) w (.returned (.tuple #[.slice none 0 0, .complex .f64 (Fl.fl q.1) (Fl.fl q.2), .int .i64 d])) w' := by
  subst hq; exact ⟨rfl, hb⟩

theorem more_len (acc : List Tok) (k : Nat) (x : T.P3) (l : List Int) : (more acc k x l).length ≤ acc.length + 1 := by
  unfold more; split <;> simp
theorem ml_more {w : World} {B : Nat} {A : Option Addr} {l : List Int} (h : RdB w B A l) (h0 : l.length ≠ 0) : A ≠ none := by
  obtain ⟨g, o, e, _⟩ := h h0
  rw [e]; simp

/-- How far a text is read. -/
def At (L : List Int) (R : Out) (w : World) (k d f m : Nat) (acc : List Tok) (l : List Int) (p : Int × Int) (A' : Option Addr) (c' : Nat) (v : Value) (w' : World) : Prop :=
  L.length = k + d ∧ l = L.drop k ∧ p = Pl.pos (L.take k) ∧ Below w.heap.size w w' ∧ RdB w' w.heap.size A' l ∧ OwnT L w' w.heap.size v acc ∧ d ≤ c' ∧ d < f ∧ acc.length ≤ k ∧ m ≤ k ∧ scan f l k m acc = R

set_option maxHeartbeats 8000000 in
set_option maxRecDepth 100000 in
theorem toks_any (A : Option Addr) (c : Nat) (L : List Int) (w : World) (hr : RdB w w.heap.size A L) (hl : K.Bytes L) (hc : L.length ≤ c) (hn : L.length ≤ 4000) (hm : ML w) :
    Calls Tryz.prog 42 #[.slice A L.length c] w (ToksAns L (toks L) w) := by
  have HO := hide (fun w => of_yes 1 1 w (by unfold okN; omega) (by unfold okN; omega))
  generalize hR : toks L = R
  have HR := hide hR
  clear hR
  go_enter Tryz.func42, Tryz.ntmps42
  go_wp2
  refine wp_scope_label 0 (fun a' w' => ∃ (k d f m : Nat) (mi : Int) (acc : List Tok) (l : List Int) (p : Int × Int) (A' : Option Addr) (c' : Nat) (v : Value), mi = (m : Int) ∧ At L R w k d f m acc l p A' c' v w' ∧ ∃ (u1 u8 u9 u10 u11 u12 u13 u14 u15 u16 u17 u18 u19 u20 u21 u22 u23 u24 u25 u26 u27 u28 u29 u30 u31 u32 u33 u34 u35 u36 u37 u38 u39 u40 u41 u42 u43 u44 u45 u46 u47 u48 u49 u50 u51 u52 u53 u54 u55 u56 u57 u58 : Value), a' = { tmps := #[.slice A' d c', u1, .slice none 0 0, .complex .f64 0 0, .int .i64 0, v, .complex .f64 (Fl.fl p.1) (Fl.fl p.2), .int .i64 mi, u8, u9, u10, u11, u12, u13, u14, u15, u16, u17, u18, u19, u20, u21, u22, u23, u24, u25, u26, u27, u28, u29, u30, u31, u32, u33, u34, u35, u36, u37, u38, u39, u40, u41, u42, u43, u44, u45, u46, u47, u48, u49, u50, u51, u52, u53, u54, u55, u56, u57, u58], defers := [] }) (fun a' _ => slLen (a'.tmps.getD 0 undef)) rfl ?_ ?_
  · rintro a' w' ⟨k, d, f, m, mi, acc, l, p, A', c', v, rfl, hat, u1, u8, u9, u10, u11, u12, u13, u14, u15, u16, u17, u18, u19, u20, u21, u22, u23, u24, u25, u26, u27, u28, u29, u30, u31, u32, u33, u34, u35, u36, u37, u38, u39, u40, u41, u42, u43, u44, u45, u46, u47, u48, u49, u50, u51, u52, u53, u54, u55, u56, u57, u58, rfl⟩
    obtain ⟨hLk, hll, hp, hb, hr', ho, hc', hf, hacc, hmk, hs⟩ := hat
    have hmb : m ≤ 4000 := by omega
    have HMK0 := hide hmk
    clear hmk
    have HAT := hide hs
    have hld : l.length = d := by rw [hll, List.length_drop]; omega
    have hlb : K.Bytes l := by rw [hll]; exact hl.drop k
    have hbd := Pl.pos_bd L k (by omega)
    rw [← hp] at hbd
    obtain ⟨bd1, bd2, bd3, bd4⟩ := hbd
    have HLD := hide hld
    have HLL := hide hll
    have HP := hide hp
    have HB := hide hb
    have HRR := hide hr'
    have HOO := hide ho
    have HM : Hid (ML w') := hide (hm.up hb)
    have HBH := hide (fun (n : Nat) (hnl : n ≤ d) (w1 : World) (h1 : RdB w1 w.heap.size A' l) => (by
      have h := behind_any A' c' w.heap.size (l.take n) p bd1 (by omega) bd3 (by omega) w1 (h1.take n) (hlb.take n) (by rw [List.length_take]; omega)
      rw [List.length_take, Nat.min_eq_left (by omega), show Pl.go p (l.take n) = Pl.pos (L.take (k + n)) from by rw [hp, hll]; exact Pl.go_pos L k n] at h
      exact h : Calls Tryz.prog 57 #[.complex .f64 (Fl.fl p.1) (Fl.fl p.2), .slice A' n c'] w1 fun e w' => e = .returned (.complex .f64 (Fl.fl (Pl.pos (L.take (k + n))).1) (Fl.fl (Pl.pos (L.take (k + n))).2)) ∧ w1 = w'))
    have HLB := hide hlb
    have HHL := hide hl
    have HACC := hide hacc
    clear hs hld hll hp hb hr' ho hm bd1 bd2 bd3 bd4 hlb hr hl HO HR
    by_cases hend : d = 0 ∨ m = 2
    · have HE : Hid (R = .ok acc) := hide (by rw [← HAT.out]; exact scan_end _ _ _ _ _ (by have := HLD.out; omega))
      have HBa := hide (HBH.out d (Nat.le_refl _) w' HRR.out)
      have HPL : Hid (Pl.pos (L.take (k + d)) = Pl.pos L) := hide (by rw [← hLk, List.take_length])
      have HHB := hide hc'
      clear HBH HM HLB HHL hLk hc' hf hacc
      by_cases hd0 : d = 0
      · subst hd0
        clear hend
        go_wp2_with fail
        refine HBa.out.mono ?_; rintro _ w'' ⟨rfl, rfl⟩
        go_wp2
        simp only [Exit.jump]
        go_ret3
        rw [HE.out]
        exact ToksAns.good HPL.out HOO.out HB.out
      · obtain rfl : m = 2 := by omega
        have hd0' : ((d : Int) == 0) = false := beq_eq_false_iff_ne.2 (by omega)
        clear hend hd0
        go_wp2_with fail
        refine HBa.out.mono ?_; rintro _ w'' ⟨rfl, rfl⟩
        go_wp2
        simp only [Exit.jump]
        go_ret3
        rw [HE.out]
        exact ToksAns.good HPL.out HOO.out HB.out
    · have hd0 : ((d : Int) == 0) = false := beq_eq_false_iff_ne.2 (by omega)
      have hm2 : ((m : Int) == 2) = false := beq_eq_false_iff_ne.2 (by omega)
      have HEND : Hid (¬ (l.length = 0 ∨ m = 2)) := hide (by have := HLD.out; omega)
      have hA' : A' ≠ none := ml_more HRR.out (by have := HLD.out; omega)
      have HPC := hide (piece_any A' hA' c' l w' (HRR.out.more HB.out.size) HLB.out (by have := HLD.out; omega) (by have := HLD.out; omega) (by have := HLD.out; omega) HM.out)
      rw [HLD.out] at HPC
      have HFN := hide (T.piece_fine l (by have := HLD.out; omega) HLB.out)
      have HMB : Hid (0 ≤ m) := hide (Nat.zero_le _)
      clear hend hA'
      go_wp2_with fail
      refine HPC.out.mono ?_; rintro _ w1 hans
      obtain ⟨xk, xn, xe, hx, rfl, hb1⟩ := hans.parts
      have HX := hide hx
      have HB1 := hide hb1
      have HRR1 := hide (HRR.out.below hb1 HB.out.size)
      have HOO1 := hide (HOO.out.below hb1 (Nat.le_refl _))
      have HB01 := hide (HB.out.trans (hb1.mono HB.out.size))
      clear hans hx hb1 HPC HRR HOO HM
      by_cases hxe : xe = 0
      · subst hxe
        have hfine := HFN.out
        rw [HX.out] at hfine
        obtain ⟨hfn, hk0, hk12, _, _, _⟩ := hfine
        obtain ⟨hn1, hn2, _, _⟩ := hfn rfl
        simp only at hn1 hn2 hk0 hk12
        rw [HLD.out] at hn2
        obtain ⟨f, rfl⟩ : ∃ f', f = f' + 1 := ⟨f - 1, by omega⟩
        have HSC : Hid (scan f (l.drop xn) (k + xn) (marksOn m (xk, xn, 0)) (more acc k (xk, xn, 0) l) = R) := hide (by
          rw [← HAT.out, scan_on f l k m acc HEND.out (by rw [HX.out]), HX.out])
        have S1 := fun w => slice_from w A' c' d xn hn2
        have S2 := fun w => slice_to w A' c' d xn (by omega)
        have HDR := hide (fun (w2 : World) (h2 : RdB w2 w.heap.size A' l) => h2.dropA (by rw [HLD.out]; exact hc') xn)
        have HG := hide (fun (w2 : World) (h2 : RdB w2 w.heap.size A' l) => fun n => (HBH.out xn hn2 (w2.drewN n) (h2.drewN n)).mono (R' := fun e w' => e = .returned (.complex .f64 (Fl.fl (Pl.pos (L.take (k + xn))).1) (Fl.fl (Pl.pos (L.take (k + xn))).2)) ∧ w' = w2.drewN n) fun _ _ h => ⟨h.1, h.2.symm⟩)
        have HLD2 : Hid (L.drop (k + xn) = l.drop xn) := hide (by rw [HLL.out, List.drop_drop])
        have HTK := hide (fun (w2 : World) (X Y : Nat) (h2 : RdB w2 w2.heap.size A' l) => (by
          have h := token_any xk A' c' (l.take xn) X Y w2 (h2.take xn) (HLB.out.take xn)
          rw [List.length_take, Nat.min_eq_left (by rw [HLD.out]; exact hn2)] at h
          exact h : Calls Tryz.prog 59 #[.int .i64 xk, .slice A' xn c', .complex .f64 X Y] w2 fun e w' => e = .returned (.agg #[.int .i64 xk, .string (K.str (ttext xk (l.take xn))), .complex .f64 X Y]) ∧ Below w2.heap.size w2 w'))
        have HXN := hide (show xn ≤ d ∧ 1 ≤ xn from ⟨hn2, hn1⟩)
        clear hfn HBH HFN HX HAT
        generalize hD : dropA A' c' xn = D at *
        have HDD := hide hD
        clear hD
        rcases hk : (xk == 0) with _ | _
        · have HK : Hid (¬ xk = 0) := hide (by simpa using hk)
          have HMR : Hid (more acc k (xk, xn, 0) l = acc ++ [⟨xk, ttext xk (l.take xn), k⟩]) := hide (by unfold more; rw [if_neg HK.out])
          have HT2 := hide (HTK.out w1 (Fl.fl p.1) (Fl.fl p.2) (HRR1.out.more HB01.out.size))
          generalize hst : K.str (ttext xk (l.take xn)) = st at *
          have HST := hide hst
          clear hst
          go_wp2_with fail
          refine HT2.out.mono ?_; rintro _ w2 ⟨rfl, hb2⟩
          have HB02 := hide (HB01.out.trans (hb2.mono HB01.out.size))
          have HOO2 := hide (HOO1.out.below hb2 (Nat.le_refl _))
          have HRR2 := hide (HRR1.out.below hb2 HB01.out.size)
          clear hb2 HT2 HOO1 HRR1 HTK
          have HCE : Hid (∀ j u, (tcells L ⟨xk, ttext xk (l.take xn), k⟩)[j]? = some u → (w2.alloc (.cells #[.int .i64 xk, .string st, .complex .f64 (Fl.fl p.1) (Fl.fl p.2)] 89)).cell? ⟨w2.heap.size, j, none⟩ = some u) := hide (by
            intro j u hu
            rw [World.cell?_alloc_new]
            have e : tcells L ⟨xk, ttext xk (l.take xn), k⟩ = [.int .i64 xk, .string st, .complex .f64 (Fl.fl p.1) (Fl.fl p.2)] := by
              unfold tcells; rw [HST.out, HP.out]
            rw [e] at hu
            simpa using hu)
          have HAC : Hid ((acc ++ [(⟨xk, ttext xk (l.take xn), k⟩ : Tok)]).length ≤ k + xn) := hide (by have := HACC.out; have := HXN.out; simp; omega)
          rw [HMR.out] at HSC
          rcases hk9 : (xk == 9) with _ | _
          · have HMK : Hid (marksOn m (xk, xn, 0) = m) := hide (by unfold marksOn; rw [if_neg (by simpa using hk9)])
            rw [HMK.out] at HSC
            go_wp2_with (at_builtin; refine apT_arm rfl (.tmp 38) (.tmp 45) _ rfl Tryz.underlying67 L w.heap.size _ acc rfl (HOO2.out.alloc _) w2.heap.size 1 ⟨xk, ttext xk (l.take xn), k⟩ rfl HCE.out (by have := HACC.out; omega) (by have := HB02.out.size; simp; omega) ?_; intro v3 w3 ho3 hg3)
            have HB03 := hide (below_grownT (HB02.out.alloc HB02.out.size (.cells #[.int .i64 xk, .string st, .complex .f64 (Fl.fl p.1) (Fl.fl p.2)] 89)) (HOO2.out.alloc (.cells #[.int .i64 xk, .string st, .complex .f64 (Fl.fl p.1) (Fl.fl p.2)] 89)) hg3 (by have := HB02.out.size; simp; omega))
            have HOO3 := hide ho3
            have HRR3 := hide (HRR2.out.below (below_grownT ((Below.refl w.heap.size w2).alloc HB02.out.size (.cells #[.int .i64 xk, .string st, .complex .f64 (Fl.fl p.1) (Fl.fl p.2)] 89)) (HOO2.out.alloc (.cells #[.int .i64 xk, .string st, .complex .f64 (Fl.fl p.1) (Fl.fl p.2)] 89)) hg3 (by have := HB02.out.size; simp; omega)) (Nat.le_refl _))
            clear ho3 hg3
            have HGn := hide (HG.out w3 HRR3.out)
            have HDn := hide (HDR.out w3 HRR3.out)
            go_quiet ((go_at_call 57; exact Calls.quiet_of_same (HGn.out _)))
            go_wp2
            go_step3
            refine ⟨rfl, ⟨k + xn, d - xn, f, m, (m : Int), (acc ++ [⟨xk, ttext xk (l.take xn), k⟩]), l.drop xn, Pl.pos (L.take (k + xn)), D, c' - xn, v3, rfl, ⟨by have := HXN.out; omega, HLD2.out.symm, rfl, below_drewN HB03.out nq, HDn.out.drewN nq, HOO3.out.drewN nq, by have := HXN.out; omega, by have := HXN.out; omega, HAC.out, by have := HMK0.out; have := HXN.out; omega, HSC.out⟩, _, _, _, _, _, _, _, _, _, _, _, _, _, _, _, _, _, _, _, _, _, _, _, _, _, _, _, _, _, _, _, _, _, _, _, _, _, _, _, _, _, _, _, _, _, _, _, _, _, _, _, _, rfl⟩, ?_⟩
            simp [slLen]
            have := HXN.out
            omega
          · have HMK : Hid (marksOn m (xk, xn, 0) = m + 1) := hide (by unfold marksOn; rw [if_pos (by simpa using hk9)])
            rw [HMK.out] at HSC
            go_wp2_with (at_builtin; refine apT_arm rfl (.tmp 38) (.tmp 45) _ rfl Tryz.underlying67 L w.heap.size _ acc rfl (HOO2.out.alloc _) w2.heap.size 1 ⟨xk, ttext xk (l.take xn), k⟩ rfl HCE.out (by have := HACC.out; omega) (by have := HB02.out.size; simp; omega) ?_; intro v3 w3 ho3 hg3)
            have HB03 := hide (below_grownT (HB02.out.alloc HB02.out.size (.cells #[.int .i64 xk, .string st, .complex .f64 (Fl.fl p.1) (Fl.fl p.2)] 89)) (HOO2.out.alloc (.cells #[.int .i64 xk, .string st, .complex .f64 (Fl.fl p.1) (Fl.fl p.2)] 89)) hg3 (by have := HB02.out.size; simp; omega))
            have HOO3 := hide ho3
            have HRR3 := hide (HRR2.out.below (below_grownT ((Below.refl w.heap.size w2).alloc HB02.out.size (.cells #[.int .i64 xk, .string st, .complex .f64 (Fl.fl p.1) (Fl.fl p.2)] 89)) (HOO2.out.alloc (.cells #[.int .i64 xk, .string st, .complex .f64 (Fl.fl p.1) (Fl.fl p.2)] 89)) hg3 (by have := HB02.out.size; simp; omega)) (Nat.le_refl _))
            clear ho3 hg3
            have HGn := hide (HG.out w3 HRR3.out)
            have HDn := hide (HDR.out w3 HRR3.out)
            go_quiet ((go_at_call 57; exact Calls.quiet_of_same (HGn.out _)))
            go_wp2
            go_step3
            refine ⟨rfl, ⟨k + xn, d - xn, f, (m + 1), ((m : Int) + 1), (acc ++ [⟨xk, ttext xk (l.take xn), k⟩]), l.drop xn, Pl.pos (L.take (k + xn)), D, c' - xn, v3, by omega, ⟨by have := HXN.out; omega, HLD2.out.symm, rfl, below_drewN HB03.out nq, HDn.out.drewN nq, HOO3.out.drewN nq, by have := HXN.out; omega, by have := HXN.out; omega, HAC.out, by have := HMK0.out; have := HXN.out; omega, HSC.out⟩, _, _, _, _, _, _, _, _, _, _, _, _, _, _, _, _, _, _, _, _, _, _, _, _, _, _, _, _, _, _, _, _, _, _, _, _, _, _, _, _, _, _, _, _, _, _, _, _, _, _, _, _, rfl⟩, ?_⟩
            simp [slLen]
            have := HXN.out
            omega
        · obtain rfl : xk = 0 := by simpa using hk
          have HMK : Hid (marksOn m (0, xn, 0) = m) := hide rfl
          have HMR : Hid (more acc k (0, xn, 0) l = acc) := hide rfl
          rw [HMK.out, HMR.out] at HSC
          clear HTK
          go_wp2
          have HGn := hide (HG.out w1 HRR1.out)
          have HDn := hide (HDR.out w1 HRR1.out)
          go_quiet ((go_at_call 57; exact Calls.quiet_of_same (HGn.out _)))
          go_wp2
          go_step3
          refine ⟨rfl, ⟨k + xn, d - xn, f, m, (m : Int), acc, l.drop xn, Pl.pos (L.take (k + xn)), D, c' - xn, v, rfl, ⟨by have := HXN.out; omega, HLD2.out.symm, rfl, below_drewN HB01.out nq, HDn.out.drewN nq, HOO1.out.drewN nq, by have := HXN.out; omega, by have := HXN.out; omega, by have := HACC.out; omega, by have := HMK0.out; omega, HSC.out⟩, _, _, _, _, _, _, _, _, _, _, _, _, _, _, _, _, _, _, _, _, _, _, _, _, _, _, _, _, _, _, _, _, _, _, _, _, _, _, _, _, _, _, _, _, _, _, _, _, _, _, _, _, rfl⟩, ?_⟩
          simp [slLen]
          have := HXN.out
          omega
      · have HXE : Hid (R = .bad k xe) := hide (by
          obtain ⟨f, rfl⟩ : ∃ f', f = f' + 1 := ⟨f - 1, by omega⟩
          rw [← HAT.out, scan_bad f l k m acc HEND.out (by rw [HX.out]; exact hxe), HX.out])
        have hxe' : (xe == 0) = false := by simpa using hxe
        clear hxe HBH HFN HRR1 HOO1
        go_wp2
        simp only [Exit.jump]
        go_ret3
        rw [HXE.out]
        exact ToksAns.wrong HP.out HB01.out
  · intro hp
    have h4 : ¬ (L.length : Int) > 4000 := by omega
    go_wp2_with fail
    refine (HO.out _).mono ?_; rintro _ w' ⟨rfl, rfl⟩
    go_wp2
    go_step3
    rename_i hK
    refine hK _ _ (hp _ _ ⟨0, L.length, L.length + 1, 0, 0, [], L, (1, 1), A, c, .slice none 0 0, rfl, ⟨by omega, rfl, rfl, Below.refl _ _, hr, OwnT.nil _ _ _, hc, by omega, by simp, by omega, HR.out⟩, _, _, _, _, _, _, _, _, _, _, _, _, _, _, _, _, _, _, _, _, _, _, _, _, _, _, _, _, _, _, _, _, _, _, _, _, _, _, _, _, _, _, _, _, _, _, _, _, _, _, _, _, rfl⟩)
end Go.Proofs.YtoehbkgdodogkaaGreat
