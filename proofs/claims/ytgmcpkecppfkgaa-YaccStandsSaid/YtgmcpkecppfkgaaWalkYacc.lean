/- The walk of the statement of sources that stand in their text, over this program. -/
import Derived.Test.YtgmcpkecppfkgaaWalkYacc0
import Derived.Test.YtgmcpkecppfkgaaYaccIn
import Derived.IntWalk
namespace Go.Proofs.Ytgmcpkecppfkgaa
set_option maxRecDepth 100000
open Go.RowKit

/-- A world that reads as another one did, and goes on from a third. -/
def KeepY (w w2 W : World) : Prop := (∀ p, W.cell? p = w2.cell? p) ∧ Below w.heap.size w W
theorem KeepY.drewN {w w2 W : World} (h : KeepY w w2 W) (n : Nat) : KeepY w w2 (W.drewN n) := ⟨h.1, below_drewN h.2 n⟩

theorem filt_next {α : Type} (p : α → Bool) (xs : List α) (i : Nat) (hi : i < xs.length) : (xs.take (i + 1)).filter p = (xs.take i).filter p ++ if p xs[i] then [xs[i]] else [] := by
  rw [List.take_succ_eq_append_getElem hi, List.filter_append]
  congr 1
  by_cases h : p xs[i] = true
  · simp [h]
  · simp [h]
theorem filt_at {α : Type} (p : α → Bool) (xs : List α) (i : Nat) (hi : i < xs.length) (hp : p xs[i] = true) : (xs.filter p)[((xs.take i).filter p).length]? = some xs[i] := by
  have e : xs.filter p = (xs.take (i + 1)).filter p ++ (xs.drop (i + 1)).filter p := by rw [← List.filter_append, List.take_append_drop]
  rw [e, filt_next p xs i hi, if_pos hp, List.append_assoc, List.getElem?_append_right (Nat.le_refl _)]
  simp
theorem filt_lt {α : Type} (p : α → Bool) (xs : List α) (i : Nat) (hi : i < xs.length) (hp : p xs[i] = true) : ((xs.take i).filter p).length < (xs.filter p).length := (List.getElem?_eq_some_iff.1 (filt_at p xs i hi hp)).1

theorem parse_right (A : Option Addr) (c : Nat) (L : List Int) (xs r0 : List Tok) (s : List Y.Dcl × List Y.Prd) (w : World) (hr : RdB w w.heap.size A L) (hl : K.Bytes L) (hc : L.length ≤ c) (hm : ML w) (hn : L.length ≤ 2000) (hR : toks L = .ok xs) (hs : Y.source xs = .ok s r0) :
    Calls Try.prog 5 #[.slice A L.length c] w fun e w' => ∃ dv pv, e = .returned (.tuple #[.agg #[dv, pv], .complex .f64 0 0, .int .i64 0]) ∧ OwnD L w' w.heap.size dv s.1 ∧ OwnP L w' w.heap.size pv s.2 ∧ Below w.heap.size w w' := by
  refine (parse_any A c L w hr hl hc (by omega) hm).mono fun e w' h => ?_
  rw [hR] at h
  unfold ParseAns at h
  simp only at h
  rw [hs] at h
  obtain ⟨hb, dv, pv, he, h1, h2⟩ := h
  exact ⟨dv, pv, he, h1, h2, hb⟩

theorem listed_right (L : List Int) (xs r0 : List Tok) (s : List Y.Dcl × List Y.Prd) (hl : K.Bytes L) (hn : L.length ≤ 2000) (hR : toks L = .ok xs) (hs : Y.source xs = .ok s r0) (dv pv : Value) (w : World) (base : Nat) (hod : OwnD L w base dv s.1) (hop : OwnP L w base pv s.2) :
    Calls Try.prog 7 #[.agg #[dv, pv]] w fun e w' => ∃ v, e = .returned v ∧ OwnR L w' w.heap.size v (xs.filter Y.isRef) ∧ Below w.heap.size w w' := by
  have hrise := toks_rise L hl xs hR
  have hin := Y.source_in hs hrise.2
  have hcnt := hrise.count
  rw [← hin.l]
  refine listed_any L dv pv s.1 s.2 w base hod hop ?_ (by have := hin.d; omega) (by have := hin.p; omega) ?_ ?_ ?_
  · rw [hin.l]; have := List.length_filter_le Y.isRef xs; omega
  · intro p hp t ht
    obtain ⟨_, _, h⟩ := hin.i p hp
    obtain ⟨h1, h2⟩ := h t ht
    exact ref_ne (hrise.1 t h1).1 h2
  · intro i j hi hj
    obtain ⟨h1, _, _⟩ := hin.i _ (List.getElem_mem hi)
    obtain ⟨h2, _, _⟩ := hin.i _ (List.getElem_mem hj)
    exact place_eq L _ _ (tok_le hrise h1) (tok_le hrise h2) (by omega)
  · intro i j hi hj ho
    obtain ⟨h1, _, _⟩ := hin.i _ (List.getElem_mem hi)
    obtain ⟨h2, _, _⟩ := hin.i _ (List.getElem_mem hj)
    rw [tok_one hrise h1 h2 ho]

set_option maxHeartbeats 4000000 in
theorem yacc_right (A : Option Addr) (c : Nat) (L : List Int) (xs r0 : List Tok) (s : List Y.Dcl × List Y.Prd) (w : World) (hr : RdB w w.heap.size A L) (hl : K.Bytes L) (hc : L.length ≤ c) (hm : ML w) (hn : L.length ≤ 2000) (hR : toks L = .ok xs) (hs : Y.source xs = .ok s r0) :
    Calls Try.prog 3 #[.slice A L.length c] w fun e w' => e = .returned (.bool true) ∧ Below w.heap.size w w' := by
  have HRI := hide (toks_rise L hl xs hR)
  have HA := hide (alive8_any w hm)
  have HP := hide (fun (w1 : World) (h1 : Below w.heap.size w w1) => parse_right A c L xs r0 s w1 (hr.up h1) hl hc (hm.up h1) hn hR hs)
  have HT := hide (fun (w1 : World) (h1 : Below w.heap.size w w1) => rtoks_any A c L xs w1 (hr.up h1) hl hc hn hR)
  have HL := hide (fun (w1 : World) (base : Nat) (dv pv : Value) (h1 : OwnD L w1 base dv s.1) (h2 : OwnP L w1 base pv s.2) => listed_right L xs r0 s hl hn hR hs dv pv w1 base h1 h2)
  have HS2 : Hid (0 < s.2.length) := hide (Nat.pos_of_ne_zero (Y.source_in hs HRI.out.2).n)
  have h4 : ¬ (L.length : Int) > 2000 := by omega
  have HHN := hide hn
  clear hr hl hm hR hs hc hn
  go_enter Try.func3, Try.ntmps3
  go_wp2_with fail
  refine HA.out.mono ?_; rintro _ w1 ⟨rfl, hb⟩
  have HB := hide hb
  clear hb
  go_wp2_with fail
  refine (HP.out _ HB.out).mono ?_; rintro _ w2 ⟨dv, pv, rfl, hod, hop, hb2⟩
  have HB2 := hide (HB.out.trans (hb2.mono HB.out.size))
  have HBA := hide (fun o => HB2.out.alloc HB2.out.size o)
  have HOD := hide (fun (x : World) (h : Below w2.heap.size w2 x) => hod.grown (only_below h .none) (Away.none _ _))
  have HOP := hide (fun (x : World) (h : Below w2.heap.size w2 x) => hop.grown (only_below h .none) (Away.none _ _))
  obtain ⟨DA, DC, rfl, _, _⟩ := hod.form
  obtain ⟨PA', PC, rfl, _, _⟩ := hop.form
  clear hod hop hb2 HP HA
  go_wp2_with fail
  refine (HT.out _ (HBA.out _)).mono ?_; rintro _ w3 hans
  obtain ⟨v, rfl, ho, hb3⟩ := hans
  have hbk : w3.heap[w2.heap.size]? = some (.cells #[.slice DA s.1.length DC, .slice PA' s.2.length PC] 27 (0, 0)) := (hb3.block w2.heap.size (by simp)).trans (heap_alloc_new w2 _)
  have c0 := cell_of_row w3 _ 0 _ _ _ hbk
  have c1 := cell_of_row w3 _ 1 _ _ _ hbk
  have HB3 := hide ((HBA.out _).trans (hb3.mono (HBA.out _).size))
  have HB23 : Hid (Below w2.heap.size w2 w3) := hide (((Below.refl w2.heap.size w2).alloc (Nat.le_refl _) _).trans (hb3.mono (by simp)))
  have HO := hide ho
  have HLW := hide (HL.out w3 _ _ _ (HOD.out w3 HB23.out) (HOP.out w3 HB23.out))
  have HBK := hide hbk
  obtain ⟨TA, TC, rfl, _, _⟩ := ho.form
  clear ho hb3 HT HBA HOD HOP HL hbk
  go_wp2_with fail
  refine HLW.out.mono ?_; rintro _ w4 ⟨rv, rfl, hor, hb4⟩
  have HK0 : Hid (KeepY w w4 w4) := hide ⟨fun _ => rfl, HB3.out.trans (hb4.mono HB3.out.size)⟩
  have HO4 := hide (HO.out.below hb4 (Nat.le_refl _))
  have hbk4 := (hb4.block w2.heap.size (Array.getElem?_eq_some_iff.1 HBK.out).1).trans HBK.out
  have HC1 := hide (fun (W : World) (hW : KeepY w w4 W) => ((hW.1 ⟨w2.heap.size, 1, none⟩).trans (cell_of_row w4 _ 1 _ _ _ hbk4)))
  have HOR := hide hor
  obtain ⟨RA, RC, rfl, _, _, hrd⟩ := hor.rd
  have HRD := hide hrd
  have hxb : xs.length ≤ 2000 := by have := HRI.out.count; have := HHN.out; omega
  have HRL : Hid ((xs.filter Y.isRef).length ≤ 2000) := hide (by have := List.length_filter_le Y.isRef xs; omega)
  clear hor hb4 hbk4 HLW HO HB3 HB23 HBK c0 c1 hrd
  have hrl := HRL.out
  have HFA := hide (fun (i : Nat) (hi : i < xs.length) (hp : Y.isRef xs[i] = true) => filt_at Y.isRef xs i hi hp)
  have HFN := hide (fun (i : Nat) (hi : i < xs.length) => filt_next Y.isRef xs i hi)
  have HFT : Hid (((xs.take xs.length).filter Y.isRef).length = (xs.filter Y.isRef).length) := hide (by rw [List.take_length])
  have HPV : Hid (∀ (j : Nat) (x y : Tok), (xs.filter Y.isRef)[j]? = some x → (xs.filter Y.isRef)[j + 1]? = some y → x.o < y.o ∧ y.o < L.length) := hide (by
    intro j x y hx hy
    have hpw := HRI.out.2.filter Y.isRef
    obtain ⟨h1, rfl⟩ := List.getElem?_eq_some_iff.1 hx
    obtain ⟨h2, rfl⟩ := List.getElem?_eq_some_iff.1 hy
    exact ⟨List.pairwise_iff_getElem.1 hpw j (j + 1) h1 h2 (by omega), (HRI.out.1 _ (List.mem_filter.1 (List.getElem_mem h2)).1).2⟩)
  generalize xs.filter Y.isRef = ys at *
  go_wp2
  go_loopw [11, 10] (fun vi vn wr => ∃ (i : Nat), i ≤ xs.length ∧ vi = .int .i64 i ∧ vn = .int .i64 ((xs.take i).filter Y.isRef).length ∧ KeepY w w4 wr) (fun vi _ _ => xs.length - (intOf vi).toNat)
  case atStart => exact ⟨0, by omega, rfl, rfl, HK0.out⟩
  case round =>
    obtain ⟨i, hi, rfl, rfl, hk⟩ := hrel
    have HKR := hide hk
    clear hk
    by_cases hlt : i < xs.length
    · obtain ⟨g, c2, hv, _, _, _, _, hcell⟩ := HO4.out.addr (by omega)
      injection hv with hv1 hv2 hv3
      subst hv1 hv3
      have hxi : xs[i]? = some xs[i] := List.getElem?_eq_getElem hlt
      have hc0 := (HKR.out.1 ⟨g, i * 3, none⟩).trans (hcell i 0 _ hlt (by omega) (by rw [hxi]; rfl))
      have hc1 := (HKR.out.1 ⟨g, i * 3 + 1, none⟩).trans (hcell i 1 _ hlt (by omega) (by rw [hxi]; rfl))
      have hc2 := (HKR.out.1 ⟨g, i * 3 + 2, none⟩).trans (hcell i 2 _ hlt (by omega) (by rw [hxi]; rfl))
      have hnx := HFN.out i hlt
      by_cases hrf : Y.isRef xs[i] = true
      · have hat := HFA.out i hlt hrf
        rw [if_pos hrf] at hnx
        have HNX : Hid (((xs.take (i + 1)).filter Y.isRef).length = ((xs.take i).filter Y.isRef).length + 1) := hide (by rw [hnx]; simp)
        generalize ((xs.take i).filter Y.isRef).length = n at *
        obtain ⟨hnl, hyn⟩ := List.getElem?_eq_some_iff.1 hat
        obtain ⟨gr, hRA, _, hrc⟩ := HRD.out.cell (by omega)
        subst hRA
        have hr0 := (HKR.out.1 ⟨gr, n * 2, none⟩).trans (hrc n 0 _ hnl (by omega) (by rw [hyn]; rfl))
        have hr1 := (HKR.out.1 ⟨gr, n * 2 + 1, none⟩).trans (hrc n 1 _ hnl (by omega) (by rw [hyn]; rfl))
        have hxo := (HRI.out.at i hlt).o
        have hkk : xs[i].k = 1 ∨ xs[i].k = 2 := by
          unfold Y.isRef at hrf
          simpa using hrf
        have HPW : Hid (∀ j, n = j + 1 → ∃ X0 Y0, wr.cell? ⟨gr, j * 2 + 1, none⟩ = some (.complex .f64 X0 Y0) ∧ ∀ W, Calls Try.prog 8 #[.complex .f64 X0 Y0, .complex .f64 (Fl.fl (Pl.pos (L.take xs[i].o)).1) (Fl.fl (Pl.pos (L.take xs[i].o)).2)] W fun e w' => e = .returned (.bool true) ∧ w' = W) := hide (by
          intro j hj
          subst hj
          have hjl : j < ys.length := by omega
          have h1 := (HKR.out.1 ⟨gr, j * 2 + 1, none⟩).trans (hrc j 1 _ hjl (by omega) rfl)
          obtain ⟨h2, h3⟩ := HPV.out j _ _ (List.getElem?_eq_getElem hjl) hat
          have hh := HHN.out
          have b1 := Pl.pos_bd L ys[j].o (by omega)
          have b2 := Pl.pos_bd L xs[i].o (by omega)
          refine ⟨_, _, h1, fun W => (rbefore_yes _ _ _ _ W (by unfold okN; omega) (by unfold okN; omega) (by unfold okN; omega) (by unfold okN; omega) (Pl.pos_lt L _ _ h2 (by omega))).mono fun _ _ h => ⟨h.1, h.2.symm⟩⟩)
        have hcmp := place_eq L xs[i].o xs[i].o (by omega) (by omega) (by have := HHN.out; omega)
        rw [decide_eq_true rfl] at hcmp
        unfold Op.floatEq at hcmp
        have HLT := hide hlt
        clear hat hyn hrc hnx hrf hxi hcell hxo
        generalize Fl.fl (Pl.pos (L.take xs[i].o)).1 = X at *
        generalize Fl.fl (Pl.pos (L.take xs[i].o)).2 = Y at *
        generalize K.str xs[i].t = st at *
        have q1 : decide (ys.length ≤ n) = false := decide_eq_false (by omega)
        have q4 : (st.toList == st.toList) = true := by simp
        rcases Nat.eq_zero_or_pos n with h0 | h0
        · have q2 : decide (0 < n) = false := decide_eq_false (by omega)
          clear h0
          rcases hkk with hkk | hkk
          · rw [hkk] at hc0
            go_wp2
            go_quiet (fail)
            go_wp2
            go_roundw
            case rel => exact ⟨i + 1, HLT.out, by go_num, by rw [HNX.out]; go_num, HKR.out.drewN nq⟩
            case measure => have := HLT.out; simp [intOf]; omega
          · rw [hkk] at hc0
            go_wp2
            go_quiet (fail)
            go_wp2
            go_roundw
            case rel => exact ⟨i + 1, HLT.out, by go_num, by rw [HNX.out]; go_num, HKR.out.drewN nq⟩
            case measure => have := HLT.out; simp [intOf]; omega
        · obtain ⟨j, hj⟩ : ∃ j, n = j + 1 := ⟨n - 1, by omega⟩
          obtain ⟨X0, Y0, hp1, hp2⟩ := HPW.out j hj
          have HBF := hide (fun m => hp2 (wr.drewN m))
          have hjl : j < ys.length := by omega
          have q2 : decide (0 < n) = true := decide_eq_true (by omega)
          have r3 : IntKind.i64.wrap ((n : Int) - 1) = (j : Int) := by rw [IntKind.wrap_i64]; omega
          clear h0 hj hp2
          rcases hkk with hkk | hkk
          · rw [hkk] at hc0
            go_wp2
            go_quiet ((go_at_call 8; exact Calls.quiet_of_same (HBF.out _)))
            go_wp2
            go_roundw
            case rel => exact ⟨i + 1, HLT.out, by go_num, by rw [HNX.out]; go_num, HKR.out.drewN nq⟩
            case measure => have := HLT.out; simp [intOf]; omega
          · rw [hkk] at hc0
            go_wp2
            go_quiet ((go_at_call 8; exact Calls.quiet_of_same (HBF.out _)))
            go_wp2
            go_roundw
            case rel => exact ⟨i + 1, HLT.out, by go_num, by rw [HNX.out]; go_num, HKR.out.drewN nq⟩
            case measure => have := HLT.out; simp [intOf]; omega
      · rw [if_neg hrf] at hnx
        have HNX : Hid (((xs.take (i + 1)).filter Y.isRef).length = ((xs.take i).filter Y.isRef).length) := hide (by rw [hnx]; simp)
        have hk1 : ¬ xs[i].k = 1 := fun h => hrf (by unfold Y.isRef; rw [h]; rfl)
        have hk2 : ¬ xs[i].k = 2 := fun h => hrf (by unfold Y.isRef; rw [h]; rfl)
        have k1 : (xs[i].k != 1) = true := by simpa using hk1
        have k2 : (xs[i].k != 2) = true := by simpa using hk2
        have HLT := hide hlt
        clear hnx hrf hxi hcell hk2
        generalize xs[i].k = xk at *
        go_wp2
        go_roundw
        case rel => exact ⟨i + 1, HLT.out, by go_num, by rw [HNX.out], HKR.out⟩
        case measure => have := HLT.out; simp [intOf]; omega
    · obtain rfl : i = xs.length := by omega
      have hc1 := HC1.out wr HKR.out
      have hft := HFT.out
      have hs2 := HS2.out
      have Q0 : ∀ w : World, (binOp BinOp.eql 28 (.complex .f64 0 0) (.complex .f64 0 0)).run Try.prog w = .ok (.bool true) w := fun _ => by kernel_rfl
      rw [hft]
      clear hft
      go_wp2
      go_ret
      exact ⟨rfl, HKR.out.2⟩

theorem yaccStands_walk (A : Option Addr) (c : Nat) (L : List Int) (w : World) (hr : RdB w w.heap.size A L) (hl : K.Bytes L) (hc : L.length ≤ c) (hm : ML w) :
    Calls Try.prog 3 #[.slice A L.length c] w fun e w' => e = .returned (.bool true) ∧ Below w.heap.size w w' := by
  by_cases h : L.length ≤ 2000
  · rcases hR : toks L with xs | ⟨o, d⟩
    · rcases hs : Y.source xs with ⟨s, r0⟩ | p
      · exact yacc_right A c L xs r0 s w hr hl hc hm h hR hs
      · rcases p with _ | t
        · refine yacc_wrong A c L.length w hm h 4 (by decide) (Fl.fl (Pl.pos L).1) (Fl.fl (Pl.pos L).2) fun w1 h1 => (parse_any A c L w1 (hr.up h1) hl hc (by omega) (hm.up h1)).mono fun e w' hp => ?_
          rw [hR] at hp
          unfold ParseAns at hp
          simp only at hp
          rw [hs] at hp
          exact ⟨hp.2, hp.1⟩
        · refine yacc_wrong A c L.length w hm h 3 (by decide) (Fl.fl (Pl.pos (L.take t.o)).1) (Fl.fl (Pl.pos (L.take t.o)).2) fun w1 h1 => (parse_any A c L w1 (hr.up h1) hl hc (by omega) (hm.up h1)).mono fun e w' hp => ?_
          rw [hR] at hp
          unfold ParseAns at hp
          simp only at hp
          rw [hs] at hp
          exact ⟨hp.2, hp.1⟩
    · refine yacc_wrong A c L.length w hm h d (toks_ne L o d hR) (Fl.fl (Pl.pos (L.take o)).1) (Fl.fl (Pl.pos (L.take o)).2) fun w1 h1 => (parse_any A c L w1 (hr.up h1) hl hc (by omega) (hm.up h1)).mono fun e w' hp => ?_
      rw [hR] at hp
      exact ⟨hp.2, hp.1⟩
  · exact yacc_long A c L.length w hm (by omega)
end Go.Proofs.Ytgmcpkecppfkgaa
